/- The reference's instructions: Arg, Right, Bytes, At. Conditions: the bytes lie as the facts say. -/
import Derived.Test.YtliiinffkcgcaaaOpsM
namespace Go.Proofs.Ytliiinffkcgcaaa.OpsA
open Go.RowKit Go.Proofs.Ytliiinffkcgcaaa.Kit Go.Proofs.Ytliiinffkcgcaaa.Byt Go.Proofs.Ytliiinffkcgcaaa.Mem Go.Proofs.Ytliiinffkcgcaaa.OpsM

set_option maxRecDepth 100000 in
theorem rarg_any (o : Int) (w : World) : Calls Try.prog 48 #[.int .i64 o] w fun e w' => e = .returned (.bool (hasA o)) ∧ w = w' := by
  by_cases h1 : o = 1
  · subst h1
    go_enter Try.func48, Try.ntmps48
    go_wp2
    go_ret
    exact ⟨rfl, rfl⟩
  · have h1' : (o == 1) = false := by simpa using h1
    by_cases h2 : 10 ≤ o
    · go_enter Try.func48, Try.ntmps48
      go_wp2
      go_ret
      exact ⟨ret_bool (by rw [Bool.eq_iff_iff]; simp [hasA]; omega), rfl⟩
    · go_enter Try.func48, Try.ntmps48
      go_wp2
      go_ret
      exact ⟨ret_bool (by rw [Bool.eq_iff_iff]; simp [hasA]; omega), rfl⟩
/-- Nothing but more. -/
def Yes (w : World) (b : Bool) (e : Ending) (w' : World) : Prop := e = .returned (.bool b) ∧ Below w.heap.size w w'
/-- Bytes that are handed back, and all that was there is as it was. -/
def HandsB (w : World) (xs : List Nat) (e : Ending) (w' : World) : Prop := ∃ A n c, e = .returned (.slice A n c) ∧ Rd w' A n c (u8n xs) ∧ Below w.heap.size w w'
theorem info_u8 : (Try.prog.info? 5).map (fun i => (i.zero, i.size, i.bytes)) = some (some (.int .u8 0), 1, 1) := by kernel_rfl
theorem own_one (w : World) (base : Nat) (x : Int) (h : base ≤ w.heap.size) : (w.alloc (.cells #[.int .u8 x] 5)).ownsRow base 5 1 (.slice (some ⟨w.heap.size, 0, none⟩) 1 1) 1 [.int .u8 x] := by
  have h := own_of_block (w := w.alloc (.cells #[.int .u8 x] 5)) (g := w.heap.size) (cur := [.int .u8 x]) (e := 5) (base := base) (n := 1) (heap_alloc_new w _) h (by simp) (by simp)
  exact h

/-- The instruction that begins there; how the reference tells of it. -/
def atI (c : List Nat) (pc : Int) : Option (Int × Int × Nat) := if pc < 0 then none else at1 (c.drop pc.toNat)
def got (pc : Int) : Option (Int × Int × Nat) → Value
  | none => .agg #[.int .i64 0, .int .i64 0, .int .i64 0, .bool false]
  | some (o, a, n) => .agg #[.int .i64 o, .int .i64 a, .int .i64 (pc + n), .bool true]
set_option maxRecDepth 100000 in
set_option maxHeartbeats 1600000 in
theorem rat_any (A : Option Addr) (n c : Nat) (xs : List Nat) (pc : Int) (w : World) (hr : Rd w A n c (u8n xs)) (hx : ∀ b ∈ xs, b < 256) (hp : n64 pc) :
    Calls Try.prog 33 #[.slice A n c, .int .i64 pc] w fun e w' => e = .returned (got pc (atI xs pc)) ∧ Below w.heap.size w w' := by
  obtain rfl := Rd.nats hr
  have hle : xs.length ≤ 9223372036854775807 := by have := hr.le; have := hr.cap; omega
  obtain ⟨hp1, hp2⟩ := hp
  have HB := Lib.hid ((Below.refl w.heap.size w).alloc (Nat.le_refl _) (.cells #[.int .i64 0, .int .i64 0, .int .i64 0, .bool false] 109))
  have HF := Lib.hid (fun (G I : Array Value) => ((Below.refl w.heap.size w).alloc (Nat.le_refl _) (.cells G 109)).alloc (by simp) (.cells I 107))
  have HF0 := Lib.hid (fun (x : Int) => HF.out #[.int .i64 0, .int .i64 0, .int .i64 0, .bool false] #[.int .i64 x, .int .i64 0])
  by_cases h1 : pc < 0
  · have HE := Lib.hid (show atI xs pc = none from if_pos h1)
    go_enter Try.func33, Try.ntmps33
    go_wp2
    refine bodyPost_ret (v := got pc none) (by simp [results, Try.results33, go_sem, got]) rfl ?_
    exact ⟨by rw [HE.out], HB.out⟩
  · obtain ⟨k, rfl⟩ : ∃ k : Nat, pc = k := ⟨pc.toNat, by omega⟩
    by_cases h2 : (k : Int) < xs.length
    · have hk : k < xs.length := by omega
      obtain ⟨b, hb⟩ : ∃ b, b = xs[k] := ⟨_, rfl⟩
      have hb256 := hx _ (List.getElem_mem hk)
      obtain ⟨bx, ox, rfl, gx⟩ := Rd.nat hr hk
      rw [← hb] at gx hb256
      have gx2 : (w.alloc (.cells #[.int .i64 0, .int .i64 0, .int .i64 0, .bool false] 109)).cell? ⟨bx, ox + k, none⟩ = some (.int .u8 (b : Nat)) := (HB.out.cell (p := ⟨bx, ox + k, none⟩) (block_lt_of_cell gx)).trans gx
      have hnk : decide (xs.length ≤ k) = false := by simp; omega
      have hdr : xs.drop k = b :: xs.drop (k + 1) := by rw [hb]; exact List.drop_eq_getElem_cons hk
      by_cases h3 : (18 : Int) < b
      · have HE := Lib.hid (show atI xs k = none from by rw [atI, if_neg h1, Int.toNat_natCast, hdr]; exact if_pos (by omega))
        clear hdr hb
        go_enter Try.func33, Try.ntmps33
        go_wp2
        refine bodyPost_ret (v := got k none) (by simp [results, Try.results33, go_sem, got]) rfl ?_
        exact ⟨by rw [HE.out], HB.out⟩
      · have hb18 : b ≤ 18 := by omega
        cases hh : hasA b
        · have HE := Lib.hid (show atI xs k = some ((b : Int), 0, 1) from by rw [atI, if_neg h1, Int.toNat_natCast, hdr]; exact (if_neg (by omega)).trans (if_neg (by rw [hh]; simp)))
          have HH := Lib.hid (fun w' => hh ▸ rarg_any b w')
          clear hh hdr hb
          go_enter Try.func33, Try.ntmps33
          go_wp2_with (go_at_call 48; refine (HH.out _).mono ?_; rintro e w' ⟨rfl, rfl⟩)
          refine bodyPost_ret (v := got k (some (b, 0, 1))) (by simp [results, Try.results33, go_sem, got]) rfl ?_
          exact ⟨by rw [HE.out], HF.out _ _⟩
        · by_cases h5 : ((k : Int) + 1) < xs.length
          · have hk5 : k + 1 < xs.length := by omega
            obtain ⟨d, hd⟩ : ∃ d, d = xs[k + 1] := ⟨_, rfl⟩
            have hd256 := hx _ (List.getElem_mem hk5)
            obtain ⟨bx', ox', hA, gy⟩ := Rd.nat hr hk5
            rw [← hd] at gy hd256
            simp only [Option.some.injEq, Addr.mk.injEq, and_true] at hA
            obtain ⟨rfl, rfl⟩ := hA
            have gy2 := ((HF0.out (b : Int)).cell (p := ⟨bx, ox + (k + 1), none⟩) (block_lt_of_cell gy)).trans gy
            have gy3 : ((w.alloc (.cells #[.int .i64 0, .int .i64 0, .int .i64 0, .bool false] 109)).alloc (.cells #[.int .i64 (b : Int), .int .i64 0] 107)).cell? ⟨bx, ox + k + 1, none⟩ = some (.int .u8 (d : Nat)) := gy2
            have hn5 : ¬ xs.length ≤ k + 1 := by omega
            have hdr5 : xs.drop (k + 1) = d :: xs.drop (k + 1 + 1) := by rw [hd]; exact List.drop_eq_getElem_cons hk5
            have HE := Lib.hid (show atI xs k = some ((b : Int), (d : Int), 2) from by rw [atI, if_neg h1, Int.toNat_natCast, hdr, hdr5]; exact (if_neg (by omega)).trans (if_pos hh))
            have HH := Lib.hid (fun w' => hh ▸ rarg_any b w')
            clear hh hdr hdr5 hb hd
            go_enter Try.func33, Try.ntmps33
            go_wp2_with (go_at_call 48; refine (HH.out _).mono ?_; rintro e w' ⟨rfl, rfl⟩)
            refine bodyPost_ret (v := got k (some (b, d, 2))) (by simp [results, Try.results33, go_sem, got]) rfl ?_
            exact ⟨by rw [HE.out], HF.out _ _⟩
          · have HE := Lib.hid (show atI xs k = none from by rw [atI, if_neg h1, Int.toNat_natCast, hdr, List.drop_eq_nil_of_le (show xs.length ≤ k + 1 from by omega)]; exact (if_neg (by omega)).trans (if_pos hh))
            have HH := Lib.hid (fun w' => hh ▸ rarg_any b w')
            clear hh hdr hb
            go_enter Try.func33, Try.ntmps33
            go_wp2_with (go_at_call 48; refine (HH.out _).mono ?_; rintro e w' ⟨rfl, rfl⟩)
            refine bodyPost_ret (v := got k none) (by simp [results, Try.results33, go_sem, got]) rfl ?_
            exact ⟨by rw [HE.out], HF.out _ _⟩
    · have HE := Lib.hid (show atI xs k = none from by rw [atI, if_neg h1, List.drop_eq_nil_of_le (by omega)]; rfl)
      go_enter Try.func33, Try.ntmps33
      go_wp2
      refine bodyPost_ret (v := got k none) (by simp [results, Try.results33, go_sem, got]) rfl ?_
      exact ⟨by rw [HE.out], HB.out⟩
/-! ### what the code's calls hand back -/
def allOk (R : List (Int × Int)) : Bool := R.all fun p => ok p.1 p.2
def Puts (w : World) (R : List (Int × Int)) (e : Ending) (w' : World) : Prop := ∃ B m d, e = .returned (.tuple #[.slice B m d, .int .i64 (if allOk R then 0 else 19)]) ∧ Rd w' B m d (u8n (if allOk R then R.flatMap bts else [])) ∧ Below w.heap.size w w'
def Finds (w : World) (pc : Int) (x : Option (Int × Int × Nat)) (e : Ending) (w' : World) : Prop :=
  e = .returned (.tuple #[.agg #[.int .i64 ((x.map (·.1)).getD 0), .int .i64 ((x.map (·.2.1)).getD 0)], .int .i64 ((x.map fun y => pc + y.2.2).getD 0), .int .i64 (if x.isSome then 0 else 19)]) ∧ Below w.heap.size w w'
def Alls (w : World) (x : Option (List (Int × Int))) (e : Ending) (w' : World) : Prop := ∃ B m d, e = .returned (.tuple #[.slice B m d, .int .i64 (if x.isSome then 0 else 19)]) ∧ Prs w' B m d (x.getD []) ∧ Below w.heap.size w w'
end Go.Proofs.Ytliiinffkcgcaaa.OpsA
