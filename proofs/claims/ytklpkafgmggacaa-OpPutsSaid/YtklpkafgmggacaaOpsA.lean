/- The reference's instructions: Arg, Right, Bytes, At. Conditions: the bytes lie as the facts say. -/
import Derived.Test.YtklpkafgmggacaaOpsM
namespace Go.Proofs.Ytklpkafgmggacaa.OpsA
open Go.RowKit Go.Proofs.Ytklpkafgmggacaa.Kit Go.Proofs.Ytklpkafgmggacaa.Byt Go.Proofs.Ytklpkafgmggacaa.Mem Go.Proofs.Ytklpkafgmggacaa.OpsM

set_option maxRecDepth 100000 in
theorem rarg_any (o : Int) (w : World) : Calls Try.prog 15 #[.int .i64 o] w fun e w' => e = .returned (.bool (hasA o)) ∧ w = w' := by
  by_cases h1 : o = 1
  · subst h1
    go_enter Try.func15, Try.ntmps15
    go_wp2
    go_ret
    exact ⟨rfl, rfl⟩
  · have h1' : (o == 1) = false := by simpa using h1
    by_cases h2 : 10 ≤ o
    · go_enter Try.func15, Try.ntmps15
      go_wp2
      go_ret
      exact ⟨ret_bool (by rw [Bool.eq_iff_iff]; simp [hasA]; omega), rfl⟩
    · go_enter Try.func15, Try.ntmps15
      go_wp2
      go_ret
      exact ⟨ret_bool (by rw [Bool.eq_iff_iff]; simp [hasA]; omega), rfl⟩
/-- Nothing but more. -/
def Yes (w : World) (b : Bool) (e : Ending) (w' : World) : Prop := e = .returned (.bool b) ∧ Below w.heap.size w w'
set_option maxRecDepth 100000 in
theorem rright_any (o a : Int) (w : World) : Calls Try.prog 9 #[.agg #[.int .i64 o, .int .i64 a]] w (Yes w (ok o a)) := by
  have HB := Lib.hid ((Below.refl w.heap.size w).alloc (Nat.le_refl _) (.cells #[.int .i64 o, .int .i64 a] 29))
  by_cases h : o < 0 ∨ 18 < o ∨ a < 0 ∨ 255 < a
  · have HE := Lib.hid (show false = ok o a from by rw [Bool.eq_iff_iff, ok_iff]; simp; omega)
    by_cases h1 : o < 0
    · go_enter Try.func9, Try.ntmps9
      go_wp2
      go_ret
      exact ⟨ret_bool HE.out, HB.out⟩
    · by_cases h2 : 18 < o
      · go_enter Try.func9, Try.ntmps9
        go_wp2
        go_ret
        exact ⟨ret_bool HE.out, HB.out⟩
      · by_cases h3 : a < 0
        · go_enter Try.func9, Try.ntmps9
          go_wp2
          go_ret
          exact ⟨ret_bool HE.out, HB.out⟩
        · have h4 : 255 < a := by omega
          go_enter Try.func9, Try.ntmps9
          go_wp2
          go_ret
          exact ⟨ret_bool HE.out, HB.out⟩
  · have h1 : ¬ o < 0 := by omega
    have h2 : ¬ 18 < o := by omega
    have h3 : ¬ a < 0 := by omega
    have h4 : ¬ 255 < a := by omega
    clear h
    cases hh : hasA o
    · have HE := Lib.hid (show (a == 0) = ok o a from by rw [Bool.eq_iff_iff, ok_iff, hh]; simp; omega)
      have HH := Lib.hid (fun w' => hh ▸ rarg_any o w')
      clear hh
      go_enter Try.func9, Try.ntmps9
      go_wp2_with (go_at_call 15; refine (HH.out _).mono ?_; rintro e w' ⟨rfl, rfl⟩)
      go_ret
      exact ⟨ret_bool HE.out, HB.out⟩
    · have HE := Lib.hid (show true = ok o a from by rw [Bool.eq_iff_iff, ok_iff, hh]; simp; omega)
      have HH := Lib.hid (fun w' => hh ▸ rarg_any o w')
      clear hh
      go_enter Try.func9, Try.ntmps9
      go_wp2_with (go_at_call 15; refine (HH.out _).mono ?_; rintro e w' ⟨rfl, rfl⟩)
      go_ret
      exact ⟨ret_bool HE.out, HB.out⟩
/-- Bytes that are handed back, and all that was there is as it was. -/
def HandsB (w : World) (xs : List Nat) (e : Ending) (w' : World) : Prop := ∃ A n c, e = .returned (.slice A n c) ∧ Rd w' A n c (u8n xs) ∧ Below w.heap.size w w'
theorem info_u8 : (Try.prog.info? 5).map (fun i => (i.zero, i.size, i.bytes)) = some (some (.int .u8 0), 1, 1) := by kernel_rfl
theorem own_one (w : World) (base : Nat) (x : Int) (h : base ≤ w.heap.size) : (w.alloc (.cells #[.int .u8 x] 5)).ownsRow base 5 1 (.slice (some ⟨w.heap.size, 0, none⟩) 1 1) 1 [.int .u8 x] := by
  have h := own_of_block (w := w.alloc (.cells #[.int .u8 x] 5)) (g := w.heap.size) (cur := [.int .u8 x]) (e := 5) (base := base) (n := 1) (heap_alloc_new w _) h (by simp) (by simp)
  exact h
set_option maxRecDepth 100000 in
set_option maxHeartbeats 1600000 in
theorem rbytes_any (o a : Int) (h : ok o a = true) (w : World) : Calls Try.prog 10 #[.agg #[.int .i64 o, .int .i64 a]] w (HandsB w (bts (o, a))) := by
  obtain ⟨i0, hi0, hz0, hz1, hz2⟩ := info_parts info_u8
  obtain ⟨h1, h2, h3, h4, h5⟩ := ok_iff.1 h
  clear h
  have w1 : IntKind.u8.wrap o = o := by rw [IntKind.wrap_u8]; omega
  have w2 : IntKind.u8.wrap a = a := by rw [IntKind.wrap_u8]; omega
  have HC := Lib.hid ((Below.refl w.heap.size w).alloc (Nat.le_refl _) (.cells #[.int .i64 o, .int .i64 a] 29))
  have HD := Lib.hid (HC.out.alloc HC.out.size (.cells #[.int .u8 o] 5))
  have HO := Lib.hid (own_one (w.alloc (.cells #[.int .i64 o, .int .i64 a] 29)) w.heap.size o HC.out.size)
  have HO2 := Lib.hid (own_one ((w.alloc (.cells #[.int .i64 o, .int .i64 a] 29)).alloc (.cells #[.int .u8 o] 5)) w.heap.size a HD.out.size)
  have e1 : (w.alloc (.cells #[.int .i64 o, .int .i64 a] 29)).heap.size = w.heap.size + 1 := by simp
  have e2 : ((w.alloc (.cells #[.int .i64 o, .int .i64 a] 29)).alloc (.cells #[.int .u8 o] 5)).heap.size = w.heap.size + 1 + 1 := by simp
  rw [e1] at HO
  rw [e2] at HO2
  clear e1 e2
  cases hh : hasA o
  · have HE := Lib.hid (show [Value.int .u8 o] = u8n (bts (o, a)) from by unfold bts; rw [hh]; show _ = [Value.int .u8 ((o.toNat : Nat) : Int)]; rw [Int.toNat_of_nonneg h1])
    have HH := Lib.hid (fun w' => hh ▸ rarg_any o w')
    clear hh h1 h2 h3 h4 h5
    go_enter Try.func10, Try.ntmps10
    go_wp2_with (go_at_call 15; refine (HH.out _).mono ?_; rintro e w' ⟨rfl, rfl⟩)
    go_ret
    exact ⟨_, _, _, rfl, HE.out ▸ Rd.own HO.out, HD.out⟩
  · have HE := Lib.hid (show [Value.int .u8 o] ++ [Value.int .u8 a] = u8n (bts (o, a)) from by unfold bts; rw [hh]; show _ = [Value.int .u8 ((o.toNat : Nat) : Int), Value.int .u8 ((a.toNat : Nat) : Int)]; rw [Int.toNat_of_nonneg h1, Int.toNat_of_nonneg h3]; rfl)
    have HH := Lib.hid (fun w' => hh ▸ rarg_any o w')
    clear hh h1 h2 h3 h4 h5
    go_enter Try.func10, Try.ntmps10
    go_wp2_with (first
      | (go_at_call 15; refine (HH.out _).mono ?_; rintro e w' ⟨rfl, rfl⟩)
      | (at_builtin; refine wpList_add _ rfl (.tmp 11) (.tmp 15) _ rfl w.heap.size 5 i0 _ 1 Try.underlying24 hi0 hz0 hz1 hz2 rfl _ 1 _ rfl (own_below HO.out ((Below.refl _ _).alloc (Nat.le_refl _) _)) (some ⟨w.heap.size + 1 + 1, 0, none⟩) 1 1 [.int .u8 a] rfl (Rd.own HO2.out) (by simp [Value.oneCell']) (by omega) (by omega) (by simp; omega) ?_; intro A5 n5 c5 w5 hn5 hown5 hg5 hat5; have hb5 := below_add (HD.out.alloc HD.out.size _) (own_below HO.out ((Below.refl _ _).alloc (Nat.le_refl _) _)) (Nat.le_refl _) hg5; clear hat5 hg5))
    go_ret
    exact ⟨_, _, _, rfl, HE.out ▸ Rd.own hown5, hb5⟩

/-- The instruction that begins there; how the reference tells of it. -/
def atI (c : List Nat) (pc : Int) : Option (Int × Int × Nat) := if pc < 0 then none else at1 (c.drop pc.toNat)
def got (pc : Int) : Option (Int × Int × Nat) → Value
  | none => .agg #[.int .i64 0, .int .i64 0, .int .i64 0, .bool false]
  | some (o, a, n) => .agg #[.int .i64 o, .int .i64 a, .int .i64 (pc + n), .bool true]
set_option maxRecDepth 100000 in
set_option maxHeartbeats 1600000 in
theorem rat_any (A : Option Addr) (n c : Nat) (xs : List Nat) (pc : Int) (w : World) (hr : Rd w A n c (u8n xs)) (hx : ∀ b ∈ xs, b < 256) (hp : n64 pc) :
    Calls Try.prog 14 #[.slice A n c, .int .i64 pc] w fun e w' => e = .returned (got pc (atI xs pc)) ∧ Below w.heap.size w w' := by
  obtain rfl := Rd.nats hr
  have hle : xs.length ≤ 9223372036854775807 := by have := hr.le; have := hr.cap; omega
  obtain ⟨hp1, hp2⟩ := hp
  have HB := Lib.hid ((Below.refl w.heap.size w).alloc (Nat.le_refl _) (.cells #[.int .i64 0, .int .i64 0, .int .i64 0, .bool false] 39))
  have HF := Lib.hid (fun (G I : Array Value) => ((Below.refl w.heap.size w).alloc (Nat.le_refl _) (.cells G 39)).alloc (by simp) (.cells I 29))
  have HF0 := Lib.hid (fun (x : Int) => HF.out #[.int .i64 0, .int .i64 0, .int .i64 0, .bool false] #[.int .i64 x, .int .i64 0])
  by_cases h1 : pc < 0
  · have HE := Lib.hid (show atI xs pc = none from if_pos h1)
    go_enter Try.func14, Try.ntmps14
    go_wp2
    refine bodyPost_ret (v := got pc none) (by simp [results, Try.results14, go_sem, got]) rfl ?_
    exact ⟨by rw [HE.out], HB.out⟩
  · obtain ⟨k, rfl⟩ : ∃ k : Nat, pc = k := ⟨pc.toNat, by omega⟩
    by_cases h2 : (k : Int) < xs.length
    · have hk : k < xs.length := by omega
      obtain ⟨b, hb⟩ : ∃ b, b = xs[k] := ⟨_, rfl⟩
      have hb256 := hx _ (List.getElem_mem hk)
      obtain ⟨bx, ox, rfl, gx⟩ := Rd.nat hr hk
      rw [← hb] at gx hb256
      have gx2 : (w.alloc (.cells #[.int .i64 0, .int .i64 0, .int .i64 0, .bool false] 39)).cell? ⟨bx, ox + k, none⟩ = some (.int .u8 (b : Nat)) := (HB.out.cell (p := ⟨bx, ox + k, none⟩) (block_lt_of_cell gx)).trans gx
      have hnk : decide (xs.length ≤ k) = false := by simp; omega
      have hdr : xs.drop k = b :: xs.drop (k + 1) := by rw [hb]; exact List.drop_eq_getElem_cons hk
      by_cases h3 : (18 : Int) < b
      · have HE := Lib.hid (show atI xs k = none from by rw [atI, if_neg h1, Int.toNat_natCast, hdr]; exact if_pos (by omega))
        clear hdr hb
        go_enter Try.func14, Try.ntmps14
        go_wp2
        refine bodyPost_ret (v := got k none) (by simp [results, Try.results14, go_sem, got]) rfl ?_
        exact ⟨by rw [HE.out], HB.out⟩
      · have hb18 : b ≤ 18 := by omega
        cases hh : hasA b
        · have HE := Lib.hid (show atI xs k = some ((b : Int), 0, 1) from by rw [atI, if_neg h1, Int.toNat_natCast, hdr]; exact (if_neg (by omega)).trans (if_neg (by rw [hh]; simp)))
          have HH := Lib.hid (fun w' => hh ▸ rarg_any b w')
          clear hh hdr hb
          go_enter Try.func14, Try.ntmps14
          go_wp2_with (go_at_call 15; refine (HH.out _).mono ?_; rintro e w' ⟨rfl, rfl⟩)
          refine bodyPost_ret (v := got k (some (b, 0, 1))) (by simp [results, Try.results14, go_sem, got]) rfl ?_
          exact ⟨by rw [HE.out], HF.out _ _⟩
        · by_cases h5 : ((k : Int) + 1) < xs.length
          · have hk5 : k + 1 < xs.length := by omega
            obtain ⟨d, hd⟩ : ∃ d, d = xs[k + 1] := ⟨_, rfl⟩
            have hd256 := hx _ (List.getElem_mem hk5)
            obtain ⟨bx', ox', hA, gy⟩ := Rd.nat hr hk5
            rw [← hd] at gy hd256
            simp only [Option.some.injEq, Addr.mk.injEq, and_true] at hA
            obtain ⟨rfl, rfl⟩ := hA
            have gy2 := ((HF0.out (b : Int)).cell (p := ⟨bx, ox + (k + 1), none⟩) (block_lt_of_cell gy)).trans gy
            have gy3 : ((w.alloc (.cells #[.int .i64 0, .int .i64 0, .int .i64 0, .bool false] 39)).alloc (.cells #[.int .i64 (b : Int), .int .i64 0] 29)).cell? ⟨bx, ox + k + 1, none⟩ = some (.int .u8 (d : Nat)) := gy2
            have hn5 : ¬ xs.length ≤ k + 1 := by omega
            have hdr5 : xs.drop (k + 1) = d :: xs.drop (k + 1 + 1) := by rw [hd]; exact List.drop_eq_getElem_cons hk5
            have HE := Lib.hid (show atI xs k = some ((b : Int), (d : Int), 2) from by rw [atI, if_neg h1, Int.toNat_natCast, hdr, hdr5]; exact (if_neg (by omega)).trans (if_pos hh))
            have HH := Lib.hid (fun w' => hh ▸ rarg_any b w')
            clear hh hdr hdr5 hb hd
            go_enter Try.func14, Try.ntmps14
            go_wp2_with (go_at_call 15; refine (HH.out _).mono ?_; rintro e w' ⟨rfl, rfl⟩)
            refine bodyPost_ret (v := got k (some (b, d, 2))) (by simp [results, Try.results14, go_sem, got]) rfl ?_
            exact ⟨by rw [HE.out], HF.out _ _⟩
          · have HE := Lib.hid (show atI xs k = none from by rw [atI, if_neg h1, Int.toNat_natCast, hdr, List.drop_eq_nil_of_le (show xs.length ≤ k + 1 from by omega)]; exact (if_neg (by omega)).trans (if_pos hh))
            have HH := Lib.hid (fun w' => hh ▸ rarg_any b w')
            clear hh hdr hb
            go_enter Try.func14, Try.ntmps14
            go_wp2_with (go_at_call 15; refine (HH.out _).mono ?_; rintro e w' ⟨rfl, rfl⟩)
            refine bodyPost_ret (v := got k none) (by simp [results, Try.results14, go_sem, got]) rfl ?_
            exact ⟨by rw [HE.out], HF.out _ _⟩
    · have HE := Lib.hid (show atI xs k = none from by rw [atI, if_neg h1, List.drop_eq_nil_of_le (by omega)]; rfl)
      go_enter Try.func14, Try.ntmps14
      go_wp2
      refine bodyPost_ret (v := got k none) (by simp [results, Try.results14, go_sem, got]) rfl ?_
      exact ⟨by rw [HE.out], HB.out⟩
/-! ### what the code's calls hand back -/
def allOk (R : List (Int × Int)) : Bool := R.all fun p => ok p.1 p.2
def Puts (w : World) (R : List (Int × Int)) (e : Ending) (w' : World) : Prop := ∃ B m d, e = .returned (.tuple #[.slice B m d, .int .i64 (if allOk R then 0 else 19)]) ∧ Rd w' B m d (u8n (if allOk R then R.flatMap bts else [])) ∧ Below w.heap.size w w'
def Finds (w : World) (pc : Int) (x : Option (Int × Int × Nat)) (e : Ending) (w' : World) : Prop :=
  e = .returned (.tuple #[.agg #[.int .i64 ((x.map (·.1)).getD 0), .int .i64 ((x.map (·.2.1)).getD 0)], .int .i64 ((x.map fun y => pc + y.2.2).getD 0), .int .i64 (if x.isSome then 0 else 19)]) ∧ Below w.heap.size w w'
def Alls (w : World) (x : Option (List (Int × Int))) (e : Ending) (w' : World) : Prop := ∃ B m d, e = .returned (.tuple #[.slice B m d, .int .i64 (if x.isSome then 0 else 19)]) ∧ Prs w' B m d (x.getD []) ∧ Below w.heap.size w w'
end Go.Proofs.Ytklpkafgmggacaa.OpsA
