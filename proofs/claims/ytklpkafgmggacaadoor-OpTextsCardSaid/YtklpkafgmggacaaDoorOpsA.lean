/- The reference's instructions: Arg, Right, Bytes, At. Conditions: the bytes lie as the facts say. -/
import Derived.Test.YtklpkafgmggacaaDoorOpsM
namespace Go.Proofs.YtklpkafgmggacaaDoor.OpsA
open Go.RowKit Go.Proofs.YtklpkafgmggacaaDoor.Kit Go.Proofs.YtklpkafgmggacaaDoor.Byt Go.Proofs.YtklpkafgmggacaaDoor.Mem Go.Proofs.YtklpkafgmggacaaDoor.OpsM

set_option maxRecDepth 100000 in
theorem rarg_any (o : Int) (w : World) : Calls Tryd.prog 15 #[.int .i64 o] w fun e w' => e = .returned (.bool (hasA o)) ∧ w = w' := by
  by_cases h1 : o = 1
  · subst h1
    go_enter Tryd.func15, Tryd.ntmps15
    go_wp2
    go_ret
    exact ⟨rfl, rfl⟩
  · have h1' : (o == 1) = false := by simpa using h1
    by_cases h2 : 10 ≤ o
    · go_enter Tryd.func15, Tryd.ntmps15
      go_wp2
      go_ret
      exact ⟨ret_bool (by rw [Bool.eq_iff_iff]; simp [hasA]; omega), rfl⟩
    · go_enter Tryd.func15, Tryd.ntmps15
      go_wp2
      go_ret
      exact ⟨ret_bool (by rw [Bool.eq_iff_iff]; simp [hasA]; omega), rfl⟩
/-- Nothing but more. -/
def Yes (w : World) (b : Bool) (e : Ending) (w' : World) : Prop := e = .returned (.bool b) ∧ Below w.heap.size w w'
set_option maxRecDepth 100000 in
theorem rright_any (o a : Int) (w : World) : Calls Tryd.prog 6 #[.agg #[.int .i64 o, .int .i64 a]] w (Yes w (ok o a)) := by
  have HB := Lib.hid ((Below.refl w.heap.size w).alloc (Nat.le_refl _) (.cells #[.int .i64 o, .int .i64 a] 23))
  by_cases h : o < 0 ∨ 18 < o ∨ a < 0 ∨ 255 < a
  · have HE := Lib.hid (show false = ok o a from by rw [Bool.eq_iff_iff, ok_iff]; simp; omega)
    by_cases h1 : o < 0
    · go_enter Tryd.func6, Tryd.ntmps6
      go_wp2
      go_ret
      exact ⟨ret_bool HE.out, HB.out⟩
    · by_cases h2 : 18 < o
      · go_enter Tryd.func6, Tryd.ntmps6
        go_wp2
        go_ret
        exact ⟨ret_bool HE.out, HB.out⟩
      · by_cases h3 : a < 0
        · go_enter Tryd.func6, Tryd.ntmps6
          go_wp2
          go_ret
          exact ⟨ret_bool HE.out, HB.out⟩
        · have h4 : 255 < a := by omega
          go_enter Tryd.func6, Tryd.ntmps6
          go_wp2
          go_ret
          exact ⟨ret_bool HE.out, HB.out⟩
  · have h1 : ¬ o < 0 := by omega
    have h2 : ¬ 18 < o := by omega
    have h3 : ¬ a < 0 := by omega
    have h4 : ¬ 255 < a := by omega
    clear h
    cases hh : hasA o
    · have HE := Lib.hid (show (a == 0) = ok o a from by rw [Bool.eq_iff_iff, ok_iff, hh]; simp; omega)
      have HH := Lib.hid (fun w' => hh ▸ rarg_any o w')
      clear hh
      go_enter Tryd.func6, Tryd.ntmps6
      go_wp2_with (go_at_call 15; refine (HH.out _).mono ?_; rintro e w' ⟨rfl, rfl⟩)
      go_ret
      exact ⟨ret_bool HE.out, HB.out⟩
    · have HE := Lib.hid (show true = ok o a from by rw [Bool.eq_iff_iff, ok_iff, hh]; simp; omega)
      have HH := Lib.hid (fun w' => hh ▸ rarg_any o w')
      clear hh
      go_enter Tryd.func6, Tryd.ntmps6
      go_wp2_with (go_at_call 15; refine (HH.out _).mono ?_; rintro e w' ⟨rfl, rfl⟩)
      go_ret
      exact ⟨ret_bool HE.out, HB.out⟩
/-- Bytes that are handed back, and all that was there is as it was. -/
def HandsB (w : World) (xs : List Nat) (e : Ending) (w' : World) : Prop := ∃ A n c, e = .returned (.slice A n c) ∧ Rd w' A n c (u8n xs) ∧ Below w.heap.size w w'
theorem info_u8 : (Tryd.prog.info? 5).map (fun i => (i.zero, i.size, i.bytes)) = some (some (.int .u8 0), 1, 1) := by kernel_rfl
theorem own_one (w : World) (base : Nat) (x : Int) (h : base ≤ w.heap.size) : (w.alloc (.cells #[.int .u8 x] 5)).ownsRow base 5 1 (.slice (some ⟨w.heap.size, 0, none⟩) 1 1) 1 [.int .u8 x] := by
  have h := own_of_block (w := w.alloc (.cells #[.int .u8 x] 5)) (g := w.heap.size) (cur := [.int .u8 x]) (e := 5) (base := base) (n := 1) (heap_alloc_new w _) h (by simp) (by simp)
  exact h

/-- The instruction that begins there; how the reference tells of it. -/
def atI (c : List Nat) (pc : Int) : Option (Int × Int × Nat) := if pc < 0 then none else at1 (c.drop pc.toNat)
def got (pc : Int) : Option (Int × Int × Nat) → Value
  | none => .agg #[.int .i64 0, .int .i64 0, .int .i64 0, .bool false]
  | some (o, a, n) => .agg #[.int .i64 o, .int .i64 a, .int .i64 (pc + n), .bool true]
/-! ### what the code's calls hand back -/
def allOk (R : List (Int × Int)) : Bool := R.all fun p => ok p.1 p.2
def Puts (w : World) (R : List (Int × Int)) (e : Ending) (w' : World) : Prop := ∃ B m d, e = .returned (.tuple #[.slice B m d, .int .i64 (if allOk R then 0 else 19)]) ∧ Rd w' B m d (u8n (if allOk R then R.flatMap bts else [])) ∧ Below w.heap.size w w'
def Finds (w : World) (pc : Int) (x : Option (Int × Int × Nat)) (e : Ending) (w' : World) : Prop :=
  e = .returned (.tuple #[.agg #[.int .i64 ((x.map (·.1)).getD 0), .int .i64 ((x.map (·.2.1)).getD 0)], .int .i64 ((x.map fun y => pc + y.2.2).getD 0), .int .i64 (if x.isSome then 0 else 19)]) ∧ Below w.heap.size w w'
def Alls (w : World) (x : Option (List (Int × Int))) (e : Ending) (w' : World) : Prop := ∃ B m d, e = .returned (.tuple #[.slice B m d, .int .i64 (if x.isSome then 0 else 19)]) ∧ Prs w' B m d (x.getD []) ∧ Below w.heap.size w w'
end Go.Proofs.YtklpkafgmggacaaDoor.OpsA
