/- What an instruction works on, in memory; the program's small functions on it: need, take, lay, layTruth. Conditions: it lies as the facts say. -/
import Derived.Test.YtliiinffkcgcaaaVmcM
import Derived.Test.YtliiinffkcgcaaaBitA
namespace Go.Proofs.Ytliiinffkcgcaaa.VmcA
open Go.RowKit Go.Proofs.Ytliiinffkcgcaaa.Kit Go.Proofs.Ytliiinffkcgcaaa.Byt Go.Proofs.Ytliiinffkcgcaaa.Mem Go.Proofs.Ytliiinffkcgcaaa.VmcM
open Go.Proofs.Ytliiinffkcgcaaa.ImgA (Im)
open Go.Proofs.Ytliiinffkcgcaaa.BitA (i64s)

/-- The cells of a state. -/
def scells (v : V) : List Value := .int .i64 v.pc :: (i64s v.s ++ (.int .i64 v.h :: (i64s v.m ++ [.int .i64 v.tk, .int .i64 v.ft])))
theorem i64s_at {l : List Int} {k : Nat} (h : k < l.length) : (i64s l)[k]? = some (.int .i64 (l.getD k 0)) := by
  unfold i64s
  rw [List.getElem?_map, List.getD_eq_getElem?_getD, List.getElem?_eq_getElem h]
  rfl
theorem i64s_set (l : List Int) (k : Nat) (x : Int) : (i64s l).set k (.int .i64 x) = i64s (l.set k x) := by
  unfold i64s
  rw [List.map_set]
section
variable {v : V} (h : v.ok)
include h
theorem sc_len : (scells v).length = 28 := by
  simp [scells, i64s, h.ls, h.lm]
theorem sc_s {k : Nat} (hk : k < 8) : (scells v)[1 + k]? = some (.int .i64 (v.s.getD k 0)) := by
  unfold scells
  rw [show 1 + k = k + 1 by omega, List.getElem?_cons_succ, List.getElem?_append_left (by simp [i64s, h.ls]; omega)]
  exact i64s_at (by rw [h.ls]; exact hk)
theorem sc_tail (j : Nat) : (scells v)[9 + j]? = (Value.int .i64 v.h :: (i64s v.m ++ [.int .i64 v.tk, .int .i64 v.ft]))[j]? := by
  unfold scells
  rw [show 9 + j = (8 + j) + 1 by omega, List.getElem?_cons_succ, List.getElem?_append_right (by simp [i64s, h.ls])]
  congr 1
  simp [i64s, h.ls]
theorem sc_h : (scells v)[9]? = some (.int .i64 v.h) := sc_tail h 0
theorem sc_m {k : Nat} (hk : k < 16) : (scells v)[10 + k]? = some (.int .i64 (v.m.getD k 0)) := by
  have e := sc_tail h (k + 1)
  rw [show 9 + (k + 1) = 10 + k by omega] at e
  rw [e, List.getElem?_cons_succ, List.getElem?_append_left (by simp [i64s, h.lm]; omega)]
  exact i64s_at (by rw [h.lm]; exact hk)
theorem sc_two (j : Nat) : (scells v)[26 + j]? = [Value.int .i64 v.tk, .int .i64 v.ft][j]? := by
  have e := sc_tail h (17 + j)
  rw [show 9 + (17 + j) = 26 + j by omega] at e
  rw [e, show 17 + j = (16 + j) + 1 by omega, List.getElem?_cons_succ, List.getElem?_append_right (by simp [i64s, h.lm])]
  congr 1
  simp [i64s, h.lm]
theorem sc_tk : (scells v)[26]? = some (.int .i64 v.tk) := sc_two h 0
theorem sc_ft : (scells v)[27]? = some (.int .i64 v.ft) := sc_two h 1
theorem set_s {k : Nat} (hk : k < 8) (x : Int) : (scells v).set (1 + k) (.int .i64 x) = scells { v with s := v.s.set k x } := by
  unfold scells
  rw [show 1 + k = k + 1 by omega, List.set_cons_succ, List.set_append_left _ _ (by simp [i64s, h.ls]; omega), i64s_set]
theorem set_tail (j : Nat) (y : Value) : (scells v).set (9 + j) y = .int .i64 v.pc :: (i64s v.s ++ ((Value.int .i64 v.h :: (i64s v.m ++ [.int .i64 v.tk, .int .i64 v.ft])).set j y)) := by
  unfold scells
  rw [show 9 + j = (8 + j) + 1 by omega, List.set_cons_succ, List.set_append_right _ _ (by simp [i64s, h.ls])]
  congr 3
  simp [i64s, h.ls]
theorem set_h (x : Nat) : (scells v).set 9 (.int .i64 x) = scells { v with h := x } := set_tail h 0 _
theorem set_m {k : Nat} (hk : k < 16) (x : Int) : (scells v).set (10 + k) (.int .i64 x) = scells { v with m := v.m.set k x } := by
  have e := set_tail h (k + 1) (.int .i64 x)
  rw [show 9 + (k + 1) = 10 + k by omega] at e
  rw [e, List.set_cons_succ, List.set_append_left _ _ (by simp [i64s, h.lm]; omega), i64s_set]
  rfl
theorem set_two (j : Nat) (y : Value) : (scells v).set (26 + j) y = .int .i64 v.pc :: (i64s v.s ++ (Value.int .i64 v.h :: (i64s v.m ++ ([.int .i64 v.tk, .int .i64 v.ft].set j y)))) := by
  have e := set_tail h (17 + j) y
  rw [show 9 + (17 + j) = 26 + j by omega] at e
  rw [e, show 17 + j = (16 + j) + 1 by omega, List.set_cons_succ, List.set_append_right _ _ (by simp [i64s, h.lm])]
  congr 4
  simp [i64s, h.lm]
theorem set_tk (x : Int) : (scells v).set 26 (.int .i64 x) = scells { v with tk := x } := set_two h 0 _
theorem set_ft (x : Int) : (scells v).set 27 (.int .i64 x) = scells { v with ft := x } := set_two h 1 _
end
theorem sc_pc (v : V) : (scells v)[0]? = some (.int .i64 v.pc) := rfl
theorem set_pc (v : V) (x : Int) : (scells v).set 0 (.int .i64 x) = scells { v with pc := x } := rfl

/-- The cells of what an instruction works on: the ports, what is told, whether the tick ends. -/
def wt (i : Im) (P : Value) (o : Nat) (e : Bool) : List Value := i.cells ++ [P, .pointer (some ⟨o, 0, none⟩), .bool e]
def wc (v : V) (i : Im) (P : Value) (o : Nat) (e : Bool) : List Value := scells v ++ wt i P o e
section
variable {v : V} {i : Im} {P : Value} {o b : Nat} {e : Bool} {w : World}
theorem wc_at (h : v.ok) {k : Nat} {x : Value} (hx : (scells v)[k]? = some x) : (wc v i P o e)[k]? = some x := by
  unfold wc
  rw [List.getElem?_append_left (List.getElem?_eq_some_iff.1 hx).1]
  exact hx
theorem wc_tail (h : v.ok) (k : Nat) : (wc v i P o e)[28 + k]? = (wt i P o e)[k]? := by
  unfold wc
  rw [List.getElem?_append_right (by rw [sc_len h]; omega), sc_len h]
  congr 1
  omega
theorem wc_set (h : v.ok) {k : Nat} {x : Value} {u : V} (hk : k < 28) (hx : (scells v).set k x = scells u) : (wc v i P o e).set k x = wc u i P o e := by
  unfold wc
  rw [List.set_append_left _ _ (by rw [sc_len h]; exact hk), hx]
theorem wc_ends (h : v.ok) (e' : Bool) : (wc v i P o e).set 38 (.bool e') = wc v i P o e' := by
  unfold wc
  rw [List.set_append_right _ _ (by rw [sc_len h]; omega), sc_len h]
  rfl
/-- It lies in block b. -/
def Wb (w : World) (b : Nat) (v : V) (i : Im) (P : Value) (o : Nat) (e : Bool) : Prop := Blk w b 129 (wc v i P o e)
theorem Wb.at_ (hB : Wb w b v i P o e) (h : v.ok) {k : Nat} {x : Value} (hx : (scells v)[k]? = some x) : w.cell? ⟨b, k, none⟩ = some x := Blk.cell hB (wc_at h hx)
theorem Wb.tail (hB : Wb w b v i P o e) (h : v.ok) {k : Nat} {x : Value} (hx : (wt i P o e)[k]? = some x) : w.cell? ⟨b, 28 + k, none⟩ = some x := Blk.cell hB ((wc_tail h k).trans hx)
theorem Wb.frozen (hB : Wb w b v i P o e) (k : Nat) : w.frozen? ⟨b, k, none⟩ = false := Blk.frozen hB k
theorem Wb.put (hB : Wb w b v i P o e) (h : v.ok) {k : Nat} {x : Value} {u : V} (hk : k < 28) (hx : (scells v).set k x = scells u) : Wb (w.setCell ⟨b, k, none⟩ x) b u i P o e := by
  have hs := Blk.set hB k x
  rw [wc_set h hk hx] at hs
  exact hs
theorem Wb.only (hB : Wb w b v i P o e) {w' : World} {g : Nat} (ho : Only g w w') (hg : b ≠ g) : Wb w' b v i P o e := ho.blk hB hg
theorem Wb.drewN (hB : Wb w b v i P o e) (n : Nat) : Wb (w.drewN n) b v i P o e := hB
theorem only_drewN {g : Nat} {w' : World} (h : Only g w w') (n : Nat) : Only g w (w'.drewN n) := ⟨⟨h.1.os, h.1.tape, h.1.output, h.1.size, h.1.block⟩, h.2⟩
/-- What a function leaves that works on it alone. -/
def Did (b : Nat) (i : Im) (P : Value) (o : Nat) (w : World) (r : Value) (u : V) (f : Bool) (en : Ending) (w' : World) : Prop := en = .returned r ∧ Wb w' b u i P o f ∧ Only b w w'
theorem need_any (h : v.ok) (hB : Wb w b v i P o e) (hs : Bool) (x : Int) : Calls Try.prog 78 #[.pointer (some ⟨b, 0, none⟩), .bool hs, .int .i64 x] w (Did b i P o w (.bool hs) (need hs x v) e) := by
  have c27 := hB.at_ h (sc_ft h)
  have z27 := hB.frozen 27
  have HB := Lib.hid hB
  have HP := Lib.hid (fun (y : Int) => hB.put h (by omega) (set_ft h y))
  clear hB
  cases hs
  · by_cases hf : v.ft = 0
    · have e2 := Lib.hid (need_no (e := x) hf)
      rw [hf] at c27
      go_enter Try.func78, Try.ntmps78
      go_wp2
      go_ret
      refine ⟨rfl, ?_, Only.set w b 27 _⟩
      rw [e2.out]
      exact HP.out x
    · have e2 := Lib.hid (need_ft (b := false) (e := x) hf)
      go_enter Try.func78, Try.ntmps78
      go_wp2
      go_ret
      exact ⟨rfl, by rw [e2.out]; exact HB.out, Only.refl _ _⟩
  · go_enter Try.func78, Try.ntmps78
    go_wp2
    go_ret
    exact ⟨rfl, by rw [need_true]; exact HB.out, Only.refl _ _⟩
theorem need_yes (b : Nat) (x : Int) (w : World) : Calls Try.prog 78 #[.pointer (some ⟨b, 0, none⟩), .bool true, .int .i64 x] w fun e w' => e = .returned (.bool true) ∧ w' = w := by
  go_enter Try.func78, Try.ntmps78
  go_wp2
  go_ret
  exact ⟨rfl, rfl⟩
end
end Go.Proofs.Ytliiinffkcgcaaa.VmcA
