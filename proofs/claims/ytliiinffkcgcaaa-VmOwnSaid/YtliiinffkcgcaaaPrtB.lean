/- What a channel's content does, of either kind. Conditions: it lies as the facts say. -/
import Derived.Test.YtliiinffkcgcaaaPrtA
import Derived.Laws.OwnMore
import Derived.Deep.DeepAppendRoom
namespace Go.Proofs.Ytliiinffkcgcaaa.PrtB
open Go.RowKit Go.Proofs.Ytliiinffkcgcaaa.Kit Go.Proofs.Ytliiinffkcgcaaa.Byt Go.Proofs.Ytliiinffkcgcaaa.Mem Go.Proofs.Ytliiinffkcgcaaa.TabI Go.Proofs.Ytliiinffkcgcaaa.PrtM Go.Proofs.Ytliiinffkcgcaaa.PrtA

theorem bel_drewN {B : Nat} {a w : World} (h : Below B a w) (n : Nat) : Below B a (w.drewN n) := ⟨h.os, h.tape, h.output, h.size, h.block⟩
section
variable {B q n c : Nat} {w : World} {x d : Int} {b : Bool} {A : Option Addr} {l : List Int}
set_option maxRecDepth 100000 in
theorem samp_send (hB : Blk w q 122 [.int .i64 x, .bool b]) (y : Int) :
    Calls Try.prog 108 #[.pointer (some ⟨q, 0, none⟩), .int .i64 y] w fun e w' => e = .returned (.bool true) ∧ Blk w' q 122 [.int .i64 y, .bool true] ∧ Only q w w' := by
  have c0 := hB.cell (i := 0) rfl
  have c1 := hB.cell (i := 1) rfl
  have f0 := hB.frozen 0
  have f1 := hB.frozen 1
  have HB := Lib.hid hB
  clear hB
  go_enter Try.func108, Try.ntmps108
  go_wp2
  go_ret
  exact ⟨rfl, (HB.out.set 0 _).set 1 _, (Only.set _ _ _ _).trans (Only.set _ _ _ _)⟩
set_option maxRecDepth 100000 in
theorem samp_get (hB : Blk w q 122 [.int .i64 x, .bool b]) :
    Calls Try.prog 106 #[.pointer (some ⟨q, 0, none⟩)] w fun e w' => e = .returned (.tuple #[.int .i64 x, .bool b]) ∧ Below w.heap.size w w' := by
  have c0 := hB.cell (i := 0) rfl
  have c1 := hB.cell (i := 1) rfl
  clear hB
  go_enter Try.func106, Try.ntmps106
  go_wp2_with fail
  go_quiet (fail)
  go_wp2
  go_ret2
  exact ⟨rfl, bel_drewN (Below.refl _ _) _⟩
/-- What is handed back is new memory with these numbers. -/
def News (w : World) (l : List Int) (e : Ending) (w' : World) : Prop := ∃ A n c, e = .returned (.slice A n c) ∧ Rd w' A n c (i64s l) ∧ (∀ b o, A = some ⟨b, o, none⟩ → w.heap.size ≤ b) ∧ Below w.heap.size w w'
set_option maxRecDepth 100000 in
theorem samp_has (hB : Blk w q 122 [.int .i64 x, .bool b]) :
    Calls Try.prog 107 #[.pointer (some ⟨q, 0, none⟩)] w (News w (if b = true then [x] else [])) := by
  have c0 := hB.cell (i := 0) rfl
  have c1 := hB.cell (i := 1) rfl
  clear hB
  cases b with
  | false =>
    go_enter Try.func107, Try.ntmps107
    go_wp2
    go_ret
    exact ⟨none, 0, 0, rfl, Rd.nil _, fun b o h => (by cases h), Below.refl _ _⟩
  | true =>
    go_enter Try.func107, Try.ntmps107
    go_wp2
    go_ret
    exact ⟨_, 1, 1, rfl, Rd.own (base := 0) (own_of_block (cur := [.int .i64 x]) (heap_alloc_new w _) (Nat.zero_le _) (Nat.le_refl _) (by simp)), fun b o h => (by injection h with h; injection h with h _; omega), (Below.refl _ _).alloc (Nat.le_refl _) _⟩
theorem own_empty {w : World} {B : Nat} {e : TypeId} {A : Option Addr} {n c : Nat} {xs : List Value} (h : w.ownsRow B e 1 (.slice A n c) n xs) : w.ownsRow B e 1 (.slice A 0 c) 0 [] := by
  rcases h.2 with ⟨hv, h0⟩ | ⟨g, cap, cur, hv, hb, hg, hnc, hcm, hcs, ht⟩
  · simp only [Value.slice.injEq] at hv
    obtain ⟨rfl, rfl, rfl⟩ := hv
    exact World.ownsRow_nil _ _ _ _
  · simp only [Value.slice.injEq] at hv
    obtain ⟨rfl, _, rfl⟩ := hv
    exact ⟨by simp, .inr ⟨g, c, cur, rfl, hb, hg, Nat.zero_le _, hcm, hcs, by simp⟩⟩
theorem own_other {w : World} {B q i : Nat} {e : TypeId} {v : Value} {n : Nat} {xs : List Value} {u : Value} (h : w.ownsRow B e 1 v n xs) (hq : ∀ g, v.ownBlock = some g → g ≠ q) : (w.setCell ⟨q, i, none⟩ u).ownsRow B e 1 v n xs :=
  (Keep.set (F := fun k => k = q) w i u rfl).own h fun g hg hf => hq g hg hf
end
end Go.Proofs.Ytliiinffkcgcaaa.PrtB
