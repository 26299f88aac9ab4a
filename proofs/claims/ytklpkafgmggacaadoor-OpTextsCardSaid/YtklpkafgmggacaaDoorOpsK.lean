/- The laws' example of the instruction set; an instruction, and a slice of them, that came in. No conditions but those each law names. -/
import Derived.Test.YtklpkafgmggacaaDoorOpsN
import Derived.Test.YtklpkafgmggacaaDoorSame
import Derived.Deep.Slices
import Derived.Deep.Fields
import Derived.WideShapes
namespace Go.Proofs.YtklpkafgmggacaaDoor.OpsK
open Go.RowKit Go.Proofs.YtklpkafgmggacaaDoor.Kit Go.Proofs.YtklpkafgmggacaaDoor.Byt Go.Proofs.YtklpkafgmggacaaDoor.Mem Go.Proofs.YtklpkafgmggacaaDoor.Same Go.Proofs.YtklpkafgmggacaaDoor.OpsM Go.Proofs.YtklpkafgmggacaaDoor.OpsA Go.Proofs.YtklpkafgmggacaaDoor.OpsN

theorem u8n_s (xs : List Nat) : u8n xs = u8s (xs.map fun n : Nat => (n : Int)) := by simp [u8n, u8s]
theorem cast_inj {xs ys : List Nat} : (xs.map fun n : Nat => (n : Int)) = (ys.map fun n : Nat => (n : Int)) ↔ xs = ys := by
  constructor
  · intro h
    induction xs generalizing ys with
    | nil => cases ys <;> simp_all
    | cons x xs ih =>
      cases ys with
      | nil => simp at h
      | cons y ys =>
        simp only [List.map_cons, List.cons.injEq] at h
        rw [ih h.2, show x = y from by omega]
  · intro h; rw [h]
theorem samen_any (A B : Option Addr) (n m c d : Nat) (xs ys : List Nat) (b : Bool) (hb : b = decide (xs = ys)) (w : World) (hx : Rd w A n c (u8n xs)) (hy : Rd w B m d (u8n ys)) :
    Calls Tryd.prog 11 #[.slice A n c, .slice B m d] w (Yes w b) := by
  rw [u8n_s] at hx hy
  refine (same_any A B n m c d _ _ w hx hy).mono ?_
  rintro e w' ⟨rfl, k, rfl⟩
  exact ⟨ret_bool (by rw [hb, decide_eq_decide]; exact cast_inj), (Below.refl w.heap.size w).trans ⟨rfl, rfl, rfl, Nat.le_refl _, fun _ _ => rfl⟩⟩
set_option maxRecDepth 100000 in
set_option maxHeartbeats 1600000 in
theorem wakes_any (w : World) : Calls Tryd.prog 4 #[] w (Yes w true) := by
  have HP := Lib.hid (fun (w' : World) (h : Blk w' w.heap.size 23 [.int .i64 1, .int .i64 5, .int .i64 14, .int .i64 1]) => put_any _ _ _ [(1, 5), (14, 1)] w' (Prs.block h rfl (by simp [n64]) (by simp)) (by simp))
  have HB := Lib.hid ((Below.refl w.heap.size w).alloc (Nat.le_refl _) (.cells #[.int .i64 1, .int .i64 5, .int .i64 14, .int .i64 1] 23))
  have HK := Lib.hid (Blk.new w 23 [.int .i64 1, .int .i64 5, .int .i64 14, .int .i64 1])
  go_enter Tryd.func4, Tryd.ntmps4
  go_wp2_with fail
  refine (HP.out _ HK.out).mono ?_
  rintro e w1 ⟨B, m, d, rfl, hr, hb⟩
  have HR := Lib.hid (show Rd w1 B m d (u8n [1, 5, 14, 1]) from hr)
  have HL := Lib.hid (HB.out.trans (hb.mono HB.out.size))
  rw [show allOk [(1, 5), (14, 1)] = true from by decide, if_pos rfl]
  clear hr hb
  have HY := Lib.hid (samen_any B (some ⟨w1.heap.size, 0, none⟩) m 4 d 4 [1, 5, 14, 1] [1, 5, 14, 1] true rfl (w1.alloc (.cells (u8n [1, 5, 14, 1]).toArray 5)) (HR.out.alloc _) (Rd.own (own_of_block (w := w1.alloc (.cells (u8n [1, 5, 14, 1]).toArray 5)) (g := w1.heap.size) (cur := u8n [1, 5, 14, 1]) (e := 5) (base := 0) (n := 4) (heap_alloc_new _ _) (Nat.zero_le _) (by simp [u8n]) (by simp [u8n]))))
  go_wp2_with fail
  refine HY.out.mono ?_
  rintro e w2 ⟨rfl, hb2⟩
  have HL2 := Lib.hid ((HL.out.alloc HL.out.size _).trans (hb2.mono (HL.out.alloc HL.out.size _).size))
  clear hb2
  go_wp2
  go_ret
  exact ⟨rfl, HL2.out⟩
set_option maxRecDepth 100000 in
/-- An instruction that came in. -/
theorem open_ins {H : Type} {enc : TypeId × Value → H} {w : World} {base : Nat} {v : Value} {d : DataW H} {p : List MemPlace} (h : DataW.Trod enc Tryd.prog w 0 (fun _ => true) true 23 v d p) (o : Value.okWide Tryd.prog w .any base 23 v) :
    ∃ a b, v = .agg #[.int .i64 a, .int .i64 b] ∧ n64 a ∧ n64 b := by
  obtain ⟨cs, rfl, hs⟩ := Go.WideShapes.okWide_struct Tryd.underlying23 o
  obtain ⟨fuel, hf⟩ := h
  have hC : Tryd.prog.cellsOf 23 = 2 := by kernel_rfl
  rw [hC] at hs
  obtain ⟨cs, rfl⟩ : ∃ l : List Value, cs = l.toArray := ⟨cs.toList, by simp⟩
  have hcs : (Value.agg cs.toArray).cells.toList = cs := by simp [Value.cells]
  rw [hcs] at hf
  obtain ⟨ys, n', _, _, _, hyl, hfl⟩ := DataW.trod_struct Tryd.underlying23 hf
  match cs, hs with
  | [c0, c1], _ =>
    have ci : Tryd.prog.cellsOf 3 = 1 := by kernel_rfl
    match ys, hyl with
    | [y0, y1], _ =>
      have e0 : DataW.trod enc Tryd.prog w 0 (fun _ => true) true n' 3 (([c0, c1].drop 0).take (Tryd.prog.cellsOf 3)) = some y0 := hfl 0 _ rfl
      have e1 : DataW.trod enc Tryd.prog w 0 (fun _ => true) true n' 3 (([c0, c1].drop 1).take (Tryd.prog.cellsOf 3)) = some y1 := hfl 1 _ rfl
      rw [ci] at e0 e1
      obtain ⟨v0, q0, _, w0⟩ := DataW.trod_int (x := y0) Tryd.underlying3 e0
      obtain ⟨v1, q1, _, w1⟩ := DataW.trod_int (x := y1) Tryd.underlying3 e1
      obtain rfl : c0 = _ := by simpa using q0
      obtain rfl : c1 = _ := by simpa using q1
      exact ⟨v0, v1, rfl, bounds_i64 w0, bounds_i64 w1⟩
end Go.Proofs.YtklpkafgmggacaaDoor.OpsK
