/- A request (a table, a partition, an image, a version) in a box of its own, and its checks but that of the channels. Conditions: the table and the image lie as the facts say; numbers of 64 bits. -/
import Derived.Test.YtnoopihhfioanaaCpaM
namespace Go.Proofs.Ytnoopihhfioanaa.CpaN0
open Go.RowKit Go.Proofs.Ytnoopihhfioanaa.Kit Go.Proofs.Ytnoopihhfioanaa.Byt Go.Proofs.Ytnoopihhfioanaa.Mem Go.Proofs.Ytnoopihhfioanaa.CpaM
open Go.Proofs.Ytnoopihhfioanaa.TabA (Tri Ta Tris)
open Go.Proofs.Ytnoopihhfioanaa.TabB (Yes)
open Go.Proofs.Ytnoopihhfioanaa.ImgA (Im)
@[reducible] def qval (t : Ta) (p : Int) (i : Im) (v : Int) : Value := .agg #[.int .i64 t.fr, .slice t.A1 t.n1 t.c1, .slice t.A2 t.n2 t.c2, .slice t.A3 t.n3 t.c3, .int .i64 t.tr, .int .i64 p, .int .i64 i.p, .int .i64 i.v, .int .i64 i.h, .int .i64 i.m, .int .i64 i.f, .int .i64 i.s, .int .i64 i.r, .slice i.A i.n i.c, .int .i64 v]
def qcells (t : Ta) (p : Int) (i : Im) (v : Int) : List Value := [.int .i64 t.fr, .slice t.A1 t.n1 t.c1, .slice t.A2 t.n2 t.c2, .slice t.A3 t.n3 t.c3, .int .i64 t.tr, .int .i64 p, .int .i64 i.p, .int .i64 i.v, .int .i64 i.h, .int .i64 i.m, .int .i64 i.f, .int .i64 i.s, .int .i64 i.r, .slice i.A i.n i.c, .int .i64 v]
/-- A request in its box, new since w. -/
structure Rq (w : World) (g : Nat) (t : Ta) (p : Int) (i : Im) (v : Int) (wr : World) : Prop where
  qb : Blk wr g 50 (qcells t p i v)
  lo : w.heap.size ≤ g
  bel : Below w.heap.size w wr
theorem Rq.new (w : World) (t : Ta) (p : Int) (i : Im) (v : Int) : Rq w w.heap.size t p i v (w.alloc (.cells (qcells t p i v).toArray 50)) := ⟨Blk.new w _ _, Nat.le_refl _, (Below.refl _ _).alloc (Nat.le_refl _) _⟩
section
variable {w wr w' : World} {g : Nat} {t : Ta} {p v : Int} {i : Im}
theorem Rq.below (h : Rq w g t p i v wr) (hb : Below wr.heap.size wr w') : Rq w g t p i v w' := ⟨h.qb.below hb, h.lo, h.bel.trans (hb.mono h.bel.size)⟩
theorem Rq.drewN (h : Rq w g t p i v wr) (n : Nat) : Rq w g t p i v (wr.drewN n) := h.below ⟨rfl, rfl, rfl, Nat.le_refl _, fun _ _ => rfl⟩
theorem Rq.alloc (h : Rq w g t p i v wr) (o : Obj) : Rq w g t p i v (wr.alloc o) := h.below ((Below.refl _ _).alloc (Nat.le_refl _) o)
theorem Rq.cell (h : Rq w g t p i v wr) : (wr.cell? ⟨g, 0, none⟩ = some (.int .i64 t.fr) ∧ wr.cell? ⟨g, 1, none⟩ = some (.slice t.A1 t.n1 t.c1) ∧ wr.cell? ⟨g, 2, none⟩ = some (.slice t.A2 t.n2 t.c2) ∧ wr.cell? ⟨g, 3, none⟩ = some (.slice t.A3 t.n3 t.c3) ∧ wr.cell? ⟨g, 4, none⟩ = some (.int .i64 t.tr)) ∧ wr.cell? ⟨g, 5, none⟩ = some (.int .i64 p) ∧
    (wr.cell? ⟨g, 6, none⟩ = some (.int .i64 i.p) ∧ wr.cell? ⟨g, 7, none⟩ = some (.int .i64 i.v) ∧ wr.cell? ⟨g, 8, none⟩ = some (.int .i64 i.h) ∧ wr.cell? ⟨g, 9, none⟩ = some (.int .i64 i.m) ∧ wr.cell? ⟨g, 10, none⟩ = some (.int .i64 i.f) ∧ wr.cell? ⟨g, 11, none⟩ = some (.int .i64 i.s) ∧ wr.cell? ⟨g, 12, none⟩ = some (.int .i64 i.r) ∧ wr.cell? ⟨g, 13, none⟩ = some (.slice i.A i.n i.c)) ∧ wr.cell? ⟨g, 14, none⟩ = some (.int .i64 v) :=
  ⟨⟨h.qb.cell rfl, h.qb.cell rfl, h.qb.cell rfl, h.qb.cell rfl, h.qb.cell rfl⟩, h.qb.cell rfl, ⟨h.qb.cell rfl, h.qb.cell rfl, h.qb.cell rfl, h.qb.cell rfl, h.qb.cell rfl, h.qb.cell rfl, h.qb.cell rfl, h.qb.cell rfl⟩, h.qb.cell rfl⟩
end
theorem ret_y {a b : Bool} (h : a = b) : Ending.returned (.bool a) = .returned (.bool b) := by rw [h]
set_option maxRecDepth 100000 in
theorem q_table (t : Ta) (p : Int) (i : Im) (v : Int) (w : World) (ht : t.ok w) (br : Bool) (hbr : br = true ↔ Go.Proofs.Ytnoopihhfioanaa.TabD.right t) :
    Calls Try.prog 23 #[qval t p i v] w (Yes w br) := by
  have HN := Lib.hid (Rq.new w t p i v)
  have HR := Lib.hid (fun w' (hb : Below w.heap.size w w') => Go.Proofs.Ytnoopihhfioanaa.TabD.right_any t w' (ht.below hb) br hbr)
  obtain ⟨fr, A1, n1, c1, P, A2, n2, c2, W, A3, n3, c3, C, tr⟩ := t
  obtain ⟨ip, iv, ih, im, if_, is_, ir, iA, in_, ic, ixs⟩ := i
  clear ht hbr
  show Calls _ _ #[.agg #[.int .i64 fr, .slice A1 n1 c1, .slice A2 n2 c2, .slice A3 n3 c3, .int .i64 tr, .int .i64 p, .int .i64 ip, .int .i64 iv, .int .i64 ih, .int .i64 im, .int .i64 if_, .int .i64 is_, .int .i64 ir, .slice iA in_ ic, .int .i64 v]] w _
  go_enter Try.func23, Try.ntmps23
  go_wp2_with fail
  refine (HR.out _ HN.out.bel).mono ?_
  rintro e w2 ⟨rfl, hb2⟩
  have HN2 := Lib.hid (HN.out.below hb2)
  clear hb2
  go_wp2_with fail
  go_ret
  exact ⟨rfl, HN2.out.bel⟩
set_option maxRecDepth 100000 in
theorem q_image (t : Ta) (p : Int) (i : Im) (v : Int) (w : World) (hi : i.ok w) (bi : Bool) (hbi : bi = true ↔ Go.Proofs.Ytnoopihhfioanaa.ImgB.right i) :
    Calls Try.prog 25 #[qval t p i v] w (Yes w bi) := by
  have HN := Lib.hid (Rq.new w t p i v)
  have HR := Lib.hid (fun w' => Go.Proofs.Ytnoopihhfioanaa.ImgB.right_any i w' (by have := hi.code.le; have := hi.code.cap; omega) bi hbi)
  obtain ⟨fr, A1, n1, c1, P, A2, n2, c2, W, A3, n3, c3, C, tr⟩ := t
  obtain ⟨ip, iv, ih, im, if_, is_, ir, iA, in_, ic, ixs⟩ := i
  clear hi hbi
  show Calls _ _ #[.agg #[.int .i64 fr, .slice A1 n1 c1, .slice A2 n2 c2, .slice A3 n3 c3, .int .i64 tr, .int .i64 p, .int .i64 ip, .int .i64 iv, .int .i64 ih, .int .i64 im, .int .i64 if_, .int .i64 is_, .int .i64 ir, .slice iA in_ ic, .int .i64 v]] w _
  go_enter Try.func25, Try.ntmps25
  go_wp2_with fail
  refine (HR.out _).mono ?_
  rintro e w2 ⟨rfl, hb2⟩
  have HN2 := Lib.hid (HN.out.below hb2)
  clear hb2
  go_wp2_with fail
  go_ret
  exact ⟨rfl, HN2.out.bel⟩
set_option maxRecDepth 100000 in
theorem q_known (t : Ta) (p : Int) (i : Im) (v : Int) (w : World) (b : Bool) (hb : b = true ↔ 0 ≤ p ∧ p < (t.n1 : Int)) (hn : t.n1 ≤ 9223372036854775807) :
    Calls Try.prog 24 #[qval t p i v] w (Yes w b) := by
  have HN := Lib.hid (Rq.new w t p i v)
  have HB := Lib.hid hb
  obtain ⟨fr, A1, n1, c1, P, A2, n2, c2, W, A3, n3, c3, C, tr⟩ := t
  obtain ⟨ip, iv, ih, im, if_, is_, ir, iA, in_, ic, ixs⟩ := i
  dsimp only at hn
  clear hb
  by_cases h0 : 0 ≤ p
  · skip
    go_enter Try.func24, Try.ntmps24
    go_wp2_with fail
    go_ret
    exact ⟨ret_y (by rw [Bool.eq_iff_iff, HB.out]; simp [h0]), HN.out.bel⟩
  · skip
    go_enter Try.func24, Try.ntmps24
    go_wp2_with fail
    go_ret
    exact ⟨ret_y (by rw [Bool.eq_iff_iff, HB.out]; simp; omega), HN.out.bel⟩
set_option maxRecDepth 100000 in
theorem q_newer (t : Ta) (p : Int) (i : Im) (v : Int) (w : World) (b : Bool) (hb : b = true ↔ v < i.v) :
    Calls Try.prog 29 #[qval t p i v] w (Yes w b) := by
  have HN := Lib.hid (Rq.new w t p i v)
  have HB := Lib.hid hb
  obtain ⟨fr, A1, n1, c1, P, A2, n2, c2, W, A3, n3, c3, C, tr⟩ := t
  obtain ⟨ip, iv, ih, im, if_, is_, ir, iA, in_, ic, ixs⟩ := i
  clear hb
  show Calls _ _ #[.agg #[.int .i64 fr, .slice A1 n1 c1, .slice A2 n2 c2, .slice A3 n3 c3, .int .i64 tr, .int .i64 p, .int .i64 ip, .int .i64 iv, .int .i64 ih, .int .i64 im, .int .i64 if_, .int .i64 is_, .int .i64 ir, .slice iA in_ ic, .int .i64 v]] w _
  go_enter Try.func29, Try.ntmps29
  go_wp2_with fail
  go_ret
  exact ⟨ret_y (by rw [Bool.eq_iff_iff, HB.out]; simp), HN.out.bel⟩
end Go.Proofs.Ytnoopihhfioanaa.CpaN0
