/- What is missing of a set, and the first one of it, as the program tells it. Conditions: numbers are 64-bit ones. -/
import Derived.Test.YtfibhjkjaagheaaBitP
namespace Go.Proofs.Ytfibhjkjaagheaa.BitS
open Go.RowKit Go.Shelf Go.Proofs.Ytfibhjkjaagheaa.Kit Go.Proofs.Ytfibhjkjaagheaa.Mem Go.Proofs.Ytfibhjkjaagheaa.BitM Go.Proofs.Ytfibhjkjaagheaa.BitA Go.Proofs.Ytfibhjkjaagheaa.BitB Go.Proofs.Ytfibhjkjaagheaa.BitC Go.Proofs.Ytfibhjkjaagheaa.BitR Go.Proofs.Ytfibhjkjaagheaa.BitO Go.Proofs.Ytfibhjkjaagheaa.BitP

attribute [local go_sem] Oper.semAt_some

theorem xor_not (s : Int) (h : n64 s) : bits .xor .i64 (-1) s = -1 - s := by
  have e : BitVec.ofInt 64 (-1) ^^^ BitVec.ofInt 64 s = ~~~ (BitVec.ofInt 64 s) := by
    rw [show BitVec.ofInt 64 (-1) = BitVec.allOnes 64 by decide, BitVec.allOnes_xor]
  show IntKind.i64.wrap ((BitVec.ofInt 64 (-1) ^^^ BitVec.ofInt 64 s).toNat : Nat) = -1 - s
  rw [e, BitVec.toNat_not, BitVec.toNat_ofInt, IntKind.wrap_i64]
  have := h.1
  have := h.2
  omega
def fst (l : List Int) : Int := l.headD 0
/-- Blocks laid one behind the other. -/
theorem laid3 (w : World) (t1 t2 t3 : TypeId) (x1 x2 x3 : List Value) {W : World} (hW : ((w.alloc (.cells x1.toArray t1)).alloc (.cells x2.toArray t2)).alloc (.cells x3.toArray t3) = W) :
    Blk W w.heap.size t1 x1 ∧ Blk W (w.heap.size + 1) t2 x2 ∧ Blk W (w.heap.size + 1 + 1) t3 x3 ∧ Below w.heap.size w W ∧ W.heap.size = w.heap.size + 3 := by
  subst hW
  refine ⟨((Blk.new w _ _).alloc _).alloc _, ?_, ?_, (((Below.refl _ w).alloc (Nat.le_refl _) _).alloc (by simp) _).alloc (by simp; omega) _, by simp⟩
  · have h := (Blk.new (w.alloc (.cells x1.toArray t1)) t2 x2).alloc (.cells x3.toArray t3)
    rwa [World.size_alloc] at h
  · have h := Blk.new ((w.alloc (.cells x1.toArray t1)).alloc (.cells x2.toArray t2)) t3 x3
    rwa [World.size_alloc, World.size_alloc] at h
theorem laid4 (w : World) (t1 t2 t3 t4 : TypeId) (x1 x2 x3 x4 : List Value) {W : World} (hW : (((w.alloc (.cells x1.toArray t1)).alloc (.cells x2.toArray t2)).alloc (.cells x3.toArray t3)).alloc (.cells x4.toArray t4) = W) :
    Blk W w.heap.size t1 x1 ∧ Blk W (w.heap.size + 1) t2 x2 ∧ Blk W (w.heap.size + 1 + 1) t3 x3 ∧ Blk W (w.heap.size + 1 + 1 + 1) t4 x4 ∧ Below w.heap.size w W ∧ W.heap.size = w.heap.size + 4 := by
  subst hW
  obtain ⟨h1, h2, h3, h4, h5⟩ := laid3 w t1 t2 t3 x1 x2 x3 rfl
  refine ⟨h1.alloc _, h2.alloc _, h3.alloc _, ?_, h4.alloc h4.size _, by simp⟩
  have h := Blk.new (((w.alloc (.cells x1.toArray t1)).alloc (.cells x2.toArray t2)).alloc (.cells x3.toArray t3)) t4 x4
  rwa [h5] at h
/-- What a slice owns it owns behind the turn of a block that is no cells. -/
theorem own_kept {A B : World} {row : Option Nat} {g size k : Nat} {e : TypeId} {v : Value} {xs : List Value} {B₀ : Nat} (h : A.ownsRow g e size v k xs) (hg : A.grownBy B row) (hr : ∀ r, row = some r → B₀ ≤ r ∧ ∃ o : Obj, A.heap[r]? = some o ∧ o.isCells = false) : B.ownsRow g e size v k xs := by
  refine h.kept hg ?_
  rcases h.2 with ⟨rfl, _⟩ | ⟨g', cap, cur, rfl, _, hgb, _⟩
  · exact .inl rfl
  · refine .inr fun e' => ?_
    obtain ⟨_, o, ho, hc⟩ := hr g' (by simpa [Value.ownBlock] using e'.symm)
    rw [hgb] at ho; cases ho; cases hc
theorem own_shape {W : World} {base : Nat} {e : TypeId} {size : Nat} {v : Value} {k : Nat} {xs : List Value} (h : W.ownsRow base e size v k xs) : ∃ A c, v = .slice A k c := by
  rcases h.2 with ⟨rfl, h0⟩ | ⟨g, cap, _, rfl, _⟩
  · exact ⟨none, 0, by rw [h0]⟩
  · exact ⟨_, _, rfl⟩
/-- A variable's box, and what it holds, behind an append and the store of it. -/
theorem appended {W w1 : World} {g b b1 b2 : Nat} {t e : TypeId} {size k m : Nat} {v v' : Value} {xs ys : List Value} {tmp : Obj}
    (hv : Blk W b t [v]) (hrow : W.ownsRow g e size v k xs) (hb : b < g) (h1 : b1 < g) (h2 : b2 < g) (hgW : g ≤ W.heap.size) (hbn1 : b1 ≠ b) (hbn2 : b2 ≠ b)
    (hown' : w1.ownsRow g e size v' m ys) (hgrow : (W.alloc tmp).grownBy w1 v.ownBlock) :
    Blk w1 b t [v] ∧ Blk (w1.setCell ⟨b, 0, none⟩ v') b t [v'] ∧ (w1.setCell ⟨b, 0, none⟩ v').ownsRow g e size v' m ys ∧ KeepsOthers W (w1.setCell ⟨b, 0, none⟩ v') ∧ Kp b1 b2 W (w1.setCell ⟨b, 0, none⟩ v') ∧ ∀ {w0 : World}, Below w0.heap.size w0 W → w0.heap.size ≤ b → Below w0.heap.size w0 (w1.setCell ⟨b, 0, none⟩ v') := by
  have hne : ∀ j, j < g → some j ≠ v.ownBlock := fun j hj he => by have := (hrow.lt j he.symm).1; omega
  have hk : ∀ j, j < g → w1.heap[j]? = W.heap[j]? := fun j hj => (hgrow.block j (by simp; omega) (hne j hj)).trans (Below.heap_alloc _ _ _ (by omega))
  have hv1 : Blk w1 b t [v] := (hk b hb).trans hv
  refine ⟨hv1, hv1.set 0 v', ownsRow_setCell_below hown' hb v', ?_, ⟨?_, ?_⟩, fun {w0} hw h0 => ?_⟩
  · refine ((KeepsOthers.alloc W tmp).trans (KeepsOthers.of_grownBy hgrow fun j o ej hj => ?_)).trans (KeepsOthers.setCell _ _ _)
    rcases (hrow.alloc tmp).2 with ⟨rfl, _⟩ | ⟨g', cap, cur, rfl, _, hgb, _⟩
    · simp [Value.ownBlock] at ej
    · obtain rfl : g' = j := by simpa [Value.ownBlock] using ej
      rw [hgb] at hj; cases hj; rfl
  · exact (Below.heap_setCell _ _ _ _ hbn1).trans (hk b1 h1)
  · exact (Below.heap_setCell _ _ _ _ hbn2).trans (hk b2 h2)
  · refine ((hw.alloc hw.size tmp).grown hgrow (by have := hw.size; simp; omega) fun j ej => ?_).setCell (p := ⟨b, 0, none⟩) h0 v'
    have := (hrow.lt j ej).1
    omega

set_option maxRecDepth 100000 in
set_option maxHeartbeats 2000000 in
theorem missing_any (s n : Int) (w : World) (hs : n64 s) : Calls Try.prog 11 #[.int .i64 s, .int .i64 n] w (Hands w (miss s (lim n))) := by
  obtain ⟨i0, hi0, hz0, hz1, hz2⟩ := info_parts info_int
  have HXN := xor_not s hs
  have HML := Lib.hid (hv_not s (lim_le n))
  have f19 : Fence.wide.fn 19 := trivial
  refine callsIn_wide (n := 5) |>.1 ?_
  refine callsIn_of_wp_marks Try.func11 rfl trivial ?_ rfl
  simp only [Try.ntmps11, List.size_toArray, List.length_cons, List.length_nil, Nat.reduceAdd, Nat.reduceSub, Array.replicate_succ, Array.replicate_zero, List.push_toArray, List.append_toArray, List.nil_append, List.cons_append]
  gi_wp2_with (gi_at_call 19; refine (blocks_in 4 _ _ _).mono ?_; rintro e w' ⟨rfl, rfl⟩)
  obtain ⟨W0, hW0⟩ : ∃ W0, ((w.alloc (.cells #[.slice none 0 0] 25)).alloc (.cells #[.int .i64 (-1 - s)] 3)).alloc (.cells #[.int .i64 n] 3) = W0 := ⟨_, rfl⟩
  obtain ⟨bC, bS, bN, hB0, hsz⟩ := laid3 w _ _ _ [.slice none 0 0] [.int .i64 (-1 - s)] [.int .i64 n] hW0
  rw [hW0]
  clear hW0
  refine wpIn_rangeFunc_ownH rfl (by decide) (gf := 21) (lb := #[.pointer (some ⟨w.heap.size + 1 + 1, 0, none⟩), .pointer (some ⟨w.heap.size + 1, 0, none⟩)]) rfl trivial (enters_of Try.func21 (by kernel_rfl) rfl)
    (blocks_stops 4 (by decide) (w.heap.size + 1) (w.heap.size + 1 + 1) (-1 - s) n W0 bS bN) Kp.t (Kp.b (by omega) (by omega)) (Below.refl _ _) (fun _ => rfl)
    (fun pre W => (∃ v, Blk W w.heap.size 25 [v] ∧ W.ownsRow (w.heap.size + 3) 3 1 v pre.length (i64s (vals pre))) ∧ Below w.heap.size w W)
    (fun _ _ _ => False)
    (OwnFrom.and (fun _ _ _ _ hs hg hr => by obtain ⟨v, h1, h2⟩ := hs; exact ⟨v, blk_kept h1 hg hr, own_kept h2 hg hr⟩) (ownFrom_below (Nat.le_refl _) (by omega)))
    (fun _ _ _ _ _ hs _ _ => hs)
    ⟨⟨_, bC, World.ownsRow_nil _ _ _ _⟩, hB0⟩
    (fun x a' (_ : World) => a' = { tmps := #[.int .i64 s, .int .i64 n, undef, undef, .slice none 0 0, .pointer (some ⟨w.heap.size, 0, none⟩), .int .i64 (nv x), .int .i64 s, .int .i64 (-1 - s), .int .i64 n, .func (.func 21) #[] #[.pointer (some ⟨w.heap.size + 1 + 1, 0, none⟩), .pointer (some ⟨w.heap.size + 1, 0, none⟩)], .int .i64 (nv x), undef, undef, undef, undef, undef], defers := [] })
    (fun _ _ _ _ _ _ hs _ _ => hs)
    ?assign ?body ?done ?stop
  case assign =>
    rintro l pre x W K hI hK
    simp only [enc]
    gi_wp2
    exact hK _ _ (KeepsFrom.refl _ _) (Kp.refl _) hI rfl
  case body =>
    rintro l pre x a' W hl ⟨r, hr⟩ ⟨⟨v, bC1, hrow⟩, hB1⟩ rfl hlt
    have hc := bC1.cell (i := 0) rfl
    have hsW := hl
    have hgW : w.heap.size + 3 ≤ W.heap.size := by have := (Array.getElem?_eq_some_iff.1 hr).1; omega
    gi_wp2_with (gi_at_builtin; refine wpListIn_append_own _ rfl _ _ 25 rfl (w.heap.size + 3) 3 i0 (.int .i64 0) 1 8 Try.underlying25 hi0 hz0 hz1 hz2 rfl (by decide) _ _ _ rfl (hrow.alloc _) ⟨W.heap.size, 0, none⟩ 1 1 [.int .i64 (nv x)] rfl rfl (cell_one_new _ _ _) (by simp [Value.oneCell']) (by simp only [maxLen]; omega) (by omega) (by simp; omega) ?_; intro v' w1 hown' hgrow _; obtain ⟨g', cap', rfl⟩ := ownsRow_succ hown'; obtain ⟨hv1, hv2, hr2, hk2, hp2, hb2⟩ := appended (b1 := w.heap.size + 1) (b2 := w.heap.size + 1 + 1) bC1 hrow (by omega) (by omega) (by omega) hgW (by omega) (by omega) hown' hgrow; have hc1 := hv1.cell (i := 0) rfl; have hf1 := hv1.frozen 0)
    refine ⟨hk2.from _, hp2, ⟨_, hv2, ?_⟩, hb2 hB1 (Nat.le_refl _)⟩
    rw [vals_snoc, ← i64s_app, List.length_append]
    exact hr2
  case done =>
    rintro D ys W hD hys ⟨⟨v, bC1, hrow⟩, hB1⟩ hK
    obtain ⟨A, c, rfl⟩ := own_shape hrow
    have cC := bC1.cell (i := 0) rfl
    rw [hys, HML.out] at hrow
    have HRW := Lib.hid hrow
    clear hrow hys
    gi_wp2
    refine ⟨by simp, .inl ⟨_, _, rfl, run_takeDeferred hK, ?_⟩⟩
    exact ⟨_, results_tmp rfl _ _ _, A, _, c, rfl, Rd.own (ownsRow_putObj HRW.out _ hK rfl), hB1.trans (belowK_b (w := w) (Nat.le_refl _) W D _ _ (by omega) hK rfl rfl)⟩
  case stop =>
    rintro D c pre W _ _ h _
    exact h.elim
theorem first_head {s : Int} {k m : Nat} {x : Int} (hm : m ≤ 16) (hk : k < m) (hb0 : hb (-1 - s) k = true) (h : [x] = hv (-1 - s) k ++ [(k : Int)]) : miss s m ≠ [] ∧ fst (miss s m) = x := by
  obtain ⟨j, rfl⟩ : ∃ j, m = k + 1 + j := ⟨m - k - 1, by omega⟩
  have h1 : hv (-1 - s) (k + 1) = [x] := by rw [hv_succ, if_pos hb0]; exact h.symm
  obtain ⟨t, ht⟩ := hv_pre (-1 - s) (k + 1) j
  rw [h1, hv_not s hm] at ht
  rw [← ht]
  exact ⟨by simp, rfl⟩
set_option maxRecDepth 100000 in
set_option maxHeartbeats 2000000 in
theorem first_any (s n : Int) (w : World) (hs : n64 s) : Calls Try.prog 12 #[.int .i64 s, .int .i64 n] w fun e w' => e = .returned (.tuple #[.int .i64 (fst (miss s (lim n))), .bool (!(miss s (lim n)).isEmpty)]) ∧ Below w.heap.size w w' := by
  have HXN := xor_not s hs
  have HML := Lib.hid (hv_not s (lim_le n))
  have HL16 := Lib.hid (lim_le n)
  have f19 : Fence.wide.fn 19 := trivial
  refine callsIn_wide (n := 5) |>.1 ?_
  refine callsIn_of_wp_marks Try.func12 rfl trivial ?_ rfl
  simp only [Try.ntmps12, List.size_toArray, List.length_cons, List.length_nil, Nat.reduceAdd, Nat.reduceSub, Array.replicate_succ, Array.replicate_zero, List.push_toArray, List.append_toArray, List.nil_append, List.cons_append]
  gi_wp2_with (gi_at_call 19; refine (blocks_in 4 _ _ _).mono ?_; rintro e w' ⟨rfl, rfl⟩)
  obtain ⟨W0, hW0⟩ : ∃ W0, (((w.alloc (.cells #[.int .i64 0] 3)).alloc (.cells #[.bool false] 4)).alloc (.cells #[.int .i64 (-1 - s)] 3)).alloc (.cells #[.int .i64 n] 3) = W0 := ⟨_, rfl⟩
  obtain ⟨bX, bO, bS, bN, hB0, hsz⟩ := laid4 w _ _ _ _ [.int .i64 0] [.bool false] [.int .i64 (-1 - s)] [.int .i64 n] hW0
  rw [hW0]
  clear hW0
  refine wpIn_rangeFunc_ownH rfl (by decide) (gf := 21) (lb := #[.pointer (some ⟨w.heap.size + 1 + 1 + 1, 0, none⟩), .pointer (some ⟨w.heap.size + 1 + 1, 0, none⟩)]) rfl trivial (enters_of Try.func21 (by kernel_rfl) rfl)
    (blocks_stops 4 (by decide) (w.heap.size + 1 + 1) (w.heap.size + 1 + 1 + 1) (-1 - s) n W0 bS bN) Kp.t (Kp.b (by omega) (by omega)) (Below.refl _ _) (fun _ => rfl)
    (fun pre W => (pre = [] ∧ Blk W w.heap.size 3 [.int .i64 0] ∧ Blk W (w.heap.size + 1) 4 [.bool false]) ∧ Below w.heap.size w W)
    (fun cd pre W => (cd = .ret ∧ ∃ x : No, pre = [x] ∧ Blk W w.heap.size 3 [.int .i64 (nv x)] ∧ Blk W (w.heap.size + 1) 4 [.bool true]) ∧ Below w.heap.size w W)
    (OwnFrom.and (fun _ _ _ _ hs hg hr => ⟨hs.1, blk_kept hs.2.1 hg hr, blk_kept hs.2.2 hg hr⟩) (ownFrom_below (Nat.le_refl _) (by omega)))
    (fun cd => OwnFrom.and (fun _ _ _ _ hs hg hr => by obtain ⟨h0, x, h1, h2, h3⟩ := hs; exact ⟨h0, x, h1, blk_kept h2 hg hr, blk_kept h3 hg hr⟩) (ownFrom_below (Nat.le_refl _) (by omega)))
    ⟨⟨rfl, bX, bO⟩, hB0⟩
    (fun x a' (_ : World) => a' = { tmps := #[.int .i64 s, .int .i64 n, undef, undef, .pointer (some ⟨w.heap.size, 0, none⟩), .pointer (some ⟨w.heap.size + 1, 0, none⟩), .int .i64 (nv x), .int .i64 s, .int .i64 (-1 - s), .int .i64 n, .func (.func 21) #[] #[.pointer (some ⟨w.heap.size + 1 + 1 + 1, 0, none⟩), .pointer (some ⟨w.heap.size + 1 + 1, 0, none⟩)], .int .i64 (nv x), undef], defers := [] })
    (fun _ _ _ _ _ _ hs _ _ => hs)
    ?assign ?body ?done ?stop
  case assign =>
    rintro l pre x W K hI hK
    simp only [enc]
    gi_wp2
    exact hK _ _ (KeepsFrom.refl _ _) (Kp.refl _) hI rfl
  case body =>
    rintro l pre x a' W hl ⟨r, hr⟩ ⟨⟨rfl, bX1, bO1⟩, hB1⟩ rfl hlt
    have cX := bX1.cell (i := 0) rfl
    have fX := bX1.frozen 0
    have cO := bO1.cell (i := 0) rfl
    have fO := bO1.frozen 0
    have BX1 := Lib.hid bX1
    have BO1 := Lib.hid bO1
    clear bX1 bO1
    gi_wp2
    exact ⟨((KeepsOthers.setCell _ _ _).trans (KeepsOthers.setCell _ _ _)).from _, ⟨rfl, x, rfl, (BX1.out.set 0 _).far (by simp) _, (BO1.out.far (by simp) _).set 0 _⟩, (hB1.setCell (by simp) _).setCell (by simp) _⟩
  case done =>
    rintro D ys W hD hys ⟨⟨rfl, bX1, bO1⟩, hB1⟩ hK
    rw [HML.out] at hys
    have hys' : miss s (lim n) = [] := hys.symm
    have HE := Lib.hid hys'
    clear hys hys'
    have cX := bX1.cell (i := 0) rfl
    have fX := bX1.frozen 0
    have cO := bO1.cell (i := 0) rfl
    have fO := bO1.frozen 0
    have BX1 := Lib.hid bX1
    have BO1 := Lib.hid bO1
    clear bX1 bO1
    gi_wp2
    have hK' := (KeepsOthers.setCell (W.setCell ⟨w.heap.size, 0, none⟩ (.int .i64 0)) ⟨w.heap.size + 1, 0, none⟩ (.bool false)).same D _ ((KeepsOthers.setCell W ⟨w.heap.size, 0, none⟩ (.int .i64 0)).same D _ hK rfl) rfl
    refine ⟨by simp, .inl ⟨_, _, rfl, run_takeDeferred hK', ?_⟩⟩
    have c4 := cell_kept (((BX1.out.set 0 (.int .i64 0)).far (p := ⟨w.heap.size + 1, 0, none⟩) (by simp) (.bool false)).cell (i := 0) rfl) (grownBy_putObj' _ D (.deferred none)) (fun r e => by cases e; exact ⟨_, hK', rfl⟩)
    have c5 := cell_kept (((BO1.out.far (p := ⟨w.heap.size, 0, none⟩) (by simp) (.int .i64 0)).set 0 (.bool false)).cell (i := 0) rfl) (grownBy_putObj' _ D (.deferred none)) (fun r e => by cases e; exact ⟨_, hK', rfl⟩)
    exact ⟨.tuple #[.int .i64 0, .bool false], by simp [results, Try.f12, go_sem, c4, c5], by rw [HE.out]; rfl, ((hB1.setCell (by simp) _).setCell (by simp) _).trans (belowK_b (w := w) (Nat.le_refl _) _ D _ _ (by omega) hK' rfl rfl)⟩
  case stop =>
    rintro D cd pre W hD ⟨k, hk, hb0, hv0⟩ ⟨⟨rfl, x, rfl, bX1, bO1⟩, hB1⟩ hK
    obtain ⟨hne, hfe⟩ := first_head HL16.out hk hb0 hv0
    have hemp : (miss s (lim n)).isEmpty = false := by
      cases h : miss s (lim n)
      · exact absurd h hne
      · rfl
    have HE := Lib.hid hemp
    have HF := Lib.hid hfe
    clear hne hfe hemp hb0 hv0 hk
    have cX := bX1.cell (i := 0) rfl
    have cO := bO1.cell (i := 0) rfl
    gi_wp2
    refine ⟨by simp, .inl ⟨_, _, rfl, run_takeDeferred hK, ?_⟩⟩
    have c4 := cell_kept cX (grownBy_putObj' _ D (.deferred none)) (fun r e => by cases e; exact ⟨_, hK, rfl⟩)
    have c5 := cell_kept cO (grownBy_putObj' _ D (.deferred none)) (fun r e => by cases e; exact ⟨_, hK, rfl⟩)
    exact ⟨.tuple #[.int .i64 (nv x), .bool true], by simp [results, Try.f12, go_sem, c4, c5], by rw [HE.out, HF.out]; rfl, hB1.trans (belowK_b (w := w) (Nat.le_refl _) W D _ _ (by omega) hK rfl rfl)⟩
end Go.Proofs.Ytfibhjkjaagheaa.BitS
