/- The program's copied, New, Image and Reset. Conditions: the image, the machine lie as the facts say. The program's State. Conditions: the machine lies as the facts say; a memory of at most 16 words. The reference's Same of two states, and of what was sent. Conditions: both lie sa the facts say. The laws' table, and their example; a machine on channels, made anew. No conditions but those each law names. The laws' example holds. No conditions. A tick, whatever stands there; the image's box through a law; the bits of Sends. No conditions but those each law names. Reset; what a tick counts; told states through a tick; the numbers of a state. Conditions: the machine lies as the facts say. The walk of VmBounds. No conditions. -/
import Derived.Test.YtliiinffkcgcaaaVmcJ
import Derived.Test.YtliiinffkcgcaaaImgB0
import Derived.Test.YtliiinffkcgcaaaPrtC
import Derived.Deep.RegionHeld3
import Derived.Test.YtliiinffkcgcaaaOpsN3
import Derived.Test.YtliiinffkcgcaaaPrtO
import Derived.BigQuiet
import Derived.Laws.StructEq
import Derived.Test.YtliiinffkcgcaaaVmcL
import Derived.Test.YtliiinffkcgcaaaPrtH
import Derived.Test.YtliiinffkcgcaaaFld
import Derived.Test.YtliiinffkcgcaaaBitO
namespace Go.Proofs.Ytliiinffkcgcaaa.VmcP
open Go.RowKit Go.Proofs.Ytliiinffkcgcaaa.Kit Go.Proofs.Ytliiinffkcgcaaa.Byt Go.Proofs.Ytliiinffkcgcaaa.Mem Go.Proofs.Ytliiinffkcgcaaa.VmcM Go.Proofs.Ytliiinffkcgcaaa.VmcA Go.Proofs.Ytliiinffkcgcaaa.VmcJ Go.Proofs.Ytliiinffkcgcaaa.PrtA
open Go.Proofs.Ytliiinffkcgcaaa.ImgA (Im)
open Go.Proofs.Ytliiinffkcgcaaa.ImgB (right)
open Go.Proofs.Ytliiinffkcgcaaa.TabA (Tri)
open Go.Proofs.Ytliiinffkcgcaaa.BitA (i64s)
open Go.Proofs.Ytliiinffkcgcaaa.TabE (ret_row)
open Go.Proofs.Ytliiinffkcgcaaa.TabI (info_of)

theorem info_u8 : (Try.prog.info? 5).map (fun i => (i.zero, i.size, i.bytes)) = some (some (.int .u8 0), 1, 1) := by kernel_rfl
set_option maxRecDepth 100000 in
set_option maxHeartbeats 400000 in
theorem bclone_any (A : Option Addr) (n c : Nat) (xs : List Nat) (w : World) (hR : Rd w A n c (u8n xs)) (hn : 0 < n) (hl : n ≤ 100000) :
    Calls Try.prog 41 #[.slice A n c] w fun e w' => ∃ A2 n2 c2, e = .returned (.slice A2 n2 c2) ∧ Rd w' A2 n2 c2 (u8n xs) ∧ (∀ b o, A2 = some ⟨b, o, none⟩ → w.heap.size ≤ b) ∧ Below w.heap.size w w' := by
  obtain ⟨i0, hi0, hz0, hz1, hz2⟩ := info_of info_u8
  obtain ⟨b, o, hA⟩ : ∃ b o, A = some ⟨b, o, none⟩ := by
    obtain ⟨b, o, hA, _⟩ := hR.at_ hn
    exact ⟨b, o, hA⟩
  have HR := Lib.hid hR
  clear hR
  subst hA
  have hnil := fun (W : World) => Lib.run_eql_slice_nil (P := Try.prog) W 27 5 (some ⟨b, o, none⟩) n c 0 0 Try.underlying27
  go_enter Try.func41, Try.ntmps41
  go_wp2_with (at_builtin; refine wpList_add _ rfl (.tmp 5) (.tmp 6) _ rfl w.heap.size 5 i0 _ 1 Try.underlying27 hi0 hz0 hz1 hz2 rfl _ 0 [] rfl (emptied w _) (some ⟨b, o, none⟩) n c (u8n xs) rfl (HR.out.alloc _) (u8n_one _) (by omega) (by omega) (size_alloc _ _) ?_; intro A2 n2 c2 w2 hn2 hown2 hg2 hat2; have hb2 := below_add ((Below.refl w.heap.size w).alloc (Nat.le_refl _) _) (emptied w _) (Nat.le_refl _) hg2)
  go_ret
  have h3 : w2.ownsRow w.heap.size 5 1 (.slice A2 n2 c2) n2 (u8n xs) := by simpa using hown2
  exact ⟨A2, n2, c2, rfl, Rd.own h3, fun b o hA => (h3.lt b (by rw [hA]; rfl)).1, hb2⟩
/-- An image like i, whose code is memory of its own. -/
def Cop (w : World) (i j : Im) (w' : World) : Prop := (j.p = i.p ∧ j.v = i.v ∧ j.h = i.h ∧ j.m = i.m ∧ j.f = i.f ∧ j.s = i.s ∧ j.r = i.r ∧ j.n = i.n ∧ j.xs = i.xs) ∧ j.ok w' ∧ (∀ b o, j.A = some ⟨b, o, none⟩ → w.heap.size ≤ b) ∧ Below w.heap.size w w'
theorem size_im : (Try.prog.info? 29).map (·.size) = some 8 := by kernel_rfl
theorem im_one (i : Im) : ∀ u ∈ i.cells, u.oneCell' = true := by
  intro u hu
  unfold Im.cells at hu
  simp only [List.mem_cons, List.not_mem_nil, or_false] at hu
  rcases hu with rfl | rfl | rfl | rfl | rfl | rfl | rfl | rfl <;> rfl
set_option maxRecDepth 100000 in
set_option maxHeartbeats 800000 in
theorem copied_any (i : Im) (w : World) (h : i.ok w) (hn : 0 < i.n) (hl : i.n ≤ 100000) : Calls Try.prog 28 #[i.val] w fun e w' => ∃ j : Im, e = .returned j.val ∧ Cop w i j w' := by
  obtain ⟨p, v, hh, m, f, s, r, A, n, c, xs⟩ := i
  dsimp only at hn hl
  have HC := Lib.hid (fun w' (hb : Below w.heap.size w w') => bclone_any A n c xs w' (h.code.below hb) hn hl)
  have HB := Lib.hid h.byt
  have HL := Lib.hid (show xs.length = n from h.len)
  obtain ⟨wa, hwa⟩ : ∃ wa, wa = w.alloc (.cells #[.int .i64 p, .int .i64 v, .int .i64 hh, .int .i64 m, .int .i64 f, .int .i64 s, .int .i64 r, .slice A n c] 29) := ⟨_, rfl⟩
  obtain ⟨wb, hwb⟩ : ∃ wb, wb = wa.alloc (.cells #[.int .i64 0, .int .i64 0, .int .i64 0, .int .i64 0, .int .i64 0, .int .i64 0, .int .i64 0, .slice none 0 0] 29) := ⟨_, rfl⟩
  have hsa : wa.heap.size = w.heap.size + 1 := by rw [hwa]; exact World.size_alloc _ _
  have hbb : Below w.heap.size w wb := by rw [hwb, hwa]; exact ((Below.refl _ _).alloc (Nat.le_refl _) _).alloc (by simp) _
  have b1 : Blk wb w.heap.size 29 [.int .i64 p, .int .i64 v, .int .i64 hh, .int .i64 m, .int .i64 f, .int .i64 s, .int .i64 r, .slice A n c] := by rw [hwb, hwa]; exact (Blk.new w _ _).alloc _
  have b2 : Blk wb wa.heap.size 29 [.int .i64 0, .int .i64 0, .int .i64 0, .int .i64 0, .int .i64 0, .int .i64 0, .int .i64 0, .slice none 0 0] := by rw [hwb]; exact Blk.new wa _ _
  rw [hsa] at b2
  have HBB := Lib.hid hbb
  have B1 := Lib.hid b1
  have B2 := Lib.hid b2
  have x7 := b1.cell (i := 7) rfl
  have HSB := Lib.hid (show wb.heap.size = w.heap.size + 2 from by rw [hwb, World.size_alloc, hsa])
  clear h hsa hbb b1 b2
  go_enter Try.func28, Try.ntmps28
  go_wp2_with fail
  rw [← hwa, ← hwb]
  refine (HC.out _ HBB.out).mono ?_
  rintro e w2 ⟨A2, n2, c2, rfl, hr2, hnew, hb2⟩
  have h1 := B1.out.below hb2
  have h2 := B2.out.below hb2
  have HR2 := Lib.hid hr2
  have HN2 := Lib.hid hnew
  have HB2 := Lib.hid (HBB.out.trans (hb2.mono HBB.out.size))
  have x7 := h1.cell (i := 7) rfl
  have z7 := h1.frozen 7
  have H1 := Lib.hid (h1.set 7 (.slice A2 n2 c2))
  have H2 := Lib.hid (h2.far (p := ⟨w.heap.size, 7, none⟩) (by show w.heap.size + 1 ≠ w.heap.size; omega) (.slice A2 n2 c2))
  clear hr2 hnew hb2 h1 h2 hwa hwb B1 B2 HC HBB
  go_wp2_with (first
    | (refine wpList_load_blk rfl 29 (.tmp 1) rfl w.heap.size rfl H1.out Try.underlying29 rfl size_im ?_)
    | (refine wpList_store_blk rfl 29 (.tmp 2) (.tmp 7) rfl (w.heap.size + 1) rfl (Im.cells ⟨p, v, hh, m, f, s, r, A2, n2, c2, xs⟩) rfl H2.out rfl size_im (VmcP.im_one _) ?_; intro w3 hB3 ho3))
  have hb3 : Below w.heap.size w w3 := ho3.out.below (HB2.out.setCell (Nat.le_refl _) _) (by omega) (by have := HB2.out.size; simpa [World.setCell] using this)
  have hn2 : n2 = n := by have h1 := HR2.out.1; have h2 := HL.out; simp [u8n] at h1; omega
  have hK : Keep (fun k => k = w.heap.size ∨ k = w.heap.size + 1) w2 w3 := (Keep.set (F := fun k => k = w.heap.size ∨ k = w.heap.size + 1) w2 7 (.slice A2 n2 c2) (Or.inl rfl)).trans (Keep.only (F := fun k => k = w.heap.size ∨ k = w.heap.size + 1) ho3.out (Or.inr rfl)) fun k hk => .inl hk
  have hr3 : Rd w3 A2 n2 c2 (u8n xs) := hK.rd HR2.out fun _ b o hA => by have h1 := HN2.out b o hA; have h2 := HSB.out; omega
  refine ret_row (g := w.heap.size + 1) (cs := (Im.cells ⟨p, v, hh, m, f, s, r, A2, n2, c2, xs⟩).toArray) Try.results28 rfl rfl hB3.out Try.underlying29 rfl size_im ?_
  exact ⟨⟨p, v, hh, m, f, s, r, A2, n2, c2, xs⟩, rfl, ⟨rfl, rfl, rfl, rfl, rfl, rfl, rfl, hn2, rfl⟩, ⟨hr3, HB.out⟩, fun b o hA => by have h1 := HN2.out b o hA; have h2 := HSB.out; omega, hb3⟩
theorem built_machine (i : Im) : Try.prog.built 91 [(0, .agg i.cells.toArray)] = some (mc i ⟨0, [0, 0, 0, 0, 0, 0, 0, 0], 0, [0, 0, 0, 0, 0, 0, 0, 0, 0, 0, 0, 0, 0, 0, 0, 0], 0, 0⟩).toArray := by kernel_rfl
/-- The state of a machine that was just made. -/
def v0 : V := ⟨0, [0, 0, 0, 0, 0, 0, 0, 0], 0, [0, 0, 0, 0, 0, 0, 0, 0, 0, 0, 0, 0, 0, 0, 0, 0], 0, 0⟩
theorem v0_ok : v0.ok := ⟨rfl, rfl, by decide, by unfold v0; simp [num], by unfold v0; simp [num]⟩
theorem wpList_build_l {P : Program} {ops : Array Oper} {rest : List Oper} {o : Oper} {a : Act} {w : World} {Q : Exit → Act → World → Prop} (hg : o.guard = none) (t : TypeId) (parts : List (Nat × Operand)) (ho : o.op = .build t parts.toArray)
    (cells : List Value) (hc : P.built t (parts.map fun (i, x) => (i, a.eval x)) = some cells.toArray) (h : wpList P ops Q rest (a.put o.dst (.agg cells.toArray)) w) : wpList P ops Q (o :: rest) a w := by
  have hc' : P.built t (parts.toArray.map fun (i, x) => (i, a.eval x)).toList = some cells.toArray := by
    rw [← hc]
    simp
  exact wpList_build hg t parts.toArray ho (by rw [hc']; rfl) (by rw [hc']; exact h)
set_option maxRecDepth 100000 in
theorem new_bad (i : Im) (w : World) (h : i.ok w) (hn : i.n ≤ 9223372036854775807) (hr : ¬ right i) : Calls Try.prog 9 #[i.val] w fun e w' => e = .returned (.tuple #[.pointer none, .int .i64 3]) ∧ Below w.heap.size w w' := by
  have HR := Lib.hid (fun w' => ImgB.right_any i w' hn false ⟨(fun e => nomatch e), (fun e => absurd e hr)⟩)
  obtain ⟨p, v, hh, m, f, s, r, A, n, c, xs⟩ := i
  have HBX := Lib.hid (show Below w.heap.size w (w.alloc (.cells #[.int .i64 p, .int .i64 v, .int .i64 hh, .int .i64 m, .int .i64 f, .int .i64 s, .int .i64 r, .slice A n c] 29)) from (Below.refl _ _).alloc (Nat.le_refl _) _)
  clear h hn hr
  show Calls _ _ #[.agg #[.int .i64 p, .int .i64 v, .int .i64 hh, .int .i64 m, .int .i64 f, .int .i64 s, .int .i64 r, .slice A n c]] w _
  go_enter Try.func9, Try.ntmps9
  go_wp2_with fail
  refine (HR.out _).mono ?_
  rintro e w2 ⟨rfl, hb2⟩
  have HB2 := Lib.hid (HBX.out.trans (hb2.mono HBX.out.size))
  clear hb2
  go_wp2
  go_ret2
  exact ⟨rfl, HB2.out⟩
set_option maxRecDepth 100000 in
theorem new_yes (i : Im) (w : World) (h : i.ok w) (hr : right i) : Calls Try.prog 9 #[i.val] w fun e w' => ∃ M j, e = .returned (.tuple #[.pointer (some ⟨M, 0, none⟩), .int .i64 0]) ∧ Blk w' M 91 (mc j v0) ∧ w.heap.size ≤ M ∧ (∀ b o, j.A = some ⟨b, o, none⟩ → 0 < j.n → b ≠ M) ∧ Cop w i j w' := by
  have hn0 : i.n ≤ 96 ∧ 0 < i.n := by have := hr.2.2.2.2.2.2.2; omega
  have HR := Lib.hid (fun w' => ImgB.right_any i w' (by omega) true ⟨fun _ => hr, fun _ => rfl⟩)
  have HC := Lib.hid (fun w' (hb : Below w.heap.size w w') => copied_any i w' (h.below hb) hn0.2 (by omega))
  obtain ⟨p, v, hh, m, f, s, r, A, n, c, xs⟩ := i
  obtain ⟨wa, hwa⟩ : ∃ wa, wa = w.alloc (.cells #[.int .i64 p, .int .i64 v, .int .i64 hh, .int .i64 m, .int .i64 f, .int .i64 s, .int .i64 r, .slice A n c] 29) := ⟨_, rfl⟩
  have hba : Below w.heap.size w wa := by rw [hwa]; exact (Below.refl _ _).alloc (Nat.le_refl _) _
  have b1 : Blk wa w.heap.size 29 [.int .i64 p, .int .i64 v, .int .i64 hh, .int .i64 m, .int .i64 f, .int .i64 s, .int .i64 r, .slice A n c] := by rw [hwa]; exact Blk.new w _ _
  have HBA := Lib.hid hba
  have B1 := Lib.hid b1
  clear h hr hn0 hba b1
  show Calls _ _ #[.agg #[.int .i64 p, .int .i64 v, .int .i64 hh, .int .i64 m, .int .i64 f, .int .i64 s, .int .i64 r, .slice A n c]] w _
  go_enter Try.func9, Try.ntmps9
  go_wp2_with fail
  rw [← hwa]
  refine (HR.out _).mono ?_
  rintro e w2 ⟨rfl, hb2⟩
  have hB2 := B1.out.below hb2
  obtain ⟨x0, x1, x2, x3, x4, x5, x6, x7⟩ := (show w2.cell? ⟨w.heap.size, 0, none⟩ = some (.int .i64 p) ∧ w2.cell? ⟨w.heap.size, 1, none⟩ = some (.int .i64 v) ∧ w2.cell? ⟨w.heap.size, 2, none⟩ = some (.int .i64 hh) ∧ w2.cell? ⟨w.heap.size, 3, none⟩ = some (.int .i64 m) ∧ w2.cell? ⟨w.heap.size, 4, none⟩ = some (.int .i64 f) ∧ w2.cell? ⟨w.heap.size, 5, none⟩ = some (.int .i64 s) ∧ w2.cell? ⟨w.heap.size, 6, none⟩ = some (.int .i64 r) ∧ w2.cell? ⟨w.heap.size, 7, none⟩ = some (.slice A n c) from ⟨hB2.cell rfl, hB2.cell rfl, hB2.cell rfl, hB2.cell rfl, hB2.cell rfl, hB2.cell rfl, hB2.cell rfl, hB2.cell rfl⟩)
  have HB2 := Lib.hid (HBA.out.trans (hb2.mono HBA.out.size))
  clear hb2 hB2 hwa B1
  go_wp2_with fail
  refine (HC.out _ HB2.out).mono ?_
  rintro e w3 ⟨j, rfl, hj⟩
  have HJ := Lib.hid hj
  have HBM := Lib.hid (built_machine j)
  clear hj x0 x1 x2 x3 x4 x5 x6 x7
  obtain ⟨jp, jv, jh, jm, jf, js, jr, jA, jn, jc, jx⟩ := j
  go_wp2_with (refine wpList_build_l rfl 91 [(0, .tmp 8)] rfl (mc ⟨jp, jv, jh, jm, jf, js, jr, jA, jn, jc, jx⟩ v0) HBM.out ?_)
  go_ret2
  have hb4 : Below w.heap.size w (w3.alloc (.cells (mc ⟨jp, jv, jh, jm, jf, js, jr, jA, jn, jc, jx⟩ v0).toArray 91)) := (HB2.out.trans (HJ.out.2.2.2.mono HB2.out.size)).alloc (by have := HB2.out.size; have := HJ.out.2.2.2.size; omega) _
  exact ⟨w3.heap.size, ⟨jp, jv, jh, jm, jf, js, jr, jA, jn, jc, jx⟩, rfl, Blk.new w3 _ _, by have := HB2.out.size; have := HJ.out.2.2.2.size; omega, (fun b o hA hn => by
    obtain ⟨b', o', hA', hlt, _⟩ := HJ.out.2.1.code.2.2.2 hn
    rw [hA'] at hA
    injection hA with hA
    injection hA with hA
    omega), HJ.out.1, HJ.out.2.1.alloc _, fun b o hA => by have h1 := HJ.out.2.2.1 b o hA; have := HB2.out.size; omega, hb4⟩
/-- Image tells what the machine was made of, in memory of its own. -/
theorem image_any {M : Nat} {i : Im} {v : V} {w : World} (hB : Blk w M 91 (mc i v)) (h : i.ok w) (hn : 0 < i.n) (hl : i.n ≤ 100000) : Calls Try.prog 12 #[.pointer (some ⟨M, 0, none⟩)] w fun e w' => ∃ j : Im, e = .returned j.val ∧ Cop w i j w' := by
  have hMl := hB.lt
  have HC := Lib.hid (fun w' (hb : Below w.heap.size w w') => copied_any i w' (h.below hb) hn hl)
  obtain ⟨p, vv, hh, m, f, s, r, A, n, c, xs⟩ := i
  have x0 := hB.cell (i := 0) (v := .int .i64 p) rfl
  have x1 := hB.cell (i := 1) (v := .int .i64 vv) rfl
  have x2 := hB.cell (i := 2) (v := .int .i64 hh) rfl
  have x3 := hB.cell (i := 3) (v := .int .i64 m) rfl
  have x4 := hB.cell (i := 4) (v := .int .i64 f) rfl
  have x5 := hB.cell (i := 5) (v := .int .i64 s) rfl
  have x6 := hB.cell (i := 6) (v := .int .i64 r) rfl
  have x7 := hB.cell (i := 7) (v := .slice A n c) rfl
  obtain ⟨wa, hwa⟩ : ∃ wa, wa = w.alloc (.cells #[.int .i64 0, .int .i64 0, .int .i64 0, .int .i64 0, .int .i64 0, .int .i64 0, .int .i64 0, .slice none 0 0] 29) := ⟨_, rfl⟩
  have HBA := Lib.hid (show Below w.heap.size w wa from by rw [hwa]; exact (Below.refl _ _).alloc (Nat.le_refl _) _)
  have HZ := Lib.hid (show Blk wa w.heap.size 29 [.int .i64 0, .int .i64 0, .int .i64 0, .int .i64 0, .int .i64 0, .int .i64 0, .int .i64 0, .slice none 0 0] from by rw [hwa]; exact Blk.new w _ _)
  clear hB h hn hl
  go_enter Try.func12, Try.ntmps12
  go_wp2_with fail
  rw [← hwa]
  refine (HC.out _ HBA.out).mono ?_
  rintro e w3 ⟨j, rfl, hj⟩
  have HJ := Lib.hid hj
  have HZ3 := Lib.hid (HZ.out.below hj.2.2.2)
  clear hj hwa x0 x1 x2 x3 x4 x5 x6 x7
  go_wp2_with (refine wpList_store_blk rfl 29 (.tmp 2) (.tmp 10) rfl w.heap.size rfl (Im.cells j) rfl HZ3.out rfl size_im (im_one _) ?_; intro w4 hB4 ho4)
  refine ret_row (g := w.heap.size) (cs := (Im.cells j).toArray) Try.results12 rfl rfl hB4.out Try.underlying29 rfl size_im ?_
  have hs := HBA.out.size
  exact ⟨j, rfl, HJ.out.1, ⟨(Keep.only (F := fun k => k = w.heap.size) ho4.out rfl).rd HJ.out.2.1.code fun _ b o hA => by have h1 := HJ.out.2.2.1 b o hA; have h2 := HZ.out.lt; omega, HJ.out.2.1.byt⟩, fun b o hA => by have h1 := HJ.out.2.2.1 b o hA; omega, ho4.out.below (HBA.out.trans (HJ.out.2.2.2.mono hs)) (Nat.le_refl _) (by have := HJ.out.2.2.2.size; omega)⟩
end Go.Proofs.Ytliiinffkcgcaaa.VmcP
namespace Go.Proofs.Ytliiinffkcgcaaa.VmcS
open Go.RowKit Go.Proofs.Ytliiinffkcgcaaa.Kit Go.Proofs.Ytliiinffkcgcaaa.Byt Go.Proofs.Ytliiinffkcgcaaa.Mem Go.Proofs.Ytliiinffkcgcaaa.VmcM Go.Proofs.Ytliiinffkcgcaaa.VmcA Go.Proofs.Ytliiinffkcgcaaa.VmcJ Go.Proofs.Ytliiinffkcgcaaa.PrtB Go.Proofs.Ytliiinffkcgcaaa.PrtC
open Go.Proofs.Ytliiinffkcgcaaa.ImgA (Im)
open Go.Proofs.Ytliiinffkcgcaaa.BitA (i64s)
open Go.Proofs.Ytliiinffkcgcaaa.TabE (ret_row)
open Go.Proofs.Ytliiinffkcgcaaa.TabI (info_int info_of)

section
variable {w : World} {sb M : Nat} {v : V} {i : Im}
theorem rd_s (h : v.ok) (hB : Blk w sb 89 (scells v)) : Rd w (some ⟨sb, 1, none⟩) v.h 8 (TabI.i64s (v.s.take v.h)) := by
  have h8 := h.h8
  have hl := h.ls
  refine ⟨by simp [TabI.i64s, hl]; omega, h8, by omega, fun hp => ⟨sb, 1, rfl, hB.lt, fun j u hu => ?_⟩⟩
  have hj : j < v.h := by have := (List.getElem?_eq_some_iff.1 hu).1; simp [TabI.i64s, hl] at this; omega
  refine hB.cell ?_
  rw [sc_s h (by omega), ← hu]
  unfold TabI.i64s
  rw [List.getElem?_map, List.getElem?_take, if_pos hj, List.getD_eq_getElem?_getD, List.getElem?_eq_getElem (by omega)]
  rfl
theorem rd_m (h : v.ok) {k : Nat} (hk : k ≤ 16) (hB : Blk w sb 89 (scells v)) : Rd w (some ⟨sb, 10, none⟩) k 16 (TabI.i64s (v.m.take k)) := by
  have hl := h.lm
  refine ⟨by simp [TabI.i64s, hl]; omega, hk, by omega, fun hp => ⟨sb, 10, rfl, hB.lt, fun j u hu => ?_⟩⟩
  have hj : j < k := by have := (List.getElem?_eq_some_iff.1 hu).1; simp [TabI.i64s, hl] at this; omega
  refine hB.cell ?_
  rw [sc_m h (by omega), ← hu]
  unfold TabI.i64s
  rw [List.getElem?_map, List.getElem?_take, if_pos hj, List.getD_eq_getElem?_getD, List.getElem?_eq_getElem (by omega)]
  rfl
end
theorem own_low {base low n : Nat} {e : TypeId} {v : Value} {xs : List Value} {w : World} (h : w.ownsRow base e 1 v n xs) (hb : low ≤ base) : w.ownsRow low e 1 v n xs := by
  refine ⟨h.1, ?_⟩
  rcases h.2 with h1 | ⟨g, cap, cur, h1, h2, h3⟩
  · exact .inl h1
  · exact .inr ⟨g, cap, cur, h1, by omega, h3⟩
/-- A new list of its own. -/
def NewsO (w : World) (l : List Int) : Ending → World → Prop := fun e w' => ∃ A n c, e = .returned (.slice A n c) ∧ w'.ownsRow w.heap.size 3 1 (.slice A n c) n (TabI.i64s l) ∧ Below w.heap.size w w'
section
variable {w : World} {A : Option Addr} {n c : Nat} {l : List Int}
set_option maxRecDepth 100000 in
theorem clone_own {b o : Nat} (hR : Rd w (some ⟨b, o, none⟩) n c (TabI.i64s l)) (hn : n ≤ 100) : Calls Try.prog 39 #[.slice (some ⟨b, o, none⟩) n c] w (NewsO w l) := by
  obtain ⟨i0, hi0, hz0, hz1, hz2⟩ := info_of info_int
  have hnil := fun (W : World) (a : Option Addr) (n c : Nat) => Lib.run_eql_slice_nil (P := Try.prog) W 64 3 a n c 0 0 Try.underlying64
  have HR := Lib.hid hR
  clear hR
  go_enter Try.func39, Try.ntmps39
  go_wp2_with (at_builtin; refine wpList_add _ rfl (.tmp 5) (.tmp 6) _ rfl w.heap.size 3 i0 _ 8 Try.underlying64 hi0 hz0 hz1 hz2 rfl _ 0 [] rfl (emptied w _) (some ⟨b, o, none⟩) n c (TabI.i64s l) rfl (HR.out.alloc _) (TabI.i64s_one _) (by omega) (by omega) (size_alloc _ _) ?_; intro A2 n2 c2 w2 hn2 hown2 hg2 hat2; have hb2 := below_add ((Below.refl w.heap.size w).alloc (Nat.le_refl _) _) (emptied w _) (Nat.le_refl _) hg2)
  go_ret
  have h3 : w2.ownsRow w.heap.size 3 1 (.slice A2 n2 c2) n2 (TabI.i64s l) := by simpa using hown2
  exact ⟨A2, n2, c2, rfl, h3, hb2⟩
end
/-- A state that is told: its lists lie in memory from block B on. -/
def Sv (B : Nat) (w : World) (z : Z) (x : Value) : Prop := ∃ A1 n1 c1 A2 n2 c2, x = .agg #[.int .i64 z.pc, .slice A1 n1 c1, .slice A2 n2 c2, .int .i64 z.tk, .int .i64 z.ft] ∧ w.ownsRow B 3 1 (.slice A1 n1 c1) n1 (TabI.i64s z.st) ∧ w.ownsRow B 3 1 (.slice A2 n2 c2) n2 (TabI.i64s z.mem)
def z28 : List Value := [.int .i64 0, .int .i64 0, .int .i64 0, .int .i64 0, .int .i64 0, .int .i64 0, .int .i64 0, .int .i64 0, .int .i64 0, .int .i64 0, .int .i64 0, .int .i64 0, .int .i64 0, .int .i64 0, .int .i64 0, .int .i64 0, .int .i64 0, .int .i64 0, .int .i64 0, .int .i64 0, .int .i64 0, .int .i64 0, .int .i64 0, .int .i64 0, .int .i64 0, .int .i64 0, .int .i64 0, .int .i64 0]
theorem sc_one (v : V) : ∀ u ∈ scells v, u.oneCell' = true := by
  intro u hu
  unfold scells i64s at hu
  simp only [List.mem_cons, List.mem_append, List.mem_map, List.not_mem_nil, or_false] at hu
  rcases hu with rfl | ⟨_, _, rfl⟩ | rfl | ⟨_, _, rfl⟩ | rfl | rfl <;> rfl
theorem size_st : (Try.prog.info? 66).map (·.size) = some 5 := by kernel_rfl
set_option maxRecDepth 100000 in
set_option maxHeartbeats 1600000 in
theorem state_any {M : Nat} {i : Im} {v : V} {w : World} (hB : Blk w M 91 (mc i v)) (h : v.ok) (hm : 0 ≤ i.m ∧ i.m ≤ 16) : Calls Try.prog 23 #[.pointer (some ⟨M, 0, none⟩)] w fun e w' => ∃ x, e = .returned x ∧ Sv w.heap.size w' (v.z i.m.toNat) x ∧ Below w.heap.size w w' := by
  have hMl := hB.lt
  have HOK := Lib.hid h
  obtain ⟨wa, hwa⟩ : ∃ wa, wa = w.alloc (.cells #[.int .i64 0, .slice none 0 0, .slice none 0 0, .int .i64 0, .int .i64 0] 66) := ⟨_, rfl⟩
  have HBA := Lib.hid (show Below w.heap.size w wa from by rw [hwa]; exact (Below.refl _ _).alloc (Nat.le_refl _) _)
  have HRA := Lib.hid (show Blk wa w.heap.size 66 [.int .i64 0, .slice none 0 0, .slice none 0 0, .int .i64 0, .int .i64 0] from by rw [hwa]; exact Blk.new w _ _)
  have HSA := Lib.hid (show wa.heap.size = w.heap.size + 1 from by rw [hwa]; exact World.size_alloc _ _)
  have HMA := Lib.hid (hB.below HBA.out)
  obtain ⟨p, hp⟩ : ∃ p, p = v.pc := ⟨_, rfl⟩
  obtain ⟨hh, hhh⟩ : ∃ hh, hh = v.h := ⟨_, rfl⟩
  obtain ⟨tk, htk⟩ : ∃ tk, tk = v.tk := ⟨_, rfl⟩
  obtain ⟨ft, hft⟩ : ∃ ft, ft = v.ft := ⟨_, rfl⟩
  obtain ⟨mN, hmN⟩ : ∃ mN : Nat, i.m = mN := ⟨i.m.toNat, by omega⟩
  obtain ⟨sb, hsb⟩ : ∃ sb, sb = w.heap.size + 1 := ⟨_, rfl⟩
  have h8 : hh ≤ 8 := by rw [hhh]; exact h.h8
  have h8i : (hh : Int) ≤ 8 := by omega
  have h0i : (0 : Int) ≤ (hh : Int) := by omega
  have m16 : mN ≤ 16 := by omega
  have m16i : (mN : Int) ≤ 16 := by omega
  have m0i : (0 : Int) ≤ (mN : Int) := by omega
  have HCL := Lib.hid (show ∀ w', Blk w' sb 89 (scells v) ∧ Blk w' M 91 (mc i v) → w'.cell? ⟨sb, 0, none⟩ = some (.int .i64 p) ∧ w'.cell? ⟨sb, 9, none⟩ = some (.int .i64 hh) ∧ w'.cell? ⟨M, 3, none⟩ = some (.int .i64 mN) ∧ w'.cell? ⟨sb, 26, none⟩ = some (.int .i64 tk) ∧ w'.cell? ⟨sb, 27, none⟩ = some (.int .i64 ft) from fun w' hh2 => by
    rw [hp, hhh, ← hmN, htk, hft]
    exact ⟨hh2.1.cell (sc_pc v), hh2.1.cell (sc_h h), hh2.2.cell (i := 3) rfl, hh2.1.cell (sc_tk h), hh2.1.cell (sc_ft h)⟩)
  have HRS := Lib.hid (show ∀ w', Blk w' sb 89 (scells v) ∧ Blk w' M 91 (mc i v) → Rd w' (some ⟨sb, 1, none⟩) hh 8 (TabI.i64s (v.s.take hh)) from fun w' hh2 => by rw [hhh]; exact rd_s h hh2.1)
  have HRM := Lib.hid (show ∀ w', Blk w' sb 89 (scells v) ∧ Blk w' M 91 (mc i v) → Rd w' (some ⟨sb, 10, none⟩) mN 16 (TabI.i64s (v.m.take mN)) from fun w' hh2 => rd_m h m16 hh2.1)
  have HZ := Lib.hid (show v.z i.m.toNat = ⟨p, v.s.take hh, v.m.take mN, tk, ft⟩ from by rw [hp, hhh, htk, hft, hmN]; rfl)
  have HZ28 := Lib.hid (show (Try.prog.info? 89).map (·.size) = some (scells v).length from by rw [sc_len h]; exact size_state)
  have HZB := Lib.hid (show Blk ((w.alloc (.cells #[.int .i64 0, .slice none 0 0, .slice none 0 0, .int .i64 0, .int .i64 0] 66)).alloc (.cells z28.toArray 89)) (w.heap.size + 1) 89 z28 from by have q := Blk.new (w.alloc (.cells #[.int .i64 0, .slice none 0 0, .slice none 0 0, .int .i64 0, .int .i64 0] 66)) 89 z28; rwa [World.size_alloc] at q)
  clear hB h hm hp hhh htk hft hmN
  go_enter Try.func23, Try.ntmps23
  go_wp2_with (first
    | (refine wpList_load_part rfl 89 (.tmp 9) rfl M 8 rfl (scells v) (show Blk (w.alloc _) M _ _ from by rw [← hwa]; exact HMA.out) (by unfold mc; rw [List.drop_left' (by rfl), List.take_length]) Try.underlying89 rfl HZ28.out ?_)
    | (refine wpList_store_blk rfl 89 (.tmp 3) (.tmp 10) rfl (w.heap.size + 1) rfl (scells v) rfl HZB.out (by rw [sc_len HOK.out]; rfl) HZ28.out (sc_one v) ?_; intro w4 hB4 ho4))
  have hb4 : Below w.heap.size w w4 := ho4.out.below (by have q : Below w.heap.size w (w.alloc (.cells #[.int .i64 0, .slice none 0 0, .slice none 0 0, .int .i64 0, .int .i64 0] 66)) := (Below.refl _ _).alloc (Nat.le_refl _) _; exact q.alloc q.size _) (by omega) (by simp; omega)
  have HB4 := Lib.hid hb4
  rw [← hsb] at hB4 ho4
  have hM4 := (show Blk w4 M 91 (mc i v) from ho4.out.blk (by have q := HMA.out.alloc (.cells z28.toArray 89); rw [hwa] at q; exact q) (by omega))
  have HR4 := Lib.hid (show Blk w4 w.heap.size 66 [.int .i64 0, .slice none 0 0, .slice none 0 0, .int .i64 0, .int .i64 0] from ho4.out.blk (by have q := HRA.out.alloc (.cells z28.toArray 89); rw [hwa] at q; exact q) (by omega))
  have HS4 := Lib.hid (show Blk w4 sb 89 (scells v) ∧ Blk w4 M 91 (mc i v) from ⟨hB4.out, hM4⟩)
  rw [← hsb]
  have HSB := Lib.hid hsb
  clear hB4 ho4 hM4 hb4 hwa HZB HRA HMA hsb
  refine wp_region_held_drew (S := fun w' => Blk w' sb 89 (scells v) ∧ Blk w' M 91 (mc i v)) (by kernel_rfl) HS4.out (fun hS => ?_)
  refine wpAnyH_take (i := 0) (v := .pointer (some ⟨sb, 0, none⟩)) rfl (by kernel_rfl) (by kernel_rfl) (by kernel_rfl) (fun _ _ _ h => h) (Or.inl ⟨by rfl, fun w hS => (by first | rfl | (go_simp; done))⟩) hS ?_
  try simp only [Act.put, List.getElem_toArray, List.getElem_cons_succ, List.getElem_cons_zero, List.setIfInBounds_toArray, List.set_cons_zero, List.set_cons_succ]
  refine wpAnyH_take (i := 1) (v := .int .i64 p) rfl (by kernel_rfl) (by kernel_rfl) (by kernel_rfl) (fun _ _ _ h => h) (Or.inl ⟨by rfl, fun w hS => (by have h0 := HCL.out w hS; obtain ⟨q0, q1, q2, q3, q4⟩ := h0; go_simp; done)⟩) hS ?_
  try simp only [Act.put, List.getElem_toArray, List.getElem_cons_succ, List.getElem_cons_zero, List.setIfInBounds_toArray, List.set_cons_zero, List.set_cons_succ]
  refine wpAnyH_take (i := 2) (v := .pointer (some ⟨sb, 1, none⟩)) rfl (by kernel_rfl) (by kernel_rfl) (by kernel_rfl) (fun _ _ _ h => h) (Or.inl ⟨by rfl, fun w hS => (by first | rfl | (go_simp; done))⟩) hS ?_
  try simp only [Act.put, List.getElem_toArray, List.getElem_cons_succ, List.getElem_cons_zero, List.setIfInBounds_toArray, List.set_cons_zero, List.set_cons_succ]
  refine wpAnyH_take (i := 3) (v := .pointer (some ⟨sb, 9, none⟩)) rfl (by kernel_rfl) (by kernel_rfl) (by kernel_rfl) (fun _ _ _ h => h) (Or.inl ⟨by rfl, fun w hS => (by first | rfl | (go_simp; done))⟩) hS ?_
  try simp only [Act.put, List.getElem_toArray, List.getElem_cons_succ, List.getElem_cons_zero, List.setIfInBounds_toArray, List.set_cons_zero, List.set_cons_succ]
  refine wpAnyH_take (i := 4) (v := .int .i64 (hh : Nat)) rfl (by kernel_rfl) (by kernel_rfl) (by kernel_rfl) (fun _ _ _ h => h) (Or.inl ⟨by rfl, fun w hS => (by have h0 := HCL.out w hS; obtain ⟨q0, q1, q2, q3, q4⟩ := h0; go_simp; done)⟩) hS ?_
  try simp only [Act.put, List.getElem_toArray, List.getElem_cons_succ, List.getElem_cons_zero, List.setIfInBounds_toArray, List.set_cons_zero, List.set_cons_succ]
  refine wpAnyH_take (i := 5) (v := .slice (some ⟨sb, 1, none⟩) hh 8) rfl (by kernel_rfl) (by kernel_rfl) (by kernel_rfl) (fun _ _ _ h => h) (Or.inl ⟨by rfl, fun w hS => (by first | rfl | (go_simp; done))⟩) hS ?_
  try simp only [Act.put, List.getElem_toArray, List.getElem_cons_succ, List.getElem_cons_zero, List.setIfInBounds_toArray, List.set_cons_zero, List.set_cons_succ]
  refine wpAnyH_take (i := 7) (v := .pointer (some ⟨sb, 10, none⟩)) rfl (by kernel_rfl) (by kernel_rfl) (by kernel_rfl) (fun _ _ _ h => h) (Or.inl ⟨by rfl, fun w hS => (by first | rfl | (go_simp; done))⟩) hS ?_
  try simp only [Act.put, List.getElem_toArray, List.getElem_cons_succ, List.getElem_cons_zero, List.setIfInBounds_toArray, List.set_cons_zero, List.set_cons_succ]
  refine wpAnyH_take (i := 8) (v := .pointer (some ⟨M, 0, none⟩)) rfl (by kernel_rfl) (by kernel_rfl) (by kernel_rfl) (fun _ _ _ h => h) (Or.inl ⟨by rfl, fun w hS => (by first | rfl | (go_simp; done))⟩) hS ?_
  try simp only [Act.put, List.getElem_toArray, List.getElem_cons_succ, List.getElem_cons_zero, List.setIfInBounds_toArray, List.set_cons_zero, List.set_cons_succ]
  refine wpAnyH_take (i := 9) (v := .pointer (some ⟨M, 0, none⟩)) rfl (by kernel_rfl) (by kernel_rfl) (by kernel_rfl) (fun _ _ _ h => h) (Or.inl ⟨by rfl, fun w hS => (by first | rfl | (go_simp; done))⟩) hS ?_
  try simp only [Act.put, List.getElem_toArray, List.getElem_cons_succ, List.getElem_cons_zero, List.setIfInBounds_toArray, List.set_cons_zero, List.set_cons_succ]
  refine wpAnyH_take (i := 10) (v := .pointer (some ⟨M, 0, none⟩)) rfl (by kernel_rfl) (by kernel_rfl) (by kernel_rfl) (fun _ _ _ h => h) (Or.inl ⟨by rfl, fun w hS => (by first | rfl | (go_simp; done))⟩) hS ?_
  try simp only [Act.put, List.getElem_toArray, List.getElem_cons_succ, List.getElem_cons_zero, List.setIfInBounds_toArray, List.set_cons_zero, List.set_cons_succ]
  refine wpAnyH_take (i := 11) (v := .pointer (some ⟨M, 3, none⟩)) rfl (by kernel_rfl) (by kernel_rfl) (by kernel_rfl) (fun _ _ _ h => h) (Or.inl ⟨by rfl, fun w hS => (by first | rfl | (go_simp; done))⟩) hS ?_
  try simp only [Act.put, List.getElem_toArray, List.getElem_cons_succ, List.getElem_cons_zero, List.setIfInBounds_toArray, List.set_cons_zero, List.set_cons_succ]
  refine wpAnyH_take (i := 12) (v := .int .i64 (mN : Nat)) rfl (by kernel_rfl) (by kernel_rfl) (by kernel_rfl) (fun _ _ _ h => h) (Or.inl ⟨by rfl, fun w hS => (by have h0 := HCL.out w hS; obtain ⟨q0, q1, q2, q3, q4⟩ := h0; go_simp; done)⟩) hS ?_
  try simp only [Act.put, List.getElem_toArray, List.getElem_cons_succ, List.getElem_cons_zero, List.setIfInBounds_toArray, List.set_cons_zero, List.set_cons_succ]
  refine wpAnyH_take (i := 13) (v := .slice (some ⟨sb, 10, none⟩) mN 16) rfl (by kernel_rfl) (by kernel_rfl) (by kernel_rfl) (fun _ _ _ h => h) (Or.inl ⟨by rfl, fun w hS => (by first | rfl | (go_simp; done))⟩) hS ?_
  try simp only [Act.put, List.getElem_toArray, List.getElem_cons_succ, List.getElem_cons_zero, List.setIfInBounds_toArray, List.set_cons_zero, List.set_cons_succ]
  refine wpAnyH_take (i := 15) (v := .pointer (some ⟨sb, 26, none⟩)) rfl (by kernel_rfl) (by kernel_rfl) (by kernel_rfl) (fun _ _ _ h => h) (Or.inl ⟨by rfl, fun w hS => (by first | rfl | (go_simp; done))⟩) hS ?_
  try simp only [Act.put, List.getElem_toArray, List.getElem_cons_succ, List.getElem_cons_zero, List.setIfInBounds_toArray, List.set_cons_zero, List.set_cons_succ]
  refine wpAnyH_take (i := 16) (v := .int .i64 tk) rfl (by kernel_rfl) (by kernel_rfl) (by kernel_rfl) (fun _ _ _ h => h) (Or.inl ⟨by rfl, fun w hS => (by have h0 := HCL.out w hS; obtain ⟨q0, q1, q2, q3, q4⟩ := h0; go_simp; done)⟩) hS ?_
  try simp only [Act.put, List.getElem_toArray, List.getElem_cons_succ, List.getElem_cons_zero, List.setIfInBounds_toArray, List.set_cons_zero, List.set_cons_succ]
  refine wpAnyH_take (i := 17) (v := .pointer (some ⟨sb, 27, none⟩)) rfl (by kernel_rfl) (by kernel_rfl) (by kernel_rfl) (fun _ _ _ h => h) (Or.inl ⟨by rfl, fun w hS => (by first | rfl | (go_simp; done))⟩) hS ?_
  try simp only [Act.put, List.getElem_toArray, List.getElem_cons_succ, List.getElem_cons_zero, List.setIfInBounds_toArray, List.set_cons_zero, List.set_cons_succ]
  refine wpAnyH_take (i := 18) (v := .int .i64 ft) rfl (by kernel_rfl) (by kernel_rfl) (by kernel_rfl) (fun _ _ _ h => h) (Or.inl ⟨by rfl, fun w hS => (by have h0 := HCL.out w hS; obtain ⟨q0, q1, q2, q3, q4⟩ := h0; go_simp; done)⟩) hS ?_
  try simp only [Act.put, List.getElem_toArray, List.getElem_cons_succ, List.getElem_cons_zero, List.setIfInBounds_toArray, List.set_cons_zero, List.set_cons_succ]
  refine wpAnyH_ready (rs := [6]) (by kernel_rfl) (by simp) ?_
  refine AllReadyH.cons rfl (fun K hK => ?_) (AllReadyH.nil)
  rw [if_pos (by rfl)]
  go_simp
  refine (clone_own (HRS.out _ hS) (by omega)).mono ?_
  rintro e w5 ⟨A1, n1, c1, rfl, h1, h3⟩
  dsimp only
  refine hK.out _ _ ⟨hS.1.below h3, hS.2.below h3⟩ (fun hS => ?_)
  clear hK K
  have HL1 := Lib.hid h1
  have HB5 := Lib.hid (HB4.out.trans (Below.mono (show Below w4.heap.size w4 w5 from ⟨h3.os, h3.tape, h3.output, h3.size, h3.block⟩) HB4.out.size))
  have HR5 := Lib.hid (HR4.out.below (show Below w4.heap.size w4 w5 from ⟨h3.os, h3.tape, h3.output, h3.size, h3.block⟩))
  have HZ5 := Lib.hid (show w4.heap.size ≤ w5.heap.size from h3.size)
  clear h1 h3
  try simp only [Act.put, List.getElem_toArray, List.getElem_cons_succ, List.getElem_cons_zero, List.setIfInBounds_toArray, List.set_cons_zero, List.set_cons_succ]
  refine wpAnyH_ready (rs := [14]) (by kernel_rfl) (by simp) ?_
  refine AllReadyH.cons rfl (fun K hK => ?_) (AllReadyH.nil)
  rw [if_pos (by rfl)]
  go_simp
  refine (clone_own (HRM.out _ hS) (by omega)).mono ?_
  rintro e w6 ⟨A2, n2, c2, rfl, h1, h3⟩
  dsimp only
  refine hK.out _ _ ⟨hS.1.below h3, hS.2.below h3⟩ (fun hS => ?_)
  clear hK K
  have HL2 := Lib.hid h1
  have HL1' := Lib.hid (own_below HL1.out h3)
  have HB6 := Lib.hid (HB5.out.trans (h3.mono HB5.out.size))
  have h6 := HR5.out.below h3
  have y0 := h6.cell (i := 0) rfl
  have y1 := h6.cell (i := 1) rfl
  have y2 := h6.cell (i := 2) rfl
  have y3 := h6.cell (i := 3) rfl
  have y4 := h6.cell (i := 4) rfl
  have u0 := h6.frozen 0
  have u1 := h6.frozen 1
  have u2 := h6.frozen 2
  have u3 := h6.frozen 3
  have u4 := h6.frozen 4
  have HR6 := Lib.hid h6
  clear h1 h3 h6
  try simp only [Act.put, List.getElem_toArray, List.getElem_cons_succ, List.getElem_cons_zero, List.setIfInBounds_toArray, List.set_cons_zero, List.set_cons_succ]
  refine wpAnyH_take (i := 19) (v := .agg #[.int .i64 p, .slice A1 n1 c1, .slice A2 n2 c2, .int .i64 tk, .int .i64 ft]) rfl (by kernel_rfl) (by kernel_rfl) (by kernel_rfl) (fun _ _ _ h => h) (Or.inl ⟨by rfl, fun w hS => (by first | rfl | (go_simp; done))⟩) hS ?_
  try simp only [Act.put, List.getElem_toArray, List.getElem_cons_succ, List.getElem_cons_zero, List.setIfInBounds_toArray, List.set_cons_zero, List.set_cons_succ]
  refine wpAnyH_ready (rs := [20]) (by kernel_rfl) (by simp) ?_
  refine AllReadyH.cons rfl (fun K hK => ?_) (AllReadyH.nil)
  rw [if_pos (by rfl)]
  go_simp
  obtain ⟨w7, hw7⟩ : ∃ w7, w7 = ((((w6.setCell ⟨w.heap.size, 0, none⟩ (.int .i64 p)).setCell ⟨w.heap.size, 1, none⟩ (.slice A1 n1 c1)).setCell ⟨w.heap.size, 2, none⟩ (.slice A2 n2 c2)).setCell ⟨w.heap.size, 3, none⟩ (.int .i64 tk)).setCell ⟨w.heap.size, 4, none⟩ (.int .i64 ft) := ⟨_, rfl⟩
  have hk7 : Keep (fun k => k = w.heap.size) w6 w7 := by
    rw [hw7]
    exact ((((Keep.set (F := fun k => k = w.heap.size) w6 0 _ rfl).trans (Keep.set (F := fun k => k = w.heap.size) _ 1 _ rfl) fun _ h => .inl h).trans (Keep.set (F := fun k => k = w.heap.size) _ 2 _ rfl) fun _ h => .inl h).trans (Keep.set (F := fun k => k = w.heap.size) _ 3 _ rfl) fun _ h => .inl h).trans (Keep.set (F := fun k => k = w.heap.size) _ 4 _ rfl) fun _ h => .inl h
  have hR7 : Blk w7 w.heap.size 66 [.int .i64 p, .slice A1 n1 c1, .slice A2 n2 c2, .int .i64 tk, .int .i64 ft] := by
    rw [hw7]
    exact ((((HR6.out.set 0 (.int .i64 p)).set 1 (.slice A1 n1 c1)).set 2 (.slice A2 n2 c2)).set 3 (.int .i64 tk)).set 4 (.int .i64 ft)
  have HK7 := Lib.hid hk7
  have HR7 := Lib.hid hR7
  rw [← hw7]
  refine hK.out _ _ ⟨hk7.blk hS.1 (by have := HSB.out; omega), hk7.blk hS.2 (by omega)⟩ (fun hS => ?_)
  clear hK K hS hw7 hk7 hR7 y0 y1 y2 y3 y4 u0 u1 u2 u3 u4
  try simp only [Act.put, List.getElem_toArray, List.getElem_cons_succ, List.getElem_cons_zero, List.setIfInBounds_toArray, List.set_cons_zero, List.set_cons_succ]
  refine wpAnyH_done (by kernel_rfl) ?_ _
  go_wp2_with fail
  refine ret_row (g := w.heap.size) (cs := #[.int .i64 p, .slice A1 n1 c1, .slice A2 n2 c2, .int .i64 tk, .int .i64 ft]) Try.results23 rfl rfl HR7.out Try.underlying66 rfl size_st ?_
  have q4 : w.heap.size < w4.heap.size := HR4.out.lt
  have q5 := HZ5.out
  refine ⟨_, rfl, ⟨A1, n1, c1, A2, n2, c2, by rw [HZ.out], ?_, ?_⟩, HB6.out.trans (HK7.out.below (fun k hk => by omega) HB6.out.size)⟩
  · rw [HZ.out]
    refine HK7.out.own (own_low (base := w4.heap.size) HL1'.out (by omega)) fun k hk => ?_
    have q6 : w4.heap.size ≤ k := (HL1'.out.lt k hk).1
    omega
  · rw [HZ.out]
    refine HK7.out.own (own_low (base := w5.heap.size) HL2.out (by omega)) fun k hk => ?_
    have q6 : w5.heap.size ≤ k := (HL2.out.lt k hk).1
    omega
end Go.Proofs.Ytliiinffkcgcaaa.VmcS
namespace Go.Proofs.Ytliiinffkcgcaaa.VmcT
open Go.RowKit Go.Proofs.Ytliiinffkcgcaaa.Kit Go.Proofs.Ytliiinffkcgcaaa.Byt Go.Proofs.Ytliiinffkcgcaaa.Mem Go.Proofs.Ytliiinffkcgcaaa.OpsM Go.Proofs.Ytliiinffkcgcaaa.VmcM Go.Proofs.Ytliiinffkcgcaaa.VmcS
open Go.Proofs.Ytliiinffkcgcaaa.TabI (i64s i64s_len)
open Go.Proofs.Ytliiinffkcgcaaa.PrtB (bel_drewN)
open Go.Proofs.Ytliiinffkcgcaaa.PrtO (i64_at)

/-- Are two states alike? -/
def zsame (a b : Z) : Prop := a.pc = b.pc ∧ a.tk = b.tk ∧ a.ft = b.ft ∧ a.st = b.st ∧ a.mem = b.mem
theorem Sv.below {B : Nat} {w w' : World} {z : Z} {x : Value} (h : Sv B w z x) (hb : Below w.heap.size w w') : Sv B w' z x := by
  obtain ⟨A1, n1, c1, A2, n2, c2, h1, h2, h3⟩ := h
  exact ⟨A1, n1, c1, A2, n2, c2, h1, own_below h2 hb, own_below h3 hb⟩
theorem cells_eq {l m : List Int} {n : Nat} (hl : l.length = n) (hm : m.length = n) (h : ∀ j, j < n → l[j]? = m[j]?) : l = m := by
  apply List.ext_getElem?
  intro j
  by_cases hj : j < n
  · exact h j hj
  · rw [List.getElem?_eq_none (by omega), List.getElem?_eq_none (by omega)]
/-- The boxes of two states. -/
structure Two5 (w : World) (a b : Z) (A1 : Option Addr) (n1 c1 : Nat) (A2 : Option Addr) (n2 c2 : Nat) (D1 : Option Addr) (m1 d1 : Nat) (D2 : Option Addr) (m2 d2 : Nat) (wr : World) : Prop where
  x : Blk wr w.heap.size 66 [.int .i64 a.pc, .slice A1 n1 c1, .slice A2 n2 c2, .int .i64 a.tk, .int .i64 a.ft]
  y : Blk wr (w.heap.size + 1) 66 [.int .i64 b.pc, .slice D1 m1 d1, .slice D2 m2 d2, .int .i64 b.tk, .int .i64 b.ft]
  bel : Below w.heap.size w wr
set_option maxRecDepth 100000 in
set_option maxHeartbeats 3200000 in
theorem core_same (a b : Z) (A1 : Option Addr) (n1 c1 : Nat) (A2 : Option Addr) (n2 c2 : Nat) (D1 : Option Addr) (m1 d1 : Nat) (D2 : Option Addr) (m2 d2 : Nat) (w : World) (h1 : Rd w A1 n1 c1 (i64s a.st)) (h2 : Rd w A2 n2 c2 (i64s a.mem)) (k1 : Rd w D1 m1 d1 (i64s b.st)) (k2 : Rd w D2 m2 d2 (i64s b.mem)) (hn : n1 ≤ 1000 ∧ n2 ≤ 1000 ∧ m1 ≤ 1000 ∧ m2 ≤ 1000) (r : Bool) (hr : r = true ↔ zsame a b) :
    Calls Try.prog 22 #[.agg #[.int .i64 a.pc, .slice A1 n1 c1, .slice A2 n2 c2, .int .i64 a.tk, .int .i64 a.ft], .agg #[.int .i64 b.pc, .slice D1 m1 d1, .slice D2 m2 d2, .int .i64 b.tk, .int .i64 b.ft]] w fun e w' => e = .returned (.bool r) ∧ Below w.heap.size w w' := by
  obtain ⟨ap, sa, ma, at_, af⟩ := a
  obtain ⟨bp, sb, mb, bt, bf⟩ := b
  dsimp only at h1 h2 k1 k2
  obtain ⟨q1, q2, q3, q4⟩ := hn
  have e1 : sa.length = n1 := by have := h1.1; rwa [i64s_len] at this
  have e2 : ma.length = n2 := by have := h2.1; rwa [i64s_len] at this
  have e3 : sb.length = m1 := by have := k1.1; rwa [i64s_len] at this
  have e4 : mb.length = m2 := by have := k2.1; rwa [i64s_len] at this
  have HR := Lib.hid (show r = true ↔ ap = bp ∧ at_ = bt ∧ af = bf ∧ sa = sb ∧ ma = mb from hr)
  have HF := Lib.hid (show ∀ q : Prop, (r = true → q) → ¬ q → r = false from fun q hh hp => by rw [Bool.eq_false_iff]; exact fun hb => hp (hh hb))
  have HB := Lib.hid (show ∀ C1 C2 : Array Value, Below w.heap.size w ((w.alloc (.cells C1 66)).alloc (.cells C2 66)) from fun C1 C2 => ((Below.refl _ _).alloc (Nat.le_refl _) _).alloc (by simp) _)
  have H1 := Lib.hid h1
  have H2 := Lib.hid h2
  have K1 := Lib.hid k1
  have K2 := Lib.hid k2
  have E := Lib.hid (show sa.length = n1 ∧ ma.length = n2 ∧ sb.length = m1 ∧ mb.length = m2 from ⟨e1, e2, e3, e4⟩)
  clear h1 h2 k1 k2 hr e1 e2 e3 e4
  by_cases c1' : ap = bp
  rotate_left 1
  · have hrf := Lib.hid (HF.out _ (fun h => (HR.out.1 h).1) c1')
    go_enter Try.func22, Try.ntmps22
    go_wp2
    go_ret
    exact ⟨by rw [hrf.out]; rfl, HB.out _ _⟩
  by_cases c2' : at_ = bt
  rotate_left 1
  · have hrf := Lib.hid (HF.out _ (fun h => (HR.out.1 h).2.1) c2')
    go_enter Try.func22, Try.ntmps22
    go_wp2
    go_ret
    exact ⟨by rw [hrf.out]; rfl, HB.out _ _⟩
  by_cases c3' : af = bf
  rotate_left 1
  · have hrf := Lib.hid (HF.out _ (fun h => (HR.out.1 h).2.2.1) c3')
    go_enter Try.func22, Try.ntmps22
    go_wp2
    go_ret
    exact ⟨by rw [hrf.out]; rfl, HB.out _ _⟩
  by_cases c4' : n1 = m1
  rotate_left 1
  · have hrf := Lib.hid (HF.out _ (fun h => (HR.out.1 h).2.2.2.1) (fun h => c4' (by have := E.out; rw [h] at this; omega)))
    go_enter Try.func22, Try.ntmps22
    go_wp2
    go_ret
    exact ⟨by rw [hrf.out]; rfl, HB.out _ _⟩
  by_cases c5' : n2 = m2
  rotate_left 1
  · have hrf := Lib.hid (HF.out _ (fun h => (HR.out.1 h).2.2.2.2) (fun h => c5' (by have := E.out; rw [h] at this; omega)))
    go_enter Try.func22, Try.ntmps22
    go_wp2
    go_ret
    exact ⟨by rw [hrf.out]; rfl, HB.out _ _⟩
  subst c1' c2' c3' c4' c5'
  have HR2 := Lib.hid (show sa = sb → ma = mb → r = true from fun h1 h2 => HR.out.2 ⟨rfl, rfl, rfl, h1, h2⟩)
  have HB1 := Lib.hid (show Two5 w ⟨ap, sa, ma, at_, af⟩ ⟨ap, sb, mb, at_, af⟩ A1 n1 c1 A2 n2 c2 D1 n1 d1 D2 n2 d2 ((w.alloc (.cells #[.int .i64 ap, .slice A1 n1 c1, .slice A2 n2 c2, .int .i64 at_, .int .i64 af] 66)).alloc (.cells #[.int .i64 ap, .slice D1 n1 d1, .slice D2 n2 d2, .int .i64 at_, .int .i64 af] 66)) from
    ⟨(Blk.new w _ _).alloc _, by have q := Blk.new (w.alloc (.cells #[.int .i64 ap, .slice A1 n1 c1, .slice A2 n2 c2, .int .i64 at_, .int .i64 af] 66)) 66 [.int .i64 ap, .slice D1 n1 d1, .slice D2 n2 d2, .int .i64 at_, .int .i64 af]; rwa [World.size_alloc] at q, HB.out _ _⟩)
  go_enter Try.func22, Try.ntmps22
  go_wp2_with fail
  go_loopw [5] (fun z wr => ∃ k : Nat, k ≤ n1 ∧ z = .int .i64 k ∧ Hid (Two5 w ⟨ap, sa, ma, at_, af⟩ ⟨ap, sb, mb, at_, af⟩ A1 n1 c1 A2 n2 c2 D1 n1 d1 D2 n2 d2 wr) ∧ Hid (∀ j, j < k → sa[j]? = sb[j]?)) (fun z _ => n1 - (intOf z).toNat)
  case atStart => exact ⟨0, Nat.zero_le _, rfl, HB1, Lib.hid fun j hj => by omega⟩
  case round =>
    obtain ⟨k, hk, rfl, HT, HQ⟩ := hrel
    clear HB1
    by_cases hlt : k < n1
    · obtain ⟨x, bx, ox, hx1, hAx, _, gx⟩ := i64_at (H1.out.below HT.out.bel) hlt
      obtain ⟨y, by', oy, hy1, hAy, _, gy⟩ := i64_at (K1.out.below HT.out.bel) hlt
      have x1 := HT.out.x.cell (i := 1) rfl
      have y1 := HT.out.y.cell (i := 1) rfl
      try dsimp only at x1 y1
      rw [hAx] at x1
      rw [hAy] at y1
      by_cases hxy : x = y
      rotate_left 1
      · have hne : (x != y) = true := by simpa using hxy
        have hrf := Lib.hid (HF.out _ (fun h => (HR.out.1 h).2.2.2.1) (fun h => hxy (by rw [h, hy1] at hx1; injection hx1 with hx1; exact hx1.symm)))
        clear hx1 hy1 hxy hAx hAy
        go_wp2_with fail
        go_quiet (fail)
        go_wp2
        go_ret
        exact ⟨by rw [hrf.out]; rfl, bel_drewN HT.out.bel _⟩
      · subst hxy
        have HE := Lib.hid (show ∀ j, j < k + 1 → sa[j]? = sb[j]? from fun j hj => by
          by_cases hjk : j = k
          · rw [hjk, hx1, hy1]
          · exact HQ.out j (by omega))
        clear hx1 hy1 hAx hAy
        go_wp2_with fail
        go_quiet (fail)
        have HT2 := Lib.hid (show Two5 w ⟨ap, sa, ma, at_, af⟩ ⟨ap, sb, mb, at_, af⟩ A1 n1 c1 A2 n2 c2 D1 n1 d1 D2 n2 d2 (wr.drewN nq) from ⟨HT.out.x, HT.out.y, bel_drewN HT.out.bel _⟩)
        go_wp2
        go_roundw
        case rel => exact ⟨k + 1, by omega, by go_num, HT2, HE⟩
        case measure => simp [intOf]; omega
    · have u1 := HT.out.x.cell (i := 1) rfl
      obtain rfl : k = n1 := by omega
      have HS1 := Lib.hid (show sa = sb from cells_eq E.out.1 E.out.2.2.1 HQ.out)
      clear HQ
      obtain ⟨wo, rfl⟩ : ∃ wo : World, wo = wr := ⟨_, rfl⟩
      have HT1 := HT
      clear HT
      go_wp2_with fail
      clear u1
      go_loopw [6] (fun z wr2 => ∃ k2 : Nat, k2 ≤ n2 ∧ z = .int .i64 k2 ∧ Hid (Two5 w ⟨ap, sa, ma, at_, af⟩ ⟨ap, sb, mb, at_, af⟩ A1 k c1 A2 n2 c2 D1 k d1 D2 n2 d2 wr2) ∧ Hid (∀ j, j < k2 → ma[j]? = mb[j]?)) (fun z _ => n2 - (intOf z).toNat)
      case atStart => exact ⟨0, Nat.zero_le _, rfl, HT1, Lib.hid fun j hj => by omega⟩
      case round =>
        obtain ⟨k2, hk2, rfl, HT, HQ⟩ := hrel
        clear HT1
        by_cases hlt : k2 < n2
        · obtain ⟨x, bx, ox, hx1, hAx, _, gx⟩ := i64_at (H2.out.below HT.out.bel) hlt
          obtain ⟨y, by', oy, hy1, hAy, _, gy⟩ := i64_at (K2.out.below HT.out.bel) hlt
          have x1 := HT.out.x.cell (i := 2) rfl
          have y1 := HT.out.y.cell (i := 2) rfl
          try dsimp only at x1 y1
          rw [hAx] at x1
          rw [hAy] at y1
          by_cases hxy : x = y
          rotate_left 1
          · have hne : (x != y) = true := by simpa using hxy
            have hrf := Lib.hid (HF.out _ (fun h => (HR.out.1 h).2.2.2.2) (fun h => hxy (by rw [h, hy1] at hx1; injection hx1 with hx1; exact hx1.symm)))
            clear hx1 hy1 hxy hAx hAy
            go_wp2_with fail
            go_quiet (fail)
            go_wp2
            go_ret
            exact ⟨by rw [hrf.out]; rfl, bel_drewN HT.out.bel _⟩
          · subst hxy
            have HE := Lib.hid (show ∀ j, j < k2 + 1 → ma[j]? = mb[j]? from fun j hj => by
              by_cases hjk : j = k2
              · rw [hjk, hx1, hy1]
              · exact HQ.out j (by omega))
            clear hx1 hy1 hAx hAy
            go_wp2_with fail
            go_quiet (fail)
            have HT2 := Lib.hid (show Two5 w ⟨ap, sa, ma, at_, af⟩ ⟨ap, sb, mb, at_, af⟩ A1 k c1 A2 n2 c2 D1 k d1 D2 n2 d2 (wr.drewN nq) from ⟨HT.out.x, HT.out.y, bel_drewN HT.out.bel _⟩)
            go_wp2
            go_roundw
            case rel => exact ⟨k2 + 1, by omega, by go_num, HT2, HE⟩
            case measure => simp [intOf]; omega
        · have u2 := HT.out.x.cell (i := 2) rfl
          obtain rfl : k2 = n2 := by omega
          have HS2 := Lib.hid (show ma = mb from cells_eq E.out.2.1 E.out.2.2.2 HQ.out)
          have hrt := Lib.hid (HR2.out HS1.out HS2.out)
          go_wp2
          go_ret
          exact ⟨by rw [hrt.out]; rfl, HT.out.bel⟩
/-- Are two states that are told alike? -/
theorem same_any {B1 B2 : Nat} {a b : Z} {x y : Value} (w : World) (ha : Sv B1 w a x) (hb : Sv B2 w b y) (hn : a.st.length ≤ 1000 ∧ a.mem.length ≤ 1000 ∧ b.st.length ≤ 1000 ∧ b.mem.length ≤ 1000) (r : Bool) (hr : r = true ↔ zsame a b) :
    Calls Try.prog 22 #[x, y] w fun e w' => e = .returned (.bool r) ∧ Below w.heap.size w w' := by
  obtain ⟨A1, n1, c1, A2, n2, c2, rfl, o1, o2⟩ := ha
  obtain ⟨D1, m1, d1, D2, m2, d2, rfl, o3, o4⟩ := hb
  have h1 := Rd.own o1
  have h2 := Rd.own o2
  have k1 := Rd.own o3
  have k2 := Rd.own o4
  have e1 : a.st.length = n1 := by have := h1.1; rwa [i64s_len] at this
  have e2 : a.mem.length = n2 := by have := h2.1; rwa [i64s_len] at this
  have e3 : b.st.length = m1 := by have := k1.1; rwa [i64s_len] at this
  have e4 : b.mem.length = m2 := by have := k2.1; rwa [i64s_len] at this
  exact core_same a b A1 n1 c1 A2 n2 c2 D1 m1 d1 D2 m2 d2 w h1 h2 k1 k2 (by omega) r hr
theorem seq (o a q b : Int) (w : World) : (Op.equalIn 10000 79 (.agg #[.int .i64 o, .int .i64 a]) (.agg #[.int .i64 q, .int .i64 b])).run Try.prog w = .ok (decide (o = q ∧ a = b)) w := by
  have ht : Try.prog.underlying 79 = some (.struct (Try.prog.fieldsOf 79)) := by kernel_rfl
  have hp : Try.prog.stoodInHeld 79 = false := by kernel_rfl
  rw [show (10000 : Nat) = 9999 + 1 from rfl, run_equalIn_struct w 9999 _ _ _ ht hp]
  have e : decide (o = q ∧ a = b) = ((o == q) && (a == b)) := by rw [Bool.eq_iff_iff]; simp
  rw [e]
  simp [go_sem, Op.eqFields, Try.underlying79, Try.underlying3]
  (repeat' split) <;> simp [*]
set_option maxRecDepth 100000 in
set_option maxHeartbeats 800000 in
/-- What was sent is the same. -/
theorem sameSent_any (A D : Option Addr) (n c m d : Nat) (l : List (Int × Int)) (w : World) (h : Prs w A n c l) (k : Prs w D m d l) (hn : l.length ≤ 100000) :
    Calls Try.prog 18 #[.slice A n c, .slice D m d] w fun e w' => e = .returned (.bool true) ∧ Below w.heap.size w w' := by
  obtain rfl : l.length = n := h.1
  obtain rfl : l.length = m := k.1
  have HQ := Lib.hid (fun (o a : Int) (w' : World) => seq o a o a w')
  have hq : ∀ (o a : Int) (w' : World), (Op.equalIn 10000 79 (.agg #[.int .i64 o, .int .i64 a]) (.agg #[.int .i64 o, .int .i64 a])).run Try.prog w' = .ok true w' := fun o a w' => by rw [seq]; simp
  have H := Lib.hid h
  have K := Lib.hid k
  clear h k
  go_enter Try.func18, Try.ntmps18
  go_wp2_with fail
  go_loopw [5] (fun z wr => ∃ k : Nat, k ≤ l.length ∧ z = .int .i64 k ∧ Hid (Below w.heap.size w wr)) (fun z _ => l.length - (intOf z).toNat)
  case atStart => exact ⟨0, Nat.zero_le _, rfl, Lib.hid (Below.refl _ _)⟩
  case round =>
    obtain ⟨k, hk, rfl, HB⟩ := hrel
    by_cases hlt : k < l.length
    · obtain ⟨a1, m1, b1, o1, hx1, _, _, rfl, gx1, gx2⟩ := (H.out.below HB.out).at_ hlt
      obtain ⟨a2, m2, b2, o2, hx2, _, _, rfl, gy1, gy2⟩ := (K.out.below HB.out).at_ hlt
      obtain ⟨rfl, rfl⟩ : a1 = a2 ∧ m1 = m2 := by rw [hx1] at hx2; injection hx2 with hx2; injection hx2 with p q; exact ⟨p, q⟩
      clear hx1 hx2
      go_wp2_with fail
      go_quiet (fail)
      have HB2 := Lib.hid (bel_drewN HB.out nq)
      go_wp2
      go_roundw
      case rel => exact ⟨k + 1, by omega, by go_num, HB2⟩
      case measure => simp [intOf]; omega
    · go_wp2
      go_ret
      exact ⟨rfl, HB.out⟩
end Go.Proofs.Ytliiinffkcgcaaa.VmcT
namespace Go.Proofs.Ytliiinffkcgcaaa.VmcU
open Go.RowKit Go.Proofs.Ytliiinffkcgcaaa.Kit Go.Proofs.Ytliiinffkcgcaaa.Byt Go.Proofs.Ytliiinffkcgcaaa.Mem Go.Proofs.Ytliiinffkcgcaaa.OpsM Go.Proofs.Ytliiinffkcgcaaa.VmcM Go.Proofs.Ytliiinffkcgcaaa.VmcA Go.Proofs.Ytliiinffkcgcaaa.VmcE Go.Proofs.Ytliiinffkcgcaaa.VmcF Go.Proofs.Ytliiinffkcgcaaa.VmcG Go.Proofs.Ytliiinffkcgcaaa.VmcJ Go.Proofs.Ytliiinffkcgcaaa.VmcK Go.Proofs.Ytliiinffkcgcaaa.VmcN Go.Proofs.Ytliiinffkcgcaaa.VmcL Go.Proofs.Ytliiinffkcgcaaa.VmcP Go.Proofs.Ytliiinffkcgcaaa.VmcS Go.Proofs.Ytliiinffkcgcaaa.VmcT Go.Proofs.Ytliiinffkcgcaaa.PrtM Go.Proofs.Ytliiinffkcgcaaa.PrtA Go.Proofs.Ytliiinffkcgcaaa.PrtG
open Go.Proofs.Ytliiinffkcgcaaa.ImgA (Im)
open Go.Proofs.Ytliiinffkcgcaaa.TabA (Tri Tris Ta)
open Go.Proofs.Ytliiinffkcgcaaa.TabB (PartOk)
open Go.Proofs.Ytliiinffkcgcaaa.TabC (WinOk endAt)
open Go.Proofs.Ytliiinffkcgcaaa.TabE (tcells Tris.of_blk ret_row size_table)
open Go.Proofs.Ytliiinffkcgcaaa.BitM (hb)
abbrev tright := Go.Proofs.Ytliiinffkcgcaaa.TabD.right

def exP : List Tri := [⟨4, 8, 0⟩, ⟨4, 8, 0⟩]
def exW : List Tri := [⟨0, 0, 1⟩]
def exC : List Tri := [⟨0, 1, 0⟩]
def ex (g1 g2 g3 : Nat) : Ta := ⟨4, some ⟨g1, 0, none⟩, 2, 2, exP, some ⟨g2, 0, none⟩, 1, 1, exW, some ⟨g3, 0, none⟩, 1, 1, exC, 1⟩
theorem ex_right (g1 g2 g3 : Nat) : tright (ex g1 g2 g3) := by
  refine ⟨⟨by show (1 : Int) ≤ 4; omega, by show (4 : Int) ≤ 64; omega⟩, ⟨by show (1 : Int) ≤ 1; omega, by show (1 : Int) ≤ 7; omega⟩, ⟨⟨by show 2 ≤ 2; omega, by show 2 ≤ 4; omega⟩, ?_⟩, ⟨by show 1 ≤ 8; omega, ?_, 0, _, rfl, rfl⟩, ⟨by show 1 ≤ 4; omega, ?_⟩⟩
  · intro k r hr
    match k, hr with
    | 0, hr => injection hr with hr; subst hr; simp [PartOk]
    | 1, hr => injection hr with hr; subst hr; simp [PartOk]
    | k + 2, hr => simp [ex, exP] at hr
  · intro k r hr
    match k, hr with
    | 0, hr => injection hr with hr; subst hr; simp [WinOk, endAt, ex, exP]
    | k + 1, hr => simp [ex, exW] at hr
  · intro k r hr
    match k, hr with
    | 0, hr => injection hr with hr; subst hr; simp [Go.Proofs.Ytliiinffkcgcaaa.TabC.ChanOk, ex, exP]
    | k + 1, hr => simp [ex, exC] at hr
theorem exP_ok : ∀ r ∈ exP, r.ok := by
  intro r hr
  simp only [exP, List.mem_cons, List.not_mem_nil, or_false] at hr
  rcases hr with rfl | rfl <;> exact ⟨by decide, by decide, by decide, by decide, by decide, by decide⟩
theorem exW_ok : ∀ r ∈ exW, r.ok := by
  intro r hr
  simp only [exW, List.mem_cons, List.not_mem_nil, or_false] at hr
  subst hr
  exact ⟨by decide, by decide, by decide, by decide, by decide, by decide⟩
theorem exC_ok : ∀ r ∈ exC, r.ok := by
  intro r hr
  simp only [exC, List.mem_cons, List.not_mem_nil, or_false] at hr
  subst hr
  exact ⟨by decide, by decide, by decide, by decide, by decide, by decide⟩
theorem ex_ok {w : World} {g1 g2 g3 : Nat} {t1 t2 t3 : TypeId} (h1 : Blk w g1 t1 (tcells exP)) (h2 : Blk w g2 t2 (tcells exW)) (h3 : Blk w g3 t3 (tcells exC)) : (ex g1 g2 g3).ok w :=
  ⟨Tris.of_blk (R := exP) (c := 2) (xs := []) (by simpa using h1) (Nat.le_refl _) (by decide) exP_ok, Tris.of_blk (R := exW) (c := 1) (xs := []) (by simpa using h2) (Nat.le_refl _) (by decide) exW_ok, Tris.of_blk (R := exC) (c := 1) (xs := []) (by simpa using h3) (Nat.le_refl _) (by decide) exC_ok,
    by show -9223372036854775808 ≤ (4 : Int); omega, by show (4 : Int) ≤ 9223372036854775807; omega, by show -9223372036854775808 ≤ (1 : Int); omega, by show (1 : Int) ≤ 9223372036854775807; omega⟩
theorem five (w : World) (o0 o1 : Obj) (t2 t3 t4 : TypeId) (x2 x3 x4 : List Value) :
    Blk (((((w.alloc o0).alloc o1).alloc (.cells x2.toArray t2)).alloc (.cells x3.toArray t3)).alloc (.cells x4.toArray t4)) (w.heap.size + 1 + 1) t2 x2 ∧
    Blk (((((w.alloc o0).alloc o1).alloc (.cells x2.toArray t2)).alloc (.cells x3.toArray t3)).alloc (.cells x4.toArray t4)) (w.heap.size + 1 + 1 + 1) t3 x3 ∧
    Blk (((((w.alloc o0).alloc o1).alloc (.cells x2.toArray t2)).alloc (.cells x3.toArray t3)).alloc (.cells x4.toArray t4)) (w.heap.size + 1 + 1 + 1 + 1) t4 x4 ∧
    Below w.heap.size w (((((w.alloc o0).alloc o1).alloc (.cells x2.toArray t2)).alloc (.cells x3.toArray t3)).alloc (.cells x4.toArray t4)) := by
  refine ⟨?_, ?_, ?_, ?_⟩
  · have h := ((Blk.new ((w.alloc o0).alloc o1) t2 x2).alloc (.cells x3.toArray t3)).alloc (.cells x4.toArray t4)
    rwa [World.size_alloc, World.size_alloc] at h
  · have h := (Blk.new (((w.alloc o0).alloc o1).alloc (.cells x2.toArray t2)) t3 x3).alloc (.cells x4.toArray t4)
    rwa [World.size_alloc, World.size_alloc, World.size_alloc] at h
  · have h := Blk.new ((((w.alloc o0).alloc o1).alloc (.cells x2.toArray t2)).alloc (.cells x3.toArray t3)) t4 x4
    rwa [World.size_alloc, World.size_alloc, World.size_alloc, World.size_alloc] at h
  · exact ((((Below.refl _ w).alloc (Nat.le_refl _) _).alloc (by simp) _).alloc (by simp; omega) _).alloc (by simp; omega) _ |>.alloc (by simp; omega) _
set_option maxRecDepth 100000 in
theorem example_any (w : World) : Calls Try.prog 26 #[] w fun e w' => ∃ g1 g2 g3, e = .returned (ex g1 g2 g3).val ∧ (ex g1 g2 g3).ok w' ∧ Below w.heap.size w w' := by
  go_enter Try.func26, Try.ntmps26
  go_wp2
  obtain ⟨b2, b3, b4, hb⟩ := five w (.cells #[.int .i64 4, .slice (some ⟨w.heap.size + 1 + 1, 0, none⟩) 2 2, .slice (some ⟨w.heap.size + 1 + 1 + 1, 0, none⟩) 1 1, .slice (some ⟨w.heap.size + 1 + 1 + 1 + 1, 0, none⟩) 1 1, .int .i64 1] 26) (.cells #[.int .i64 4, .int .i64 8, .int .i64 0] 81) 81 84 59 (tcells exP) (tcells exW) (tcells exC)
  refine ret_row (g := w.heap.size) (t := 26) (cs := #[.int .i64 4, .slice (some ⟨w.heap.size + 1 + 1, 0, none⟩) 2 2, .slice (some ⟨w.heap.size + 1 + 1 + 1, 0, none⟩) 1 1, .slice (some ⟨w.heap.size + 1 + 1 + 1 + 1, 0, none⟩) 1 1, .int .i64 1]) Try.results26 rfl rfl (alloc_old (alloc_old (alloc_old (alloc_old (heap_alloc_new w _))))) Try.underlying26 rfl size_table ?_
  exact ⟨_, _, _, rfl, ex_ok b2 b3 b4, hb⟩

theorem own_lower {B B0 : Nat} {w : World} {e : TypeId} {size n : Nat} {v : Value} {xs : List Value} (h : w.ownsRow B e size v n xs) (hb : B0 ≤ B) : w.ownsRow B0 e size v n xs := by
  refine ⟨h.1, ?_⟩
  rcases h.2 with h1 | ⟨g, cap, cur, h1, h2, rest⟩
  · exact .inl h1
  · exact .inr ⟨g, cap, cur, h1, Nat.le_trans hb h2, rest⟩
section
variable {B B0 S n c : Nat} {w : World} {ρ : Nat → Lab} {A : Option Addr} {Q : Nat → Nat} {C : List Tri} {L : Nat → List Int}
theorem Chs.lower (h : Chs B w ρ S A n c Q C L) (hb : B0 ≤ B) : Chs B0 w ρ S A n c Q C L where
  bd := fun i hi => ⟨Nat.le_trans hb (h.bd i hi).1, (h.bd i hi).2⟩
  base := Nat.le_trans hb h.base
  set := h.set
  lset := h.lset
  list := own_lower h.list hb
  llist := h.llist
  len := h.len
  most := h.most
  ok := h.ok
  head := fun k r hr => by
    obtain ⟨e1, e2⟩ := h.head k r hr
    refine ⟨e1, ?_⟩
    rcases e2 with e2 | ⟨h0, A, n, c, k1, k2, k3, k4⟩
    · exact .inl e2
    · exact .inr ⟨h0, A, n, c, k1, own_lower k2 hb, k3, k4⟩
/-- A block that bears no label is given one. -/
theorem Chs.name (h : Chs B w ρ S A n c Q C L) {g : Nat} (l : Lab) (hg : ρ g = .out) (hB : B ≤ g) (hl : g < w.heap.size) : Chs B w (fun k => if k = g then l else ρ k) S A n c Q C L := by
  have key : ∀ k, ρ k ≠ .out → (if k = g then l else ρ k) = ρ k := fun k hk => if_neg (fun e => hk (by rw [e]; exact hg))
  exact {
    bd := fun i hi => by
      by_cases he : i = g
      · rw [he]; exact ⟨hB, hl⟩
      · exact h.bd i (fun e => hi ((if_neg he).trans e))
    base := h.base
    set := h.set
    lset := by rw [key S (by rw [h.lset]; intro e; cases e)]; exact h.lset
    list := h.list
    llist := fun g2 hg2 => by rw [key g2 (by rw [h.llist g2 hg2]; intro e; cases e)]; exact h.llist g2 hg2
    len := h.len
    most := h.most
    ok := h.ok
    head := fun k r hr => by
      obtain ⟨e1, e2⟩ := h.head k r hr
      refine ⟨by rw [key _ (by rw [e1]; intro e; cases e)]; exact e1, ?_⟩
      rcases e2 with e2 | ⟨h0, A, n, c, k1, k2, k3, k4⟩
      · exact .inl e2
      · exact .inr ⟨h0, A, n, c, k1, k2, k3, fun g2 hg2 => (key g2 (by rw [k4 g2 hg2]; intro e; cases e)).trans (k4 g2 hg2)⟩ }
/-- A machine that was made ahead of the channels. -/
theorem mw_start {w1 : World} {M : Nat} {j : Im} {v : V} (hM : Blk w1 M 91 (mc j v)) (hv : v.ok) (hj : j.ok w1) (hne : ∀ b o, j.A = some ⟨b, o, none⟩ → 0 < j.n → b ≠ M) (hb : Below w1.heap.size w1 w) (hc : Chs B w ρ S A n c Q C L) (hB : w1.heap.size ≤ B) (h0 : B0 ≤ M) :
    Mw B0 w (fun k => if k = M then .own 0 else ρ k) M j S A n c Q C v L := by
  have hl : M < w1.heap.size := hM.lt
  have hout : ∀ k, k < w1.heap.size → ρ k = .out := fun k hk => Classical.byContradiction fun hn => by have := (hc.bd k hn).1; omega
  refine ⟨Chs.name (Chs.lower hc (by omega)) _ (hout M hl) h0 (Nat.lt_of_lt_of_le hl hb.size), hM.below hb, if_pos rfl, hv, hj.below hb, fun b o hA hn => ?_⟩
  rw [if_neg (hne b o hA hn)]
  obtain ⟨b', o', hA', hlt, _⟩ := hj.code.2.2.2 hn
  rw [hA'] at hA
  injection hA with hA
  injection hA with hA
  exact hout b (by omega)
end
end Go.Proofs.Ytliiinffkcgcaaa.VmcU
namespace Go.Proofs.Ytliiinffkcgcaaa.VmcV
open Go.RowKit Go.Proofs.Ytliiinffkcgcaaa.Kit Go.Proofs.Ytliiinffkcgcaaa.Byt Go.Proofs.Ytliiinffkcgcaaa.Mem Go.Proofs.Ytliiinffkcgcaaa.OpsM Go.Proofs.Ytliiinffkcgcaaa.VmcM Go.Proofs.Ytliiinffkcgcaaa.VmcA Go.Proofs.Ytliiinffkcgcaaa.VmcE Go.Proofs.Ytliiinffkcgcaaa.VmcF Go.Proofs.Ytliiinffkcgcaaa.VmcG Go.Proofs.Ytliiinffkcgcaaa.VmcJ Go.Proofs.Ytliiinffkcgcaaa.VmcK Go.Proofs.Ytliiinffkcgcaaa.VmcN Go.Proofs.Ytliiinffkcgcaaa.VmcL Go.Proofs.Ytliiinffkcgcaaa.VmcP Go.Proofs.Ytliiinffkcgcaaa.VmcS Go.Proofs.Ytliiinffkcgcaaa.VmcT Go.Proofs.Ytliiinffkcgcaaa.VmcU Go.Proofs.Ytliiinffkcgcaaa.PrtM Go.Proofs.Ytliiinffkcgcaaa.PrtA Go.Proofs.Ytliiinffkcgcaaa.PrtG
open Go.Proofs.Ytliiinffkcgcaaa.ImgA (Im Yes)
open Go.Proofs.Ytliiinffkcgcaaa.ImgB (right)
open Go.Proofs.Ytliiinffkcgcaaa.TabA (Tri Tris Ta)

def exI (A : Option Addr) (c : Nat) : Im := ⟨0, 1, 0, 1, 8, 1, 0, A, 8, c, [1, 2, 1, 3, 5, 14, 0, 0]⟩
theorem ex_tick (A : Option Addr) (c : Nat) : (tickV (exI A c) exC v0 none_).sn = [(0, 5)] ∧ (tickV (exI A c) exC v0 none_).v.pc = 8 := ⟨by kernel_rfl, by kernel_rfl⟩
theorem exI_right (A : Option Addr) (c : Nat) : right (exI A c) := by
  unfold right exI
  simp
theorem Cop.like {w w' : World} {i j : Im} (h : Cop w i j w') (hr : right i) : right j := by
  obtain ⟨⟨h1, h2, h3, h4, h5, h6, h7, h8, _⟩, _⟩ := h
  unfold right at hr ⊢
  rw [h1, h2, h3, h4, h5, h6, h7, h8]
  exact hr
theorem exI_cop {w w' : World} {A : Option Addr} {c : Nat} {j : Im} (h : Cop w (exI A c) j w') : j = exI j.A j.c := by
  obtain ⟨⟨h1, h2, h3, h4, h5, h6, h7, h8, h9⟩, _⟩ := h
  obtain ⟨p, v, hh, m, f, s, r, A', n, c', xs⟩ := j
  dsimp only at h1 h2 h3 h4 h5 h6 h7 h8 h9 ⊢
  rw [h1, h2, h3, h4, h5, h6, h7, h8, h9]
  rfl
theorem exI_ok {w : World} {g : Nat} (hB : Blk w g 5 [.int .u8 1, .int .u8 2, .int .u8 1, .int .u8 3, .int .u8 5, .int .u8 14, .int .u8 0, .int .u8 0]) : (exI (some ⟨g, 0, none⟩) 8).ok w :=
  ⟨⟨rfl, Nat.le_refl _, (by show 8 ≤ 9223372036854775807; omega), fun _ => ⟨g, 0, rfl, hB.lt, fun j u hu => by rw [Nat.zero_add]; exact hB.cell hu⟩⟩, by show ∀ u ∈ [1, 2, 1, 3, 5, 14, 0, 0], u < 256; decide⟩
set_option maxRecDepth 100000 in
set_option maxHeartbeats 1600000 in
theorem wakes_any (w : World) : Calls Try.prog 7 #[] w (Yes w true) := by
  obtain ⟨wa, hwa⟩ : ∃ wa, wa = w.alloc (.cells #[.int .u8 1, .int .u8 2, .int .u8 1, .int .u8 3, .int .u8 5, .int .u8 14, .int .u8 0, .int .u8 0] 5) := ⟨_, rfl⟩
  have hba : Below w.heap.size w wa := by rw [hwa]; exact (Below.refl _ _).alloc (Nat.le_refl _) _
  have HI := Lib.hid (show (exI (some ⟨w.heap.size, 0, none⟩) 8).ok wa from exI_ok (by rw [hwa]; exact Blk.new w _ _))
  have HBA := Lib.hid hba
  clear hba
  go_enter Try.func7, Try.ntmps7
  go_wp2_with fail
  rw [← hwa]
  clear hwa
  refine (new_yes (exI (some ⟨w.heap.size, 0, none⟩) 8) wa HI.out (exI_right _ _)).mono ?_
  rintro e w1 ⟨M, j, rfl, hM, hMl, hne, hj⟩
  have HM := Lib.hid hM
  have HJ := Lib.hid hj
  have HE := Lib.hid (exI_cop hj)
  have HR := Lib.hid (Cop.like hj (exI_right _ _))
  have HML := Lib.hid hMl
  have HNE := Lib.hid hne
  have HB1 := Lib.hid (HBA.out.trans (hj.2.2.2.mono HBA.out.size))
  clear hM hj hne hMl
  go_wp2_with fail
  refine (example_any _).mono ?_
  rintro e w2 ⟨g1, g2, g3, rfl, hok, hb2⟩
  have HO := Lib.hid hok
  have HB2 := Lib.hid hb2
  clear hok hb2
  go_wp2_with fail
  refine (PrtH.new_yes (ex g1 g2 g3) _ HO.out (ex_right _ _ _)).mono ?_
  rintro e w3 ⟨S, ρ, A, c, Q, rfl, h0, hb3⟩
  have HB3 := Lib.hid (HB2.out.trans (hb3.mono HB2.out.size))
  have HMW := Lib.hid (mw_start (B0 := w.heap.size) HM.out v0_ok HJ.out.2.1 HNE.out HB3.out (show Chs w2.heap.size w3 ρ S A 1 c Q exC none_ from h0) HB2.out.size (by have := HBA.out.size; have := HML.out; omega))
  have HB4 := Lib.hid (HB1.out.trans (HB3.out.mono HB1.out.size))
  clear h0 hb3 HO HB2 HB3 HM HJ HNE
  go_wp2_with fail
  refine (tick_goes HMW.out rfl HR.out ⟨by decide, by decide⟩ ⟨by decide, by decide⟩ rfl).mono ?_
  intro e w4 hk
  have hx := ex_tick j.A j.c
  rw [← HE.out] at hx
  obtain ⟨A4, n4, c4, ρ4, rfl, hp, hl, hm, hs⟩ := hk
  rw [hx.1] at hp
  obtain rfl : 1 = n4 := hp.1
  obtain ⟨a', m', b', o', hq, _, _, rfl, g0, g1⟩ := hp.at_ (k := 0) (by omega)
  obtain ⟨rfl, rfl⟩ : a' = 0 ∧ m' = 5 := by simp at hq; exact ⟨hq.1.symm, hq.2.symm⟩
  rw [show o' + 0 * 2 = o' from by omega] at g0 g1
  have hbl : b' < w4.heap.size := block_lt_of_cell g0
  have HB5 := Lib.hid (HB4.out.trans (hs.below HMW.out.chs.bd out_vm0 HMW.out.chs.base))
  have HPC := Lib.hid (show ((tickV j exC v0 none_).v.z j.m.toNat).pc = 8 from hx.2)
  have HST := Lib.hid (fun w' (hb : Below w4.heap.size w4 w') => state_any (hm.blk.below hb) hm.ok (by have := HR.out.2.2.2.1; omega))
  have HQ := Lib.hid (fun w' => seq 0 5 0 5 w')
  have hq2 : ∀ w', (Op.equalIn 10000 79 (.agg #[.int .i64 0, .int .i64 5]) (.agg #[.int .i64 0, .int .i64 5])).run Try.prog w' = .ok true w' := fun w' => by rw [seq]; simp
  obtain ⟨cfv, hcf⟩ : ∃ cfv, cfv = (tickV j exC v0 none_).cf := ⟨_, rfl⟩
  rw [← hcf]
  have HA := Lib.hid (show Below w4.heap.size w4 (w4.alloc (.cells #[.slice (some ⟨b', o', none⟩) 1 c4, .bool cfv] 51)) from (Below.refl _ _).alloc (Nat.le_refl _) _)
  clear hx hp hl hm hs hq hcf HMW HB4 HI HBA
  go_wp2_with fail
  refine (HST.out _ HA.out).mono ?_
  rintro e w6 ⟨x, rfl, hx, hb6⟩
  obtain ⟨A1, n1, c1, A2, n2, c2, rfl, _⟩ := hx
  rw [HPC.out]
  have HB6 := Lib.hid (HB5.out.trans ((HA.out.trans (hb6.mono HA.out.size)).mono HB5.out.size))
  have hfd := fun (w' : World) => Fld.run_field_one (P := Try.prog) (T := 66) (k := 0) (xs := [.int .i64 8, .slice A1 n1 c1, .slice A2 n2 c2, .int .i64 ((tickV j exC v0 none_).v.z j.m.toNat).tk, .int .i64 ((tickV j exC v0 none_).v.z j.m.toNat).ft]) (v := .int .i64 8) Try.underlying66 rfl ⟨_, Try.underlying3⟩ rfl w'
  clear hb6
  go_wp2
  go_ret
  exact ⟨rfl, HB6.out⟩
end Go.Proofs.Ytliiinffkcgcaaa.VmcV
namespace Go.Proofs.Ytliiinffkcgcaaa.VmcX
open Go.RowKit Go.Proofs.Ytliiinffkcgcaaa.Kit Go.Proofs.Ytliiinffkcgcaaa.Byt Go.Proofs.Ytliiinffkcgcaaa.Mem Go.Proofs.Ytliiinffkcgcaaa.OpsM Go.Proofs.Ytliiinffkcgcaaa.VmcM Go.Proofs.Ytliiinffkcgcaaa.VmcA Go.Proofs.Ytliiinffkcgcaaa.VmcE Go.Proofs.Ytliiinffkcgcaaa.VmcF Go.Proofs.Ytliiinffkcgcaaa.VmcG Go.Proofs.Ytliiinffkcgcaaa.VmcJ Go.Proofs.Ytliiinffkcgcaaa.VmcK Go.Proofs.Ytliiinffkcgcaaa.VmcN Go.Proofs.Ytliiinffkcgcaaa.VmcL Go.Proofs.Ytliiinffkcgcaaa.VmcP Go.Proofs.Ytliiinffkcgcaaa.VmcS Go.Proofs.Ytliiinffkcgcaaa.VmcT Go.Proofs.Ytliiinffkcgcaaa.VmcU Go.Proofs.Ytliiinffkcgcaaa.VmcV Go.Proofs.Ytliiinffkcgcaaa.PrtM Go.Proofs.Ytliiinffkcgcaaa.PrtA Go.Proofs.Ytliiinffkcgcaaa.PrtG
open Go.Proofs.Ytliiinffkcgcaaa.ImgA (Im Bx Yes)
open Go.Proofs.Ytliiinffkcgcaaa.ImgB (right)
open Go.Proofs.Ytliiinffkcgcaaa.TabA (Tri Tris Ta)
open Go.Proofs.Ytliiinffkcgcaaa.BitM (hb)

section
variable {B S n c M g : Nat} {w w0 w' : World} {ρ : Nat → Lab} {A : Option Addr} {Q : Nat → Nat} {C : List Tri} {L : Nat → List Int} {i : Im} {v : V}
theorem tick_any (h : Mw B w ρ M i S A n c Q C v L) (hi : right i) (hp : 0 ≤ v.pc ∧ v.pc ≤ 1000) (ht : 0 ≤ v.tk ∧ v.tk ≤ 1000000) {G : R} (hG : G = tickV i C v L) : Calls Try.prog 16 #[.pointer (some ⟨M, 0, none⟩), pv S] w (Tks B w ρ M i S A n c Q C G) := by
  by_cases hf : v.ft = 0
  · exact tick_goes h hf hi hp ht hG
  · have e : tickV i C v L = ⟨v, L, [], false, false⟩ := if_pos hf
    rw [hG, e]
    exact tick_stands h hf
theorem Bx.over (h : Bx w0 g i w) (hb : Below B w w') (hg : g < B) (h0 : w0.heap.size ≤ B) : Bx w0 g i w' := ⟨(hb.block g hg).trans h.blk, h.new_, h.bel.trans (hb.mono h0)⟩
theorem Bx.cells (h : Bx w0 g i w) : w.cell? ⟨g, 0, none⟩ = some (.int .i64 i.p) ∧ w.cell? ⟨g, 1, none⟩ = some (.int .i64 i.v) ∧ w.cell? ⟨g, 2, none⟩ = some (.int .i64 i.h) ∧ w.cell? ⟨g, 3, none⟩ = some (.int .i64 i.m) ∧ w.cell? ⟨g, 4, none⟩ = some (.int .i64 i.f) ∧ w.cell? ⟨g, 5, none⟩ = some (.int .i64 i.s) ∧ w.cell? ⟨g, 6, none⟩ = some (.int .i64 i.r) ∧ w.cell? ⟨g, 7, none⟩ = some (.slice i.A i.n i.c) :=
  ⟨h.blk.cell rfl, h.blk.cell rfl, h.blk.cell rfl, h.blk.cell rfl, h.blk.cell rfl, h.blk.cell rfl, h.blk.cell rfl, h.blk.cell rfl⟩
end
theorem hb_three {s k : Int} (h : hb s k = true) (h0 : 0 ≤ s) (h15 : s ≤ 15) : k ≤ 3 := by
  unfold hb at h
  simp only [decide_eq_true_eq] at h
  obtain ⟨h1, h2, h3⟩ := h
  by_cases hk : k ≤ 3
  · exact hk
  · exfalso
    have h4 : (16 : Int) ≤ BitM.pw k := by
      unfold BitM.pw
      have := Nat.pow_le_pow_right (n := 2) (by omega) (show 4 ≤ k.toNat by omega)
      have h3 : ((2 ^ 4 : Nat) : Int) ≤ ((2 ^ k.toNat : Nat) : Int) := by exact_mod_cast this
      simpa using h3
    rw [Int.ediv_eq_zero_of_lt h0 (by omega)] at h3
    exact absurd h3 (by decide)
theorem bit_on {s : Int} {k : Nat} (h : hb s k = true) (hk : k ≤ 3) : bits .and .i64 (s / 2 ^ min k 64) 1 = 1 := by
  have e := BitO.shr_has s (k := k) (by omega)
  rw [h] at e
  rw [Nat.min_eq_left (by omega)]
  simpa using e
end Go.Proofs.Ytliiinffkcgcaaa.VmcX
namespace Go.Proofs.Ytliiinffkcgcaaa.VmcY
open Go.RowKit Go.Proofs.Ytliiinffkcgcaaa.Kit Go.Proofs.Ytliiinffkcgcaaa.Byt Go.Proofs.Ytliiinffkcgcaaa.Mem Go.Proofs.Ytliiinffkcgcaaa.OpsM Go.Proofs.Ytliiinffkcgcaaa.VmcM Go.Proofs.Ytliiinffkcgcaaa.VmcA Go.Proofs.Ytliiinffkcgcaaa.VmcE Go.Proofs.Ytliiinffkcgcaaa.VmcF Go.Proofs.Ytliiinffkcgcaaa.VmcG Go.Proofs.Ytliiinffkcgcaaa.VmcJ Go.Proofs.Ytliiinffkcgcaaa.VmcK Go.Proofs.Ytliiinffkcgcaaa.VmcN Go.Proofs.Ytliiinffkcgcaaa.VmcL Go.Proofs.Ytliiinffkcgcaaa.VmcP Go.Proofs.Ytliiinffkcgcaaa.VmcS Go.Proofs.Ytliiinffkcgcaaa.VmcT Go.Proofs.Ytliiinffkcgcaaa.VmcX Go.Proofs.Ytliiinffkcgcaaa.PrtM Go.Proofs.Ytliiinffkcgcaaa.PrtA Go.Proofs.Ytliiinffkcgcaaa.PrtG
open Go.Proofs.Ytliiinffkcgcaaa.ImgA (Im Bx Yes)
open Go.Proofs.Ytliiinffkcgcaaa.ImgB (right)
open Go.Proofs.Ytliiinffkcgcaaa.TabA (Tri Tris Ta)

section
variable {B B0 S n c M : Nat} {w w' : World} {ρ ρ' : Nat → Lab} {A : Option Addr} {Q : Nat → Nat} {C : List Tri} {L : Nat → List Int} {i : Im} {v : V} {z : Z} {x : Value} {F : Lab → Prop}
theorem Sv.carry (h : Sv B0 w z x) (hs : Stp F w ρ w' ρ') (hF : ¬ F .out) (hl : ∀ b, B0 ≤ b → ρ b = .out) : Sv B0 w' z x := by
  obtain ⟨A1, n1, c1, A2, n2, c2, h1, h2, h3⟩ := h
  exact ⟨A1, n1, c1, A2, n2, c2, h1, hs.keep.own h2 fun k hk => by rw [hl k (h2.lt k hk).1]; exact hF, hs.keep.own h3 fun k hk => by rw [hl k (h3.lt k hk).1]; exact hF⟩
theorem Mw.fresh (h : Mw B w ρ M i S A n c Q C v L) : ∀ b, w.heap.size ≤ b → ρ b = .out := fun b hb => Classical.byContradiction fun hn => by have := (h.chs.bd b hn).2; omega
theorem tickV_one (hx : ∀ u ∈ i.xs, u < 256) (hl : i.xs.length ≤ 96) (h : v.ok) (hp : 0 ≤ v.pc ∧ v.pc ≤ 1000) (hf : v.ft = 0) : (tickV i C v L).v.tk = v.tk + 1 := by
  unfold tickV
  rw [if_neg (fun hh => hh hf)]
  obtain ⟨q1, q2, q3⟩ := goV_ok (C := C) hx hl i.f.toNat (r := ⟨v, L, [], false, false⟩) h hp
  show (goV i C i.f.toNat ⟨v, L, [], false, false⟩).v.tk + 1 = _
  rw [q3]
theorem tickV_same (hf : v.ft ≠ 0) : tickV i C v L = ⟨v, L, [], false, false⟩ := if_pos hf
theorem z_num (h : v.ok) (k : Nat) : ∀ x ∈ (v.z k).st ++ (v.z k).mem, num x := by
  intro x hx
  rcases List.mem_append.1 hx with hx | hx
  · exact h.ns x (List.mem_of_mem_take hx)
  · exact h.nm x (List.mem_of_mem_take hx)
theorem z_len (h : v.ok) {k : Nat} (hk : k ≤ 16) : (v.z k).st.length ≤ 8 ∧ (v.z k).mem.length = k := by
  have h1 := h.ls
  have h2 := h.lm
  have h3 := h.h8
  constructor
  · show (v.s.take v.h).length ≤ 8
    rw [List.length_take]
    omega
  · show (v.m.take k).length = k
    rw [List.length_take]
    omega
end
theorem z_start {k : Nat} (hk : k ≤ 16) : v0.z k = ⟨0, [], List.replicate k 0, 0, 0⟩ := by
  unfold V.z v0
  dsimp only
  congr 1
  have e : ([0, 0, 0, 0, 0, 0, 0, 0, 0, 0, 0, 0, 0, 0, 0, 0] : List Int) = List.replicate 16 0 := rfl
  rw [e, List.take_replicate, Nat.min_eq_left hk]
theorem built_state : Try.prog.built 89 [] = some (scells v0).toArray := by kernel_rfl
set_option maxRecDepth 100000 in
theorem reset_any {M : Nat} {i : Im} {v : V} {w : World} (hB : Blk w M 91 (mc i v)) (h : v.ok) : Calls Try.prog 21 #[.pointer (some ⟨M, 0, none⟩)] w fun e w' => e = .returned (.tuple #[]) ∧ Blk w' M 91 (mc i v0) ∧ Only M w w' := by
  have HB := Lib.hid hB
  have HOK := Lib.hid h
  have hMl := hB.lt
  have HBU := Lib.hid built_state
  clear hB h
  go_enter Try.func21, Try.ntmps21
  go_wp2_with (first
    | (refine wpList_build_l rfl 89 [] rfl (scells v0) HBU.out ?_)
    | (refine wpList_store_part rfl 89 (.tmp 7) (.tmp 5) rfl M 8 rfl (scells v0) rfl HB.out (by rw [mc_len HOK.out, sc_len v0_ok]; decide) (by rw [sc_len v0_ok]; exact size_state) (VmcS.sc_one _) ?_; intro w9 hB9 ho9))
  go_end0
  exact ⟨rfl, by have hB := hB9.out; rw [mc_splice HOK.out v0_ok] at hB; exact hB, ho9.out⟩
section
variable {P : Program} {o : Oper} {a : Act} {Q : Exit → Act → World → Prop}
theorem wp_make_room {K : Act → World → Prop} (w : World) (l c : Operand) (t : TypeId) (hop : o.op = Op.makeSlice t l c)
    (e : TypeId) (i : TypeInfo) (z : Value) (bytes : Nat) (h1 : P.underlying t = some (.slice e)) (h2 : P.info? e = some i) (h3 : i.zero = some z) (h4 : i.size = 1) (h5 : i.bytes = bytes) (hz : z.cells = #[z])
    (kl kc : IntKind) (m n : Nat) (hl : a.eval l = .int kl (m : Int)) (hc : a.eval c = .int kc (n : Int)) (hmn : m ≤ n) (b2 : bytes * n ≤ 281474976710656) (b3 : n ≤ 9223372036854775807)
    (hK : ∀ w', Hid (w'.heap[w.heap.size]? = some (.cells (List.replicate n z).toArray e (0, 0))) → Below w.heap.size w w' → w'.heap.size = w.heap.size + 1 → K (a.put o.dst (.slice (some ⟨w.heap.size, 0, none⟩) m n)) w') : o.wp P a w K Q := by
  subst h5
  have hb' : (i.bytes : Int) * (n : Int) ≤ 281474976710656 := by
    have h : ((i.bytes * n : Nat) : Int) ≤ 281474976710656 := by omega
    rwa [Int.natCast_mul] at h
  have hrun := run_make (P := P) w t e i z h1 h2 h3 kl kc m n (by omega) (by omega) hb' (by omega)
  simp only [Int.toNat_natCast, h4, Nat.mul_one, hz] at hrun
  have hm : madeCells #[z] n = (List.replicate n z).toArray := by
    apply Array.ext'
    rw [toList_madeCells_one]
  rw [hm] at hrun
  unfold Oper.wp
  simp [execOp, hop, hl, hc, hrun, Result.andThen]
  refine hK _ ?_ ((Below.refl _ _).alloc (Nat.le_refl _) _) (by simp)
  exact heap_alloc_new w _
end
theorem cell_below {w w' : World} {b o : Nat} {x : Value} (h : Below w.heap.size w w') (hc : w.cell? ⟨b, o, none⟩ = some x) : w'.cell? ⟨b, o, none⟩ = some x := by
  have hl : b < w.heap.size := block_lt_of_cell hc
  have e := h.block b hl
  unfold World.cell? at hc ⊢
  rw [e]
  exact hc
/-- Zeros in a block of their own, as a state's memory. -/
theorem sv_zero {w : World} {g m : Nat} (h : w.heap[g]? = some (.cells (List.replicate m (.int .i64 0)).toArray 3 (0, 0))) (hm : m ≤ 16) : Sv 0 w ⟨0, [], List.replicate m 0, 0, 0⟩ (.agg #[.int .i64 0, .slice none 0 0, .slice (some ⟨g, 0, none⟩) m m, .int .i64 0, .int .i64 0]) :=
  ⟨none, 0, 0, some ⟨g, 0, none⟩, m, m, rfl, World.ownsRow_nil _ _ _ _, by
    have q := own_of_block (base := 0) (n := m) h (Nat.zero_le _) (by simp) (by simp; omega)
    simpa [TabI.i64s] using q⟩
end Go.Proofs.Ytliiinffkcgcaaa.VmcY
namespace Go.Proofs.Ytliiinffkcgcaaa.VmBoundsW
open Go.RowKit Go.Proofs.Ytliiinffkcgcaaa.Kit Go.Proofs.Ytliiinffkcgcaaa.Byt Go.Proofs.Ytliiinffkcgcaaa.Mem Go.Proofs.Ytliiinffkcgcaaa.OpsM Go.Proofs.Ytliiinffkcgcaaa.VmcM Go.Proofs.Ytliiinffkcgcaaa.VmcA Go.Proofs.Ytliiinffkcgcaaa.VmcE Go.Proofs.Ytliiinffkcgcaaa.VmcF Go.Proofs.Ytliiinffkcgcaaa.VmcG Go.Proofs.Ytliiinffkcgcaaa.VmcJ Go.Proofs.Ytliiinffkcgcaaa.VmcK Go.Proofs.Ytliiinffkcgcaaa.VmcN Go.Proofs.Ytliiinffkcgcaaa.VmcL Go.Proofs.Ytliiinffkcgcaaa.VmcP Go.Proofs.Ytliiinffkcgcaaa.VmcS Go.Proofs.Ytliiinffkcgcaaa.VmcT Go.Proofs.Ytliiinffkcgcaaa.VmcU Go.Proofs.Ytliiinffkcgcaaa.VmcV Go.Proofs.Ytliiinffkcgcaaa.VmcX Go.Proofs.Ytliiinffkcgcaaa.VmcY Go.Proofs.Ytliiinffkcgcaaa.PrtM Go.Proofs.Ytliiinffkcgcaaa.PrtA Go.Proofs.Ytliiinffkcgcaaa.PrtB Go.Proofs.Ytliiinffkcgcaaa.PrtG
open Go.Proofs.Ytliiinffkcgcaaa.ImgA (Im Bx Yes open_image)
open Go.Proofs.Ytliiinffkcgcaaa.ImgB (right)
open Go.Proofs.Ytliiinffkcgcaaa.TabA (Tri Tris Ta)
open Go.Proofs.Ytliiinffkcgcaaa.TabI (i64s i64s_len i64s_one info_int info_of)
open Go.Proofs.Ytliiinffkcgcaaa.PrtO (i64_at)

set_option maxRecDepth 100000 in
set_option maxHeartbeats 6400000 in
theorem core (i : Im) (q : Nat) (w : World) (h : i.ok w) (hq : q < 256) : Calls Try.prog 4 #[i.val, .int .u8 (q : Nat)] w (Yes w true) := by
  have hn64 : i.n ≤ 9223372036854775807 := by have := h.code.2.1; have := h.code.2.2.1; omega
  have HOK := Lib.hid h
  have HX := Lib.hid (Bx.new w i)
  have HNB := Lib.hid (fun w' (hb : Below w.heap.size w w') (hr : ¬ right i) => new_bad i w' (h.below hb) hn64 hr)
  have HNY := Lib.hid (fun w' (hb : Below w.heap.size w w') (hr : right i) => new_yes i w' (h.below hb) hr)
  have HRR := Lib.hid (fun w' (hr : ¬ right i) => ImgB.rright_any i w' hn64 false ⟨(fun e => nomatch e), (fun e => absurd e hr)⟩)
  have HRI := Lib.hid (show ∀ w' j w'', Cop w' i j w'' → right i → (right j ∧ j.m = i.m) from fun w' j w'' hc hr => ⟨Cop.like hc hr, hc.1.2.2.2.1⟩)
  obtain ⟨i0, hi0, hz0, hz1, hz2⟩ := info_of info_int
  by_cases hr : right i
  rotate_left 1
  · have HR := Lib.hid hr
    obtain ⟨p, vv, hh, m, f, s, r, A, n, c, xs⟩ := i
    clear h hr hq
    show Calls _ _ #[.agg #[.int .i64 p, .int .i64 vv, .int .i64 hh, .int .i64 m, .int .i64 f, .int .i64 s, .int .i64 r, .slice A n c], _] w _
    go_enter Try.func4, Try.ntmps4
    go_wp2_with fail
    refine (wakes_any _).mono ?_
    rintro e w1 ⟨rfl, hb1⟩
    have HX1 := Lib.hid (HX.out.step hb1)
    clear hb1
    obtain ⟨x0, x1, x2, x3, x4, x5, x6, x7⟩ := Bx.cells HX1.out
    dsimp only at x0 x1 x2 x3 x4 x5 x6 x7
    go_wp2_with fail
    refine (HNB.out _ HX1.out.bel HR.out).mono ?_
    rintro e w2 ⟨rfl, hb2⟩
    have HX2 := Lib.hid (HX1.out.step hb2)
    clear hb2 x0 x1 x2 x3 x4 x5 x6 x7
    obtain ⟨x0, x1, x2, x3, x4, x5, x6, x7⟩ := Bx.cells HX2.out
    dsimp only at x0 x1 x2 x3 x4 x5 x6 x7
    go_wp2_with fail
    refine (HRR.out _ HR.out).mono ?_
    rintro e w3 ⟨rfl, hb3⟩
    have HB3 := Lib.hid (HX2.out.step hb3)
    clear hb3
    go_wp2
    go_ret
    exact ⟨rfl, HB3.out.bel⟩
  · have HR := Lib.hid hr
    have HM16 := Lib.hid (show 0 ≤ i.m ∧ i.m ≤ 16 from ⟨by have := hr.2.2.2.1.1; omega, hr.2.2.2.1.2⟩)
    obtain ⟨mN, hmN⟩ : ∃ mN : Nat, i.m = mN := ⟨i.m.toNat, by have := HM16.out; omega⟩
    have m16 : mN ≤ 16 := by have := HM16.out; omega
    have HMN := Lib.hid hmN
    obtain ⟨p, vv, hh, m, f, s, r, A, n, c, xs⟩ := i
    obtain rfl : m = (mN : Int) := hmN
    clear h hr
    show Calls _ _ #[.agg #[.int .i64 p, .int .i64 vv, .int .i64 hh, .int .i64 (mN : Int), .int .i64 f, .int .i64 s, .int .i64 r, .slice A n c], _] w _
    go_enter Try.func4, Try.ntmps4
    go_wp2_with fail
    refine (wakes_any _).mono ?_
    rintro e w1 ⟨rfl, hb1⟩
    have HX1 := Lib.hid (HX.out.step hb1)
    clear hb1
    obtain ⟨x0, x1, x2, x3, x4, x5, x6, x7⟩ := Bx.cells HX1.out
    dsimp only at x0 x1 x2 x3 x4 x5 x6 x7
    go_wp2_with fail
    refine (HNY.out _ HX1.out.bel HR.out).mono ?_
    rintro e w2 ⟨M, j, rfl, hM, hMl, hne, hj⟩
    have HM := Lib.hid hM
    have HJ := Lib.hid hj
    have HRJ := Lib.hid (show right j ∧ j.m = (mN : Int) from HRI.out _ _ _ hj HR.out)
    have HML := Lib.hid (show w.heap.size + 1 ≤ M from by have := HX1.out.blk.lt; omega)
    have HNE := Lib.hid hne
    have HX2 := Lib.hid (HX1.out.step hj.2.2.2)
    clear hM hj hne hMl x0 x1 x2 x3 x4 x5 x6 x7
    go_wp2_with fail
    refine (example_any _).mono ?_
    rintro e w3 ⟨g1, g2, g3, rfl, hok, hb3⟩
    have HO := Lib.hid hok
    have HB3 := Lib.hid hb3
    clear hok hb3
    go_wp2_with fail
    refine (PrtH.new_yes (ex g1 g2 g3) _ HO.out (ex_right _ _ _)).mono ?_
    rintro e w4 ⟨S, ρ, A0, c0, Q, rfl, h0, hb4⟩
    have HB4 := Lib.hid (HB3.out.trans (hb4.mono HB3.out.size))
    have HMW := Lib.hid (mw_start (B0 := w.heap.size + 1) HM.out v0_ok HJ.out.2.1 HNE.out HB4.out (show Chs w3.heap.size w4 ρ S A0 1 c0 Q exC none_ from h0) HB3.out.size HML.out)
    have HX4 := Lib.hid (HX2.out.step HB4.out)
    clear h0 hb4 HO HB3 HB4 HM HJ HNE
    go_wp2_with fail
    obtain ⟨T, hT⟩ : ∃ T : Nat, (T : Int) = (q : Int) % 50 := ⟨q % 50, by omega⟩
    have hT49 : T ≤ 49 := by omega
    rw [← hT]
    clear hT
    go_loopw [33] (fun z wr => ∃ (k : Nat) (ρk : Nat → Lab) (L : Nat → List Int) (v : V), k ≤ T ∧ z = .int .i64 k ∧ Hid (Mw (w.heap.size + 1) wr ρk M j S A0 1 c0 Q exC v L) ∧ Hid (Bx w w.heap.size ⟨p, vv, hh, mN, f, s, r, A, n, c, xs⟩ wr) ∧ Hid ((0 ≤ v.pc ∧ v.pc ≤ 1000) ∧ 0 ≤ v.tk ∧ v.tk ≤ k)) (fun z _ => T - (intOf z).toNat)
    case atStart => exact ⟨0, _, none_, v0, Nat.zero_le _, rfl, HMW, HX4, Lib.hid ⟨⟨by decide, by decide⟩, by decide, by decide⟩⟩
    case round =>
      obtain ⟨k, ρk, L, v, hk, rfl, HMk, HXk, HV⟩ := hrel
      clear HMW HX4
      by_cases hlt : k < T
      · obtain ⟨G, hG⟩ : ∃ G, G = tickV j exC v L := ⟨_, rfl⟩
        have hjl := right_l HMk.out.code HRJ.out.1
        have hjm : j.m.toNat = mN := by have := HRJ.out.2; omega
        have HTO := Lib.hid (tickV_ok (C := exC) (L := L) HMk.out.code.byt hjl HMk.out.ok HV.out.1)
        have HTF := Lib.hid (show v.ft = 0 → G.v.tk = v.tk + 1 from fun hf => by rw [hG]; exact tickV_one HMk.out.code.byt hjl HMk.out.ok HV.out.1 hf)
        have HTS := Lib.hid (show v.ft ≠ 0 → G.v = v from fun hf => by rw [hG, tickV_same hf])
        rw [← hG] at HTO
        have HSA := Lib.hid (state_any HMk.out.blk HMk.out.ok (by have := HRJ.out.2; omega))
        rw [hjm] at HSA
        have HJM := Lib.hid hjm
        clear hjl hjm
        go_wp2_with fail
        refine HSA.out.mono ?_
        rintro e w5 ⟨x, rfl, hs5, hb5⟩
        have HS5 := Lib.hid hs5
        obtain ⟨A1, n1, c1, A2, n2, c2, rfl, _, _⟩ := hs5
        obtain ⟨pc1, hpc1⟩ : ∃ y, y = (v.z mN).pc := ⟨_, rfl⟩
        obtain ⟨tk1, htk1⟩ : ∃ y, y = (v.z mN).tk := ⟨_, rfl⟩
        obtain ⟨ft1, hft1⟩ : ∃ y, y = (v.z mN).ft := ⟨_, rfl⟩
        rw [← hpc1, ← htk1, ← hft1] at HS5 ⊢
        have HT1 := Lib.hid (show 0 ≤ tk1 ∧ tk1 ≤ 49 from by rw [htk1]; have := HV.out.2; show 0 ≤ v.tk ∧ v.tk ≤ 49; omega)
        have HTF1 := Lib.hid (show ft1 = 0 → G.v.tk = tk1 + 1 from fun hf => by rw [htk1]; exact HTF.out (by rw [← hf, hft1]; rfl))
        have HTS1 := Lib.hid (show ft1 ≠ 0 → G.v = v from fun hf => HTS.out (by intro hh; exact hf (by rw [hft1]; exact hh)))
        obtain ⟨wA, hwA⟩ : ∃ wA, wA = w5.alloc (.cells #[.int .i64 pc1, .slice A1 n1 c1, .slice A2 n2 c2, .int .i64 tk1, .int .i64 ft1] 66) := ⟨_, rfl⟩
        have HBA := Lib.hid (show Below wr.heap.size wr wA from by rw [hwA]; exact hb5.alloc hb5.size _)
        have HRA := Lib.hid (show Blk wA w5.heap.size 66 [.int .i64 pc1, .slice A1 n1 c1, .slice A2 n2 c2, .int .i64 tk1, .int .i64 ft1] from by rw [hwA]; exact Blk.new w5 _ _)
        have HSvA := Lib.hid (Sv.below HS5.out (show Below w5.heap.size w5 wA from by rw [hwA]; exact (Below.refl _ _).alloc (Nat.le_refl _) _))
        have HMA := Lib.hid (mw_below HMk.out HBA.out)
        have h5l := hb5.size
        have HTK := Lib.hid (tick_any HMA.out HRJ.out.1 HV.out.1 (by have := HV.out.2; omega) hG)
        have HFR := Lib.hid (Mw.fresh HMk.out)
        clear hG hpc1 htk1 hft1 HSA HTF HTS
        go_wp2_with fail
        rw [← hwA]
        clear hwA
        refine HTK.out.mono ?_
        intro e w6 hk6
        obtain ⟨A6, n6, c6, ρ6, rfl, hp6, hl6, hm6, hs6⟩ := hk6
        have hbe := hs6.below HMA.out.chs.bd out_vm0 HMA.out.chs.base
        have HX6 := Lib.hid (Bx.over (Bx.step HXk.out HBA.out) hbe (by omega) (by omega))
        have HR6 := Lib.hid (show Blk w6 w5.heap.size 66 _ from hs6.keep.blk HRA.out (by rw [HFR.out _ h5l]; exact out_vm0))
        have HSv6 := Lib.hid (Sv.carry HSvA.out hs6 out_vm0 HFR.out)
        have HM6 := Lib.hid hm6
        have HSB := Lib.hid (state_any HM6.out.blk HM6.out.ok (by have := HRJ.out.2; omega))
        rw [HJM.out] at HSB
        have hw56 : w5.heap.size < w6.heap.size := HR6.out.lt
        clear hp6 hl6 hm6 hs6 hbe HTK HRA HSvA HMA HFR HBA
        go_wp2_with fail
        refine HSB.out.mono ?_
        rintro e w7 ⟨y, rfl, hs7, hb7⟩
        have HS7 := Lib.hid hs7
        obtain ⟨A3, n3, c3, A4, n4, c4, rfl, o3, o4⟩ := hs7
        have HZL := z_len HM6.out.ok m16
        have hn3 : n3 ≤ 8 := by have h1 := (Rd.own o3).1; rw [i64s_len] at h1; have h2 := HZL.1; omega
        obtain rfl : n4 = mN := by have h1 := (Rd.own o4).1; rw [i64s_len] at h1; have h2 := HZL.2; omega
        obtain ⟨st, hst⟩ : ∃ y, y = (G.v.z n4).st := ⟨_, rfl⟩
        obtain ⟨mem, hmem⟩ : ∃ y, y = (G.v.z n4).mem := ⟨_, rfl⟩
        have HNUM := Lib.hid (z_num HM6.out.ok n4)
        rw [← hst, ← hmem] at HNUM
        rw [← hst] at o3
        rw [← hmem] at o4
        have O3 := Lib.hid o3
        have O4 := Lib.hid o4
        obtain ⟨pc2, hpc2⟩ : ∃ y, y = (G.v.z n4).pc := ⟨_, rfl⟩
        obtain ⟨tk2, htk2⟩ : ∃ y, y = (G.v.z n4).tk := ⟨_, rfl⟩
        obtain ⟨ft2, hft2⟩ : ∃ y, y = (G.v.z n4).ft := ⟨_, rfl⟩
        rw [← hpc2, ← htk2, ← hft2] at HS7 ⊢
        have HTF2 := Lib.hid (show ft1 = 0 → tk2 = tk1 + 1 from fun hf => by rw [htk2]; exact HTF1.out hf)
        have HZS := Lib.hid (show ft1 ≠ 0 → zsame (v.z n4) (G.v.z n4) from fun hf => by rw [HTS1.out hf]; exact ⟨rfl, rfl, rfl, rfl, rfl⟩)
        obtain ⟨wB, hwB⟩ : ∃ wB, wB = w7.alloc (.cells #[.int .i64 pc2, .slice A3 n3 c3, .slice A4 n4 c4, .int .i64 tk2, .int .i64 ft2] 66) := ⟨_, rfl⟩
        have HB7 := Lib.hid (show Below w6.heap.size w6 wB from by rw [hwB]; exact hb7.alloc hb7.size _)
        have hbw := (show Below w7.heap.size w7 wB from by rw [hwB]; exact (Below.refl _ _).alloc (Nat.le_refl _) _)
        have HRB := Lib.hid (show Blk wB w7.heap.size 66 [.int .i64 pc2, .slice A3 n3 c3, .slice A4 n4 c4, .int .i64 tk2, .int .i64 ft2] from by rw [hwB]; exact Blk.new w7 _ _)
        have HRC := Lib.hid (HR6.out.below HB7.out)
        have HXB := Lib.hid (HX6.out.step HB7.out)
        have HO3 := Lib.hid (own_below O3.out hbw)
        have HO4 := Lib.hid (own_below O4.out hbw)
        have HSM := Lib.hid (fun hf : ft1 ≠ 0 => same_any wB (Sv.below (Sv.below HSv6.out hb7) hbw) (Sv.below HS7.out hbw) (by have h1 := z_len HMk.out.ok m16; have h2 := HZL; omega) true ⟨fun _ => HZS.out hf, fun _ => rfl⟩)
        have h67 := hb7.size
        have hnx : (n3 : Int) ≤ 8 := by omega
        clear hst hmem hpc2 htk2 hft2 hb7 hbw o3 o4 HZL HSB HTF1 HTS1 O3 O4 HSv6 HS7 HR6 HS5
        go_upto_region 12 with fail
        rw [← hwB]
        clear hwB
        have ht1 := HT1.out
        by_cases hft : ft1 = 0
        · subst hft
          obtain rfl := HTF2.out rfl
          have xm := HXB.out.blk.cell (i := 3) (v := .int .i64 (n4 : Int)) rfl
          have c3' := HRC.out.cell (i := 3) rfl
          have c4' := HRC.out.cell (i := 4) rfl
          have c0' := HRC.out.cell (i := 0) rfl
          have c1' := HRC.out.cell (i := 1) rfl
          have c2' := HRC.out.cell (i := 2) rfl
          have y0 := HRB.out.cell (i := 0) rfl
          have y1 := HRB.out.cell (i := 1) rfl
          have y2 := HRB.out.cell (i := 2) rfl
          have y3 := HRB.out.cell (i := 3) rfl
          have y4 := HRB.out.cell (i := 4) rfl
          try dsimp only at c0' c1' c2' c3' c4' y0 y1 y2 y3 y4
          have HOW3 := HO3
          have HOW4 := HO4
          have HBW := HB7
          have hW67 : w6.heap.size ≤ wB.heap.size := HB7.out.size
          have ym := xm
          clear y0 c0' c1' c2' y4
          have HM9 := HM6
          have HX9 := HX6
          go_wp2_with (at_builtin; refine wpList_add _ rfl (.tmp 80) (.tmp 82) _ rfl w6.heap.size 3 i0 _ 8 Try.underlying64 hi0 hz0 hz1 hz2 rfl _ n3 (i64s st) rfl HOW3.out A4 n4 c4 (i64s mem) rfl (Rd.own HOW4.out) (i64s_one _) (by omega) (by omega) hW67 ?_; intro A5 n5 c5 w9 hn5 hown5 hg5 hat5; have hb9 := below_add HBW.out HOW3.out (Nat.le_refl _) hg5)
          have HB9 := Lib.hid hb9
          have HE := Lib.hid (show Rd w9 A5 n5 c5 (i64s (st ++ mem)) from by have q := Rd.own hown5; rwa [show i64s st ++ i64s mem = i64s (st ++ mem) from List.map_append.symm] at q)
          have hn24 : n5 ≤ 24 := by have := hn5.out; omega
          clear hb9 hown5 hg5 hat5 y1 y2 ym
          obtain ⟨wo, rfl⟩ : ∃ wo : World, wo = wr := ⟨_, rfl⟩
          go_wp2_with fail
          go_loopw [85] (fun z wr2 => ∃ u : Nat, u ≤ n5 ∧ z = .int .i64 u ∧ Hid (Below w9.heap.size w9 wr2)) (fun z _ => n5 - (intOf z).toNat)
          case atStart => exact ⟨0, Nat.zero_le _, rfl, Lib.hid (Below.refl _ _)⟩
          case round =>
            obtain ⟨u, hu, rfl, HB⟩ := hrel
            by_cases hlu : u < n5
            · obtain ⟨x, bx, ox, hx1, rfl, _, gx⟩ := i64_at (HE.out.below HB.out) hlu
              obtain ⟨q1, q2⟩ := HNUM.out x (List.mem_of_getElem? hx1)
              clear hx1
              go_wp2
              go_roundw
              case rel => exact ⟨u + 1, by omega, by go_num, HB⟩
              case measure => simp [intOf]; omega
            · obtain rfl : u = n5 := by omega
              have HBE := Lib.hid (HB9.out.trans (HB.out.mono HB9.out.size))
              have HM10 := Lib.hid (mw_below HM9.out HBE.out)
              have HX10 := Lib.hid (HX9.out.step HBE.out)
              go_wp2
              go_roundw
              case rel => exact ⟨k + 1, ρ6, G.L, G.v, by omega, by go_num, HM10, HX10, Lib.hid ⟨HTO.out.2.1, by have h1 := HTO.out.2.2; have h2 := HV.out.2; omega, by have h1 := HTO.out.2.2; have h2 := HV.out.2; omega⟩⟩
              case measure => simp [intOf]; omega
        · have xm := HXB.out.blk.cell (i := 3) (v := .int .i64 (n4 : Int)) rfl
          have c3' := HRC.out.cell (i := 3) rfl
          have c4' := HRC.out.cell (i := 4) rfl
          have c0' := HRC.out.cell (i := 0) rfl
          have c1' := HRC.out.cell (i := 1) rfl
          have c2' := HRC.out.cell (i := 2) rfl
          have y0 := HRB.out.cell (i := 0) rfl
          have y1 := HRB.out.cell (i := 1) rfl
          have y2 := HRB.out.cell (i := 2) rfl
          have y3 := HRB.out.cell (i := 3) rfl
          have y4 := HRB.out.cell (i := 4) rfl
          try dsimp only at c0' c1' c2' c3' c4' y0 y1 y2 y3 y4
          go_wp2_with fail
          refine (HSM.out hft).mono ?_
          rintro e w8 ⟨rfl, hb8⟩
          have HOW3 := Lib.hid (own_below HO3.out hb8)
          have HOW4 := Lib.hid (own_below HO4.out hb8)
          have HBW := Lib.hid (HB7.out.trans (hb8.mono HB7.out.size))
          have hW67 : w6.heap.size ≤ w8.heap.size := HBW.out.size
          have z1 := (HRB.out.below hb8).cell (i := 1) rfl
          have z2 := (HRB.out.below hb8).cell (i := 2) rfl
          have z4 := (HRC.out.below hb8).cell (i := 4) rfl
          have ym := xm
          clear xm c0' c1' c2' c3' c4' y0 y1 y2 y3 y4 hb8
          have y1 := z1
          have y2 := z2
          have c4' := z4
          clear z1 z2 z4
          try dsimp only at y1 y2 c4'
          have HM9 := HM6
          have HX9 := HX6
          go_wp2_with (at_builtin; refine wpList_add _ rfl (.tmp 80) (.tmp 82) _ rfl w6.heap.size 3 i0 _ 8 Try.underlying64 hi0 hz0 hz1 hz2 rfl _ n3 (i64s st) rfl HOW3.out A4 n4 c4 (i64s mem) rfl (Rd.own HOW4.out) (i64s_one _) (by omega) (by omega) hW67 ?_; intro A5 n5 c5 w9 hn5 hown5 hg5 hat5; have hb9 := below_add HBW.out HOW3.out (Nat.le_refl _) hg5)
          have HB9 := Lib.hid hb9
          have HE := Lib.hid (show Rd w9 A5 n5 c5 (i64s (st ++ mem)) from by have q := Rd.own hown5; rwa [show i64s st ++ i64s mem = i64s (st ++ mem) from List.map_append.symm] at q)
          have hn24 : n5 ≤ 24 := by have := hn5.out; omega
          clear hb9 hown5 hg5 hat5 y1 y2 ym
          obtain ⟨wo, rfl⟩ : ∃ wo : World, wo = wr := ⟨_, rfl⟩
          go_wp2_with fail
          go_loopw [85] (fun z wr2 => ∃ u : Nat, u ≤ n5 ∧ z = .int .i64 u ∧ Hid (Below w9.heap.size w9 wr2)) (fun z _ => n5 - (intOf z).toNat)
          case atStart => exact ⟨0, Nat.zero_le _, rfl, Lib.hid (Below.refl _ _)⟩
          case round =>
            obtain ⟨u, hu, rfl, HB⟩ := hrel
            by_cases hlu : u < n5
            · obtain ⟨x, bx, ox, hx1, rfl, _, gx⟩ := i64_at (HE.out.below HB.out) hlu
              obtain ⟨q1, q2⟩ := HNUM.out x (List.mem_of_getElem? hx1)
              clear hx1
              go_wp2
              go_roundw
              case rel => exact ⟨u + 1, by omega, by go_num, HB⟩
              case measure => simp [intOf]; omega
            · obtain rfl : u = n5 := by omega
              have HBE := Lib.hid (HB9.out.trans (HB.out.mono HB9.out.size))
              have HM10 := Lib.hid (mw_below HM9.out HBE.out)
              have HX10 := Lib.hid (HX9.out.step HBE.out)
              go_wp2
              go_roundw
              case rel => exact ⟨k + 1, ρ6, G.L, G.v, by omega, by go_num, HM10, HX10, Lib.hid ⟨HTO.out.2.1, by have h1 := HTO.out.2.2; have h2 := HV.out.2; omega, by have h1 := HTO.out.2.2; have h2 := HV.out.2; omega⟩⟩
              case measure => simp [intOf]; omega
      · obtain rfl : k = T := by omega
        have HR0 := Lib.hid (reset_any HMk.out.blk HMk.out.ok)
        go_wp2_with fail
        refine HR0.out.mono ?_
        rintro e w5 ⟨rfl, hM5, ho5⟩
        have hbe : Below (w.heap.size + 1) wr w5 := (Keep.only (F := fun j => j = M) ho5 rfl).below (fun k hk => by have := HML.out; omega) (by have := HXk.out.blk.lt; omega)
        have HX5 := Lib.hid (Bx.over HXk.out hbe (by omega) (by omega))
        have xm := HX5.out.blk.cell (i := 3) (v := .int .i64 (mN : Int)) rfl
        have hlt5 := HX5.out.blk.lt
        have hjm : j.m.toNat = mN := by have := HRJ.out.2; omega
        have HSA := Lib.hid (show ∀ w', Blk w' M 91 (mc j v0) → _ from fun w' hB => state_any hB v0_ok (show 0 ≤ j.m ∧ j.m ≤ 16 by have := HRJ.out.2; omega))
        rw [hjm, z_start m16] at HSA
        have HMB := Lib.hid hM5
        clear hbe ho5 hM5 HR0 HMk
        go_wp2_with fail
        refine wp_region_held_drew (S := fun w' => Blk w' M 91 (mc j v0) ∧ w'.cell? ⟨w.heap.size, 3, none⟩ = some (.int .i64 (mN : Int))) (by kernel_rfl) ⟨HMB.out, xm⟩ (fun hS => ?_)
        refine wpAnyH_take (i := 0) (v := .pointer (some ⟨M, 0, none⟩)) rfl (by kernel_rfl) (by kernel_rfl) (by kernel_rfl) (fun _ _ _ h => h) (Or.inl ⟨by rfl, fun w hS => (by first | rfl | (go_simp; done))⟩) hS ?_
        try simp only [Act.put, List.getElem_toArray, List.getElem_cons_succ, List.getElem_cons_zero, List.setIfInBounds_toArray, List.set_cons_zero, List.set_cons_succ]
        refine wpAnyH_take (i := 2) (v := .pointer (some ⟨w.heap.size, 3, none⟩)) rfl (by kernel_rfl) (by kernel_rfl) (by kernel_rfl) (fun _ _ _ h => h) (Or.inl ⟨by rfl, fun w hS => (by first | rfl | (go_simp; done))⟩) hS ?_
        try simp only [Act.put, List.getElem_toArray, List.getElem_cons_succ, List.getElem_cons_zero, List.setIfInBounds_toArray, List.set_cons_zero, List.set_cons_succ]
        refine wpAnyH_take (i := 3) (v := .int .i64 (mN : Int)) rfl (by kernel_rfl) (by kernel_rfl) (by kernel_rfl) (fun _ _ _ h => h) (Or.inl ⟨by rfl, fun w hS => (by obtain ⟨h0, h1⟩ := hS; go_simp; done)⟩) hS ?_
        try simp only [Act.put, List.getElem_toArray, List.getElem_cons_succ, List.getElem_cons_zero, List.setIfInBounds_toArray, List.set_cons_zero, List.set_cons_succ]
        refine wpAnyH_ready (rs := [1, 4]) (by kernel_rfl) (by simp) ?_
        refine AllReadyH.cons rfl (fun K hK => ?_) (AllReadyH.cons rfl (fun K hK => ?_) (AllReadyH.nil))
        focus
          rw [if_pos (by rfl)]
          go_simp
          refine (HSA.out _ hS.1).mono ?_
          rintro e w6 ⟨x, rfl, hs, hb⟩
          dsimp only
          refine hK.out _ _ ⟨hS.1.below hb, cell_below hb hS.2⟩ (fun hS => ?_)
          clear hK K
          have hbs : Below w5.heap.size w5 w6 := ⟨hb.os, hb.tape, hb.output, hb.size, hb.block⟩
          have HBA := Lib.hid hbs
          try simp only [Act.put, List.getElem_toArray, List.getElem_cons_succ, List.getElem_cons_zero, List.setIfInBounds_toArray, List.set_cons_zero, List.set_cons_succ]
          have HV0 := Lib.hid hs
          clear hs hb hbs
          refine wpAnyH_ready (rs := [4]) (by kernel_rfl) (by simp) ?_
          refine AllReadyH.cons rfl (fun K hK => ?_) (AllReadyH.nil)
          rw [if_pos (by rfl)]
          refine wp_make_room _ (.tmp 102) (.tmp 102) 64 rfl 3 i0 _ 8 Try.underlying64 hi0 hz0 hz1 hz2 rfl .i64 .i64 mN mN rfl rfl (Nat.le_refl _) (by omega) (by omega) ?_
          intro w7 hz hb hsz
          refine hK.out _ _ ⟨hS.1.below hb, cell_below hb hS.2⟩ (fun hS => ?_)
          clear hK K
          have hbs : Below w6.heap.size w6 w7 := ⟨hb.os, hb.tape, hb.output, hb.size, hb.block⟩
          have HBB := Lib.hid hbs
          try simp only [Act.put, List.getElem_toArray, List.getElem_cons_succ, List.getElem_cons_zero, List.setIfInBounds_toArray, List.set_cons_zero, List.set_cons_succ]
          have HV1 := Lib.hid (Sv.below HV0.out hb)
          have HV2 := Lib.hid (sv_zero hz.out m16)
          have HBF := Lib.hid (HBA.out.trans (HBB.out.mono HBA.out.size))
          clear hz hb hbs hsz
          refine wpAnyH_take (i := 5) (v := .agg #[.int .i64 0, .slice none 0 0, .slice (some ⟨w6.heap.size, 0, none⟩) mN mN, .int .i64 0, .int .i64 0]) rfl (by kernel_rfl) (by kernel_rfl) (by kernel_rfl) (fun _ _ _ h => h) (Or.inl ⟨by rfl, fun w hS => (by first | rfl | (go_simp; done))⟩) hS ?_
          try simp only [Act.put, List.getElem_toArray, List.getElem_cons_succ, List.getElem_cons_zero, List.setIfInBounds_toArray, List.set_cons_zero, List.set_cons_succ]
          refine wpAnyH_ready (rs := [6]) (by kernel_rfl) (by simp) ?_
          refine AllReadyH.cons rfl (fun K hK => ?_) (AllReadyH.nil)
          rw [if_pos (by rfl)]
          go_simp
          refine (same_any _ HV1.out HV2.out (by simp; omega) true ⟨fun _ => ⟨rfl, rfl, rfl, rfl, rfl⟩, fun _ => rfl⟩).mono ?_
          rintro e w8 ⟨rfl, hb8⟩
          dsimp only
          refine hK.out _ _ ⟨hS.1.below hb8, cell_below hb8 hS.2⟩ (fun hS => ?_)
          clear hK K
          try simp only [Act.put, List.getElem_toArray, List.getElem_cons_succ, List.getElem_cons_zero, List.setIfInBounds_toArray, List.set_cons_zero, List.set_cons_succ]
          refine wpAnyH_take (i := 7) (v := .bool true) rfl (by kernel_rfl) (by kernel_rfl) (by kernel_rfl) (fun _ _ _ h => h) (Or.inl ⟨by rfl, fun w hS => (by first | rfl | (go_simp; done))⟩) hS ?_
          try simp only [Act.put, List.getElem_toArray, List.getElem_cons_succ, List.getElem_cons_zero, List.setIfInBounds_toArray, List.set_cons_zero, List.set_cons_succ]
          refine wpAnyH_done (by kernel_rfl) ?_ _
          have HEND := Lib.hid ((HX5.out.bel.trans (HBF.out.mono (Nat.le_of_lt hlt5))).trans (Below.mono hb8 (Nat.le_trans (Nat.le_of_lt hlt5) HBF.out.size)))
          go_wp2
          go_ret
          exact ⟨rfl, HEND.out⟩
        rotate_left 1
        focus
          rw [if_pos (by rfl)]
          refine wp_make_room _ (.tmp 102) (.tmp 102) 64 rfl 3 i0 _ 8 Try.underlying64 hi0 hz0 hz1 hz2 rfl .i64 .i64 mN mN rfl rfl (Nat.le_refl _) (by omega) (by omega) ?_
          intro w6 hz hb hsz
          refine hK.out _ _ ⟨hS.1.below hb, cell_below hb hS.2⟩ (fun hS => ?_)
          clear hK K
          have hbs : Below w5.heap.size w5 w6 := ⟨hb.os, hb.tape, hb.output, hb.size, hb.block⟩
          have HBA := Lib.hid hbs
          try simp only [Act.put, List.getElem_toArray, List.getElem_cons_succ, List.getElem_cons_zero, List.setIfInBounds_toArray, List.set_cons_zero, List.set_cons_succ]
          have HZ := hz
          clear hz hb hbs hsz
          refine wpAnyH_take (i := 5) (v := .agg #[.int .i64 0, .slice none 0 0, .slice (some ⟨w5.heap.size, 0, none⟩) mN mN, .int .i64 0, .int .i64 0]) rfl (by kernel_rfl) (by kernel_rfl) (by kernel_rfl) (fun _ _ _ h => h) (Or.inl ⟨by rfl, fun w hS => (by first | rfl | (go_simp; done))⟩) hS ?_
          try simp only [Act.put, List.getElem_toArray, List.getElem_cons_succ, List.getElem_cons_zero, List.setIfInBounds_toArray, List.set_cons_zero, List.set_cons_succ]
          refine wpAnyH_ready (rs := [1]) (by kernel_rfl) (by simp) ?_
          refine AllReadyH.cons rfl (fun K hK => ?_) (AllReadyH.nil)
          rw [if_pos (by rfl)]
          go_simp
          refine (HSA.out _ hS.1).mono ?_
          rintro e w7 ⟨x, rfl, hs, hb⟩
          dsimp only
          refine hK.out _ _ ⟨hS.1.below hb, cell_below hb hS.2⟩ (fun hS => ?_)
          clear hK K
          have hbs : Below w6.heap.size w6 w7 := ⟨hb.os, hb.tape, hb.output, hb.size, hb.block⟩
          have HBB := Lib.hid hbs
          try simp only [Act.put, List.getElem_toArray, List.getElem_cons_succ, List.getElem_cons_zero, List.setIfInBounds_toArray, List.set_cons_zero, List.set_cons_succ]
          have HV1 := Lib.hid hs
          have HV2 := Lib.hid (Sv.below (sv_zero HZ.out m16) hb)
          have HBF := Lib.hid (HBA.out.trans (HBB.out.mono HBA.out.size))
          clear hs hb hbs
          refine wpAnyH_ready (rs := [6]) (by kernel_rfl) (by simp) ?_
          refine AllReadyH.cons rfl (fun K hK => ?_) (AllReadyH.nil)
          rw [if_pos (by rfl)]
          go_simp
          refine (same_any _ HV1.out HV2.out (by simp; omega) true ⟨fun _ => ⟨rfl, rfl, rfl, rfl, rfl⟩, fun _ => rfl⟩).mono ?_
          rintro e w8 ⟨rfl, hb8⟩
          dsimp only
          refine hK.out _ _ ⟨hS.1.below hb8, cell_below hb8 hS.2⟩ (fun hS => ?_)
          clear hK K
          try simp only [Act.put, List.getElem_toArray, List.getElem_cons_succ, List.getElem_cons_zero, List.setIfInBounds_toArray, List.set_cons_zero, List.set_cons_succ]
          refine wpAnyH_take (i := 7) (v := .bool true) rfl (by kernel_rfl) (by kernel_rfl) (by kernel_rfl) (fun _ _ _ h => h) (Or.inl ⟨by rfl, fun w hS => (by first | rfl | (go_simp; done))⟩) hS ?_
          try simp only [Act.put, List.getElem_toArray, List.getElem_cons_succ, List.getElem_cons_zero, List.setIfInBounds_toArray, List.set_cons_zero, List.set_cons_succ]
          refine wpAnyH_done (by kernel_rfl) ?_ _
          have HEND := Lib.hid ((HX5.out.bel.trans (HBF.out.mono (Nat.le_of_lt hlt5))).trans (Below.mono hb8 (Nat.le_trans (Nat.le_of_lt hlt5) HBF.out.size)))
          go_wp2
          go_ret
          exact ⟨rfl, HEND.out⟩
set_option maxRecDepth 100000 in
theorem hole {H : Type} (enc : TypeId × Value → H) (base : Nat) (v0 : Value) (d0 : DataW H) (p0 : List MemPlace) (a1 : Int) (w : World) (w0 : DataW.Trod enc Try.prog w 0 (fun _ => true) true 29 v0 d0 p0) (o0 : Value.okWide Try.prog w .any base 29 v0) (w1 : (Lit.int .u8 a1).wf = true) :
    Calls Try.prog 4 #[v0, .int .u8 a1] w fun e w' => e = .returned (.bool true) ∧ Below w.heap.size w w' := by
  obtain ⟨i, rfl, hi⟩ := open_image w0 o0
  have h1 := bounds_u8 w1
  obtain ⟨b, rfl⟩ : ∃ b : Nat, a1 = b := ⟨a1.toNat, by omega⟩
  exact core i b w hi (by omega)
end Go.Proofs.Ytliiinffkcgcaaa.VmBoundsW
