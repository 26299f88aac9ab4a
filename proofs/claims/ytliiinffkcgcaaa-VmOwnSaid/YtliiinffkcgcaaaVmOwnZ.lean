/- The program's copied, New, Image and Reset. Conditions: the image, the machine lie as the facts say. The program's State. Conditions: the machine lies as the facts say; a memory of at most 16 words. The reference's Same of two states, and of what was sent. Conditions: both lie sa the facts say. The laws' table, and their example; a machine on channels, made anew. No conditions but those each law names. The laws' example holds. No conditions. A tick, whatever stands there; the image's box through a law; the bits of Sends. No conditions but those each law names. Reset; what a tick counts; told states through a tick; the numbers of a state. Conditions: the machine lies as the facts say. Two machines on channels of their own; own rows that are written. Conditions: both machines lie as the facts say, apart. The walk of VmOwn. No conditions. -/
import Derived.Test.YtliiinffkcgcaaaVmcJ
import Derived.Test.YtliiinffkcgcaaaImgB0
import Derived.Test.YtliiinffkcgcaaaPrtC
import Derived.Deep.RegionHeld3
import Derived.Test.YtliiinffkcgcaaaOpsN3
import Derived.Test.YtliiinffkcgcaaaPrtO
import Derived.BigQuiet
import Derived.Laws.StructEq
import Derived.Test.YtliiinffkcgcaaaVmcL
import Derived.Test.YtliiinffkcgcaaaPrtH
import Derived.Test.YtliiinffkcgcaaaFld
import Derived.Test.YtliiinffkcgcaaaBitO
namespace Go.Proofs.Ytliiinffkcgcaaa.VmcP
open Go.RowKit Go.Proofs.Ytliiinffkcgcaaa.Kit Go.Proofs.Ytliiinffkcgcaaa.Byt Go.Proofs.Ytliiinffkcgcaaa.Mem Go.Proofs.Ytliiinffkcgcaaa.VmcM Go.Proofs.Ytliiinffkcgcaaa.VmcA Go.Proofs.Ytliiinffkcgcaaa.VmcJ Go.Proofs.Ytliiinffkcgcaaa.PrtA
open Go.Proofs.Ytliiinffkcgcaaa.ImgA (Im)
open Go.Proofs.Ytliiinffkcgcaaa.ImgB (right)
open Go.Proofs.Ytliiinffkcgcaaa.TabA (Tri)
open Go.Proofs.Ytliiinffkcgcaaa.BitA (i64s)
open Go.Proofs.Ytliiinffkcgcaaa.TabE (ret_row)
open Go.Proofs.Ytliiinffkcgcaaa.TabI (info_of)

theorem info_u8 : (Try.prog.info? 5).map (fun i => (i.zero, i.size, i.bytes)) = some (some (.int .u8 0), 1, 1) := by kernel_rfl
set_option maxRecDepth 100000 in
set_option maxHeartbeats 400000 in
theorem bclone_any (A : Option Addr) (n c : Nat) (xs : List Nat) (w : World) (hR : Rd w A n c (u8n xs)) (hn : 0 < n) (hl : n ≤ 100000) :
    Calls Try.prog 41 #[.slice A n c] w fun e w' => ∃ A2 n2 c2, e = .returned (.slice A2 n2 c2) ∧ w'.ownsRow w.heap.size 5 1 (.slice A2 n2 c2) n2 (u8n xs) ∧ Below w.heap.size w w' := by
  obtain ⟨i0, hi0, hz0, hz1, hz2⟩ := info_of info_u8
  obtain ⟨b, o, hA⟩ : ∃ b o, A = some ⟨b, o, none⟩ := by
    obtain ⟨b, o, hA, _⟩ := hR.at_ hn
    exact ⟨b, o, hA⟩
  have HR := Lib.hid hR
  clear hR
  subst hA
  have hnil := fun (W : World) => Lib.run_eql_slice_nil (P := Try.prog) W 27 5 (some ⟨b, o, none⟩) n c 0 0 Try.underlying27
  go_enter Try.func41, Try.ntmps41
  go_wp2_with (at_builtin; refine wpList_add _ rfl (.tmp 5) (.tmp 6) _ rfl w.heap.size 5 i0 _ 1 Try.underlying27 hi0 hz0 hz1 hz2 rfl _ 0 [] rfl (emptied w _) (some ⟨b, o, none⟩) n c (u8n xs) rfl (HR.out.alloc _) (u8n_one _) (by omega) (by omega) (size_alloc _ _) ?_; intro A2 n2 c2 w2 hn2 hown2 hg2 hat2; have hb2 := below_add ((Below.refl w.heap.size w).alloc (Nat.le_refl _) _) (emptied w _) (Nat.le_refl _) hg2)
  go_ret
  have h3 : w2.ownsRow w.heap.size 5 1 (.slice A2 n2 c2) n2 (u8n xs) := by simpa using hown2
  exact ⟨A2, n2, c2, rfl, h3, hb2⟩
theorem own_low {base low n : Nat} {e : TypeId} {v : Value} {xs : List Value} {w : World} (h : w.ownsRow base e 1 v n xs) (hb : low ≤ base) : w.ownsRow low e 1 v n xs := by
  refine ⟨h.1, ?_⟩
  rcases h.2 with h1 | ⟨g, cap, cur, h1, h2, h3⟩
  · exact .inl h1
  · exact .inr ⟨g, cap, cur, h1, by omega, h3⟩
/-- An image like i, whose code is memory of its own. -/
def Cop (w : World) (i j : Im) (w' : World) : Prop := (j.p = i.p ∧ j.v = i.v ∧ j.h = i.h ∧ j.m = i.m ∧ j.f = i.f ∧ j.s = i.s ∧ j.r = i.r ∧ j.n = i.n ∧ j.xs = i.xs) ∧ j.ok w' ∧ (∀ b o, j.A = some ⟨b, o, none⟩ → w.heap.size ≤ b) ∧ Below w.heap.size w w'
/-- The code is a row of its own. -/
def Copo (w : World) (i j : Im) (w' : World) : Prop := Cop w i j w' ∧ w'.ownsRow w.heap.size 5 1 (.slice j.A j.n j.c) j.n (u8n j.xs)
theorem size_im : (Try.prog.info? 29).map (·.size) = some 8 := by kernel_rfl
theorem im_one (i : Im) : ∀ u ∈ i.cells, u.oneCell' = true := by
  intro u hu
  unfold Im.cells at hu
  simp only [List.mem_cons, List.not_mem_nil, or_false] at hu
  rcases hu with rfl | rfl | rfl | rfl | rfl | rfl | rfl | rfl <;> rfl
set_option maxRecDepth 100000 in
set_option maxHeartbeats 800000 in
theorem copied_own (i : Im) (w : World) (h : i.ok w) (hn : 0 < i.n) (hl : i.n ≤ 100000) : Calls Try.prog 28 #[i.val] w fun e w' => ∃ j : Im, e = .returned j.val ∧ Copo w i j w' := by
  obtain ⟨p, v, hh, m, f, s, r, A, n, c, xs⟩ := i
  dsimp only at hn hl
  have HC := Lib.hid (fun w' (hb : Below w.heap.size w w') => bclone_any A n c xs w' (h.code.below hb) hn hl)
  have HB := Lib.hid h.byt
  have HL := Lib.hid (show xs.length = n from h.len)
  obtain ⟨wa, hwa⟩ : ∃ wa, wa = w.alloc (.cells #[.int .i64 p, .int .i64 v, .int .i64 hh, .int .i64 m, .int .i64 f, .int .i64 s, .int .i64 r, .slice A n c] 29) := ⟨_, rfl⟩
  obtain ⟨wb, hwb⟩ : ∃ wb, wb = wa.alloc (.cells #[.int .i64 0, .int .i64 0, .int .i64 0, .int .i64 0, .int .i64 0, .int .i64 0, .int .i64 0, .slice none 0 0] 29) := ⟨_, rfl⟩
  have hsa : wa.heap.size = w.heap.size + 1 := by rw [hwa]; exact World.size_alloc _ _
  have hbb : Below w.heap.size w wb := by rw [hwb, hwa]; exact ((Below.refl _ _).alloc (Nat.le_refl _) _).alloc (by simp) _
  have b1 : Blk wb w.heap.size 29 [.int .i64 p, .int .i64 v, .int .i64 hh, .int .i64 m, .int .i64 f, .int .i64 s, .int .i64 r, .slice A n c] := by rw [hwb, hwa]; exact (Blk.new w _ _).alloc _
  have b2 : Blk wb wa.heap.size 29 [.int .i64 0, .int .i64 0, .int .i64 0, .int .i64 0, .int .i64 0, .int .i64 0, .int .i64 0, .slice none 0 0] := by rw [hwb]; exact Blk.new wa _ _
  rw [hsa] at b2
  have HBB := Lib.hid hbb
  have B1 := Lib.hid b1
  have B2 := Lib.hid b2
  have x7 := b1.cell (i := 7) rfl
  have HSB := Lib.hid (show wb.heap.size = w.heap.size + 2 from by rw [hwb, World.size_alloc, hsa])
  clear h hsa hbb b1 b2
  go_enter Try.func28, Try.ntmps28
  go_wp2_with fail
  rw [← hwa, ← hwb]
  refine (HC.out _ HBB.out).mono ?_
  rintro e w2 ⟨A2, n2, c2, rfl, ho2, hb2⟩
  have hr2 := Rd.own ho2
  have hnew : ∀ b o, A2 = some ⟨b, o, none⟩ → wb.heap.size ≤ b := fun b o hA => (ho2.lt b (by rw [hA]; rfl)).1
  have HO2 := Lib.hid (show w2.ownsRow wb.heap.size 5 1 (.slice A2 n2 c2) n2 (u8n xs) from ho2)
  have h1 := B1.out.below hb2
  have h2 := B2.out.below hb2
  have HR2 := Lib.hid hr2
  have HN2 := Lib.hid hnew
  have HB2 := Lib.hid (HBB.out.trans (hb2.mono HBB.out.size))
  have x7 := h1.cell (i := 7) rfl
  have z7 := h1.frozen 7
  have H1 := Lib.hid (h1.set 7 (.slice A2 n2 c2))
  have H2 := Lib.hid (h2.far (p := ⟨w.heap.size, 7, none⟩) (by show w.heap.size + 1 ≠ w.heap.size; omega) (.slice A2 n2 c2))
  clear hr2 hnew hb2 h1 h2 hwa hwb B1 B2 HC HBB ho2
  go_wp2_with (first
    | (refine wpList_load_blk rfl 29 (.tmp 1) rfl w.heap.size rfl H1.out Try.underlying29 rfl size_im ?_)
    | (refine wpList_store_blk rfl 29 (.tmp 2) (.tmp 7) rfl (w.heap.size + 1) rfl (Im.cells ⟨p, v, hh, m, f, s, r, A2, n2, c2, xs⟩) rfl H2.out rfl size_im (VmcP.im_one _) ?_; intro w3 hB3 ho3))
  have hb3 : Below w.heap.size w w3 := ho3.out.below (HB2.out.setCell (Nat.le_refl _) _) (by omega) (by have := HB2.out.size; simpa [World.setCell] using this)
  have hn2 : n2 = n := by have h1 := HR2.out.1; have h2 := HL.out; simp [u8n] at h1; omega
  have hK : Keep (fun k => k = w.heap.size ∨ k = w.heap.size + 1) w2 w3 := (Keep.set (F := fun k => k = w.heap.size ∨ k = w.heap.size + 1) w2 7 (.slice A2 n2 c2) (Or.inl rfl)).trans (Keep.only (F := fun k => k = w.heap.size ∨ k = w.heap.size + 1) ho3.out (Or.inr rfl)) fun k hk => .inl hk
  have hr3 : Rd w3 A2 n2 c2 (u8n xs) := hK.rd HR2.out fun _ b o hA => by have h1 := HN2.out b o hA; have h2 := HSB.out; omega
  refine ret_row (g := w.heap.size + 1) (cs := (Im.cells ⟨p, v, hh, m, f, s, r, A2, n2, c2, xs⟩).toArray) Try.results28 rfl rfl hB3.out Try.underlying29 rfl size_im ?_
  exact ⟨⟨p, v, hh, m, f, s, r, A2, n2, c2, xs⟩, rfl, ⟨⟨rfl, rfl, rfl, rfl, rfl, rfl, rfl, hn2, rfl⟩, ⟨hr3, HB.out⟩, fun b o hA => by have h1 := HN2.out b o hA; have h2 := HSB.out; omega, hb3⟩, hK.own (own_low HO2.out (by have h2 := HSB.out; omega)) fun k hk => by have h1 := (HO2.out.lt k hk).1; have h2 := HSB.out; omega⟩
theorem copied_any (i : Im) (w : World) (h : i.ok w) (hn : 0 < i.n) (hl : i.n ≤ 100000) : Calls Try.prog 28 #[i.val] w fun e w' => ∃ j : Im, e = .returned j.val ∧ Cop w i j w' :=
  (copied_own i w h hn hl).mono fun _ _ ⟨j, h1, h2⟩ => ⟨j, h1, h2.1⟩
theorem built_machine (i : Im) : Try.prog.built 91 [(0, .agg i.cells.toArray)] = some (mc i ⟨0, [0, 0, 0, 0, 0, 0, 0, 0], 0, [0, 0, 0, 0, 0, 0, 0, 0, 0, 0, 0, 0, 0, 0, 0, 0], 0, 0⟩).toArray := by kernel_rfl
/-- The state of a machine that was just made. -/
def v0 : V := ⟨0, [0, 0, 0, 0, 0, 0, 0, 0], 0, [0, 0, 0, 0, 0, 0, 0, 0, 0, 0, 0, 0, 0, 0, 0, 0], 0, 0⟩
theorem v0_ok : v0.ok := ⟨rfl, rfl, by decide, by unfold v0; simp [num], by unfold v0; simp [num]⟩
theorem wpList_build_l {P : Program} {ops : Array Oper} {rest : List Oper} {o : Oper} {a : Act} {w : World} {Q : Exit → Act → World → Prop} (hg : o.guard = none) (t : TypeId) (parts : List (Nat × Operand)) (ho : o.op = .build t parts.toArray)
    (cells : List Value) (hc : P.built t (parts.map fun (i, x) => (i, a.eval x)) = some cells.toArray) (h : wpList P ops Q rest (a.put o.dst (.agg cells.toArray)) w) : wpList P ops Q (o :: rest) a w := by
  have hc' : P.built t (parts.toArray.map fun (i, x) => (i, a.eval x)).toList = some cells.toArray := by
    rw [← hc]
    simp
  exact wpList_build hg t parts.toArray ho (by rw [hc']; rfl) (by rw [hc']; exact h)
set_option maxRecDepth 100000 in
theorem new_bad (i : Im) (w : World) (h : i.ok w) (hn : i.n ≤ 9223372036854775807) (hr : ¬ right i) : Calls Try.prog 9 #[i.val] w fun e w' => e = .returned (.tuple #[.pointer none, .int .i64 3]) ∧ Below w.heap.size w w' := by
  have HR := Lib.hid (fun w' => ImgB.right_any i w' hn false ⟨(fun e => nomatch e), (fun e => absurd e hr)⟩)
  obtain ⟨p, v, hh, m, f, s, r, A, n, c, xs⟩ := i
  have HBX := Lib.hid (show Below w.heap.size w (w.alloc (.cells #[.int .i64 p, .int .i64 v, .int .i64 hh, .int .i64 m, .int .i64 f, .int .i64 s, .int .i64 r, .slice A n c] 29)) from (Below.refl _ _).alloc (Nat.le_refl _) _)
  clear h hn hr
  show Calls _ _ #[.agg #[.int .i64 p, .int .i64 v, .int .i64 hh, .int .i64 m, .int .i64 f, .int .i64 s, .int .i64 r, .slice A n c]] w _
  go_enter Try.func9, Try.ntmps9
  go_wp2_with fail
  refine (HR.out _).mono ?_
  rintro e w2 ⟨rfl, hb2⟩
  have HB2 := Lib.hid (HBX.out.trans (hb2.mono HBX.out.size))
  clear hb2
  go_wp2
  go_ret2
  exact ⟨rfl, HB2.out⟩
set_option maxRecDepth 100000 in
theorem new_yes (i : Im) (w : World) (h : i.ok w) (hr : right i) : Calls Try.prog 9 #[i.val] w fun e w' => ∃ M j, e = .returned (.tuple #[.pointer (some ⟨M, 0, none⟩), .int .i64 0]) ∧ Blk w' M 91 (mc j v0) ∧ w.heap.size ≤ M ∧ (∀ b o, j.A = some ⟨b, o, none⟩ → 0 < j.n → b ≠ M) ∧ Cop w i j w' := by
  have hn0 : i.n ≤ 96 ∧ 0 < i.n := by have := hr.2.2.2.2.2.2.2; omega
  have HR := Lib.hid (fun w' => ImgB.right_any i w' (by omega) true ⟨fun _ => hr, fun _ => rfl⟩)
  have HC := Lib.hid (fun w' (hb : Below w.heap.size w w') => copied_any i w' (h.below hb) hn0.2 (by omega))
  obtain ⟨p, v, hh, m, f, s, r, A, n, c, xs⟩ := i
  obtain ⟨wa, hwa⟩ : ∃ wa, wa = w.alloc (.cells #[.int .i64 p, .int .i64 v, .int .i64 hh, .int .i64 m, .int .i64 f, .int .i64 s, .int .i64 r, .slice A n c] 29) := ⟨_, rfl⟩
  have hba : Below w.heap.size w wa := by rw [hwa]; exact (Below.refl _ _).alloc (Nat.le_refl _) _
  have b1 : Blk wa w.heap.size 29 [.int .i64 p, .int .i64 v, .int .i64 hh, .int .i64 m, .int .i64 f, .int .i64 s, .int .i64 r, .slice A n c] := by rw [hwa]; exact Blk.new w _ _
  have HBA := Lib.hid hba
  have B1 := Lib.hid b1
  clear h hr hn0 hba b1
  show Calls _ _ #[.agg #[.int .i64 p, .int .i64 v, .int .i64 hh, .int .i64 m, .int .i64 f, .int .i64 s, .int .i64 r, .slice A n c]] w _
  go_enter Try.func9, Try.ntmps9
  go_wp2_with fail
  rw [← hwa]
  refine (HR.out _).mono ?_
  rintro e w2 ⟨rfl, hb2⟩
  have hB2 := B1.out.below hb2
  obtain ⟨x0, x1, x2, x3, x4, x5, x6, x7⟩ := (show w2.cell? ⟨w.heap.size, 0, none⟩ = some (.int .i64 p) ∧ w2.cell? ⟨w.heap.size, 1, none⟩ = some (.int .i64 v) ∧ w2.cell? ⟨w.heap.size, 2, none⟩ = some (.int .i64 hh) ∧ w2.cell? ⟨w.heap.size, 3, none⟩ = some (.int .i64 m) ∧ w2.cell? ⟨w.heap.size, 4, none⟩ = some (.int .i64 f) ∧ w2.cell? ⟨w.heap.size, 5, none⟩ = some (.int .i64 s) ∧ w2.cell? ⟨w.heap.size, 6, none⟩ = some (.int .i64 r) ∧ w2.cell? ⟨w.heap.size, 7, none⟩ = some (.slice A n c) from ⟨hB2.cell rfl, hB2.cell rfl, hB2.cell rfl, hB2.cell rfl, hB2.cell rfl, hB2.cell rfl, hB2.cell rfl, hB2.cell rfl⟩)
  have HB2 := Lib.hid (HBA.out.trans (hb2.mono HBA.out.size))
  clear hb2 hB2 hwa B1
  go_wp2_with fail
  refine (HC.out _ HB2.out).mono ?_
  rintro e w3 ⟨j, rfl, hj⟩
  have HJ := Lib.hid hj
  have HBM := Lib.hid (built_machine j)
  clear hj x0 x1 x2 x3 x4 x5 x6 x7
  obtain ⟨jp, jv, jh, jm, jf, js, jr, jA, jn, jc, jx⟩ := j
  go_wp2_with (refine wpList_build_l rfl 91 [(0, .tmp 8)] rfl (mc ⟨jp, jv, jh, jm, jf, js, jr, jA, jn, jc, jx⟩ v0) HBM.out ?_)
  go_ret2
  have hb4 : Below w.heap.size w (w3.alloc (.cells (mc ⟨jp, jv, jh, jm, jf, js, jr, jA, jn, jc, jx⟩ v0).toArray 91)) := (HB2.out.trans (HJ.out.2.2.2.mono HB2.out.size)).alloc (by have := HB2.out.size; have := HJ.out.2.2.2.size; omega) _
  exact ⟨w3.heap.size, ⟨jp, jv, jh, jm, jf, js, jr, jA, jn, jc, jx⟩, rfl, Blk.new w3 _ _, by have := HB2.out.size; have := HJ.out.2.2.2.size; omega, (fun b o hA hn => by
    obtain ⟨b', o', hA', hlt, _⟩ := HJ.out.2.1.code.2.2.2 hn
    rw [hA'] at hA
    injection hA with hA
    injection hA with hA
    omega), HJ.out.1, HJ.out.2.1.alloc _, fun b o hA => by have h1 := HJ.out.2.2.1 b o hA; have := HB2.out.size; omega, hb4⟩
/-- Image tells what the machine was made of, in memory of its own. -/
theorem image_own {M : Nat} {i : Im} {v : V} {w : World} (hB : Blk w M 91 (mc i v)) (h : i.ok w) (hn : 0 < i.n) (hl : i.n ≤ 100000) : Calls Try.prog 12 #[.pointer (some ⟨M, 0, none⟩)] w fun e w' => ∃ j : Im, e = .returned j.val ∧ Copo w i j w' := by
  have hMl := hB.lt
  have HC := Lib.hid (fun w' (hb : Below w.heap.size w w') => copied_own i w' (h.below hb) hn hl)
  obtain ⟨p, vv, hh, m, f, s, r, A, n, c, xs⟩ := i
  have x0 := hB.cell (i := 0) (v := .int .i64 p) rfl
  have x1 := hB.cell (i := 1) (v := .int .i64 vv) rfl
  have x2 := hB.cell (i := 2) (v := .int .i64 hh) rfl
  have x3 := hB.cell (i := 3) (v := .int .i64 m) rfl
  have x4 := hB.cell (i := 4) (v := .int .i64 f) rfl
  have x5 := hB.cell (i := 5) (v := .int .i64 s) rfl
  have x6 := hB.cell (i := 6) (v := .int .i64 r) rfl
  have x7 := hB.cell (i := 7) (v := .slice A n c) rfl
  obtain ⟨wa, hwa⟩ : ∃ wa, wa = w.alloc (.cells #[.int .i64 0, .int .i64 0, .int .i64 0, .int .i64 0, .int .i64 0, .int .i64 0, .int .i64 0, .slice none 0 0] 29) := ⟨_, rfl⟩
  have HBA := Lib.hid (show Below w.heap.size w wa from by rw [hwa]; exact (Below.refl _ _).alloc (Nat.le_refl _) _)
  have HZ := Lib.hid (show Blk wa w.heap.size 29 [.int .i64 0, .int .i64 0, .int .i64 0, .int .i64 0, .int .i64 0, .int .i64 0, .int .i64 0, .slice none 0 0] from by rw [hwa]; exact Blk.new w _ _)
  clear hB h hn hl
  go_enter Try.func12, Try.ntmps12
  go_wp2_with fail
  rw [← hwa]
  refine (HC.out _ HBA.out).mono ?_
  rintro e w3 ⟨j, rfl, hj⟩
  have HJ := Lib.hid hj
  have HZ3 := Lib.hid (HZ.out.below hj.1.2.2.2)
  clear hj hwa x0 x1 x2 x3 x4 x5 x6 x7
  go_wp2_with (refine wpList_store_blk rfl 29 (.tmp 2) (.tmp 10) rfl w.heap.size rfl (Im.cells j) rfl HZ3.out rfl size_im (im_one _) ?_; intro w4 hB4 ho4)
  refine ret_row (g := w.heap.size) (cs := (Im.cells j).toArray) Try.results12 rfl rfl hB4.out Try.underlying29 rfl size_im ?_
  have hs := HBA.out.size
  exact ⟨j, rfl, ⟨HJ.out.1.1, ⟨(Keep.only (F := fun k => k = w.heap.size) ho4.out rfl).rd HJ.out.1.2.1.code fun _ b o hA => by have h1 := HJ.out.1.2.2.1 b o hA; have h2 := HZ.out.lt; omega, HJ.out.1.2.1.byt⟩, fun b o hA => by have h1 := HJ.out.1.2.2.1 b o hA; omega, ho4.out.below (HBA.out.trans (HJ.out.1.2.2.2.mono hs)) (Nat.le_refl _) (by have := HJ.out.1.2.2.2.size; omega)⟩, (Keep.only (F := fun k => k = w.heap.size) ho4.out rfl).own (own_low HJ.out.2 hs) fun k hk => by have h1 := (HJ.out.2.lt k hk).1; have h2 := HZ.out.lt; omega⟩
theorem image_any {M : Nat} {i : Im} {v : V} {w : World} (hB : Blk w M 91 (mc i v)) (h : i.ok w) (hn : 0 < i.n) (hl : i.n ≤ 100000) : Calls Try.prog 12 #[.pointer (some ⟨M, 0, none⟩)] w fun e w' => ∃ j : Im, e = .returned j.val ∧ Cop w i j w' :=
  (image_own hB h hn hl).mono fun _ _ ⟨j, h1, h2⟩ => ⟨j, h1, h2.1⟩
end Go.Proofs.Ytliiinffkcgcaaa.VmcP
namespace Go.Proofs.Ytliiinffkcgcaaa.VmcS
open Go.RowKit Go.Proofs.Ytliiinffkcgcaaa.Kit Go.Proofs.Ytliiinffkcgcaaa.Byt Go.Proofs.Ytliiinffkcgcaaa.Mem Go.Proofs.Ytliiinffkcgcaaa.VmcM Go.Proofs.Ytliiinffkcgcaaa.VmcA Go.Proofs.Ytliiinffkcgcaaa.VmcJ Go.Proofs.Ytliiinffkcgcaaa.PrtB Go.Proofs.Ytliiinffkcgcaaa.PrtC
open Go.Proofs.Ytliiinffkcgcaaa.ImgA (Im)
open Go.Proofs.Ytliiinffkcgcaaa.VmcP (own_low)
open Go.Proofs.Ytliiinffkcgcaaa.BitA (i64s)
open Go.Proofs.Ytliiinffkcgcaaa.TabE (ret_row)
open Go.Proofs.Ytliiinffkcgcaaa.TabI (info_int info_of)

section
variable {w : World} {sb M : Nat} {v : V} {i : Im}
theorem rd_s (h : v.ok) (hB : Blk w sb 89 (scells v)) : Rd w (some ⟨sb, 1, none⟩) v.h 8 (TabI.i64s (v.s.take v.h)) := by
  have h8 := h.h8
  have hl := h.ls
  refine ⟨by simp [TabI.i64s, hl]; omega, h8, by omega, fun hp => ⟨sb, 1, rfl, hB.lt, fun j u hu => ?_⟩⟩
  have hj : j < v.h := by have := (List.getElem?_eq_some_iff.1 hu).1; simp [TabI.i64s, hl] at this; omega
  refine hB.cell ?_
  rw [sc_s h (by omega), ← hu]
  unfold TabI.i64s
  rw [List.getElem?_map, List.getElem?_take, if_pos hj, List.getD_eq_getElem?_getD, List.getElem?_eq_getElem (by omega)]
  rfl
theorem rd_m (h : v.ok) {k : Nat} (hk : k ≤ 16) (hB : Blk w sb 89 (scells v)) : Rd w (some ⟨sb, 10, none⟩) k 16 (TabI.i64s (v.m.take k)) := by
  have hl := h.lm
  refine ⟨by simp [TabI.i64s, hl]; omega, hk, by omega, fun hp => ⟨sb, 10, rfl, hB.lt, fun j u hu => ?_⟩⟩
  have hj : j < k := by have := (List.getElem?_eq_some_iff.1 hu).1; simp [TabI.i64s, hl] at this; omega
  refine hB.cell ?_
  rw [sc_m h (by omega), ← hu]
  unfold TabI.i64s
  rw [List.getElem?_map, List.getElem?_take, if_pos hj, List.getD_eq_getElem?_getD, List.getElem?_eq_getElem (by omega)]
  rfl
end
/-- A new list of its own. -/
def NewsO (w : World) (l : List Int) : Ending → World → Prop := fun e w' => ∃ A n c, e = .returned (.slice A n c) ∧ w'.ownsRow w.heap.size 3 1 (.slice A n c) n (TabI.i64s l) ∧ Below w.heap.size w w'
section
variable {w : World} {A : Option Addr} {n c : Nat} {l : List Int}
set_option maxRecDepth 100000 in
theorem clone_own {b o : Nat} (hR : Rd w (some ⟨b, o, none⟩) n c (TabI.i64s l)) (hn : n ≤ 100) : Calls Try.prog 39 #[.slice (some ⟨b, o, none⟩) n c] w (NewsO w l) := by
  obtain ⟨i0, hi0, hz0, hz1, hz2⟩ := info_of info_int
  have hnil := fun (W : World) (a : Option Addr) (n c : Nat) => Lib.run_eql_slice_nil (P := Try.prog) W 64 3 a n c 0 0 Try.underlying64
  have HR := Lib.hid hR
  clear hR
  go_enter Try.func39, Try.ntmps39
  go_wp2_with (at_builtin; refine wpList_add _ rfl (.tmp 5) (.tmp 6) _ rfl w.heap.size 3 i0 _ 8 Try.underlying64 hi0 hz0 hz1 hz2 rfl _ 0 [] rfl (emptied w _) (some ⟨b, o, none⟩) n c (TabI.i64s l) rfl (HR.out.alloc _) (TabI.i64s_one _) (by omega) (by omega) (size_alloc _ _) ?_; intro A2 n2 c2 w2 hn2 hown2 hg2 hat2; have hb2 := below_add ((Below.refl w.heap.size w).alloc (Nat.le_refl _) _) (emptied w _) (Nat.le_refl _) hg2)
  go_ret
  have h3 : w2.ownsRow w.heap.size 3 1 (.slice A2 n2 c2) n2 (TabI.i64s l) := by simpa using hown2
  exact ⟨A2, n2, c2, rfl, h3, hb2⟩
end
/-- A state that is told: its lists lie in memory from block B on. -/
def Sv (B : Nat) (w : World) (z : Z) (x : Value) : Prop := ∃ A1 n1 c1 A2 n2 c2, x = .agg #[.int .i64 z.pc, .slice A1 n1 c1, .slice A2 n2 c2, .int .i64 z.tk, .int .i64 z.ft] ∧ w.ownsRow B 3 1 (.slice A1 n1 c1) n1 (TabI.i64s z.st) ∧ w.ownsRow B 3 1 (.slice A2 n2 c2) n2 (TabI.i64s z.mem)
def z28 : List Value := [.int .i64 0, .int .i64 0, .int .i64 0, .int .i64 0, .int .i64 0, .int .i64 0, .int .i64 0, .int .i64 0, .int .i64 0, .int .i64 0, .int .i64 0, .int .i64 0, .int .i64 0, .int .i64 0, .int .i64 0, .int .i64 0, .int .i64 0, .int .i64 0, .int .i64 0, .int .i64 0, .int .i64 0, .int .i64 0, .int .i64 0, .int .i64 0, .int .i64 0, .int .i64 0, .int .i64 0, .int .i64 0]
theorem sc_one (v : V) : ∀ u ∈ scells v, u.oneCell' = true := by
  intro u hu
  unfold scells i64s at hu
  simp only [List.mem_cons, List.mem_append, List.mem_map, List.not_mem_nil, or_false] at hu
  rcases hu with rfl | ⟨_, _, rfl⟩ | rfl | ⟨_, _, rfl⟩ | rfl | rfl <;> rfl
theorem size_st : (Try.prog.info? 66).map (·.size) = some 5 := by kernel_rfl
set_option maxRecDepth 100000 in
set_option maxHeartbeats 1600000 in
theorem state_any {M : Nat} {i : Im} {v : V} {w : World} (hB : Blk w M 91 (mc i v)) (h : v.ok) (hm : 0 ≤ i.m ∧ i.m ≤ 16) : Calls Try.prog 23 #[.pointer (some ⟨M, 0, none⟩)] w fun e w' => ∃ x, e = .returned x ∧ Sv w.heap.size w' (v.z i.m.toNat) x ∧ Below w.heap.size w w' := by
  have hMl := hB.lt
  have HOK := Lib.hid h
  obtain ⟨wa, hwa⟩ : ∃ wa, wa = w.alloc (.cells #[.int .i64 0, .slice none 0 0, .slice none 0 0, .int .i64 0, .int .i64 0] 66) := ⟨_, rfl⟩
  have HBA := Lib.hid (show Below w.heap.size w wa from by rw [hwa]; exact (Below.refl _ _).alloc (Nat.le_refl _) _)
  have HRA := Lib.hid (show Blk wa w.heap.size 66 [.int .i64 0, .slice none 0 0, .slice none 0 0, .int .i64 0, .int .i64 0] from by rw [hwa]; exact Blk.new w _ _)
  have HSA := Lib.hid (show wa.heap.size = w.heap.size + 1 from by rw [hwa]; exact World.size_alloc _ _)
  have HMA := Lib.hid (hB.below HBA.out)
  obtain ⟨p, hp⟩ : ∃ p, p = v.pc := ⟨_, rfl⟩
  obtain ⟨hh, hhh⟩ : ∃ hh, hh = v.h := ⟨_, rfl⟩
  obtain ⟨tk, htk⟩ : ∃ tk, tk = v.tk := ⟨_, rfl⟩
  obtain ⟨ft, hft⟩ : ∃ ft, ft = v.ft := ⟨_, rfl⟩
  obtain ⟨mN, hmN⟩ : ∃ mN : Nat, i.m = mN := ⟨i.m.toNat, by omega⟩
  obtain ⟨sb, hsb⟩ : ∃ sb, sb = w.heap.size + 1 := ⟨_, rfl⟩
  have h8 : hh ≤ 8 := by rw [hhh]; exact h.h8
  have h8i : (hh : Int) ≤ 8 := by omega
  have h0i : (0 : Int) ≤ (hh : Int) := by omega
  have m16 : mN ≤ 16 := by omega
  have m16i : (mN : Int) ≤ 16 := by omega
  have m0i : (0 : Int) ≤ (mN : Int) := by omega
  have HCL := Lib.hid (show ∀ w', Blk w' sb 89 (scells v) ∧ Blk w' M 91 (mc i v) → w'.cell? ⟨sb, 0, none⟩ = some (.int .i64 p) ∧ w'.cell? ⟨sb, 9, none⟩ = some (.int .i64 hh) ∧ w'.cell? ⟨M, 3, none⟩ = some (.int .i64 mN) ∧ w'.cell? ⟨sb, 26, none⟩ = some (.int .i64 tk) ∧ w'.cell? ⟨sb, 27, none⟩ = some (.int .i64 ft) from fun w' hh2 => by
    rw [hp, hhh, ← hmN, htk, hft]
    exact ⟨hh2.1.cell (sc_pc v), hh2.1.cell (sc_h h), hh2.2.cell (i := 3) rfl, hh2.1.cell (sc_tk h), hh2.1.cell (sc_ft h)⟩)
  have HRS := Lib.hid (show ∀ w', Blk w' sb 89 (scells v) ∧ Blk w' M 91 (mc i v) → Rd w' (some ⟨sb, 1, none⟩) hh 8 (TabI.i64s (v.s.take hh)) from fun w' hh2 => by rw [hhh]; exact rd_s h hh2.1)
  have HRM := Lib.hid (show ∀ w', Blk w' sb 89 (scells v) ∧ Blk w' M 91 (mc i v) → Rd w' (some ⟨sb, 10, none⟩) mN 16 (TabI.i64s (v.m.take mN)) from fun w' hh2 => rd_m h m16 hh2.1)
  have HZ := Lib.hid (show v.z i.m.toNat = ⟨p, v.s.take hh, v.m.take mN, tk, ft⟩ from by rw [hp, hhh, htk, hft, hmN]; rfl)
  have HZ28 := Lib.hid (show (Try.prog.info? 89).map (·.size) = some (scells v).length from by rw [sc_len h]; exact size_state)
  have HZB := Lib.hid (show Blk ((w.alloc (.cells #[.int .i64 0, .slice none 0 0, .slice none 0 0, .int .i64 0, .int .i64 0] 66)).alloc (.cells z28.toArray 89)) (w.heap.size + 1) 89 z28 from by have q := Blk.new (w.alloc (.cells #[.int .i64 0, .slice none 0 0, .slice none 0 0, .int .i64 0, .int .i64 0] 66)) 89 z28; rwa [World.size_alloc] at q)
  clear hB h hm hp hhh htk hft hmN
  go_enter Try.func23, Try.ntmps23
  go_wp2_with (first
    | (refine wpList_load_part rfl 89 (.tmp 9) rfl M 8 rfl (scells v) (show Blk (w.alloc _) M _ _ from by rw [← hwa]; exact HMA.out) (by unfold mc; rw [List.drop_left' (by rfl), List.take_length]) Try.underlying89 rfl HZ28.out ?_)
    | (refine wpList_store_blk rfl 89 (.tmp 3) (.tmp 10) rfl (w.heap.size + 1) rfl (scells v) rfl HZB.out (by rw [sc_len HOK.out]; rfl) HZ28.out (sc_one v) ?_; intro w4 hB4 ho4))
  have hb4 : Below w.heap.size w w4 := ho4.out.below (by have q : Below w.heap.size w (w.alloc (.cells #[.int .i64 0, .slice none 0 0, .slice none 0 0, .int .i64 0, .int .i64 0] 66)) := (Below.refl _ _).alloc (Nat.le_refl _) _; exact q.alloc q.size _) (by omega) (by simp; omega)
  have HB4 := Lib.hid hb4
  rw [← hsb] at hB4 ho4
  have hM4 := (show Blk w4 M 91 (mc i v) from ho4.out.blk (by have q := HMA.out.alloc (.cells z28.toArray 89); rw [hwa] at q; exact q) (by omega))
  have HR4 := Lib.hid (show Blk w4 w.heap.size 66 [.int .i64 0, .slice none 0 0, .slice none 0 0, .int .i64 0, .int .i64 0] from ho4.out.blk (by have q := HRA.out.alloc (.cells z28.toArray 89); rw [hwa] at q; exact q) (by omega))
  have HS4 := Lib.hid (show Blk w4 sb 89 (scells v) ∧ Blk w4 M 91 (mc i v) from ⟨hB4.out, hM4⟩)
  rw [← hsb]
  have HSB := Lib.hid hsb
  clear hB4 ho4 hM4 hb4 hwa HZB HRA HMA hsb
  refine wp_region_held_drew (S := fun w' => Blk w' sb 89 (scells v) ∧ Blk w' M 91 (mc i v)) (by kernel_rfl) HS4.out (fun hS => ?_)
  refine wpAnyH_take (i := 0) (v := .pointer (some ⟨sb, 0, none⟩)) rfl (by kernel_rfl) (by kernel_rfl) (by kernel_rfl) (fun _ _ _ h => h) (Or.inl ⟨by rfl, fun w hS => (by first | rfl | (go_simp; done))⟩) hS ?_
  try simp only [Act.put, List.getElem_toArray, List.getElem_cons_succ, List.getElem_cons_zero, List.setIfInBounds_toArray, List.set_cons_zero, List.set_cons_succ]
  refine wpAnyH_take (i := 1) (v := .int .i64 p) rfl (by kernel_rfl) (by kernel_rfl) (by kernel_rfl) (fun _ _ _ h => h) (Or.inl ⟨by rfl, fun w hS => (by have h0 := HCL.out w hS; obtain ⟨q0, q1, q2, q3, q4⟩ := h0; go_simp; done)⟩) hS ?_
  try simp only [Act.put, List.getElem_toArray, List.getElem_cons_succ, List.getElem_cons_zero, List.setIfInBounds_toArray, List.set_cons_zero, List.set_cons_succ]
  refine wpAnyH_take (i := 2) (v := .pointer (some ⟨sb, 1, none⟩)) rfl (by kernel_rfl) (by kernel_rfl) (by kernel_rfl) (fun _ _ _ h => h) (Or.inl ⟨by rfl, fun w hS => (by first | rfl | (go_simp; done))⟩) hS ?_
  try simp only [Act.put, List.getElem_toArray, List.getElem_cons_succ, List.getElem_cons_zero, List.setIfInBounds_toArray, List.set_cons_zero, List.set_cons_succ]
  refine wpAnyH_take (i := 3) (v := .pointer (some ⟨sb, 9, none⟩)) rfl (by kernel_rfl) (by kernel_rfl) (by kernel_rfl) (fun _ _ _ h => h) (Or.inl ⟨by rfl, fun w hS => (by first | rfl | (go_simp; done))⟩) hS ?_
  try simp only [Act.put, List.getElem_toArray, List.getElem_cons_succ, List.getElem_cons_zero, List.setIfInBounds_toArray, List.set_cons_zero, List.set_cons_succ]
  refine wpAnyH_take (i := 4) (v := .int .i64 (hh : Nat)) rfl (by kernel_rfl) (by kernel_rfl) (by kernel_rfl) (fun _ _ _ h => h) (Or.inl ⟨by rfl, fun w hS => (by have h0 := HCL.out w hS; obtain ⟨q0, q1, q2, q3, q4⟩ := h0; go_simp; done)⟩) hS ?_
  try simp only [Act.put, List.getElem_toArray, List.getElem_cons_succ, List.getElem_cons_zero, List.setIfInBounds_toArray, List.set_cons_zero, List.set_cons_succ]
  refine wpAnyH_take (i := 5) (v := .slice (some ⟨sb, 1, none⟩) hh 8) rfl (by kernel_rfl) (by kernel_rfl) (by kernel_rfl) (fun _ _ _ h => h) (Or.inl ⟨by rfl, fun w hS => (by first | rfl | (go_simp; done))⟩) hS ?_
  try simp only [Act.put, List.getElem_toArray, List.getElem_cons_succ, List.getElem_cons_zero, List.setIfInBounds_toArray, List.set_cons_zero, List.set_cons_succ]
  refine wpAnyH_take (i := 7) (v := .pointer (some ⟨sb, 10, none⟩)) rfl (by kernel_rfl) (by kernel_rfl) (by kernel_rfl) (fun _ _ _ h => h) (Or.inl ⟨by rfl, fun w hS => (by first | rfl | (go_simp; done))⟩) hS ?_
  try simp only [Act.put, List.getElem_toArray, List.getElem_cons_succ, List.getElem_cons_zero, List.setIfInBounds_toArray, List.set_cons_zero, List.set_cons_succ]
  refine wpAnyH_take (i := 8) (v := .pointer (some ⟨M, 0, none⟩)) rfl (by kernel_rfl) (by kernel_rfl) (by kernel_rfl) (fun _ _ _ h => h) (Or.inl ⟨by rfl, fun w hS => (by first | rfl | (go_simp; done))⟩) hS ?_
  try simp only [Act.put, List.getElem_toArray, List.getElem_cons_succ, List.getElem_cons_zero, List.setIfInBounds_toArray, List.set_cons_zero, List.set_cons_succ]
  refine wpAnyH_take (i := 9) (v := .pointer (some ⟨M, 0, none⟩)) rfl (by kernel_rfl) (by kernel_rfl) (by kernel_rfl) (fun _ _ _ h => h) (Or.inl ⟨by rfl, fun w hS => (by first | rfl | (go_simp; done))⟩) hS ?_
  try simp only [Act.put, List.getElem_toArray, List.getElem_cons_succ, List.getElem_cons_zero, List.setIfInBounds_toArray, List.set_cons_zero, List.set_cons_succ]
  refine wpAnyH_take (i := 10) (v := .pointer (some ⟨M, 0, none⟩)) rfl (by kernel_rfl) (by kernel_rfl) (by kernel_rfl) (fun _ _ _ h => h) (Or.inl ⟨by rfl, fun w hS => (by first | rfl | (go_simp; done))⟩) hS ?_
  try simp only [Act.put, List.getElem_toArray, List.getElem_cons_succ, List.getElem_cons_zero, List.setIfInBounds_toArray, List.set_cons_zero, List.set_cons_succ]
  refine wpAnyH_take (i := 11) (v := .pointer (some ⟨M, 3, none⟩)) rfl (by kernel_rfl) (by kernel_rfl) (by kernel_rfl) (fun _ _ _ h => h) (Or.inl ⟨by rfl, fun w hS => (by first | rfl | (go_simp; done))⟩) hS ?_
  try simp only [Act.put, List.getElem_toArray, List.getElem_cons_succ, List.getElem_cons_zero, List.setIfInBounds_toArray, List.set_cons_zero, List.set_cons_succ]
  refine wpAnyH_take (i := 12) (v := .int .i64 (mN : Nat)) rfl (by kernel_rfl) (by kernel_rfl) (by kernel_rfl) (fun _ _ _ h => h) (Or.inl ⟨by rfl, fun w hS => (by have h0 := HCL.out w hS; obtain ⟨q0, q1, q2, q3, q4⟩ := h0; go_simp; done)⟩) hS ?_
  try simp only [Act.put, List.getElem_toArray, List.getElem_cons_succ, List.getElem_cons_zero, List.setIfInBounds_toArray, List.set_cons_zero, List.set_cons_succ]
  refine wpAnyH_take (i := 13) (v := .slice (some ⟨sb, 10, none⟩) mN 16) rfl (by kernel_rfl) (by kernel_rfl) (by kernel_rfl) (fun _ _ _ h => h) (Or.inl ⟨by rfl, fun w hS => (by first | rfl | (go_simp; done))⟩) hS ?_
  try simp only [Act.put, List.getElem_toArray, List.getElem_cons_succ, List.getElem_cons_zero, List.setIfInBounds_toArray, List.set_cons_zero, List.set_cons_succ]
  refine wpAnyH_take (i := 15) (v := .pointer (some ⟨sb, 26, none⟩)) rfl (by kernel_rfl) (by kernel_rfl) (by kernel_rfl) (fun _ _ _ h => h) (Or.inl ⟨by rfl, fun w hS => (by first | rfl | (go_simp; done))⟩) hS ?_
  try simp only [Act.put, List.getElem_toArray, List.getElem_cons_succ, List.getElem_cons_zero, List.setIfInBounds_toArray, List.set_cons_zero, List.set_cons_succ]
  refine wpAnyH_take (i := 16) (v := .int .i64 tk) rfl (by kernel_rfl) (by kernel_rfl) (by kernel_rfl) (fun _ _ _ h => h) (Or.inl ⟨by rfl, fun w hS => (by have h0 := HCL.out w hS; obtain ⟨q0, q1, q2, q3, q4⟩ := h0; go_simp; done)⟩) hS ?_
  try simp only [Act.put, List.getElem_toArray, List.getElem_cons_succ, List.getElem_cons_zero, List.setIfInBounds_toArray, List.set_cons_zero, List.set_cons_succ]
  refine wpAnyH_take (i := 17) (v := .pointer (some ⟨sb, 27, none⟩)) rfl (by kernel_rfl) (by kernel_rfl) (by kernel_rfl) (fun _ _ _ h => h) (Or.inl ⟨by rfl, fun w hS => (by first | rfl | (go_simp; done))⟩) hS ?_
  try simp only [Act.put, List.getElem_toArray, List.getElem_cons_succ, List.getElem_cons_zero, List.setIfInBounds_toArray, List.set_cons_zero, List.set_cons_succ]
  refine wpAnyH_take (i := 18) (v := .int .i64 ft) rfl (by kernel_rfl) (by kernel_rfl) (by kernel_rfl) (fun _ _ _ h => h) (Or.inl ⟨by rfl, fun w hS => (by have h0 := HCL.out w hS; obtain ⟨q0, q1, q2, q3, q4⟩ := h0; go_simp; done)⟩) hS ?_
  try simp only [Act.put, List.getElem_toArray, List.getElem_cons_succ, List.getElem_cons_zero, List.setIfInBounds_toArray, List.set_cons_zero, List.set_cons_succ]
  refine wpAnyH_ready (rs := [6]) (by kernel_rfl) (by simp) ?_
  refine AllReadyH.cons rfl (fun K hK => ?_) (AllReadyH.nil)
  rw [if_pos (by rfl)]
  go_simp
  refine (clone_own (HRS.out _ hS) (by omega)).mono ?_
  rintro e w5 ⟨A1, n1, c1, rfl, h1, h3⟩
  dsimp only
  refine hK.out _ _ ⟨hS.1.below h3, hS.2.below h3⟩ (fun hS => ?_)
  clear hK K
  have HL1 := Lib.hid h1
  have HB5 := Lib.hid (HB4.out.trans (Below.mono (show Below w4.heap.size w4 w5 from ⟨h3.os, h3.tape, h3.output, h3.size, h3.block⟩) HB4.out.size))
  have HR5 := Lib.hid (HR4.out.below (show Below w4.heap.size w4 w5 from ⟨h3.os, h3.tape, h3.output, h3.size, h3.block⟩))
  have HZ5 := Lib.hid (show w4.heap.size ≤ w5.heap.size from h3.size)
  clear h1 h3
  try simp only [Act.put, List.getElem_toArray, List.getElem_cons_succ, List.getElem_cons_zero, List.setIfInBounds_toArray, List.set_cons_zero, List.set_cons_succ]
  refine wpAnyH_ready (rs := [14]) (by kernel_rfl) (by simp) ?_
  refine AllReadyH.cons rfl (fun K hK => ?_) (AllReadyH.nil)
  rw [if_pos (by rfl)]
  go_simp
  refine (clone_own (HRM.out _ hS) (by omega)).mono ?_
  rintro e w6 ⟨A2, n2, c2, rfl, h1, h3⟩
  dsimp only
  refine hK.out _ _ ⟨hS.1.below h3, hS.2.below h3⟩ (fun hS => ?_)
  clear hK K
  have HL2 := Lib.hid h1
  have HL1' := Lib.hid (own_below HL1.out h3)
  have HB6 := Lib.hid (HB5.out.trans (h3.mono HB5.out.size))
  have h6 := HR5.out.below h3
  have y0 := h6.cell (i := 0) rfl
  have y1 := h6.cell (i := 1) rfl
  have y2 := h6.cell (i := 2) rfl
  have y3 := h6.cell (i := 3) rfl
  have y4 := h6.cell (i := 4) rfl
  have u0 := h6.frozen 0
  have u1 := h6.frozen 1
  have u2 := h6.frozen 2
  have u3 := h6.frozen 3
  have u4 := h6.frozen 4
  have HR6 := Lib.hid h6
  clear h1 h3 h6
  try simp only [Act.put, List.getElem_toArray, List.getElem_cons_succ, List.getElem_cons_zero, List.setIfInBounds_toArray, List.set_cons_zero, List.set_cons_succ]
  refine wpAnyH_take (i := 19) (v := .agg #[.int .i64 p, .slice A1 n1 c1, .slice A2 n2 c2, .int .i64 tk, .int .i64 ft]) rfl (by kernel_rfl) (by kernel_rfl) (by kernel_rfl) (fun _ _ _ h => h) (Or.inl ⟨by rfl, fun w hS => (by first | rfl | (go_simp; done))⟩) hS ?_
  try simp only [Act.put, List.getElem_toArray, List.getElem_cons_succ, List.getElem_cons_zero, List.setIfInBounds_toArray, List.set_cons_zero, List.set_cons_succ]
  refine wpAnyH_ready (rs := [20]) (by kernel_rfl) (by simp) ?_
  refine AllReadyH.cons rfl (fun K hK => ?_) (AllReadyH.nil)
  rw [if_pos (by rfl)]
  go_simp
  obtain ⟨w7, hw7⟩ : ∃ w7, w7 = ((((w6.setCell ⟨w.heap.size, 0, none⟩ (.int .i64 p)).setCell ⟨w.heap.size, 1, none⟩ (.slice A1 n1 c1)).setCell ⟨w.heap.size, 2, none⟩ (.slice A2 n2 c2)).setCell ⟨w.heap.size, 3, none⟩ (.int .i64 tk)).setCell ⟨w.heap.size, 4, none⟩ (.int .i64 ft) := ⟨_, rfl⟩
  have hk7 : Keep (fun k => k = w.heap.size) w6 w7 := by
    rw [hw7]
    exact ((((Keep.set (F := fun k => k = w.heap.size) w6 0 _ rfl).trans (Keep.set (F := fun k => k = w.heap.size) _ 1 _ rfl) fun _ h => .inl h).trans (Keep.set (F := fun k => k = w.heap.size) _ 2 _ rfl) fun _ h => .inl h).trans (Keep.set (F := fun k => k = w.heap.size) _ 3 _ rfl) fun _ h => .inl h).trans (Keep.set (F := fun k => k = w.heap.size) _ 4 _ rfl) fun _ h => .inl h
  have hR7 : Blk w7 w.heap.size 66 [.int .i64 p, .slice A1 n1 c1, .slice A2 n2 c2, .int .i64 tk, .int .i64 ft] := by
    rw [hw7]
    exact ((((HR6.out.set 0 (.int .i64 p)).set 1 (.slice A1 n1 c1)).set 2 (.slice A2 n2 c2)).set 3 (.int .i64 tk)).set 4 (.int .i64 ft)
  have HK7 := Lib.hid hk7
  have HR7 := Lib.hid hR7
  rw [← hw7]
  refine hK.out _ _ ⟨hk7.blk hS.1 (by have := HSB.out; omega), hk7.blk hS.2 (by omega)⟩ (fun hS => ?_)
  clear hK K hS hw7 hk7 hR7 y0 y1 y2 y3 y4 u0 u1 u2 u3 u4
  try simp only [Act.put, List.getElem_toArray, List.getElem_cons_succ, List.getElem_cons_zero, List.setIfInBounds_toArray, List.set_cons_zero, List.set_cons_succ]
  refine wpAnyH_done (by kernel_rfl) ?_ _
  go_wp2_with fail
  refine ret_row (g := w.heap.size) (cs := #[.int .i64 p, .slice A1 n1 c1, .slice A2 n2 c2, .int .i64 tk, .int .i64 ft]) Try.results23 rfl rfl HR7.out Try.underlying66 rfl size_st ?_
  have q4 : w.heap.size < w4.heap.size := HR4.out.lt
  have q5 := HZ5.out
  refine ⟨_, rfl, ⟨A1, n1, c1, A2, n2, c2, by rw [HZ.out], ?_, ?_⟩, HB6.out.trans (HK7.out.below (fun k hk => by omega) HB6.out.size)⟩
  · rw [HZ.out]
    refine HK7.out.own (own_low (base := w4.heap.size) HL1'.out (by omega)) fun k hk => ?_
    have q6 : w4.heap.size ≤ k := (HL1'.out.lt k hk).1
    omega
  · rw [HZ.out]
    refine HK7.out.own (own_low (base := w5.heap.size) HL2.out (by omega)) fun k hk => ?_
    have q6 : w5.heap.size ≤ k := (HL2.out.lt k hk).1
    omega
end Go.Proofs.Ytliiinffkcgcaaa.VmcS
namespace Go.Proofs.Ytliiinffkcgcaaa.VmcT
open Go.RowKit Go.Proofs.Ytliiinffkcgcaaa.Kit Go.Proofs.Ytliiinffkcgcaaa.Byt Go.Proofs.Ytliiinffkcgcaaa.Mem Go.Proofs.Ytliiinffkcgcaaa.OpsM Go.Proofs.Ytliiinffkcgcaaa.VmcM Go.Proofs.Ytliiinffkcgcaaa.VmcS
open Go.Proofs.Ytliiinffkcgcaaa.TabI (i64s i64s_len)
open Go.Proofs.Ytliiinffkcgcaaa.PrtB (bel_drewN)
open Go.Proofs.Ytliiinffkcgcaaa.PrtO (i64_at)

/-- Are two states alike? -/
def zsame (a b : Z) : Prop := a.pc = b.pc ∧ a.tk = b.tk ∧ a.ft = b.ft ∧ a.st = b.st ∧ a.mem = b.mem
theorem Sv.below {B : Nat} {w w' : World} {z : Z} {x : Value} (h : Sv B w z x) (hb : Below w.heap.size w w') : Sv B w' z x := by
  obtain ⟨A1, n1, c1, A2, n2, c2, h1, h2, h3⟩ := h
  exact ⟨A1, n1, c1, A2, n2, c2, h1, own_below h2 hb, own_below h3 hb⟩
theorem cells_eq {l m : List Int} {n : Nat} (hl : l.length = n) (hm : m.length = n) (h : ∀ j, j < n → l[j]? = m[j]?) : l = m := by
  apply List.ext_getElem?
  intro j
  by_cases hj : j < n
  · exact h j hj
  · rw [List.getElem?_eq_none (by omega), List.getElem?_eq_none (by omega)]
/-- The boxes of two states. -/
structure Two5 (w : World) (a b : Z) (A1 : Option Addr) (n1 c1 : Nat) (A2 : Option Addr) (n2 c2 : Nat) (D1 : Option Addr) (m1 d1 : Nat) (D2 : Option Addr) (m2 d2 : Nat) (wr : World) : Prop where
  x : Blk wr w.heap.size 66 [.int .i64 a.pc, .slice A1 n1 c1, .slice A2 n2 c2, .int .i64 a.tk, .int .i64 a.ft]
  y : Blk wr (w.heap.size + 1) 66 [.int .i64 b.pc, .slice D1 m1 d1, .slice D2 m2 d2, .int .i64 b.tk, .int .i64 b.ft]
  bel : Below w.heap.size w wr
set_option maxRecDepth 100000 in
set_option maxHeartbeats 3200000 in
theorem core_same (a b : Z) (A1 : Option Addr) (n1 c1 : Nat) (A2 : Option Addr) (n2 c2 : Nat) (D1 : Option Addr) (m1 d1 : Nat) (D2 : Option Addr) (m2 d2 : Nat) (w : World) (h1 : Rd w A1 n1 c1 (i64s a.st)) (h2 : Rd w A2 n2 c2 (i64s a.mem)) (k1 : Rd w D1 m1 d1 (i64s b.st)) (k2 : Rd w D2 m2 d2 (i64s b.mem)) (hn : n1 ≤ 1000 ∧ n2 ≤ 1000 ∧ m1 ≤ 1000 ∧ m2 ≤ 1000) (r : Bool) (hr : r = true ↔ zsame a b) :
    Calls Try.prog 22 #[.agg #[.int .i64 a.pc, .slice A1 n1 c1, .slice A2 n2 c2, .int .i64 a.tk, .int .i64 a.ft], .agg #[.int .i64 b.pc, .slice D1 m1 d1, .slice D2 m2 d2, .int .i64 b.tk, .int .i64 b.ft]] w fun e w' => e = .returned (.bool r) ∧ Below w.heap.size w w' := by
  obtain ⟨ap, sa, ma, at_, af⟩ := a
  obtain ⟨bp, sb, mb, bt, bf⟩ := b
  dsimp only at h1 h2 k1 k2
  obtain ⟨q1, q2, q3, q4⟩ := hn
  have e1 : sa.length = n1 := by have := h1.1; rwa [i64s_len] at this
  have e2 : ma.length = n2 := by have := h2.1; rwa [i64s_len] at this
  have e3 : sb.length = m1 := by have := k1.1; rwa [i64s_len] at this
  have e4 : mb.length = m2 := by have := k2.1; rwa [i64s_len] at this
  have HR := Lib.hid (show r = true ↔ ap = bp ∧ at_ = bt ∧ af = bf ∧ sa = sb ∧ ma = mb from hr)
  have HF := Lib.hid (show ∀ q : Prop, (r = true → q) → ¬ q → r = false from fun q hh hp => by rw [Bool.eq_false_iff]; exact fun hb => hp (hh hb))
  have HB := Lib.hid (show ∀ C1 C2 : Array Value, Below w.heap.size w ((w.alloc (.cells C1 66)).alloc (.cells C2 66)) from fun C1 C2 => ((Below.refl _ _).alloc (Nat.le_refl _) _).alloc (by simp) _)
  have H1 := Lib.hid h1
  have H2 := Lib.hid h2
  have K1 := Lib.hid k1
  have K2 := Lib.hid k2
  have E := Lib.hid (show sa.length = n1 ∧ ma.length = n2 ∧ sb.length = m1 ∧ mb.length = m2 from ⟨e1, e2, e3, e4⟩)
  clear h1 h2 k1 k2 hr e1 e2 e3 e4
  by_cases c1' : ap = bp
  rotate_left 1
  · have hrf := Lib.hid (HF.out _ (fun h => (HR.out.1 h).1) c1')
    go_enter Try.func22, Try.ntmps22
    go_wp2
    go_ret
    exact ⟨by rw [hrf.out]; rfl, HB.out _ _⟩
  by_cases c2' : at_ = bt
  rotate_left 1
  · have hrf := Lib.hid (HF.out _ (fun h => (HR.out.1 h).2.1) c2')
    go_enter Try.func22, Try.ntmps22
    go_wp2
    go_ret
    exact ⟨by rw [hrf.out]; rfl, HB.out _ _⟩
  by_cases c3' : af = bf
  rotate_left 1
  · have hrf := Lib.hid (HF.out _ (fun h => (HR.out.1 h).2.2.1) c3')
    go_enter Try.func22, Try.ntmps22
    go_wp2
    go_ret
    exact ⟨by rw [hrf.out]; rfl, HB.out _ _⟩
  by_cases c4' : n1 = m1
  rotate_left 1
  · have hrf := Lib.hid (HF.out _ (fun h => (HR.out.1 h).2.2.2.1) (fun h => c4' (by have := E.out; rw [h] at this; omega)))
    go_enter Try.func22, Try.ntmps22
    go_wp2
    go_ret
    exact ⟨by rw [hrf.out]; rfl, HB.out _ _⟩
  by_cases c5' : n2 = m2
  rotate_left 1
  · have hrf := Lib.hid (HF.out _ (fun h => (HR.out.1 h).2.2.2.2) (fun h => c5' (by have := E.out; rw [h] at this; omega)))
    go_enter Try.func22, Try.ntmps22
    go_wp2
    go_ret
    exact ⟨by rw [hrf.out]; rfl, HB.out _ _⟩
  subst c1' c2' c3' c4' c5'
  have HR2 := Lib.hid (show sa = sb → ma = mb → r = true from fun h1 h2 => HR.out.2 ⟨rfl, rfl, rfl, h1, h2⟩)
  have HB1 := Lib.hid (show Two5 w ⟨ap, sa, ma, at_, af⟩ ⟨ap, sb, mb, at_, af⟩ A1 n1 c1 A2 n2 c2 D1 n1 d1 D2 n2 d2 ((w.alloc (.cells #[.int .i64 ap, .slice A1 n1 c1, .slice A2 n2 c2, .int .i64 at_, .int .i64 af] 66)).alloc (.cells #[.int .i64 ap, .slice D1 n1 d1, .slice D2 n2 d2, .int .i64 at_, .int .i64 af] 66)) from
    ⟨(Blk.new w _ _).alloc _, by have q := Blk.new (w.alloc (.cells #[.int .i64 ap, .slice A1 n1 c1, .slice A2 n2 c2, .int .i64 at_, .int .i64 af] 66)) 66 [.int .i64 ap, .slice D1 n1 d1, .slice D2 n2 d2, .int .i64 at_, .int .i64 af]; rwa [World.size_alloc] at q, HB.out _ _⟩)
  go_enter Try.func22, Try.ntmps22
  go_wp2_with fail
  go_loopw [5] (fun z wr => ∃ k : Nat, k ≤ n1 ∧ z = .int .i64 k ∧ Hid (Two5 w ⟨ap, sa, ma, at_, af⟩ ⟨ap, sb, mb, at_, af⟩ A1 n1 c1 A2 n2 c2 D1 n1 d1 D2 n2 d2 wr) ∧ Hid (∀ j, j < k → sa[j]? = sb[j]?)) (fun z _ => n1 - (intOf z).toNat)
  case atStart => exact ⟨0, Nat.zero_le _, rfl, HB1, Lib.hid fun j hj => by omega⟩
  case round =>
    obtain ⟨k, hk, rfl, HT, HQ⟩ := hrel
    clear HB1
    by_cases hlt : k < n1
    · obtain ⟨x, bx, ox, hx1, hAx, _, gx⟩ := i64_at (H1.out.below HT.out.bel) hlt
      obtain ⟨y, by', oy, hy1, hAy, _, gy⟩ := i64_at (K1.out.below HT.out.bel) hlt
      have x1 := HT.out.x.cell (i := 1) rfl
      have y1 := HT.out.y.cell (i := 1) rfl
      try dsimp only at x1 y1
      rw [hAx] at x1
      rw [hAy] at y1
      by_cases hxy : x = y
      rotate_left 1
      · have hne : (x != y) = true := by simpa using hxy
        have hrf := Lib.hid (HF.out _ (fun h => (HR.out.1 h).2.2.2.1) (fun h => hxy (by rw [h, hy1] at hx1; injection hx1 with hx1; exact hx1.symm)))
        clear hx1 hy1 hxy hAx hAy
        go_wp2_with fail
        go_quiet (fail)
        go_wp2
        go_ret
        exact ⟨by rw [hrf.out]; rfl, bel_drewN HT.out.bel _⟩
      · subst hxy
        have HE := Lib.hid (show ∀ j, j < k + 1 → sa[j]? = sb[j]? from fun j hj => by
          by_cases hjk : j = k
          · rw [hjk, hx1, hy1]
          · exact HQ.out j (by omega))
        clear hx1 hy1 hAx hAy
        go_wp2_with fail
        go_quiet (fail)
        have HT2 := Lib.hid (show Two5 w ⟨ap, sa, ma, at_, af⟩ ⟨ap, sb, mb, at_, af⟩ A1 n1 c1 A2 n2 c2 D1 n1 d1 D2 n2 d2 (wr.drewN nq) from ⟨HT.out.x, HT.out.y, bel_drewN HT.out.bel _⟩)
        go_wp2
        go_roundw
        case rel => exact ⟨k + 1, by omega, by go_num, HT2, HE⟩
        case measure => simp [intOf]; omega
    · have u1 := HT.out.x.cell (i := 1) rfl
      obtain rfl : k = n1 := by omega
      have HS1 := Lib.hid (show sa = sb from cells_eq E.out.1 E.out.2.2.1 HQ.out)
      clear HQ
      obtain ⟨wo, rfl⟩ : ∃ wo : World, wo = wr := ⟨_, rfl⟩
      have HT1 := HT
      clear HT
      go_wp2_with fail
      clear u1
      go_loopw [6] (fun z wr2 => ∃ k2 : Nat, k2 ≤ n2 ∧ z = .int .i64 k2 ∧ Hid (Two5 w ⟨ap, sa, ma, at_, af⟩ ⟨ap, sb, mb, at_, af⟩ A1 k c1 A2 n2 c2 D1 k d1 D2 n2 d2 wr2) ∧ Hid (∀ j, j < k2 → ma[j]? = mb[j]?)) (fun z _ => n2 - (intOf z).toNat)
      case atStart => exact ⟨0, Nat.zero_le _, rfl, HT1, Lib.hid fun j hj => by omega⟩
      case round =>
        obtain ⟨k2, hk2, rfl, HT, HQ⟩ := hrel
        clear HT1
        by_cases hlt : k2 < n2
        · obtain ⟨x, bx, ox, hx1, hAx, _, gx⟩ := i64_at (H2.out.below HT.out.bel) hlt
          obtain ⟨y, by', oy, hy1, hAy, _, gy⟩ := i64_at (K2.out.below HT.out.bel) hlt
          have x1 := HT.out.x.cell (i := 2) rfl
          have y1 := HT.out.y.cell (i := 2) rfl
          try dsimp only at x1 y1
          rw [hAx] at x1
          rw [hAy] at y1
          by_cases hxy : x = y
          rotate_left 1
          · have hne : (x != y) = true := by simpa using hxy
            have hrf := Lib.hid (HF.out _ (fun h => (HR.out.1 h).2.2.2.2) (fun h => hxy (by rw [h, hy1] at hx1; injection hx1 with hx1; exact hx1.symm)))
            clear hx1 hy1 hxy hAx hAy
            go_wp2_with fail
            go_quiet (fail)
            go_wp2
            go_ret
            exact ⟨by rw [hrf.out]; rfl, bel_drewN HT.out.bel _⟩
          · subst hxy
            have HE := Lib.hid (show ∀ j, j < k2 + 1 → ma[j]? = mb[j]? from fun j hj => by
              by_cases hjk : j = k2
              · rw [hjk, hx1, hy1]
              · exact HQ.out j (by omega))
            clear hx1 hy1 hAx hAy
            go_wp2_with fail
            go_quiet (fail)
            have HT2 := Lib.hid (show Two5 w ⟨ap, sa, ma, at_, af⟩ ⟨ap, sb, mb, at_, af⟩ A1 k c1 A2 n2 c2 D1 k d1 D2 n2 d2 (wr.drewN nq) from ⟨HT.out.x, HT.out.y, bel_drewN HT.out.bel _⟩)
            go_wp2
            go_roundw
            case rel => exact ⟨k2 + 1, by omega, by go_num, HT2, HE⟩
            case measure => simp [intOf]; omega
        · have u2 := HT.out.x.cell (i := 2) rfl
          obtain rfl : k2 = n2 := by omega
          have HS2 := Lib.hid (show ma = mb from cells_eq E.out.2.1 E.out.2.2.2 HQ.out)
          have hrt := Lib.hid (HR2.out HS1.out HS2.out)
          go_wp2
          go_ret
          exact ⟨by rw [hrt.out]; rfl, HT.out.bel⟩
/-- Are two states that are told alike? -/
theorem same_any {B1 B2 : Nat} {a b : Z} {x y : Value} (w : World) (ha : Sv B1 w a x) (hb : Sv B2 w b y) (hn : a.st.length ≤ 1000 ∧ a.mem.length ≤ 1000 ∧ b.st.length ≤ 1000 ∧ b.mem.length ≤ 1000) (r : Bool) (hr : r = true ↔ zsame a b) :
    Calls Try.prog 22 #[x, y] w fun e w' => e = .returned (.bool r) ∧ Below w.heap.size w w' := by
  obtain ⟨A1, n1, c1, A2, n2, c2, rfl, o1, o2⟩ := ha
  obtain ⟨D1, m1, d1, D2, m2, d2, rfl, o3, o4⟩ := hb
  have h1 := Rd.own o1
  have h2 := Rd.own o2
  have k1 := Rd.own o3
  have k2 := Rd.own o4
  have e1 : a.st.length = n1 := by have := h1.1; rwa [i64s_len] at this
  have e2 : a.mem.length = n2 := by have := h2.1; rwa [i64s_len] at this
  have e3 : b.st.length = m1 := by have := k1.1; rwa [i64s_len] at this
  have e4 : b.mem.length = m2 := by have := k2.1; rwa [i64s_len] at this
  exact core_same a b A1 n1 c1 A2 n2 c2 D1 m1 d1 D2 m2 d2 w h1 h2 k1 k2 (by omega) r hr
theorem seq (o a q b : Int) (w : World) : (Op.equalIn 10000 79 (.agg #[.int .i64 o, .int .i64 a]) (.agg #[.int .i64 q, .int .i64 b])).run Try.prog w = .ok (decide (o = q ∧ a = b)) w := by
  have ht : Try.prog.underlying 79 = some (.struct (Try.prog.fieldsOf 79)) := by kernel_rfl
  have hp : Try.prog.stoodInHeld 79 = false := by kernel_rfl
  rw [show (10000 : Nat) = 9999 + 1 from rfl, run_equalIn_struct w 9999 _ _ _ ht hp]
  have e : decide (o = q ∧ a = b) = ((o == q) && (a == b)) := by rw [Bool.eq_iff_iff]; simp
  rw [e]
  simp [go_sem, Op.eqFields, Try.underlying79, Try.underlying3]
  (repeat' split) <;> simp [*]
set_option maxRecDepth 100000 in
set_option maxHeartbeats 800000 in
/-- What was sent is the same. -/
theorem sameSent_any (A D : Option Addr) (n c m d : Nat) (l : List (Int × Int)) (w : World) (h : Prs w A n c l) (k : Prs w D m d l) (hn : l.length ≤ 100000) :
    Calls Try.prog 18 #[.slice A n c, .slice D m d] w fun e w' => e = .returned (.bool true) ∧ Below w.heap.size w w' := by
  obtain rfl : l.length = n := h.1
  obtain rfl : l.length = m := k.1
  have HQ := Lib.hid (fun (o a : Int) (w' : World) => seq o a o a w')
  have hq : ∀ (o a : Int) (w' : World), (Op.equalIn 10000 79 (.agg #[.int .i64 o, .int .i64 a]) (.agg #[.int .i64 o, .int .i64 a])).run Try.prog w' = .ok true w' := fun o a w' => by rw [seq]; simp
  have H := Lib.hid h
  have K := Lib.hid k
  clear h k
  go_enter Try.func18, Try.ntmps18
  go_wp2_with fail
  go_loopw [5] (fun z wr => ∃ k : Nat, k ≤ l.length ∧ z = .int .i64 k ∧ Hid (Below w.heap.size w wr)) (fun z _ => l.length - (intOf z).toNat)
  case atStart => exact ⟨0, Nat.zero_le _, rfl, Lib.hid (Below.refl _ _)⟩
  case round =>
    obtain ⟨k, hk, rfl, HB⟩ := hrel
    by_cases hlt : k < l.length
    · obtain ⟨a1, m1, b1, o1, hx1, _, _, rfl, gx1, gx2⟩ := (H.out.below HB.out).at_ hlt
      obtain ⟨a2, m2, b2, o2, hx2, _, _, rfl, gy1, gy2⟩ := (K.out.below HB.out).at_ hlt
      obtain ⟨rfl, rfl⟩ : a1 = a2 ∧ m1 = m2 := by rw [hx1] at hx2; injection hx2 with hx2; injection hx2 with p q; exact ⟨p, q⟩
      clear hx1 hx2
      go_wp2_with fail
      go_quiet (fail)
      have HB2 := Lib.hid (bel_drewN HB.out nq)
      go_wp2
      go_roundw
      case rel => exact ⟨k + 1, by omega, by go_num, HB2⟩
      case measure => simp [intOf]; omega
    · go_wp2
      go_ret
      exact ⟨rfl, HB.out⟩
end Go.Proofs.Ytliiinffkcgcaaa.VmcT
namespace Go.Proofs.Ytliiinffkcgcaaa.VmcU
open Go.RowKit Go.Proofs.Ytliiinffkcgcaaa.Kit Go.Proofs.Ytliiinffkcgcaaa.Byt Go.Proofs.Ytliiinffkcgcaaa.Mem Go.Proofs.Ytliiinffkcgcaaa.OpsM Go.Proofs.Ytliiinffkcgcaaa.VmcM Go.Proofs.Ytliiinffkcgcaaa.VmcA Go.Proofs.Ytliiinffkcgcaaa.VmcE Go.Proofs.Ytliiinffkcgcaaa.VmcF Go.Proofs.Ytliiinffkcgcaaa.VmcG Go.Proofs.Ytliiinffkcgcaaa.VmcJ Go.Proofs.Ytliiinffkcgcaaa.VmcK Go.Proofs.Ytliiinffkcgcaaa.VmcN Go.Proofs.Ytliiinffkcgcaaa.VmcL Go.Proofs.Ytliiinffkcgcaaa.VmcP Go.Proofs.Ytliiinffkcgcaaa.VmcS Go.Proofs.Ytliiinffkcgcaaa.VmcT Go.Proofs.Ytliiinffkcgcaaa.PrtM Go.Proofs.Ytliiinffkcgcaaa.PrtA Go.Proofs.Ytliiinffkcgcaaa.PrtG
open Go.Proofs.Ytliiinffkcgcaaa.ImgA (Im)
open Go.Proofs.Ytliiinffkcgcaaa.TabA (Tri Tris Ta)
open Go.Proofs.Ytliiinffkcgcaaa.TabB (PartOk)
open Go.Proofs.Ytliiinffkcgcaaa.TabC (WinOk endAt)
open Go.Proofs.Ytliiinffkcgcaaa.TabE (tcells Tris.of_blk ret_row size_table)
open Go.Proofs.Ytliiinffkcgcaaa.BitM (hb)
abbrev tright := Go.Proofs.Ytliiinffkcgcaaa.TabD.right

def exP : List Tri := [⟨4, 8, 0⟩, ⟨4, 8, 0⟩]
def exW : List Tri := [⟨0, 0, 1⟩]
def exC : List Tri := [⟨0, 1, 0⟩]
def ex (g1 g2 g3 : Nat) : Ta := ⟨4, some ⟨g1, 0, none⟩, 2, 2, exP, some ⟨g2, 0, none⟩, 1, 1, exW, some ⟨g3, 0, none⟩, 1, 1, exC, 1⟩
theorem ex_right (g1 g2 g3 : Nat) : tright (ex g1 g2 g3) := by
  refine ⟨⟨by show (1 : Int) ≤ 4; omega, by show (4 : Int) ≤ 64; omega⟩, ⟨by show (1 : Int) ≤ 1; omega, by show (1 : Int) ≤ 7; omega⟩, ⟨⟨by show 2 ≤ 2; omega, by show 2 ≤ 4; omega⟩, ?_⟩, ⟨by show 1 ≤ 8; omega, ?_, 0, _, rfl, rfl⟩, ⟨by show 1 ≤ 4; omega, ?_⟩⟩
  · intro k r hr
    match k, hr with
    | 0, hr => injection hr with hr; subst hr; simp [PartOk]
    | 1, hr => injection hr with hr; subst hr; simp [PartOk]
    | k + 2, hr => simp [ex, exP] at hr
  · intro k r hr
    match k, hr with
    | 0, hr => injection hr with hr; subst hr; simp [WinOk, endAt, ex, exP]
    | k + 1, hr => simp [ex, exW] at hr
  · intro k r hr
    match k, hr with
    | 0, hr => injection hr with hr; subst hr; simp [Go.Proofs.Ytliiinffkcgcaaa.TabC.ChanOk, ex, exP]
    | k + 1, hr => simp [ex, exC] at hr
theorem exP_ok : ∀ r ∈ exP, r.ok := by
  intro r hr
  simp only [exP, List.mem_cons, List.not_mem_nil, or_false] at hr
  rcases hr with rfl | rfl <;> exact ⟨by decide, by decide, by decide, by decide, by decide, by decide⟩
theorem exW_ok : ∀ r ∈ exW, r.ok := by
  intro r hr
  simp only [exW, List.mem_cons, List.not_mem_nil, or_false] at hr
  subst hr
  exact ⟨by decide, by decide, by decide, by decide, by decide, by decide⟩
theorem exC_ok : ∀ r ∈ exC, r.ok := by
  intro r hr
  simp only [exC, List.mem_cons, List.not_mem_nil, or_false] at hr
  subst hr
  exact ⟨by decide, by decide, by decide, by decide, by decide, by decide⟩
theorem ex_ok {w : World} {g1 g2 g3 : Nat} {t1 t2 t3 : TypeId} (h1 : Blk w g1 t1 (tcells exP)) (h2 : Blk w g2 t2 (tcells exW)) (h3 : Blk w g3 t3 (tcells exC)) : (ex g1 g2 g3).ok w :=
  ⟨Tris.of_blk (R := exP) (c := 2) (xs := []) (by simpa using h1) (Nat.le_refl _) (by decide) exP_ok, Tris.of_blk (R := exW) (c := 1) (xs := []) (by simpa using h2) (Nat.le_refl _) (by decide) exW_ok, Tris.of_blk (R := exC) (c := 1) (xs := []) (by simpa using h3) (Nat.le_refl _) (by decide) exC_ok,
    by show -9223372036854775808 ≤ (4 : Int); omega, by show (4 : Int) ≤ 9223372036854775807; omega, by show -9223372036854775808 ≤ (1 : Int); omega, by show (1 : Int) ≤ 9223372036854775807; omega⟩
theorem five (w : World) (o0 o1 : Obj) (t2 t3 t4 : TypeId) (x2 x3 x4 : List Value) :
    Blk (((((w.alloc o0).alloc o1).alloc (.cells x2.toArray t2)).alloc (.cells x3.toArray t3)).alloc (.cells x4.toArray t4)) (w.heap.size + 1 + 1) t2 x2 ∧
    Blk (((((w.alloc o0).alloc o1).alloc (.cells x2.toArray t2)).alloc (.cells x3.toArray t3)).alloc (.cells x4.toArray t4)) (w.heap.size + 1 + 1 + 1) t3 x3 ∧
    Blk (((((w.alloc o0).alloc o1).alloc (.cells x2.toArray t2)).alloc (.cells x3.toArray t3)).alloc (.cells x4.toArray t4)) (w.heap.size + 1 + 1 + 1 + 1) t4 x4 ∧
    Below w.heap.size w (((((w.alloc o0).alloc o1).alloc (.cells x2.toArray t2)).alloc (.cells x3.toArray t3)).alloc (.cells x4.toArray t4)) := by
  refine ⟨?_, ?_, ?_, ?_⟩
  · have h := ((Blk.new ((w.alloc o0).alloc o1) t2 x2).alloc (.cells x3.toArray t3)).alloc (.cells x4.toArray t4)
    rwa [World.size_alloc, World.size_alloc] at h
  · have h := (Blk.new (((w.alloc o0).alloc o1).alloc (.cells x2.toArray t2)) t3 x3).alloc (.cells x4.toArray t4)
    rwa [World.size_alloc, World.size_alloc, World.size_alloc] at h
  · have h := Blk.new ((((w.alloc o0).alloc o1).alloc (.cells x2.toArray t2)).alloc (.cells x3.toArray t3)) t4 x4
    rwa [World.size_alloc, World.size_alloc, World.size_alloc, World.size_alloc] at h
  · exact ((((Below.refl _ w).alloc (Nat.le_refl _) _).alloc (by simp) _).alloc (by simp; omega) _).alloc (by simp; omega) _ |>.alloc (by simp; omega) _
set_option maxRecDepth 100000 in
theorem example_any (w : World) : Calls Try.prog 26 #[] w fun e w' => ∃ g1 g2 g3, e = .returned (ex g1 g2 g3).val ∧ (ex g1 g2 g3).ok w' ∧ Below w.heap.size w w' := by
  go_enter Try.func26, Try.ntmps26
  go_wp2
  obtain ⟨b2, b3, b4, hb⟩ := five w (.cells #[.int .i64 4, .slice (some ⟨w.heap.size + 1 + 1, 0, none⟩) 2 2, .slice (some ⟨w.heap.size + 1 + 1 + 1, 0, none⟩) 1 1, .slice (some ⟨w.heap.size + 1 + 1 + 1 + 1, 0, none⟩) 1 1, .int .i64 1] 26) (.cells #[.int .i64 4, .int .i64 8, .int .i64 0] 81) 81 84 59 (tcells exP) (tcells exW) (tcells exC)
  refine ret_row (g := w.heap.size) (t := 26) (cs := #[.int .i64 4, .slice (some ⟨w.heap.size + 1 + 1, 0, none⟩) 2 2, .slice (some ⟨w.heap.size + 1 + 1 + 1, 0, none⟩) 1 1, .slice (some ⟨w.heap.size + 1 + 1 + 1 + 1, 0, none⟩) 1 1, .int .i64 1]) Try.results26 rfl rfl (alloc_old (alloc_old (alloc_old (alloc_old (heap_alloc_new w _))))) Try.underlying26 rfl size_table ?_
  exact ⟨_, _, _, rfl, ex_ok b2 b3 b4, hb⟩

theorem own_lower {B B0 : Nat} {w : World} {e : TypeId} {size n : Nat} {v : Value} {xs : List Value} (h : w.ownsRow B e size v n xs) (hb : B0 ≤ B) : w.ownsRow B0 e size v n xs := by
  refine ⟨h.1, ?_⟩
  rcases h.2 with h1 | ⟨g, cap, cur, h1, h2, rest⟩
  · exact .inl h1
  · exact .inr ⟨g, cap, cur, h1, Nat.le_trans hb h2, rest⟩
section
variable {B B0 S n c : Nat} {w : World} {ρ : Nat → Lab} {A : Option Addr} {Q : Nat → Nat} {C : List Tri} {L : Nat → List Int}
theorem Chs.lower (h : Chs B w ρ S A n c Q C L) (hb : B0 ≤ B) : Chs B0 w ρ S A n c Q C L where
  bd := fun i hi => ⟨Nat.le_trans hb (h.bd i hi).1, (h.bd i hi).2⟩
  base := Nat.le_trans hb h.base
  set := h.set
  lset := h.lset
  list := own_lower h.list hb
  llist := h.llist
  len := h.len
  most := h.most
  ok := h.ok
  head := fun k r hr => by
    obtain ⟨e1, e2⟩ := h.head k r hr
    refine ⟨e1, ?_⟩
    rcases e2 with e2 | ⟨h0, A, n, c, k1, k2, k3, k4⟩
    · exact .inl e2
    · exact .inr ⟨h0, A, n, c, k1, own_lower k2 hb, k3, k4⟩
/-- A block that bears no label is given one. -/
theorem Chs.name (h : Chs B w ρ S A n c Q C L) {g : Nat} (l : Lab) (hg : ρ g = .out) (hB : B ≤ g) (hl : g < w.heap.size) : Chs B w (fun k => if k = g then l else ρ k) S A n c Q C L := by
  have key : ∀ k, ρ k ≠ .out → (if k = g then l else ρ k) = ρ k := fun k hk => if_neg (fun e => hk (by rw [e]; exact hg))
  exact {
    bd := fun i hi => by
      by_cases he : i = g
      · rw [he]; exact ⟨hB, hl⟩
      · exact h.bd i (fun e => hi ((if_neg he).trans e))
    base := h.base
    set := h.set
    lset := by rw [key S (by rw [h.lset]; intro e; cases e)]; exact h.lset
    list := h.list
    llist := fun g2 hg2 => by rw [key g2 (by rw [h.llist g2 hg2]; intro e; cases e)]; exact h.llist g2 hg2
    len := h.len
    most := h.most
    ok := h.ok
    head := fun k r hr => by
      obtain ⟨e1, e2⟩ := h.head k r hr
      refine ⟨by rw [key _ (by rw [e1]; intro e; cases e)]; exact e1, ?_⟩
      rcases e2 with e2 | ⟨h0, A, n, c, k1, k2, k3, k4⟩
      · exact .inl e2
      · exact .inr ⟨h0, A, n, c, k1, k2, k3, fun g2 hg2 => (key g2 (by rw [k4 g2 hg2]; intro e; cases e)).trans (k4 g2 hg2)⟩ }
/-- A machine that was made ahead of the channels. -/
theorem mw_start {w1 : World} {M : Nat} {j : Im} {v : V} (hM : Blk w1 M 91 (mc j v)) (hv : v.ok) (hj : j.ok w1) (hne : ∀ b o, j.A = some ⟨b, o, none⟩ → 0 < j.n → b ≠ M) (hb : Below w1.heap.size w1 w) (hc : Chs B w ρ S A n c Q C L) (hB : w1.heap.size ≤ B) (h0 : B0 ≤ M) :
    Mw B0 w (fun k => if k = M then .own 0 else ρ k) M j S A n c Q C v L := by
  have hl : M < w1.heap.size := hM.lt
  have hout : ∀ k, k < w1.heap.size → ρ k = .out := fun k hk => Classical.byContradiction fun hn => by have := (hc.bd k hn).1; omega
  refine ⟨Chs.name (Chs.lower hc (by omega)) _ (hout M hl) h0 (Nat.lt_of_lt_of_le hl hb.size), hM.below hb, if_pos rfl, hv, hj.below hb, fun b o hA hn => ?_⟩
  rw [if_neg (hne b o hA hn)]
  obtain ⟨b', o', hA', hlt, _⟩ := hj.code.2.2.2 hn
  rw [hA'] at hA
  injection hA with hA
  injection hA with hA
  exact hout b (by omega)
end
end Go.Proofs.Ytliiinffkcgcaaa.VmcU
namespace Go.Proofs.Ytliiinffkcgcaaa.VmcV
open Go.RowKit Go.Proofs.Ytliiinffkcgcaaa.Kit Go.Proofs.Ytliiinffkcgcaaa.Byt Go.Proofs.Ytliiinffkcgcaaa.Mem Go.Proofs.Ytliiinffkcgcaaa.OpsM Go.Proofs.Ytliiinffkcgcaaa.VmcM Go.Proofs.Ytliiinffkcgcaaa.VmcA Go.Proofs.Ytliiinffkcgcaaa.VmcE Go.Proofs.Ytliiinffkcgcaaa.VmcF Go.Proofs.Ytliiinffkcgcaaa.VmcG Go.Proofs.Ytliiinffkcgcaaa.VmcJ Go.Proofs.Ytliiinffkcgcaaa.VmcK Go.Proofs.Ytliiinffkcgcaaa.VmcN Go.Proofs.Ytliiinffkcgcaaa.VmcL Go.Proofs.Ytliiinffkcgcaaa.VmcP Go.Proofs.Ytliiinffkcgcaaa.VmcS Go.Proofs.Ytliiinffkcgcaaa.VmcT Go.Proofs.Ytliiinffkcgcaaa.VmcU Go.Proofs.Ytliiinffkcgcaaa.PrtM Go.Proofs.Ytliiinffkcgcaaa.PrtA Go.Proofs.Ytliiinffkcgcaaa.PrtG
open Go.Proofs.Ytliiinffkcgcaaa.ImgA (Im Yes)
open Go.Proofs.Ytliiinffkcgcaaa.ImgB (right)
open Go.Proofs.Ytliiinffkcgcaaa.TabA (Tri Tris Ta)

def exI (A : Option Addr) (c : Nat) : Im := ⟨0, 1, 0, 1, 8, 1, 0, A, 8, c, [1, 2, 1, 3, 5, 14, 0, 0]⟩
theorem ex_tick (A : Option Addr) (c : Nat) : (tickV (exI A c) exC v0 none_).sn = [(0, 5)] ∧ (tickV (exI A c) exC v0 none_).v.pc = 8 := ⟨by kernel_rfl, by kernel_rfl⟩
theorem exI_right (A : Option Addr) (c : Nat) : right (exI A c) := by
  unfold right exI
  simp
theorem Cop.like {w w' : World} {i j : Im} (h : Cop w i j w') (hr : right i) : right j := by
  obtain ⟨⟨h1, h2, h3, h4, h5, h6, h7, h8, _⟩, _⟩ := h
  unfold right at hr ⊢
  rw [h1, h2, h3, h4, h5, h6, h7, h8]
  exact hr
theorem exI_cop {w w' : World} {A : Option Addr} {c : Nat} {j : Im} (h : Cop w (exI A c) j w') : j = exI j.A j.c := by
  obtain ⟨⟨h1, h2, h3, h4, h5, h6, h7, h8, h9⟩, _⟩ := h
  obtain ⟨p, v, hh, m, f, s, r, A', n, c', xs⟩ := j
  dsimp only at h1 h2 h3 h4 h5 h6 h7 h8 h9 ⊢
  rw [h1, h2, h3, h4, h5, h6, h7, h8, h9]
  rfl
theorem exI_ok {w : World} {g : Nat} (hB : Blk w g 5 [.int .u8 1, .int .u8 2, .int .u8 1, .int .u8 3, .int .u8 5, .int .u8 14, .int .u8 0, .int .u8 0]) : (exI (some ⟨g, 0, none⟩) 8).ok w :=
  ⟨⟨rfl, Nat.le_refl _, (by show 8 ≤ 9223372036854775807; omega), fun _ => ⟨g, 0, rfl, hB.lt, fun j u hu => by rw [Nat.zero_add]; exact hB.cell hu⟩⟩, by show ∀ u ∈ [1, 2, 1, 3, 5, 14, 0, 0], u < 256; decide⟩
set_option maxRecDepth 100000 in
set_option maxHeartbeats 1600000 in
theorem wakes_any (w : World) : Calls Try.prog 7 #[] w (Yes w true) := by
  obtain ⟨wa, hwa⟩ : ∃ wa, wa = w.alloc (.cells #[.int .u8 1, .int .u8 2, .int .u8 1, .int .u8 3, .int .u8 5, .int .u8 14, .int .u8 0, .int .u8 0] 5) := ⟨_, rfl⟩
  have hba : Below w.heap.size w wa := by rw [hwa]; exact (Below.refl _ _).alloc (Nat.le_refl _) _
  have HI := Lib.hid (show (exI (some ⟨w.heap.size, 0, none⟩) 8).ok wa from exI_ok (by rw [hwa]; exact Blk.new w _ _))
  have HBA := Lib.hid hba
  clear hba
  go_enter Try.func7, Try.ntmps7
  go_wp2_with fail
  rw [← hwa]
  clear hwa
  refine (new_yes (exI (some ⟨w.heap.size, 0, none⟩) 8) wa HI.out (exI_right _ _)).mono ?_
  rintro e w1 ⟨M, j, rfl, hM, hMl, hne, hj⟩
  have HM := Lib.hid hM
  have HJ := Lib.hid hj
  have HE := Lib.hid (exI_cop hj)
  have HR := Lib.hid (Cop.like hj (exI_right _ _))
  have HML := Lib.hid hMl
  have HNE := Lib.hid hne
  have HB1 := Lib.hid (HBA.out.trans (hj.2.2.2.mono HBA.out.size))
  clear hM hj hne hMl
  go_wp2_with fail
  refine (example_any _).mono ?_
  rintro e w2 ⟨g1, g2, g3, rfl, hok, hb2⟩
  have HO := Lib.hid hok
  have HB2 := Lib.hid hb2
  clear hok hb2
  go_wp2_with fail
  refine (PrtH.new_yes (ex g1 g2 g3) _ HO.out (ex_right _ _ _)).mono ?_
  rintro e w3 ⟨S, ρ, A, c, Q, rfl, h0, hb3⟩
  have HB3 := Lib.hid (HB2.out.trans (hb3.mono HB2.out.size))
  have HMW := Lib.hid (mw_start (B0 := w.heap.size) HM.out v0_ok HJ.out.2.1 HNE.out HB3.out (show Chs w2.heap.size w3 ρ S A 1 c Q exC none_ from h0) HB2.out.size (by have := HBA.out.size; have := HML.out; omega))
  have HB4 := Lib.hid (HB1.out.trans (HB3.out.mono HB1.out.size))
  clear h0 hb3 HO HB2 HB3 HM HJ HNE
  go_wp2_with fail
  refine (tick_goes HMW.out rfl HR.out ⟨by decide, by decide⟩ ⟨by decide, by decide⟩ rfl).mono ?_
  intro e w4 hk
  have hx := ex_tick j.A j.c
  rw [← HE.out] at hx
  obtain ⟨A4, n4, c4, ρ4, rfl, hp, hl, hm, hs⟩ := hk
  rw [hx.1] at hp
  obtain rfl : 1 = n4 := hp.1
  obtain ⟨a', m', b', o', hq, _, _, rfl, g0, g1⟩ := hp.at_ (k := 0) (by omega)
  obtain ⟨rfl, rfl⟩ : a' = 0 ∧ m' = 5 := by simp at hq; exact ⟨hq.1.symm, hq.2.symm⟩
  rw [show o' + 0 * 2 = o' from by omega] at g0 g1
  have hbl : b' < w4.heap.size := block_lt_of_cell g0
  have HB5 := Lib.hid (HB4.out.trans (hs.below HMW.out.chs.bd out_vm0 HMW.out.chs.base))
  have HPC := Lib.hid (show ((tickV j exC v0 none_).v.z j.m.toNat).pc = 8 from hx.2)
  have HST := Lib.hid (fun w' (hb : Below w4.heap.size w4 w') => state_any (hm.blk.below hb) hm.ok (by have := HR.out.2.2.2.1; omega))
  have HQ := Lib.hid (fun w' => seq 0 5 0 5 w')
  have hq2 : ∀ w', (Op.equalIn 10000 79 (.agg #[.int .i64 0, .int .i64 5]) (.agg #[.int .i64 0, .int .i64 5])).run Try.prog w' = .ok true w' := fun w' => by rw [seq]; simp
  obtain ⟨cfv, hcf⟩ : ∃ cfv, cfv = (tickV j exC v0 none_).cf := ⟨_, rfl⟩
  rw [← hcf]
  have HA := Lib.hid (show Below w4.heap.size w4 (w4.alloc (.cells #[.slice (some ⟨b', o', none⟩) 1 c4, .bool cfv] 51)) from (Below.refl _ _).alloc (Nat.le_refl _) _)
  clear hx hp hl hm hs hq hcf HMW HB4 HI HBA
  go_wp2_with fail
  refine (HST.out _ HA.out).mono ?_
  rintro e w6 ⟨x, rfl, hx, hb6⟩
  obtain ⟨A1, n1, c1, A2, n2, c2, rfl, _⟩ := hx
  rw [HPC.out]
  have HB6 := Lib.hid (HB5.out.trans ((HA.out.trans (hb6.mono HA.out.size)).mono HB5.out.size))
  have hfd := fun (w' : World) => Fld.run_field_one (P := Try.prog) (T := 66) (k := 0) (xs := [.int .i64 8, .slice A1 n1 c1, .slice A2 n2 c2, .int .i64 ((tickV j exC v0 none_).v.z j.m.toNat).tk, .int .i64 ((tickV j exC v0 none_).v.z j.m.toNat).ft]) (v := .int .i64 8) Try.underlying66 rfl ⟨_, Try.underlying3⟩ rfl w'
  clear hb6
  go_wp2
  go_ret
  exact ⟨rfl, HB6.out⟩
end Go.Proofs.Ytliiinffkcgcaaa.VmcV
namespace Go.Proofs.Ytliiinffkcgcaaa.VmcX
open Go.RowKit Go.Proofs.Ytliiinffkcgcaaa.Kit Go.Proofs.Ytliiinffkcgcaaa.Byt Go.Proofs.Ytliiinffkcgcaaa.Mem Go.Proofs.Ytliiinffkcgcaaa.OpsM Go.Proofs.Ytliiinffkcgcaaa.VmcM Go.Proofs.Ytliiinffkcgcaaa.VmcA Go.Proofs.Ytliiinffkcgcaaa.VmcE Go.Proofs.Ytliiinffkcgcaaa.VmcF Go.Proofs.Ytliiinffkcgcaaa.VmcG Go.Proofs.Ytliiinffkcgcaaa.VmcJ Go.Proofs.Ytliiinffkcgcaaa.VmcK Go.Proofs.Ytliiinffkcgcaaa.VmcN Go.Proofs.Ytliiinffkcgcaaa.VmcL Go.Proofs.Ytliiinffkcgcaaa.VmcP Go.Proofs.Ytliiinffkcgcaaa.VmcS Go.Proofs.Ytliiinffkcgcaaa.VmcT Go.Proofs.Ytliiinffkcgcaaa.VmcU Go.Proofs.Ytliiinffkcgcaaa.VmcV Go.Proofs.Ytliiinffkcgcaaa.PrtM Go.Proofs.Ytliiinffkcgcaaa.PrtA Go.Proofs.Ytliiinffkcgcaaa.PrtG
open Go.Proofs.Ytliiinffkcgcaaa.ImgA (Im Bx Yes)
open Go.Proofs.Ytliiinffkcgcaaa.ImgB (right)
open Go.Proofs.Ytliiinffkcgcaaa.TabA (Tri Tris Ta)
open Go.Proofs.Ytliiinffkcgcaaa.BitM (hb)

section
variable {B S n c M g : Nat} {w w0 w' : World} {ρ : Nat → Lab} {A : Option Addr} {Q : Nat → Nat} {C : List Tri} {L : Nat → List Int} {i : Im} {v : V}
theorem tick_any (h : Mw B w ρ M i S A n c Q C v L) (hi : right i) (hp : 0 ≤ v.pc ∧ v.pc ≤ 1000) (ht : 0 ≤ v.tk ∧ v.tk ≤ 1000000) {G : R} (hG : G = tickV i C v L) : Calls Try.prog 16 #[.pointer (some ⟨M, 0, none⟩), pv S] w (Tks B w ρ M i S A n c Q C G) := by
  by_cases hf : v.ft = 0
  · exact tick_goes h hf hi hp ht hG
  · have e : tickV i C v L = ⟨v, L, [], false, false⟩ := if_pos hf
    rw [hG, e]
    exact tick_stands h hf
theorem Bx.over (h : Bx w0 g i w) (hb : Below B w w') (hg : g < B) (h0 : w0.heap.size ≤ B) : Bx w0 g i w' := ⟨(hb.block g hg).trans h.blk, h.new_, h.bel.trans (hb.mono h0)⟩
theorem Bx.cells (h : Bx w0 g i w) : w.cell? ⟨g, 0, none⟩ = some (.int .i64 i.p) ∧ w.cell? ⟨g, 1, none⟩ = some (.int .i64 i.v) ∧ w.cell? ⟨g, 2, none⟩ = some (.int .i64 i.h) ∧ w.cell? ⟨g, 3, none⟩ = some (.int .i64 i.m) ∧ w.cell? ⟨g, 4, none⟩ = some (.int .i64 i.f) ∧ w.cell? ⟨g, 5, none⟩ = some (.int .i64 i.s) ∧ w.cell? ⟨g, 6, none⟩ = some (.int .i64 i.r) ∧ w.cell? ⟨g, 7, none⟩ = some (.slice i.A i.n i.c) :=
  ⟨h.blk.cell rfl, h.blk.cell rfl, h.blk.cell rfl, h.blk.cell rfl, h.blk.cell rfl, h.blk.cell rfl, h.blk.cell rfl, h.blk.cell rfl⟩
end
theorem hb_three {s k : Int} (h : hb s k = true) (h0 : 0 ≤ s) (h15 : s ≤ 15) : k ≤ 3 := by
  unfold hb at h
  simp only [decide_eq_true_eq] at h
  obtain ⟨h1, h2, h3⟩ := h
  by_cases hk : k ≤ 3
  · exact hk
  · exfalso
    have h4 : (16 : Int) ≤ BitM.pw k := by
      unfold BitM.pw
      have := Nat.pow_le_pow_right (n := 2) (by omega) (show 4 ≤ k.toNat by omega)
      have h3 : ((2 ^ 4 : Nat) : Int) ≤ ((2 ^ k.toNat : Nat) : Int) := by exact_mod_cast this
      simpa using h3
    rw [Int.ediv_eq_zero_of_lt h0 (by omega)] at h3
    exact absurd h3 (by decide)
theorem bit_on {s : Int} {k : Nat} (h : hb s k = true) (hk : k ≤ 3) : bits .and .i64 (s / 2 ^ min k 64) 1 = 1 := by
  have e := BitO.shr_has s (k := k) (by omega)
  rw [h] at e
  rw [Nat.min_eq_left (by omega)]
  simpa using e
end Go.Proofs.Ytliiinffkcgcaaa.VmcX
namespace Go.Proofs.Ytliiinffkcgcaaa.VmcY
open Go.RowKit Go.Proofs.Ytliiinffkcgcaaa.Kit Go.Proofs.Ytliiinffkcgcaaa.Byt Go.Proofs.Ytliiinffkcgcaaa.Mem Go.Proofs.Ytliiinffkcgcaaa.OpsM Go.Proofs.Ytliiinffkcgcaaa.VmcM Go.Proofs.Ytliiinffkcgcaaa.VmcA Go.Proofs.Ytliiinffkcgcaaa.VmcE Go.Proofs.Ytliiinffkcgcaaa.VmcF Go.Proofs.Ytliiinffkcgcaaa.VmcG Go.Proofs.Ytliiinffkcgcaaa.VmcJ Go.Proofs.Ytliiinffkcgcaaa.VmcK Go.Proofs.Ytliiinffkcgcaaa.VmcN Go.Proofs.Ytliiinffkcgcaaa.VmcL Go.Proofs.Ytliiinffkcgcaaa.VmcP Go.Proofs.Ytliiinffkcgcaaa.VmcS Go.Proofs.Ytliiinffkcgcaaa.VmcT Go.Proofs.Ytliiinffkcgcaaa.VmcX Go.Proofs.Ytliiinffkcgcaaa.PrtM Go.Proofs.Ytliiinffkcgcaaa.PrtA Go.Proofs.Ytliiinffkcgcaaa.PrtG
open Go.Proofs.Ytliiinffkcgcaaa.ImgA (Im Bx Yes)
open Go.Proofs.Ytliiinffkcgcaaa.ImgB (right)
open Go.Proofs.Ytliiinffkcgcaaa.TabA (Tri Tris Ta)

section
variable {B B0 S n c M : Nat} {w w' : World} {ρ ρ' : Nat → Lab} {A : Option Addr} {Q : Nat → Nat} {C : List Tri} {L : Nat → List Int} {i : Im} {v : V} {z : Z} {x : Value} {F : Lab → Prop}
theorem Sv.carry (h : Sv B0 w z x) (hs : Stp F w ρ w' ρ') (hF : ¬ F .out) (hl : ∀ b, B0 ≤ b → ρ b = .out) : Sv B0 w' z x := by
  obtain ⟨A1, n1, c1, A2, n2, c2, h1, h2, h3⟩ := h
  exact ⟨A1, n1, c1, A2, n2, c2, h1, hs.keep.own h2 fun k hk => by rw [hl k (h2.lt k hk).1]; exact hF, hs.keep.own h3 fun k hk => by rw [hl k (h3.lt k hk).1]; exact hF⟩
theorem Mw.fresh (h : Mw B w ρ M i S A n c Q C v L) : ∀ b, w.heap.size ≤ b → ρ b = .out := fun b hb => Classical.byContradiction fun hn => by have := (h.chs.bd b hn).2; omega
theorem tickV_one (hx : ∀ u ∈ i.xs, u < 256) (hl : i.xs.length ≤ 96) (h : v.ok) (hp : 0 ≤ v.pc ∧ v.pc ≤ 1000) (hf : v.ft = 0) : (tickV i C v L).v.tk = v.tk + 1 := by
  unfold tickV
  rw [if_neg (fun hh => hh hf)]
  obtain ⟨q1, q2, q3⟩ := goV_ok (C := C) hx hl i.f.toNat (r := ⟨v, L, [], false, false⟩) h hp
  show (goV i C i.f.toNat ⟨v, L, [], false, false⟩).v.tk + 1 = _
  rw [q3]
theorem tickV_same (hf : v.ft ≠ 0) : tickV i C v L = ⟨v, L, [], false, false⟩ := if_pos hf
theorem z_num (h : v.ok) (k : Nat) : ∀ x ∈ (v.z k).st ++ (v.z k).mem, num x := by
  intro x hx
  rcases List.mem_append.1 hx with hx | hx
  · exact h.ns x (List.mem_of_mem_take hx)
  · exact h.nm x (List.mem_of_mem_take hx)
theorem z_len (h : v.ok) {k : Nat} (hk : k ≤ 16) : (v.z k).st.length ≤ 8 ∧ (v.z k).mem.length = k := by
  have h1 := h.ls
  have h2 := h.lm
  have h3 := h.h8
  constructor
  · show (v.s.take v.h).length ≤ 8
    rw [List.length_take]
    omega
  · show (v.m.take k).length = k
    rw [List.length_take]
    omega
end
theorem z_start {k : Nat} (hk : k ≤ 16) : v0.z k = ⟨0, [], List.replicate k 0, 0, 0⟩ := by
  unfold V.z v0
  dsimp only
  congr 1
  have e : ([0, 0, 0, 0, 0, 0, 0, 0, 0, 0, 0, 0, 0, 0, 0, 0] : List Int) = List.replicate 16 0 := rfl
  rw [e, List.take_replicate, Nat.min_eq_left hk]
theorem built_state : Try.prog.built 89 [] = some (scells v0).toArray := by kernel_rfl
set_option maxRecDepth 100000 in
theorem reset_any {M : Nat} {i : Im} {v : V} {w : World} (hB : Blk w M 91 (mc i v)) (h : v.ok) : Calls Try.prog 21 #[.pointer (some ⟨M, 0, none⟩)] w fun e w' => e = .returned (.tuple #[]) ∧ Blk w' M 91 (mc i v0) ∧ Only M w w' := by
  have HB := Lib.hid hB
  have HOK := Lib.hid h
  have hMl := hB.lt
  have HBU := Lib.hid built_state
  clear hB h
  go_enter Try.func21, Try.ntmps21
  go_wp2_with (first
    | (refine wpList_build_l rfl 89 [] rfl (scells v0) HBU.out ?_)
    | (refine wpList_store_part rfl 89 (.tmp 7) (.tmp 5) rfl M 8 rfl (scells v0) rfl HB.out (by rw [mc_len HOK.out, sc_len v0_ok]; decide) (by rw [sc_len v0_ok]; exact size_state) (VmcS.sc_one _) ?_; intro w9 hB9 ho9))
  go_end0
  exact ⟨rfl, by have hB := hB9.out; rw [mc_splice HOK.out v0_ok] at hB; exact hB, ho9.out⟩
section
variable {P : Program} {o : Oper} {a : Act} {Q : Exit → Act → World → Prop}
theorem wp_make_room {K : Act → World → Prop} (w : World) (l c : Operand) (t : TypeId) (hop : o.op = Op.makeSlice t l c)
    (e : TypeId) (i : TypeInfo) (z : Value) (bytes : Nat) (h1 : P.underlying t = some (.slice e)) (h2 : P.info? e = some i) (h3 : i.zero = some z) (h4 : i.size = 1) (h5 : i.bytes = bytes) (hz : z.cells = #[z])
    (kl kc : IntKind) (m n : Nat) (hl : a.eval l = .int kl (m : Int)) (hc : a.eval c = .int kc (n : Int)) (hmn : m ≤ n) (b2 : bytes * n ≤ 281474976710656) (b3 : n ≤ 9223372036854775807)
    (hK : ∀ w', Hid (w'.heap[w.heap.size]? = some (.cells (List.replicate n z).toArray e (0, 0))) → Below w.heap.size w w' → w'.heap.size = w.heap.size + 1 → K (a.put o.dst (.slice (some ⟨w.heap.size, 0, none⟩) m n)) w') : o.wp P a w K Q := by
  subst h5
  have hb' : (i.bytes : Int) * (n : Int) ≤ 281474976710656 := by
    have h : ((i.bytes * n : Nat) : Int) ≤ 281474976710656 := by omega
    rwa [Int.natCast_mul] at h
  have hrun := run_make (P := P) w t e i z h1 h2 h3 kl kc m n (by omega) (by omega) hb' (by omega)
  simp only [Int.toNat_natCast, h4, Nat.mul_one, hz] at hrun
  have hm : madeCells #[z] n = (List.replicate n z).toArray := by
    apply Array.ext'
    rw [toList_madeCells_one]
  rw [hm] at hrun
  unfold Oper.wp
  simp [execOp, hop, hl, hc, hrun, Result.andThen]
  refine hK _ ?_ ((Below.refl _ _).alloc (Nat.le_refl _) _) (by simp)
  exact heap_alloc_new w _
end
theorem cell_below {w w' : World} {b o : Nat} {x : Value} (h : Below w.heap.size w w') (hc : w.cell? ⟨b, o, none⟩ = some x) : w'.cell? ⟨b, o, none⟩ = some x := by
  have hl : b < w.heap.size := block_lt_of_cell hc
  have e := h.block b hl
  unfold World.cell? at hc ⊢
  rw [e]
  exact hc
/-- Zeros in a block of their own, as a state's memory. -/
theorem sv_zero {w : World} {g m : Nat} (h : w.heap[g]? = some (.cells (List.replicate m (.int .i64 0)).toArray 3 (0, 0))) (hm : m ≤ 16) : Sv 0 w ⟨0, [], List.replicate m 0, 0, 0⟩ (.agg #[.int .i64 0, .slice none 0 0, .slice (some ⟨g, 0, none⟩) m m, .int .i64 0, .int .i64 0]) :=
  ⟨none, 0, 0, some ⟨g, 0, none⟩, m, m, rfl, World.ownsRow_nil _ _ _ _, by
    have q := own_of_block (base := 0) (n := m) h (Nat.zero_le _) (by simp) (by simp; omega)
    simpa [TabI.i64s] using q⟩
end Go.Proofs.Ytliiinffkcgcaaa.VmcY
namespace Go.Proofs.Ytliiinffkcgcaaa.VmcO
open Go.RowKit Go.Proofs.Ytliiinffkcgcaaa.Kit Go.Proofs.Ytliiinffkcgcaaa.Byt Go.Proofs.Ytliiinffkcgcaaa.Mem Go.Proofs.Ytliiinffkcgcaaa.OpsM Go.Proofs.Ytliiinffkcgcaaa.VmcM Go.Proofs.Ytliiinffkcgcaaa.VmcA Go.Proofs.Ytliiinffkcgcaaa.VmcE Go.Proofs.Ytliiinffkcgcaaa.VmcF Go.Proofs.Ytliiinffkcgcaaa.VmcG Go.Proofs.Ytliiinffkcgcaaa.VmcJ Go.Proofs.Ytliiinffkcgcaaa.VmcK Go.Proofs.Ytliiinffkcgcaaa.VmcN Go.Proofs.Ytliiinffkcgcaaa.VmcL Go.Proofs.Ytliiinffkcgcaaa.VmcP Go.Proofs.Ytliiinffkcgcaaa.VmcS Go.Proofs.Ytliiinffkcgcaaa.VmcT Go.Proofs.Ytliiinffkcgcaaa.VmcU Go.Proofs.Ytliiinffkcgcaaa.VmcX Go.Proofs.Ytliiinffkcgcaaa.VmcY Go.Proofs.Ytliiinffkcgcaaa.PrtM Go.Proofs.Ytliiinffkcgcaaa.PrtA Go.Proofs.Ytliiinffkcgcaaa.PrtG
open Go.Proofs.Ytliiinffkcgcaaa.ImgA (Im Bx Yes)
open Go.Proofs.Ytliiinffkcgcaaa.ImgB (right)
open Go.Proofs.Ytliiinffkcgcaaa.TabA (Tri Tris Ta)

section
variable {F : Lab → Prop} {B S T n m c d M N : Nat} {w w' w1 : World} {ρ ρ' σ σ' : Nat → Lab} {A D : Option Addr} {Q R : Nat → Nat} {C : List Tri} {L K L' : Nat → List Int} {i j : Im} {v u v' : V}
theorem Mw.over (h : Mw B w σ N j T D m d R C u K) (hs : Stp F w ρ w' ρ') (hF : ¬ F .out) (hd : ∀ k, σ k ≠ .out → ρ k = .out) (hc : ∀ b o, j.A = some ⟨b, o, none⟩ → 0 < j.n → ρ b = .out) : Mw B w' σ N j T D m d R C u K := by
  have h2 : Stp (fun l => l = .out) w σ w' σ := ⟨⟨hs.keep.os, hs.keep.tape, hs.keep.output, hs.keep.size, fun k hk hn => hs.keep.block k hk (by rw [hd k hn]; exact hF)⟩, fun _ _ => rfl, fun k hk => .inl (Mw.fresh h k hk)⟩
  exact ⟨h.chs.carry h2 (fun e => by cases e) (fun e => by cases e) (fun k e => by cases e) (fun k e => by cases e), h2.keep.blk h.blk (by rw [h.lm]; intro e; cases e), h.lm, h.ok, ⟨hs.keep.rd h.code.code fun hn b o hA => by rw [hc b o hA hn]; exact hF, h.code.byt⟩, h.lc⟩
/-- Two machines, apart. -/
structure Duo (B : Nat) (w : World) (ρ σ : Nat → Lab) (M N : Nat) (i j : Im) (S T : Nat) (A D : Option Addr) (n m c d : Nat) (Q R : Nat → Nat) (C : List Tri) (v : V) (L : Nat → List Int) (u : V) (K : Nat → List Int) : Prop where
  a : Mw B w ρ M i S A n c Q C v L
  b : Mw B w σ N j T D m d R C u K
  ap : ∀ k, ρ k = .out ∨ σ k = .out
  ca : ∀ b o, i.A = some ⟨b, o, none⟩ → 0 < i.n → σ b = .out
  cb : ∀ b o, j.A = some ⟨b, o, none⟩ → 0 < j.n → ρ b = .out
theorem Duo.swap (h : Duo B w ρ σ M N i j S T A D n m c d Q R C v L u K) : Duo B w σ ρ N M j i T S D A m n d c R Q C u K v L := ⟨h.b, h.a, fun k => (h.ap k).symm, h.cb, h.ca⟩
theorem Duo.below (h : Duo B w ρ σ M N i j S T A D n m c d Q R C v L u K) (hb : Below w.heap.size w w') : Duo B w' ρ σ M N i j S T A D n m c d Q R C v L u K := ⟨mw_below h.a hb, mw_below h.b hb, h.ap, h.ca, h.cb⟩
/-- The first one ticks. -/
theorem Duo.tick (h : Duo B w ρ σ M N i j S T A D n m c d Q R C v L u K) (hn : Mw B w' ρ' M i S A n c Q C v' L') (hs : Stp Vm0 w ρ w' ρ') : Duo B w' ρ' σ M N i j S T A D n m c d Q R C v' L' u K where
  a := hn
  b := Mw.over h.b hs out_vm0 (fun k hk => (h.ap k).resolve_right hk) h.cb
  ap := fun k => by
    rcases Nat.lt_or_ge k w.heap.size with hk | hk
    · rw [hs.old k hk]; exact h.ap k
    · exact .inr (Mw.fresh h.b k hk)
  ca := h.ca
  cb := fun b o hA hn => by
    obtain ⟨b', o', hA', hlt, _⟩ := h.b.code.code.2.2.2 hn
    have e := hA
    rw [hA'] at e
    injection e with e
    injection e with e
    subst e
    rw [hs.old _ hlt]
    exact h.cb _ _ hA hn
theorem tickV_like (h : j.p = i.p ∧ j.v = i.v ∧ j.h = i.h ∧ j.m = i.m ∧ j.f = i.f ∧ j.s = i.s ∧ j.r = i.r ∧ j.n = i.n ∧ j.xs = i.xs) : tickV i C v L = tickV j C v L := by
  obtain ⟨p, vv, hh, mm, f, s, r, A, n, c, xs⟩ := i
  obtain ⟨p2, vv2, hh2, mm2, f2, s2, r2, A2, n2, c2, xs2⟩ := j
  dsimp only at h
  obtain ⟨rfl, rfl, rfl, rfl, rfl, rfl, rfl, rfl, rfl⟩ := h
  have e : stepV ⟨p2, vv2, hh2, mm2, f2, s2, r2, A, n2, c, xs2⟩ C = stepV ⟨p2, vv2, hh2, mm2, f2, s2, r2, A2, n2, c2, xs2⟩ C := rfl
  have g : ∀ k r, goV ⟨p2, vv2, hh2, mm2, f2, s2, r2, A, n2, c, xs2⟩ C k r = goV ⟨p2, vv2, hh2, mm2, f2, s2, r2, A2, n2, c2, xs2⟩ C k r := by
    intro k
    induction k with
    | zero => intro r; rfl
    | succ k ih => intro r; unfold goV; rw [e, ih]
  unfold tickV
  dsimp only
  rw [g]
/-- Two machines that were made, and channels for each. -/
theorem duo_start {B0 Ba Bb : Nat} {wa wb wc wd : World} (hm : Blk wa M 91 (mc i v0)) (hi : i.ok wa) (hne : ∀ b o, i.A = some ⟨b, o, none⟩ → 0 < i.n → b ≠ M) (h0 : B0 ≤ M)
    (hn : Blk wb N 91 (mc j v0)) (hj : j.ok wb) (hnf : ∀ b o, j.A = some ⟨b, o, none⟩ → 0 < j.n → b ≠ N) (hN : wa.heap.size ≤ N) (hjA : ∀ b o, j.A = some ⟨b, o, none⟩ → wa.heap.size ≤ b)
    (hab : Below wa.heap.size wa wb) (hbc : Below wb.heap.size wb wc) (hcd : Below wc.heap.size wc wd) (hS : Chs Ba wc ρ S A n c Q C none_) (hT : Chs Bb wd σ T D m d R C none_) (hBa : wb.heap.size ≤ Ba) (hBb : wc.heap.size ≤ Bb) :
    Duo B0 wd (fun k => if k = M then .own 0 else ρ k) (fun k => if k = N then .own 0 else σ k) M N i j S T A D n m c d Q R C v0 none_ v0 none_ := by
  have hM : M < wa.heap.size := hm.lt
  have hNl : N < wb.heap.size := hn.lt
  have sab := hab.size
  have sbc := hbc.size
  have scd := hcd.size
  have ra : ∀ k, ρ k ≠ .out → Ba ≤ k ∧ k < wc.heap.size := hS.bd
  have rb : ∀ k, σ k ≠ .out → Bb ≤ k ∧ k < wd.heap.size := hT.bd
  have ha : Mw B0 wc (fun k => if k = M then .own 0 else ρ k) M i S A n c Q C v0 none_ := mw_start hm v0_ok hi hne (hab.trans (hbc.mono sab)) hS (by omega) h0
  refine ⟨mw_below ha hcd, mw_start hn v0_ok hj hnf (hbc.trans (hcd.mono sbc)) hT (by omega) (by omega), fun k => ?_, fun b o hA hp => ?_, fun b o hA hp => ?_⟩
  · by_cases hk : k = M
    · refine .inr ?_
      rw [if_neg (by omega)]
      exact Classical.byContradiction fun hh => by have := (rb k hh).1; omega
    · by_cases hr : ρ k = .out
      · exact .inl ((if_neg hk).trans hr)
      · have h1 := ra k hr
        refine .inr ?_
        rw [if_neg (by omega)]
        exact Classical.byContradiction fun hh => by have := (rb k hh).1; omega
  · obtain ⟨b', o', hA', hlt, _⟩ := hi.code.2.2.2 hp
    have e := hA
    rw [hA'] at e
    injection e with e
    injection e with e
    subst e
    show (if _ = N then Lab.own 0 else σ _) = .out
    rw [if_neg (by omega)]
    exact Classical.byContradiction fun hh => by have := (rb _ hh).1; omega
  · obtain ⟨b', o', hA', hlt, _⟩ := hj.code.2.2.2 hp
    have e := hA
    rw [hA'] at e
    injection e with e
    injection e with e
    subst e
    have h1 := hjA _ _ hA
    show (if _ = M then Lab.own 0 else ρ _) = .out
    rw [if_neg (by omega)]
    exact Classical.byContradiction fun hh => by have := (ra _ hh).1; omega
end
theorem run_field_slice {P : Program} {T : TypeId} {fs : Array Field} {f : Field} {k : Nat} {xs : List Value} {v : Value} (ht : P.underlying T = some (.struct fs)) (hf : fs[k]? = some f) (hd : ∃ d, P.underlying f.type = some (.slice d)) (hv : xs[f.offset]? = some v) (w : World) :
    (Instr.field T (.agg xs.toArray) k).run P w = .ok v w := by
  obtain ⟨d, hd⟩ := hd
  simp [Instr.field, run_underlying ht, hf, part, isAgg, run_underlying hd, hv, asAgg]
theorem prs_keep {F : Nat → Prop} {w w' : World} {A : Option Addr} {n c : Nat} {R : List (Int × Int)} (h : Prs w A n c R) (k : Keep F w w') (hF : ∀ b o, A = some ⟨b, o, none⟩ → ¬ F b) : Prs w' A n c R :=
  ⟨h.1, h.2.1, h.2.2.1, h.2.2.2.1, fun hp => by
    obtain ⟨b, o, hA, hlt, hc⟩ := h.2.2.2.2 hp
    have e := k.block b hlt (hF b o hA)
    have hcell : ∀ t, w'.cell? ⟨b, t, none⟩ = w.cell? ⟨b, t, none⟩ := fun t => by unfold World.cell?; rw [e]
    exact ⟨b, o, hA, Nat.lt_of_lt_of_le hlt k.size, fun j p hj => by rw [hcell, hcell]; exact hc j p hj⟩⟩
/-- A cell of an own row is there, may be written, and the row is an own row behind it. -/
theorem own_at {w : World} {B n c k : Nat} {e : TypeId} {A : Option Addr} {xs : List Value} (h : w.ownsRow B e 1 (.slice A n c) n xs) (hk : k < n) : ∃ g x, A = some ⟨g, 0, none⟩ ∧ B ≤ g ∧ g < w.heap.size ∧ xs[k]? = some x ∧ w.cell? ⟨g, k, none⟩ = some x ∧ w.frozen? ⟨g, k, none⟩ = false ∧ ∀ u, (w.setCell ⟨g, k, none⟩ u).ownsRow B e 1 (.slice A n c) n (xs.set k u) := by
  have hl : xs.length = n := by have := h.1; omega
  rcases h.2 with ⟨hv, h0⟩ | ⟨g, cap, cur, hv, hb, hg, _⟩
  · omega
  · simp only [Value.slice.injEq] at hv
    obtain ⟨rfl, _, rfl⟩ := hv
    exact ⟨g, xs[k], rfl, hb, lt_of_block hg, List.getElem?_eq_getElem (by omega), by rw [h.cellAt k (by omega)]; exact List.getElem?_eq_getElem (by omega), h.frozenAt k, fun u => (h.stored k u).1⟩
end Go.Proofs.Ytliiinffkcgcaaa.VmcO
namespace Go.Proofs.Ytliiinffkcgcaaa.VmOwnW
open Go.RowKit Go.Proofs.Ytliiinffkcgcaaa.Kit Go.Proofs.Ytliiinffkcgcaaa.Byt Go.Proofs.Ytliiinffkcgcaaa.Mem Go.Proofs.Ytliiinffkcgcaaa.OpsM Go.Proofs.Ytliiinffkcgcaaa.VmcM Go.Proofs.Ytliiinffkcgcaaa.VmcA Go.Proofs.Ytliiinffkcgcaaa.VmcE Go.Proofs.Ytliiinffkcgcaaa.VmcF Go.Proofs.Ytliiinffkcgcaaa.VmcG Go.Proofs.Ytliiinffkcgcaaa.VmcJ Go.Proofs.Ytliiinffkcgcaaa.VmcK Go.Proofs.Ytliiinffkcgcaaa.VmcN Go.Proofs.Ytliiinffkcgcaaa.VmcL Go.Proofs.Ytliiinffkcgcaaa.VmcP Go.Proofs.Ytliiinffkcgcaaa.VmcS Go.Proofs.Ytliiinffkcgcaaa.VmcT Go.Proofs.Ytliiinffkcgcaaa.VmcU Go.Proofs.Ytliiinffkcgcaaa.VmcV Go.Proofs.Ytliiinffkcgcaaa.VmcX Go.Proofs.Ytliiinffkcgcaaa.VmcY Go.Proofs.Ytliiinffkcgcaaa.VmcO Go.Proofs.Ytliiinffkcgcaaa.PrtM Go.Proofs.Ytliiinffkcgcaaa.PrtA Go.Proofs.Ytliiinffkcgcaaa.PrtB Go.Proofs.Ytliiinffkcgcaaa.PrtG
open Go.Proofs.Ytliiinffkcgcaaa.ImgA (Im Bx Yes open_image)
open Go.Proofs.Ytliiinffkcgcaaa.ImgB (right)
open Go.Proofs.Ytliiinffkcgcaaa.TabA (Tri Tris Ta)
open Go.Proofs.Ytliiinffkcgcaaa.TabI (i64s i64s_len i64s_one)

set_option maxRecDepth 100000 in
set_option maxHeartbeats 6400000 in
theorem core (i : Im) (q : Nat) (w : World) (h : i.ok w) (hq : q < 256) : Calls Try.prog 5 #[i.val, .int .u8 (q : Nat)] w (Yes w true) := by
  have hn64 : i.n ≤ 9223372036854775807 := by have := h.code.2.1; have := h.code.2.2.1; omega
  have HOK := Lib.hid h
  have HX := Lib.hid (Bx.new w i)
  have HNB := Lib.hid (fun w' (hb : Below w.heap.size w w') (hr : ¬ right i) => new_bad i w' (h.below hb) hn64 hr)
  have HNY := Lib.hid (fun w' (hb : Below w.heap.size w w') (hr : right i) => new_yes i w' (h.below hb) hr)
  have HRI := Lib.hid (show ∀ w' j w'', Cop w' i j w'' → right i → right j from fun w' j w'' hc hr => Cop.like hc hr)
  by_cases hr : right i
  rotate_left 1
  · have HR := Lib.hid hr
    obtain ⟨p, vv, hh, m, f, s, r, A, n, c, xs⟩ := i
    clear h hr hq
    show Calls _ _ #[.agg #[.int .i64 p, .int .i64 vv, .int .i64 hh, .int .i64 m, .int .i64 f, .int .i64 s, .int .i64 r, .slice A n c], _] w _
    go_enter Try.func5, Try.ntmps5
    go_wp2_with fail
    refine (wakes_any _).mono ?_
    rintro e w1 ⟨rfl, hb1⟩
    have HX1 := Lib.hid (HX.out.step hb1)
    clear hb1
    obtain ⟨x0, x1, x2, x3, x4, x5, x6, x7⟩ := Bx.cells HX1.out
    dsimp only at x0 x1 x2 x3 x4 x5 x6 x7
    go_wp2_with fail
    refine (HNB.out _ HX1.out.bel HR.out).mono ?_
    rintro e w2 ⟨rfl, hb2⟩
    have HX2 := Lib.hid (HX1.out.step hb2)
    clear hb2 x0 x1 x2 x3 x4 x5 x6 x7
    obtain ⟨x0, x1, x2, x3, x4, x5, x6, x7⟩ := Bx.cells HX2.out
    dsimp only at x0 x1 x2 x3 x4 x5 x6 x7
    go_wp2_with fail
    refine (HNB.out _ HX2.out.bel HR.out).mono ?_
    rintro e w3 ⟨rfl, hb3⟩
    have HB3 := Lib.hid (HX2.out.step hb3)
    clear hb3 x0 x1 x2 x3 x4 x5 x6 x7
    go_wp2
    go_ret
    exact ⟨rfl, HB3.out.bel⟩
  · have HR := Lib.hid hr
    have hn96 : 0 < i.n ∧ i.n ≤ 96 := by have := hr.2.2.2.2.2.2.2; omega
    have hm16 : 1 ≤ i.m ∧ i.m ≤ 16 := hr.2.2.2.1
    have HFU0 := Lib.hid (show ∀ w' j w'', Cop w' i j w'' → j.f.toNat ≤ 32 from fun w' j w'' hc => by have h1 := hr.2.2.2.2.1; have h2 := hc.1.2.2.2.2.1; omega)
    have HCP := Lib.hid (show ∀ w' j w'', Cop w' i j w'' → (0 < j.n ∧ j.n ≤ 96) ∧ 0 ≤ j.m ∧ j.m ≤ 16 from fun w' j w'' hc => by rw [hc.1.2.2.2.1, hc.1.2.2.2.2.2.2.2.1]; omega)
    have HLK := Lib.hid (show ∀ w' j w'' w3 j2 w4 C v L, Cop w' i j w'' → Cop w3 i j2 w4 → tickV j C v L = tickV j2 C v L from fun w' j w'' w3 j2 w4 C v L h1 h2 => (tickV_like h1.1).symm.trans (tickV_like h2.1))
    have HMS := Lib.hid (show ∀ w' j w'' w3 j2 w4, Cop w' i j w'' → Cop w3 i j2 w4 → j2.m = j.m from fun w' j w'' w3 j2 w4 h1 h2 => h2.1.2.2.2.1.trans h1.1.2.2.2.1.symm)
    obtain ⟨p, vv, hh, m, f, s, r, A, n, c, xs⟩ := i
    clear h hr hn96 hm16
    show Calls _ _ #[.agg #[.int .i64 p, .int .i64 vv, .int .i64 hh, .int .i64 m, .int .i64 f, .int .i64 s, .int .i64 r, .slice A n c], _] w _
    go_enter Try.func5, Try.ntmps5
    go_wp2_with fail
    refine (wakes_any _).mono ?_
    rintro e w1 ⟨rfl, hb1⟩
    have HX1 := Lib.hid (HX.out.step hb1)
    clear hb1
    obtain ⟨x0, x1, x2, x3, x4, x5, x6, x7⟩ := Bx.cells HX1.out
    dsimp only at x0 x1 x2 x3 x4 x5 x6 x7
    go_wp2_with fail
    refine (HNY.out _ HX1.out.bel HR.out).mono ?_
    rintro e w2 ⟨M, j, rfl, hM, hMl, hne, hj⟩
    have HM := Lib.hid hM
    have HJ := Lib.hid hj
    have HRJ := Lib.hid (HRI.out _ _ _ hj HR.out)
    have HML := Lib.hid (show w.heap.size + 1 ≤ M from by have := HX1.out.blk.lt; omega)
    have HNE := Lib.hid hne
    have HX2 := Lib.hid (HX1.out.step hj.2.2.2)
    clear hM hj hne hMl x0 x1 x2 x3 x4 x5 x6 x7
    obtain ⟨x0, x1, x2, x3, x4, x5, x6, x7⟩ := Bx.cells HX2.out
    dsimp only at x0 x1 x2 x3 x4 x5 x6 x7
    go_wp2_with fail
    refine (HNY.out _ HX2.out.bel HR.out).mono ?_
    rintro e w3 ⟨N, j2, rfl, hN, hNl, hnf, hj2⟩
    have HN := Lib.hid hN
    have HJ2 := Lib.hid hj2
    have HRJ2 := Lib.hid (HRI.out _ _ _ hj2 HR.out)
    have HNL := Lib.hid hNl
    have HNF := Lib.hid hnf
    have HX3 := Lib.hid (HX2.out.step hj2.2.2.2)
    have HLIKE := Lib.hid (show ∀ C v L, tickV j C v L = tickV j2 C v L from fun C v L => HLK.out _ _ _ _ _ _ C v L HJ.out hj2)
    have HMM := Lib.hid (show j2.m = j.m from HMS.out _ _ _ _ _ _ HJ.out hj2)
    have HC1 := Lib.hid (HCP.out _ _ _ HJ.out)
    have HFU := Lib.hid (HFU0.out _ _ _ HJ.out)
    clear hN hj2 hnf hNl x0 x1 x2 x3 x4 x5 x6 x7 HLK HMS HCP HFU0
    go_wp2_with fail
    refine (example_any _).mono ?_
    rintro e w4 ⟨g1, g2, g3, rfl, hok, hb4⟩
    have HO := Lib.hid hok
    have HB4 := Lib.hid hb4
    clear hok hb4
    go_wp2_with fail
    refine (PrtH.new_yes (ex g1 g2 g3) _ HO.out (ex_right _ _ _)).mono ?_
    rintro e w5 ⟨S, ρ, A0, c0, Q, rfl, h0, hb5⟩
    have H0 := Lib.hid (show Chs w4.heap.size w5 ρ S A0 1 c0 Q exC none_ from h0)
    have HB5 := Lib.hid (HB4.out.trans (hb5.mono HB4.out.size))
    clear h0 hb5 HO
    go_wp2_with fail
    refine (example_any _).mono ?_
    rintro e w6 ⟨k1, k2, k3, rfl, hok, hb6⟩
    have HO := Lib.hid hok
    have HB6 := Lib.hid hb6
    clear hok hb6
    go_wp2_with fail
    refine (PrtH.new_yes (ex k1 k2 k3) _ HO.out (ex_right _ _ _)).mono ?_
    rintro e w7 ⟨S2, σ, A9, c9, Q2, rfl, h1, hb7⟩
    have HB7 := Lib.hid (HB6.out.trans (hb7.mono HB6.out.size))
    have HDU := Lib.hid (duo_start (B0 := w.heap.size + 1) (Ba := w4.heap.size) (Bb := w6.heap.size) HM.out HJ.out.2.1 HNE.out HML.out HN.out HJ2.out.2.1 HNF.out HNL.out HJ2.out.2.2.1 HJ2.out.2.2.2 HB5.out HB7.out H0.out (show Chs w6.heap.size w7 σ S2 A9 1 c9 Q2 exC none_ from h1) HB4.out.size HB6.out.size)
    have HBE := Lib.hid (HX3.out.bel.trans ((HB5.out.mono HX3.out.bel.size).trans (HB7.out.mono (Nat.le_trans HX3.out.bel.size HB5.out.size))))
    clear h1 hb7 HO HB4 HB5 HB6 HB7 HM HN HJ HJ2 HNE HNF HNL H0 HX1 HX2 HX3
    go_wp2_with fail
    obtain ⟨T, hT⟩ : ∃ T : Nat, (T : Int) = (q : Int) % 20 := ⟨q % 20, by omega⟩
    have hT19 : T ≤ 19 := by omega
    rw [← hT]
    clear hT
    go_loopw [53] (fun z wr => ∃ (k : Nat) (ρk σk : Nat → Lab) (L : Nat → List Int) (v : V), k ≤ T ∧ z = .int .i64 k ∧ Hid (Duo (w.heap.size + 1) wr ρk σk M N j j2 S S2 A0 A9 1 1 c0 c9 Q Q2 exC v L v L) ∧ Hid (Below w.heap.size w wr) ∧ Hid ((0 ≤ v.pc ∧ v.pc ≤ 1000) ∧ 0 ≤ v.tk ∧ v.tk ≤ k)) (fun z _ => T - (intOf z).toNat)
    case atStart => exact ⟨0, _, _, none_, v0, Nat.zero_le _, rfl, HDU, HBE, Lib.hid ⟨⟨by decide, by decide⟩, by decide, by decide⟩⟩
    case round =>
      obtain ⟨k, ρk, σk, L, v, hk, rfl, HD, HBk, HV⟩ := hrel
      clear HDU HBE
      by_cases hlt : k < T
      · obtain ⟨G, hG⟩ : ∃ G, G = tickV j exC v L := ⟨_, rfl⟩
        have hG2 : G = tickV j2 exC v L := hG.trans (HLIKE.out _ _ _)
        have HTO := Lib.hid (tickV_ok (C := exC) (L := L) HD.out.a.code.byt (right_l HD.out.a.code HRJ.out) HD.out.a.ok HV.out.1)
        rw [← hG] at HTO
        have HSN := Lib.hid (tickV_sn (C := exC) (L := L) HD.out.a.code.byt (right_l HD.out.a.code HRJ.out) HD.out.a.ok HV.out.1)
        rw [← hG] at HSN
        have HTK := Lib.hid (fun (w' : World) (hd : Duo (w.heap.size + 1) w' ρk σk M N j j2 S S2 A0 A9 1 1 c0 c9 Q Q2 exC v L v L) => tick_any hd.a HRJ.out HV.out.1 (by have := HV.out.2; omega) hG)
        have HTL := Lib.hid (fun (w' : World) (ρ' : Nat → Lab) (v' : V) (L' : Nat → List Int) (hd : Duo (w.heap.size + 1) w' ρ' σk M N j j2 S S2 A0 A9 1 1 c0 c9 Q Q2 exC v' L' v L) => tick_any hd.b HRJ2.out HV.out.1 (by have := HV.out.2; omega) hG2)
        have HSA := Lib.hid (state_any HD.out.a.blk HD.out.a.ok HC1.out.2)
        clear hG hG2
        have hwr : w.heap.size + 1 ≤ wr.heap.size := HD.out.a.chs.base
        go_wp2_with fail
        refine HSA.out.mono ?_
        rintro e w8 ⟨x, rfl, hs8, hb8⟩
        obtain ⟨A1, n1, c1, A2, n2, c2, rfl, o1, o2⟩ := hs8
        obtain ⟨pc1, hpc1⟩ : ∃ y, y = (v.z j.m.toNat).pc := ⟨_, rfl⟩
        obtain ⟨tk1, htk1⟩ : ∃ y, y = (v.z j.m.toNat).tk := ⟨_, rfl⟩
        obtain ⟨ft1, hft1⟩ : ∃ y, y = (v.z j.m.toNat).ft := ⟨_, rfl⟩
        rw [← hpc1, ← htk1, ← hft1]
        obtain ⟨wA, hwA⟩ : ∃ wA, wA = w8.alloc (.cells #[.int .i64 pc1, .slice A1 n1 c1, .slice A2 n2 c2, .int .i64 tk1, .int .i64 ft1] 66) := ⟨_, rfl⟩
        have HBA := Lib.hid (show Below wr.heap.size wr wA from by rw [hwA]; exact hb8.alloc hb8.size _)
        have HRA := Lib.hid (show Blk wA w8.heap.size 66 [.int .i64 pc1, .slice A1 n1 c1, .slice A2 n2 c2, .int .i64 tk1, .int .i64 ft1] from by rw [hwA]; exact Blk.new w8 _ _)
        have HOA := Lib.hid (show wA.ownsRow wr.heap.size 3 1 (.slice A2 n2 c2) n2 _ from own_below o2 (show Below w8.heap.size w8 wA from by rw [hwA]; exact (Below.refl _ _).alloc (Nat.le_refl _) _))
        have O2 := Lib.hid (show ∀ g, (Value.slice A2 n2 c2).ownBlock = some g → g < w8.heap.size from fun g hg => (o2.lt g hg).2)
        have hn2 : n2 ≤ 16 := by have h3 := HC1.out.2; have h1 := (Rd.own o2).1; rw [i64s_len] at h1; have h2 := (z_len HD.out.a.ok (show j.m.toNat ≤ 16 by have := HC1.out.2; omega)).2; omega
        have h8l := hb8.size
        clear hpc1 htk1 hft1 HSA o1 o2 hb8
        go_wp2_with fail
        rw [← hwA]
        clear hwA
        obtain ⟨wo, hwo⟩ : ∃ wo : World, wo = wr := ⟨_, rfl⟩
        rw [← hwo] at HBA HOA HD HBk hwr h8l
        clear hwo
        go_loopw [60] (fun z wr2 => ∃ (u : Nat) (xs : List Value), u ≤ n2 ∧ z = .int .i64 u ∧ Hid (Below wo.heap.size wo wr2) ∧ Hid (Blk wr2 w8.heap.size 66 [.int .i64 pc1, .slice A1 n1 c1, .slice A2 n2 c2, .int .i64 tk1, .int .i64 ft1]) ∧ Hid (wr2.ownsRow wo.heap.size 3 1 (.slice A2 n2 c2) n2 xs)) (fun z _ => n2 - (intOf z).toNat)
        case atStart => exact ⟨0, _, Nat.zero_le _, rfl, HBA, HRA, HOA⟩
        case round =>
          obtain ⟨u, ys, hu, rfl, HB, HRx, HO⟩ := hrel
          clear HBA HRA HOA
          by_cases hlu : u < n2
          · obtain ⟨g, x, hA2, hg1, hg2, hx, gx, gf, hst⟩ := own_at HO.out hlu
            have hg8 : g < w8.heap.size := O2.out g (by rw [hA2]; rfl)
            have y2 := HRx.out.cell (i := 2) rfl
            try dsimp only at y2
            rw [hA2] at y2
            have HB' := Lib.hid (HB.out.setCell (show wo.heap.size ≤ (⟨g, u, none⟩ : Addr).block from hg1) (.int .i64 77))
            have HRx' := Lib.hid (HRx.out.far (p := ⟨g, u, none⟩) (by show w8.heap.size ≠ g; omega) (.int .i64 77))
            have HO' := Lib.hid (hst (.int .i64 77))
            clear hst hx hA2
            go_wp2
            go_roundw
            case rel => exact ⟨u + 1, _, by omega, by go_num, HB', HRx', HO'⟩
            case measure => simp [intOf]; omega
          · obtain rfl : u = n2 := by omega
            have HD2 := Lib.hid (Duo.below HD.out HB.out)
            have HIM := Lib.hid (image_own HD2.out.a.blk HD2.out.a.code HC1.out.1.1 (by have := HC1.out.1.2; omega))
            have HB2 := Lib.hid (HBk.out.trans (HB.out.mono (by omega)))
            clear HRx HO HD HBk
            go_wp2_with fail
            refine HIM.out.mono ?_
            rintro e w9 ⟨i9, rfl, hi9⟩
            obtain ⟨p9, v9, h9, m9, f9, s9, r9, A8, n8, c8, xs9⟩ := i9
            have HO8 := Lib.hid (show w9.ownsRow wr.heap.size 5 1 (.slice A8 n8 c8) n8 (u8n xs9) from hi9.2)
            have HB8 := Lib.hid (show Below wr.heap.size wr w9 from hi9.1.2.2.2)
            have hn8 : n8 ≤ 96 := by have h1 := hi9.1.1.2.2.2.2.2.2.2.1; have h2 := HC1.out.1.2; dsimp only at h1; omega
            have HU8 := Lib.hid (show ∀ y ∈ u8n xs9, ∃ a : Int, y = .int .u8 a from fun y hy => by unfold u8n at hy; obtain ⟨a, _, rfl⟩ := List.mem_map.1 hy; exact ⟨_, rfl⟩)
            clear hi9 HIM
            rw [show Im.val ⟨p9, v9, h9, m9, f9, s9, r9, A8, n8, c8, xs9⟩ = .agg #[.int .i64 p9, .int .i64 v9, .int .i64 h9, .int .i64 m9, .int .i64 f9, .int .i64 s9, .int .i64 r9, .slice A8 n8 c8] from rfl]
            have hfd := fun (w' : World) => run_field_slice (P := Try.prog) (T := 29) (k := 7) (xs := [.int .i64 p9, .int .i64 v9, .int .i64 h9, .int .i64 m9, .int .i64 f9, .int .i64 s9, .int .i64 r9, .slice A8 n8 c8]) (v := .slice A8 n8 c8) Try.underlying29 rfl ⟨_, Try.underlying27⟩ rfl w'
            go_wp2_with fail
            clear hfd
            obtain ⟨wq, hwq⟩ : ∃ wq : World, wq = wr := ⟨_, rfl⟩
            rw [← hwq] at HD2 HB2 HO8 HB8
            clear hwq
            go_loopw [73] (fun z wr3 => ∃ (u : Nat) (ys : List Value), u ≤ n8 ∧ z = .int .i64 u ∧ Hid (Below wq.heap.size wq wr3) ∧ Hid (wr3.ownsRow wq.heap.size 5 1 (.slice A8 n8 c8) n8 ys) ∧ Hid (∀ y ∈ ys, ∃ a : Int, y = .int .u8 a)) (fun z _ => n8 - (intOf z).toNat)
            case atStart => exact ⟨0, _, Nat.zero_le _, rfl, HB8, HO8, HU8⟩
            case round =>
              obtain ⟨u, ys, hu8, rfl, HB, HO, HU⟩ := hrel
              clear HB8 HO8 HU8
              by_cases hlu : u < n8
              · obtain ⟨g, x, hA8, hg1, hg2, hx, gx, gf, hst⟩ := own_at HO.out hlu
                obtain ⟨a, rfl⟩ := HU.out x (List.mem_of_getElem? hx)
                have HST := Lib.hid hst
                have HBS := Lib.hid (fun y => HB.out.setCell (show wq.heap.size ≤ (⟨g, u, none⟩ : Addr).block from hg1) y)
                have HUS := Lib.hid (show ∀ b : Int, ∀ y ∈ ys.set u (.int .u8 b), ∃ a : Int, y = .int .u8 a from fun b y hy => by
                  rcases List.mem_or_eq_of_mem_set hy with h1 | h1
                  · exact HU.out y h1
                  · exact ⟨b, h1⟩)
                rw [hA8]
                clear hst hx
                go_wp2
                go_roundw
                case rel => exact ⟨u + 1, ys.set u (.int .u8 ((a + 1) % 256)), by omega, by go_num, Lib.hid (HBS.out _), Lib.hid (by rw [← hA8]; exact HST.out _), Lib.hid (HUS.out _)⟩
                case measure => simp [intOf]; omega
              · obtain rfl : u = n8 := by omega
                have HD3 := Lib.hid (Duo.below HD2.out HB.out)
                have HB3 := Lib.hid (HB2.out.trans (HB.out.mono HB2.out.size))
                have HT1 := Lib.hid (HTK.out _ HD3.out)
                clear HD2 HO HU HB2
                go_wp2_with fail
                refine HT1.out.mono ?_
                intro e w10 hk10
                obtain ⟨A6, n6, c6, ρ', rfl, hp6, hl6, hm6, hs6⟩ := hk10
                have HD4 := Lib.hid (Duo.tick HD3.out hm6 hs6)
                have HP6 := Lib.hid hp6
                have HL6 := Lib.hid hl6
                have HB4 := Lib.hid (HB3.out.trans ((hs6.below HD3.out.a.chs.bd out_vm0 HD3.out.a.chs.base).mono (Nat.le_succ _)))
                have HT2 := Lib.hid (HTL.out _ _ _ _ HD4.out)
                clear hp6 hl6 hm6 hs6 HT1 HD3 HB3
                go_wp2_with fail
                refine HT2.out.mono ?_
                intro e w11 hk11
                obtain ⟨A7, n7, c7, σ', rfl, hp7, hl7, hm7, hs7⟩ := hk11
                have HD5 := Lib.hid (Duo.swap (Duo.tick (Duo.swap HD4.out) hm7 hs7))
                have HP7 := Lib.hid hp7
                have HP6' := Lib.hid (prs_keep HP6.out hs7.keep fun b o hA => by rw [(HD4.out.ap b).resolve_left (by rw [HL6.out b o hA]; intro e; cases e)]; exact out_vm0)
                have HB5 := Lib.hid (HB4.out.trans ((hs7.below HD4.out.b.chs.bd out_vm0 HD4.out.b.chs.base).mono (Nat.le_succ _)))
                have hsn : G.sn.length ≤ 100000 := by have h1 := HSN.out.2; have h2 := HFU.out; omega
                have HSS := Lib.hid (fun (w' : World) (hb : Below w11.heap.size w11 w') => sameSent_any A6 A7 n6 c6 n7 c7 G.sn w' (HP6'.out.below hb) (HP7.out.below hb) hsn)
                have HSB := Lib.hid (fun (w' : World) (hb : Below w11.heap.size w11 w') => state_any (HD5.out.a.blk.below hb) HD5.out.a.ok HC1.out.2)
                have HSC := Lib.hid (fun (w' : World) (hb : Below w11.heap.size w11 w') => state_any (HD5.out.b.blk.below hb) HD5.out.b.ok (show 0 ≤ j2.m ∧ j2.m ≤ 16 by rw [HMM.out]; exact HC1.out.2))
                rw [HMM.out] at HSC
                have HZL := Lib.hid (z_len HD5.out.a.ok (show j.m.toNat ≤ 16 by have := HC1.out.2; omega))
                obtain ⟨cfv, hcf⟩ : ∃ cfv, cfv = G.cf := ⟨_, rfl⟩
                rw [← hcf]
                clear hcf hp7 hl7 hm7 hs7 HT2 HD4 HB4 HP6 HL6 HP7 HP6' HTK HTL
                obtain ⟨wC, hwC⟩ : ∃ wC, wC = (w11.alloc (.cells #[.slice A6 n6 c6, .bool cfv] 51)).alloc (.cells #[.slice A7 n7 c7, .bool cfv] 51) := ⟨_, rfl⟩
                have HBC := Lib.hid (show Below w11.heap.size w11 wC from by rw [hwC]; exact ((Below.refl _ _).alloc (Nat.le_refl _) _).alloc (by simp) _)
                go_wp2_with fail
                rw [← hwC]
                clear hwC
                refine (HSS.out _ HBC.out).mono ?_
                rintro e w12 ⟨rfl, hb12⟩
                have HB12 := Lib.hid (HBC.out.trans (hb12.mono HBC.out.size))
                clear hb12
                go_wp2_with fail
                refine (HSB.out _ HB12.out).mono ?_
                rintro e w13 ⟨x1, rfl, hs13, hb13⟩
                have HB13 := Lib.hid (HB12.out.trans (hb13.mono HB12.out.size))
                have HS13 := Lib.hid hs13
                clear hb13 hs13
                go_wp2_with fail
                refine (HSC.out _ HB13.out).mono ?_
                rintro e w14 ⟨x2, rfl, hs14, hb14⟩
                have HB14 := Lib.hid (HB13.out.trans (hb14.mono HB13.out.size))
                have HS14 := Lib.hid hs14
                have HS15 := Lib.hid (Sv.below HS13.out hb14)
                clear hb14 hs14
                go_wp2_with fail
                refine (same_any _ HS15.out HS14.out (by have h1 := HZL.out; have h2 := HC1.out.2; omega) true ⟨fun _ => ⟨rfl, rfl, rfl, rfl, rfl⟩, fun _ => rfl⟩).mono ?_
                rintro e w15 ⟨rfl, hb15⟩
                have HB15 := Lib.hid (HB14.out.trans (hb15.mono HB14.out.size))
                clear hb15
                go_wp2
                go_roundw
                case rel => exact ⟨k + 1, ρ', σ', G.L, G.v, by omega, by go_num, Lib.hid (Duo.below HD5.out HB15.out), Lib.hid (HB5.out.trans (HB15.out.mono HB5.out.size)), Lib.hid ⟨HTO.out.2.1, by have h1 := HTO.out.2.2; have h2 := HV.out.2; omega, by have h1 := HTO.out.2.2; have h2 := HV.out.2; omega⟩⟩
                case measure => simp [intOf]; omega
      · obtain rfl : k = T := by omega
        go_wp2
        go_ret
        exact ⟨rfl, HBk.out⟩
set_option maxRecDepth 100000 in
theorem hole {H : Type} (enc : TypeId × Value → H) (base : Nat) (v0 : Value) (d0 : DataW H) (p0 : List MemPlace) (a1 : Int) (w : World) (w0 : DataW.Trod enc Try.prog w 0 (fun _ => true) true 29 v0 d0 p0) (o0 : Value.okWide Try.prog w .any base 29 v0) (w1 : (Lit.int .u8 a1).wf = true) :
    Calls Try.prog 5 #[v0, .int .u8 a1] w fun e w' => e = .returned (.bool true) ∧ Below w.heap.size w w' := by
  obtain ⟨i, rfl, hi⟩ := open_image w0 o0
  have h1 := bounds_u8 w1
  obtain ⟨b, rfl⟩ : ∃ b : Nat, a1 = b := ⟨a1.toNat, by omega⟩
  exact core i b w hi (by omega)
end Go.Proofs.Ytliiinffkcgcaaa.VmOwnW
