/- Send by the document, where it is taken. Conditions: its channels lie as the facts say; numbers of 64 bits. -/
import Derived.Test.YtegnehdfedfphaaJ08
namespace Go.Proofs.Ytegnehdfedfphaa.PrtU
open Go.RowKit Go.Proofs.Ytegnehdfedfphaa.Kit Go.Proofs.Ytegnehdfedfphaa.Byt Go.Proofs.Ytegnehdfedfphaa.Mem Go.Proofs.Ytegnehdfedfphaa.TabI Go.Proofs.Ytegnehdfedfphaa.PrtM Go.Proofs.Ytegnehdfedfphaa.PrtA Go.Proofs.Ytegnehdfedfphaa.PrtB Go.Proofs.Ytegnehdfedfphaa.PrtC Go.Proofs.Ytegnehdfedfphaa.PrtD Go.Proofs.Ytegnehdfedfphaa.PrtR Go.Proofs.Ytegnehdfedfphaa.PrtS Go.Proofs.Ytegnehdfedfphaa.PrtT
open Go.Proofs.Ytegnehdfedfphaa.TabA (Tri Tris Ta)
open Go.Proofs.Ytegnehdfedfphaa.TabE (ret_row)

section
variable {B X gl n c : Nat} {w : World} {ρ : Nat → Lab} {A : Option Addr} {C : List Tri} {L : Nat → List Int} {r : Tri}
set_option maxRecDepth 100000 in
set_option maxHeartbeats 6400000 in
theorem rsend_yes (h : Rf B w ρ X gl A n c C L) {k : Nat} (hr : C[k]? = some r) (p y : Int) (ha : r.a = p) (h0 : 0 ≤ y) (h1 : y ≤ 65535) (hf : full r.c (L k) = false) (hsmall : (L k).length ≤ 100) (h4 : 0 ≤ r.c) :
    Calls Try.prog 17 #[.pointer (some ⟨X, 0, none⟩), .int .i64 p, .int .i64 (k : Nat), .int .i64 y] w (Rft B w ρ X gl A n c C (up L k (sndL r.c (L k) y)) (.agg #[.int .i64 0, .bool true, .int .i64 0])) := by
  obtain ⟨i0, hi0, hz0, hz1, hz2⟩ := info_of info_int
  have hn64 : n ≤ 9223372036854775807 := by have := h.most; omega
  have hkn : k < n := by have := (List.getElem?_eq_some_iff.1 hr).1; rw [h.tri.1] at this; exact this
  have HR := Lib.hid h
  have hX := h.x.alloc (.cells #[.int .i64 0, .bool false, .int .i64 0] 61)
  have x0 := hX.cell (i := 0) rfl
  have x1 := hX.cell (i := 1) rfl
  obtain ⟨V, hV, hVl, hVr⟩ := h.rows
  obtain ⟨r', b, o, A1, m, c1, hr', hok, hAe, hbl, k0, k1, k2, g0, hRd, hdat⟩ := h.at_ hkn
  obtain rfl : r = r' := by rw [hr] at hr'; injection hr'
  have hm : (L k).length = m := by rw [← hRd.1, i64s_len]
  have hbA := (Below.refl w.heap.size w).alloc (Nat.le_refl _) (.cells #[.int .i64 0, .bool false, .int .i64 0] 61)
  have hgl := hV.lt
  have hxw := h.x.lt
  have hxg : X ≠ gl := fun e => by have := h.lx; rw [e, h.ll] at this; cases this
  have hVk : V[k]? = some (.slice A1 m c1) := by
    have hk2 : k < V.length := by rw [hVl]; exact hkn
    have e1 := hV.cell (i := k) (List.getElem?_eq_getElem hk2)
    rw [g0] at e1
    rw [List.getElem?_eq_getElem hk2]
    exact e1.symm
  have hbx := Blk.new w 61 [.int .i64 0, .bool false, .int .i64 0]
  rw [ha] at k0
  have k0' := (hbA.cell (p := ⟨b, o + k * 3, none⟩) hbl).trans k0
  have k2' := (hbA.cell (p := ⟨b, o + k * 3 + 2, none⟩) hbl).trans k2
  have g0' := (hbA.cell (p := ⟨gl, k, none⟩) hgl).trans g0
  obtain ⟨d, hd⟩ : ∃ d, d = r.c := ⟨_, rfl⟩
  rw [← hd] at k2 k2' hf h4 ⊢
  clear hr' ha hok k0 k1 k2 g0
  subst hAe
  have f0 := hV.alloc (.cells #[.int .i64 0, .bool false, .int .i64 0] 61) |>.frozen k
  clear hd hr
  have hbg : b ≠ gl := fun e => by have := h.lc (by omega) b o rfl; rw [e, h.ll] at this; cases this
  by_cases hd0 : d = 0
  · have hS : sndL d (L k) y = [] ++ [y] := by unfold sndL; rw [if_pos hd0]; rfl
    rw [hS]
    subst hd0
    clear hS hf
    go_enter Try.func17, Try.ntmps17
    go_upto_region 9 with (fail)
    obtain ⟨W, hW⟩ : ∃ W, W = (w.setCell ⟨gl, k, none⟩ (.slice none 0 0)).alloc (.cells #[.int .i64 0, .bool false, .int .i64 0] 61) := ⟨_, rfl⟩
    have hmid : Mid w ρ X gl n k (.slice (some ⟨b, o, none⟩) n c) V W (V.set k (.slice none 0 0)) none 0 0 [] := by
      rw [hW]
      refine ⟨hV, (hV.set k _).alloc _, hVl, by rw [List.length_set]; exact hVl, fun j hj => by rw [List.getElem?_set, if_neg (fun e => hj e.symm)], (h.x.far (by simp; omega) _).alloc _, ?_, ?_, Rd.nil _, (Keep.set (F := fun i => i = gl) w k (.slice none 0 0) rfl).trans (Keep.of_below (F := fun i => i = gl) ((Below.refl _ _).alloc (Nat.le_refl _) _)) (fun _ hi => .inl hi), by simp [World.setCell], hxg, hgl, hxw⟩
      · have h9 := Blk.new (w.setCell ⟨gl, k, none⟩ (.slice none 0 0)) 61 [.int .i64 0, .bool false, .int .i64 0]
        rwa [show (w.setCell ⟨gl, k, none⟩ (.slice none 0 0)).heap.size = w.heap.size by simp [World.setCell]] at h9
      rw [List.getElem?_set, if_pos rfl, if_pos (by rw [hVl]; exact hkn)]
    rw [← hW]
    obtain ⟨l0, hl0⟩ : ∃ l0 : List Int, l0 = [] := ⟨_, rfl⟩
    rw [← hl0] at hmid
    obtain ⟨Ax, hAx⟩ : ∃ Ax : Option Addr, Ax = none := ⟨_, rfl⟩
    obtain ⟨m', hm'0⟩ : ∃ m' : Nat, m' = 0 := ⟨_, rfl⟩
    obtain ⟨cx, hcx⟩ : ∃ cx : Nat, cx = 0 := ⟨_, rfl⟩
    have hm' : m' ≤ 100 := by omega
    clear x0 x1 hX hbx k0' k2' g0' f0 hRd hVr hVk hV hW
    rw [show Mid w ρ X gl n k (.slice (some ⟨b, o, none⟩) n c) V W (V.set k (.slice none 0 0)) none 0 0 l0 = Mid w ρ X gl n k (.slice (some ⟨b, o, none⟩) n c) V W (V.set k (.slice none 0 0)) Ax m' cx l0 by rw [hAx, hm'0, hcx]] at hmid
    have HL0 := Lib.hid hl0
    clear hl0 hAx hm'0 hcx
    have HM := Lib.hid hmid
    clear hmid
    obtain ⟨x1, gk, fk, hbxW⟩ := HM.out.more (Below.refl _ _)
    have hmm : m' ≤ 100 := hm'
    have hWz := HM.out.sz
    clear hbxW
    have B5 := Lib.hid HM.out.rd
    go_wp2_with (at_builtin; have e6 : 0 + m' ≤ 9223372036854775807 := (by omega); have e7 : (0 + m') * 8 ≤ 140737488355328 := (by omega); have e8 := World.ownsRow_nil W W.heap.size 3 1; refine wpList_add W rfl (.tmp 74) (.tmp 81) 64 rfl W.heap.size 3 i0 (.int .i64 0) 8 Try.underlying64 hi0 hz0 hz1 hz2 rfl (.slice none 0 0) 0 [] rfl e8 Ax m' cx (i64s l0) rfl B5.out (i64s_one l0) e6 e7 (Nat.le_refl _) ?_; intro A2 n2 c2 w2 hn2 hown2 hg2 hat2; have HB2 := Lib.hid (below_add (Below.refl W.heap.size W) (World.ownsRow_nil W W.heap.size 3 1) (Nat.le_refl _) hg2); have HO2 := Lib.hid hown2; obtain ⟨x1', gk', fk', _⟩ := HM.out.more HB2.out; clear hown2 hg2 hat2 x1 gk fk e6 e7 e8)
    obtain ⟨e0, e1, e2, _⟩ := HM.out.more (HB2.out.alloc HB2.out.size (.cells #[.int .i64 y] 3))
    have hn2' : n2 ≤ 100 := by have := hn2.out; omega
    have HO2' := Lib.hid (show w2.drew.ownsRow W.heap.size 3 1 (.slice A2 n2 c2) n2 (i64s l0) from by first | exact HO2.out | (have q := HO2.out; rw [List.nil_append] at q; exact q))
    have B12 := Lib.hid (own_below HO2'.out ((Below.refl _ w2.drew).alloc (Nat.le_refl _) (.cells #[.int .i64 y] 3)))
    go_region_law (first
      | (rw [if_pos (by rfl)]; have e9 : n2 + 1 ≤ 9223372036854775807 := (by omega); have e10 : (n2 + 1) * 8 ≤ 140737488355328 := (by omega); have e11 : W.heap.size ≤ (w2.drew.alloc (.cells #[.int .i64 y] 3)).heap.size := (by have := HB2.out.size; simp; omega); refine wp_add _ (.tmp 88) (.tmp 90) 64 rfl W.heap.size 3 i0 (.int .i64 0) 8 Try.underlying64 hi0 hz0 hz1 hz2 rfl (.slice A2 n2 c2) n2 (i64s l0) rfl B12.out (some ⟨w2.heap.size, 0, none⟩) 1 1 (i64s [y]) rfl (rd_one w2.drew y) (i64s_one _) e9 e10 e11 ?_; intro v3 w3 hown3 hg3 hat3; obtain ⟨A3, c3, rfl⟩ := own_sh hown3; have HB3 := Lib.hid (below_add (HB2.out.drew.alloc HB2.out.size (.cells #[.int .i64 y] 3)) B12.out (Nat.le_refl _) hg3); have HO3 := Lib.hid hown3; obtain ⟨z0, z1, z2, zb⟩ := HM.out.more HB3.out; have zz := Lib.hid zb; clear hown3 hg3 hat3 zb e9 e10 e11))
    all_goals
      have zc := zz.out.set 0 (.int .i64 0)
      have y0 := zz.out.cell (i := 0) rfl
      have y1 := zz.out.cell (i := 1) rfl
      have y2 := zz.out.cell (i := 2) rfl
      have q0 := zz.out.frozen 0
      have q1 := zz.out.frozen 1
      have q2 := zz.out.frozen 2
      clear zc
      go_wp2_with fail
      have HD := HM.out.done HR.out HB3.out HO3.out
      refine ret_row (fr := (0, 0)) (g := w.heap.size) (t := 61) (cs := #[.int .i64 0, .bool true, .int .i64 0]) Try.results17 rfl rfl ?_ Try.underlying61 rfl size_told ?_
      · exact (((zz.out.far (by simp; omega) _).set 0 _).set 1 _).set 2 _
      · rw [HL0.out] at HD
        exact HD
  · have hS : sndL d (L k) y = L k ++ [y] := by unfold sndL; rw [if_neg hd0, if_neg (by rw [hf]; simp)]
    rw [hS]
    have hd1 : (d == 0) = false := by simpa using hd0
    have hd2 : ((m : Int) == d) = false := by
      rw [← hm]
      unfold full at hf
      simp only [decide_eq_false_iff_not, not_and] at hf
      simpa using hf hd0
    clear hS hf
    go_enter Try.func17, Try.ntmps17
    go_wp2_with fail
    go_quiet (fail)
    go_upto_region 9 with (fail)
    obtain ⟨W, hW⟩ : ∃ W, W = (w.alloc (.cells #[.int .i64 0, .bool false, .int .i64 0] 61)).drewN nq := ⟨_, rfl⟩
    have hmid : Mid w ρ X gl n k (.slice (some ⟨b, o, none⟩) n c) V W V A1 m c1 (L k) := by
      rw [hW]
      exact ⟨hV, hV.alloc _, hVl, hVl, fun _ _ => rfl, h.x.alloc _, hbx, hVk, hRd.alloc _, (Keep.of_below hbA).drewN _, by simp, hxg, hgl, hxw⟩
    rw [← hW]
    obtain ⟨l0, hl0⟩ : ∃ l0 : List Int, l0 = L k := ⟨_, rfl⟩
    rw [← hl0] at hmid
    have hm' : m ≤ 100 := by omega
    have HL0 := Lib.hid hl0
    clear x0 x1 hX hbx k0' k2' g0' f0 hRd hVr hVk hV hW hl0 hm hsmall hdat
    have HM := Lib.hid hmid
    clear hmid
    obtain ⟨x1, gk, fk, hbxW⟩ := HM.out.more (Below.refl _ _)
    have hmm : m ≤ 100 := hm'
    have hWz := HM.out.sz
    clear hbxW
    have B5 := Lib.hid HM.out.rd
    go_wp2_with (at_builtin; have e6 : 0 + m ≤ 9223372036854775807 := (by omega); have e7 : (0 + m) * 8 ≤ 140737488355328 := (by omega); have e8 := World.ownsRow_nil W W.heap.size 3 1; refine wpList_add W rfl (.tmp 74) (.tmp 81) 64 rfl W.heap.size 3 i0 (.int .i64 0) 8 Try.underlying64 hi0 hz0 hz1 hz2 rfl (.slice none 0 0) 0 [] rfl e8 A1 m c1 (i64s l0) rfl B5.out (i64s_one l0) e6 e7 (Nat.le_refl _) ?_; intro A2 n2 c2 w2 hn2 hown2 hg2 hat2; have HB2 := Lib.hid (below_add (Below.refl W.heap.size W) (World.ownsRow_nil W W.heap.size 3 1) (Nat.le_refl _) hg2); have HO2 := Lib.hid hown2; obtain ⟨x1', gk', fk', _⟩ := HM.out.more HB2.out; clear hown2 hg2 hat2 x1 gk fk e6 e7 e8)
    obtain ⟨e0, e1, e2, _⟩ := HM.out.more (HB2.out.alloc HB2.out.size (.cells #[.int .i64 y] 3))
    have hn2' : n2 ≤ 100 := by have := hn2.out; omega
    have HO2' := Lib.hid (show w2.drew.ownsRow W.heap.size 3 1 (.slice A2 n2 c2) n2 (i64s l0) from by first | exact HO2.out | (have q := HO2.out; rw [List.nil_append] at q; exact q))
    have B12 := Lib.hid (own_below HO2'.out ((Below.refl _ w2.drew).alloc (Nat.le_refl _) (.cells #[.int .i64 y] 3)))
    go_region_law (first
      | (rw [if_pos (by rfl)]; have e9 : n2 + 1 ≤ 9223372036854775807 := (by omega); have e10 : (n2 + 1) * 8 ≤ 140737488355328 := (by omega); have e11 : W.heap.size ≤ (w2.drew.alloc (.cells #[.int .i64 y] 3)).heap.size := (by have := HB2.out.size; simp; omega); refine wp_add _ (.tmp 88) (.tmp 90) 64 rfl W.heap.size 3 i0 (.int .i64 0) 8 Try.underlying64 hi0 hz0 hz1 hz2 rfl (.slice A2 n2 c2) n2 (i64s l0) rfl B12.out (some ⟨w2.heap.size, 0, none⟩) 1 1 (i64s [y]) rfl (rd_one w2.drew y) (i64s_one _) e9 e10 e11 ?_; intro v3 w3 hown3 hg3 hat3; obtain ⟨A3, c3, rfl⟩ := own_sh hown3; have HB3 := Lib.hid (below_add (HB2.out.drew.alloc HB2.out.size (.cells #[.int .i64 y] 3)) B12.out (Nat.le_refl _) hg3); have HO3 := Lib.hid hown3; obtain ⟨z0, z1, z2, zb⟩ := HM.out.more HB3.out; have zz := Lib.hid zb; clear hown3 hg3 hat3 zb e9 e10 e11))
    all_goals
      have zc := zz.out.set 0 (.int .i64 0)
      have y0 := zz.out.cell (i := 0) rfl
      have y1 := zz.out.cell (i := 1) rfl
      have y2 := zz.out.cell (i := 2) rfl
      have q0 := zz.out.frozen 0
      have q1 := zz.out.frozen 1
      have q2 := zz.out.frozen 2
      clear zc
      go_wp2_with fail
      have HD := HM.out.done HR.out HB3.out HO3.out
      refine ret_row (fr := (0, 0)) (g := w.heap.size) (t := 61) (cs := #[.int .i64 0, .bool true, .int .i64 0]) Try.results17 rfl rfl ?_ Try.underlying61 rfl size_told ?_
      · exact (((zz.out.far (by simp; omega) _).set 0 _).set 1 _).set 2 _
      · rw [HL0.out] at HD
        exact HD
theorem own_sh_ : True := trivial
end
end Go.Proofs.Ytegnehdfedfphaa.PrtU
