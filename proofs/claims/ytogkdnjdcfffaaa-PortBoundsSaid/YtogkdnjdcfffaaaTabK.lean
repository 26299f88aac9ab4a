/- The reference's Right. Conditions: the table lies as the facts say. -/
import Derived.Test.YtogkdnjdcfffaaaTabI0
namespace Go.Proofs.Ytogkdnjdcfffaaa.TabK
open Go.RowKit Go.Proofs.Ytogkdnjdcfffaaa.Kit Go.Proofs.Ytogkdnjdcfffaaa.Byt Go.Proofs.Ytogkdnjdcfffaaa.Mem Go.Proofs.Ytogkdnjdcfffaaa.TabA Go.Proofs.Ytogkdnjdcfffaaa.TabB Go.Proofs.Ytogkdnjdcfffaaa.TabC Go.Proofs.Ytogkdnjdcfffaaa.TabD Go.Proofs.Ytogkdnjdcfffaaa.TabE Go.Proofs.Ytogkdnjdcfffaaa.TabH Go.Proofs.Ytogkdnjdcfffaaa.TabI

/-- The window ahead of the k-th one begins there. -/
def lastOf (W : List Tri) : Nat → Int
  | 0 => -1
  | k + 1 => match W[k]? with
    | some r => r.b
    | none => -1
theorem lastOf_next {W : List Tri} {k : Nat} {r : Tri} (h : W[k]? = some r) : lastOf W (k + 1) = r.b := by simp [lastOf, h]
/-- Which ticks are used by the first k windows: none at their end and beyond; all of the last one. -/
structure Used (F : Nat) (W : List Tri) (k : Nat) (U : List Bool) : Prop where
  len : U.length = F
  below : ∀ x : Nat, U.getD x false = true → (x : Int) < endAt W k
  last : ∀ x : Nat, 0 < k → lastOf W k ≤ (x : Int) → (x : Int) < endAt W k → U.getD x false = true
theorem Used.zero (F : Nat) (W : List Tri) : Used F W 0 (List.replicate F false) :=
  ⟨by simp, fun x h => by
    rw [List.getD_eq_getElem?_getD, List.getElem?_replicate] at h
    split at h <;> simp at h, fun _ h => by omega⟩
theorem Used.next {F : Nat} {W : List Tri} {k : Nat} {U U' : List Bool} {r : Tri} (h : Used F W k U) (hr : W[k]? = some r) (hl : U'.length = F) (he : endAt W k ≤ r.b) (hc : 1 ≤ r.c) (hU : ∀ x : Nat, U'.getD x false = true ↔ U.getD x false = true ∨ (r.b ≤ (x : Int) ∧ (x : Int) < r.b + r.c)) : Used F W (k + 1) U' :=
  ⟨hl, fun x hx => by
    rw [endAt_next hr]
    rcases (hU x).1 hx with h1 | h1
    · have := h.below x h1; omega
    · exact h1.2, fun x _ h1 h2 => by
    rw [endAt_next hr] at h2
    rw [lastOf_next hr] at h1
    exact (hU x).2 (.inr ⟨h1, h2⟩)⟩
theorem bools_rep (F : Nat) : List.replicate F (Value.bool false) = bs (List.replicate F false) := by simp [bs]
theorem getD_set_true (U : List Bool) (q : Nat) (hq : q < U.length) (x : Nat) : (U.set q true).getD x false = true ↔ U.getD x false = true ∨ x = q := by
  rw [List.getD_eq_getElem?_getD, List.getElem?_set]
  by_cases h : q = x
  · subst h
    rw [if_pos rfl, if_pos hq]; simp
  · rw [if_neg h, List.getD_eq_getElem?_getD]
    exact ⟨.inl, fun h1 => by
      rcases h1 with h1 | h1
      · exact h1
      · exact absurd h1.symm h⟩

structure WS (w : World) (t : Ta) (gU : Nat) (U : List Bool) (wr : World) : Prop where
  bx : Bx w t wr
  ub : Blk wr gU 4 (bs U)
  lo : w.heap.size < gU
section
variable {w wr w' : World} {t : Ta} {gU : Nat} {U : List Bool}
theorem WS.step (h : WS w t gU U wr) (hb : Below wr.heap.size wr w') : WS w t gU U w' := ⟨h.bx.step hb, h.ub.below hb, h.lo⟩
theorem WS.alloc (h : WS w t gU U wr) (o : Obj) : WS w t gU U (wr.alloc o) := h.step ((Below.refl _ _).alloc (Nat.le_refl _) o)
theorem WS.set (h : WS w t gU U wr) (k : Nat) (v : Bool) : WS w t gU (U.set k v) (wr.setCell ⟨gU, k, none⟩ (.bool v)) := by
  have h1 := h.lo
  exact ⟨⟨h.bx.blk.far (by show w.heap.size ≠ gU; omega) _, h.bx.bel.setCell (by show w.heap.size ≤ gU; omega) _⟩, by rw [← bs_set]; exact h.ub.set k _, h.lo⟩
theorem WS.at_ (h : WS w t gU U wr) {k : Nat} (hk : k < U.length) : wr.cell? ⟨gU, k, none⟩ = some (.bool (U.getD k false)) := h.ub.cell (bs_at hk)
end

set_option maxRecDepth 100000 in
set_option maxHeartbeats 12800000 in
theorem rright_any (t : Ta) (w : World) (h : t.ok w) (b : Bool) (hb : b = true ↔ right t) : Calls Try.prog 11 #[t.val] w (Yes w b) := by
  obtain ⟨i0, hi0, hz0, hz1, hz2⟩ := Go.Proofs.Ytogkdnjdcfffaaa.TabI.info_of info_bool
  obtain ⟨fr, A1, n1, c1, P, A2, n2, c2, W, A3, n3, c3, C, tr⟩ := t
  have hm1 : n1 ≤ 9223372036854775807 := h.P.le
  have hm2 : n2 ≤ 9223372036854775807 := h.W.le
  have hm3 : n3 ≤ 9223372036854775807 := h.C.le
  have HL1 := Lib.hid (show P.length = n1 from h.P.1)
  have HL2 := Lib.hid (show W.length = n2 from h.W.1)
  have HL3 := Lib.hid (show C.length = n3 from h.C.1)
  have HB := Lib.hid (show b = true ↔ (1 ≤ fr ∧ fr ≤ 64) ∧ (1 ≤ tr ∧ tr ≤ 7) ∧ PartsOk P ∧ WinsOk n1 fr W ∧ ChansOk n1 C from by rw [← HL1.out]; exact hb)
  have HO := Lib.hid h
  clear h hb
  have HX := Lib.hid (Bx.new w ⟨fr, A1, n1, c1, P, A2, n2, c2, W, A3, n3, c3, C, tr⟩)
  have HF := Lib.hid (show ∀ p : Prop, (b = true → p) → ¬ p → b = false from fun p h hp => by rw [Bool.eq_false_iff]; exact fun hb => hp (h hb))
  show Calls _ _ #[.agg #[.int .i64 fr, .slice A1 n1 c1, .slice A2 n2 c2, .slice A3 n3 c3, .int .i64 tr]] w _
  by_cases g1 : fr < 1
  · skip
    have hbf := Lib.hid (HF.out _ (fun h => (HB.out.1 h).1) (by have := HL1.out; have := HL2.out; have := HL3.out; omega))
    go_enter Try.func11, Try.ntmps11
    go_wp2
    go_ret
    exact ⟨by rw [hbf.out]; rfl, HX.out.bel⟩
  · skip
    by_cases g2 : 64 < fr
    · skip
      have hbf := Lib.hid (HF.out _ (fun h => (HB.out.1 h).1) (by have := HL1.out; have := HL2.out; have := HL3.out; omega))
      go_enter Try.func11, Try.ntmps11
      go_wp2
      go_ret
      exact ⟨by rw [hbf.out]; rfl, HX.out.bel⟩
    · skip
      by_cases g3 : (n1 : Int) < 2
      · skip
        have hbf := Lib.hid (HF.out _ (fun h => (show 2 ≤ P.length ∧ P.length ≤ 4 from (HB.out.1 h).2.2.1.1)) (by have := HL1.out; have := HL2.out; have := HL3.out; omega))
        go_enter Try.func11, Try.ntmps11
        go_wp2
        go_ret
        exact ⟨by rw [hbf.out]; rfl, HX.out.bel⟩
      · skip
        by_cases g4 : 4 < (n1 : Int)
        · skip
          have hbf := Lib.hid (HF.out _ (fun h => (show 2 ≤ P.length ∧ P.length ≤ 4 from (HB.out.1 h).2.2.1.1)) (by have := HL1.out; have := HL2.out; have := HL3.out; omega))
          go_enter Try.func11, Try.ntmps11
          go_wp2
          go_ret
          exact ⟨by rw [hbf.out]; rfl, HX.out.bel⟩
        · skip
          by_cases g5 : tr < 1
          · skip
            have hbf := Lib.hid (HF.out _ (fun h => (HB.out.1 h).2.1) (by have := HL1.out; have := HL2.out; have := HL3.out; omega))
            go_enter Try.func11, Try.ntmps11
            go_wp2
            go_ret
            exact ⟨by rw [hbf.out]; rfl, HX.out.bel⟩
          · skip
            by_cases g6 : 7 < tr
            · skip
              have hbf := Lib.hid (HF.out _ (fun h => (HB.out.1 h).2.1) (by have := HL1.out; have := HL2.out; have := HL3.out; omega))
              go_enter Try.func11, Try.ntmps11
              go_wp2
              go_ret
              exact ⟨by rw [hbf.out]; rfl, HX.out.bel⟩
            · skip
              by_cases g7 : 8 < (n2 : Int)
              · skip
                have hbf := Lib.hid (HF.out _ (fun h => (show W.length ≤ 8 from (HB.out.1 h).2.2.2.1.1)) (by have := HL1.out; have := HL2.out; have := HL3.out; omega))
                go_enter Try.func11, Try.ntmps11
                go_wp2
                go_ret
                exact ⟨by rw [hbf.out]; rfl, HX.out.bel⟩
              · skip
                by_cases g8 : 4 < (n3 : Int)
                · skip
                  have hbf := Lib.hid (HF.out _ (fun h => (show C.length ≤ 4 from (HB.out.1 h).2.2.2.2.1)) (by have := HL1.out; have := HL2.out; have := HL3.out; omega))
                  go_enter Try.func11, Try.ntmps11
                  go_wp2
                  go_ret
                  exact ⟨by rw [hbf.out]; rfl, HX.out.bel⟩
                · skip
                  obtain ⟨F, hF⟩ : ∃ F : Nat, fr = F := ⟨fr.toNat, by omega⟩
                  subst hF
                  go_enter Try.func11, Try.ntmps11
                  go_wp2_with fail
                  go_loopw [4] (fun i wr => ∃ k : Nat, k ≤ n1 ∧ i = .int .i64 k ∧ Hid (upto (fun _ => PartOk) P k) ∧ Hid (Bx w ⟨(F : Int), A1, n1, c1, P, A2, n2, c2, W, A3, n3, c3, C, tr⟩ wr)) (fun i _ => n1 - (intOf i).toNat)
                  case atStart => exact ⟨0, Nat.zero_le _, rfl, Lib.hid upto.zero, HX⟩
                  case round =>
                    obtain ⟨k, hk, rfl, HU, HX1⟩ := hrel
                    have hsz := HX1.out.sz
                    obtain ⟨z0, z1, z2, z3, z4⟩ := HX1.out.cell
                    dsimp only at z0 z1 z2 z3 z4
                    by_cases hlt : k < n1
                    · obtain ⟨r, b', o, hr, hok, hA, hb', q0, q1, q2⟩ := (HO.out.below HX1.out.bel).P.at_ hlt
                      dsimp only at hr hA
                      subst hA
                      have HNP := Lib.hid (fun hp : ¬ PartOk r => HF.out _ (fun h => (show PartOk r from (HB.out.1 h).2.2.1.2 k r hr)) hp)
                      have HRR := Lib.hid hr
                      obtain ⟨oa0, oa1, ob0, ob1, oc0, oc1⟩ := hok
                      clear hr
                      by_cases p1 : r.a < 1
                      · skip
                        have hbf := Lib.hid (HNP.out (fun h => by have h1 := h.1; have h2 := h.2.1; have h3 := h.2.2; omega))
                        go_wp2
                        go_ret
                        exact ⟨by rw [hbf.out]; rfl, (HX1.out.alloc _).bel⟩
                      · skip
                        by_cases p2 : 16 < r.a
                        · skip
                          have hbf := Lib.hid (HNP.out (fun h => by have h1 := h.1; have h2 := h.2.1; have h3 := h.2.2; omega))
                          go_wp2
                          go_ret
                          exact ⟨by rw [hbf.out]; rfl, (HX1.out.alloc _).bel⟩
                        · skip
                          by_cases p3 : r.b < 1
                          · skip
                            have hbf := Lib.hid (HNP.out (fun h => by have h1 := h.1; have h2 := h.2.1; have h3 := h.2.2; omega))
                            go_wp2
                            go_ret
                            exact ⟨by rw [hbf.out]; rfl, (HX1.out.alloc _).bel⟩
                          · skip
                            by_cases p4 : 32 < r.b
                            · skip
                              have hbf := Lib.hid (HNP.out (fun h => by have h1 := h.1; have h2 := h.2.1; have h3 := h.2.2; omega))
                              go_wp2
                              go_ret
                              exact ⟨by rw [hbf.out]; rfl, (HX1.out.alloc _).bel⟩
                            · skip
                              by_cases p5 : r.c < 0
                              · skip
                                have hbf := Lib.hid (HNP.out (fun h => by have h1 := h.1; have h2 := h.2.1; have h3 := h.2.2; omega))
                                go_wp2
                                go_ret
                                exact ⟨by rw [hbf.out]; rfl, (HX1.out.alloc _).bel⟩
                              · skip
                                by_cases p6 : 65535 < r.c
                                · skip
                                  have hbf := Lib.hid (HNP.out (fun h => by have h1 := h.1; have h2 := h.2.1; have h3 := h.2.2; omega))
                                  go_wp2
                                  go_ret
                                  exact ⟨by rw [hbf.out]; rfl, (HX1.out.alloc _).bel⟩
                                · skip
                                  go_wp2
                                  go_roundw
                                  case rel => exact ⟨k + 1, by omega, by go_num, Lib.hid (HU.out.next HRR.out (show PartOk r from ⟨by omega, by omega, by omega⟩)), Lib.hid (HX1.out.alloc _)⟩
                                  case measure => simp [intOf]; omega
                    · obtain rfl : n1 = k := by omega
                      have HPO := Lib.hid (show PartsOk P from ⟨by have := HL1.out; omega, by have h := HU.out; rw [← HL1.out] at h; exact h.all⟩)
                      clear hsz
                      go_upto_region 11 with (at_make; refine wpList_make_room _ rfl _ _ _ rfl 4 i0 _ 1 Try.underlying73 hi0 hz0 hz1 hz2 rfl _ _ _ _ F F rfl rfl (by omega) (by omega) (by omega) (by omega) (by omega) ?_; intro w4 hB4 hb4 hs4)
                      have HW0 := Lib.hid (show WS w ⟨(F : Int), A1, n1, c1, P, A2, n2, c2, W, A3, n3, c3, C, tr⟩ wr.heap.size (List.replicate F false) w4 from ⟨HX1.out.step hb4, (by rw [← bools_rep]; exact hB4.out), HX1.out.sz⟩)
                      obtain ⟨gU, hgU⟩ : ∃ gU, gU = wr.heap.size := ⟨_, rfl⟩
                      rw [← hgU] at HW0 ⊢
                      clear hgU hB4 hb4 hs4 z0 z1 z2 z3 z4 HX1
                      obtain ⟨z0, z1, z2, z3, z4⟩ := HW0.out.bx.cell
                      dsimp only at z0 z1 z2 z3 z4
                      go_wp2_with fail
                      clear z0 z1 z2 z3 z4
                      go_loopw [7, 8, 9] (fun l f i wr => ∃ (k : Nat) (lv ev : Int) (mb : Bool) (U : List Bool), k ≤ n2 ∧ i = .int .i64 k ∧ l = .int .i64 lv ∧ f = .bool mb ∧ Hid (lv = lastOf W k) ∧ Hid (ev = endAt W k) ∧ -1 ≤ lv ∧ lv < ev ∧ 0 ≤ ev ∧ ev ≤ (F : Int) ∧ Hid (mb = true ↔ maint W k) ∧ Hid (upto (WinOk n1 (F : Int) W) W k) ∧ Hid (Used F W k U) ∧ Hid (WS w ⟨(F : Int), A1, n1, c1, P, A2, n2, c2, W, A3, n3, c3, C, tr⟩ gU U wr)) (fun _ _ i _ => n2 - (intOf i).toNat)
                      case atStart => exact ⟨0, -1, 0, false, _, Nat.zero_le _, rfl, rfl, rfl, Lib.hid rfl, Lib.hid rfl, by omega, by omega, by omega, by omega, Lib.hid ⟨fun h => (by cases h), fun ⟨_, _, h, _⟩ => by omega⟩, Lib.hid upto.zero, Lib.hid (Used.zero F W), HW0⟩
                      case round =>
                        obtain ⟨k, lv, ev, mb, U, hk, rfl, rfl, rfl, HLV, HEV, l0, l1, e0, e1, HMT, HUP, HUS, HWr⟩ := hrel
                        have hszU := HWr.out.ub.lt
                        have hsz := HWr.out.bx.sz
                        obtain ⟨z0, z1, z2, z3, z4⟩ := HWr.out.bx.cell
                        dsimp only at z0 z1 z2 z3 z4
                        clear HW0
                        by_cases hlt : k < n2
                        · obtain ⟨r, b', o, hr, hok, hA, hb', q0, q1, q2⟩ := (HO.out.below HWr.out.bx.bel).W.at_ hlt
                          dsimp only at hr hA
                          subst hA
                          have HNW := Lib.hid (fun hp : ¬ WinOk n1 (F : Int) W k r => HF.out _ (fun h => (show WinOk n1 (F : Int) W k r from (HB.out.1 h).2.2.2.1.2.1 k r hr)) hp)
                          have HRR := Lib.hid hr
                          obtain ⟨oa0, oa1, ob0, ob1, oc0, oc1⟩ := hok
                          clear hr
                          by_cases q1x : r.a < 0
                          · skip
                            have hbf := Lib.hid (HNW.out (fun h => by have h1 := h.1; have h2 := h.2.1; have h3 := h.2.2; have h4 := HEV.out; omega))
                            go_wp2
                            go_ret
                            exact ⟨by rw [hbf.out]; rfl, (HWr.out.alloc _).bx.bel⟩
                          · skip
                            by_cases q2x : (n1 : Int) ≤ r.a
                            · skip
                              have hbf := Lib.hid (HNW.out (fun h => by have h1 := h.1; have h2 := h.2.1; have h3 := h.2.2; have h4 := HEV.out; omega))
                              go_wp2
                              go_ret
                              exact ⟨by rw [hbf.out]; rfl, (HWr.out.alloc _).bx.bel⟩
                            · skip
                              by_cases q3x : r.b < 0
                              · skip
                                have hbf := Lib.hid (HNW.out (fun h => by have h1 := h.1; have h2 := h.2.1; have h3 := h.2.2; have h4 := HEV.out; omega))
                                go_wp2
                                go_ret
                                exact ⟨by rw [hbf.out]; rfl, (HWr.out.alloc _).bx.bel⟩
                              · skip
                                by_cases q4x : (F : Int) ≤ r.b
                                · skip
                                  have hbf := Lib.hid (HNW.out (fun h => by have h1 := h.1; have h2 := h.2.1; have h3 := h.2.2; have h4 := HEV.out; omega))
                                  go_wp2
                                  go_ret
                                  exact ⟨by rw [hbf.out]; rfl, (HWr.out.alloc _).bx.bel⟩
                                · skip
                                  by_cases q5x : r.c < 1
                                  · skip
                                    have hbf := Lib.hid (HNW.out (fun h => by have h1 := h.1; have h2 := h.2.1; have h3 := h.2.2; have h4 := HEV.out; omega))
                                    go_wp2
                                    go_ret
                                    exact ⟨by rw [hbf.out]; rfl, (HWr.out.alloc _).bx.bel⟩
                                  · skip
                                    by_cases q6x : 64 < r.c
                                    · skip
                                      have hbf := Lib.hid (HNW.out (fun h => by have h1 := h.1; have h2 := h.2.1; have h3 := h.2.2; have h4 := HEV.out; omega))
                                      go_wp2
                                      go_ret
                                      exact ⟨by rw [hbf.out]; rfl, (HWr.out.alloc _).bx.bel⟩
                                    · skip
                                      by_cases q7x : (F : Int) < r.b + r.c
                                      · skip
                                        have hbf := Lib.hid (HNW.out (fun h => by have h1 := h.1; have h2 := h.2.1; have h3 := h.2.2; have h4 := HEV.out; omega))
                                        go_wp2
                                        go_ret
                                        exact ⟨by rw [hbf.out]; rfl, (HWr.out.alloc _).bx.bel⟩
                                      · skip
                                        by_cases q8x : r.b ≤ lv
                                        · skip
                                          have hbf := Lib.hid (HNW.out (fun h => by have h1 := h.1; have h2 := h.2.1; have h3 := h.2.2; have h4 := HEV.out; omega))
                                          go_wp2
                                          go_ret
                                          exact ⟨by rw [hbf.out]; rfl, (HWr.out.alloc _).bx.bel⟩
                                        · skip
                                          have HWO := Lib.hid (fun h : ev ≤ r.b => (show WinOk n1 (F : Int) W k r from ⟨by omega, by rw [← HEV.out]; exact h, by omega⟩))
                                          obtain ⟨bn', hbn⟩ : ∃ bn' : Nat, r.b = bn' := ⟨r.b.toNat, by omega⟩
                                          obtain ⟨cn, hcn⟩ : ∃ cn : Nat, r.c = cn := ⟨r.c.toNat, by omega⟩
                                          have HBN := Lib.hid hbn
                                          have HCN := Lib.hid hcn
                                          have HNXT := Lib.hid (endAt_next HRR.out)
                                          have HNXL := Lib.hid (lastOf_next HRR.out)
                                          have HMNX := Lib.hid (maint.next HRR.out)
                                          rw [hbn] at q1
                                          rw [hcn] at q2
                                          rw [hbn] at q3x q4x q8x q7x
                                          rw [hcn] at q5x q6x q7x
                                          have hfb : (bn' : Int) < (F : Int) := by omega
                                          have HFB := Lib.hid (show bn' < F from by omega)
                                          have hbc : bn' + cn ≤ F := by omega
                                          go_upto_region 19 with (fail)
                                          have HWc := Lib.hid (HWr.out.alloc (.cells #[.int .i64 r.a, .int .i64 (bn' : Int), .int .i64 (cn : Int)] 75))
                                          have hbx := Blk.new wr 75 [.int .i64 r.a, .int .i64 (bn' : Int), .int .i64 (cn : Int)]
                                          have hsc : wr.heap.size < (wr.alloc (.cells #[.int .i64 r.a, .int .i64 (bn' : Int), .int .i64 (cn : Int)] 75)).heap.size := by simp
                                          obtain ⟨wc, hwc⟩ : ∃ wc, wc = wr.alloc (.cells #[.int .i64 r.a, .int .i64 (bn' : Int), .int .i64 (cn : Int)] 75) := ⟨_, rfl⟩
                                          have hbx' : Blk wc wr.heap.size 75 [.int .i64 r.a, .int .i64 (bn' : Int), .int .i64 (cn : Int)] := by rw [hwc]; exact hbx
                                          rw [← hwc] at HWc hsc ⊢
                                          clear hwc hbx z0 z1 z2 z3 z4 q0 q1 q2
                                          obtain ⟨gw, hgw⟩ : ∃ gw, gw = wr.heap.size := ⟨_, rfl⟩
                                          rw [← hgw] at hbx' hsc hszU hb' ⊢
                                          have HGW := Lib.hid hgw
                                          clear hgw
                                          have HBX := Lib.hid hbx'
                                          have p0 := hbx'.cell (i := 0) (v := .int .i64 r.a) rfl
                                          have p1 := hbx'.cell (i := 1) (v := .int .i64 (bn' : Int)) rfl
                                          have p2 := hbx'.cell (i := 2) (v := .int .i64 (cn : Int)) rfl
                                          clear hbx'
                                          by_cases hE : ev ≤ (bn' : Int)
                                          · have HE := Lib.hid hE
                                            have HWK := Lib.hid (HWO.out (by rw [HBN.out]; exact hE))
                                            go_wp2_with fail
                                            clear p0 p1 p2
                                            go_loopw [11] (fun x wr => ∃ (q : Nat) (U' : List Bool), x = .int .i64 (q : Int) ∧ bn' ≤ q ∧ q ≤ bn' + cn ∧ Hid (U'.length = F) ∧ Hid (∀ x : Nat, U'.getD x false = true ↔ U.getD x false = true ∨ (bn' ≤ x ∧ x < q)) ∧ Hid (WS w ⟨(F : Int), A1, n1, c1, P, some ⟨b', o, none⟩, n2, c2, W, A3, n3, c3, C, tr⟩ gU U' wr) ∧ Hid (Blk wr gw 75 [.int .i64 r.a, .int .i64 (bn' : Int), .int .i64 (cn : Int)])) (fun x _ => bn' + cn - (intOf x).toNat)
                                            case atStart => exact ⟨bn', U, rfl, Nat.le_refl _, by omega, Lib.hid HUS.out.len, Lib.hid (fun x => ⟨.inl, fun h => by
                                              rcases h with h | h
                                              · exact h
                                              · omega⟩), HWc, HBX⟩
                                            case round =>
                                              obtain ⟨q, U', rfl, hq0, hq1, HUL, HUX, HWq, HBq⟩ := hrel
                                              have p1 := HBq.out.cell (i := 1) (v := .int .i64 (bn' : Int)) rfl
                                              have p2 := HBq.out.cell (i := 2) (v := .int .i64 (cn : Int)) rfl
                                              have p0 := HBq.out.cell (i := 0) (v := .int .i64 r.a) rfl
                                              by_cases hqt : q < bn' + cn
                                              · have hqF : q < F := by omega
                                                have hqFi : (q : Int) < (F : Int) := by omega
                                                have hq0i : (0 : Int) ≤ (q : Int) := by omega
                                                have u0 := HWq.out.at_ (k := q) (by rw [HUL.out]; exact hqF)
                                                have huf : U'.getD q false = false := by
                                                  rw [Bool.eq_false_iff]
                                                  intro h
                                                  rcases (HUX.out q).1 h with h1 | h1
                                                  · have := HUS.out.below q h1; have := HEV.out; have := HE.out; omega
                                                  · omega
                                                rw [huf] at u0
                                                have f0 := HWq.out.ub.frozen q
                                                have HUN := Lib.hid (HWq.out.set q true)
                                                have HUXN := Lib.hid (fun x => getD_set_true U' q (by rw [HUL.out]; exact hqF) x)
                                                have HBN2 := Lib.hid (HBq.out.far (p := ⟨gU, q, none⟩) (by show gw ≠ gU; omega) (.bool true))
                                                clear huf
                                                go_wp2_with fail
                                                go_roundw
                                                case rel => exact ⟨q + 1, U'.set q true, by go_num, by omega, by omega, Lib.hid (by simpa using HUL.out), Lib.hid (fun x => by
                                                  rw [HUXN.out x, HUX.out x]
                                                  constructor
                                                  · rintro ((h | h) | h)
                                                    · exact .inl h
                                                    · exact .inr (by omega)
                                                    · exact .inr (by omega)
                                                  · rintro (h | h)
                                                    · exact .inl (.inl h)
                                                    · by_cases hx : x = q
                                                      · exact .inr hx
                                                      · exact .inl (.inr (by omega))), HUN, HBN2⟩
                                                case measure => simp [intOf]; omega
                                              · obtain rfl : bn' + cn = q := by omega
                                                have HUSN := Lib.hid (HUS.out.next HRR.out HUL.out (by rw [← HEV.out, HBN.out]; exact HE.out) (by rw [HCN.out]; omega) (fun x => by
                                                  rw [HUX.out x, HBN.out, HCN.out]
                                                  constructor
                                                  · rintro (h | h)
                                                    · exact .inl h
                                                    · exact .inr (by omega)
                                                  · rintro (h | h)
                                                    · exact .inl h
                                                    · exact .inr (by omega)))
                                                cases mb
                                                · by_cases ha : r.a = 0
                                                  · have ha' : (r.a == 0) = true := by simpa using ha
                                                    have HA := Lib.hid ha
                                                    clear ha
                                                    go_wp2_with fail
                                                    go_roundw
                                                    case rel => exact ⟨k + 1, (bn' : Int), (bn' : Int) + (cn : Int), true, U', by omega, by go_num, rfl, rfl, Lib.hid (by rw [HNXL.out, HBN.out]), Lib.hid (by rw [HNXT.out, HBN.out, HCN.out]), by omega, by omega, by omega, by omega, Lib.hid ⟨fun _ => HMNX.out.2 (.inr HA.out), fun _ => rfl⟩, Lib.hid (HUP.out.next HRR.out HWK.out), HUSN, HWq⟩
                                                    case measure => simp [intOf]; omega
                                                  · have ha' : (r.a == 0) = false := by simpa using ha
                                                    have HA := Lib.hid ha
                                                    clear ha
                                                    go_wp2_with fail
                                                    go_roundw
                                                    case rel => exact ⟨k + 1, (bn' : Int), (bn' : Int) + (cn : Int), false, U', by omega, by go_num, rfl, rfl, Lib.hid (by rw [HNXL.out, HBN.out]), Lib.hid (by rw [HNXT.out, HBN.out, HCN.out]), by omega, by omega, by omega, by omega, Lib.hid ⟨fun h => (by cases h), fun h => by
                                                      rcases HMNX.out.1 h with h | h
                                                      · exact HMT.out.2 h
                                                      · exact absurd h HA.out⟩, Lib.hid (HUP.out.next HRR.out HWK.out), HUSN, HWq⟩
                                                    case measure => simp [intOf]; omega
                                                · go_wp2_with fail
                                                  go_roundw
                                                  case rel => exact ⟨k + 1, (bn' : Int), (bn' : Int) + (cn : Int), true, U', by omega, by go_num, rfl, rfl, Lib.hid (by rw [HNXL.out, HBN.out]), Lib.hid (by rw [HNXT.out, HBN.out, HCN.out]), by omega, by omega, by omega, by omega, Lib.hid ⟨fun _ => HMNX.out.2 (.inl (HMT.out.1 (by first | trivial | rfl))), fun _ => rfl⟩, Lib.hid (HUP.out.next HRR.out HWK.out), HUSN, HWq⟩
                                                  case measure => simp [intOf]; omega
                                          · have hbf := Lib.hid (HNW.out (fun h => by have h2 := h.2.1; have h4 := HEV.out; have := HBN.out; omega))
                                            have u0 := HWc.out.at_ (k := bn') (by rw [HUS.out.len]; exact HFB.out)
                                            have hut : U.getD bn' false = true := by
                                              refine HUS.out.last bn' ?_ (by rw [← HLV.out]; omega) (by rw [← HEV.out]; omega)
                                              rcases Nat.eq_zero_or_pos k with hk0 | hk0
                                              · have h4 := HEV.out
                                                rw [hk0] at h4
                                                simp [endAt] at h4
                                                omega
                                              · exact hk0
                                            rw [hut] at u0
                                            have hq0i : (0 : Int) ≤ (bn' : Int) := by omega
                                            clear hut
                                            go_wp2_with fail
                                            go_loopw [11] (fun x wr => x = .int .i64 (bn' : Int) ∧ wc = wr) (fun _ _ => 0)
                                            case atStart => exact ⟨rfl, rfl⟩
                                            case round =>
                                              obtain ⟨rfl, rfl⟩ := hrel
                                              go_wp2_with fail
                                              go_ret
                                              exact ⟨by rw [hbf.out]; rfl, HWc.out.bx.bel⟩
                        · obtain rfl : n2 = k := by omega
                          have HWP := Lib.hid (show (∀ (k : Nat) (r : Tri), W[k]? = some r → WinOk n1 (F : Int) W k r) from by have h := HUP.out; rw [← HL2.out] at h; exact h.all)
                          have HMW := Lib.hid (show mb = true ↔ ∃ (k : Nat) (r : Tri), W[k]? = some r ∧ r.a = 0 from by
                            rw [HMT.out]
                            exact ⟨fun ⟨j, r, _, hr, ha⟩ => ⟨j, r, hr, ha⟩, fun ⟨j, r, hr, ha⟩ => ⟨j, r, by have := (List.getElem?_eq_some_iff.1 hr).1; have := HL2.out; omega, hr, ha⟩⟩)
                          have HXC := Lib.hid (HWr.out.bx)
                          clear hsz hszU
                          go_wp2_with fail
                          clear z0 z1 z2 z3 z4
                          go_loopw [12] (fun i wr => ∃ k : Nat, k ≤ n3 ∧ i = .int .i64 k ∧ Hid (upto (fun _ => ChanOk n1) C k) ∧ Hid (Bx w ⟨(F : Int), A1, n1, c1, P, A2, n2, c2, W, A3, n3, c3, C, tr⟩ wr)) (fun i _ => n3 - (intOf i).toNat)
                          case atStart => exact ⟨0, Nat.zero_le _, rfl, Lib.hid upto.zero, HXC⟩
                          case round =>
                            obtain ⟨k, hk, rfl, HU3, HX3⟩ := hrel
                            have hsz := HX3.out.sz
                            obtain ⟨z0, z1, z2, z3, z4⟩ := HX3.out.cell
                            dsimp only at z0 z1 z2 z3 z4
                            by_cases hlt : k < n3
                            · obtain ⟨r, b', o, hr, hok, hA, hb', q0, q1, q2⟩ := (HO.out.below HX3.out.bel).C.at_ hlt
                              dsimp only at hr hA
                              subst hA
                              have HNC := Lib.hid (fun hp : ¬ ChanOk n1 r => HF.out _ (fun h => (show ChanOk n1 r from (HB.out.1 h).2.2.2.2.2 k r hr)) hp)
                              have HRR := Lib.hid hr
                              obtain ⟨oa0, oa1, ob0, ob1, oc0, oc1⟩ := hok
                              clear hr
                              by_cases d1 : r.a < 0
                              · skip
                                have hbf := Lib.hid (HNC.out (fun h => by have h1 := h.1; have h2 := h.2.1; have h3 := h.2.2.1; have h4 := h.2.2.2; omega))
                                go_wp2
                                go_ret
                                exact ⟨by rw [hbf.out]; rfl, (HX3.out.alloc _).bel⟩
                              · skip
                                by_cases d2 : (n1 : Int) ≤ r.a
                                · skip
                                  have hbf := Lib.hid (HNC.out (fun h => by have h1 := h.1; have h2 := h.2.1; have h3 := h.2.2.1; have h4 := h.2.2.2; omega))
                                  go_wp2
                                  go_ret
                                  exact ⟨by rw [hbf.out]; rfl, (HX3.out.alloc _).bel⟩
                                · skip
                                  by_cases d3 : r.b < 0
                                  · skip
                                    have hbf := Lib.hid (HNC.out (fun h => by have h1 := h.1; have h2 := h.2.1; have h3 := h.2.2.1; have h4 := h.2.2.2; omega))
                                    go_wp2
                                    go_ret
                                    exact ⟨by rw [hbf.out]; rfl, (HX3.out.alloc _).bel⟩
                                  · skip
                                    by_cases d4 : (n1 : Int) ≤ r.b
                                    · skip
                                      have hbf := Lib.hid (HNC.out (fun h => by have h1 := h.1; have h2 := h.2.1; have h3 := h.2.2.1; have h4 := h.2.2.2; omega))
                                      go_wp2
                                      go_ret
                                      exact ⟨by rw [hbf.out]; rfl, (HX3.out.alloc _).bel⟩
                                    · skip
                                      by_cases d5 : r.a = r.b
                                      · have d5' : (r.a == r.b) = true := by simpa using d5
                                        have d5H := Lib.hid d5
                                        clear d5
                                        have hbf := Lib.hid (HNC.out (fun h => by have h1 := h.1; have h2 := h.2.1; have h3 := h.2.2.1; have h4 := h.2.2.2; exact h3 d5H.out))
                                        go_wp2
                                        go_ret
                                        exact ⟨by rw [hbf.out]; rfl, (HX3.out.alloc _).bel⟩
                                      · have d5' : (r.a == r.b) = false := by simpa using d5
                                        have d5H := Lib.hid d5
                                        clear d5
                                        by_cases d6 : r.c < 0
                                        · skip
                                          have hbf := Lib.hid (HNC.out (fun h => by have h1 := h.1; have h2 := h.2.1; have h3 := h.2.2.1; have h4 := h.2.2.2; omega))
                                          go_wp2
                                          go_ret
                                          exact ⟨by rw [hbf.out]; rfl, (HX3.out.alloc _).bel⟩
                                        · skip
                                          by_cases d7 : 4 < r.c
                                          · skip
                                            have hbf := Lib.hid (HNC.out (fun h => by have h1 := h.1; have h2 := h.2.1; have h3 := h.2.2.1; have h4 := h.2.2.2; omega))
                                            go_wp2
                                            go_ret
                                            exact ⟨by rw [hbf.out]; rfl, (HX3.out.alloc _).bel⟩
                                          · skip
                                            go_wp2
                                            go_roundw
                                            case rel => exact ⟨k + 1, by omega, by go_num, Lib.hid (HU3.out.next HRR.out (show ChanOk n1 r from ⟨by omega, by omega, d5H.out, by omega⟩)), Lib.hid (HX3.out.alloc _)⟩
                                            case measure => simp [intOf]; omega
                            · obtain rfl : n3 = k := by omega
                              have HCO := Lib.hid (show ChansOk n1 C from ⟨by have := HL3.out; omega, by have h := HU3.out; rw [← HL3.out] at h; exact h.all⟩)
                              have hbm := Lib.hid (show b = mb from by
                                rw [Bool.eq_iff_iff, HB.out, HMW.out]
                                exact ⟨fun h => h.2.2.2.1.2.2, fun h => ⟨⟨by omega, by omega⟩, ⟨by omega, by omega⟩, HPO.out, ⟨by have := HL2.out; omega, HWP.out, h⟩, HCO.out⟩⟩)
                              go_wp2
                              go_ret
                              exact ⟨by rw [hbm.out]; rfl, HX3.out.bel⟩
end Go.Proofs.Ytogkdnjdcfffaaa.TabK
