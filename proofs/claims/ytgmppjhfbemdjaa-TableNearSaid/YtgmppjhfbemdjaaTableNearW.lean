/- The walk of TableNear. No conditions. -/
import Derived.Test.YtgmppjhfbemdjaaTabG
import Derived.Deep.RegionHeld3
namespace Go.Proofs.Ytgmppjhfbemdjaa.TableNearW
open Go.RowKit Go.Proofs.Ytgmppjhfbemdjaa.Kit Go.Proofs.Ytgmppjhfbemdjaa.Byt Go.Proofs.Ytgmppjhfbemdjaa.Mem Go.Proofs.Ytgmppjhfbemdjaa.TabA Go.Proofs.Ytgmppjhfbemdjaa.TabB Go.Proofs.Ytgmppjhfbemdjaa.TabC Go.Proofs.Ytgmppjhfbemdjaa.TabD Go.Proofs.Ytgmppjhfbemdjaa.TabE Go.Proofs.Ytgmppjhfbemdjaa.TabF Go.Proofs.Ytgmppjhfbemdjaa.TabG

set_option maxRecDepth 100000 in
set_option maxHeartbeats 6400000 in
theorem core (t : Ta) (q : Nat) (hq : q < 256) (w : World) (h : t.ok w) : Calls Try.prog 7 #[t.val, .int .u8 (q : Int)] w (Yes w true) := by
  obtain ⟨bl, hbl⟩ := bool_of (huge t)
  obtain ⟨br, hbr⟩ := bool_of (right t)
  have HL := Lib.hid (fun w' (hb : Below w.heap.size w w') => long_any t w' (h.below hb) bl hbl)
  have HR := Lib.hid (fun w' (hb : Below w.heap.size w w') => right_any t w' (h.below hb) br hbr)
  have HBR := Lib.hid hbr
  have HX := Lib.hid (Bx.new w t)
  have HRT := Lib.hid (show right t → 1 ≤ t.fr ∧ t.fr ≤ 64 ∧ t.n1 ≤ 4 ∧ t.P.length = t.n1 ∧ t.n2 ≤ 8 ∧ 0 < t.n2 ∧ t.n3 ≤ 4 from fun hr => ⟨hr.1.1, hr.1.2, by rw [← h.P.1]; exact hr.2.2.1.1.2, h.P.1, by rw [← h.W.1]; exact hr.2.2.2.1.1, by
    obtain ⟨k, r, hk, _⟩ := hr.2.2.2.1.2.2
    have := (List.getElem?_eq_some_iff.1 hk).1
    rw [← h.W.1]; omega, by rw [← h.C.1]; exact hr.2.2.2.2.1⟩)
  have HO := Lib.hid h
  clear hbl hbr h
  obtain ⟨fr, A1, n1, c1, P, A2, n2, c2, W, A3, n3, c3, C, tr⟩ := t
  show Calls _ _ #[.agg #[.int .i64 fr, .slice A1 n1 c1, .slice A2 n2 c2, .slice A3 n3 c3, .int .i64 tr], .int .u8 (q : Int)] w _
  go_enter Try.func7, Try.ntmps7
  go_wp2_with fail
  refine (wakes_any _).mono ?_
  rintro e w1 ⟨rfl, hb1⟩
  have HX1 := Lib.hid (HX.out.step hb1)
  clear hb1
  obtain ⟨y0, y1, y2, y3, y4⟩ := HX1.out.cell
  dsimp only at y0 y1 y2 y3 y4
  go_wp2_with fail
  refine (HL.out _ HX1.out.bel).mono ?_
  rintro e w2 ⟨rfl, hb2⟩
  have HX2 := Lib.hid (HX1.out.step hb2)
  clear hb2 y0 y1 y2 y3 y4 HX1
  obtain ⟨y0, y1, y2, y3, y4⟩ := HX2.out.cell
  dsimp only at y0 y1 y2 y3 y4
  cases bl
  · go_wp2_with fail
    refine (HR.out _ HX2.out.bel).mono ?_
    rintro e w3 ⟨rfl, hb3⟩
    have HX3 := Lib.hid (HX2.out.step hb3)
    clear hb3 y0 y1 y2 y3 y4 HX2
    obtain ⟨y0, y1, y2, y3, y4⟩ := HX3.out.cell
    have hsz := HX3.out.sz
    dsimp only at y0 y1 y2 y3 y4
    cases br
    · go_wp2
      go_ret
      exact ⟨rfl, HX3.out.bel⟩
    · have HT := Lib.hid (HBR.out.1 rfl)
      clear HBR
      obtain ⟨f0, f1, hn1, hPL, hn2, hn20, hn3⟩ := HRT.out HT.out
      have HPL := Lib.hid hPL
      clear hPL
      have HXc := Lib.hid (At2.new HX3.out HO.out)
      dsimp only [Ta.cells] at HXc
      have hsz := HX3.out.sz
      go_upto_if 24 with (fail)
      obtain ⟨gx, hgx⟩ : ∃ gx, gx = w3.heap.size := ⟨_, rfl⟩
      obtain ⟨wa, hwa⟩ : ∃ wa, wa = w3.alloc (.cells #[.int .i64 fr, .slice A1 n1 c1, .slice A2 n2 c2, .slice A3 n3 c3, .int .i64 tr] 26) := ⟨_, rfl⟩
      rw [← hgx, ← hwa] at HXc
      rw [← hgx, ← hwa]
      clear hwa y0 y1 y2 y3 y4 hsz
      rw [← hgx] at *
      clear hgx HX3
      go_cut [] (fun wx => ∃ A' n' c' C', Hid (At2 w ⟨fr, A1, n1, c1, P, A2, n2, c2, W, A3, n3, c3, C, tr⟩ gx ⟨fr, A1, n1, c1, P, A2, n2, c2, W, A', n', c', C', tr⟩ wx) ∧ Hid (TOk fr tr P W C'))
      case first =>
        by_cases h30 : 0 < n3
        · obtain ⟨y0, y1, y2, y3, y4⟩ := HXc.out.bx.cell
          dsimp only at y0 y1 y2 y3 y4
          obtain ⟨b3, b3o, hA, _⟩ := HO.out.C.2.2.2.2 h30
          dsimp only at hA
          subst hA
          obtain ⟨i, hi⟩ : ∃ i : Nat, i = q % n3 := ⟨_, rfl⟩
          have hil : i < n3 := by rw [hi]; exact Nat.mod_lt _ h30
          have him : (q : Int) % (n3 : Int) = (i : Int) := by rw [hi]; omega
          have hn30 : ¬ (n3 : Int) = 0 := by omega
          clear hi
          go_wp2_with fail
          clear him hn30
          obtain ⟨ic, hic, hiz, his, hib⟩ := info_of info_chan
          have HCL := Lib.hid (show C.length = n3 from HO.out.C.1)
          have hcc : n3 ≤ c3 := HO.out.C.2.1
          obtain ⟨Q, hQ⟩ : ∃ Q, Q = i + 1 := ⟨_, rfl⟩
          obtain ⟨ad, had, hAD⟩ := rest_at (b := b3) (o := b3o) (n := n3) (c := c3) (Q := Q) (R := C) (by omega) hcc
          have HAD := Lib.hid hAD
          clear hAD
          have s0 : IntKind.i64.wrap ((i : Int) + 1) = (Q : Int) := by rw [IntKind.wrap_i64]; omega
          have s1 : (Q : Int) ≤ (n3 : Int) := by omega
          have s2 : (i : Int) ≤ (c3 : Int) := by omega
          have s3 : Q ≤ n3 := by omega
          have s4 : i ≤ c3 := by omega
          have HQ := Lib.hid hQ
          clear hQ
          have HCD := Lib.hid (show Tris wa (some ⟨b3, b3o, none⟩) n3 c3 C from (HO.out.below HXc.out.bx.bel).C)
          have hws : w.heap.size < wa.heap.size := HXc.out.bx.sz
          have hgw : gx < wa.heap.size := HXc.out.xb.lt
          have hlo := HXc.out.lo
          go_region_held3 (fun w' => w'.cell? ⟨w.heap.size, 3, none⟩ = some (.slice (some ⟨b3, b3o, none⟩) n3 c3))
            (first | go_keep | assumption | exact (((Below.refl gx w6).setCell (Nat.le_refl _) _).cell (p := ⟨w.heap.size, 3, none⟩) hlo).trans k6)
            (first
             | (rw [if_pos (by rfl)]; refine wp_append_at (.tmp 31) (.tmp 35) 24 rfl wa.heap.size 51 ic _ 3 24 Try.underlying24 hic hiz his hib rfl (by omega) _ 0 [] rfl (emptied3 wa.drew _ wa.heap.size (Nat.le_refl _)) ⟨b3, b3o, none⟩ i c3 (tcells (C.take i)) rfl (by rw [tcells_len]; have := HCL.out; simp; omega) (Tris.first ((HCD.out.below ((Below.refl wa.heap.size wa).drew)).below ((Below.refl _ _).alloc (Nat.le_refl _) _)) i) (tcells_one _) (by unfold maxLen; omega) (by omega) (by simp) ?_; intro A5 n5 k5' w5 hn5 hown5 hg5 hat5; have hb5 : Below wa.heap.size wa w5 := (((Below.refl wa.heap.size wa).drew).alloc (Nat.le_refl _) _).grown hg5 (by simp) (fun k hk => by have := (emptied3 wa.drew 51 wa.heap.size (Nat.le_refl _)).lt k hk; omega); have HB5 := Lib.hid hb5; have k5 : w5.cell? ⟨w.heap.size, 3, none⟩ = some (.slice (some ⟨b3, b3o, none⟩) n3 c3) := (hb5.cell (p := ⟨w.heap.size, 3, none⟩) hws).trans y3; clear hb5 hg5 hat5)
             | (rw [if_pos (by rfl)]; refine wp_append_at (.tmp 36) (.tmp 41) 24 rfl wa.heap.size 51 ic _ 3 24 Try.underlying24 hic hiz his hib rfl (by omega) _ n5 _ rfl hown5.out ad (n3 - Q) (c3 - Q) (tcells (C.drop Q)) rfl (by rw [tcells_len]; have := HCL.out; simp; omega) (HAD.out _ (HCD.out.below HB5.out)) (tcells_one _) (by have := hn5.out; unfold maxLen; omega) (by have := hn5.out; omega) HB5.out.size ?_; intro A6 n6 k6' w6 hn6 hown6 hg6 hat6; have hb6 : Below wa.heap.size wa w6 := HB5.out.grown hg6 HB5.out.size (fun k hk => by have := hown5.out.lt k hk; omega); have HB6 := Lib.hid hb6; have k6 : w6.cell? ⟨w.heap.size, 3, none⟩ = some (.slice (some ⟨b3, b3o, none⟩) n3 c3) := (hb6.cell (p := ⟨w.heap.size, 3, none⟩) hws).trans y3; have f6 := (HXc.out.step hb6).xb.frozen 3; have c6 := (HXc.out.step hb6).cell.2.2.2.1; dsimp only at c6; clear hb6 hg6 hat6 k5))
          have HN := Lib.hid (At2.putC HXc.out HB6.out (R := out C i) (by have h := hown6.out; rw [List.nil_append, ← tcells_app] at h; rw [out, ← HQ.out]; exact h) (out_ok HO.out.C.2.2.2.1 i))
          dsimp only at HN
          have HTN := Lib.hid (show TOk fr tr P W (out C i) from ⟨HT.out.1, HT.out.2.1, HT.out.2.2.1, HT.out.2.2.2.1, out_chans (by rw [HCL.out]; exact hil) HT.out.2.2.2.2⟩)
          clear c6 f6 k6 hown6 hn6 HB6 hown5 hn5 HB5 HCD HAD had y0 y1 y2 y3 y4 s0 s1 s2 s3 s4 hws hgw hlo
          obtain ⟨wb, hwb⟩ : ∃ wb, wb = w6.setCell ⟨gx, 3, none⟩ (.slice A6 n6 k6') := ⟨_, rfl⟩
          rw [← hwb] at HN ⊢
          clear hwb
          obtain ⟨y0, y1, y2, y3, y4⟩ := HN.out.cell
          dsimp only at y0 y1 y2 y3 y4
          go_wp2_with fail
          refine (right_any _ _ HN.out.xok true ⟨fun _ => HTN.out, fun _ => rfl⟩).mono ?_
          rintro e w8 ⟨rfl, hb8⟩
          have HN8 := Lib.hid (HN.out.step hb8)
          clear hb8
          go_wp2_with fail
          go_meet
          exact ⟨A6, n6, k6', out C i, HN8, HTN⟩
        · go_wp2
          go_meet
          exact ⟨A3, n3, c3, C, HXc, HT⟩
      case rest =>
        obtain ⟨A', n', c', C', HY, HTY⟩ := hcut
        clear HXc
        obtain ⟨wa, rfl⟩ : ∃ wa, wa = wc := ⟨_, rfl⟩
        obtain ⟨y0, y1, y2, y3, y4⟩ := HY.out.bx.cell
        dsimp only at y0 y1 y2 y3 y4
        obtain ⟨b2, b2o, hA, _⟩ := HO.out.W.2.2.2.2 hn20
        dsimp only at hA
        subst hA
        obtain ⟨i, hi⟩ : ∃ i : Nat, i = q % n2 := ⟨_, rfl⟩
        have hil : i < n2 := by rw [hi]; exact Nat.mod_lt _ hn20
        have him : (q : Int) % (n2 : Int) = (i : Int) := by rw [hi]; omega
        have hn30 : ¬ (n2 : Int) = 0 := by omega
        clear hi
        go_upto_region 12 with (fail)
        try simp only [him]
        clear him hn30
        go_cut [] (fun wx => ∃ A6 n6 k6, Hid (At2 w ⟨fr, A1, n1, c1, P, some ⟨b2, b2o, none⟩, n2, c2, W, A3, n3, c3, C, tr⟩ gx ⟨fr, A1, n1, c1, P, A6, n6, k6, out W i, A', n', c', C', tr⟩ wx))
        case first =>
          obtain ⟨ic, hic, hiz, his, hib⟩ := info_of info_win
          have HCL := Lib.hid (show W.length = n2 from HO.out.W.1)
          have hcc : n2 ≤ c2 := HO.out.W.2.1
          obtain ⟨Q, hQ⟩ : ∃ Q, Q = i + 1 := ⟨_, rfl⟩
          obtain ⟨ad, had, hAD⟩ := rest_at (b := b2) (o := b2o) (n := n2) (c := c2) (Q := Q) (R := W) (by omega) hcc
          have HAD := Lib.hid hAD
          clear hAD
          have s0 : IntKind.i64.wrap ((i : Int) + 1) = (Q : Int) := by rw [IntKind.wrap_i64]; omega
          have s1 : (Q : Int) ≤ (n2 : Int) := by omega
          have s2 : (i : Int) ≤ (c2 : Int) := by omega
          have s3 : Q ≤ n2 := by omega
          have s4 : i ≤ c2 := by omega
          have HQ := Lib.hid hQ
          clear hQ
          have HCD := Lib.hid (show Tris wa (some ⟨b2, b2o, none⟩) n2 c2 W from (HO.out.below HY.out.bx.bel).W)
          have hws : w.heap.size < wa.heap.size := HY.out.bx.sz
          have hgw : gx < wa.heap.size := HY.out.xb.lt
          have hlo := HY.out.lo
          go_region_held3 (fun w' => w'.cell? ⟨w.heap.size, 2, none⟩ = some (.slice (some ⟨b2, b2o, none⟩) n2 c2))
            (first | go_keep | assumption | exact (((Below.refl gx w6).setCell (Nat.le_refl _) _).cell (p := ⟨w.heap.size, 2, none⟩) hlo).trans k6)
            (first
             | (rw [if_pos (by rfl)]; refine wp_append_at (.tmp 53) (.tmp 57) 23 rfl wa.heap.size 46 ic _ 3 24 Try.underlying23 hic hiz his hib rfl (by omega) _ 0 [] rfl (emptied3 wa.drew _ wa.heap.size (Nat.le_refl _)) ⟨b2, b2o, none⟩ i c2 (tcells (W.take i)) rfl (by rw [tcells_len]; have := HCL.out; simp; omega) (Tris.first ((HCD.out.below ((Below.refl wa.heap.size wa).drew)).below ((Below.refl _ _).alloc (Nat.le_refl _) _)) i) (tcells_one _) (by unfold maxLen; omega) (by omega) (by simp) ?_; intro A5 n5 k5' w5 hn5 hown5 hg5 hat5; have hb5 : Below wa.heap.size wa w5 := (((Below.refl wa.heap.size wa).drew).alloc (Nat.le_refl _) _).grown hg5 (by simp) (fun k hk => by have := (emptied3 wa.drew 46 wa.heap.size (Nat.le_refl _)).lt k hk; omega); have HB5 := Lib.hid hb5; have k5 : w5.cell? ⟨w.heap.size, 2, none⟩ = some (.slice (some ⟨b2, b2o, none⟩) n2 c2) := (hb5.cell (p := ⟨w.heap.size, 2, none⟩) hws).trans y2; clear hb5 hg5 hat5)
             | (rw [if_pos (by rfl)]; refine wp_append_at (.tmp 58) (.tmp 63) 23 rfl wa.heap.size 46 ic _ 3 24 Try.underlying23 hic hiz his hib rfl (by omega) _ n5 _ rfl hown5.out ad (n2 - Q) (c2 - Q) (tcells (W.drop Q)) rfl (by rw [tcells_len]; have := HCL.out; simp; omega) (HAD.out _ (HCD.out.below HB5.out)) (tcells_one _) (by have := hn5.out; unfold maxLen; omega) (by have := hn5.out; omega) HB5.out.size ?_; intro A6 n6 k6' w6 hn6 hown6 hg6 hat6; have hb6 : Below wa.heap.size wa w6 := HB5.out.grown hg6 HB5.out.size (fun k hk => by have := hown5.out.lt k hk; omega); have HB6 := Lib.hid hb6; have k6 : w6.cell? ⟨w.heap.size, 2, none⟩ = some (.slice (some ⟨b2, b2o, none⟩) n2 c2) := (hb6.cell (p := ⟨w.heap.size, 2, none⟩) hws).trans y2; have f6 := (HY.out.step hb6).xb.frozen 2; have c6 := (HY.out.step hb6).cell.2.2.1; dsimp only at c6; clear hb6 hg6 hat6 k5))
          have HN := Lib.hid (At2.putW HY.out HB6.out (R := out W i) (by have h := hown6.out; rw [List.nil_append, ← tcells_app] at h; rw [out, ← HQ.out]; exact h) (out_ok HO.out.W.2.2.2.1 i))
          dsimp only at HN
          clear c6 f6 k6 hown6 hn6 HB6 hown5 hn5 HB5 HCD HAD had y0 y1 y2 y3 y4 s0 s1 s2 s3 s4 hws hgw hlo
          go_wp2_with fail
          go_meet
          exact ⟨A6, n6, k6', HN⟩
        case rest =>
          obtain ⟨A6, n6, k6, HN⟩ := hcut
          clear HY y0 y1 y2 y3 y4
          have HVL := Lib.hid (show (out W i).length = n6 from HN.out.xok.W.1)
          have HOL := Lib.hid (out_len (show i < W.length from by have := HO.out.W.1; dsimp only at this; omega))
          have HWL := Lib.hid (show W.length = n2 from HO.out.W.1)
          have hn6 : n6 ≤ 8 := by have := HVL.out; have := HOL.out; have := HWL.out; omega
          have HWV := Lib.hid (out_wins (show i < W.length from by have := HWL.out; omega) HT.out.2.2.2.1.2.1)
          obtain ⟨V, hV⟩ : ∃ V, V = out W i := ⟨_, rfl⟩
          rw [← hV] at HN HVL HWV
          have HRX := Lib.hid (show TOk fr tr P V C' ↔ maint V n6 from ⟨fun h => by
            obtain ⟨k, r, hr, ha⟩ := h.2.2.2.1.2.2
            exact ⟨k, r, by have := (List.getElem?_eq_some_iff.1 hr).1; have := HVL.out; omega, hr, ha⟩, fun ⟨k, r, _, hr, ha⟩ => ⟨HTY.out.1, HTY.out.2.1, HTY.out.2.2.1, ⟨by have := HVL.out; omega, HWV.out, k, r, hr, ha⟩, HTY.out.2.2.2.2⟩⟩)
          clear hV
          obtain ⟨wa, rfl⟩ : ∃ wa, wa = wc := ⟨_, rfl⟩
          obtain ⟨x0, x1, x2, x3, x4⟩ := HN.out.cell
          dsimp only at x0 x1 x2 x3 x4
          go_wp2_with fail
          clear x0 x1 x2 x3 x4
          go_loopw [8, 69] (fun s i wr => ∃ (k : Nat) (ov : Int), k ≤ n6 ∧ i = .int .i64 k ∧ s = .int .i64 ov ∧ 0 ≤ ov ∧ ov ≤ (k : Int) ∧ Hid (0 < ov ↔ maint V k) ∧ Hid (At2 w ⟨fr, A1, n1, c1, P, some ⟨b2, b2o, none⟩, n2, c2, W, A3, n3, c3, C, tr⟩ gx ⟨fr, A1, n1, c1, P, A6, n6, k6, V, A', n', c', C', tr⟩ wr)) (fun _ i _ => n6 - (intOf i).toNat)
          case atStart => exact ⟨0, 0, Nat.zero_le _, rfl, rfl, by omega, by omega, Lib.hid ⟨fun h => by omega, fun ⟨_, _, h, _⟩ => by omega⟩, HN⟩
          case round =>
            obtain ⟨k, ov, hk, rfl, rfl, o0, o1, HM, HNr⟩ := hrel
            have hszr := HNr.out.xb.lt
            obtain ⟨x0, x1, x2, x3, x4⟩ := HNr.out.cell
            dsimp only at x0 x1 x2 x3 x4
            by_cases hlt : k < n6
            · obtain ⟨r, bb, o, hr, hok, hA, hbl, q0, q1, q2⟩ := HNr.out.xok.W.at_ hlt
              dsimp only at hA hr
              subst hA
              have HMN := Lib.hid (maint.next hr)
              clear hr hok
              by_cases ha : r.a = 0
              · have ha' : (r.a == 0) = true := by simpa using ha
                have HA := Lib.hid ha
                clear ha
                go_wp2
                go_roundw
                case rel => exact ⟨k + 1, ov + 1, by omega, by go_num, rfl, by omega, by omega, Lib.hid ⟨fun _ => HMN.out.2 (.inr HA.out), fun _ => by omega⟩, Lib.hid (HNr.out.step ((Below.refl _ _).alloc (Nat.le_refl _) _))⟩
                case measure => simp [intOf]; omega
              · have ha' : (r.a == 0) = false := by simpa using ha
                have HA := Lib.hid ha
                clear ha
                go_wp2
                go_roundw
                case rel => exact ⟨k + 1, ov, by omega, by go_num, rfl, by omega, by omega, Lib.hid ⟨fun h => HMN.out.2 (.inl (HM.out.1 h)), fun h => by
                  rcases HMN.out.1 h with h | h
                  · exact HM.out.2 h
                  · exact absurd h HA.out⟩, Lib.hid (HNr.out.step ((Below.refl _ _).alloc (Nat.le_refl _) _))⟩
                case measure => simp [intOf]; omega
            · obtain rfl : k = n6 := by omega
              by_cases hov : 0 < ov
              · have HC := Lib.hid (fun w' (hb : Below wr.heap.size wr w') => right_any _ w' (HNr.out.xok.below hb) true ⟨fun _ => HRX.out.2 (HM.out.1 hov), fun _ => rfl⟩)
                go_wp2_with fail
                refine (HC.out _ (Below.refl _ _)).mono ?_
                rintro e w9 ⟨rfl, hb9⟩
                have HB9 := Lib.hid ((HNr.out.step hb9).bx.bel)
                clear hb9
                go_wp2_with fail
                go_ret
                exact ⟨rfl, HB9.out⟩
              · have HC := Lib.hid (fun w' (hb : Below wr.heap.size wr w') => right_any _ w' (HNr.out.xok.below hb) false ⟨fun h => (by cases h), fun h => absurd (HM.out.2 (HRX.out.1 h)) hov⟩)
                go_wp2_with fail
                refine (HC.out _ (Below.refl _ _)).mono ?_
                rintro e w9 ⟨rfl, hb9⟩
                have HB9 := Lib.hid ((HNr.out.step hb9).bx.bel)
                clear hb9
                go_wp2_with fail
                go_ret
                exact ⟨ret_bool (by simp; omega), HB9.out⟩
  · go_wp2
    go_ret
    exact ⟨rfl, HX2.out.bel⟩

theorem hole {H : Type} (enc : TypeId × Value → H) (base : Nat) (v0 : Value) (d0 : DataW H) (p0 : List MemPlace) (a1 : Int) (w : World) (w0 : DataW.Trod enc Try.prog w 0 (fun _ => true) true 26 v0 d0 p0) (o0 : Value.okWide Try.prog w .any base 26 v0) (w1 : (Lit.int .u8 a1).wf = true) :
    Calls Try.prog 7 #[v0, .int .u8 a1] w fun e w' => e = .returned (.bool true) ∧ Below w.heap.size w w' := by
  obtain ⟨t, rfl, ht⟩ := open_table w0 o0
  have hb := bounds_u8 w1
  obtain ⟨q, rfl⟩ : ∃ q : Nat, a1 = q := ⟨a1.toNat, by omega⟩
  exact core t q (by omega) w ht
end Go.Proofs.Ytgmppjhfbemdjaa.TableNearW
