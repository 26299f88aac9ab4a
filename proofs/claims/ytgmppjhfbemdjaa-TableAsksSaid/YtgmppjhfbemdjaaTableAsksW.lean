/- The walk of TableAsks. No conditions. -/
import Derived.Test.YtgmppjhfbemdjaaTabM
namespace Go.Proofs.Ytgmppjhfbemdjaa.TableAsksW
open Go.RowKit Go.Proofs.Ytgmppjhfbemdjaa.Kit Go.Proofs.Ytgmppjhfbemdjaa.Byt Go.Proofs.Ytgmppjhfbemdjaa.Mem Go.Proofs.Ytgmppjhfbemdjaa.TabA Go.Proofs.Ytgmppjhfbemdjaa.TabB Go.Proofs.Ytgmppjhfbemdjaa.TabC Go.Proofs.Ytgmppjhfbemdjaa.TabD Go.Proofs.Ytgmppjhfbemdjaa.TabE Go.Proofs.Ytgmppjhfbemdjaa.TabH Go.Proofs.Ytgmppjhfbemdjaa.TabI Go.Proofs.Ytgmppjhfbemdjaa.TabJ Go.Proofs.Ytgmppjhfbemdjaa.TabK Go.Proofs.Ytgmppjhfbemdjaa.TabL Go.Proofs.Ytgmppjhfbemdjaa.TabM

theorem lst_stop {S : List Bool} {n : Nat} (h : ∀ q, n ≤ q → S.getD q false = false) : ∀ k, n ≤ k → lst S k = lst S n
  | 0, hk => by rw [show n = 0 by omega]
  | k + 1, hk => by
    rcases Nat.lt_or_ge k n with h1 | h1
    · rw [show n = k + 1 by omega]
    · rw [lst_next, h k h1, if_neg (by simp)]
      exact lst_stop h k h1
theorem conn_lt {C : List Tri} {a b : Int} {n : Nat} (h : Conn C a b) (ha : a < n) (hc : ∀ r ∈ C, r.b < (n : Int)) : b < n := by
  cases h with
  | here => exact ha
  | on _ hr _ => exact hc _ hr
/-- What Reach hands back, of a right table. -/
def Told (t : Ta) (p : Int) (l : List Int) : Prop := (∀ q : Nat, p = q → q < t.n1 → ∃ S : List Bool, (∀ x : Nat, S.getD x false = true ↔ Conn t.C p x) ∧ l = lst S t.n1) ∧ (¬ (0 ≤ p ∧ p < (t.n1 : Int)) → l = [])
theorem reach_l (t : Ta) (p : Int) (w : World) (h : t.ok w) (hr : right t) : Calls Try.prog 20 #[t.val, .int .i64 p] w fun e w' => ∃ A n c l, e = .returned (.slice A n c) ∧ Rd w' A n c (i64s l) ∧ Below w.heap.size w w' ∧ Told t p l := by
  by_cases hp : 0 ≤ p ∧ p < (t.n1 : Int)
  · obtain ⟨q, rfl⟩ : ∃ q : Nat, p = q := ⟨p.toNat, by omega⟩
    refine (reach_yes t q w h hr (by omega)).mono ?_
    rintro e w' ⟨S, hS, A, n, c, rfl, hR, hb⟩
    have hn : t.n1 ≤ 4 := by rw [← h.P.1]; exact hr.2.2.1.1.2
    have hin : ∀ r ∈ t.C, r.b < (t.n1 : Int) := fun r hr' => by
      obtain ⟨k, hk, he⟩ := List.getElem_of_mem hr'
      have h1 := hr.2.2.2.2.2 k r (by rw [← he]; exact List.getElem?_eq_getElem hk)
      have h2 := h1.2.1
      have h3 := h.P.1
      omega
    have hst : lst S 4 = lst S t.n1 := lst_stop (fun x hx => by
      rw [Bool.eq_false_iff]
      intro h1
      have := conn_lt ((hS x).1 h1) hp.2 hin
      omega) 4 hn
    exact ⟨A, n, c, _, rfl, hR, hb, fun q' _ _ => ⟨S, hS, hst⟩, fun h1 => absurd hp h1⟩
  · refine (reach_no t p w h (fun h => hp ⟨h.2.1, h.2.2⟩)).mono ?_
    rintro e w' ⟨A, n, c, rfl, hR, hb⟩
    exact ⟨A, n, c, _, rfl, hR, hb, fun q hq hl => absurd (by omega) hp, fun _ => rfl⟩

set_option maxRecDepth 100000 in
set_option maxHeartbeats 6400000 in
theorem core (t : Ta) (pos part : Int) (w : World) (h : t.ok w) : Calls Try.prog 5 #[t.val, .int .i64 pos, .int .i64 part] w (Yes w true) := by
  obtain ⟨bl, hbl⟩ := bool_of (huge t)
  have HL := Lib.hid (fun w' (hb : Below w.heap.size w w') => long_any t w' (h.below hb) bl hbl)
  have HO := Lib.hid h
  have HX := Lib.hid (Bx.new w t)
  have hm1 : t.n1 ≤ 9223372036854775807 := h.P.le
  obtain ⟨fr, A1, n1, c1, P, A2, n2, c2, W, A3, n3, c3, C, tr⟩ := t
  have hm1 : n1 ≤ 9223372036854775807 := hm1
  clear hbl h
  show Calls _ _ #[.agg #[.int .i64 fr, .slice A1 n1 c1, .slice A2 n2 c2, .slice A3 n3 c3, .int .i64 tr], .int .i64 pos, .int .i64 part] w _
  go_enter Try.func5, Try.ntmps5
  go_wp2_with fail
  refine (wakes_any _).mono ?_
  rintro e w1 ⟨rfl, hb1⟩
  have HX1 := Lib.hid (HX.out.step hb1)
  clear hb1 HX
  obtain ⟨y0, y1, y2, y3, y4⟩ := HX1.out.cell
  dsimp only at y0 y1 y2 y3 y4
  go_wp2_with fail
  refine (HL.out _ HX1.out.bel).mono ?_
  rintro e w2 ⟨rfl, hb2⟩
  have HX2 := Lib.hid (HX1.out.step hb2)
  clear hb2 y0 y1 y2 y3 y4 HX1
  obtain ⟨y0, y1, y2, y3, y4⟩ := HX2.out.cell
  dsimp only at y0 y1 y2 y3 y4
  cases bl
  · have HOK := Lib.hid (HO.out.below HX2.out.bel)
    by_cases hr : right ⟨fr, A1, n1, c1, P, A2, n2, c2, W, A3, n3, c3, C, tr⟩
    · have HT := Lib.hid hr
      clear hr
      go_wp2_with fail
      go_region_held3 (fun w' => w'.cell? ⟨w.heap.size, 0, none⟩ = some (.int .i64 fr) ∧ w'.cell? ⟨w.heap.size, 1, none⟩ = some (.slice A1 n1 c1) ∧ w'.cell? ⟨w.heap.size, 2, none⟩ = some (.slice A2 n2 c2) ∧ w'.cell? ⟨w.heap.size, 3, none⟩ = some (.slice A3 n3 c3) ∧ w'.cell? ⟨w.heap.size, 4, none⟩ = some (.int .i64 tr))
        (first | go_keep | exact HX3.out.cell | exact HX4.out.cell | exact HX5.out.cell)
        (first
         | (go_at_call 19; refine (window_yes ⟨fr, A1, n1, c1, P, A2, n2, c2, W, A3, n3, c3, C, tr⟩ pos _ (HOK.out.below ((Below.refl w2.heap.size w2).drew)) HT.out).mono ?_; rintro e w3 ⟨rfl, hb3⟩; have HX3 := Lib.hid (HX2.out.step (((Below.refl w2.heap.size w2).drew).trans hb3)); clear hb3)
         | (go_at_call 20; refine (reach_l ⟨fr, A1, n1, c1, P, A2, n2, c2, W, A3, n3, c3, C, tr⟩ part _ (HO.out.below HX3.out.bel) HT.out).mono ?_; rintro e w4 ⟨A, n, c, l, rfl, hl, hb4, htold⟩; have HX4 := Lib.hid (HX3.out.step hb4); have HL4 := Lib.hid hl; have HTD := Lib.hid htold; clear hb4 hl htold)
         | (go_at_call 21; refine (share_yes ⟨fr, A1, n1, c1, P, A2, n2, c2, W, A3, n3, c3, C, tr⟩ part _ (HO.out.below HX4.out.bel) HT.out).mono ?_; rintro e w5 ⟨rfl, hb5⟩; have HX5 := Lib.hid (HX4.out.step hb5); have HL5 := Lib.hid (HL4.out.below hb5); clear hb5))
      obtain ⟨y0, y1, y2, y3, y4⟩ := HX5.out.cell
      dsimp only at y0 y1 y2 y3 y4
      obtain ⟨wv, hwv⟩ : ∃ wv, wv = winOf ⟨fr, A1, n1, c1, P, A2, n2, c2, W, A3, n3, c3, C, tr⟩ pos := ⟨_, rfl⟩
      obtain ⟨sv, hsv⟩ : ∃ sv, sv = shareOf ⟨fr, A1, n1, c1, P, A2, n2, c2, W, A3, n3, c3, C, tr⟩ part := ⟨_, rfl⟩
      rw [← hwv, ← hsv]
      have HWV := Lib.hid hwv
      have HSV := Lib.hid hsv
      have HWP := Lib.hid (show ∀ (k : Nat) (r : Tri), W[k]? = some r → WinOk P.length fr W k r from HT.out.2.2.2.1.2.1)
      have HL2 := Lib.hid (show W.length = n2 from HO.out.W.1)
      have HL3 := Lib.hid (show C.length ≤ 4 from HT.out.2.2.2.2.1)
      have hf0 : 1 ≤ fr := HT.out.1.1
      have hf1 : fr ≤ 64 := HT.out.1.2
      have hm3 : n3 ≤ 9223372036854775807 := HO.out.C.le
      have hm2 : n2 ≤ 9223372036854775807 := HO.out.W.le
      have hn4 : n1 ≤ 4 := by have h1 : P.length = n1 := HO.out.P.1; have h2 : P.length ≤ 4 := HT.out.2.2.1.1.2; omega
      clear hwv hsv
      go_wp2_with fail
      refine (rright_any ⟨fr, A1, n1, c1, P, A2, n2, c2, W, A3, n3, c3, C, tr⟩ w5 (HO.out.below HX5.out.bel) true ⟨fun _ => HT.out, fun _ => rfl⟩).mono ?_
      rintro e w6 ⟨rfl, hb6⟩
      have HX6 := Lib.hid (HX5.out.step hb6)
      have HL6 := Lib.hid (HL5.out.below hb6)
      clear hb6 y0 y1 y2 y3 y4 HX5 HL5 HX4 HL4 HX3 HX2 HOK
      obtain ⟨y0, y1, y2, y3, y4⟩ := HX6.out.cell
      dsimp only at y0 y1 y2 y3 y4
      obtain ⟨vb, hvb⟩ := bool_of (0 ≤ part ∧ part < (n1 : Int))
      have HVB := Lib.hid hvb
      clear hvb
      go_upto_region 9 with (fail)
      go_cut [50] (fun s50 wx => s50 = .bool vb ∧ w6 = wx)
      case first =>
        by_cases hp0 : 0 ≤ part
        · by_cases hp1 : part < (n1 : Int)
          · have hv := Lib.hid (HVB.out.2 ⟨hp0, hp1⟩)
            go_wp2_with fail
            go_meet
            exact ⟨by rw [hv.out], rfl⟩
          · have hv := Lib.hid (show vb = false from by rw [Bool.eq_false_iff]; exact fun h => hp1 (HVB.out.1 h).2)
            go_wp2_with fail
            go_meet
            exact ⟨by rw [hv.out], rfl⟩
        · have hv := Lib.hid (show vb = false from by rw [Bool.eq_false_iff]; exact fun h => hp0 (HVB.out.1 h).1)
          go_wp2_with fail
          go_meet
          exact ⟨by rw [hv.out], rfl⟩
      case rest =>
      obtain ⟨rfl, rfl⟩ := hcut
      go_upto_if 50 with (fail)
      go_cut [10] (fun s10 wx => ∃ A' n' c', s10 = .slice A' n' c' ∧ Hid (Rd wx A' n' c' (i64s l)) ∧ Hid (Below w6.heap.size w6 wx))
      case first =>
        cases vb
        · have HNL := Lib.hid (HTD.out.2 (fun h => by have := HVB.out.2 h; cases this))
          go_wp2_with fail
          go_meet
          exact ⟨none, 0, 0, rfl, Lib.hid (by rw [HNL.out]; exact Rd.nil _), Lib.hid (Below.refl _ _)⟩
        · skip
          have hpv := HVB.out.1 rfl
          obtain ⟨q, hq⟩ : ∃ q : Nat, part = q := ⟨part.toNat, by omega⟩
          obtain ⟨S, hS, hlS⟩ := HTD.out.1 q hq (by show q < n1; omega)
          have HS := Lib.hid hS
          have HLS := Lib.hid (show l = lst S n1 from hlS)
          clear hq hS hlS hpv
          obtain ⟨i0, hi0, hz0, hz1, hz2⟩ := info_of info_int
          go_wp2_with fail
          clear y0 y1 y2 y3 y4
          go_loopw [10, 54] (fun s i wr => ∃ (k : Nat) (A' : Option Addr) (n' c' : Nat), k ≤ n1 ∧ i = .int .i64 k ∧ s = .slice A' n' c' ∧ n' ≤ k ∧ Hid (wr.ownsRow w6.heap.size 3 1 (.slice A' n' c') n' (i64s (lst S k))) ∧ Hid (Below w6.heap.size w6 wr)) (fun _ i _ => n1 - (intOf i).toNat)
          case atStart => exact ⟨0, none, 0, 0, Nat.zero_le _, rfl, rfl, by omega, Lib.hid ⟨rfl, .inl ⟨rfl, rfl⟩⟩, Lib.hid (Below.refl _ _)⟩
          case round =>
            obtain ⟨k, A', n', c', hk, rfl, rfl, hnk, HOW, HB⟩ := hrel
            have HXr := Lib.hid (HX6.out.step HB.out)
            obtain ⟨y0, y1, y2, y3, y4⟩ := HXr.out.cell
            dsimp only at y0 y1 y2 y3 y4
            by_cases hlt : k < n1
            · obtain ⟨x, hx⟩ : ∃ x, x = S.getD k false := ⟨_, rfl⟩
              have HLN := Lib.hid (lst_next S k)
              rw [← hx] at HLN
              have HP := Lib.hid (path_any ⟨fr, A1, n1, c1, P, A2, n2, c2, W, A3, n3, c3, C, tr⟩ hm3 4 (by omega) part (k : Int) wr (HO.out.below HXr.out.bel) x ⟨fun h => path_of 4 C _ _ HL3.out ((HS.out k).1 (hx ▸ h)), fun h => hx ▸ (HS.out k).2 (conn_of 4 _ _ h)⟩)
              clear hx
              go_wp2_with fail
              refine HP.out.mono ?_
              rintro e w7 ⟨rfl, hb7⟩
              have HB7 := Lib.hid (HB.out.trans (hb7.mono HB.out.size))
              have HO7 := Lib.hid (own_below HOW.out hb7)
              clear hb7 y0 y1 y2 y3 y4
              cases x
              · go_wp2_with fail
                go_roundw
                case rel => exact ⟨k + 1, A', n', c', by omega, by go_num, rfl, by omega, Lib.hid (by rw [HLN.out, if_neg (by simp)]; exact HO7.out), HB7⟩
                case measure => simp [intOf]; omega
              · go_wp2_with (at_builtin; refine wpList_add _ rfl (.tmp 61) (.tmp 63) _ rfl w6.heap.size 3 i0 _ 8 Try.underlying42 hi0 hz0 hz1 hz2 rfl _ n' _ rfl (own_below HO7.out ((Below.refl _ _).alloc (Nat.le_refl _) _)) (some ⟨w7.heap.size, 0, none⟩) 1 1 (i64s [(k : Int)]) rfl (one_rd _ _) (i64s_one _) (by omega) (by omega) (by have := HB7.out.size; simp; omega) ?_; intro A8 n8 c8 w8 hn8 hown8 hg8 hat8; have hb8 := below_add (HB7.out.alloc HB7.out.size _) (own_below HO7.out ((Below.refl _ _).alloc (Nat.le_refl _) _)) (Nat.le_refl _) hg8; clear hat8 hg8)
                go_roundw
                case rel => exact ⟨k + 1, A8, n8, c8, by omega, by go_num, rfl, by have := hn8.out; omega, Lib.hid (by rw [HLN.out, if_pos (by first | trivial | rfl), ← i64s_app]; exact hown8), Lib.hid hb8⟩
                case measure => simp [intOf]; omega
            · obtain rfl : n1 = k := by omega
              go_wp2_with fail
              go_meet
              exact ⟨A', n', c', rfl, Lib.hid (by rw [HLS.out]; exact Rd.own HOW.out), HB⟩
      case rest =>
        obtain ⟨A', n', c', rfl, HRW, HBW⟩ := hcut
        have HXc := Lib.hid (HX6.out.step HBW.out)
        have HLc := Lib.hid (HL6.out.below HBW.out)
        clear HX6 HL6 HBW y0 y1 y2 y3 y4
        obtain ⟨F, hF⟩ : ∃ F : Nat, fr = F := ⟨fr.toNat, by omega⟩
        subst hF
        have HTA := Lib.hid (show ticks part W (F : Int) W.length = sv from by
          rw [HSV.out]
          exact ticks_all HWP.out W.length (Nat.le_refl _))
        have HTZ := Lib.hid (ticks_zero (part := part) HWP.out W.length (Nat.le_refl _))
        have HTB := Lib.hid (fun q => (ticks_bd (part := part) (q := q) HWP.out W.length (Nat.le_refl _)))
        have HTE := Lib.hid (endAt_le (by omega) HWP.out W.length (Nat.le_refl _))
        have HTM := Lib.hid (fun (q : Int) hn => ticks_miss (part := part) (q := q) HWP.out W.length (Nat.le_refl _) hn)
        have HTH := Lib.hid (fun (q : Int) (j : Nat) (r : Tri) (hr : W[j]? = some r) (hin : inW r q) => ticks_hit (part := part) HWP.out hr hin W.length (List.getElem?_eq_some_iff.1 hr).1 (Nat.le_refl _))
        obtain ⟨wx, rfl⟩ : ∃ wx : World, wx = wc := ⟨_, rfl⟩
        obtain ⟨y0, y1, y2, y3, y4⟩ := HXc.out.cell
        dsimp only at y0 y1 y2 y3 y4
        go_wp2_with fail
        clear y0 y1 y2 y3 y4
        go_loopw [12, 68] (fun s i wr => ∃ (k : Nat) (tv : Int), k ≤ F ∧ i = .int .i64 k ∧ s = .int .i64 tv ∧ Hid (tv = ticks part W (k : Int) W.length) ∧ 0 ≤ tv ∧ tv ≤ 64 ∧ Hid (Below wx.heap.size wx wr)) (fun _ i _ => F - (intOf i).toNat)
        case atStart => exact ⟨0, 0, Nat.zero_le _, rfl, rfl, Lib.hid HTZ.out.symm, by omega, by omega, Lib.hid (Below.refl _ _)⟩
        case round =>
          obtain ⟨k, tv, hk, rfl, rfl, HTV, t0, t1, HBr⟩ := hrel
          have HXr := Lib.hid (HXc.out.step HBr.out)
          obtain ⟨y0, y1, y2, y3, y4⟩ := HXr.out.cell
          dsimp only at y0 y1 y2 y3 y4
          by_cases hlt : k < F
          · have HRWk := Lib.hid (rwindow_any ⟨(F : Int), A1, n1, c1, P, A2, n2, c2, W, A3, n3, c3, C, tr⟩ (k : Int) wr (HO.out.below HXr.out.bel) HT.out)
            have hbd := HTB.out ((k : Int) + 1)
            have hbe := HTE.out
            have b0 : 0 ≤ ticks part W ((k : Int) + 1) W.length := hbd.1
            have b1 : ticks part W ((k : Int) + 1) W.length ≤ 64 := by omega
            have HB0 := Lib.hid b0
            have HB1 := Lib.hid b1
            clear hbd hbe b0 b1
            rcases findW_spec (k : Int) W 0 with ⟨h1, h2⟩ | ⟨j, r, h1, h2, h3⟩
            · have HN := Lib.hid (HTM.out (k : Int) (fun j r _ hr => h2 r (List.mem_of_getElem? hr)))
              have HV := Lib.hid (show winOf ⟨(F : Int), A1, n1, c1, P, A2, n2, c2, W, A3, n3, c3, C, tr⟩ (k : Int) = -1 from h1)
              clear h1 h2
              go_wp2_with fail
              refine HRWk.out.mono ?_
              rintro e w8 ⟨rfl, hb8⟩
              have HB8 := Lib.hid (HBr.out.trans (hb8.mono HBr.out.size))
              clear hb8 y0 y1 y2 y3 y4
              rw [HV.out]
              go_wp2_with fail
              go_roundw
              case rel => exact ⟨k + 1, tv, by omega, by go_num, rfl, Lib.hid (by rw [HTV.out, ← HN.out]; rfl), t0, t1, HB8⟩
              case measure => simp [intOf]; omega
            · have HN := Lib.hid (HTH.out (k : Int) j r h1 h2)
              have HV := Lib.hid (show winOf ⟨(F : Int), A1, n1, c1, P, A2, n2, c2, W, A3, n3, c3, C, tr⟩ (k : Int) = (j : Int) from by rw [winOf, h3]; simp)
              have HJ := Lib.hid h1
              have hjl : j < n2 := by have := (List.getElem?_eq_some_iff.1 h1).1; have := HL2.out; omega
              have hj0 : (0 : Int) ≤ (j : Int) := by omega
              have hj1 : (j : Int) < (n2 : Int) := by omega
              clear h1 h2 h3
              go_wp2_with fail
              refine HRWk.out.mono ?_
              rintro e w8 ⟨rfl, hb8⟩
              have HB8 := Lib.hid (HBr.out.trans (hb8.mono HBr.out.size))
              have HX8 := Lib.hid (HXr.out.step hb8)
              clear hb8 y0 y1 y2 y3 y4
              rw [HV.out]
              obtain ⟨y0, y1, y2, y3, y4⟩ := HX8.out.cell
              dsimp only at y0 y1 y2 y3 y4
              obtain ⟨r', b', o, hr', hok, hA, hbl, q0, q1, q2⟩ := (HO.out.below HX8.out.bel).W.at_ hjl
              dsimp only at hr' hA
              subst hA
              rw [HJ.out] at hr'
              injection hr' with hr'
              subst hr'
              clear q1 q2 hok
              by_cases ha : r.a = part
              · have ha' : (r.a == part) = true := by simpa using ha
                have HN2 := Lib.hid (show ticks part W ((k : Int) + 1) W.length = tv + 1 from by rw [HN.out, if_pos ha, HTV.out])
                have t2 : tv + 1 ≤ 64 := by have := HN2.out; have := HB1.out; omega
                clear ha
                go_wp2_with fail
                go_roundw
                case rel => exact ⟨k + 1, tv + 1, by omega, by go_num, rfl, Lib.hid (by rw [← HN2.out]; rfl), by omega, t2, HB8⟩
                case measure => simp [intOf]; omega
              · have ha' : (r.a == part) = false := by simpa using ha
                have HN2 := Lib.hid (show ticks part W ((k : Int) + 1) W.length = tv from by rw [HN.out, if_neg ha, HTV.out]; omega)
                clear ha
                go_wp2_with fail
                go_roundw
                case rel => exact ⟨k + 1, tv, by omega, by go_num, rfl, Lib.hid (by rw [← HN2.out]; rfl), t0, t1, HB8⟩
                case measure => simp [intOf]; omega
          · obtain rfl : F = k := by omega
            obtain rfl : tv = sv := by rw [HTV.out]; exact HTA.out
            go_wp2_with fail
            refine (rwindow_any ⟨(F : Int), A1, n1, c1, P, A2, n2, c2, W, A3, n3, c3, C, tr⟩ pos wr (HO.out.below HXr.out.bel) HT.out).mono ?_
            rintro e w8 ⟨rfl, hb8⟩
            rw [← HWV.out]
            have HB8 := Lib.hid (HXr.out.bel.trans (hb8.mono HXr.out.bel.size))
            have HLe := Lib.hid ((HLc.out.below HBr.out).below hb8)
            have HLf := Lib.hid ((HRW.out.below HBr.out).below hb8)
            clear hb8 y0 y1 y2 y3 y4
            go_wp2_with fail
            refine (same_ints _ _ _ _ _ _ l _ HLe.out HLf.out).mono ?_
            rintro e w9 ⟨rfl, nq, rfl⟩
            go_wp2_with fail
            go_ret
            exact ⟨rfl, below_drewN HB8.out nq⟩
    · have HT := Lib.hid hr
      clear hr
      go_wp2_with fail
      go_region_held3 (fun w' => w'.cell? ⟨w.heap.size, 0, none⟩ = some (.int .i64 fr) ∧ w'.cell? ⟨w.heap.size, 1, none⟩ = some (.slice A1 n1 c1) ∧ w'.cell? ⟨w.heap.size, 2, none⟩ = some (.slice A2 n2 c2) ∧ w'.cell? ⟨w.heap.size, 3, none⟩ = some (.slice A3 n3 c3) ∧ w'.cell? ⟨w.heap.size, 4, none⟩ = some (.int .i64 tr))
        (first | go_keep | exact HX3.out.cell | exact HX4.out.cell | exact HX5.out.cell)
        (first
         | (go_at_call 19; refine (window_no ⟨fr, A1, n1, c1, P, A2, n2, c2, W, A3, n3, c3, C, tr⟩ pos _ (HOK.out.below ((Below.refl w2.heap.size w2).drew)) HT.out).mono ?_; rintro e w3 ⟨rfl, hb3⟩; have HX3 := Lib.hid (HX2.out.step (((Below.refl w2.heap.size w2).drew).trans hb3)); clear hb3)
         | (go_at_call 20; refine (reach_no ⟨fr, A1, n1, c1, P, A2, n2, c2, W, A3, n3, c3, C, tr⟩ part _ (HO.out.below HX3.out.bel) (fun h => HT.out h.1)).mono ?_; rintro e w4 ⟨A, n, c, rfl, hl, hb4⟩; obtain rfl : 0 = n := hl.1; have HX4 := Lib.hid (HX3.out.step hb4); clear hb4 hl)
         | (go_at_call 21; refine (share_no ⟨fr, A1, n1, c1, P, A2, n2, c2, W, A3, n3, c3, C, tr⟩ part _ (HO.out.below HX4.out.bel) HT.out).mono ?_; rintro e w5 ⟨rfl, hb5⟩; have HX5 := Lib.hid (HX4.out.step hb5); clear hb5))
      obtain ⟨y0, y1, y2, y3, y4⟩ := HX5.out.cell
      dsimp only at y0 y1 y2 y3 y4
      go_wp2_with fail
      refine (rright_any ⟨fr, A1, n1, c1, P, A2, n2, c2, W, A3, n3, c3, C, tr⟩ w5 (HO.out.below HX5.out.bel) false (by simpa using HT.out)).mono ?_
      rintro e w6 ⟨rfl, hb6⟩
      have HX6 := Lib.hid (HX5.out.step hb6)
      clear hb6
      go_wp2_with fail
      go_ret
      exact ⟨rfl, HX6.out.bel⟩
  · go_wp2
    go_ret
    exact ⟨rfl, HX2.out.bel⟩

theorem hole {H : Type} (enc : TypeId × Value → H) (base : Nat) (v0 : Value) (d0 : DataW H) (p0 : List MemPlace) (a1 a2 : Int) (w : World) (w0 : DataW.Trod enc Try.prog w 0 (fun _ => true) true 26 v0 d0 p0) (o0 : Value.okWide Try.prog w .any base 26 v0) (_w1 : (Lit.int .i64 a1).wf = true) (_w2 : (Lit.int .i64 a2).wf = true) :
    Calls Try.prog 5 #[v0, .int .i64 a1, .int .i64 a2] w fun e w' => e = .returned (.bool true) ∧ Below w.heap.size w w' := by
  obtain ⟨t, rfl, ht⟩ := open_table w0 o0
  exact core t a1 a2 w ht
end Go.Proofs.Ytgmppjhfbemdjaa.TableAsksW
