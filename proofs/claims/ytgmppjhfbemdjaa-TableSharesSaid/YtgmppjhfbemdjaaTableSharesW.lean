/- The walk of TableShares. No conditions. -/
import Derived.Test.YtgmppjhfbemdjaaTabE
namespace Go.Proofs.Ytgmppjhfbemdjaa.TableSharesW
open Go.RowKit Go.Proofs.Ytgmppjhfbemdjaa.Kit Go.Proofs.Ytgmppjhfbemdjaa.Byt Go.Proofs.Ytgmppjhfbemdjaa.Mem Go.Proofs.Ytgmppjhfbemdjaa.TabA Go.Proofs.Ytgmppjhfbemdjaa.TabB Go.Proofs.Ytgmppjhfbemdjaa.TabC Go.Proofs.Ytgmppjhfbemdjaa.TabD Go.Proofs.Ytgmppjhfbemdjaa.TabE

/-- The shares of the first m partitions, of the first k windows. -/
def sumTo (W : List Tri) (k : Nat) : Nat → Int
  | 0 => 0
  | m + 1 => sumTo W k m + shareTo m W k
theorem sumTo_zero (W : List Tri) : ∀ m, sumTo W 0 m = 0
  | 0 => rfl
  | m + 1 => by rw [sumTo, sumTo_zero W m, shareTo]; rfl
theorem sumTo_next {W : List Tri} {k : Nat} {r : Tri} (hr : W[k]? = some r) (h0 : 0 ≤ r.a) : ∀ m, sumTo W (k + 1) m = sumTo W k m + if r.a < (m : Int) then r.c else 0
  | 0 => by rw [if_neg (by omega)]; simp [sumTo]
  | m + 1 => by
    rw [sumTo, sumTo_next hr h0 m, sumTo, shareTo_next hr]
    by_cases h1 : r.a < (m : Int)
    · rw [if_pos h1, if_neg (by omega), if_pos (by omega)]; omega
    · by_cases h2 : r.a = (m : Int)
      · rw [if_neg h1, if_pos h2, if_pos (by omega)]; omega
      · rw [if_neg h1, if_neg h2, if_neg (by omega)]; omega
theorem sumTo_bd {m : Nat} {fr : Int} {W : List Tri} (h : ∀ (k : Nat) (r : Tri), W[k]? = some r → WinOk m fr W k r) (q : Nat) : ∀ k, k ≤ W.length → 0 ≤ sumTo W k q ∧ sumTo W k q ≤ endAt W k
  | 0, _ => by rw [sumTo_zero]; simp [endAt]
  | k + 1, hk => by
    have hr : W[k]? = some W[k] := List.getElem?_eq_getElem (by omega)
    obtain ⟨v0, v1, v2, v3, v4, v5⟩ := WinOk.bounds h hr
    have := sumTo_bd h q k (by omega)
    rw [endAt_next hr, sumTo_next hr v3]
    split <;> omega
theorem share_pos {m : Nat} {fr part : Int} {W : List Tri} (h : ∀ (k : Nat) (r : Tri), W[k]? = some r → WinOk m fr W k r) {j : Nat} {r : Tri} (hr : W[j]? = some r) (ha : r.a = part) : ∀ k, j < k → k ≤ W.length → 0 < shareTo part W k
  | 0, hj, _ => by omega
  | k + 1, hj, hk => by
    have hr' : W[k]? = some W[k] := List.getElem?_eq_getElem (by omega)
    obtain ⟨v0, v1, v2, v3, v4, v5⟩ := WinOk.bounds h hr'
    have h0 := (shareTo_bd (part := part) h k (by omega)).1
    rw [shareTo_next hr']
    rcases Nat.lt_or_ge j k with hlt | hge
    · have := share_pos h hr ha k hlt (by omega)
      split <;> omega
    · obtain rfl : j = k := by omega
      rw [hr'] at hr
      injection hr with hr
      rw [if_pos (by rw [hr]; exact ha)]
      omega
theorem share_none {m : Nat} {fr part : Int} {W : List Tri} (h : ∀ (k : Nat) (r : Tri), W[k]? = some r → WinOk m fr W k r) (hp : part < 0) : ∀ k, k ≤ W.length → shareTo part W k = 0
  | 0, _ => rfl
  | k + 1, hk => by
    have hr' : W[k]? = some W[k] := List.getElem?_eq_getElem (by omega)
    obtain ⟨v0, v1, v2, v3, v4, v5⟩ := WinOk.bounds h hr'
    rw [shareTo_next hr', share_none h hp k (by omega), if_neg (by omega)]
    rfl

set_option maxHeartbeats 3200000 in
theorem core (t : Ta) (w : World) (h : t.ok w) : Calls Try.prog 6 #[t.val] w (Yes w true) := by
  obtain ⟨bl, hbl⟩ := bool_of (huge t)
  obtain ⟨br, hbr⟩ := bool_of (right t)
  have HL := Lib.hid (fun w' (hb : Below w.heap.size w w') => long_any t w' (h.below hb) bl hbl)
  have HR := Lib.hid (fun w' (hb : Below w.heap.size w w') => right_any t w' (h.below hb) br hbr)
  have HBR := Lib.hid hbr
  have HS := Lib.hid (fun (hr : right t) (p : Int) w' (hb : Below w.heap.size w w') => share_yes t p w' (h.below hb) hr)
  have HX := Lib.hid (Bx.new w t)
  have HRT := Lib.hid (show right t → 1 ≤ t.fr ∧ t.fr ≤ 64 ∧ t.n1 ≤ 4 ∧ t.P.length = t.n1 from fun hr => ⟨hr.1.1, hr.1.2, by rw [← h.P.1]; exact hr.2.2.1.1.2, h.P.1⟩)
  clear hbl hbr h
  obtain ⟨fr, A1, n1, c1, P, A2, n2, c2, W, A3, n3, c3, C, tr⟩ := t
  show Calls _ _ #[.agg #[.int .i64 fr, .slice A1 n1 c1, .slice A2 n2 c2, .slice A3 n3 c3, .int .i64 tr]] w _
  go_enter Try.func6, Try.ntmps6
  go_wp2_with fail
  refine (wakes_any _).mono ?_
  rintro e w1 ⟨rfl, hb1⟩
  have HX1 := Lib.hid (HX.out.step hb1)
  clear hb1
  obtain ⟨y0, y1, y2, y3, y4⟩ := HX1.out.cell
  dsimp only at y0 y1 y2 y3 y4
  go_wp2_with fail
  refine (HL.out _ HX1.out.bel).mono ?_
  rintro e w2 ⟨rfl, hb2⟩
  have HX2 := Lib.hid (HX1.out.step hb2)
  clear hb2 y0 y1 y2 y3 y4 HX1
  obtain ⟨y0, y1, y2, y3, y4⟩ := HX2.out.cell
  dsimp only at y0 y1 y2 y3 y4
  cases bl
  · go_wp2_with fail
    refine (HR.out _ HX2.out.bel).mono ?_
    rintro e w3 ⟨rfl, hb3⟩
    have HX3 := Lib.hid (HX2.out.step hb3)
    clear hb3 y0 y1 y2 y3 y4 HX2
    obtain ⟨y0, y1, y2, y3, y4⟩ := HX3.out.cell
    dsimp only at y0 y1 y2 y3 y4
    cases br
    · go_wp2
      go_ret
      exact ⟨rfl, HX3.out.bel⟩
    · have HT := Lib.hid (HBR.out.1 rfl)
      clear HBR
      obtain ⟨f0, f1, hn1, hP⟩ := HRT.out HT.out
      have HPL := Lib.hid hP
      have HW := Lib.hid (show ∀ (k : Nat) (r : Tri), W[k]? = some r → WinOk P.length fr W k r from HT.out.2.2.2.1.2.1)
      have HM := Lib.hid (show ∃ (k : Nat) (r : Tri), W[k]? = some r ∧ r.a = 0 from HT.out.2.2.2.1.2.2)
      have HE := Lib.hid (endAt_le (by omega) HW.out W.length (Nat.le_refl _))
      clear hP
      go_wp2_with fail
      clear y0 y1 y2 y3 y4
      go_loopw [3, 17] (fun s i wr => ∃ (k : Nat) (sv : Int), k ≤ n1 ∧ i = .int .i64 k ∧ s = .int .i64 sv ∧ Hid (sv = sumTo W W.length k) ∧ 0 ≤ sv ∧ sv ≤ fr ∧ Hid (Bx w ⟨fr, A1, n1, c1, P, A2, n2, c2, W, A3, n3, c3, C, tr⟩ wr)) (fun _ i _ => n1 - (intOf i).toNat)
      case atStart => exact ⟨0, 0, Nat.zero_le _, rfl, rfl, Lib.hid rfl, by omega, by omega, HX3⟩
      case round =>
        obtain ⟨k, sv, hk, rfl, rfl, HSV, l0, l1, HXr⟩ := hrel
        clear HX3
        obtain ⟨y0, y1, y2, y3, y4⟩ := HXr.out.cell
        dsimp only at y0 y1 y2 y3 y4
        by_cases hlt : k < n1
        · have HBD := Lib.hid (sumTo_bd HW.out (k + 1) W.length (Nat.le_refl _))
          obtain ⟨sh, hsh⟩ : ∃ sh, sh = shareTo (k : Nat) W W.length := ⟨_, rfl⟩
          have HSH := Lib.hid hsh
          have HNX := Lib.hid (show sumTo W W.length (k + 1) = sv + sh from by rw [sumTo, HSV.out, hsh])
          have b1 : 0 ≤ sv + sh := by have := HBD.out.1; have := HNX.out; omega
          have b2 : sv + sh ≤ fr := by have := HBD.out.2; have := HNX.out; have := HE.out; omega
          clear hsh
          go_wp2_with fail
          refine (HS.out HT.out (k : Nat) _ HXr.out.bel).mono ?_
          rintro e w5 ⟨rfl, hb5⟩
          have HX5 := Lib.hid (HXr.out.step hb5)
          clear hb5
          have he : shareOf ⟨fr, A1, n1, c1, P, A2, n2, c2, W, A3, n3, c3, C, tr⟩ (k : Nat) = sh := HSH.out.symm
          rw [he]
          clear he
          go_wp2_with fail
          go_roundw
          case rel => exact ⟨k + 1, sv + sh, by omega, by go_num, rfl, Lib.hid HNX.out.symm, b1, b2, HX5⟩
          case measure => simp [intOf]; omega
        · obtain rfl : k = n1 := by omega
          have HP0 := Lib.hid (show 0 < shareTo 0 W W.length from by
            obtain ⟨j, r, hr, ha⟩ := HM.out
            exact share_pos HW.out hr ha _ (List.getElem?_eq_some_iff.1 hr).1 (Nat.le_refl _))
          obtain ⟨s0, hs0⟩ : ∃ s0, s0 = shareTo 0 W W.length := ⟨_, rfl⟩
          have hp0 : 0 < s0 := by rw [hs0]; exact HP0.out
          have HS0 := Lib.hid hs0
          clear hs0
          go_wp2_with fail
          refine (HS.out HT.out 0 _ HXr.out.bel).mono ?_
          rintro e w5 ⟨rfl, hb5⟩
          have HX5 := Lib.hid (HXr.out.step hb5)
          clear hb5 y0 y1 y2 y3 y4
          have he : shareOf ⟨fr, A1, k, c1, P, A2, n2, c2, W, A3, n3, c3, C, tr⟩ 0 = s0 := HS0.out.symm
          rw [he]
          clear he
          obtain ⟨y0, y1, y2, y3, y4⟩ := HX5.out.cell
          dsimp only at y0 y1 y2 y3 y4
          go_wp2_with fail
          refine (HS.out HT.out (-1) _ HX5.out.bel).mono ?_
          rintro e w6 ⟨rfl, hb6⟩
          have HX6 := Lib.hid (HX5.out.step hb6)
          clear hb6
          have he : shareOf ⟨fr, A1, k, c1, P, A2, n2, c2, W, A3, n3, c3, C, tr⟩ (-1) = 0 := share_none HW.out (by omega) _ (Nat.le_refl _)
          rw [he]
          clear he
          go_wp2_with fail
          go_ret
          exact ⟨rfl, HX6.out.bel⟩
  · go_wp2
    go_ret
    exact ⟨rfl, HX2.out.bel⟩

theorem hole {H : Type} (enc : TypeId × Value → H) (base : Nat) (v0 : Value) (d0 : DataW H) (p0 : List MemPlace) (w : World) (w0 : DataW.Trod enc Try.prog w 0 (fun _ => true) true 26 v0 d0 p0) (o0 : Value.okWide Try.prog w .any base 26 v0) :
    Calls Try.prog 6 #[v0] w fun e w' => e = .returned (.bool true) ∧ Below w.heap.size w w' := by
  obtain ⟨t, rfl, ht⟩ := open_table w0 o0
  exact core t w ht
end Go.Proofs.Ytgmppjhfbemdjaa.TableSharesW
