/- When a table is right, by the code. Conditions: the table lies as the facts say. -/
import Derived.Test.YtliiinffkcgcaaaTabC
namespace Go.Proofs.Ytliiinffkcgcaaa.TabD
open Go.RowKit Go.Proofs.Ytliiinffkcgcaaa.Kit Go.Proofs.Ytliiinffkcgcaaa.Byt Go.Proofs.Ytliiinffkcgcaaa.Mem Go.Proofs.Ytliiinffkcgcaaa.TabA Go.Proofs.Ytliiinffkcgcaaa.TabB Go.Proofs.Ytliiinffkcgcaaa.TabC

def right (t : Ta) : Prop := TOk t.fr t.tr t.P t.W t.C
open Classical in
theorem bool_of (p : Prop) : ∃ b : Bool, b = true ↔ p := ⟨decide p, by simp⟩

set_option maxRecDepth 100000 in
set_option maxHeartbeats 1600000 in
theorem right_any (t : Ta) (w : World) (h : t.ok w) (b : Bool) (hb : b = true ↔ right t) : Calls Try.prog 30 #[t.val] w (Yes w b) := by
  obtain ⟨fr, A1, n1, c1, P, A2, n2, c2, W, A3, n3, c3, C, tr⟩ := t
  have hn1 : P.length = n1 := h.P.1
  have hb : b = true ↔ (1 ≤ fr ∧ fr ≤ 64) ∧ (1 ≤ tr ∧ tr ≤ 7) ∧ PartsOk P ∧ WinsOk n1 fr W ∧ ChansOk n1 C := by rw [← hn1]; exact hb
  have HB := Lib.hid hb
  have HO := Lib.hid h
  clear h hb hn1
  show Calls _ _ #[.agg #[.int .i64 fr, .slice A1 n1 c1, .slice A2 n2 c2, .slice A3 n3 c3, .int .i64 tr]] w _
  have HX := Lib.hid (Bx.new w ⟨fr, A1, n1, c1, P, A2, n2, c2, W, A3, n3, c3, C, tr⟩)
  have HF := Lib.hid (show ∀ p : Prop, (b = true → p) → ¬ p → b = false from fun p h hp => by rw [Bool.eq_false_iff]; exact fun hb => hp (h hb))
  cases s0 : inn fr 1 64
  · have hbf := Lib.hid (HF.out _ (fun h => (HB.out.1 h).1) (inn_false s0))
    go_enter Try.func30, Try.ntmps30
    go_wp2_with (go_at_call 42; refine (within_any _ _ _ _).mono ?_; rintro e w' ⟨rfl, rfl⟩)
    go_ret
    exact ⟨by rw [hbf.out]; rfl, HX.out.bel⟩
  · cases s1 : inn tr 1 7
    · have hbf := Lib.hid (HF.out _ (fun h => (HB.out.1 h).2.1) (inn_false s1))
      go_enter Try.func30, Try.ntmps30
      go_wp2_with (go_at_call 42; refine (within_any _ _ _ _).mono ?_; rintro e w' ⟨rfl, rfl⟩)
      go_ret
      exact ⟨by rw [hbf.out]; rfl, HX.out.bel⟩
    · have HFR := Lib.hid (inn_true s0)
      have HTR := Lib.hid (inn_true s1)
      obtain ⟨bp, hbp⟩ := bool_of (PartsOk P)
      obtain ⟨bw, hbw⟩ := bool_of (WinsOk n1 fr W)
      obtain ⟨bc, hbc⟩ := bool_of (ChansOk n1 C)
      have HBP := Lib.hid hbp
      have HBW := Lib.hid hbw
      have HBC := Lib.hid hbc
      clear hbp hbw hbc
      have HR1 := fun w' (hb : Below w.heap.size w w') => parts_any ⟨fr, A1, n1, c1, P, A2, n2, c2, W, A3, n3, c3, C, tr⟩ w' (HO.out.below hb) bp HBP.out
      have HR2 := fun w' (hb : Below w.heap.size w w') => wins_any ⟨fr, A1, n1, c1, P, A2, n2, c2, W, A3, n3, c3, C, tr⟩ w' (HO.out.below hb) HFR.out.1 HFR.out.2 bw HBW.out
      have HR3 := fun w' (hb : Below w.heap.size w w') => chans_any ⟨fr, A1, n1, c1, P, A2, n2, c2, W, A3, n3, c3, C, tr⟩ w' (HO.out.below hb) bc HBC.out
      have H1 := Lib.hid HR1
      have H2 := Lib.hid HR2
      have H3 := Lib.hid HR3
      clear HR1 HR2 HR3
      go_enter Try.func30, Try.ntmps30
      go_wp2_with (go_at_call 42; refine (within_any _ _ _ _).mono ?_; rintro e w' ⟨rfl, rfl⟩)
      refine (H1.out _ HX.out.bel).mono ?_
      rintro e w2 ⟨rfl, hb2⟩
      have HX2 := Lib.hid (HX.out.step hb2)
      clear hb2
      obtain ⟨y0, y1, y2, y3, y4⟩ := HX2.out.cell
      dsimp only at y0 y1 y2 y3 y4
      cases bp
      · have hbf := Lib.hid (HF.out _ (fun h => (HB.out.1 h).2.2.1) (fun h => by have := HBP.out.2 h; cases this))
        go_wp2_with fail
        go_ret
        exact ⟨by rw [hbf.out]; rfl, HX2.out.bel⟩
      · go_wp2_with fail
        refine (H2.out _ HX2.out.bel).mono ?_
        rintro e w3 ⟨rfl, hb3⟩
        have HX3 := Lib.hid (HX2.out.step hb3)
        clear hb3 y0 y1 y2 y3 y4 HX2
        obtain ⟨y0, y1, y2, y3, y4⟩ := HX3.out.cell
        dsimp only at y0 y1 y2 y3 y4
        cases bw
        · have hbf := Lib.hid (HF.out _ (fun h => (HB.out.1 h).2.2.2.1) (fun h => by have := HBW.out.2 h; cases this))
          go_wp2_with fail
          go_ret
          exact ⟨by rw [hbf.out]; rfl, HX3.out.bel⟩
        · go_wp2_with fail
          refine (H3.out _ HX3.out.bel).mono ?_
          rintro e w4 ⟨rfl, hb4⟩
          have HX4 := Lib.hid (HX3.out.step hb4)
          clear hb4
          have hbb := Lib.hid (show b = bc from by
            rw [Bool.eq_iff_iff, HB.out]
            exact ⟨fun h => HBC.out.2 h.2.2.2.2, fun h => ⟨HFR.out, HTR.out, HBP.out.1 (by first | trivial | rfl), HBW.out.1 (by first | trivial | rfl), HBC.out.1 h⟩⟩)
          go_wp2_with fail
          go_ret
          exact ⟨by rw [hbb.out]; rfl, HX4.out.bel⟩

/-- Is a table more than a statement takes? -/
def huge (t : Ta) : Prop := 20 < t.n1 ∨ 40 < t.n2 ∨ 20 < t.n3
theorem drop_at {W : List Tri} {k : Nat} {r : Tri} (h : W[k]? = some r) : W.drop k = r :: W.drop (k + 1) := by
  obtain ⟨hk, rfl⟩ := List.getElem?_eq_some_iff.1 h
  exact List.drop_eq_getElem_cons hk
theorem WinOk.nonneg {m : Nat} {fr : Int} {W : List Tri} (h : ∀ (k : Nat) (r : Tri), W[k]? = some r → WinOk m fr W k r) : ∀ k, k ≤ W.length → 0 ≤ endAt W k
  | 0, _ => by simp [endAt]
  | k + 1, hk => by
    have hr : W[k]? = some W[k] := List.getElem?_eq_getElem (by omega)
    have h0 := h k _ hr
    have := nonneg h k (by omega)
    rw [endAt_next hr]
    have := h0.2.1
    have := h0.2.2.1
    omega
theorem WinOk.bounds {m : Nat} {fr : Int} {W : List Tri} (h : ∀ (k : Nat) (r : Tri), W[k]? = some r → WinOk m fr W k r) {k : Nat} {r : Tri} (hr : W[k]? = some r) : 0 ≤ r.b ∧ 1 ≤ r.c ∧ r.b + r.c ≤ fr ∧ 0 ≤ r.a ∧ r.a < m ∧ endAt W k ≤ r.b := by
  have h0 := h k r hr
  have h1 := WinOk.nonneg h k (by have := (List.getElem?_eq_some_iff.1 hr).1; omega)
  have h2 := h0.2.1
  have h3 := h0.2.2
  have h4 := h0.1
  omega
theorem endAt_le {m : Nat} {fr : Int} {W : List Tri} (hf : 0 ≤ fr) (h : ∀ (k : Nat) (r : Tri), W[k]? = some r → WinOk m fr W k r) : ∀ k, k ≤ W.length → endAt W k ≤ fr
  | 0, _ => by simpa [endAt] using hf
  | k + 1, hk => by
    have hr : W[k]? = some W[k] := List.getElem?_eq_getElem (by omega)
    obtain ⟨v0, v1, v2, v3, v4, v5⟩ := WinOk.bounds h hr
    rw [endAt_next hr]
    exact v2
end Go.Proofs.Ytliiinffkcgcaaa.TabD
