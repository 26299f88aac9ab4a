/- Right, Window, Share; how long a table is; the laws' example. Conditions: the table lies as the facts say. -/
import Derived.Test.YtcgnlkckgfaomaaTabC
namespace Go.Proofs.Ytcgnlkckgfaomaa.TabD
open Go.RowKit Go.Proofs.Ytcgnlkckgfaomaa.Kit Go.Proofs.Ytcgnlkckgfaomaa.Byt Go.Proofs.Ytcgnlkckgfaomaa.Mem Go.Proofs.Ytcgnlkckgfaomaa.TabA Go.Proofs.Ytcgnlkckgfaomaa.TabB Go.Proofs.Ytcgnlkckgfaomaa.TabC

def right (t : Ta) : Prop := TOk t.fr t.tr t.P t.W t.C
open Classical in
theorem bool_of (p : Prop) : ∃ b : Bool, b = true ↔ p := ⟨decide p, by simp⟩

set_option maxHeartbeats 1600000 in
theorem right_any (t : Ta) (w : World) (h : t.ok w) (b : Bool) (hb : b = true ↔ right t) : Calls Try.prog 13 #[t.val] w (Yes w b) := by
  obtain ⟨fr, A1, n1, c1, P, A2, n2, c2, W, A3, n3, c3, C, tr⟩ := t
  have hn1 : P.length = n1 := h.P.1
  have hb : b = true ↔ (1 ≤ fr ∧ fr ≤ 64) ∧ (1 ≤ tr ∧ tr ≤ 7) ∧ PartsOk P ∧ WinsOk n1 fr W ∧ ChansOk n1 C := by rw [← hn1]; exact hb
  have HB := Lib.hid hb
  have HO := Lib.hid h
  clear h hb hn1
  show Calls _ _ #[.agg #[.int .i64 fr, .slice A1 n1 c1, .slice A2 n2 c2, .slice A3 n3 c3, .int .i64 tr]] w _
  have HX := Lib.hid (Bx.new w ⟨fr, A1, n1, c1, P, A2, n2, c2, W, A3, n3, c3, C, tr⟩)
  have HF := Lib.hid (show ∀ p : Prop, (b = true → p) → ¬ p → b = false from fun p h hp => by rw [Bool.eq_false_iff]; exact fun hb => hp (h hb))
  cases s0 : inn fr 1 64
  · have hbf := Lib.hid (HF.out _ (fun h => (HB.out.1 h).1) (inn_false s0))
    go_enter Try.func13, Try.ntmps13
    go_wp2_with (go_at_call 29; refine (within_any _ _ _ _).mono ?_; rintro e w' ⟨rfl, rfl⟩)
    go_ret
    exact ⟨by rw [hbf.out]; rfl, HX.out.bel⟩
  · cases s1 : inn tr 1 7
    · have hbf := Lib.hid (HF.out _ (fun h => (HB.out.1 h).2.1) (inn_false s1))
      go_enter Try.func13, Try.ntmps13
      go_wp2_with (go_at_call 29; refine (within_any _ _ _ _).mono ?_; rintro e w' ⟨rfl, rfl⟩)
      go_ret
      exact ⟨by rw [hbf.out]; rfl, HX.out.bel⟩
    · have HFR := Lib.hid (inn_true s0)
      have HTR := Lib.hid (inn_true s1)
      obtain ⟨bp, hbp⟩ := bool_of (PartsOk P)
      obtain ⟨bw, hbw⟩ := bool_of (WinsOk n1 fr W)
      obtain ⟨bc, hbc⟩ := bool_of (ChansOk n1 C)
      have HBP := Lib.hid hbp
      have HBW := Lib.hid hbw
      have HBC := Lib.hid hbc
      clear hbp hbw hbc
      have HR1 := fun w' (hb : Below w.heap.size w w') => parts_any ⟨fr, A1, n1, c1, P, A2, n2, c2, W, A3, n3, c3, C, tr⟩ w' (HO.out.below hb) bp HBP.out
      have HR2 := fun w' (hb : Below w.heap.size w w') => wins_any ⟨fr, A1, n1, c1, P, A2, n2, c2, W, A3, n3, c3, C, tr⟩ w' (HO.out.below hb) HFR.out.1 HFR.out.2 bw HBW.out
      have HR3 := fun w' (hb : Below w.heap.size w w') => chans_any ⟨fr, A1, n1, c1, P, A2, n2, c2, W, A3, n3, c3, C, tr⟩ w' (HO.out.below hb) bc HBC.out
      have H1 := Lib.hid HR1
      have H2 := Lib.hid HR2
      have H3 := Lib.hid HR3
      clear HR1 HR2 HR3
      go_enter Try.func13, Try.ntmps13
      go_wp2_with (go_at_call 29; refine (within_any _ _ _ _).mono ?_; rintro e w' ⟨rfl, rfl⟩)
      refine (H1.out _ HX.out.bel).mono ?_
      rintro e w2 ⟨rfl, hb2⟩
      have HX2 := Lib.hid (HX.out.step hb2)
      clear hb2
      obtain ⟨y0, y1, y2, y3, y4⟩ := HX2.out.cell
      dsimp only at y0 y1 y2 y3 y4
      cases bp
      · have hbf := Lib.hid (HF.out _ (fun h => (HB.out.1 h).2.2.1) (fun h => by have := HBP.out.2 h; cases this))
        go_wp2_with fail
        go_ret
        exact ⟨by rw [hbf.out]; rfl, HX2.out.bel⟩
      · go_wp2_with fail
        refine (H2.out _ HX2.out.bel).mono ?_
        rintro e w3 ⟨rfl, hb3⟩
        have HX3 := Lib.hid (HX2.out.step hb3)
        clear hb3 y0 y1 y2 y3 y4 HX2
        obtain ⟨y0, y1, y2, y3, y4⟩ := HX3.out.cell
        dsimp only at y0 y1 y2 y3 y4
        cases bw
        · have hbf := Lib.hid (HF.out _ (fun h => (HB.out.1 h).2.2.2.1) (fun h => by have := HBW.out.2 h; cases this))
          go_wp2_with fail
          go_ret
          exact ⟨by rw [hbf.out]; rfl, HX3.out.bel⟩
        · go_wp2_with fail
          refine (H3.out _ HX3.out.bel).mono ?_
          rintro e w4 ⟨rfl, hb4⟩
          have HX4 := Lib.hid (HX3.out.step hb4)
          clear hb4
          have hbb := Lib.hid (show b = bc from by
            rw [Bool.eq_iff_iff, HB.out]
            exact ⟨fun h => HBC.out.2 h.2.2.2.2, fun h => ⟨HFR.out, HTR.out, HBP.out.1 (by first | trivial | rfl), HBW.out.1 (by first | trivial | rfl), HBC.out.1 h⟩⟩)
          go_wp2_with fail
          go_ret
          exact ⟨by rw [hbb.out]; rfl, HX4.out.bel⟩

/-- Which window has the tick. -/
def findW (pos : Int) : Nat → List Tri → Int
  | _, [] => -1
  | k, r :: R => if r.b ≤ pos ∧ pos ≤ r.b + r.c - 1 then (k : Int) else findW pos (k + 1) R
theorem drop_at {W : List Tri} {k : Nat} {r : Tri} (h : W[k]? = some r) : W.drop k = r :: W.drop (k + 1) := by
  obtain ⟨hk, rfl⟩ := List.getElem?_eq_some_iff.1 h
  exact List.drop_eq_getElem_cons hk
theorem WinOk.nonneg {m : Nat} {fr : Int} {W : List Tri} (h : ∀ (k : Nat) (r : Tri), W[k]? = some r → WinOk m fr W k r) : ∀ k, k ≤ W.length → 0 ≤ endAt W k
  | 0, _ => by simp [endAt]
  | k + 1, hk => by
    have hr : W[k]? = some W[k] := List.getElem?_eq_getElem (by omega)
    have h0 := h k _ hr
    have := nonneg h k (by omega)
    rw [endAt_next hr]
    have := h0.2.1
    have := h0.2.2.1
    omega
theorem WinOk.bounds {m : Nat} {fr : Int} {W : List Tri} (h : ∀ (k : Nat) (r : Tri), W[k]? = some r → WinOk m fr W k r) {k : Nat} {r : Tri} (hr : W[k]? = some r) : 0 ≤ r.b ∧ 1 ≤ r.c ∧ r.b + r.c ≤ fr ∧ 0 ≤ r.a ∧ r.a < m ∧ endAt W k ≤ r.b := by
  have h0 := h k r hr
  have h1 := WinOk.nonneg h k (by have := (List.getElem?_eq_some_iff.1 hr).1; omega)
  have h2 := h0.2.1
  have h3 := h0.2.2
  have h4 := h0.1
  omega
def winOf (t : Ta) (pos : Int) : Int := findW pos 0 t.W

set_option maxHeartbeats 1600000 in
theorem window_no (t : Ta) (pos : Int) (w : World) (h : t.ok w) (hr : ¬ right t) : Calls Try.prog 19 #[t.val, .int .i64 pos] w fun e w' => e = .returned (.int .i64 (-1)) ∧ Below w.heap.size w w' := by
  have H1 := Lib.hid (fun w' (hb : Below w.heap.size w w') => right_any t w' (h.below hb) false (by simpa using hr))
  have HX := Lib.hid (Bx.new w t)
  clear h hr
  obtain ⟨fr, A1, n1, c1, P, A2, n2, c2, W, A3, n3, c3, C, tr⟩ := t
  show Calls _ _ #[.agg #[.int .i64 fr, .slice A1 n1 c1, .slice A2 n2 c2, .slice A3 n3 c3, .int .i64 tr], .int .i64 pos] w _
  go_enter Try.func19, Try.ntmps19
  go_wp2_with fail
  refine (H1.out _ HX.out.bel).mono ?_
  rintro e w2 ⟨rfl, hb2⟩
  have HX2 := Lib.hid (HX.out.step hb2)
  clear hb2
  go_wp2
  go_ret
  exact ⟨rfl, HX2.out.bel⟩

set_option maxHeartbeats 1600000 in
theorem window_yes (t : Ta) (pos : Int) (w : World) (h : t.ok w) (hr : right t) : Calls Try.prog 19 #[t.val, .int .i64 pos] w fun e w' => e = .returned (.int .i64 (winOf t pos)) ∧ Below w.heap.size w w' := by
  have H1 := Lib.hid (fun w' (hb : Below w.heap.size w w') => right_any t w' (h.below hb) true (by simpa using hr))
  have HX := Lib.hid (Bx.new w t)
  obtain ⟨fr, A1, n1, c1, P, A2, n2, c2, W, A3, n3, c3, C, tr⟩ := t
  have h64 : fr ≤ 64 := hr.1.2
  have hm : n2 ≤ 9223372036854775807 := h.W.le
  have HL := Lib.hid (show W.length = n2 from h.W.1)
  have HP := Lib.hid (show Tris w A2 n2 c2 W from h.W)
  have HW := Lib.hid (show ∀ (k : Nat) (r : Tri), W[k]? = some r → WinOk P.length fr W k r from hr.2.2.2.1.2.1)
  clear h hr
  show Calls _ _ #[.agg #[.int .i64 fr, .slice A1 n1 c1, .slice A2 n2 c2, .slice A3 n3 c3, .int .i64 tr], .int .i64 pos] w _
  go_enter Try.func19, Try.ntmps19
  go_wp2_with fail
  refine (H1.out _ HX.out.bel).mono ?_
  rintro e w2 ⟨rfl, hb2⟩
  have HX2 := Lib.hid (HX.out.step hb2)
  clear hb2 HX H1
  obtain ⟨y0, y1, y2, y3, y4⟩ := HX2.out.cell
  dsimp only at y0 y1 y2 y3 y4
  go_wp2_with fail
  clear y0 y1 y2 y3 y4
  go_loopw [13] (fun i wr => ∃ k : Nat, k ≤ n2 ∧ i = .int .i64 k ∧ Hid (findW pos k (W.drop k) = findW pos 0 W) ∧ Hid (Bx w ⟨fr, A1, n1, c1, P, A2, n2, c2, W, A3, n3, c3, C, tr⟩ wr)) (fun i _ => n2 - (intOf i).toNat)
  case atStart => exact ⟨0, Nat.zero_le _, rfl, Lib.hid rfl, HX2⟩
  case round =>
    obtain ⟨k, hk, rfl, HF, HX1⟩ := hrel
    have hsz := HX1.out.sz
    clear HX2
    by_cases hlt : k < n2
    · obtain ⟨r, b', o, hr, hok, hA, hb', q0, q1, q2⟩ := (HP.out.below HX1.out.bel).at_ hlt
      subst hA
      have HR := Lib.hid hr
      obtain ⟨v0, v1, v2, v3, v4, v5⟩ := WinOk.bounds HW.out hr
      have HN := Lib.hid (drop_at hr)
      clear hr hok v3 v4 v5
      cases s0 : inn pos r.b (r.b + r.c - 1)
      · go_wp2_with (go_at_call 29; refine (within_any _ _ _ _).mono ?_; rintro e w' ⟨rfl, rfl⟩)
        go_roundw
        case rel => exact ⟨k + 1, by omega, by go_num, Lib.hid (by rw [← HF.out, HN.out, findW, if_neg (inn_false s0)]), Lib.hid (HX1.out.alloc _)⟩
        case measure => simp [intOf]; omega
      · go_wp2_with (go_at_call 29; refine (within_any _ _ _ _).mono ?_; rintro e w' ⟨rfl, rfl⟩)
        go_ret
        refine ⟨ret_int ?_, (HX1.out.alloc _).bel⟩
        show (k : Int) = findW pos 0 W
        rw [← HF.out, HN.out, findW, if_pos (inn_true s0)]
    · obtain rfl : k = n2 := by omega
      go_wp2
      go_ret
      refine ⟨ret_int ?_, HX1.out.bel⟩
      show (-1 : Int) = findW pos 0 W
      rw [← HF.out, List.drop_of_length_le (by have := HL.out; omega)]
      rfl

/-- How many ticks of the first k windows are the partition's. -/
def shareTo (part : Int) (W : List Tri) : Nat → Int
  | 0 => 0
  | k + 1 => shareTo part W k + match W[k]? with
    | some r => if r.a = part then r.c else 0
    | none => 0
theorem shareTo_next {part : Int} {W : List Tri} {k : Nat} {r : Tri} (h : W[k]? = some r) : shareTo part W (k + 1) = shareTo part W k + if r.a = part then r.c else 0 := by simp [shareTo, h]
theorem shareTo_bd {part : Int} {m : Nat} {fr : Int} {W : List Tri} (h : ∀ (k : Nat) (r : Tri), W[k]? = some r → WinOk m fr W k r) : ∀ k, k ≤ W.length → 0 ≤ shareTo part W k ∧ shareTo part W k ≤ endAt W k
  | 0, _ => by simp [shareTo, endAt]
  | k + 1, hk => by
    have hr : W[k]? = some W[k] := List.getElem?_eq_getElem (by omega)
    obtain ⟨v0, v1, v2, v3, v4, v5⟩ := WinOk.bounds h hr
    have := shareTo_bd (part := part) h k (by omega)
    rw [endAt_next hr, shareTo_next hr]
    split <;> omega
theorem endAt_le {m : Nat} {fr : Int} {W : List Tri} (hf : 0 ≤ fr) (h : ∀ (k : Nat) (r : Tri), W[k]? = some r → WinOk m fr W k r) : ∀ k, k ≤ W.length → endAt W k ≤ fr
  | 0, _ => by simpa [endAt] using hf
  | k + 1, hk => by
    have hr : W[k]? = some W[k] := List.getElem?_eq_getElem (by omega)
    obtain ⟨v0, v1, v2, v3, v4, v5⟩ := WinOk.bounds h hr
    rw [endAt_next hr]
    exact v2
def shareOf (t : Ta) (part : Int) : Int := shareTo part t.W t.W.length

set_option maxHeartbeats 1600000 in
theorem share_no (t : Ta) (part : Int) (w : World) (h : t.ok w) (hr : ¬ right t) : Calls Try.prog 21 #[t.val, .int .i64 part] w fun e w' => e = .returned (.int .i64 0) ∧ Below w.heap.size w w' := by
  have H1 := Lib.hid (fun w' (hb : Below w.heap.size w w') => right_any t w' (h.below hb) false (by simpa using hr))
  have HX := Lib.hid (Bx.new w t)
  clear h hr
  obtain ⟨fr, A1, n1, c1, P, A2, n2, c2, W, A3, n3, c3, C, tr⟩ := t
  show Calls _ _ #[.agg #[.int .i64 fr, .slice A1 n1 c1, .slice A2 n2 c2, .slice A3 n3 c3, .int .i64 tr], .int .i64 part] w _
  go_enter Try.func21, Try.ntmps21
  go_wp2_with fail
  refine (H1.out _ HX.out.bel).mono ?_
  rintro e w2 ⟨rfl, hb2⟩
  have HX2 := Lib.hid (HX.out.step hb2)
  clear hb2
  go_wp2
  go_ret
  exact ⟨rfl, HX2.out.bel⟩

set_option maxHeartbeats 1600000 in
theorem share_yes (t : Ta) (part : Int) (w : World) (h : t.ok w) (hr : right t) : Calls Try.prog 21 #[t.val, .int .i64 part] w fun e w' => e = .returned (.int .i64 (shareOf t part)) ∧ Below w.heap.size w w' := by
  have H1 := Lib.hid (fun w' (hb : Below w.heap.size w w') => right_any t w' (h.below hb) true (by simpa using hr))
  have HX := Lib.hid (Bx.new w t)
  obtain ⟨fr, A1, n1, c1, P, A2, n2, c2, W, A3, n3, c3, C, tr⟩ := t
  have h0 : 1 ≤ fr := hr.1.1
  have h64 : fr ≤ 64 := hr.1.2
  have hm : n2 ≤ 9223372036854775807 := h.W.le
  have HL := Lib.hid (show W.length = n2 from h.W.1)
  have HP := Lib.hid (show Tris w A2 n2 c2 W from h.W)
  have HW := Lib.hid (show ∀ (k : Nat) (r : Tri), W[k]? = some r → WinOk P.length fr W k r from hr.2.2.2.1.2.1)
  clear h hr
  show Calls _ _ #[.agg #[.int .i64 fr, .slice A1 n1 c1, .slice A2 n2 c2, .slice A3 n3 c3, .int .i64 tr], .int .i64 part] w _
  go_enter Try.func21, Try.ntmps21
  go_wp2_with fail
  refine (H1.out _ HX.out.bel).mono ?_
  rintro e w2 ⟨rfl, hb2⟩
  have HX2 := Lib.hid (HX.out.step hb2)
  clear hb2 HX H1
  obtain ⟨y0, y1, y2, y3, y4⟩ := HX2.out.cell
  dsimp only at y0 y1 y2 y3 y4
  go_wp2_with fail
  clear y0 y1 y2 y3 y4
  go_loopw [5, 14] (fun s i wr => ∃ (k : Nat) (sv : Int), k ≤ n2 ∧ i = .int .i64 k ∧ s = .int .i64 sv ∧ Hid (sv = shareTo part W k) ∧ 0 ≤ sv ∧ sv ≤ 64 ∧ Hid (Bx w ⟨fr, A1, n1, c1, P, A2, n2, c2, W, A3, n3, c3, C, tr⟩ wr)) (fun _ i _ => n2 - (intOf i).toNat)
  case atStart => exact ⟨0, 0, Nat.zero_le _, rfl, rfl, Lib.hid rfl, by omega, by omega, HX2⟩
  case round =>
    obtain ⟨k, sv, hk, rfl, rfl, HS, l0, l1, HX1⟩ := hrel
    have hsz := HX1.out.sz
    clear HX2
    by_cases hlt : k < n2
    · obtain ⟨r, b', o, hr, hok, hA, hb', q0, q1, q2⟩ := (HP.out.below HX1.out.bel).at_ hlt
      subst hA
      obtain ⟨v0, v1, v2, v3, v4, v5⟩ := WinOk.bounds HW.out hr
      have HN := Lib.hid (shareTo_next (part := part) hr)
      have HBD := Lib.hid (shareTo_bd (part := part) HW.out (k + 1) (by have := HL.out; omega))
      have HLE := Lib.hid (endAt_le (by omega) HW.out (k + 1) (by have := HL.out; omega))
      clear hr hok v3 v4 v5
      by_cases ha : r.a = part
      · have ha' : (r.a == part) = true := by simpa using ha
        have HN' := Lib.hid (show shareTo part W (k + 1) = sv + r.c from by rw [HN.out, if_pos ha, HS.out])
        clear ha
        go_wp2
        go_roundw
        case rel => exact ⟨k + 1, sv + r.c, by omega, by go_num, rfl, Lib.hid HN'.out.symm, by omega, by have := HBD.out; have := HLE.out; have := HN'.out; omega, Lib.hid (HX1.out.alloc _)⟩
        case measure => simp [intOf]; omega
      · have ha' : (r.a == part) = false := by simpa using ha
        have HN' := Lib.hid (show shareTo part W (k + 1) = sv from by rw [HN.out, if_neg ha, HS.out]; omega)
        clear ha
        go_wp2
        go_roundw
        case rel => exact ⟨k + 1, sv, by omega, by go_num, rfl, Lib.hid HN'.out.symm, l0, l1, Lib.hid (HX1.out.alloc _)⟩
        case measure => simp [intOf]; omega
    · obtain rfl : k = n2 := by omega
      go_wp2
      go_ret
      refine ⟨ret_int ?_, HX1.out.bel⟩
      show sv = shareTo part W W.length
      rw [HS.out, HL.out]

/-- Is a table more than a statement takes? -/
def huge (t : Ta) : Prop := 20 < t.n1 ∨ 40 < t.n2 ∨ 20 < t.n3
set_option maxHeartbeats 400000 in
theorem long_any (t : Ta) (w : World) (h : t.ok w) (b : Bool) (hb : b = true ↔ huge t) : Calls Try.prog 10 #[t.val] w (Yes w b) := by
  obtain ⟨fr, A1, n1, c1, P, A2, n2, c2, W, A3, n3, c3, C, tr⟩ := t
  have hm1 : n1 ≤ 9223372036854775807 := h.P.le
  have hm2 : n2 ≤ 9223372036854775807 := h.W.le
  have hm3 : n3 ≤ 9223372036854775807 := h.C.le
  have HB := Lib.hid (show b = true ↔ 20 < n1 ∨ 40 < n2 ∨ 20 < n3 from hb)
  clear h hb
  show Calls _ _ #[.agg #[.int .i64 fr, .slice A1 n1 c1, .slice A2 n2 c2, .slice A3 n3 c3, .int .i64 tr]] w _
  by_cases h1 : 20 < n1
  · have hbt := Lib.hid (HB.out.2 (.inl h1))
    go_enter Try.func10, Try.ntmps10
    go_wp2
    go_ret
    exact ⟨by rw [hbt.out]; rfl, (Below.refl _ _).alloc (Nat.le_refl _) _⟩
  · by_cases h2 : 40 < n2
    · have hbt := Lib.hid (HB.out.2 (.inr (.inl h2)))
      go_enter Try.func10, Try.ntmps10
      go_wp2
      go_ret
      exact ⟨by rw [hbt.out]; rfl, (Below.refl _ _).alloc (Nat.le_refl _) _⟩
    · by_cases h3 : 20 < n3
      · have hbt := Lib.hid (HB.out.2 (.inr (.inr h3)))
        go_enter Try.func10, Try.ntmps10
        go_wp2
        go_ret
        exact ⟨by rw [hbt.out]; simp; omega, (Below.refl _ _).alloc (Nat.le_refl _) _⟩
      · have hbt := Lib.hid (show b = false from by rw [Bool.eq_false_iff]; intro hb; have := HB.out.1 hb; omega)
        go_enter Try.func10, Try.ntmps10
        go_wp2
        go_ret
        exact ⟨by rw [hbt.out]; simp; omega, (Below.refl _ _).alloc (Nat.le_refl _) _⟩
end Go.Proofs.Ytcgnlkckgfaomaa.TabD
