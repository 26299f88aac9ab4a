/- The reference's Window; two lists of numbers held against each other; a share is counted tick by tick. Conditions: the table lies as the facts say. -/
import Derived.Test.YtgmppjhfbemdjaaTabL
namespace Go.Proofs.Ytgmppjhfbemdjaa.TabM
open Go.RowKit Go.Proofs.Ytgmppjhfbemdjaa.Kit Go.Proofs.Ytgmppjhfbemdjaa.Byt Go.Proofs.Ytgmppjhfbemdjaa.Mem Go.Proofs.Ytgmppjhfbemdjaa.TabA Go.Proofs.Ytgmppjhfbemdjaa.TabB Go.Proofs.Ytgmppjhfbemdjaa.TabC Go.Proofs.Ytgmppjhfbemdjaa.TabD Go.Proofs.Ytgmppjhfbemdjaa.TabE Go.Proofs.Ytgmppjhfbemdjaa.TabH Go.Proofs.Ytgmppjhfbemdjaa.TabI Go.Proofs.Ytgmppjhfbemdjaa.TabJ Go.Proofs.Ytgmppjhfbemdjaa.TabL

theorem ends_rise {m : Nat} {fr : Int} {W : List Tri} (h : ∀ (k : Nat) (r : Tri), W[k]? = some r → WinOk m fr W k r) : ∀ (j i : Nat) (r : Tri), i ≤ j → W[j]? = some r → endAt W i ≤ r.b
  | 0, i, r, hi, hr => by
    obtain rfl : i = 0 := by omega
    exact (h 0 r hr).2.1
  | j + 1, i, r, hi, hr => by
    rcases Nat.lt_or_ge i (j + 1) with h1 | h1
    · have hl := (List.getElem?_eq_some_iff.1 hr).1
      have hj : W[j]? = some W[j] := List.getElem?_eq_getElem (by omega)
      have h2 := ends_rise h j i W[j] (by omega) hj
      have h3 := (h (j + 1) r hr).2.1
      rw [endAt_next hj] at h3
      have := (WinOk.bounds h hj).2.1
      omega
    · obtain rfl : i = j + 1 := by omega
      exact (h (j + 1) r hr).2.1
def inW (r : Tri) (x : Int) : Prop := r.b ≤ x ∧ x ≤ r.b + r.c - 1
theorem inW_one {m : Nat} {fr : Int} {W : List Tri} (h : ∀ (k : Nat) (r : Tri), W[k]? = some r → WinOk m fr W k r) {i j : Nat} {r s : Tri} {x : Int} (hr : W[i]? = some r) (hs : W[j]? = some s) (h1 : inW r x) (h2 : inW s x) : i = j := by
  rcases Nat.lt_trichotomy i j with h3 | h3 | h3
  · have := ends_rise h j (i + 1) s h3 hs
    rw [endAt_next hr] at this
    unfold inW at h1 h2; omega
  · exact h3
  · have := ends_rise h i (j + 1) r h3 hr
    rw [endAt_next hs] at this
    unfold inW at h1 h2; omega
/-- Which window it is. -/
theorem findW_spec (pos : Int) : ∀ (R : List Tri) (k : Nat), (findW pos k R = -1 ∧ ∀ r ∈ R, ¬ inW r pos) ∨ ∃ (j : Nat) (r : Tri), R[j]? = some r ∧ inW r pos ∧ findW pos k R = ((k + j : Nat) : Int)
  | [], k => .inl ⟨rfl, by simp⟩
  | r :: R, k => by
    by_cases h : r.b ≤ pos ∧ pos ≤ r.b + r.c - 1
    · exact .inr ⟨0, r, rfl, h, by rw [findW, if_pos h]; simp⟩
    · rcases findW_spec pos R (k + 1) with ⟨h1, h2⟩ | ⟨j, s, h1, h2, h3⟩
      · refine .inl ⟨by rw [findW, if_neg h, h1], fun x hx => ?_⟩
        rcases List.mem_cons.1 hx with rfl | hx
        · exact h
        · exact h2 x hx
      · exact .inr ⟨j + 1, s, by simpa using h1, h2, by rw [findW, if_neg h, h3]; congr 1; omega⟩
/-- How many of the first q ticks are the partition's, of the first k windows. -/
def clamp (r : Tri) (q : Int) : Int := if q ≤ r.b then 0 else if r.b + r.c ≤ q then r.c else q - r.b
def ticks (part : Int) (W : List Tri) (q : Int) : Nat → Int
  | 0 => 0
  | k + 1 => ticks part W q k + match W[k]? with
    | some r => if r.a = part then clamp r q else 0
    | none => 0
theorem ticks_next {part : Int} {W : List Tri} {q : Int} {k : Nat} {r : Tri} (h : W[k]? = some r) : ticks part W q (k + 1) = ticks part W q k + if r.a = part then clamp r q else 0 := by simp [ticks, h]
theorem ticks_zero {m : Nat} {fr part : Int} {W : List Tri} (h : ∀ (k : Nat) (r : Tri), W[k]? = some r → WinOk m fr W k r) : ∀ k, k ≤ W.length → ticks part W 0 k = 0
  | 0, _ => rfl
  | k + 1, hk => by
    have hr : W[k]? = some W[k] := List.getElem?_eq_getElem (by omega)
    obtain ⟨v0, _⟩ := WinOk.bounds h hr
    have hcl : clamp W[k] 0 = 0 := by unfold clamp; rw [if_pos v0]
    rw [ticks_next hr, ticks_zero h k (by omega), hcl]
    split <;> rfl
theorem ticks_all {m : Nat} {fr part : Int} {W : List Tri} (h : ∀ (k : Nat) (r : Tri), W[k]? = some r → WinOk m fr W k r) : ∀ k, k ≤ W.length → ticks part W fr k = shareTo part W k
  | 0, _ => rfl
  | k + 1, hk => by
    have hr : W[k]? = some W[k] := List.getElem?_eq_getElem (by omega)
    obtain ⟨v0, v1, v2, _⟩ := WinOk.bounds h hr
    have hcl : clamp W[k] fr = W[k].c := by unfold clamp; rw [if_neg (by omega), if_pos v2]
    rw [ticks_next hr, shareTo_next hr, ticks_all h k (by omega), hcl]
theorem clamp_in {r : Tri} {q : Int} (hc : 1 ≤ r.c) (h : inW r q) : clamp r (q + 1) = clamp r q + 1 := by
  unfold inW at h; unfold clamp; split <;> (try split) <;> (try split) <;> (try split) <;> omega
theorem clamp_out {r : Tri} {q : Int} (hc : 1 ≤ r.c) (h : ¬ inW r q) : clamp r (q + 1) = clamp r q := by
  unfold inW at h; unfold clamp; split <;> (try split) <;> (try split) <;> (try split) <;> omega
theorem ticks_miss {m : Nat} {fr part q : Int} {W : List Tri} (h : ∀ (k : Nat) (r : Tri), W[k]? = some r → WinOk m fr W k r) : ∀ k, k ≤ W.length → (∀ (j : Nat) (r : Tri), j < k → W[j]? = some r → ¬ inW r q) → ticks part W (q + 1) k = ticks part W q k
  | 0, _, _ => rfl
  | k + 1, hk, hn => by
    have hr : W[k]? = some W[k] := List.getElem?_eq_getElem (by omega)
    obtain ⟨v0, v1, _⟩ := WinOk.bounds h hr
    rw [ticks_next hr, ticks_next hr, ticks_miss h k (by omega) (fun j r hj => hn j r (by omega)), clamp_out v1 (hn k _ (by omega) hr)]
theorem ticks_hit {m : Nat} {fr part q : Int} {W : List Tri} (h : ∀ (k : Nat) (r : Tri), W[k]? = some r → WinOk m fr W k r) {j : Nat} {r : Tri} (hr : W[j]? = some r) (hin : inW r q) : ∀ k, j < k → k ≤ W.length → ticks part W (q + 1) k = ticks part W q k + if r.a = part then 1 else 0
  | 0, hj, _ => by omega
  | k + 1, hj, hk => by
    have hr' : W[k]? = some W[k] := List.getElem?_eq_getElem (by omega)
    obtain ⟨v0, v1, _⟩ := WinOk.bounds h hr'
    rcases Nat.lt_or_ge j k with h1 | h1
    · rw [ticks_next hr', ticks_next hr', ticks_hit h hr hin k h1 (by omega), clamp_out v1 (fun h2 => by have := inW_one h hr hr' hin h2; omega)]
      omega
    · obtain rfl : j = k := by omega
      rw [hr'] at hr
      injection hr with hr
      rw [ticks_next hr', ticks_next hr', ticks_miss h j (by omega) (fun i s hi hs h2 => by
        have := inW_one h hs hr' h2 (by rw [hr]; exact hin); omega), hr]
      split
      · rw [clamp_in (by rw [← hr]; exact v1) hin]; omega
      · omega
theorem ticks_bd {m : Nat} {fr part q : Int} {W : List Tri} (h : ∀ (k : Nat) (r : Tri), W[k]? = some r → WinOk m fr W k r) : ∀ k, k ≤ W.length → 0 ≤ ticks part W q k ∧ ticks part W q k ≤ endAt W k
  | 0, _ => by simp [ticks, endAt]
  | k + 1, hk => by
    have hr : W[k]? = some W[k] := List.getElem?_eq_getElem (by omega)
    obtain ⟨v0, v1, v2, v3, v4, v5⟩ := WinOk.bounds h hr
    have := ticks_bd (part := part) (q := q) h k (by omega)
    rw [endAt_next hr, ticks_next hr]
    unfold clamp
    split <;> (try split) <;> (try split) <;> omega

set_option maxHeartbeats 1600000 in
theorem rwindow_any (t : Ta) (pos : Int) (w : World) (h : t.ok w) (hr : right t) : Calls Try.prog 23 #[t.val, .int .i64 pos] w fun e w' => e = .returned (.int .i64 (winOf t pos)) ∧ Below w.heap.size w w' := by
  have HX := Lib.hid (Bx.new w t)
  have HO := Lib.hid h
  obtain ⟨fr, A1, n1, c1, P, A2, n2, c2, W, A3, n3, c3, C, tr⟩ := t
  have h64 : fr ≤ 64 := hr.1.2
  have hm : n2 ≤ 9223372036854775807 := h.W.le
  have HL := Lib.hid (show W.length = n2 from h.W.1)
  have HW := Lib.hid (show ∀ (k : Nat) (r : Tri), W[k]? = some r → WinOk P.length fr W k r from hr.2.2.2.1.2.1)
  clear h hr
  show Calls _ _ #[.agg #[.int .i64 fr, .slice A1 n1 c1, .slice A2 n2 c2, .slice A3 n3 c3, .int .i64 tr], .int .i64 pos] w _
  go_enter Try.func23, Try.ntmps23
  go_wp2_with fail
  go_loopw [5, 6] (fun i _ wr => ∃ k : Nat, k ≤ n2 ∧ i = .int .i64 k ∧ Hid (findW pos k (W.drop k) = findW pos 0 W) ∧ Hid (Bx w ⟨fr, A1, n1, c1, P, A2, n2, c2, W, A3, n3, c3, C, tr⟩ wr)) (fun i _ _ => n2 - (intOf i).toNat)
  case atStart => exact ⟨0, Nat.zero_le _, rfl, Lib.hid rfl, HX⟩
  case round =>
    obtain ⟨k, hk, rfl, HF, HX1⟩ := hrel
    obtain ⟨wo, rfl⟩ : ∃ wo : World, wo = wr := ⟨_, rfl⟩
    clear HX
    obtain ⟨z0, z1, z2, z3, z4⟩ := HX1.out.cell
    dsimp only at z0 z1 z2 z3 z4
    clear z0 z1 z3 z4
    by_cases hlt : k < n2
    · obtain ⟨r, b', o, hr, hok, hA, hb', q0, q1, q2⟩ := (HO.out.below HX1.out.bel).W.at_ hlt
      dsimp only at hr hA
      subst hA
      obtain ⟨v0, v1, v2, v3, v4, v5⟩ := WinOk.bounds HW.out hr
      have HN := Lib.hid (drop_at hr)
      clear hr hok v3 v4 v5 q0
      by_cases hin : r.b ≤ pos ∧ pos ≤ r.b + r.c - 1
      · obtain ⟨d, hd⟩ : ∃ d : Nat, pos - r.b = d := ⟨(pos - r.b).toNat, by omega⟩
        have hd1 : (d : Int) < r.c := by omega
        have HD := Lib.hid hd
        have HRES := Lib.hid (show (k : Int) = findW pos 0 W from by rw [← HF.out, HN.out, findW, if_pos hin])
        clear hd hin
        go_wp2_with fail
        go_loopw [6] (fun i wr => ∃ j : Nat, j ≤ d ∧ i = .int .i64 j ∧ wo = wr) (fun i _ => d + 1 - (intOf i).toNat)
        case atStart => exact ⟨0, Nat.zero_le _, rfl, rfl⟩
        case round =>
          obtain ⟨j, hj, rfl, rfl⟩ := hrel
          by_cases hjd : j = d
          · have he : (r.b + (j : Int) == pos) = true := by have := HD.out; simp; omega
            have hjc : (j : Int) < r.c := by omega
            clear hjd
            go_wp2_with fail
            go_ret
            exact ⟨ret_int HRES.out, HX1.out.bel⟩
          · have he : (r.b + (j : Int) == pos) = false := by have := HD.out; simp; omega
            have hjc : (j : Int) < r.c := by omega
            go_wp2_with fail
            go_roundw
            case rel => exact ⟨j + 1, by omega, by go_num, (by first | trivial | rfl)⟩
            case measure => simp [intOf]; omega
      · obtain ⟨cn, hcn⟩ : ∃ cn : Nat, r.c = cn := ⟨r.c.toNat, by omega⟩
        have HRES := Lib.hid (show findW pos (k + 1) (W.drop (k + 1)) = findW pos 0 W from by rw [← HF.out, HN.out, findW, if_neg hin])
        have HIN := Lib.hid hin
        have HCN := Lib.hid hcn
        rw [hcn] at q2 v1 v2
        clear hin hcn
        go_wp2_with fail
        go_loopw [6] (fun i wr => ∃ j : Nat, j ≤ cn ∧ i = .int .i64 j ∧ wo = wr) (fun i _ => cn - (intOf i).toNat)
        case atStart => exact ⟨0, Nat.zero_le _, rfl, rfl⟩
        case round =>
          obtain ⟨j, hj, rfl, rfl⟩ := hrel
          by_cases hjd : j < cn
          · have he : (r.b + (j : Int) == pos) = false := by have := HIN.out; have := HCN.out; simp; omega
            go_wp2_with fail
            go_roundw
            case rel => exact ⟨j + 1, by omega, by go_num, (by first | trivial | rfl)⟩
            case measure => simp [intOf]; omega
          · obtain rfl : cn = j := by omega
            go_wp2_with fail
            go_roundw
            case rel => exact ⟨k + 1, by omega, by go_num, HRES, HX1⟩
            case measure => simp [intOf]; omega
    · obtain rfl : n2 = k := by omega
      go_wp2
      go_ret
      refine ⟨ret_int ?_, HX1.out.bel⟩
      show (-1 : Int) = findW pos 0 W
      rw [← HF.out, List.drop_of_length_le (by have := HL.out; omega)]
      rfl

set_option maxHeartbeats 800000 in
theorem same_ints (A B : Option Addr) (n m c d : Nat) (xs : List Int) (w : World) (hx : Rd w A n c (i64s xs)) (hy : Rd w B m d (i64s xs)) :
    Calls Try.prog 24 #[.slice A n c, .slice B m d] w fun e w' => e = .returned (.bool true) ∧ ∃ n, w' = w.drewN n := by
  obtain rfl : xs.length = n := by have := hx.1; rwa [i64s_len] at this
  obtain rfl : xs.length = m := by have := hy.1; rwa [i64s_len] at this
  have lx : xs.length ≤ 9223372036854775807 := by have := hx.le; have := hx.cap; omega
  go_enter Try.func24, Try.ntmps24
  go_wp2
  go_loopw [5] (fun i wr => ∃ k : Nat, k ≤ xs.length ∧ i = .int .i64 k ∧ (∃ n, wr = w.drewN n)) (fun i _ => xs.length - (intOf i).toNat)
  case atStart => exact ⟨0, Nat.zero_le _, rfl, ⟨0, rfl⟩⟩
  case round =>
    obtain ⟨k, hk, rfl, ⟨n, rfl⟩⟩ := hrel
    by_cases hlt : k < xs.length
    · obtain ⟨x, bx, ox, hx1, rfl, _, gx⟩ := i64_at hx hlt
      obtain ⟨y, by', oy, hy1, rfl, _, gy⟩ := i64_at hy hlt
      obtain rfl : x = y := by rw [hx1] at hy1; injection hy1
      clear hx1 hy1
      go_wp2_with fail
      go_quiet (fail)
      go_wp2
      go_roundw
      case rel => exact ⟨k + 1, by omega, by go_num, ⟨_, rfl⟩⟩
      case measure => simp [intOf]; omega
    · go_wp2
      go_ret
      exact ⟨rfl, n, rfl⟩
end Go.Proofs.Ytgmppjhfbemdjaa.TabM
