/- When a table is right: its windows, its channels, all of it. Conditions: the table lies as the facts say. -/
import Derived.Test.YtegnehdfedfphaaJ02
namespace Go.Proofs.Ytegnehdfedfphaa.TabC
open Go.RowKit Go.Proofs.Ytegnehdfedfphaa.Kit Go.Proofs.Ytegnehdfedfphaa.Byt Go.Proofs.Ytegnehdfedfphaa.Mem Go.Proofs.Ytegnehdfedfphaa.TabA Go.Proofs.Ytegnehdfedfphaa.TabB

def ChanOk (m : Nat) (r : Tri) : Prop := (0 ≤ r.a ∧ r.a ≤ (m : Int) - 1) ∧ (0 ≤ r.b ∧ r.b ≤ (m : Int) - 1) ∧ r.a ≠ r.b ∧ (0 ≤ r.c ∧ r.c ≤ 4)
def ChansOk (m : Nat) (C : List Tri) : Prop := C.length ≤ 4 ∧ ∀ (k : Nat) (r : Tri), C[k]? = some r → ChanOk m r
/-- Where the windows ahead of the k-th one end. -/
def endAt (W : List Tri) : Nat → Int
  | 0 => 0
  | k + 1 => match W[k]? with
    | some r => r.b + r.c
    | none => 0
theorem endAt_next {W : List Tri} {k : Nat} {r : Tri} (h : W[k]? = some r) : endAt W (k + 1) = r.b + r.c := by simp [endAt, h]
def WinOk (m : Nat) (fr : Int) (W : List Tri) (k : Nat) (r : Tri) : Prop := (0 ≤ r.a ∧ r.a ≤ (m : Int) - 1) ∧ endAt W k ≤ r.b ∧ (1 ≤ r.c ∧ r.c ≤ fr - r.b)
def WinsOk (m : Nat) (fr : Int) (W : List Tri) : Prop := W.length ≤ 8 ∧ (∀ (k : Nat) (r : Tri), W[k]? = some r → WinOk m fr W k r) ∧ ∃ (k : Nat) (r : Tri), W[k]? = some r ∧ r.a = 0
def TOk (fr tr : Int) (P W C : List Tri) : Prop := (1 ≤ fr ∧ fr ≤ 64) ∧ (1 ≤ tr ∧ tr ≤ 7) ∧ PartsOk P ∧ WinsOk P.length fr W ∧ ChansOk P.length C

set_option maxRecDepth 100000 in
set_option maxHeartbeats 1600000 in
theorem chans_any (t : Ta) (w : World) (h : t.ok w) (b : Bool) (hb : b = true ↔ ChansOk t.n1 t.C) : Calls Try.prog 42 #[t.val] w (Yes w b) := by
  obtain ⟨fr, A1, n1, c1, P, A2, n2, c2, W, A3, n3, c3, C, tr⟩ := t
  have hm1 : n1 ≤ 9223372036854775807 := h.P.le
  have hm : n3 ≤ 9223372036854775807 := h.C.le
  have HL := Lib.hid (show C.length = n3 from h.C.1)
  have HP := Lib.hid (show Tris w A3 n3 c3 C from h.C)
  have HB := Lib.hid (show b = true ↔ ChansOk n1 C from hb)
  clear h hb
  show Calls _ _ #[.agg #[.int .i64 fr, .slice A1 n1 c1, .slice A2 n2 c2, .slice A3 n3 c3, .int .i64 tr]] w _
  have HNO := Lib.hid (show ∀ (k : Nat) (r : Tri), C[k]? = some r → ¬ ChanOk n1 r → b = false from fun k r hr hp => by
    rw [Bool.eq_false_iff]
    intro hb
    exact hp ((HB.out.1 hb).2 k r hr))
  have HX := Lib.hid (Bx.new w ⟨fr, A1, n1, c1, P, A2, n2, c2, W, A3, n3, c3, C, tr⟩)
  by_cases hl : 4 < n3
  · have hb : b = false := by
      rw [Bool.eq_false_iff]
      intro hb
      have := (HB.out.1 hb).1
      have := HL.out
      omega
    go_enter Try.func42, Try.ntmps42
    go_wp2
    go_ret
    exact ⟨by first | rfl | (rw [hb]; rfl), HX.out.bel⟩
  · go_enter Try.func42, Try.ntmps42
    go_wp2
    go_loopw [12] (fun i wr => ∃ k : Nat, k ≤ n3 ∧ i = .int .i64 k ∧ Hid (upto (fun _ => ChanOk n1) C k) ∧ Hid (Bx w ⟨fr, A1, n1, c1, P, A2, n2, c2, W, A3, n3, c3, C, tr⟩ wr)) (fun i _ => n3 - (intOf i).toNat)
    case atStart => exact ⟨0, Nat.zero_le _, rfl, Lib.hid upto.zero, HX⟩
    case round =>
      obtain ⟨k, hk, rfl, HU, HX1⟩ := hrel
      have hsz := HX1.out.sz
      obtain ⟨z0, z1, z2, z3, z4⟩ := HX1.out.cell
      dsimp only at z0 z1 z2 z3 z4
      clear HX
      by_cases hlt : k < n3
      · obtain ⟨r, b', o, hr, hok, hA, hb', q0, q1, q2⟩ := (HP.out.below HX1.out.bel).at_ hlt
        subst hA
        have HR := Lib.hid hr
        have HO := Lib.hid hok
        clear hr hok
        cases s0 : inn r.a 0 ((n1 : Int) - 1)
        · go_wp2_with (go_at_call 52; refine (has_any _ _ _ _ _ _ _ _ _ _ _ _ hm1 _).mono ?_; rintro e w' ⟨rfl, rfl⟩)
          go_ret
          exact ⟨by rw [HNO.out k r HR.out (fun hp => inn_false s0 hp.1)]; rfl, ((HX1.out.alloc _).alloc _).bel⟩
        · cases s1 : inn r.b 0 ((n1 : Int) - 1)
          · go_wp2_with (go_at_call 52; refine (has_any _ _ _ _ _ _ _ _ _ _ _ _ hm1 _).mono ?_; rintro e w' ⟨rfl, rfl⟩)
            go_ret
            exact ⟨by rw [HNO.out k r HR.out (fun hp => inn_false s1 hp.2.1)]; rfl, (((HX1.out.alloc _).alloc _).alloc _).bel⟩
          · by_cases he : r.a = r.b
            · have he' : (r.a == r.b) = true := by simpa using he
              have HE := Lib.hid he
              clear he
              go_wp2_with (go_at_call 52; refine (has_any _ _ _ _ _ _ _ _ _ _ _ _ hm1 _).mono ?_; rintro e w' ⟨rfl, rfl⟩)
              go_ret
              exact ⟨by rw [HNO.out k r HR.out (fun hp => hp.2.2.1 HE.out)]; rfl, (((HX1.out.alloc _).alloc _).alloc _).bel⟩
            · have he' : (r.a == r.b) = false := by simpa using he
              have HE := Lib.hid he
              clear he
              cases s2 : inn r.c 0 4
              · go_wp2_with (first
                 | (go_at_call 52; refine (has_any _ _ _ _ _ _ _ _ _ _ _ _ hm1 _).mono ?_; rintro e w' ⟨rfl, rfl⟩)
                 | (go_at_call 39; refine (within_any _ _ _ _).mono ?_; rintro e w' ⟨rfl, rfl⟩))
                go_ret
                exact ⟨by rw [HNO.out k r HR.out (fun hp => inn_false s2 hp.2.2.2)]; rfl, (((HX1.out.alloc _).alloc _).alloc _).bel⟩
              · go_wp2_with (first
                 | (go_at_call 52; refine (has_any _ _ _ _ _ _ _ _ _ _ _ _ hm1 _).mono ?_; rintro e w' ⟨rfl, rfl⟩)
                 | (go_at_call 39; refine (within_any _ _ _ _).mono ?_; rintro e w' ⟨rfl, rfl⟩))
                go_roundw
                case rel => exact ⟨k + 1, by omega, by go_num, Lib.hid (HU.out.next HR.out ⟨inn_true s0, inn_true s1, HE.out, inn_true s2⟩), Lib.hid (((HX1.out.alloc _).alloc _).alloc _)⟩
                case measure => simp [intOf]; omega
      · obtain rfl : k = n3 := by omega
        go_wp2
        go_ret
        have hU := HU.out
        have hbt : b = true := HB.out.2 ⟨by have := HL.out; omega, by rw [← HL.out] at hU; exact hU.all⟩
        exact ⟨by rw [hbt]; rfl, HX1.out.bel⟩

def maint (W : List Tri) (k : Nat) : Prop := ∃ (j : Nat) (r : Tri), j < k ∧ W[j]? = some r ∧ r.a = 0
theorem maint.next {W : List Tri} {k : Nat} {r : Tri} (hr : W[k]? = some r) : maint W (k + 1) ↔ maint W k ∨ r.a = 0 := by
  constructor
  · rintro ⟨j, r', hj, hr', h0⟩
    rcases Nat.lt_or_ge j k with h1 | h1
    · exact .inl ⟨j, r', h1, hr', h0⟩
    · obtain rfl : j = k := by omega
      rw [hr] at hr'
      injection hr' with hr'
      exact .inr (hr' ▸ h0)
  · rintro (⟨j, r', hj, hr', h0⟩ | h0)
    · exact ⟨j, r', by omega, hr', h0⟩
    · exact ⟨k, r, by omega, hr, h0⟩

set_option maxRecDepth 100000 in
set_option maxHeartbeats 3200000 in
theorem wins_any (t : Ta) (w : World) (h : t.ok w) (h0 : 1 ≤ t.fr) (h64 : t.fr ≤ 64) (b : Bool) (hb : b = true ↔ WinsOk t.n1 t.fr t.W) : Calls Try.prog 41 #[t.val] w (Yes w b) := by
  obtain ⟨fr, A1, n1, c1, P, A2, n2, c2, W, A3, n3, c3, C, tr⟩ := t
  have h0 : 1 ≤ fr := h0
  have h64 : fr ≤ 64 := h64
  have hm1 : n1 ≤ 9223372036854775807 := h.P.le
  have hm : n2 ≤ 9223372036854775807 := h.W.le
  have HL := Lib.hid (show W.length = n2 from h.W.1)
  have HP := Lib.hid (show Tris w A2 n2 c2 W from h.W)
  have HB := Lib.hid (show b = true ↔ WinsOk n1 fr W from hb)
  clear h hb
  show Calls _ _ #[.agg #[.int .i64 fr, .slice A1 n1 c1, .slice A2 n2 c2, .slice A3 n3 c3, .int .i64 tr]] w _
  have HNO := Lib.hid (show ∀ (k : Nat) (r : Tri), W[k]? = some r → ¬ WinOk n1 fr W k r → b = false from fun k r hr hp => by
    rw [Bool.eq_false_iff]
    intro hb
    exact hp ((HB.out.1 hb).2.1 k r hr))
  have HX := Lib.hid (Bx.new w ⟨fr, A1, n1, c1, P, A2, n2, c2, W, A3, n3, c3, C, tr⟩)
  by_cases hl : 8 < n2
  · have hb : b = false := by
      rw [Bool.eq_false_iff]
      intro hb
      have := (HB.out.1 hb).1
      have := HL.out
      omega
    go_enter Try.func41, Try.ntmps41
    go_wp2
    go_ret
    exact ⟨by first | rfl | (rw [hb]; rfl), HX.out.bel⟩
  · go_enter Try.func41, Try.ntmps41
    go_wp2
    go_loopw [3, 4, 14] (fun e m i wr => ∃ (k : Nat) (ev : Int) (mb : Bool), k ≤ n2 ∧ i = .int .i64 k ∧ e = .int .i64 ev ∧ m = .bool mb ∧ Hid (ev = endAt W k) ∧ 0 ≤ ev ∧ ev ≤ fr ∧ Hid (mb = true ↔ maint W k) ∧ Hid (upto (WinOk n1 fr W) W k) ∧ Hid (Bx w ⟨fr, A1, n1, c1, P, A2, n2, c2, W, A3, n3, c3, C, tr⟩ wr)) (fun _ _ i _ => n2 - (intOf i).toNat)
    case atStart => exact ⟨0, 0, false, Nat.zero_le _, rfl, rfl, rfl, Lib.hid rfl, by omega, by omega, Lib.hid ⟨fun h => (by cases h), fun ⟨_, _, h, _⟩ => by omega⟩, Lib.hid upto.zero, HX⟩
    case round =>
      obtain ⟨k, ev, mb, hk, rfl, rfl, rfl, HE, e0, e1, HM, HU, HX1⟩ := hrel
      have hsz := HX1.out.sz
      obtain ⟨z0, z1, z2, z3, z4⟩ := HX1.out.cell
      dsimp only at z0 z1 z2 z3 z4
      clear HX
      by_cases hlt : k < n2
      · obtain ⟨r, b', o, hr, hok, hA, hb', q0, q1, q2⟩ := (HP.out.below HX1.out.bel).at_ hlt
        subst hA
        have HR := Lib.hid hr
        obtain ⟨oa0, oa1, ob0, ob1, oc0, oc1⟩ := hok
        clear hr
        cases s0 : inn r.a 0 ((n1 : Int) - 1)
        · go_wp2_with (go_at_call 52; refine (has_any _ _ _ _ _ _ _ _ _ _ _ _ hm1 _).mono ?_; rintro e w' ⟨rfl, rfl⟩)
          go_ret
          exact ⟨by rw [HNO.out k r HR.out (fun hp => inn_false s0 hp.1)]; rfl, ((HX1.out.alloc _).alloc _).bel⟩
        · by_cases h1 : r.b < ev
          · go_wp2_with (go_at_call 52; refine (has_any _ _ _ _ _ _ _ _ _ _ _ _ hm1 _).mono ?_; rintro e w' ⟨rfl, rfl⟩)
            go_ret
            exact ⟨by rw [HNO.out k r HR.out (fun hp => by have := hp.2.1; have := HE.out; omega)]; rfl, ((HX1.out.alloc _).alloc _).bel⟩
          · cases s2 : inn r.c 1 (fr - r.b)
            · go_wp2_with (first
               | (go_at_call 52; refine (has_any _ _ _ _ _ _ _ _ _ _ _ _ hm1 _).mono ?_; rintro e w' ⟨rfl, rfl⟩)
               | (go_at_call 39; refine (within_any _ _ _ _).mono ?_; rintro e w' ⟨rfl, rfl⟩))
              go_ret
              exact ⟨by rw [HNO.out k r HR.out (fun hp => inn_false s2 hp.2.2)]; rfl, ((HX1.out.alloc _).alloc _).bel⟩
            · have hc := inn_true s2
              have hnx := Lib.hid (endAt_next HR.out)
              have hwo := Lib.hid (show WinOk n1 fr W k r from ⟨inn_true s0, by have := HE.out; omega, hc⟩)
              have hmn := Lib.hid (maint.next HR.out)
              cases mb
              · by_cases ha : r.a = 0
                · have ha' : (r.a == 0) = true := by simpa using ha
                  have HA := Lib.hid ha
                  clear ha
                  go_wp2_with (first
                   | (go_at_call 52; refine (has_any _ _ _ _ _ _ _ _ _ _ _ _ hm1 _).mono ?_; rintro e w' ⟨rfl, rfl⟩)
                   | (go_at_call 39; refine (within_any _ _ _ _).mono ?_; rintro e w' ⟨rfl, rfl⟩))
                  go_roundw
                  case rel => exact ⟨k + 1, r.b + r.c, true, by omega, by go_num, rfl, rfl, Lib.hid hnx.out.symm, by omega, by omega, Lib.hid ⟨fun _ => hmn.out.2 (.inr HA.out), fun _ => rfl⟩, Lib.hid (HU.out.next HR.out hwo.out), Lib.hid ((HX1.out.alloc _).alloc _)⟩
                  case measure => simp [intOf]; omega
                · have ha' : (r.a == 0) = false := by simpa using ha
                  have HA := Lib.hid ha
                  clear ha
                  go_wp2_with (first
                   | (go_at_call 52; refine (has_any _ _ _ _ _ _ _ _ _ _ _ _ hm1 _).mono ?_; rintro e w' ⟨rfl, rfl⟩)
                   | (go_at_call 39; refine (within_any _ _ _ _).mono ?_; rintro e w' ⟨rfl, rfl⟩))
                  go_roundw
                  case rel => exact ⟨k + 1, r.b + r.c, false, by omega, by go_num, rfl, rfl, Lib.hid hnx.out.symm, by omega, by omega, Lib.hid ⟨fun h => (by cases h), fun h => by
                    rcases hmn.out.1 h with h | h
                    · exact HM.out.2 h
                    · exact absurd h HA.out⟩, Lib.hid (HU.out.next HR.out hwo.out), Lib.hid ((HX1.out.alloc _).alloc _)⟩
                  case measure => simp [intOf]; omega
              · go_wp2_with (first
                 | (go_at_call 52; refine (has_any _ _ _ _ _ _ _ _ _ _ _ _ hm1 _).mono ?_; rintro e w' ⟨rfl, rfl⟩)
                 | (go_at_call 39; refine (within_any _ _ _ _).mono ?_; rintro e w' ⟨rfl, rfl⟩))
                go_roundw
                case rel => exact ⟨k + 1, r.b + r.c, true, by omega, by go_num, rfl, rfl, Lib.hid hnx.out.symm, by omega, by omega, Lib.hid ⟨fun _ => hmn.out.2 (.inl (HM.out.1 (by first | trivial | rfl))), fun _ => rfl⟩, Lib.hid (HU.out.next HR.out hwo.out), Lib.hid ((HX1.out.alloc _).alloc _)⟩
                case measure => simp [intOf]; omega
      · obtain rfl : k = n2 := by omega
        go_wp2
        go_ret
        have hU := HU.out
        have hbt : b = mb := by
          rw [Bool.eq_iff_iff, HB.out, HM.out]
          rw [← HL.out] at hU
          exact ⟨fun h => by
            obtain ⟨k, r, hr, ha⟩ := h.2.2
            exact ⟨k, r, by have := (List.getElem?_eq_some_iff.1 hr).1; have := HL.out; omega, hr, ha⟩, fun ⟨j, r, _, hr, ha⟩ => ⟨by have := HL.out; omega, hU.all, j, r, hr, ha⟩⟩
        exact ⟨by rw [hbt]; rfl, HX1.out.bel⟩
end Go.Proofs.Ytegnehdfedfphaa.TabC
