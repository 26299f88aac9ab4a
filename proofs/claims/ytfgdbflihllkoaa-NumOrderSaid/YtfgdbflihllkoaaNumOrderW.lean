/- The walk of NumOrder: of two numbers of so many bytes the first unlike byte tells which is the greater. No conditions. -/
import Derived.Test.YtfgdbflihllkoaaNumC
namespace Go.Proofs.Ytfgdbflihllkoaa.NumOrderW
open Go.RowKit Go.Proofs.Ytfgdbflihllkoaa.Kit Go.Proofs.Ytfgdbflihllkoaa.NumA Go.Proofs.Ytfgdbflihllkoaa.NumB Go.Proofs.Ytfgdbflihllkoaa.NumC

theorem cl_lt (k : Nat) (n : Int) : cl k n < 2 ^ (8 * k) := by have := pow_pos' k; unfold cl; omega

/-- A byte of a number, by its place. -/
theorem Rd.be {w : World} {A : Option Addr} {n c k m : Nat} (h : Rd w A n c (u8s (be k m))) {j : Nat} (hj : j < k) :
    ∃ b o p : Nat, A = some ⟨b, o, none⟩ ∧ w.cell? ⟨b, o + j, none⟩ = some (.int .u8 (p : Int)) ∧ Hid (p = m / 2 ^ (8 * (k - 1 - j)) % 256) := by
  obtain ⟨b, o, hA, hc⟩ := Rd.byte h (k := j) (by rw [be_len]; exact hj)
  exact ⟨b, o, _, hA, by rw [hc]; simp [NumB.be], rfl⟩

theorem dig_next {k j m : Nat} (hj : j < k) : m / 2 ^ (8 * (k - (j + 1))) = 256 * (m / 2 ^ (8 * (k - j))) + m / 2 ^ (8 * (k - 1 - j)) % 256 := by
  have e1 : k - (j + 1) = k - 1 - j := by omega
  have e2 : 8 * (k - j) = 8 * (k - 1 - j) + 8 := by omega
  rw [e1, e2, Nat.pow_add, ← Nat.div_div_eq_div_mul]
  omega

theorem dig_lt {a b k j p q : Nat} (hj : j < k) (he : a / 2 ^ (8 * (k - j)) = b / 2 ^ (8 * (k - j))) (hp : p = a / 2 ^ (8 * (k - 1 - j)) % 256) (hq : q = b / 2 ^ (8 * (k - 1 - j)) % 256) (h : p < q) : a < b := by
  have h1 := dig_next (m := a) hj
  have h2 := dig_next (m := b) hj
  rcases Nat.lt_or_ge a b with hl | hl
  · exact hl
  · have := Nat.div_le_div_right (c := 2 ^ (8 * (k - (j + 1)))) hl
    omega

set_option maxHeartbeats 1000000 in
theorem hole (a0 : Int) (a1 : Int) (a2 : Int) (w0 : (Lit.int .i64 a0).wf = true) (w1 : (Lit.int .i64 a1).wf = true) (w2 : (Lit.int .i64 a2).wf = true) (w : World) :
    Calls Try.prog 6 #[.int .i64 a0, .int .i64 a1, .int .i64 a2] w fun e w' => e = .returned (.bool true) ∧ Below w.heap.size w w' := by
  have v1 := wd_pos a2
  have v2 := wd_le a2
  have p1 : (2 : Int) ^ (8 * wd a2) ≤ 281474976710656 := by have := pow_le v2; rw [← ipow]; omega
  have p2 : 1 ≤ (2 : Int) ^ (8 * wd a2) := by have := pow_pos' (wd a2); rw [← ipow]; omega
  go_enter Try.func6, Try.ntmps6
  go_wp2_with (go_at_call 8; refine (wakes_any _).mono ?_; rintro e w1 ⟨rfl, hb1⟩)
  refine (put_any none 0 0 [] a0 a2 _ (Rd.nil _) (by omega)).mono ?_
  rintro e w3 ⟨A3, n3, c3, hn3, rfl, hown3, hb3'⟩
  have hb3 := hb1.trans (hb3'.mono hb1.size)
  go_wp2_with fail
  refine (put_any none 0 0 [] a1 a2 _ (Rd.nil _) (by omega)).mono ?_
  rintro e w4 ⟨A4, n4, c4, hn4, rfl, hown4, hb4'⟩
  have hb4 := hb3.trans (hb4'.mono hb3.size)
  have hx : Rd w4 A3 n3 c3 (u8s (be (wd a2) (cl (wd a2) a0))) := (Rd.own hown3).below hb4'
  have hy : Rd w4 A4 n4 c4 (u8s (be (wd a2) (cl (wd a2) a1))) := Rd.own hown4
  have k3 : n3 ≤ wd a2 ∧ wd a2 ≤ n3 := by have := hn3.out; rw [List.nil_append, putb_len] at this; omega
  have k4 : n4 ≤ wd a2 ∧ wd a2 ≤ n4 := by have := hn4.out; rw [List.nil_append, putb_len] at this; omega
  clear hown3 hown4 hb4' hb3' hb3 hb1 hn3 hn4
  go_upto_region 5 with (go_at_call 15; refine (Width_any _ _).mono ?_; rintro e w' ⟨rfl, rfl⟩)
  go_cut [0, 1] (fun u v wx => u = .int .i64 (cl (wd a2) a0 : Nat) ∧ v = .int .i64 (cl (wd a2) a1 : Nat) ∧ w4 = wx)
  case first =>
    go_wp2
    all_goals (go_meet; case rel => exact ⟨int_eq (by first | exact cl_top ‹_› | exact cl_neg ‹_› | exact cl_mid ‹_› ‹_›), int_eq (by first | exact cl_top ‹_› | exact cl_neg ‹_› | exact cl_mid ‹_› ‹_›), rfl⟩)
  case rest =>
    obtain ⟨rfl, rfl, rfl⟩ := hcut
    obtain ⟨p, hp⟩ : ∃ p, p = cl (wd a2) a0 := ⟨_, rfl⟩
    obtain ⟨q, hq⟩ : ∃ q, q = cl (wd a2) a1 := ⟨_, rfl⟩
    rw [← hp, ← hq]
    rw [← hp] at hx
    rw [← hq] at hy
    have hpl : p < 2 ^ (8 * wd a2) := by rw [hp]; exact cl_lt _ _
    have hql : q < 2 ^ (8 * wd a2) := by rw [hq]; exact cl_lt _ _
    clear hp hq
    obtain ⟨k, hk⟩ : ∃ k, k = wd a2 := ⟨_, rfl⟩
    rw [← hk] at hx hy k3 k4 v1 v2 hpl hql
    have HP : Hid (p < 2 ^ (8 * k)) := hpl
    have HQ : Hid (q < 2 ^ (8 * k)) := hql
    clear hpl hql
    go_wp2
    go_loopw [34] (fun i wr => ∃ j : Nat, j ≤ k ∧ i = .int .i64 j ∧ (∃ n, wr = w4.drewN n) ∧ Hid (p / 2 ^ (8 * (k - j)) = q / 2 ^ (8 * (k - j)))) (fun i _ => k - (intOf i).toNat)
    case atStart => exact ⟨0, Nat.zero_le _, rfl, ⟨0, rfl⟩, (show _ = _ by rw [Nat.sub_zero, Nat.div_eq_of_lt HP.out, Nat.div_eq_of_lt HQ.out])⟩
    case round =>
      obtain ⟨j, hj, rfl, ⟨n, rfl⟩, he⟩ := hrel
      by_cases hlt : j < k
      · obtain ⟨bx, ox, x, rfl, gx, hx'⟩ := Rd.be hx hlt
        obtain ⟨bz, oz, y, rfl, gy, hy'⟩ := Rd.be hy hlt
        rcases Nat.lt_trichotomy x y with hxy | hxy | hxy
        · have hab := dig_lt hlt he.out hx'.out hy'.out hxy
          go_wp2_with fail
          go_quiet (fail)
          go_wp2
          go_quiet (fail)
          go_wp2
          go_ret
          exact ⟨by simp [hxy, hab], below_drewN (below_drewN (below_drewN hb4 _) _) _⟩
        · obtain rfl : x = y := hxy
          go_wp2_with fail
          go_quiet (fail)
          go_wp2
          go_roundw
          case rel =>
            refine ⟨j + 1, by omega, by go_num, ⟨_, rfl⟩, (show _ = _ from ?_)⟩
            rw [dig_next (m := p) hlt, dig_next (m := q) hlt, ← hx'.out, ← hy'.out, he.out]
          case measure => simp [intOf]; omega
        · have hab := dig_lt hlt he.out.symm hy'.out hx'.out hxy
          go_wp2_with fail
          go_quiet (fail)
          go_wp2
          go_quiet (fail)
          go_wp2
          go_ret
          have h1 : ¬ x < y := by omega
          have h2 : ¬ p < q := by omega
          exact ⟨by simp [h1, h2], below_drewN (below_drewN (below_drewN hb4 _) _) _⟩
      · obtain rfl : j = k := by omega
        have hpq : p = q := by
          have := he.out
          rw [Nat.sub_self, Nat.mul_zero, Nat.pow_zero, Nat.div_one, Nat.div_one] at this
          exact this
        obtain rfl := hpq
        go_wp2
        go_ret
        exact ⟨by simp, below_drewN hb4 _⟩

end Go.Proofs.Ytfgdbflihllkoaa.NumOrderW
