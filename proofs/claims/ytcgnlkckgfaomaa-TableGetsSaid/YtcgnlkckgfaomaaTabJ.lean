/- Reach of any partition; is a number in a list. Conditions: what is named lies as the facts say. -/
import Derived.Test.YtcgnlkckgfaomaaTabI
namespace Go.Proofs.Ytcgnlkckgfaomaa.TabJ
open Go.RowKit Go.Proofs.Ytcgnlkckgfaomaa.Kit Go.Proofs.Ytcgnlkckgfaomaa.Byt Go.Proofs.Ytcgnlkckgfaomaa.Mem Go.Proofs.Ytcgnlkckgfaomaa.TabA Go.Proofs.Ytcgnlkckgfaomaa.TabB Go.Proofs.Ytcgnlkckgfaomaa.TabC Go.Proofs.Ytcgnlkckgfaomaa.TabD Go.Proofs.Ytcgnlkckgfaomaa.TabE Go.Proofs.Ytcgnlkckgfaomaa.TabH Go.Proofs.Ytcgnlkckgfaomaa.TabI

theorem reach_any (t : Ta) (p : Int) (w : World) (h : t.ok w) (hr : right t) : Calls Try.prog 20 #[t.val, .int .i64 p] w fun e w' => ∃ A n c l, e = .returned (.slice A n c) ∧ Rd w' A n c (i64s l) ∧ Below w.heap.size w w' ∧ n ≤ 4 ∧ ∀ x : Int, x ∈ l ↔ (0 ≤ p ∧ p < (t.n1 : Int)) ∧ (0 ≤ x ∧ x < 4) ∧ Conn t.C p x := by
  by_cases hp : 0 ≤ p ∧ p < (t.n1 : Int)
  · obtain ⟨q, rfl⟩ : ∃ q : Nat, p = q := ⟨p.toNat, by omega⟩
    refine (reach_yes t q w h hr (by omega)).mono ?_
    rintro e w' ⟨S, hS, A, n, c, rfl, hR, hb⟩
    refine ⟨A, n, c, _, rfl, hR, hb, by have := hR.1; rw [i64s_len] at this; have := lst_len S 4; omega, fun x => ?_⟩
    rw [mem_lst]
    constructor
    · rintro ⟨k, hk, rfl, hs⟩
      exact ⟨hp, by omega, (hS k).1 hs⟩
    · rintro ⟨_, hx, hc⟩
      refine ⟨x.toNat, by omega, by omega, (hS _).2 ?_⟩
      rw [Int.toNat_of_nonneg hx.1]
      exact hc
  · refine (reach_no t p w h (fun h => hp ⟨h.2.1, h.2.2⟩)).mono ?_
    rintro e w' ⟨A, n, c, rfl, hR, hb⟩
    exact ⟨A, n, c, _, rfl, hR, hb, by have := hR.1; simp [i64s] at this; omega, fun x => ⟨fun h => by simp at h, fun h => absurd h.1 hp⟩⟩

theorem i64_at {w : World} {A : Option Addr} {n c : Nat} {l : List Int} (h : Rd w A n c (i64s l)) {k : Nat} (hk : k < n) : ∃ (x : Int) (b o : Nat), l[k]? = some x ∧ A = some ⟨b, o, none⟩ ∧ b < w.heap.size ∧ w.cell? ⟨b, o + k, none⟩ = some (.int .i64 x) := by
  obtain ⟨b, o, hA, hb, hc⟩ := h.2.2.2 (by omega)
  have hl : k < l.length := by have := h.1; rw [i64s_len] at this; omega
  exact ⟨l[k], b, o, List.getElem?_eq_getElem hl, hA, hb, hc k _ (by simp [i64s, List.getElem?_eq_getElem hl])⟩
theorem take_mem {l : List Int} {k : Nat} {x y : Int} (h : l[k]? = some x) : y ∈ l.take (k + 1) ↔ y ∈ l.take k ∨ y = x := by
  obtain ⟨hk, rfl⟩ := List.getElem?_eq_some_iff.1 h
  rw [List.take_succ_eq_append_getElem hk]
  simp only [List.mem_append, List.mem_singleton]
set_option maxHeartbeats 800000 in
theorem has_list (A : Option Addr) (n c : Nat) (l : List Int) (x : Int) (w : World) (h : Rd w A n c (i64s l)) (b : Bool) (hb : b = true ↔ x ∈ l) : Calls Try.prog 25 #[.slice A n c, .int .i64 x] w fun e w' => e = .returned (.bool b) ∧ w = w' := by
  have hm : n ≤ 9223372036854775807 := by have := h.2.1; have := h.2.2.1; omega
  have HR := Lib.hid h
  have HB := Lib.hid hb
  have HL := Lib.hid (show l.length = n from by have := h.1; rwa [i64s_len] at this)
  clear h hb
  go_enter Try.func25, Try.ntmps25
  go_wp2
  go_loopw [9] (fun i wr => ∃ k : Nat, k ≤ n ∧ i = .int .i64 k ∧ w = wr ∧ Hid (¬ x ∈ l.take k)) (fun i _ => n - (intOf i).toNat)
  case atStart => exact ⟨0, Nat.zero_le _, rfl, rfl, Lib.hid (by simp)⟩
  case round =>
    obtain ⟨k, hk, rfl, rfl, HN⟩ := hrel
    by_cases hlt : k < n
    · obtain ⟨y, b', o, hy, hA, hbl, q0⟩ := i64_at HR.out hlt
      subst hA
      have HT := Lib.hid (take_mem (y := x) hy)
      have HM := Lib.hid (List.mem_of_getElem? hy)
      clear hy
      by_cases he : y = x
      · have he' : (y == x) = true := by simpa using he
        have hbt := Lib.hid (HB.out.2 (he ▸ HM.out))
        clear he
        go_wp2
        go_ret
        exact ⟨by rw [hbt.out]; rfl, rfl⟩
      · have he' : (y == x) = false := by simpa using he
        have HE := Lib.hid he
        clear he
        go_wp2
        go_roundw
        case rel => exact ⟨k + 1, by omega, by go_num, (by first | trivial | rfl), Lib.hid (fun h => by
          rcases HT.out.1 h with h | h
          · exact HN.out h
          · exact HE.out h.symm)⟩
        case measure => simp [intOf]; omega
    · obtain rfl : k = n := by omega
      have hbf := Lib.hid (show b = false from by
        rw [Bool.eq_false_iff]
        intro h
        have := HN.out
        rw [List.take_of_length_le (by have := HL.out; omega)] at this
        exact this (HB.out.1 h))
      go_wp2
      go_ret
      exact ⟨by rw [hbf.out]; rfl, rfl⟩
end Go.Proofs.Ytcgnlkckgfaomaa.TabJ
