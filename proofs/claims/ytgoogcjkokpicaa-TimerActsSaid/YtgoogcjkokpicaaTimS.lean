/- The document's own timers (a list) in memory: First. Conditions: the list lies as the facts say. -/
import Derived.Test.YtgoogcjkokpicaaTimR
namespace Go.Proofs.Ytgoogcjkokpicaa.TimS
open Go.RowKit Go.Proofs.Ytgoogcjkokpicaa.Kit Go.Proofs.Ytgoogcjkokpicaa.Byt Go.Proofs.Ytgoogcjkokpicaa.Mem Go.Proofs.Ytgoogcjkokpicaa.TimM Go.Proofs.Ytgoogcjkokpicaa.TimA Go.Proofs.Ytgoogcjkokpicaa.TimN Go.Proofs.Ytgoogcjkokpicaa.TimQ Go.Proofs.Ytgoogcjkokpicaa.TimL Go.Proofs.Ytgoogcjkokpicaa.TimP Go.Proofs.Ytgoogcjkokpicaa.TimR

/-- The place of the first one among the first k. -/
def Bst (X : Xs) (k : Nat) (b : Int) : Prop := (k = 0 ∧ b = -1) ∨ ∃ (j : Nat) (p : Int × Int), j < k ∧ b = (j : Nat) ∧ X[j]? = some p ∧ ∀ i q, i < k → X[i]? = some q → le p q
theorem bst_yes {X : Xs} {k : Nat} {p : Int × Int} (hp : X[k]? = some p) (h : ∀ i q, i < k → X[i]? = some q → le p q) : Bst X (k + 1) (k : Nat) :=
  .inr ⟨k, p, by omega, rfl, hp, fun i q hi hq => by
    by_cases e : i = k
    · subst e
      rw [hp] at hq
      injection hq with hq
      subst hq
      exact le_refl _
    · exact h i q (by omega) hq⟩
theorem bst_no {X : Xs} {k j : Nat} {p q : Int × Int} (hj : j < k) (hp : X[j]? = some p) (h : ∀ i q, i < k → X[i]? = some q → le p q) (hq : X[k]? = some q) (hl : le p q) : Bst X (k + 1) (j : Nat) :=
  .inr ⟨j, p, by omega, rfl, hp, fun i r hi hr => by
    by_cases e : i = k
    · subst e
      rw [hq] at hr
      injection hr with hr
      subst hr
      exact hl
    · exact h i r (by omega) hr⟩
/-- The place of the one that is due first. -/
def Fst (X : Xs) (b : Int) : Prop := (minX X = none ∧ b = -1) ∨ ∃ (j : Nat) (p : Int × Int), b = (j : Nat) ∧ X[j]? = some p ∧ minX X = some p
theorem bst_all {X : Xs} {b : Int} (h : Bst X X.length b) : Fst X b := by
  rcases h with ⟨h1, h2⟩ | ⟨j, p, h1, h2, h3, h4⟩
  · have : X = [] := List.eq_nil_of_length_eq_zero h1
    subst this
    exact .inl ⟨rfl, h2⟩
  · refine .inr ⟨j, p, h2, h3, min_is (List.mem_of_getElem? h3) fun q hq => ?_⟩
    obtain ⟨i, hi, hie⟩ := List.getElem_of_mem hq
    exact h4 i q hi (by rw [List.getElem?_eq_getElem hi, hie])
set_option maxRecDepth 100000 in
set_option maxHeartbeats 6400000 in
theorem first_any {A : Option Addr} {n c : Nat} {X : Xs} {w : World} (h : On w A n c X) : Calls Try.prog 17 #[.slice A n c] w fun e w' => ∃ b, e = .returned (.int .i64 b) ∧ Fst X b ∧ ∃ q, w' = w.drewN q := by
  have HX := Lib.hid h
  have HLX := Lib.hid h.1
  have hn64 : n ≤ 9223372036854775807 := by have := h.2.1; have := h.2.2.1; omega
  clear h
  go_enter Try.func17, Try.ntmps17
  go_wp2
  go_loopw [3, 4] (fun s i wr => ∃ (k : Nat) (b : Int), k ≤ n ∧ i = .int .i64 k ∧ s = .int .i64 b ∧ Hid (Bst X k b) ∧ ∃ q, wr = w.drewN q) (fun _ i _ => n - (intOf i).toNat)
  case atStart => exact ⟨0, -1, Nat.zero_le _, rfl, rfl, Lib.hid (.inl ⟨rfl, rfl⟩), 0, rfl⟩
  case round =>
    obtain ⟨k, b, hk, rfl, rfl, HBS, q0, rfl⟩ := hrel
    by_cases hlt : k < n
    · obtain ⟨x, bx, ox, hx, rfl, _, x1, x2⟩ := HX.out.at_ hlt
      rcases HBS.out with ⟨rfl, rfl⟩ | ⟨j, p, hj, rfl, hp, hall⟩
      · have HR := Lib.hid (bst_yes hx fun i q hi => by omega)
        clear hx HBS
        go_wp2
        go_quiet (fail)
        go_wp2
        go_roundw
        case rel => exact ⟨1, (0 : Nat), by omega, rfl, rfl, HR, _, rfl⟩
        case measure => simp [intOf]; omega
      · obtain ⟨p', bp, op, hp', hA, _, y1, y2⟩ := HX.out.at_ (k := j) (by omega)
        obtain rfl : p = p' := by rw [hp] at hp'; injection hp'
        injection hA with hA
        injection hA with e1 e2
        subst e1 e2
        have hjn : j < n := by omega
        have hj0 : decide ((j : Int) < 0) = false := by simp
        by_cases h1 : x.2 < p.2
        · have d1 : decide (x.2 < p.2) = true := by simpa using h1
          have HR := Lib.hid (bst_yes hx fun i q hi hq => le_trans (.inl h1) (hall i q hi hq))
          clear hx hp hp' hall HBS h1
          go_wp2
          go_quiet (fail)
          go_wp2
          go_roundw
          case rel => exact ⟨k + 1, (k : Nat), by omega, by go_num, rfl, HR, _, rfl⟩
          case measure => simp [intOf]; omega
        · have d1 : decide (x.2 < p.2) = false := by simpa using h1
          by_cases h2 : x.2 = p.2
          · have d2 : (x.2 == p.2) = true := by simpa using h2
            by_cases h3 : x.1 < p.1
            · have d3 : decide (x.1 < p.1) = true := by simpa using h3
              have HR := Lib.hid (bst_yes hx fun i q hi hq => le_trans (.inr ⟨h2, by omega⟩) (hall i q hi hq))
              clear hx hp hp' hall HBS h1 h2 h3
              go_wp2
              go_quiet (fail)
              go_wp2
              go_roundw
              case rel => exact ⟨k + 1, (k : Nat), by omega, by go_num, rfl, HR, _, rfl⟩
              case measure => simp [intOf]; omega
            · have d3 : decide (x.1 < p.1) = false := by simpa using h3
              have HR := Lib.hid (bst_no hj hp hall hx (.inr ⟨h2.symm, by omega⟩))
              clear hx hp hp' hall HBS h1 h2 h3
              go_wp2
              go_quiet (fail)
              go_wp2
              go_roundw
              case rel => exact ⟨k + 1, (j : Nat), by omega, by go_num, rfl, HR, _, rfl⟩
              case measure => simp [intOf]; omega
          · have d2 : (x.2 == p.2) = false := by simpa using h2
            have HR := Lib.hid (bst_no hj hp hall hx (.inl (by omega)))
            clear hx hp hp' hall HBS h1 h2
            go_wp2
            go_quiet (fail)
            go_wp2
            go_roundw
            case rel => exact ⟨k + 1, (j : Nat), by omega, by go_num, rfl, HR, _, rfl⟩
            case measure => simp [intOf]; omega
    · obtain rfl : k = n := by omega
      have HR := Lib.hid (show Fst X b from bst_all (by rw [HLX.out]; exact HBS.out))
      clear HBS
      go_wp2
      go_ret
      exact ⟨b, rfl, HR.out, q0, rfl⟩
end Go.Proofs.Ytgoogcjkokpicaa.TimS
