/- The walk of PlaceApart. No conditions. -/
import Derived.Test.YtdfnnpnejginkaaPlaW
namespace Go.Proofs.Ytdfnnpnejginkaa.PlaceApartW
open Go.RowKit Go.Proofs.Ytdfnnpnejginkaa.Kit Go.Proofs.Ytdfnnpnejginkaa.PlaM Go.Proofs.Ytdfnnpnejginkaa.PlaN Go.Proofs.Ytdfnnpnejginkaa.PlaW
theorem tvt {x : Int} (h : 0 ≤ x) : tv x = x ∧ tb x = true := ⟨by unfold tv; rw [if_neg (by omega)], by unfold tb; simpa using h⟩
open Classical in
noncomputable def cnt (P : Prop) : Int := if P then 1 else 0
theorem cnt_bd (P : Prop) : 0 ≤ cnt P ∧ cnt P ≤ 1 := by unfold cnt; split <;> omega
theorem cnt_yes {P : Prop} (h : P) : cnt P = 1 := by unfold cnt; rw [if_pos h]
theorem cnt_no {P : Prop} (h : ¬ P) : cnt P = 0 := by unfold cnt; rw [if_neg h]
theorem cnt_eq {P Q : Prop} (h : P ↔ Q) : cnt P = cnt Q := by
  by_cases hp : P
  · rw [cnt_yes hp, cnt_yes (h.1 hp)]
  · rw [cnt_no hp, cnt_no (fun hq => hp (h.2 hq))]
theorem cnt_add {P Q : Prop} (h : ¬ P) (hq : Q) : cnt P + 1 = cnt Q := by rw [cnt_no h, cnt_yes hq]; rfl
theorem cs {p s : Nat} (hp : p < 4) (hs : s < 2) : rC p s = 10 * p + s := by unfold rC fnd; rw [if_pos (by omega), if_neg (by omega)]
theorem ss {p s : Nat} (hp : p < 4) (hs : s < 2) : rS p s = 10 * p + 2 + 4 * s := by
  have h : s = 0 ∨ s = 1 := by omega
  unfold rS fnd
  rcases h with rfl | rfl
  · rw [if_pos (by rfl), if_neg (by omega)]; omega
  · rw [if_neg (by decide), if_pos (by rfl), if_neg (by omega)]; omega
theorem ds {p s i : Nat} (hp : p < 4) (hs : s < 2) (hi : i < 3) : rD p s i = 10 * p + 3 + 4 * s + i := by
  unfold rD
  rw [ss hp hs, if_neg (by omega)]
  omega
/-- The law's turn at which a sector is met, if it is one of the forty. -/
def ord (x : Int) : Int := x - x % 10 + (if x % 10 = 0 then 0 else if x % 10 = 1 then 5 else if x % 10 ≤ 5 then x % 10 - 1 else x % 10)
/-- Was it met ahead of turn t? -/
def Q (x t : Int) : Prop := 0 ≤ x ∧ x ≤ 39 ∧ ord x < t
theorem ord_bd {x : Int} (h : 0 ≤ x ∧ x ≤ 39) : 0 ≤ ord x ∧ ord x ≤ 39 := by unfold ord; repeat (first | omega | split)
theorem ordC {p s : Nat} {x : Int} (_ : p < 4) (hs : s < 2) : x = 10 * p + s ↔ ord x = 10 * p + 5 * s := by
  have h : s = 0 ∨ s = 1 := by omega
  unfold ord
  rcases h with rfl | rfl <;> (repeat (first | omega | split))
theorem ordS {p s : Nat} {x : Int} (_ : p < 4) (hs : s < 2) : x = 10 * p + 2 + 4 * s ↔ ord x = 10 * p + 5 * s + 1 := by
  have h : s = 0 ∨ s = 1 := by omega
  unfold ord
  rcases h with rfl | rfl <;> (repeat (first | omega | split))
theorem ordD {p s i : Nat} {x : Int} (_ : p < 4) (hs : s < 2) (hi : i < 3) : x = 10 * p + 3 + 4 * s + i ↔ ord x = 10 * p + 5 * s + 2 + i := by
  have h : s = 0 ∨ s = 1 := by omega
  unfold ord
  rcases h with rfl | rfl <;> (repeat (first | omega | split))
theorem q_yes {x t : Int} (h : 0 ≤ x ∧ x ≤ 39) (ht : ord x = t) : cnt (Q x t) = 0 ∧ cnt (Q x (t + 1)) = 1 :=
  ⟨cnt_no (by unfold Q; omega), cnt_yes (by unfold Q; omega)⟩
theorem q_no {x t : Int} (ht : ord x ≠ t) : cnt (Q x t) = cnt (Q x (t + 1)) := cnt_eq (by unfold Q; omega)
theorem wC {p s : Nat} {x : Int} (hp : p < 4) (hs : s < 2) (h : x = 10 * p + s) : wp x = p ∧ wk x = 0 := by unfold wp wk; constructor <;> (repeat (first | omega | split))
theorem wS {p s : Nat} {x : Int} (hp : p < 4) (hs : s < 2) (h : x = 10 * p + 2 + 4 * s) : wp x = p ∧ wk x = 1 := by unfold wp wk; constructor <;> (repeat (first | omega | split))
theorem wD {p s i : Nat} {x : Int} (hp : p < 4) (hs : s < 2) (hi : i < 3) (h : x = 10 * p + 3 + 4 * s + i) : wp x = p ∧ wk x = 2 := by
  have h2 : s = 0 ∨ s = 1 := by omega
  unfold wp wk
  rcases h2 with rfl | rfl <;> constructor <;> (repeat (first | omega | split))
set_option maxRecDepth 100000 in
set_option maxHeartbeats 3200000 in
theorem core (x : Int) (w : World) (hx : n64 x) : Calls Try.prog 4 #[.int .i64 x] w (Yes w true) := by
  have HW := Lib.hid (fun w' => what_any x w' hx)
  have HC := Lib.hid (fun (p s : Nat) w' (hp : p < 4) (hs : s < 2) => (by have h := commit_any p s w' (n64_of (by omega)) (n64_of (by omega)); rw [(tvt (x := rC p s) (by rw [cs hp hs]; omega)).1, (tvt (x := rC p s) (by rw [cs hp hs]; omega)).2, cs hp hs] at h; exact h : Calls Try.prog 8 #[.int .i64 (p : Nat), .int .i64 (s : Nat)] w' fun e w'' => e = .returned (.tuple #[.int .i64 (10 * p + s), .bool true]) ∧ Below w'.heap.size w' w''))
  have HS := Lib.hid (fun (p s : Nat) w' (hp : p < 4) (hs : s < 2) => (by have h := stage_any p s w' (n64_of (by omega)) (n64_of (by omega)); rw [(tvt (x := rS p s) (by rw [ss hp hs]; omega)).1, (tvt (x := rS p s) (by rw [ss hp hs]; omega)).2, ss hp hs] at h; exact h : Calls Try.prog 9 #[.int .i64 (p : Nat), .int .i64 (s : Nat)] w' fun e w'' => e = .returned (.tuple #[.int .i64 (10 * p + 2 + 4 * s), .bool true]) ∧ Below w'.heap.size w' w''))
  have HD := Lib.hid (fun (p s i : Nat) w' (hp : p < 4) (hs : s < 2) (hi : i < 3) => (by have h := data_any p s i w' (n64_of (by omega)) (n64_of (by omega)) (n64_of (by omega)); rw [(tvt (x := rD p s i) (by rw [ds hp hs hi]; omega)).1, (tvt (x := rD p s i) (by rw [ds hp hs hi]; omega)).2, ds hp hs hi] at h; exact h : Calls Try.prog 10 #[.int .i64 (p : Nat), .int .i64 (s : Nat), .int .i64 (i : Nat)] w' fun e w'' => e = .returned (.tuple #[.int .i64 (10 * p + 3 + 4 * s + i), .bool true]) ∧ Below w'.heap.size w' w''))
  have HSE := Lib.hid (fun w' => (by have h := sectors_any 4 w' (n64_of (by omega)); rw [show sec 4 = 40 from by decide] at h; exact h : Calls Try.prog 15 #[.int .i64 4] w' fun e w'' => e = .returned (.int .i64 40) ∧ Below w'.heap.size w' w''))
  obtain ⟨P, hP⟩ : ∃ P, P = wp x := ⟨_, rfl⟩
  obtain ⟨K, hK⟩ : ∃ K, K = wk x := ⟨_, rfl⟩
  rw [← hP, ← hK] at HW
  have HP := Lib.hid hP
  have HK := Lib.hid hK
  clear hP hK hx
  go_enter Try.func4, Try.ntmps4
  go_wp2_with (first
    | (go_at_call 7; refine (wakes_any _).mono ?_; rintro e w1 ⟨rfl, hb1⟩; have HL1 := Lib.hid hb1; clear hb1)
    | (go_at_call 17; refine (HW.out _).mono ?_; rintro e w2 ⟨rfl, hb2⟩; have HL2 := Lib.hid (HL1.out.trans (hb2.mono HL1.out.size)); clear hb2))
  go_loopw [5, 22] (fun n i wr => ∃ (p : Nat) (q : Int), p ≤ 4 ∧ i = .int .i64 p ∧ n = .int .i64 q ∧ Hid (q = cnt (Q x (10 * p))) ∧ Hid (Below w.heap.size w wr)) (fun _ i _ => 4 - (intOf i).toNat)
  case atStart => exact ⟨0, 0, by omega, rfl, rfl, Lib.hid (by rw [cnt_no (by unfold Q; intro h; have := ord_bd ⟨h.1, h.2.1⟩; omega)]), HL2⟩
  case round =>
    obtain ⟨p, q, hp, rfl, rfl, hq, hL⟩ := hrel
    have hqb : 0 ≤ q ∧ q ≤ 1 := by rw [hq.out]; exact cnt_bd _
    by_cases hp4 : p < 4
    · go_wp2_with fail
      rename World => wo
      have hd4 : decide ((p : Int) < 4) = true := by simp; omega
      simp only [hd4]
      clear hd4
      go_loopw [5, 25] (fun n i wr => ∃ (s : Nat) (q : Int), s ≤ 2 ∧ i = .int .i64 s ∧ n = .int .i64 q ∧ Hid (q = cnt (Q x (10 * p + 5 * s))) ∧ Hid (Below w.heap.size w wr)) (fun _ i _ => 2 - (intOf i).toNat)
      case atStart => exact ⟨0, q, by omega, rfl, rfl, Lib.hid (by rw [hq.out]; congr 2), hL⟩
      case round =>
        clear hq hqb hL
        obtain ⟨s, q, hs, rfl, rfl, hq, hL⟩ := hrel
        have hqb : 0 ≤ q ∧ q ≤ 1 := by rw [hq.out]; exact cnt_bd _
        by_cases hs2 : s < 2
        · by_cases hC : x = 10 * p + s
          · have hW := wC hp4 hs2 hC
            rw [← HP.out, ← HK.out] at hW
            have e1 : ((10 * (p : Int) + s) == x) = true := by simp; omega
            have e2 : ((10 * (p : Int) + 2 + 4 * s) == x) = false := by simp; omega
            have e3 : (P != (p : Int)) = false := by simp [hW.1]
            have e4 : (K != 0) = false := by simp [hW.2]
            have ho := (ordC hp4 hs2).1 hC
            have hy := q_yes (t := 10 * p + 5 * s) (by omega) ho
            have hq0 : q = 0 := by rw [hq.out]; exact hy.1
            have HY := Lib.hid ((hy.2).symm.trans (q_no (t := 10 * p + 5 * s + 1) (by omega)))
            subst hq0
            clear hy hq hqb hW hC ho
            go_wp2_with (first
                        | (go_at_call 8; refine (HC.out p s _ hp4 hs2).mono ?_; rintro e w3 ⟨rfl, hb3⟩; have HL3 := Lib.hid (hL.out.trans (hb3.mono hL.out.size)); clear hb3)
                        | (go_at_call 9; refine (HS.out p s _ hp4 hs2).mono ?_; rintro e w4 ⟨rfl, hb4⟩; have HL4 := Lib.hid (HL3.out.trans (hb4.mono HL3.out.size)); clear hb4))
            rename World => wi
            go_loopw [5, 70] (fun n i wr => ∃ (j : Nat) (q : Int), j ≤ 3 ∧ i = .int .i64 j ∧ n = .int .i64 q ∧ Hid (q = cnt (Q x (10 * p + 5 * s + 2 + j))) ∧ Hid (Below w.heap.size w wr)) (fun _ i _ => 3 - (intOf i).toNat)
            case atStart => exact ⟨0, _, by omega, rfl, rfl, Lib.hid (by rw [HY.out]; congr 2 <;> omega), HL4⟩
            case round =>
              clear HY HL3 HL4 e1 e2 HC HS e3 e4
              obtain ⟨j, q, hj, rfl, rfl, hq, hL⟩ := hrel
              have hqb : 0 ≤ q ∧ q ≤ 1 := by rw [hq.out]; exact cnt_bd _
              by_cases hj3 : j < 3
              · by_cases hD : x = 10 * p + 3 + 4 * s + j
                · have hW := wD hp4 hs2 hj3 hD
                  rw [← HP.out, ← HK.out] at hW
                  have e1 : ((10 * (p : Int) + 3 + 4 * s + j) == x) = true := by simp; omega
                  have e3 : (P != (p : Int)) = false := by simp [hW.1]
                  have e4 : (K != 2) = false := by simp [hW.2]
                  have hy := q_yes (t := 10 * p + 5 * s + 2 + j) (by omega) ((ordD hp4 hs2 hj3).1 hD)
                  have hq0 : q = 0 := by rw [hq.out]; exact hy.1
                  have HY := Lib.hid hy.2
                  subst hq0
                  clear hy hq hqb hW hD
                  go_wp2_with (go_at_call 10; refine (HD.out p s j _ hp4 hs2 hj3).mono ?_; rintro e w5 ⟨rfl, hb5⟩; have HL5 := Lib.hid (hL.out.trans (hb5.mono hL.out.size)); clear hb5)
                  exact ⟨⟨j + 1, 1, by omega, by simp, rfl, Lib.hid (by rw [← HY.out]; congr 2 <;> omega), HL5⟩, by show 3 - ((j : Int) + 1).toNat < 3 - (j : Int).toNat; omega⟩
                · have e1 : ((10 * (p : Int) + 3 + 4 * s + j) == x) = false := by simp; omega
                  have HY := Lib.hid (hq.out.trans (q_no (t := 10 * p + 5 * s + 2 + j) (fun h => hD ((ordD hp4 hs2 hj3).2 h))))
                  clear hq hD
                  go_wp2_with (go_at_call 10; refine (HD.out p s j _ hp4 hs2 hj3).mono ?_; rintro e w5 ⟨rfl, hb5⟩; have HL5 := Lib.hid (hL.out.trans (hb5.mono hL.out.size)); clear hb5)
                  exact ⟨⟨j + 1, q, by omega, by simp, rfl, Lib.hid (by rw [HY.out]; congr 2 <;> omega), HL5⟩, by show 3 - ((j : Int) + 1).toNat < 3 - (j : Int).toNat; omega⟩
              · have hje : j = 3 := by omega
                subst hje
                go_wp2_with fail
                go_roundw
                case rel =>
                  exact ⟨s + 1, q, by omega, by simp, rfl, Lib.hid (by rw [hq.out]; congr 2 <;> omega), hL⟩
                case measure => simp [intOf]; omega
          · by_cases hS : x = 10 * p + 2 + 4 * s
            · clear hC
              have hW := wS hp4 hs2 hS
              rw [← HP.out, ← HK.out] at hW
              have e1 : ((10 * (p : Int) + s) == x) = false := by simp; omega
              have e2 : ((10 * (p : Int) + 2 + 4 * s) == x) = true := by simp; omega
              have e3 : (P != (p : Int)) = false := by simp [hW.1]
              have e4 : (K != 1) = false := by simp [hW.2]
              have ho := (ordS hp4 hs2).1 hS
              have hz := hq.out.trans (q_no (t := 10 * p + 5 * s) (by omega))
              have hy := q_yes (t := 10 * p + 5 * s + 1) (by omega) ho
              have hq0 : q = 0 := by rw [hz]; exact hy.1
              have HY := Lib.hid ((hy.2).symm)
              clear hz
              subst hq0
              clear hy hq hqb hW hS ho
              go_wp2_with (first
                            | (go_at_call 8; refine (HC.out p s _ hp4 hs2).mono ?_; rintro e w3 ⟨rfl, hb3⟩; have HL3 := Lib.hid (hL.out.trans (hb3.mono hL.out.size)); clear hb3)
                            | (go_at_call 9; refine (HS.out p s _ hp4 hs2).mono ?_; rintro e w4 ⟨rfl, hb4⟩; have HL4 := Lib.hid (HL3.out.trans (hb4.mono HL3.out.size)); clear hb4))
              rename World => wi
              go_loopw [5, 70] (fun n i wr => ∃ (j : Nat) (q : Int), j ≤ 3 ∧ i = .int .i64 j ∧ n = .int .i64 q ∧ Hid (q = cnt (Q x (10 * p + 5 * s + 2 + j))) ∧ Hid (Below w.heap.size w wr)) (fun _ i _ => 3 - (intOf i).toNat)
              case atStart => exact ⟨0, _, by omega, rfl, rfl, Lib.hid (by rw [HY.out]; congr 2 <;> omega), HL4⟩
              case round =>
                clear HY HL3 HL4 e1 e2 HC HS e3 e4
                obtain ⟨j, q, hj, rfl, rfl, hq, hL⟩ := hrel
                have hqb : 0 ≤ q ∧ q ≤ 1 := by rw [hq.out]; exact cnt_bd _
                by_cases hj3 : j < 3
                · by_cases hD : x = 10 * p + 3 + 4 * s + j
                  · have hW := wD hp4 hs2 hj3 hD
                    rw [← HP.out, ← HK.out] at hW
                    have e1 : ((10 * (p : Int) + 3 + 4 * s + j) == x) = true := by simp; omega
                    have e3 : (P != (p : Int)) = false := by simp [hW.1]
                    have e4 : (K != 2) = false := by simp [hW.2]
                    have hy := q_yes (t := 10 * p + 5 * s + 2 + j) (by omega) ((ordD hp4 hs2 hj3).1 hD)
                    have hq0 : q = 0 := by rw [hq.out]; exact hy.1
                    have HY := Lib.hid hy.2
                    subst hq0
                    clear hy hq hqb hW hD
                    go_wp2_with (go_at_call 10; refine (HD.out p s j _ hp4 hs2 hj3).mono ?_; rintro e w5 ⟨rfl, hb5⟩; have HL5 := Lib.hid (hL.out.trans (hb5.mono hL.out.size)); clear hb5)
                    exact ⟨⟨j + 1, 1, by omega, by simp, rfl, Lib.hid (by rw [← HY.out]; congr 2 <;> omega), HL5⟩, by show 3 - ((j : Int) + 1).toNat < 3 - (j : Int).toNat; omega⟩
                  · have e1 : ((10 * (p : Int) + 3 + 4 * s + j) == x) = false := by simp; omega
                    have HY := Lib.hid (hq.out.trans (q_no (t := 10 * p + 5 * s + 2 + j) (fun h => hD ((ordD hp4 hs2 hj3).2 h))))
                    clear hq hD
                    go_wp2_with (go_at_call 10; refine (HD.out p s j _ hp4 hs2 hj3).mono ?_; rintro e w5 ⟨rfl, hb5⟩; have HL5 := Lib.hid (hL.out.trans (hb5.mono hL.out.size)); clear hb5)
                    exact ⟨⟨j + 1, q, by omega, by simp, rfl, Lib.hid (by rw [HY.out]; congr 2 <;> omega), HL5⟩, by show 3 - ((j : Int) + 1).toNat < 3 - (j : Int).toNat; omega⟩
                · have hje : j = 3 := by omega
                  subst hje
                  go_wp2_with fail
                  go_roundw
                  case rel =>
                    exact ⟨s + 1, q, by omega, by simp, rfl, Lib.hid (by rw [hq.out]; congr 2 <;> omega), hL⟩
                  case measure => simp [intOf]; omega
            · have e1 : ((10 * (p : Int) + s) == x) = false := by simp; omega
              have e2 : ((10 * (p : Int) + 2 + 4 * s) == x) = false := by simp; omega
              have HY := Lib.hid ((hq.out.trans (q_no (t := 10 * p + 5 * s) (fun h => hC ((ordC hp4 hs2).2 h)))).trans (q_no (t := 10 * p + 5 * s + 1) (fun h => hS ((ordS hp4 hs2).2 h))))
              clear hq hqb hC hS
              go_wp2_with (first
                            | (go_at_call 8; refine (HC.out p s _ hp4 hs2).mono ?_; rintro e w3 ⟨rfl, hb3⟩; have HL3 := Lib.hid (hL.out.trans (hb3.mono hL.out.size)); clear hb3)
                            | (go_at_call 9; refine (HS.out p s _ hp4 hs2).mono ?_; rintro e w4 ⟨rfl, hb4⟩; have HL4 := Lib.hid (HL3.out.trans (hb4.mono HL3.out.size)); clear hb4))
              rename World => wi
              go_loopw [5, 70] (fun n i wr => ∃ (j : Nat) (q : Int), j ≤ 3 ∧ i = .int .i64 j ∧ n = .int .i64 q ∧ Hid (q = cnt (Q x (10 * p + 5 * s + 2 + j))) ∧ Hid (Below w.heap.size w wr)) (fun _ i _ => 3 - (intOf i).toNat)
              case atStart => exact ⟨0, _, by omega, rfl, rfl, Lib.hid (by rw [HY.out]; congr 2 <;> omega), HL4⟩
              case round =>
                clear HY HL3 HL4 e1 e2 HC HS
                obtain ⟨j, q, hj, rfl, rfl, hq, hL⟩ := hrel
                have hqb : 0 ≤ q ∧ q ≤ 1 := by rw [hq.out]; exact cnt_bd _
                by_cases hj3 : j < 3
                · by_cases hD : x = 10 * p + 3 + 4 * s + j
                  · have hW := wD hp4 hs2 hj3 hD
                    rw [← HP.out, ← HK.out] at hW
                    have e1 : ((10 * (p : Int) + 3 + 4 * s + j) == x) = true := by simp; omega
                    have e3 : (P != (p : Int)) = false := by simp [hW.1]
                    have e4 : (K != 2) = false := by simp [hW.2]
                    have hy := q_yes (t := 10 * p + 5 * s + 2 + j) (by omega) ((ordD hp4 hs2 hj3).1 hD)
                    have hq0 : q = 0 := by rw [hq.out]; exact hy.1
                    have HY := Lib.hid hy.2
                    subst hq0
                    clear hy hq hqb hW hD
                    go_wp2_with (go_at_call 10; refine (HD.out p s j _ hp4 hs2 hj3).mono ?_; rintro e w5 ⟨rfl, hb5⟩; have HL5 := Lib.hid (hL.out.trans (hb5.mono hL.out.size)); clear hb5)
                    exact ⟨⟨j + 1, 1, by omega, by simp, rfl, Lib.hid (by rw [← HY.out]; congr 2 <;> omega), HL5⟩, by show 3 - ((j : Int) + 1).toNat < 3 - (j : Int).toNat; omega⟩
                  · have e1 : ((10 * (p : Int) + 3 + 4 * s + j) == x) = false := by simp; omega
                    have HY := Lib.hid (hq.out.trans (q_no (t := 10 * p + 5 * s + 2 + j) (fun h => hD ((ordD hp4 hs2 hj3).2 h))))
                    clear hq hD
                    go_wp2_with (go_at_call 10; refine (HD.out p s j _ hp4 hs2 hj3).mono ?_; rintro e w5 ⟨rfl, hb5⟩; have HL5 := Lib.hid (hL.out.trans (hb5.mono hL.out.size)); clear hb5)
                    exact ⟨⟨j + 1, q, by omega, by simp, rfl, Lib.hid (by rw [HY.out]; congr 2 <;> omega), HL5⟩, by show 3 - ((j : Int) + 1).toNat < 3 - (j : Int).toNat; omega⟩
                · have hje : j = 3 := by omega
                  subst hje
                  go_wp2_with fail
                  go_roundw
                  case rel =>
                    exact ⟨s + 1, q, by omega, by simp, rfl, Lib.hid (by rw [hq.out]; congr 2 <;> omega), hL⟩
                  case measure => simp [intOf]; omega
        · have hse : s = 2 := by omega
          subst hse
          go_wp2_with fail
          exact ⟨⟨p + 1, q, by omega, by simp, rfl, Lib.hid (by rw [hq.out]; congr 2 <;> omega), hL⟩, by show 4 - ((p : Int) + 1).toNat < 4 - (p : Int).toNat; omega⟩
    · have hpe : p = 4 := by omega
      subst hpe
      by_cases hx : 0 ≤ x ∧ x ≤ 39
      · have hq1 : q = 1 := by rw [hq.out]; exact cnt_yes ⟨hx.1, hx.2, by have := ord_bd hx; omega⟩
        subst hq1
        go_wp2_with (go_at_call 15; refine (HSE.out _).mono ?_; rintro e w6 ⟨rfl, hb6⟩; have HL6 := Lib.hid (hL.out.trans (hb6.mono hL.out.size)); clear hb6)
        go_ret
        exact ⟨rfl, HL6.out⟩
      · have hq1 : q = 0 := by rw [hq.out]; exact cnt_no (by unfold Q; omega)
        have hw1 : P = -1 := by rw [HP.out]; unfold wp; rw [if_neg (by omega)]
        have hw2 : K = -1 := by rw [HK.out]; unfold wk; rw [if_neg (by omega)]
        subst hq1
        by_cases hx0 : x < 0
        · go_wp2_with (go_at_call 15; refine (HSE.out _).mono ?_; rintro e w6 ⟨rfl, hb6⟩; have HL6 := Lib.hid (hL.out.trans (hb6.mono hL.out.size)); clear hb6)
          go_ret
          exact ⟨rfl, hL.out⟩
        · go_wp2_with (go_at_call 15; refine (HSE.out _).mono ?_; rintro e w6 ⟨rfl, hb6⟩; have HL6 := Lib.hid (hL.out.trans (hb6.mono hL.out.size)); clear hb6)
          go_ret
          exact ⟨rfl, HL6.out⟩
theorem hole (a0 : Int) (w0 : (Lit.int .i64 a0).wf = true) (w : World) :
    Calls Try.prog 4 #[.int .i64 a0] w fun e w' => e = .returned (.bool true) ∧ Below w.heap.size w w' := core a0 w (bounds_i64 w0)
end Go.Proofs.Ytdfnnpnejginkaa.PlaceApartW
