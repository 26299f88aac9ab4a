/- Two slices of bytes held against each other by the reference. Conditions: each slice reads as the list that is named. -/
import Derived.Test.YtklpkafgmggacaaDoorByt
namespace Go.Proofs.YtklpkafgmggacaaDoor.Same
open Go.RowKit Go.Proofs.YtklpkafgmggacaaDoor.Kit Go.Proofs.YtklpkafgmggacaaDoor.Byt

abbrev u8s (xs : List Int) : List Value := xs.map (Value.int .u8)
theorem u8s_one (xs : List Int) : ∀ u ∈ u8s xs, u.oneCell' = true := ints_oneCell _ _

theorem u8s_len (xs : List Int) : (u8s xs).length = xs.length := List.length_map ..
theorem Rd.bytes {w : World} {A : Option Addr} {n c : Nat} {xs : List Int} (h : Rd w A n c (u8s xs)) : xs.length = n := by have := h.len; rwa [u8s_len] at this
theorem Rd.byte {w : World} {A : Option Addr} {n c : Nat} {xs : List Int} (h : Rd w A n c (u8s xs)) {k : Nat} (hk : k < xs.length) : ∃ b o, A = some ⟨b, o, none⟩ ∧ w.cell? ⟨b, o + k, none⟩ = some (.int .u8 xs[k]) := by
  obtain ⟨b, o, hA, hc⟩ := Rd.at_ h (k := k) (by have := Rd.bytes h; omega)
  exact ⟨b, o, hA, by simpa using hc⟩

set_option maxHeartbeats 400000 in
theorem same_any (A B : Option Addr) (n m c d : Nat) (xs ys : List Int) (w : World) (hx : Rd w A n c (u8s xs)) (hy : Rd w B m d (u8s ys)) :
    Calls Tryd.prog 11 #[.slice A n c, .slice B m d] w fun e w' => e = .returned (.bool (decide (xs = ys))) ∧ ∃ n, w' = w.drewN n := by
  obtain rfl := Rd.bytes hx
  obtain rfl := Rd.bytes hy
  have lx : xs.length ≤ 9223372036854775807 := by have := hx.le; have := hx.cap; omega
  have ly : ys.length ≤ 9223372036854775807 := by have := hy.le; have := hy.cap; omega
  by_cases hl : xs.length = ys.length
  · go_enter Tryd.func11, Tryd.ntmps11
    go_wp2
    go_loopw [5] (fun i wr => ∃ k : Nat, k ≤ xs.length ∧ i = .int .i64 k ∧ (∃ n, wr = w.drewN n) ∧ xs.take k = ys.take k) (fun i _ => xs.length - (intOf i).toNat)
    case atStart => exact ⟨0, Nat.zero_le _, rfl, ⟨0, rfl⟩, rfl⟩
    case round =>
      obtain ⟨k, hk, rfl, ⟨n, rfl⟩, he⟩ := hrel
      by_cases hlt : k < xs.length
      · obtain ⟨bx, ox, rfl, gx⟩ := Rd.byte hx hlt
        obtain ⟨by', oy, rfl, gy⟩ := Rd.byte hy (k := k) (by omega)
        have hlt' : k < ys.length := by omega
        go_wp2_with fail
        go_quiet (fail)
        go_wp2
        · have h : (xs[k] != ys[k]) = true := by assumption
          go_ret
          refine ⟨?_, _, World.drewN_drewN _ _ _⟩
          have hne : ¬ xs = ys := by
            intro hh; subst hh; simp at h
          simp [hne]
        · have h : (xs[k] != ys[k]) = false := by assumption
          go_roundw
          case rel =>
            refine ⟨k + 1, by omega, by go_num, ⟨_, rfl⟩, ?_⟩
            have h' : xs[k] = ys[k] := by simpa using h
            rw [List.take_succ_eq_append_getElem hlt, List.take_succ_eq_append_getElem hlt', he, h']
          case measure => simp [intOf]; omega
      · go_wp2
        go_ret
        refine ⟨?_, n, rfl⟩
        have hxy : xs = ys := by
          rw [List.take_of_length_le (by omega), List.take_of_length_le (by omega)] at he
          exact he
        simp [hxy]
  · have hne : ((xs.length : Int) != (ys.length : Int)) = true := by simp; omega
    go_enter Tryd.func11, Tryd.ntmps11
    go_wp2
    go_ret
    have : ¬ xs = ys := fun h => hl (by rw [h])
    exact ⟨by simp [this], 0, rfl⟩

theorem same_yes {A B : Option Addr} {n m c d : Nat} {xs : List Int} {w : World} (hx : Rd w A n c (u8s xs)) (hy : Rd w B m d (u8s xs)) :
    Calls Tryd.prog 11 #[.slice A n c, .slice B m d] w fun e w' => e = .returned (.bool true) ∧ ∃ n, w' = w.drewN n :=
  (same_any A B n m c d xs xs w hx hy).mono fun e w' h => ⟨by rw [h.1]; simp, h.2⟩

theorem u8n_u8s (xs : List Nat) : u8n xs = u8s (xs.map fun n : Nat => (n : Int)) := by simp [u8n, u8s]
theorem nat_inj {xs ys : List Nat} (h : xs.map (fun n : Nat => (n : Int)) = ys.map (fun n : Nat => (n : Int))) : xs = ys :=
  List.map_inj_right (f := fun n : Nat => (n : Int)) (fun _ _ h => Int.ofNat.inj h) |>.1 h
/-- Of bytes as numbers. -/
theorem same_n {A B : Option Addr} {n m c d : Nat} {xs ys : List Nat} {w : World} (hx : Rd w A n c (u8n xs)) (hy : Rd w B m d (u8n ys)) :
    Calls Tryd.prog 11 #[.slice A n c, .slice B m d] w fun e w' => e = .returned (.bool (decide (xs = ys))) ∧ ∃ n, w' = w.drewN n := by
  rw [u8n_u8s] at hx hy
  refine (same_any A B n m c d _ _ w hx hy).mono fun e w' h => ⟨?_, h.2⟩
  rw [h.1]
  congr 2
  rw [Bool.eq_iff_iff]
  simp only [decide_eq_true_eq]
  exact ⟨nat_inj, fun h => by rw [h]⟩

end Go.Proofs.YtklpkafgmggacaaDoor.Same
