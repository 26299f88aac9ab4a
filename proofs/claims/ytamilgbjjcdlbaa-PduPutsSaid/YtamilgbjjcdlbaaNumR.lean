/- The reference's answer for a number's bytes. Conditions: the number is one of 64 bits. -/
import Derived.Test.YtamilgbjjcdlbaaNumB
namespace Go.Proofs.Ytamilgbjjcdlbaa.NumR
open Go.RowKit Go.Proofs.Ytamilgbjjcdlbaa.Kit Go.Proofs.Ytamilgbjjcdlbaa.NumA Go.Proofs.Ytamilgbjjcdlbaa.NumB


theorem ret_fresh {w w' : World} {xs ys : List Int} {A : Option Addr} {n c : Nat} (h : w'.ownsRow w.heap.size 5 1 (.slice A n c) n (u8s xs)) (hb : Below w.heap.size w w') (he : xs = ys) : Fresh w ys (.returned (.slice A n c)) w' := by
  subst he
  exact Fresh.of h hb
theorem be_zero (k : Nat) : be k 0 = List.replicate k 0 := by
  apply List.ext_getElem
  · simp [be_len]
  · intro i h1 h2
    simp [be]

/-- What the reference's first loop has made when it stands at place m - 1. -/
def Part (k : Nat) (q : Int) (m : Nat) (cs : List Int) : Prop := cs.length = k ∧ ∀ j, (h : j < cs.length) → cs[j] = if m ≤ j then q / 2 ^ (8 * (k - 1 - j)) % 256 else 0

theorem r_next {k m r : Nat} {n : Int} (hm : m ≤ k) (h0 : 1 ≤ m) (hr : (r : Int) = n / 2 ^ (8 * (k - m))) : ((r / 256 : Nat) : Int) = n / 2 ^ (8 * (k - (m - 1))) := by
  have e : 8 * (k - (m - 1)) = 8 * (k - m) + 8 := by omega
  rw [e, Int.pow_add, ← Int.ediv_ediv_of_nonneg (by exact Int.le_of_lt (Int.pow_pos (by omega))), ← hr]
  simp
theorem Part.next {k m r : Nat} {n : Int} {cs : List Int} (h : Part k n m cs) (h0 : 1 ≤ m) (hm : m ≤ k) (hr : (r : Int) = n / 2 ^ (8 * (k - m))) : Part k n (m - 1) (cs.set (m - 1) ((r : Int) % 256)) := by
  refine ⟨by rw [List.length_set]; exact h.1, fun j hj => ?_⟩
  rw [List.getElem_set]
  by_cases e : m - 1 = j
  · subst e
    rw [if_pos rfl, if_pos (Nat.le_refl _), hr]
    congr 3
    omega
  · rw [if_neg e, h.2 j (by simpa using hj)]
    by_cases h1 : m ≤ j
    · rw [if_pos h1, if_pos (by omega)]
    · rw [if_neg h1, if_neg (by omega)]
theorem Part.all {k : Nat} {n : Int} {cs : List Int} (h : Part k n 0 cs) (hn : 0 ≤ n) : cs = be k n.toNat := by
  apply List.ext_getElem
  · rw [h.1, be_len]
  · intro i h1 h2
    rw [h.2 i h1, if_pos (Nat.zero_le _)]
    simp only [be, List.getElem_map, List.getElem_range]
    rw [Int.natCast_emod, Int.natCast_ediv, ipow, Int.toNat_of_nonneg hn]
    rfl
theorem Part.done {k : Nat} {n : Int} {cs : List Int} (h : Part k n 0 cs) (hn : 0 ≤ n) (hr : ((0 : Nat) : Int) = n / 2 ^ (8 * (k - 0))) : cs = be k (cl k n) := by
  rw [Part.all h hn]
  congr 1
  unfold cl
  have p := pow_pos' k
  rw [Nat.sub_zero, ← ipow] at hr
  have : n < ((2 ^ (8 * k) : Nat) : Int) := by
    have := Int.lt_mul_of_ediv_lt (a := n) (b := 1) (c := ((2 ^ (8 * k) : Nat) : Int)) (by omega) (by omega)
    omega
  omega

def Top (k j : Nat) (cs : List Int) : Prop := cs.length = k ∧ ∀ i, (h : i < cs.length) → i < j → cs[i] = 255
theorem Top.next {k j : Nat} {cs : List Int} (h : Top k j cs) : Top k (j + 1) (cs.set j 255) := by
  refine ⟨by rw [List.length_set]; exact h.1, fun i hi hij => ?_⟩
  rw [List.getElem_set]
  by_cases e : j = i
  · rw [if_pos e]
  · rw [if_neg e]
    exact h.2 i (by simpa using hi) (by omega)
theorem be_top {k : Nat} (h : k ≤ 6) : be k (2 ^ (8 * k) - 1) = List.replicate k 255 := by
  match k, h with
  | 0, _ => rfl
  | 1, _ => rfl
  | 2, _ => rfl
  | 3, _ => rfl
  | 4, _ => rfl
  | 5, _ => rfl
  | 6, _ => rfl
theorem Top.done {k r : Nat} {n : Int} {cs : List Int} (h : Top k k cs) (hk : k ≤ 6) (h0 : 0 < r) (hr : (r : Int) = n / 2 ^ (8 * (k - 0))) : cs = be k (cl k n) := by
  have p := pow_pos' k
  have e : cl k n = 2 ^ (8 * k) - 1 := by
    unfold cl
    rw [Nat.sub_zero, ← ipow] at hr
    have : ((2 ^ (8 * k) : Nat) : Int) ≤ n := by
      rcases Int.lt_or_le n ((2 ^ (8 * k) : Nat) : Int) with h1 | h1
      · have h2 : n / ((2 ^ (8 * k) : Nat) : Int) < 1 := Int.ediv_lt_of_lt_mul (by omega) (by omega)
        omega
      · exact h1
    omega
  rw [e, be_top hk]
  apply List.ext_getElem
  · simpa using h.1
  · intro i h1 h2
    rw [h.2 i h1 (by have := h.1; omega)]
    simp

set_option maxRecDepth 100000 in
set_option maxHeartbeats 400000 in
theorem rput_any (n x : Int) (w : World) (hq2 : n ≤ 9223372036854775807) :
    Calls Try.prog 32 #[.int .i64 n, .int .i64 x] w fun e w' => Fresh w (putb n x) e w' := by
  obtain ⟨i0, hi0, hz0, hz1, hz2⟩ := info_parts info8
  have w1 := wd_pos x
  have w2 := wd_le x
  by_cases hn : n < 0
  · go_enter Try.func32, Try.ntmps32
    go_wp2_with (first
     | (go_at_call 43; refine (Width_any _ _).mono ?_; rintro e w' ⟨rfl, rfl⟩)
     | (at_make; refine wpList_make_room _ rfl _ _ _ rfl 5 i0 _ 1 Try.underlying22 hi0 hz0 hz1 hz2 rfl _ _ _ _ (wd x) (wd x) rfl rfl (by omega) (by omega) (by omega) (by omega) (by omega) ?_; intro w1' H1 hb1 hs1))
    go_ret
    refine ret_fresh (xs := List.replicate (wd x) 0) ?_ hb1 ?_
    · have h := own_of_block (base := w.heap.size) (n := wd x) H1.out (Nat.le_refl _) (by simp) (by simp; omega)
      rw [List.length_replicate] at h
      simpa using h
    · have : cl (wd x) n = 0 := by unfold cl; omega
      rw [putb, this, be_zero]
  · go_enter Try.func32, Try.ntmps32
    go_wp2_with (first
     | (go_at_call 43; refine (Width_any _ _).mono ?_; rintro e w' ⟨rfl, rfl⟩)
     | (at_make; refine wpList_make_room _ rfl _ _ _ rfl 5 i0 _ 1 Try.underlying22 hi0 hz0 hz1 hz2 rfl _ _ _ _ (wd x) (wd x) rfl rfl (by omega) (by omega) (by omega) (by omega) (by omega) ?_; intro w1' H1 hb1 hs1))
    have hq : 0 ≤ n := by omega
    have B0 : Blk8 w1' w.heap.size (List.replicate (wd x) 0) := by
      have h := H1.out
      unfold Blk8
      rw [h]
      simp [u8s]
    have P0 : Part (wd x) n (wd x) (List.replicate (wd x) 0) := by
      refine ⟨by simp, fun j h => ?_⟩
      simp at h
      rw [if_neg (by omega)]
      simp
    clear H1 hs1
    go_loopw [0, 6] (fun q i wr => ∃ m r : Nat, ∃ cs, m ≤ wd x ∧ i = .int .i64 ((m : Int) - 1) ∧ q = .int .i64 r ∧ Hid ((r : Int) = n / 2 ^ (8 * (wd x - m))) ∧ r ≤ 9223372036854775807 ∧ Hid (Blk8 wr w.heap.size cs) ∧ Part (wd x) n m cs ∧ Below w.heap.size w wr)
      (fun _ i _ => ((intOf i) + 1).toNat)
    case atStart => exact ⟨wd x, n.toNat, _, Nat.le_refl _, rfl, int_eq (by omega), (show _ = _ by simp; omega), by omega, B0, P0, hb1⟩
    case round =>
      obtain ⟨m, r, cs, hm, rfl, rfl, hr, hr2, hB, hP, hb⟩ := hrel
      by_cases h0 : 1 ≤ m
      · have hlen : cs.length = wd x := hP.1
        have hc := Blk8.cell hB.out (i := m - 1) (by omega)
        have hf := Blk8.frozen hB.out (m - 1)
        go_wp2
        go_roundw
        case rel =>
          refine ⟨m - 1, r / 256, cs.set (m - 1) ((r : Int) % 256), by omega, int_eq (by omega), int_eq (by omega), ?_, by omega, Blk8.set hB.out _ _, ?_, ?_⟩
          · exact r_next (by omega) h0 hr.out
          · exact Part.next hP h0 hm hr.out
          · exact hb.setCell (Nat.le_refl _) _
        case measure => simp [intOf]; omega
      · obtain rfl : m = 0 := by omega
        have hlen : cs.length = wd x := hP.1
        by_cases hr0 : 0 < r
        · go_wp2_with fail
          obtain ⟨wo, hwo⟩ : ∃ wo : World, wo = wr := ⟨_, rfl⟩
          obtain rfl := hwo
          go_loopw [7] (fun i wr => ∃ j : Nat, ∃ cs, j ≤ wd x ∧ i = .int .i64 j ∧ Hid (Blk8 wr w.heap.size cs) ∧ Top (wd x) j cs ∧ Below w.heap.size w wr)
            (fun i _ => wd x - (intOf i).toNat)
          case atStart => exact ⟨0, cs, Nat.zero_le _, rfl, hB, ⟨hlen, fun i hi h => absurd h (by omega)⟩, hb⟩
          case round =>
            obtain ⟨j, ds, hj, rfl, hB2, hT, hb2⟩ := hrel
            by_cases hlt : j < wd x
            · have hl2 : ds.length = wd x := hT.1
              have hc := Blk8.cell hB2.out (i := j) (by omega)
              have hf := Blk8.frozen hB2.out j
              go_wp2
              go_roundw
              case rel =>
                exact ⟨j + 1, ds.set j 255, by omega, by go_num, Blk8.set hB2.out _ _, Top.next hT, hb2.setCell (Nat.le_refl _) _⟩
              case measure => simp [intOf]; omega
            · obtain rfl : j = wd x := by omega
              go_wp2
              go_ret
              exact ret_fresh (xs := ds) (Blk8.own hB2.out (Nat.le_refl _) (by have := hT.1; omega) hT.1) hb2 (Top.done hT w2 hr0 hr.out)
        · go_wp2_with fail
          go_ret
          refine ret_fresh (xs := cs) (Blk8.own hB.out (Nat.le_refl _) (by omega) hlen) hb ?_
          obtain rfl : r = 0 := by omega
          exact Part.done hP hq hr.out

end Go.Proofs.Ytamilgbjjcdlbaa.NumR
