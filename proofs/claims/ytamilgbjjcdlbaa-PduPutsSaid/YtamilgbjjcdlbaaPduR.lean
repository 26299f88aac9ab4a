/- Numbers read one behind the other, in plain terms, and what is read of a message's head. No conditions but those each law names. -/
import Derived.Test.YtamilgbjjcdlbaaTabR
import Derived.Test.YtamilgbjjcdlbaaPduM
namespace Go.Proofs.Ytamilgbjjcdlbaa.PduR
open Go.RowKit Go.Proofs.Ytamilgbjjcdlbaa.Kit Go.Proofs.Ytamilgbjjcdlbaa.Byt Go.Proofs.Ytamilgbjjcdlbaa.RecM Go.Proofs.Ytamilgbjjcdlbaa.PduM Go.Proofs.Ytamilgbjjcdlbaa.TabR

/-- What is left, and how reading failed, behind reads of so many bytes each. -/
def rdl : List Nat → List Int × Int → List Int × Int
  | [], s => s
  | k :: ks, s => rdl ks (rdN k s.1 s.2).2
theorem nl_drop (ys : List Nat) (i : Nat) : (nl ys).drop i = nl (ys.drop i) := by simp [nl, List.map_drop]
theorem nl_take (ys : List Nat) (i : Nat) : (nl ys).take i = nl (ys.take i) := by simp [nl, List.map_take]
theorem rd_ok {ys : List Nat} {i k : Nat} (h : i + k ≤ ys.length) : rdN k (nl (ys.drop i)) 0 = (nm ys i k, nl (ys.drop (i + k)), 0) := by
  unfold rdN
  rw [if_neg (by simp), if_pos (by rw [nl_len, List.length_drop]; omega), nl_take, nl_drop, List.drop_drop]
  rfl
theorem rd_no {ys : List Nat} {i k : Nat} (hi : i ≤ ys.length) (h : ys.length < i + k) : rdN k (nl (ys.drop i)) 0 = (0, nl (ys.drop i), 1) := by
  unfold rdN
  rw [if_neg (by simp), if_neg (by rw [nl_len, List.length_drop]; omega)]
theorem rd_bad {k : Nat} {xs : List Int} {e : Int} (he : e ≠ 0) : rdN k xs e = (0, xs, e) := by
  unfold rdN
  rw [if_pos he]
theorem rdl_bad {xs : List Int} {e : Int} (he : e ≠ 0) : ∀ ks, rdl ks (xs, e) = (xs, e)
  | [] => rfl
  | k :: ks => by
    show rdl ks (rdN k xs e).2 = _
    rw [rd_bad he]
    exact rdl_bad he ks
theorem rdl_ok {ys : List Nat} : ∀ (ks : List Nat) (i : Nat), i + ks.sum ≤ ys.length → rdl ks (nl (ys.drop i), 0) = (nl (ys.drop (i + ks.sum)), 0)
  | [], i, _ => by simp [rdl]
  | k :: ks, i, h => by
    rw [List.sum_cons] at h ⊢
    show rdl ks (rdN k (nl (ys.drop i)) 0).2 = _
    rw [rd_ok (by omega), rdl_ok ks (i + k) (by omega), Nat.add_assoc]
theorem rdl_no {ys : List Nat} : ∀ (ks : List Nat) (i : Nat), i ≤ ys.length → ys.length < i + ks.sum → (rdl ks (nl (ys.drop i), 0)).2 = 1
  | [], i, hi, h => by simp at h; omega
  | k :: ks, i, hi, h => by
    rw [List.sum_cons] at h
    show (rdl ks (rdN k (nl (ys.drop i)) 0).2).2 = 1
    by_cases hk : i + k ≤ ys.length
    · rw [rd_ok hk]
      exact rdl_no ks (i + k) hk (by omega)
    · rw [rd_no hi (by omega), rdl_bad (by simp)]
/-- How reading a head of these numbers ends. -/
theorem end_rdl (ys : List Nat) (ks : List Nat) : endN (rdl ks (nl ys, 0)).1 (rdl ks (nl ys, 0)).2 = if ys.length < ks.sum then 1 else if ks.sum < ys.length then 2 else 0 := by
  by_cases h : ys.length < ks.sum
  · have h1 := rdl_no ks 0 (by omega) (by omega) (ys := ys)
    rw [List.drop_zero] at h1
    rw [if_pos h, h1]
    unfold endN
    rw [if_pos (by omega)]
  · have h1 := rdl_ok ks 0 (by omega) (ys := ys)
    rw [List.drop_zero, Nat.zero_add] at h1
    rw [if_neg h, h1]
    unfold endN
    rw [if_neg (by simp)]
    by_cases h2 : ks.sum < ys.length
    · rw [if_pos h2, if_neg (fun e => by
        have := congrArg List.length e
        rw [nl_len, List.length_drop] at this
        simp at this
        omega)]
    · rw [if_neg h2, List.drop_of_length_le (by omega)]
      exact if_pos rfl
end Go.Proofs.Ytamilgbjjcdlbaa.PduR
