/- What the code reads of a message's head is what the head tells, in plain terms. No conditions but those each law names. -/
import Derived.Test.YtamilgbjjcdlbaaPduJ
namespace Go.Proofs.Ytamilgbjjcdlbaa.PduK
open Go.RowKit Go.Proofs.Ytamilgbjjcdlbaa.Kit Go.Proofs.Ytamilgbjjcdlbaa.Byt Go.Proofs.Ytamilgbjjcdlbaa.Mem Go.Proofs.Ytamilgbjjcdlbaa.RecM Go.Proofs.Ytamilgbjjcdlbaa.TabR Go.Proofs.Ytamilgbjjcdlbaa.BytR Go.Proofs.Ytamilgbjjcdlbaa.PduM Go.Proofs.Ytamilgbjjcdlbaa.PduR Go.Proofs.Ytamilgbjjcdlbaa.PduE Go.Proofs.Ytamilgbjjcdlbaa.PduG Go.Proofs.Ytamilgbjjcdlbaa.PduH Go.Proofs.Ytamilgbjjcdlbaa.PduJ

theorem rby_state (k : Nat) (xs : List Int) (e : Int) : (rby k xs e).2 = (rdN k xs e).2 := by
  unfold rby rdN
  split
  · rfl
  · split <;> rfl
/-- What the code tells of a head of this kind, and how its reading ends. -/
def tel (k : Int) (ys : List Nat) : Pd := ⟨k, val (kk k) (sl [1] ys) 0, val (kk k) (sl [1] ys) 1, val (kk k) (sl [1] ys) 5, val (kk k) (sl [1] ys) 2, val (kk k) (sl [1] ys) 4, val (kk k) (sl [1] ys) 6, val (kk k) (sl [1] ys) 3, (dat (kk k) (sl [1] ys)).1.map Int.toNat⟩
def enk (k : Int) (ys : List Nat) : Int := endN (dat (kk k) (sl [1] ys)).2.1 (dat (kk k) (sl [1] ys)).2.2
theorem nats_nl (ys : List Nat) : (nl ys).map Int.toNat = ys := by
  simp only [nl, List.map_map]
  exact (List.map_congr_left fun u _ => by simp).trans (List.map_id _)
theorem read_parse {k : Int} (h18 : 1 ≤ k ∧ k ≤ 8) {ys : List Nat} (hk : nm ys 0 1 = k) : parse ys = if enk k ys = 0 then (tel k ys, 0) else (Pd.none, enk k ys) := by
  rcases kindz h18 with rfl | rfl | rfl | rfl | rfl | rfl | rfl | rfl
  · have e : enk 1 ys = en [1, 2, 1, 2] ys := rfl
    rw [e, parse_of hk (by omega) (ks := [1, 2, 1, 2]) rfl]
    split
    · rename_i h
      have hl := en_len h
      simp only [List.sum_cons, List.sum_nil] at hl
      have t : tel 1 ys = ⟨1, vl [1] 2 ys, vl [1, 2] 1 ys, 0, vl [1, 2, 1] 2 ys, 0, 0, 0, []⟩ := rfl
      rw [t, vl_ok (ks := [1]) (by simp only [List.sum_cons, List.sum_nil]; omega), vl_ok (ks := [1, 2]) (by simp only [List.sum_cons, List.sum_nil]; omega), vl_ok (ks := [1, 2, 1]) (by simp only [List.sum_cons, List.sum_nil]; omega)]
      rfl
    · rfl
  · have e : enk 2 ys = en [1, 2, 1, 16] ys := by
      show endN (rby 16 (sl [1, 2, 1] ys).1 (sl [1, 2, 1] ys).2).2.1 (rby 16 (sl [1, 2, 1] ys).1 (sl [1, 2, 1] ys).2).2.2 = _
      rw [rby_state]
      rfl
    rw [e, parse_of hk (by omega) (ks := [1, 2, 1, 16]) rfl]
    split
    · rename_i h
      have hl := en_len h
      simp only [List.sum_cons, List.sum_nil] at hl
      have t : tel 2 ys = ⟨2, vl [1] 2 ys, 0, vl [1, 2] 1 ys, 0, 0, 0, 0, (rby 16 (sl [1, 2, 1] ys).1 (sl [1, 2, 1] ys).2).1.map Int.toNat⟩ := rfl
      have hs : sl [1, 2, 1] ys = (nl (ys.drop 4), 0) := by
        have h1 := rdl_ok [1, 2, 1] 0 (ys := ys) (by simp only [List.sum_cons, List.sum_nil]; omega)
        rw [List.drop_zero] at h1
        exact h1
      have hr : rby 16 (nl (ys.drop 4)) 0 = (nl ((ys.drop 4).take 16), nl ((ys.drop 4).drop 16), 0) := by
        unfold rby
        rw [if_neg (by simp), if_pos (by rw [nl_len, List.length_drop]; omega), nl_take, nl_drop]
      rw [t, vl_ok (ks := [1]) (by simp only [List.sum_cons, List.sum_nil]; omega), vl_ok (ks := [1, 2]) (by simp only [List.sum_cons, List.sum_nil]; omega), hs, hr, nats_nl]
      rfl
    · rfl
  · have e : enk 3 ys = en [1, 2] ys := rfl
    rw [e, parse_of hk (by omega) (ks := [1, 2]) rfl]
    split
    · rename_i h
      have hl := en_len h
      simp only [List.sum_cons, List.sum_nil] at hl
      have t : tel 3 ys = ⟨3, vl [1] 2 ys, 0, 0, 0, 0, 0, 0, []⟩ := rfl
      rw [t, vl_ok (ks := [1]) (by simp only [List.sum_cons, List.sum_nil]; omega)]
      rfl
    · rfl
  · have e : enk 4 ys = en [1, 2] ys := rfl
    rw [e, parse_of hk (by omega) (ks := [1, 2]) rfl]
    split
    · rename_i h
      have hl := en_len h
      simp only [List.sum_cons, List.sum_nil] at hl
      have t : tel 4 ys = ⟨4, vl [1] 2 ys, 0, 0, 0, 0, 0, 0, []⟩ := rfl
      rw [t, vl_ok (ks := [1]) (by simp only [List.sum_cons, List.sum_nil]; omega)]
      rfl
    · rfl
  · have e : enk 5 ys = en [1, 2] ys := rfl
    rw [e, parse_of hk (by omega) (ks := [1, 2]) rfl]
    split
    · rename_i h
      have hl := en_len h
      simp only [List.sum_cons, List.sum_nil] at hl
      have t : tel 5 ys = ⟨5, vl [1] 2 ys, 0, 0, 0, 0, 0, 0, []⟩ := rfl
      rw [t, vl_ok (ks := [1]) (by simp only [List.sum_cons, List.sum_nil]; omega)]
      rfl
    · rfl
  · have e : enk 6 ys = en [1, 2, 1, 1] ys := rfl
    rw [e, parse_of hk (by omega) (ks := [1, 2, 1, 1]) rfl]
    split
    · rename_i h
      have hl := en_len h
      simp only [List.sum_cons, List.sum_nil] at hl
      have t : tel 6 ys = ⟨6, vl [1] 2 ys, 0, vl [1, 2, 1] 1 ys, 0, vl [1, 2] 1 ys, 0, 0, []⟩ := rfl
      rw [t, vl_ok (ks := [1]) (by simp only [List.sum_cons, List.sum_nil]; omega), vl_ok (ks := [1, 2]) (by simp only [List.sum_cons, List.sum_nil]; omega), vl_ok (ks := [1, 2, 1]) (by simp only [List.sum_cons, List.sum_nil]; omega)]
      rfl
    · rfl
  · have e : enk 7 ys = en [1, 2, 1, 1, 1] ys := rfl
    rw [e, parse_of hk (by omega) (ks := [1, 2, 1, 1, 1]) rfl]
    split
    · rename_i h
      have hl := en_len h
      simp only [List.sum_cons, List.sum_nil] at hl
      have t : tel 7 ys = ⟨7, vl [1] 2 ys, 0, vl [1, 2, 1] 1 ys, 0, vl [1, 2] 1 ys, vl [1, 2, 1, 1] 1 ys, 0, []⟩ := rfl
      rw [t, vl_ok (ks := [1]) (by simp only [List.sum_cons, List.sum_nil]; omega), vl_ok (ks := [1, 2]) (by simp only [List.sum_cons, List.sum_nil]; omega), vl_ok (ks := [1, 2, 1]) (by simp only [List.sum_cons, List.sum_nil]; omega), vl_ok (ks := [1, 2, 1, 1]) (by simp only [List.sum_cons, List.sum_nil]; omega)]
      rfl
    · rfl
  · have e : enk 8 ys = en [1, 2, 1, 2, 2] ys := rfl
    rw [e, parse_of hk (by omega) (ks := [1, 2, 1, 2, 2]) rfl]
    split
    · rename_i h
      have hl := en_len h
      simp only [List.sum_cons, List.sum_nil] at hl
      have t : tel 8 ys = ⟨8, vl [1] 2 ys, vl [1, 2] 1 ys, 0, vl [1, 2, 1] 2 ys, 0, 0, vl [1, 2, 1, 2] 2 ys, []⟩ := rfl
      rw [t, vl_ok (ks := [1]) (by simp only [List.sum_cons, List.sum_nil]; omega), vl_ok (ks := [1, 2]) (by simp only [List.sum_cons, List.sum_nil]; omega), vl_ok (ks := [1, 2, 1]) (by simp only [List.sum_cons, List.sum_nil]; omega), vl_ok (ks := [1, 2, 1, 2]) (by simp only [List.sum_cons, List.sum_nil]; omega)]
      rfl
    · rfl
end Go.Proofs.Ytamilgbjjcdlbaa.PduK
