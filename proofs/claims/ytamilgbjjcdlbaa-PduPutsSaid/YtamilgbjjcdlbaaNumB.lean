/- A number of one to six bytes is put behind what is there: the answer is new memory that reads as the old bytes and the number's. Conditions: the slice reads as the list that is named, and there is room for six bytes more. -/
import Derived.Test.YtamilgbjjcdlbaaNumA
namespace Go.Proofs.Ytamilgbjjcdlbaa.NumB
open Go.RowKit Go.Proofs.Ytamilgbjjcdlbaa.Kit Go.Proofs.Ytamilgbjjcdlbaa.NumA

/-- A number held within so many bytes. -/
def cl (k : Nat) (n : Int) : Nat := min n.toNat (2 ^ (8 * k) - 1)
/-- The bytes of a number, the highest first. -/
def be (k m : Nat) : List Int := (List.range k).map fun i => ((m / 2 ^ (8 * (k - 1 - i)) % 256 : Nat) : Int)
theorem be_len (k m : Nat) : (be k m).length = k := by simp [be]

theorem pow_le {k : Nat} (h : k ≤ 6) : 2 ^ (8 * k) ≤ 281474976710656 := by
  have : 2 ^ (8 * k) ≤ 2 ^ 48 := Nat.pow_le_pow_right (by omega) (by omega)
  simpa using this
theorem pow_pos' (k : Nat) : 1 ≤ 2 ^ (8 * k) := Nat.one_le_two_pow

def putb (n x : Int) : List Int := be (wd x) (cl (wd x) n)
theorem putb_len (n x : Int) : (putb n x).length = wd x := be_len _ _
theorem be_take {k m j : Nat} (h : j < k) : (be k m).take (j + 1) = (be k m).take j ++ [(m : Int) / 2 ^ (8 * (k - 1 - j)) % 256] := by
  have hl : j < (be k m).length := by rw [be_len]; exact h
  rw [List.take_succ_eq_append_getElem hl]
  congr 2
  simp [be]
theorem u8s_app (xs ys : List Int) (b : Int) : u8s (xs ++ (ys ++ [b])) = u8s (xs ++ ys) ++ [Value.int .u8 b] := by simp [u8s]
theorem ipow (k : Nat) : ((2 ^ k : Nat) : Int) = (2 : Int) ^ k := by rw [Int.natCast_pow]; rfl

theorem cl_top {k : Nat} {n : Int} (h : (2 : Int) ^ (8 * k) - 1 < if n < 0 then 0 else n) : (2 : Int) ^ (8 * k) - 1 = (cl k n : Nat) := by
  have p := pow_pos' k
  unfold cl
  rw [← ipow] at h ⊢
  split at h <;> omega
theorem cl_neg {k : Nat} {n : Int} (h : n < 0) : 0 = ((cl k n : Nat) : Int) := by unfold cl; omega
theorem cl_mid {k : Nat} {n : Int} (h : (if n < 0 then 0 else n) ≤ (2 : Int) ^ (8 * k) - 1) (h0 : 0 ≤ n) : n = (cl k n : Nat) := by
  have p := pow_pos' k
  unfold cl
  rw [← ipow] at h
  split at h <;> omega
theorem int_eq {k : IntKind} {a b : Int} (h : a = b) : Value.int k a = Value.int k b := by rw [h]

set_option maxRecDepth 100000 in
set_option maxHeartbeats 800000 in
theorem put_any (A : Option Addr) (m c : Nat) (xs : List Int) (n x : Int) (w : World) (hx : Rd w A m c (u8s xs)) (hl : m ≤ 140737488351232) :
    Calls Try.prog 22 #[.slice A m c, .int .i64 n, .int .i64 x] w fun e w' => Fresh w (xs ++ putb n x) e w' := by
  obtain rfl := Rd.bytes hx
  obtain ⟨i0, hi0, hz0, hz1, hz2⟩ := info_parts info8
  have w1 := wd_pos x
  have w2 := wd_le x
  have p1 : (2 : Int) ^ (8 * wd x) ≤ 281474976710656 := by have := pow_le w2; rw [← ipow]; omega
  have p2 : 1 ≤ (2 : Int) ^ (8 * wd x) := by have := pow_pos' (wd x); rw [← ipow]; omega
  go_enter Try.func22, Try.ntmps22
  go_upto_region 2 with (go_at_call 34; refine (width_any _ _).mono ?_; rintro e w' ⟨rfl, rfl⟩)
  go_cut [1] (fun v wx => v = .int .i64 (cl (wd x) n : Nat) ∧ w = wx)
  case first =>
    go_wp2
    all_goals (go_meet; case rel => exact ⟨int_eq (by first | exact cl_top ‹_› | exact cl_neg ‹_› | exact cl_mid ‹_› ‹_›), rfl⟩)
  case rest =>
    obtain ⟨rfl, rfl⟩ := hcut
    go_wp2_with (first
     | (at_make; refine wpList_make_room _ rfl _ _ _ rfl 5 i0 _ 1 Try.underlying22 hi0 hz0 hz1 hz2 rfl _ _ _ _ xs.length (xs.length + wd x) rfl rfl (by omega) (by omega) (by omega) (by omega) (by omega) ?_; intro w1' H1 hb1 hs1)
     | (with_reducible refine wpList_copy_splice rfl (.tmp 25) (.tmp 26) _ _ rfl 5 Try.underlying22 size8 _ _ _ _ _ _ rfl rfl w.heap.size 0 (List.replicate (xs.length + wd x) (Value.int .u8 0)) 5 H1.out (u8s xs) (by simp) (fun h => ⟨rfl, Rd.src hx hb1 h⟩) (by simp) (u8s_one _) w.heap.size w hb1 (Nat.le_refl _) ?_; intro w2' H2 hb2))
    have hown0 : w2'.ownsRow w.heap.size 5 1 (.slice (some ⟨w.heap.size, 0, none⟩) xs.length (xs.length + wd x)) xs.length (u8s xs) := by
      have h := own_of_block (base := w.heap.size) (n := xs.length) H2.out (Nat.le_refl _) (by rw [length_splice _ _ _ (by simp)]; simp) (by rw [length_splice _ _ _ (by simp)]; simp; omega)
      rw [length_splice _ _ _ (by simp), List.length_replicate] at h
      have e : (splice (List.replicate (xs.length + wd x) (Value.int .u8 0)) 0 (u8s xs)).take xs.length = u8s xs := by
        simp [splice]
      rw [e] at h
      exact h
    go_loopw [7, 29] (fun v i wr => ∃ k : Nat, k ≤ wd x ∧ i = .int .i64 k ∧ v = .slice (some ⟨w.heap.size, 0, none⟩) (xs.length + k) (xs.length + wd x) ∧
        wr.ownsRow w.heap.size 5 1 (.slice (some ⟨w.heap.size, 0, none⟩) (xs.length + k) (xs.length + wd x)) (xs.length + k) (u8s (xs ++ (be (wd x) (cl (wd x) n)).take k)) ∧ Below w.heap.size w wr)
      (fun _ i _ => wd x - (intOf i).toNat)
    case atStart => exact ⟨0, by omega, rfl, rfl, by simpa using hown0, hb2⟩
    case round =>
      obtain ⟨k, hk, rfl, rfl, hown, hb⟩ := hrel
      by_cases hlt : k < wd x
      · go_wp2_with (at_builtin; refine wpList_append_fits _ rfl (.tmp 32) (.tmp 41) _ rfl w.heap.size 5 i0 1 Try.underlying22 hi0 hz1 w.heap.size (xs.length + k) (xs.length + wd x) _ rfl (hown.alloc _) ⟨wr.heap.size, 0, none⟩ 1 1 [.int .u8 ((cl (wd x) n : Nat) / 2 ^ (8 * (wd x - 1 - k)) % 256)] rfl rfl (new_one _ _ _) (by simp [Value.oneCell']) (by omega) ?_; intro w3 hown3 hg3)
        go_roundw
        case rel => 
          refine ⟨k + 1, by omega, by go_num, rfl, ?_, ?_⟩
          · rw [be_take hlt, u8s_app]
            exact hown3
          · exact below_add (hb.alloc hb.size _) (hown.alloc _) (Nat.le_refl _) hg3
        case measure => simp [intOf]; omega
      · go_wp2
        obtain rfl : k = wd x := by omega
        go_ret
        rw [List.take_of_length_le (by rw [be_len]; omega)] at hown
        exact Fresh.of hown hb

end Go.Proofs.Ytamilgbjjcdlbaa.NumB
