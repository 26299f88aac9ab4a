/- Sets of blocks, in plain terms, and by the reference. No conditions but those each law names. Sets of blocks in plain terms: with a block. No conditions; nothing of the program. What is missing of a set, by the reference. No conditions. Sets of blocks in plain terms: with many blocks, the whole set, sets that are alike. No conditions; nothing of the program. Slots on a plain disk, in plain terms: what each call does to the disk and to the slot, and the document's own slot of blocks beside it. No conditions but those each law names; nothing of the program. What a disk holds is bytes: a new disk, a write, a failure of power. No conditions but those each law names; nothing of the program. A slot on a plain disk beside the document's own: each step keeps them alike; where the disk goes down the step is done wholly, or not at all. No conditions but those each law names; nothing of the program. A block put on a plain disk beside the document's own slot; a slot's bytes; a failure of power. No conditions but those each law names; nothing of the program. Records and stages as they lie in memory. No conditions. -/
import Derived.Test.YthgmocipiknfpaaJ01
import Derived.Test.YthgmocipiknfpaaJ02
import Derived.Deep.Slices
import Derived.Deep.Fields
import Derived.WideShapes
namespace Go.Proofs.Ythgmocipiknfpaa.BitM
open Go.RowKit Go.Proofs.Ythgmocipiknfpaa.Kit

/-- Two to the i. -/
def pw (i : Int) : Int := 2 ^ i.toNat
/-- Is the block in the set? -/
def hb (s i : Int) : Bool := decide (0 ≤ i ∧ i ≤ 15 ∧ s / pw i % 2 = 1)
theorem pw_zero : pw 0 = 1 := rfl
theorem pw_succ (k : Nat) : pw ((k : Int) + 1) = pw k + pw k := by
  unfold pw
  rw [show ((k : Int) + 1).toNat = k + 1 from by omega, show ((k : Int)).toNat = k from by omega, Int.pow_succ]
  omega
theorem pw_bd (k : Nat) (h : k ≤ 16) : 1 ≤ pw k ∧ pw k ≤ 65536 := by
  unfold pw
  have h1 : (1 : Int) ≤ 2 ^ k := by exact_mod_cast Nat.one_le_two_pow
  have h2 : (2 : Int) ^ k ≤ 2 ^ 16 := by exact_mod_cast Nat.pow_le_pow_right (by decide) h
  rw [show ((k : Int)).toNat = k from by omega]
  exact ⟨h1, by simpa using h2⟩
theorem pw_half (k : Nat) (h : k ≤ 15) : pw k ≤ 32768 := by
  have := pw_bd (k + 1) (by omega)
  have e := pw_succ k
  rw [Int.natCast_add] at this
  have : pw ((k : Int) + 1) ≤ 65536 := this.2
  omega
/-- The low sixteen bits tell it as well. -/
theorem low_bit (s : Int) (k : Nat) (h : k ≤ 15) : (s % 65536) / pw k % 2 = s / pw k % 2 := by
  have e : (65536 : Int) = pw k * (2 * pw ((15 - k : Nat) : Int)) := by
    unfold pw
    rw [show ((k : Int)).toNat = k from by omega, show (((15 - k : Nat)) : Int).toNat = 15 - k from by omega]
    have h2 : (2 : Int) ^ (k + (15 - k + 1)) = 2 ^ k * 2 ^ (15 - k + 1) := Int.pow_add ..
    rw [Int.pow_succ, show k + (15 - k + 1) = 16 from by omega] at h2
    rw [Int.mul_comm 2 (2 ^ (15 - k)), ← h2]
    rfl
  have h1 := (pw_bd k (by omega)).1
  have e2 : s % 65536 = s + pw k * (2 * (pw ((15 - k : Nat) : Int) * (-(s / 65536)))) := by
    have e3 : pw k * (2 * (pw ((15 - k : Nat) : Int) * (-(s / 65536)))) = 65536 * (-(s / 65536)) := by rw [e, ← Int.mul_assoc, ← Int.mul_assoc, ← Int.mul_assoc]
    rw [e3]
    omega
  rw [e2, Int.add_mul_ediv_left _ _ (by omega)]
  omega
theorem tmod16 (s : Int) : (s.tmod 65536 < 0 ∧ s.tmod 65536 + 65536 = s % 65536) ∨ (0 ≤ s.tmod 65536 ∧ s.tmod 65536 = s % 65536) := by
  have h := Int.tmod_add_mul_tdiv s 65536
  have h1 := Int.tmod_lt_of_pos s (show (0 : Int) < 65536 by decide)
  have h2 := Int.lt_tmod_of_pos s (show (0 : Int) < 65536 by decide)
  omega
theorem ret_i {a b : Int} (h : a = b) : Ending.returned (.int .i64 a) = .returned (.int .i64 b) := by rw [h]
set_option maxRecDepth 100000 in
theorem rpower_any (i : Nat) (w : World) (hi : i ≤ 16) : Calls Try.prog 55 #[.int .i64 (i : Nat)] w fun e w' => e = .returned (.int .i64 (pw i)) ∧ w = w' := by
  go_enter Try.func55, Try.ntmps55
  go_wp2
  go_loopw [3, 4] (fun n k wr => ∃ (j : Nat) (q : Int), j ≤ i ∧ n = .int .i64 q ∧ k = .int .i64 j ∧ Hid (q = pw j) ∧ w = wr) (fun _ k _ => i - (intOf k).toNat)
  case atStart => exact ⟨0, 1, by omega, rfl, rfl, Lib.hid rfl, rfl⟩
  case round =>
    obtain ⟨j, q, hj, rfl, rfl, hq, rfl⟩ := hrel
    have hb := pw_bd j (by omega)
    rw [← hq.out] at hb
    by_cases hlt : j < i
    · have hn := Lib.hid (pw_succ j)
      rw [← hq.out] at hn
      go_wp2
      go_roundw
      case rel => exact ⟨j + 1, q + q, by omega, rfl, by simp, Lib.hid (by rw [Int.natCast_add]; exact hn.out.symm), trivial⟩
      case measure => simp [intOf]; omega
    · obtain rfl : j = i := by omega
      go_wp2
      go_ret
      exact ⟨ret_i hq.out, rfl⟩
theorem wrap_in {n : Int} (h0 : 0 ≤ n) (h1 : n < 4294967296) : wrap64 n = n := by unfold wrap64; omega
theorem ret_b {a b : Bool} (h : a = b) : Ending.returned (.bool a) = .returned (.bool b) := by rw [h]
end Go.Proofs.Ythgmocipiknfpaa.BitM
namespace Go.Proofs.Ythgmocipiknfpaa.BitB
open Go.RowKit Go.Proofs.Ythgmocipiknfpaa.Kit Go.Proofs.Ythgmocipiknfpaa.BitM

/-- The set, and the block. -/
def wv (s i : Int) : Int := if 0 ≤ i ∧ i ≤ 15 ∧ hb s i = false then s + pw i else s
theorem pw_add (a b : Nat) : pw ((a + b : Nat) : Int) = pw a * pw b := by
  unfold pw
  rw [show (((a + b : Nat)) : Int).toNat = a + b from by omega, show ((a : Int)).toNat = a from by omega, show ((b : Int)).toNat = b from by omega]
  exact Int.pow_add ..
theorem pw_pos (k : Nat) : 1 ≤ pw k := by
  unfold pw
  rw [show ((k : Int)).toNat = k from by omega]
  exact_mod_cast Nat.one_le_two_pow
theorem hb_nat (s : Int) {k : Nat} (h : k ≤ 15) : hb s k = decide (s / pw k % 2 = 1) := by
  unfold hb
  have : (0 ≤ (k : Int) ∧ (k : Int) ≤ 15) := by omega
  simp [this]
theorem up_low (s : Int) {i k : Nat} (h : k < i) : (s + pw i) / pw k % 2 = s / pw k % 2 := by
  have e : pw i = pw k * (2 * pw ((i - k - 1 : Nat) : Int)) := by
    have h1 := pw_add k (1 + (i - k - 1))
    have h2 := pw_add 1 (i - k - 1)
    rw [show k + (1 + (i - k - 1)) = i from by omega] at h1
    rw [h1, h2]
    rfl
  have hp := pw_pos k
  rw [e, Int.add_mul_ediv_left _ _ (by omega)]
  omega
theorem up_same (s : Int) (i : Nat) : (s + pw i) / pw i = s / pw i + 1 := by
  have hp := pw_pos i
  have h := Int.add_mul_ediv_left s 1 (show pw i ≠ 0 by omega)
  rwa [Int.mul_one] at h
theorem up_high (s : Int) {i k : Nat} (h : i < k) (h0 : s / pw i % 2 = 0) : (s + pw i) / pw k = s / pw k := by
  have e : pw k = pw i * (2 * pw ((k - i - 1 : Nat) : Int)) := by
    have h1 := pw_add i (1 + (k - i - 1))
    have h2 := pw_add 1 (k - i - 1)
    rw [show i + (1 + (k - i - 1)) = k from by omega] at h1
    rw [h1, h2]
    rfl
  have hp := pw_pos i
  rw [e, ← Int.ediv_ediv_of_nonneg (by omega), ← Int.ediv_ediv_of_nonneg (by omega), ← Int.ediv_ediv_of_nonneg (by omega), ← Int.ediv_ediv_of_nonneg (by omega), up_same]
  rw [show (s / pw i + 1) / 2 = s / pw i / 2 from by omega]
/-- With a block it is there, all others as they were. -/
theorem hb_wv (s i : Int) {k : Nat} (hk : k ≤ 15) : hb (wv s i) k = (hb s k || decide ((k : Int) = i)) := by
  unfold wv
  by_cases hi : 0 ≤ i ∧ i ≤ 15 ∧ hb s i = false
  · rw [if_pos hi]
    obtain ⟨j, rfl⟩ : ∃ j : Nat, i = j := ⟨i.toNat, by omega⟩
    have hj : j ≤ 15 := by omega
    have h0 := hi.2.2
    rw [hb_nat s hj] at h0
    have h0' : s / pw j % 2 = 0 := by have := of_decide_eq_false h0; omega
    rw [hb_nat _ hk, hb_nat _ hk]
    rcases Nat.lt_trichotomy k j with h | h | h
    · rw [up_low s h]
      simp; omega
    · subst h
      rw [up_same]
      simp; omega
    · rw [up_high s h h0']
      simp; omega
  · rw [if_neg hi]
    by_cases he : (k : Int) = i
    · subst he
      have : hb s k = true := by
        cases h : hb s k
        · exact absurd ⟨by omega, by omega, h⟩ hi
        · rfl
      simp [this]
    · simp [he]
end Go.Proofs.Ythgmocipiknfpaa.BitB
namespace Go.Proofs.Ythgmocipiknfpaa.BitA
open Go.RowKit Go.Proofs.Ythgmocipiknfpaa.Kit Go.Proofs.Ythgmocipiknfpaa.Mem Go.Proofs.Ythgmocipiknfpaa.BitM

def i64s (l : List Int) : List Value := l.map (Value.int .i64)
theorem i64s_one (l : List Int) : ∀ u ∈ i64s l, u.oneCell' = true := ints_oneCell _ _
theorem i64s_app (l m : List Int) : i64s l ++ i64s m = i64s (l ++ m) := by simp [i64s]
theorem i64s_len (l : List Int) : (i64s l).length = l.length := List.length_map ..
theorem i64s_rd (w : World) (x : Int) : Rd (w.alloc (.cells #[.int .i64 x] 3)) (some ⟨w.heap.size, 0, none⟩) 1 1 (i64s [x]) := by
  have h := own_of_block (w := w.alloc (.cells #[.int .i64 x] 3)) (g := w.heap.size) (cur := [.int .i64 x]) (e := 3) (base := w.heap.size) (n := 1) (heap_alloc_new w _) (Nat.le_refl _) (by simp) (by simp)
  exact Rd.own h
theorem info_int : (Try.prog.info? 3).map (fun i => (i.zero, i.size, i.bytes)) = some (some (.int .i64 0), 1, 8) := by kernel_rfl
/-- How many blocks are asked of. -/
def lim (n : Int) : Nat := (if n < 0 then 0 else if 16 < n then 16 else n).toNat
theorem lim_le (n : Int) : lim n ≤ 16 := by unfold lim; repeat (first | omega | split)
/-- What of the first k blocks isn't there. -/
def miss (s : Int) : Nat → List Int
  | 0 => []
  | k + 1 => miss s k ++ (if hb s k then [] else [(k : Int)])
def Hands (w : World) (l : List Int) (e : Ending) (w' : World) : Prop := ∃ A n c, e = .returned (.slice A n c) ∧ Rd w' A n c (i64s l) ∧ Below w.heap.size w w'
end Go.Proofs.Ythgmocipiknfpaa.BitA
namespace Go.Proofs.Ythgmocipiknfpaa.BitC
open Go.RowKit Go.Proofs.Ythgmocipiknfpaa.Kit Go.Proofs.Ythgmocipiknfpaa.Mem Go.Proofs.Ythgmocipiknfpaa.BitM Go.Proofs.Ythgmocipiknfpaa.BitA Go.Proofs.Ythgmocipiknfpaa.BitB

theorem wv_no {s : Int} {k : Nat} (h : k ≤ 15) (h0 : hb s k = false) : wv s k = s + pw k := by
  unfold wv
  rw [if_pos ⟨by omega, by omega, h0⟩]
/-- With a block more a set of so many blocks is one still. -/
theorem more_lt {h : Int} {m k : Nat} (_ : 0 ≤ h) (h1 : h < 2 ^ m) (hk : k < m) (hm : m ≤ 16) (hn : hb h k = false) : h + pw k < 2 ^ m := by
  -- the bit k of h is 0, so h + 2^k has the bits of h, and k
  rw [hb_nat _ (by omega)] at hn
  have hn' : h / pw k % 2 = 0 := by have := of_decide_eq_false hn; omega
  have e : (2 : Int) ^ m = pw k * (2 * pw ((m - k - 1 : Nat) : Int)) := by
    have h2 := pw_add k (1 + (m - k - 1))
    have h3 := pw_add 1 (m - k - 1)
    rw [show k + (1 + (m - k - 1)) = m from by omega] at h2
    have h4 : (2 : Int) ^ m = pw m := by unfold pw; rw [show ((m : Int)).toNat = m from by omega]
    rw [h4, h2, h3]
    rfl
  have hp := pw_pos k
  have hq := pw_pos (m - k - 1)
  obtain ⟨P, hP⟩ : ∃ P, P = pw k := ⟨_, rfl⟩
  obtain ⟨Q, hQ⟩ : ∃ Q, Q = pw ((m - k - 1 : Nat) : Int) := ⟨_, rfl⟩
  rw [e] at h1 ⊢
  rw [← hP] at hp hn' h1 ⊢
  rw [← hQ] at hq h1 ⊢
  have h5 : h / P < 2 * Q := Int.ediv_lt_of_lt_mul (by omega) (by rw [Int.mul_comm]; exact h1)
  have h6 : h / P + 2 ≤ 2 * Q := by omega
  have h7 := Int.lt_ediv_add_one_mul_self h (show 0 < P by omega)
  have h8 := Int.mul_le_mul_of_nonneg_right h6 (show 0 ≤ P by omega)
  rw [Int.mul_comm (2 * Q) P, show h / P + 2 = (h / P + 1) + 1 from by omega, Int.add_mul] at h8
  omega
def fw (s : Int) (l : List Int) : Int := l.foldl wv s
theorem hb_fw (s : Int) (l : List Int) {k : Nat} (hk : k ≤ 15) : hb (fw s l) k = (hb s k || decide ((k : Int) ∈ l)) := by
  induction l generalizing s with
  | nil => simp [fw]
  | cons x l ih =>
    show hb (fw (wv s x) l) k = _
    rw [ih, hb_wv s x hk, Bool.or_assoc]
    simp
theorem mem_miss (s : Int) (m : Nat) {k : Nat} (hk : k < m) (h : hb s k = false) : (k : Int) ∈ miss s m := by
  induction m with
  | zero => omega
  | succ m ih =>
    rw [miss, List.mem_append]
    by_cases he : k = m
    · subst he; exact .inr (by rw [h]; simp)
    · exact .inl (ih (by omega))
theorem miss_in (s : Int) (m : Nat) : ∀ x ∈ miss s m, 0 ≤ x ∧ x < m := by
  induction m with
  | zero => intro x hx; simp [miss] at hx
  | succ m ih =>
    intro x hx
    rw [miss, List.mem_append] at hx
    rcases hx with hx | hx
    · have := ih x hx; omega
    · by_cases h : hb s m = true
      · rw [if_pos h] at hx; simp at hx
      · rw [if_neg h] at hx; simp at hx; omega
theorem miss_nil (s : Int) (m : Nat) (h : ∀ k, k < m → hb s k = true) : miss s m = [] := by
  induction m with
  | zero => rfl
  | succ m ih => rw [miss, ih (fun k hk => h k (by omega)), h m (by omega)]; rfl
theorem all_in (s : Int) (m : Nat) (hm : m ≤ 16) : miss (fw s (miss s m)) m = [] := miss_nil _ _ fun k hk => by
  rw [hb_fw s _ (by omega)]
  cases h : hb s k
  · simp [mem_miss s m hk h]
  · rfl
theorem fw_next (s : Int) (l : List Int) {j : Nat} (h : j < l.length) : fw s (l.take (j + 1)) = wv (fw s (l.take j)) (l.getD j 0) := by
  unfold fw
  rw [List.take_add_one, List.foldl_append, List.getElem?_eq_getElem h, List.getD_eq_getElem?_getD, List.getElem?_eq_getElem h]
  rfl
theorem at_int {w : World} {A : Option Addr} {n c : Nat} {l : List Int} (h : Rd w A n c (i64s l)) {k : Nat} (hk : k < n) : ∃ b o, A = some ⟨b, o, none⟩ ∧ w.cell? ⟨b, o + k, none⟩ = some (.int .i64 (l.getD k 0)) := by
  obtain ⟨b, o, hA, hc⟩ := Rd.at_ h hk
  have hl : k < l.length := by have := h.len; rw [i64s_len] at this; omega
  exact ⟨b, o, hA, by rw [hc]; simp [i64s, List.getD_eq_getElem?_getD, List.getElem?_eq_getElem hl]⟩
/-! ### sets within sixteen blocks -/
def small (s : Int) : Prop := 0 ≤ s ∧ s < 65536
theorem pw16 : (2 : Int) ^ 16 = 65536 := by decide
theorem wv_small {s i : Int} (h : small s) : small (wv s i) := by
  unfold wv
  split
  · rename_i hc
    obtain ⟨j, rfl⟩ : ∃ j : Nat, i = j := ⟨i.toNat, by omega⟩
    have hp := pw_pos j
    have h1 := more_lt (m := 16) h.1 (by rw [pw16]; exact h.2) (show j < 16 by omega) (by omega) hc.2.2
    rw [pw16] at h1
    exact ⟨by have := h.1; omega, h1⟩
  · exact h
theorem fw_small {s : Int} {l : List Int} (h : small s) : small (fw s l) := by
  induction l generalizing s with
  | nil => exact h
  | cons x l ih => exact ih (wv_small h)
theorem bit_nat (n : Nat) {k : Nat} (h : k ≤ 15) : hb (n : Int) k = n.testBit k := by
  rw [hb_nat _ h, Nat.testBit_eq_decide_div_mod_eq]
  have e : pw k = ((2 ^ k : Nat) : Int) := by
    unfold pw
    rw [show ((k : Int)).toNat = k from by omega]
    simp
  rw [e, Bool.eq_iff_iff]
  simp only [decide_eq_true_eq]
  omega
/-- Two sets that have the same blocks are one. -/
theorem small_ext {s t : Int} (hs : small s) (ht : small t) (h : ∀ k : Nat, k ≤ 15 → hb s k = hb t k) : s = t := by
  obtain ⟨a, rfl⟩ : ∃ a : Nat, s = a := ⟨s.toNat, by have := hs.1; omega⟩
  obtain ⟨b, rfl⟩ : ∃ b : Nat, t = b := ⟨t.toNat, by have := ht.1; omega⟩
  have e : a = b := by
    refine Nat.eq_of_testBit_eq fun k => ?_
    by_cases hk : k ≤ 15
    · rw [← bit_nat a hk, ← bit_nat b hk]; exact h k hk
    · have h2 : 65536 ≤ 2 ^ k := by
        have := Nat.pow_le_pow_right (show 0 < 2 by decide) (show 16 ≤ k by omega)
        simpa using this
      rw [Nat.testBit_lt_two_pow (by have := hs.2; omega), Nat.testBit_lt_two_pow (by have := ht.2; omega)]
  rw [e]
theorem zero_small : small 0 := ⟨Int.le_refl 0, by decide⟩
theorem zero_no (k : Nat) : hb 0 k = false := by unfold hb; simp
/-- The whole set. -/
theorem all_small {k : Nat} (h : k ≤ 16) : small (pw k - 1) := by have := pw_bd k h; exact ⟨by omega, by omega⟩
theorem hb_all {k i : Nat} (hi : i ≤ 15) : hb (pw k - 1) i = decide (i < k) := by
  have hp := pw_pos k
  have e : pw k = ((2 ^ k : Nat) : Int) := by
    unfold pw
    rw [show ((k : Int)).toNat = k from by omega]
    simp
  have e2 : pw k - 1 = ((2 ^ k - 1 : Nat) : Int) := by rw [e]; have := Nat.one_le_two_pow (n := k); omega
  rw [e2, bit_nat _ hi, Nat.testBit_two_pow_sub_one]
theorem miss_len_all {k : Nat} (_ : k ≤ 16) : ∀ m : Nat, m ≤ 16 → (miss (pw k - 1) m).length = m - k := by
  intro m
  induction m with
  | zero => intro _; simp [miss]
  | succ m ih =>
    intro hm
    rw [miss, List.length_append, ih (by omega), hb_all (by omega)]
    by_cases e : m < k
    · simp [e]; omega
    · simp [e]; omega
theorem lim_nat {k : Nat} (h : k ≤ 16) : lim (k : Int) = k := by unfold lim; repeat (first | omega | split)
/-- Of a set of which one block of the first ones is left out just that one is missing. -/
theorem miss_one {s : Int} {o : Nat} : ∀ m : Nat, (∀ i : Nat, i < m → hb s i = !decide (i = o)) → miss s m = if o < m then [(o : Int)] else [] := by
  intro m
  induction m with
  | zero => intro _; rfl
  | succ m ih =>
    intro h
    rw [miss, ih (fun i hi => h i (by omega)), h m (by omega)]
    by_cases e : m = o
    · subst e; simp
    · by_cases e2 : o < m
      · simp [e, e2, show o < m + 1 by omega]
      · simp [e, e2, show ¬ o < m + 1 by omega]
end Go.Proofs.Ythgmocipiknfpaa.BitC
namespace Go.Proofs.Ythgmocipiknfpaa.StgM
open Go.RowKit Go.Proofs.Ythgmocipiknfpaa.Kit Go.Proofs.Ythgmocipiknfpaa.Byt Go.Proofs.Ythgmocipiknfpaa.Mem Go.Proofs.Ythgmocipiknfpaa.DskA Go.Proofs.Ythgmocipiknfpaa.DskB Go.Proofs.Ythgmocipiknfpaa.DskD Go.Proofs.Ythgmocipiknfpaa.DskE Go.Proofs.Ythgmocipiknfpaa.DskF Go.Proofs.Ythgmocipiknfpaa.RecM Go.Proofs.Ythgmocipiknfpaa.BitM Go.Proofs.Ythgmocipiknfpaa.BitA Go.Proofs.Ythgmocipiknfpaa.BitB Go.Proofs.Ythgmocipiknfpaa.BitC

/-! ### a slot, by the code -/
structure Slt where
  (p k : Nat)
  has : Bool
  g : Sg
def Slt.at_ (t : Slt) : Nat := 10 * t.p + 2 + 4 * t.k
def Slt.dat (t : Slt) (i : Nat) : Nat := t.at_ + 1 + i
def fresh (n z : Int) : Sg := ⟨n, z, 0⟩
def more (g : Sg) (no : Int) : Sg := { g with h := wv g.h no }
def into (c : List Nat) (o : Nat) (d : List Nat) : List Nat := c.take o ++ (d ++ c.drop (o + 16))
def pB (s : St) (t : Slt) (n z : Int) : St × Slt × Int :=
  if (fresh n z).right then (if (put1 s t.at_ (shut (fresh n z).bytes)).2 = 0 then ((put1 s t.at_ (shut (fresh n z).bytes)).1, { t with has := true, g := fresh n z }, 0) else ((put1 s t.at_ (shut (fresh n z).bytes)).1, t, 8)) else (s, t, 3)
def pC (s : St) (t : Slt) : St × Slt × Int :=
  if (put1 s t.at_ (zs 64)).2 = 0 then ((put1 s t.at_ (zs 64)).1, { t with has := false, g := Sg.none }, 0) else ((put1 s t.at_ (zs 64)).1, t, 8)
/-- The sector that a block goes into, with the block in it. -/
def sect (s : St) (t : Slt) (no : Nat) (d : List Nat) : List Nat := into (now s (t.dat (no / 4))) (16 * (no % 4)) d
def pP (s : St) (t : Slt) (n no : Int) (d : List Nat) : St × Slt × Int :=
  if t.has = false then (s, t, 16) else if n ≠ t.g.s then (s, t, 17) else if no < 0 ∨ (blocks t.g.z : Int) ≤ no then (s, t, 3) else if d.length ≠ 16 then (s, t, 14)
  else if hb t.g.h no = true then (s, t, 0)
  else if (put1 s (t.dat (no.toNat / 4)) (sect s t no.toNat d)).2 ≠ 0 then ((put1 s (t.dat (no.toNat / 4)) (sect s t no.toNat d)).1, t, 8)
  else if (put1 (put1 s (t.dat (no.toNat / 4)) (sect s t no.toNat d)).1 t.at_ (shut (more t.g no).bytes)).2 ≠ 0 then ((put1 (put1 s (t.dat (no.toNat / 4)) (sect s t no.toNat d)).1 t.at_ (shut (more t.g no).bytes)).1, t, 8)
  else ((put1 (put1 s (t.dat (no.toNat / 4)) (sect s t no.toNat d)).1 t.at_ (shut (more t.g no).bytes)).1, { t with g := more t.g no }, 0)
/-- What a slot is that is opened on a disk that is up. -/
def pO (s : St) (p k : Nat) : Slt := ⟨p, k, decide ((getS (now s (10 * p + 2 + 4 * k))).2 = 0), (getS (now s (10 * p + 2 + 4 * k))).1⟩
def pY (s : St) (t : Slt) : List Nat × Int :=
  if t.has = false then ([], 16) else if miss t.g.h (blocks t.g.z) ≠ [] then ([], 11) else if s.down = true then ([], 8)
  else ((now s (t.dat 0) ++ (now s (t.dat 1) ++ now s (t.dat 2))).take t.g.z.toNat, 0)

/-! ### a slot, by the document -/
structure Rf where
  has : Bool
  g : Sg
  bl : List (List Nat)
def Rf.none : Rf := ⟨false, Sg.none, []⟩
def rB (x : Rf) (n z : Int) : Rf × Int := if (fresh n z).right then (⟨true, fresh n z, List.replicate (blocks z) []⟩, 0) else (x, 3)
def rP (x : Rf) (n no : Int) (d : List Nat) : Rf × Int :=
  if x.has = false then (x, 16) else if n ≠ x.g.s then (x, 17) else if no < 0 ∨ (x.bl.length : Int) ≤ no then (x, 3) else if d.length ≠ 16 then (x, 14)
  else if x.bl.getD no.toNat [] ≠ [] then (x, 0) else (⟨true, { x.g with h := x.g.h + pw no }, x.bl.set no.toNat d⟩, 0)
def rY (x : Rf) : List Nat × Int :=
  if x.has = false then ([], 16) else if [] ∈ x.bl then ([], 11) else (x.bl.flatten.take x.g.z.toNat, 0)
/-- It is one that can be. -/
structure Rf.wf (x : Rf) : Prop where
  no : x.has = false → x = Rf.none
  right : x.has = true → x.g.right
  len : x.has = true → x.bl.length = blocks x.g.z
  each : ∀ i, i < x.bl.length → (x.bl.getD i [] = [] ∧ hb x.g.h i = false) ∨ ((x.bl.getD i []).length = 16 ∧ hb x.g.h i = true)
theorem none_wf : Rf.none.wf := ⟨fun _ => rfl, fun h => (by cases h), fun h => (by cases h), fun i hi => (by simp [Rf.none] at hi)⟩
theorem hb_zero (i : Int) : hb 0 i = false := by unfold hb; simp
theorem fresh_wf {n z : Int} (h : (fresh n z).right) : (Rf.mk true (fresh n z) (List.replicate (blocks z) [])).wf :=
  ⟨fun e => (by cases e), fun _ => h, fun _ => (by simp [fresh]), fun i hi => .inl ⟨by
    have hi' : i < blocks z := by simpa using hi
    rw [List.getD_eq_getElem?_getD, List.getElem?_replicate, if_pos hi']; rfl, hb_zero _⟩⟩
theorem blocks_10 {z : Int} (h : z ≤ 160) : blocks z ≤ 10 := by unfold blocks; omega
theorem rP_yes {x : Rf} {no : Nat} {d : List Nat} (h : x.wf) (hh : x.has = true) (hn : no < x.bl.length) (hd : d.length = 16) (h0 : x.bl.getD no [] = []) :
    hb x.g.h no = false ∧ (Rf.mk true { x.g with h := x.g.h + pw no } (x.bl.set no d)).wf := by
  have hr := h.right hh
  have hl := h.len hh
  have h10 := blocks_10 hr.2.1.2
  have hb0 : hb x.g.h no = false := by
    rcases h.each no hn with h1 | h1
    · exact h1.2
    · rw [h0] at h1; exact absurd h1.1 (by simp)
  refine ⟨hb0, ⟨fun e => (by cases e), fun _ => ⟨hr.1, hr.2.1, ?_⟩, fun _ => ?_, fun i hi => ?_⟩⟩
  · have hp := pw_pos no
    exact ⟨by have := hr.2.2.1; show 0 ≤ x.g.h + pw no; omega, more_lt (m := blocks x.g.z) hr.2.2.1 hr.2.2.2 (by omega) (by omega) hb0⟩
  · show (x.bl.set no d).length = blocks x.g.z
    rw [List.length_set]; exact hl
  · have hi' : i < x.bl.length := by simpa using hi
    show ((x.bl.set no d).getD i [] = [] ∧ hb (x.g.h + pw no) i = false) ∨ (((x.bl.set no d).getD i []).length = 16 ∧ hb (x.g.h + pw no) i = true)
    rw [← wv_no (by omega) hb0, hb_wv _ _ (by omega), List.getD_eq_getElem?_getD, List.getElem?_set]
    by_cases e : no = i
    · subst e
      rw [if_pos rfl, if_pos hn]
      exact .inr ⟨hd, by simp⟩
    · rw [if_neg e, ← List.getD_eq_getElem?_getD]
      have : decide ((i : Int) = (no : Int)) = false := by simp; omega
      rw [this, Bool.or_false]
      exact h.each i hi'
end Go.Proofs.Ythgmocipiknfpaa.StgM
namespace Go.Proofs.Ythgmocipiknfpaa.Put2
open Go.RowKit Go.Proofs.Ythgmocipiknfpaa.Kit Go.Proofs.Ythgmocipiknfpaa.Byt Go.Proofs.Ythgmocipiknfpaa.Mem Go.Proofs.Ythgmocipiknfpaa.DskA Go.Proofs.Ythgmocipiknfpaa.DskB Go.Proofs.Ythgmocipiknfpaa.DskD Go.Proofs.Ythgmocipiknfpaa.DskE Go.Proofs.Ythgmocipiknfpaa.DskF Go.Proofs.Ythgmocipiknfpaa.RecM Go.Proofs.Ythgmocipiknfpaa.StgM
/-- All that is laid, and all that waits, is bytes. -/
structure Byts (s : St) : Prop where
  laid : ∀ x ∈ s.S, byt x
  wait : ∀ p ∈ s.L, byt p.2
theorem zs_byt (n : Nat) : byt (zs n) := fun c hc => by
  have := List.eq_of_mem_replicate hc
  omega
theorem new_byts (n : Int) : Byts (newSt n) := ⟨fun x hx => by
  have := List.eq_of_mem_replicate (show x ∈ List.replicate (cnt n) (zs 64) from hx)
  rw [this]
  exact zs_byt 64, fun p hp => (by cases hp)⟩
theorem spend_byts {s : St} (h : Byts s) : Byts (spend s).2 := ⟨by rw [(spend_S s).1]; exact h.laid, by rw [(spend_S s).2]; exact h.wait⟩
theorem wrote_byts {s : St} (h : Byts s) {i : Nat} {bs : List Nat} (hb : byt bs) : Byts (wrote s i bs) := ⟨h.laid, fun p hp => by
  rcases List.mem_append.1 (show p ∈ s.L ++ [(i, bs)] from hp) with h1 | h1
  · exact h.wait p h1
  · rw [List.mem_singleton.1 h1]; exact hb⟩
theorem laidTo_byt {kp : Nat → Bool} {S : List (List Nat)} {L : List (Nat × List Nat)} (hS : ∀ x ∈ S, byt x) (hL : ∀ p ∈ L, byt p.2) (k : Nat) (hk : k ≤ L.length) : ∀ x ∈ laidTo kp S L k, byt x := by
  induction k with
  | zero => exact hS
  | succ k ih =>
    rw [laidTo]
    split
    · intro x hx
      rcases List.mem_or_eq_of_mem_set hx with h | h
      · exact ih (by omega) x h
      · subst h
        have hk' : k < L.length := by omega
        have : L.getD k (0, []) = L[k] := by simp [hk']
        rw [this]
        exact hL _ (List.getElem_mem _)
    · exact ih (by omega)
theorem lay_byts {s : St} (h : Byts s) (kp : Nat → Bool) : Byts (lay kp s) := ⟨laidTo_byt h.laid h.wait _ (Nat.le_refl _), fun p hp => (by cases hp)⟩
theorem power_byts {s : St} (h : Byts s) (K : Nat) : Byts (power K s) := ⟨(lay_byts h (kb K)).laid, fun p hp => (by cases hp)⟩
theorem put1_byts {s : St} (h : Byts s) (i : Nat) {bs : List Nat} (hb : byt bs) : Byts (put1 s i bs).1 := by
  unfold put1
  split
  · exact spend_byts h
  · split
    · exact spend_byts (wrote_byts (spend_byts h) hb)
    · exact lay_byts (spend_byts (wrote_byts (spend_byts h) hb)) _
theorem now_byt {s : St} (h : Byts s) (i : Nat) : byt (now s i) := by
  unfold now
  split
  · rename_i p hp
    exact h.wait p (by
      have := List.mem_of_find?_eq_some hp
      simpa using this)
  · rw [List.getD_eq_getElem?_getD]
    cases e : s.S[i]? with
    | none => exact fun c hc => (by cases hc)
    | some x => exact h.laid x (List.mem_of_getElem? e)
end Go.Proofs.Ythgmocipiknfpaa.Put2
namespace Go.Proofs.Ythgmocipiknfpaa.StgP
open Go.RowKit Go.Proofs.Ythgmocipiknfpaa.Kit Go.Proofs.Ythgmocipiknfpaa.Byt Go.Proofs.Ythgmocipiknfpaa.Mem Go.Proofs.Ythgmocipiknfpaa.DskA Go.Proofs.Ythgmocipiknfpaa.DskB Go.Proofs.Ythgmocipiknfpaa.DskD Go.Proofs.Ythgmocipiknfpaa.DskE Go.Proofs.Ythgmocipiknfpaa.DskF Go.Proofs.Ythgmocipiknfpaa.RecM Go.Proofs.Ythgmocipiknfpaa.BitM Go.Proofs.Ythgmocipiknfpaa.BitA Go.Proofs.Ythgmocipiknfpaa.BitB Go.Proofs.Ythgmocipiknfpaa.StgM

/-! ### a block in its sector -/
theorem into_len {c d : List Nat} {o : Nat} (hc : c.length = 64) (ho : o + 16 ≤ 64) (hd : d.length = 16) : (into c o d).length = 64 := by
  unfold into
  rw [List.length_append, List.length_append, List.length_take, List.length_drop]
  omega
theorem into_at {c d : List Nat} {o : Nat} (hc : c.length = 64) (ho : o + 16 ≤ 64) (hd : d.length = 16) (n : Nat) : (into c o d)[n]? = if n < o then c[n]? else if n < o + 16 then d[n - o]? else c[n]? := by
  unfold into
  rw [List.getElem?_append, List.length_take, show min o c.length = o by omega]
  by_cases h1 : n < o
  · rw [if_pos h1, if_pos h1, List.getElem?_take, if_pos h1]
  · rw [if_neg h1, if_neg h1, List.getElem?_append, hd]
    by_cases h2 : n - o < 16
    · rw [if_pos h2, if_pos (by omega)]
    · rw [if_neg h2, if_neg (by omega), List.getElem?_drop]
      congr 1
      omega
theorem chunk_at (c : List Nat) (m j : Nat) : ((c.drop m).take 16)[j]? = if j < 16 then c[m + j]? else none := by
  rw [List.getElem?_take]
  split
  · rw [List.getElem?_drop]
  · rfl
theorem into_same {c d : List Nat} {a : Nat} (hc : c.length = 64) (ha : a < 4) (hd : d.length = 16) : ((into c (16 * a) d).drop (16 * a)).take 16 = d := by
  refine List.ext_getElem? fun j => ?_
  rw [chunk_at]
  by_cases hj : j < 16
  · rw [if_pos hj, into_at hc (by omega) hd, if_neg (by omega), if_pos (by omega)]
    congr 1
    omega
  · rw [if_neg hj, eq_comm, List.getElem?_eq_none]
    omega
theorem into_other {c d : List Nat} {a b : Nat} (hc : c.length = 64) (ha : a < 4) (hd : d.length = 16) (hab : a ≠ b) : ((into c (16 * a) d).drop (16 * b)).take 16 = (c.drop (16 * b)).take 16 := by
  refine List.ext_getElem? fun j => ?_
  rw [chunk_at, chunk_at]
  by_cases hj : j < 16
  · rw [if_pos hj, if_pos hj, into_at hc (by omega) hd]
    by_cases h1 : 16 * b + j < 16 * a
    · rw [if_pos h1]
    · rw [if_neg h1, if_neg (by omega)]
  · rw [if_neg hj, if_neg hj]

/-! ### sectors that tell a slot -/
theorem getS_none {xs : List Nat} (h : (getS xs).2 ≠ 0) : (getS xs).1 = Sg.none := by
  unfold getS at h ⊢
  split
  · rfl
  · rename_i h1
    rw [if_neg h1] at h
    split
    · rename_i h2; rw [if_pos h2] at h; exact absurd rfl h
    · rfl
structure Rep (S : List (List Nat)) (t : Slt) (x : Rf) : Prop where
  yes : x.has = true → getS (S.getD t.at_ []) = (x.g, 0)
  no : x.has = false → (getS (S.getD t.at_ [])).2 ≠ 0
  bl : ∀ i, i < x.bl.length → x.bl.getD i [] ≠ [] → ((S.getD (t.dat (i / 4)) []).drop (16 * (i % 4))).take 16 = x.bl.getD i []
/-- All other sectors are as they were. -/
def Out (S0 S : List (List Nat)) (t : Slt) : Prop := S.length = S0.length ∧ ∀ i, i < t.at_ ∨ t.at_ + 4 ≤ i → S.getD i [] = S0.getD i []
theorem Out.set {S0 S : List (List Nat)} {t : Slt} (h : Out S0 S t) {i : Nat} (bs : List Nat) (h0 : t.at_ ≤ i) (h1 : i < t.at_ + 4) : Out S0 (S.set i bs) t :=
  ⟨by rw [List.length_set]; exact h.1, fun j hj => by
    have e : i ≠ j := by omega
    rw [List.getD_eq_getElem?_getD, List.getElem?_set, if_neg e, ← List.getD_eq_getElem?_getD]
    exact h.2 j hj⟩
/-- A slot on a disk that is up, beside the document's own. -/
structure Inv (S0 : List (List Nat)) (s : St) (t : Slt) (x : Rf) : Prop where
  up : Up0 s
  rep : Rep s.S t x
  has : t.has = x.has
  g : t.g = x.g
  wf : x.wf
  len : t.at_ + 4 ≤ s.S.length
  out : Out S0 s.S t
  byts : Put2.Byts s
/-- A disk that went down: whatever it keeps, it tells the one, or the other. -/
structure Dn (S0 : List (List Nat)) (s : St) (t : Slt) (x y : Rf) : Prop where
  down : s.down = true
  ok : s.ok
  most : s.L.length ≤ 1
  has : t.has = x.has
  g : t.g = x.g
  wf : x.wf
  wfy : y.wf
  like : x.has = y.has → x.g = y.g → x = y
  len : t.at_ + 4 ≤ s.S.length
  rep : ∀ K, Rep (power K s).S t x ∨ Rep (power K s).S t y
  out : ∀ K, Out S0 (power K s).S t
  byts : Put2.Byts s
theorem dat_of (t : Slt) (i : Nat) : t.dat i = t.at_ + 1 + i := rfl
theorem Rep.to {x : Rf} {t : Slt} {S : List (List Nat)} {t' : Slt} (h : Rep S t x) (e : t'.at_ = t.at_) : Rep S t' x := ⟨by rw [e]; exact h.yes, by rw [e]; exact h.no, fun i hi h0 => by have := h.bl i hi h0; unfold Slt.dat at this ⊢; rw [e]; exact this⟩
theorem Out.to {S0 S : List (List Nat)} {t t' : Slt} (h : Out S0 S t) (e : t'.at_ = t.at_) : Out S0 S t' := ⟨h.1, by rw [e]; exact h.2⟩
/-- The stage's sector alone is written. -/
theorem rep_stage {S : List (List Nat)} {t : Slt} {x : Rf} {bs : List Nat} (hl : t.at_ + 4 ≤ S.length) (hy : x.has = true → getS bs = (x.g, 0)) (hn : x.has = false → (getS bs).2 ≠ 0)
    (hb : ∀ i, i < x.bl.length → i < 12 ∧ (x.bl.getD i [] ≠ [] → ((S.getD (t.dat (i / 4)) []).drop (16 * (i % 4))).take 16 = x.bl.getD i [])) : Rep (S.set t.at_ bs) t x :=
  ⟨fun h => by rw [getD_set bs (by omega), if_pos rfl]; exact hy h, fun h => by rw [getD_set bs (by omega), if_pos rfl]; exact hn h, fun i hi h0 => by
    rw [getD_set bs (by omega), if_neg (by rw [dat_of]; omega)]
    exact (hb i hi).2 h0⟩
/-- A block's sector is written, the block isn't there. -/
theorem rep_sect {S : List (List Nat)} {t : Slt} {x : Rf} {no : Nat} {d : List Nat} (h : Rep S t x) (hl : t.at_ + 4 ≤ S.length) (hs : ∀ z ∈ S, z.length = 64) (hn : no < 12) (hd : d.length = 16) (h0 : x.bl.getD no [] = []) :
    Rep (S.set (t.dat (no / 4)) (into (S.getD (t.dat (no / 4)) []) (16 * (no % 4)) d)) t x := by
  have hi : t.dat (no / 4) < S.length := by rw [dat_of]; omega
  have h64 : (S.getD (t.dat (no / 4)) []).length = 64 := by
    rw [List.getD_eq_getElem?_getD, List.getElem?_eq_getElem hi]
    exact hs _ (List.getElem_mem hi)
  refine ⟨fun hh => ?_, fun hh => ?_, fun i hib h1 => ?_⟩
  · rw [getD_set _ hi, if_neg (by rw [dat_of]; omega)]; exact h.yes hh
  · rw [getD_set _ hi, if_neg (by rw [dat_of]; omega)]; exact h.no hh
  · rw [getD_set _ hi]
    by_cases e : t.dat (no / 4) = t.dat (i / 4)
    · rw [if_pos e]
      rw [dat_of, dat_of] at e
      have hne : i ≠ no := fun e2 => h1 (by rw [e2]; exact h0)
      have h2 := h.bl i hib h1
      rw [show i / 4 = no / 4 from by omega] at h2
      rw [into_other h64 (by omega) hd (by omega)]
      exact h2
    · rw [if_neg e]
      exact h.bl i hib h1

theorem bl_12 {x : Rf} (h : x.wf) {i : Nat} (hi : i < x.bl.length) : i < 12 := by
  cases hh : x.has
  · have := h.no hh
    rw [this] at hi
    simp [Rf.none] at hi
  · have h1 := h.len hh
    have h2 := blocks_10 (h.right hh).2.1.2
    omega
theorem Sg.eq_of {g k : Sg} (h1 : g.s = k.s) (h2 : g.z = k.z) (h3 : g.h = k.h) : g = k := by
  obtain ⟨a, b, c⟩ := g
  obtain ⟨a', b', c'⟩ := k
  simp only at h1 h2 h3
  subst h1 h2 h3
  rfl
section
variable {S0 : List (List Nat)} {s : St} {t : Slt} {x : Rf}
theorem Inv.out_power (h : Inv S0 s t x) {s' : St} {i : Nat} {bs : List Nat} (h0 : t.at_ ≤ i) (h1 : i < t.at_ + 4) (hp : ∀ K, (power K s').S = s.S ∨ (power K s').S = s.S.set i bs) (K : Nat) : Out S0 (power K s').S t := by
  rcases hp K with e | e
  · rw [e]; exact h.out
  · rw [e]; exact h.out.set bs h0 h1
/-- A stage is begun. -/
theorem step_B (h : Inv S0 s t x) (n z : Int) :
    ((pB s t n z).2.2 = (rB x n z).2 ∧ (pB s t n z).2.2 ≠ 8 ∧ Inv S0 (pB s t n z).1 (pB s t n z).2.1 (rB x n z).1) ∨
    ((pB s t n z).2.2 = 8 ∧ (rB x n z).2 = 0 ∧ (pB s t n z).2.1 = t ∧ Dn S0 (pB s t n z).1 t x (rB x n z).1) := by
  unfold pB rB
  by_cases hr : (fresh n z).right
  · rw [if_pos hr, if_pos hr]
    have hi : t.at_ < s.S.length := by have := h.len; omega
    have hbz : (shut (fresh n z).bytes).length = 64 := shut_len (by rw [Sg.bytes_len]; omega)
    have hby := Put2.put1_byts h.byts t.at_ (shut_lt (fresh n z).bytes_lt)
    have hrep : Rep (s.S.set t.at_ (shut (fresh n z).bytes)) t ⟨true, fresh n z, List.replicate (blocks z) []⟩ :=
      rep_stage h.len (fun _ => getS_back hr) (fun e => (by cases e)) fun i hi => by
        have hi' : i < blocks z := by simpa using hi
        have := blocks_10 (show z ≤ 160 from hr.2.1.2)
        exact ⟨by omega, fun e => absurd (by rw [List.getD_eq_getElem?_getD, List.getElem?_replicate, if_pos hi']; rfl) e⟩
    rcases put1_cases h.up hi hbz with ⟨h0, hu, hS⟩ | ⟨h8, hd, hok, hm, hp⟩
    · rw [if_pos h0]
      refine .inl ⟨rfl, (by show (0 : Int) ≠ 8; omega), hu, ?_, rfl, rfl, fresh_wf hr, ?_, ?_, hby⟩
      · rw [hS]; exact Rep.to hrep rfl
      · rw [hS, List.length_set]; exact h.len
      · rw [hS]; exact Out.to (h.out.set _ (Nat.le_refl _) (by omega)) rfl
    · rw [if_neg (by omega)]
      refine .inr ⟨rfl, rfl, rfl, hd, hok, hm, h.has, h.g, h.wf, fresh_wf hr, fun e1 e2 => ?_, ?_, fun K => ?_, fun K => h.out_power (Nat.le_refl _) (by omega) hp K, hby⟩
      · obtain ⟨xh, xg, xb⟩ := x
        simp only at e1 e2
        subst e1 e2
        have hl : xb.length = blocks z := h.wf.len rfl
        have : xb = List.replicate (blocks z) [] := by
          refine List.ext_getElem (by simp [hl]) fun i h1 h2 => ?_
          rcases h.wf.each i h1 with h3 | h3
          · rw [List.getElem_replicate]
            have := h3.1
            rw [List.getD_eq_getElem?_getD, List.getElem?_eq_getElem h1] at this
            exact this
          · exact absurd h3.2 (by show ¬ hb 0 i = true; rw [hb_zero]; simp)
        rw [this]
      · exact len_dn h.len hp
      · rcases hp K with e | e
        · rw [e]; exact .inl h.rep
        · rw [e]; exact .inr hrep
  · rw [if_neg hr, if_neg hr]
    exact .inl ⟨rfl, by show (3 : Int) ≠ 8; omega, h⟩
/-- A slot is cleared. -/
theorem step_C (h : Inv S0 s t x) :
    ((pC s t).2.2 = 0 ∧ Inv S0 (pC s t).1 (pC s t).2.1 Rf.none) ∨ ((pC s t).2.2 = 8 ∧ (pC s t).2.1 = t ∧ Dn S0 (pC s t).1 t x Rf.none) := by
  unfold pC
  have hi : t.at_ < s.S.length := by have := h.len; omega
  have hbz : (zs 64).length = 64 := zs_len 64
  have hby := Put2.put1_byts h.byts t.at_ (Put2.zs_byt 64)
  have hz : (getS (zs 64)).2 ≠ 0 := by
    have e : wrong 83 8 (zs 64) = 2 := by
      have := wrong_same 83 0 64 8 (by omega)
      rw [if_pos rfl] at this
      exact this
    unfold getS
    rw [e, if_pos (by omega)]
    show (2 : Int) ≠ 0
    omega
  have hrep : Rep (s.S.set t.at_ (zs 64)) t Rf.none :=
    rep_stage h.len (fun e => (by cases e)) (fun _ => hz) fun i hi => by simp [Rf.none] at hi
  rcases put1_cases h.up hi hbz with ⟨h0, hu, hS⟩ | ⟨h8, hd, hok, hm, hp⟩
  · rw [if_pos h0]
    refine .inl ⟨rfl, hu, ?_, rfl, rfl, none_wf, ?_, ?_, hby⟩
    · rw [hS]; exact Rep.to hrep rfl
    · rw [hS, List.length_set]; exact h.len
    · rw [hS]; exact Out.to (h.out.set _ (Nat.le_refl _) (by omega)) rfl
  · rw [if_neg (by omega)]
    refine .inr ⟨rfl, rfl, hd, hok, hm, h.has, h.g, h.wf, none_wf, fun e1 _ => h.wf.no e1, ?_, fun K => ?_, fun K => h.out_power (Nat.le_refl _) (by omega) hp K, hby⟩
    · exact len_dn h.len hp
    · rcases hp K with e | e
      · rw [e]; exact .inl h.rep
      · rw [e]; exact .inr hrep
end
end Go.Proofs.Ythgmocipiknfpaa.StgP
namespace Go.Proofs.Ythgmocipiknfpaa.StgQ
open Go.RowKit Go.Proofs.Ythgmocipiknfpaa.Kit Go.Proofs.Ythgmocipiknfpaa.Byt Go.Proofs.Ythgmocipiknfpaa.Mem Go.Proofs.Ythgmocipiknfpaa.DskA Go.Proofs.Ythgmocipiknfpaa.DskB Go.Proofs.Ythgmocipiknfpaa.DskD Go.Proofs.Ythgmocipiknfpaa.DskE Go.Proofs.Ythgmocipiknfpaa.DskF Go.Proofs.Ythgmocipiknfpaa.RecM Go.Proofs.Ythgmocipiknfpaa.BitM Go.Proofs.Ythgmocipiknfpaa.BitA Go.Proofs.Ythgmocipiknfpaa.BitB Go.Proofs.Ythgmocipiknfpaa.BitC Go.Proofs.Ythgmocipiknfpaa.StgM Go.Proofs.Ythgmocipiknfpaa.StgP

section
variable {S0 : List (List Nat)} {s : St} {t : Slt} {x : Rf}
theorem sec_len (h : Inv S0 s t x) {i : Nat} (hi : i < s.S.length) : (s.S.getD i []).length = 64 := by
  rw [List.getD_eq_getElem?_getD, List.getElem?_eq_getElem hi]
  exact h.up.ok.sec _ (List.getElem_mem hi)
/-- A block is there, by the code, if it is there, by the document. -/
theorem there (h : Inv S0 s t x) {no : Nat} (hn : no < x.bl.length) : (hb t.g.h no = true ↔ x.bl.getD no [] ≠ []) := by
  rw [h.g]
  rcases h.wf.each no hn with h1 | h1
  · rw [h1.1, h1.2]; simp
  · rw [h1.2]
    refine ⟨fun _ e => ?_, fun _ => rfl⟩
    rw [e] at h1
    exact absurd h1.1 (by simp)
/-- A block is put. -/
theorem step_P (h : Inv S0 s t x) (n no : Int) (d : List Nat) (hbd : byt d) :
    ((pP s t n no d).2.2 = (rP x n no d).2 ∧ (pP s t n no d).2.2 ≠ 8 ∧ Inv S0 (pP s t n no d).1 (pP s t n no d).2.1 (rP x n no d).1) ∨
    ((pP s t n no d).2.2 = 8 ∧ (rP x n no d).2 = 0 ∧ (pP s t n no d).2.1 = t ∧ Dn S0 (pP s t n no d).1 t x (rP x n no d).1) := by
  unfold pP rP
  rw [h.has]
  by_cases hh : x.has = false
  · rw [if_pos hh, if_pos hh]
    exact .inl ⟨rfl, by show (16 : Int) ≠ 8; omega, h⟩
  rw [if_neg hh, if_neg hh]
  have hh' : x.has = true := by simpa using hh
  rw [show t.g.s = x.g.s from by rw [h.g]]
  by_cases hs : n ≠ x.g.s
  · rw [if_pos hs, if_pos hs]
    exact .inl ⟨rfl, by show (17 : Int) ≠ 8; omega, h⟩
  rw [if_neg hs, if_neg hs]
  have hl := h.wf.len hh'
  rw [show t.g.z = x.g.z from by rw [h.g], ← hl]
  by_cases hno : no < 0 ∨ (x.bl.length : Int) ≤ no
  · rw [if_pos hno, if_pos hno]
    exact .inl ⟨rfl, by show (3 : Int) ≠ 8; omega, h⟩
  rw [if_neg hno, if_neg hno]
  by_cases hd : d.length ≠ 16
  · rw [if_pos hd, if_pos hd]
    exact .inl ⟨rfl, by show (14 : Int) ≠ 8; omega, h⟩
  rw [if_neg hd, if_neg hd]
  have hd' : d.length = 16 := by omega
  obtain ⟨k, rfl⟩ : ∃ k : Nat, no = k := ⟨no.toNat, by omega⟩
  have hk : k < x.bl.length := by omega
  rw [show ((k : Int)).toNat = k from by omega]
  by_cases hb1 : hb t.g.h k = true
  · rw [if_pos hb1, if_pos ((there h hk).1 hb1)]
    exact .inl ⟨rfl, by show (0 : Int) ≠ 8; omega, h⟩
  have h0 : x.bl.getD k [] = [] := by
    cases e : x.bl.getD k [] with
    | nil => rfl
    | cons a l => exact absurd ((there h hk).2 (by rw [e]; simp)) hb1
  rw [if_neg hb1, if_neg (show ¬ x.bl.getD k [] ≠ [] from fun e => e h0)]
  obtain ⟨hb0, hwf⟩ := rP_yes h.wf hh' hk hd' h0
  have hmore : more t.g k = { x.g with h := x.g.h + pw k } := by
    unfold more
    rw [h.g, wv_no (by have := bl_12 h.wf hk; omega) hb0]
  have h12 := bl_12 h.wf hk
  have hlen := h.len
  have hi : t.dat (k / 4) < s.S.length := by rw [dat_of]; omega
  have hsec := sec_len h hi
  have hnow : sect s t k d = into (s.S.getD (t.dat (k / 4)) []) (16 * (k % 4)) d := by unfold sect; rw [now_S h.up.none_]
  have hsl : (sect s t k d).length = 64 := by rw [hnow]; exact into_len hsec (by omega) hd'
  have hr1 : Rep (s.S.set (t.dat (k / 4)) (sect s t k d)) t x := by rw [hnow]; exact rep_sect h.rep hlen h.up.ok.sec h12 hd' h0
  have hr2 : Rep ((s.S.set (t.dat (k / 4)) (sect s t k d)).set t.at_ (shut (more t.g k).bytes)) t ⟨true, { x.g with h := x.g.h + pw k }, x.bl.set k d⟩ := by
    refine rep_stage (by rw [List.length_set]; exact hlen) (fun _ => ?_) (fun e => (by cases e)) fun i hib => ?_
    · rw [hmore]; exact getS_back (hwf.right rfl)
    · have hib' : i < x.bl.length := by simpa using hib
      have hi12 := bl_12 h.wf hib'
      refine ⟨hi12, fun h1 => ?_⟩
      show (((s.S.set (t.dat (k / 4)) (sect s t k d)).getD (t.dat (i / 4)) []).drop (16 * (i % 4))).take 16 = (x.bl.set k d).getD i []
      rw [getD_set d hk]
      by_cases e : k = i
      · subst e
        rw [if_pos rfl, getD_set _ hi, if_pos rfl, hnow]
        exact into_same hsec (by omega) hd'
      · rw [if_neg e]
        refine hr1.bl i hib' ?_
        intro e2
        refine h1 ?_
        show (x.bl.set k d).getD i [] = []
        rw [getD_set d hk, if_neg e]
        exact e2
  have hbs : (shut (more t.g k).bytes).length = 64 := shut_len (by rw [Sg.bytes_len]; omega)
  have hbq : byt (sect s t k d) := by
    unfold sect into
    exact byt_app (byt_take (Put2.now_byt h.byts _) _) (byt_app hbd (byt_drop (Put2.now_byt h.byts _) _))
  have hy1 := Put2.put1_byts h.byts (t.dat (k / 4)) hbq
  have hy2 := Put2.put1_byts hy1 t.at_ (shut_lt (more t.g k).bytes_lt)
  have hlike : x.has = true → x.g = { x.g with h := x.g.h + pw k } → x = ⟨true, { x.g with h := x.g.h + pw k }, x.bl.set k d⟩ := fun _ e => by
    have h1 := congrArg Sg.h e
    have h2 := pw_pos k
    simp only at h1
    omega
  rcases put1_cases h.up hi hsl with ⟨e0, hu, hS⟩ | ⟨e8, hdn, hok, hm, hp⟩
  · rw [if_neg (show ¬ (put1 s (t.dat (k / 4)) (sect s t k d)).2 ≠ 0 from fun e => e e0)]
    obtain ⟨q, hq⟩ : ∃ q, q = put1 s (t.dat (k / 4)) (sect s t k d) := ⟨_, rfl⟩
    rw [← hq] at e0 hu hS hy1 hy2 ⊢
    have hi2 : t.at_ < q.1.S.length := by rw [hS, List.length_set]; omega
    rcases put1_cases hu hi2 hbs with ⟨f0, gu, gS⟩ | ⟨f8, gdn, gok, gm, gp⟩
    · rw [if_neg (show ¬ (put1 q.1 t.at_ (shut (more t.g k).bytes)).2 ≠ 0 from fun e => e f0)]
      refine .inl ⟨rfl, (by show (0 : Int) ≠ 8; omega), gu, ?_, (by first | exact hh' | exact h.has.trans hh'), hmore, hwf, ?_, ?_, hy2⟩
      · rw [gS, hS]; exact Rep.to hr2 rfl
      · rw [gS, hS, List.length_set, List.length_set]; exact hlen
      · rw [gS, hS]; exact Out.to ((h.out.set _ (by rw [dat_of]; omega) (by rw [dat_of]; omega)).set _ (Nat.le_refl _) (by omega)) rfl
    · rw [if_pos (show (put1 q.1 t.at_ (shut (more t.g k).bytes)).2 ≠ 0 from by rw [f8]; omega)]
      refine .inr ⟨rfl, rfl, rfl, gdn, gok, gm, h.has, h.g, h.wf, hwf, fun e1 e2 => hlike hh' e2, ?_, fun K => ?_, fun K => ?_, hy2⟩
      · exact len_dn (show t.at_ + 4 ≤ q.1.S.length from by rw [hS, List.length_set]; exact hlen) gp
      · rcases gp K with e | e
        · rw [e, hS]; exact .inl hr1
        · rw [e, hS]; exact .inr hr2
      · have ho := h.out.set (i := t.dat (k / 4)) (sect s t k d) (by rw [dat_of]; omega) (by rw [dat_of]; omega)
        rcases gp K with e | e
        · rw [e, hS]; exact ho
        · rw [e, hS]; exact ho.set _ (Nat.le_refl _) (by omega)
  · rw [if_pos (show (put1 s (t.dat (k / 4)) (sect s t k d)).2 ≠ 0 from by rw [e8]; omega)]
    refine .inr ⟨rfl, rfl, rfl, hdn, hok, hm, h.has, h.g, h.wf, hwf, fun e1 e2 => hlike hh' e2, ?_, fun K => ?_, fun K => ?_, hy1⟩
    · exact len_dn hlen hp
    · rcases hp K with e | e
      · rw [e]; exact .inl h.rep
      · rw [e]; exact .inl hr1
    · exact h.out_power (by rw [dat_of]; omega) (by rw [dat_of]; omega) hp K

/-! ### its bytes -/
theorem mem_nil {l : List (List Nat)} : [] ∈ l ↔ ∃ i, i < l.length ∧ l.getD i [] = [] := by
  constructor
  · intro h
    obtain ⟨i, hi, e⟩ := List.getElem_of_mem h
    exact ⟨i, hi, by rw [List.getD_eq_getElem?_getD, List.getElem?_eq_getElem hi]; exact e⟩
  · rintro ⟨i, hi, e⟩
    rw [List.getD_eq_getElem?_getD, List.getElem?_eq_getElem hi] at e
    have e' : l[i] = [] := e
    rw [← e']
    exact List.getElem_mem hi
theorem miss_iff (h : Int) (m : Nat) : miss h m = [] ↔ ∀ i, i < m → hb h i = true := by
  induction m with
  | zero => simp [miss]
  | succ m ih =>
    rw [miss, List.append_eq_nil_iff, ih]
    constructor
    · rintro ⟨h1, h2⟩ i hi
      by_cases e : i = m
      · subst e
        cases h3 : hb h i
        · rw [h3] at h2; simp at h2
        · rfl
      · exact h1 i (by omega)
    · intro h1
      exact ⟨fun i hi => h1 i (by omega), by rw [h1 m (by omega)]; simp⟩
theorem flat_chunks {Y : List Nat} {l : List (List Nat)} (h : ∀ i, i < l.length → l.getD i [] = (Y.drop (16 * i)).take 16) (hY : 16 * l.length ≤ Y.length) : l.flatten = Y.take (16 * l.length) := by
  have e : ∀ m, m ≤ l.length → (l.take m).flatten = Y.take (16 * m) := by
    intro m
    induction m with
    | zero => intro _; simp
    | succ m ih =>
      intro hm
      rw [List.take_add_one, List.flatten_append, ih (by omega)]
      have h1 := h m (by omega)
      rw [List.getD_eq_getElem?_getD, List.getElem?_eq_getElem (by omega)] at h1
      have h1' : l[m] = (Y.drop (16 * m)).take 16 := h1
      rw [List.getElem?_eq_getElem (by omega)]
      show _ ++ [l[m]].flatten = _
      rw [h1']
      simp only [List.flatten_cons, List.flatten_nil, List.append_nil]
      rw [show 16 * (m + 1) = 16 * m + 16 by omega, List.take_add]
  have := e l.length (Nat.le_refl _)
  rwa [List.take_length] at this
theorem three {A B C : List Nat} (hA : A.length = 64) (hB : B.length = 64) (hC : C.length = 64) {i : Nat} (hi : i < 12) :
    ((A ++ (B ++ C)).drop (16 * i)).take 16 = ((if i / 4 = 0 then A else if i / 4 = 1 then B else C).drop (16 * (i % 4))).take 16 := by
  refine List.ext_getElem? fun j => ?_
  rw [chunk_at, chunk_at]
  by_cases hj : j < 16
  · rw [if_pos hj, if_pos hj, List.getElem?_append, hA]
    rcases (show i / 4 = 0 ∨ i / 4 = 1 ∨ i / 4 = 2 by omega) with e | e | e
    · rw [if_pos e, if_pos (by omega)]
      congr 1
      omega
    · rw [if_neg (by omega), if_neg (by omega), if_pos e, List.getElem?_append, hB, if_pos (by omega)]
      congr 1
      omega
    · rw [if_neg (by omega), if_neg (by omega), if_neg (by omega), List.getElem?_append, hB, if_neg (by omega), show 16 * i + j - 64 - 64 = 16 * (i % 4) + j from by omega]
  · rw [if_neg hj, if_neg hj]
/-- What the slot's bytes are, by both. -/
theorem same_Y (h : Inv S0 s t x) : pY s t = rY x := by
  unfold pY rY
  rw [h.has]
  by_cases hh : x.has = false
  · rw [if_pos hh, if_pos hh]
  rw [if_neg hh, if_neg hh]
  have hh' : x.has = true := by simpa using hh
  have hl := h.wf.len hh'
  rw [show t.g.z = x.g.z from by rw [h.g], ← hl]
  have hm : miss t.g.h x.bl.length = [] ↔ ¬ [] ∈ x.bl := by
    rw [miss_iff, mem_nil]
    constructor
    · rintro h1 ⟨i, hi, e⟩
      exact (there h hi).1 (h1 i hi) e
    · intro h1 i hi
      exact (there h hi).2 fun e => h1 ⟨i, hi, e⟩
  by_cases hn : [] ∈ x.bl
  · rw [if_pos hn, if_pos (fun e => (hm.1 e) hn)]
  rw [if_neg hn, if_neg (fun e => e (hm.2 hn)), if_neg (by rw [h.up.up]; simp)]
  have hlen := h.len
  have l0 := sec_len h (i := t.dat 0) (by rw [dat_of]; omega)
  have l1 := sec_len h (i := t.dat 1) (by rw [dat_of]; omega)
  have l2 := sec_len h (i := t.dat 2) (by rw [dat_of]; omega)
  rw [now_S h.up.none_, now_S h.up.none_, now_S h.up.none_]
  have hz := (h.wf.right hh').2.1
  have h10 := blocks_10 hz.2
  have hY : x.bl.flatten = (s.S.getD (t.dat 0) [] ++ (s.S.getD (t.dat 1) [] ++ s.S.getD (t.dat 2) [])).take (16 * x.bl.length) := by
    refine flat_chunks (fun i hi => ?_) (by rw [List.length_append, List.length_append]; omega)
    rw [three l0 l1 l2 (by omega)]
    have h1 := h.rep.bl i hi (fun e => hn (mem_nil.2 ⟨i, hi, e⟩))
    rw [← h1]
    rcases (show i / 4 = 0 ∨ i / 4 = 1 ∨ i / 4 = 2 by omega) with e | e | e
    · rw [e, if_pos rfl]
    · rw [e, if_neg (by omega), if_pos rfl]
    · rw [e, if_neg (by omega), if_neg (by omega)]
  rw [hY, List.take_take]
  have hb : x.g.z.toNat ≤ 16 * x.bl.length := by rw [hl]; unfold blocks; omega
  rw [Nat.min_eq_left hb]

/-! ### the power fails -/
theorem pO_like {s : St} (hL : s.L = []) {x : Rf} (h : Rep s.S t x) (hw : x.wf) : (pO s t.p t.k).has = x.has ∧ (pO s t.p t.k).g = x.g := by
  unfold pO
  rw [now_S hL]
  show decide ((getS (s.S.getD t.at_ [])).2 = 0) = x.has ∧ (getS (s.S.getD t.at_ [])).1 = x.g
  cases hh : x.has
  · have h1 := h.no hh
    refine ⟨by simpa using h1, ?_⟩
    rw [getS_none h1, hw.no hh]
    rfl
  · rw [h.yes hh]
    exact ⟨by simp, rfl⟩
theorem pO_at (s : St) (p k : Nat) : (pO s p k).at_ = 10 * p + 2 + 4 * k := rfl
/-- A disk that is up loses nothing. -/
theorem power_up (h : Inv S0 s t x) (K : Nat) : Inv S0 (power K s) (pO (power K s) t.p t.k) x := by
  have hS : (power K s).S = s.S := by rw [power_S, h.up.none_]; rfl
  have hl := pO_like (t := t) (s := power K s) rfl (x := x) (by rw [hS]; exact h.rep) h.wf
  exact ⟨power_up0 h.up.ok K, Rep.to (t := t) (by rw [hS]; exact h.rep) rfl, hl.1, hl.2, h.wf, by rw [hS]; exact h.len, by rw [hS]; exact ⟨h.out.1, h.out.2⟩, Put2.power_byts h.byts K⟩
/-- A disk that went down tells the one, or the other; which, its slot tells. -/
theorem power_dn {y : Rf} (h : Dn S0 s t x y) (K : Nat) : (Inv S0 (power K s) (pO (power K s) t.p t.k) y) ∨ (Inv S0 (power K s) (pO (power K s) t.p t.k) x ∧ ¬ ((pO (power K s) t.p t.k).has = y.has ∧ (pO (power K s) t.p t.k).g = y.g)) := by
  have mk : ∀ z : Rf, z.wf → Rep (power K s).S t z → Inv S0 (power K s) (pO (power K s) t.p t.k) z := fun z hw hr => by
    have hl := pO_like (t := t) (s := power K s) rfl hr hw
    exact ⟨power_up0 h.ok K, Rep.to hr rfl, hl.1, hl.2, hw, by rw [power_len]; exact h.len, ⟨(h.out K).1, (h.out K).2⟩, Put2.power_byts h.byts K⟩
  by_cases hy : Rep (power K s).S t y
  · exact .inl (mk y h.wfy hy)
  · rcases h.rep K with hx | hx
    · refine .inr ⟨mk x h.wf hx, fun hc => hy ?_⟩
      have hl := pO_like (t := t) (s := power K s) rfl hx h.wf
      have e := h.like (by rw [← hl.1]; exact hc.1) (by rw [← hl.2]; exact hc.2)
      rw [← e]
      exact hx
    · exact absurd hx hy
end
end Go.Proofs.Ythgmocipiknfpaa.StgQ
namespace Go.Proofs.Ythgmocipiknfpaa.RecA
open Go.RowKit Go.Proofs.Ythgmocipiknfpaa.Kit Go.Proofs.Ythgmocipiknfpaa.Byt Go.Proofs.Ythgmocipiknfpaa.Mem Go.Proofs.Ythgmocipiknfpaa.RecM

open Classical in
theorem bool_of (p : Prop) : ∃ b : Bool, b = true ↔ p := ⟨decide p, by simp⟩
@[reducible] def rval (r : Rc) : Value := .agg #[.int .i64 r.p, .int .i64 r.q, .int .i64 r.a, .int .i64 r.c, .int .i64 r.l, .int .i64 r.b]
@[reducible] def sval (g : Sg) : Value := .agg #[.int .i64 g.s, .int .i64 g.z, .int .i64 g.h]
def rcells (r : Rc) : List Value := [.int .i64 r.p, .int .i64 r.q, .int .i64 r.a, .int .i64 r.c, .int .i64 r.l, .int .i64 r.b]
def scells (g : Sg) : List Value := [.int .i64 g.s, .int .i64 g.z, .int .i64 g.h]
/-- A number of 64 bits. -/
def n64 (x : Int) : Prop := -9223372036854775808 ≤ x ∧ x ≤ 9223372036854775807
structure rok (r : Rc) : Prop where
  p : n64 r.p
  q : n64 r.q
  a : n64 r.a
  c : n64 r.c
  l : n64 r.l
  b : n64 r.b
structure sok (g : Sg) : Prop where
  s : n64 g.s
  z : n64 g.z
  h : n64 g.h

/-- The world only has more than w; this bool comes back. -/
def Yes (w : World) (b : Bool) (e : Ending) (w' : World) : Prop := e = .returned (.bool b) ∧ Below w.heap.size w w'
/-- A box of one's own, and all that was there. -/
structure Bx (w : World) (g : Nat) (t : TypeId) (cs : List Value) (wr : World) : Prop where
  blk : Blk wr g t cs
  new_ : w.heap.size ≤ g
  bel : Below w.heap.size w wr
theorem Bx.new (w : World) (t : TypeId) (cs : List Value) : Bx w w.heap.size t cs (w.alloc (.cells cs.toArray t)) := ⟨Blk.new w _ _, Nat.le_refl _, (Below.refl _ _).alloc (Nat.le_refl _) _⟩
theorem Bx.step {w wr w' : World} {g : Nat} {t : TypeId} {cs : List Value} (h : Bx w g t cs wr) (hb : Below wr.heap.size wr w') : Bx w g t cs w' := ⟨h.blk.below hb, h.new_, h.bel.trans (hb.mono h.bel.size)⟩
theorem Bx.alloc {w wr : World} {g : Nat} {t : TypeId} {cs : List Value} (h : Bx w g t cs wr) (o : Obj) : Bx w g t cs (wr.alloc o) := h.step ((Below.refl _ _).alloc (Nat.le_refl _) o)

set_option maxRecDepth 100000 in
set_option maxHeartbeats 800000 in
theorem int_eq {a b : Int} (h : a = b) : Value.int .i64 a = .int .i64 b := by rw [h]
end Go.Proofs.Ythgmocipiknfpaa.RecA
