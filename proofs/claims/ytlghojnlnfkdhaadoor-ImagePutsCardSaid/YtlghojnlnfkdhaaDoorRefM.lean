/- Plain facts for the reference: long numbers by digits, roots, the first primes, the rounds' own numbers. No conditions but those each law names. -/
import Derived.Test.YtlghojnlnfkdhaaDoorShaM
namespace Go.Proofs.YtlghojnlnfkdhaaDoor.RefM
open Go.Proofs.YtlghojnlnfkdhaaDoor.ShaM

/-- The number of digits to 65536, the lowest first. -/
def val : List Nat → Nat
  | [] => 0
  | d :: l => d + 65536 * val l
theorem val_append (l m : List Nat) : val (l ++ m) = val l + 65536 ^ l.length * val m := by
  induction l with
  | nil => simp [val]
  | cons d l ih =>
    simp only [List.cons_append, val, ih, List.length_cons, Nat.pow_succ]
    rw [Nat.mul_add, ← Nat.add_assoc, ← Nat.mul_assoc, Nat.mul_comm 65536 (65536 ^ l.length)]
theorem val_zeros (n : Nat) : val (List.replicate n 0) = 0 := by
  induction n with
  | zero => rfl
  | succ n ih => simp [List.replicate_succ, val, ih]
/-- Each digit is one. -/
def digs (l : List Nat) : Prop := ∀ d ∈ l, d < 65536
theorem val_lt {l : List Nat} (h : digs l) : val l < 65536 ^ l.length := by
  induction l with
  | nil => simp [val]
  | cons d l ih =>
    have h1 := h d (by simp)
    have h2 := ih fun x hx => h x (by simp [hx])
    simp only [val, List.length_cons, Nat.pow_succ]
    have : 65536 * (val l + 1) ≤ 65536 * 65536 ^ l.length := Nat.mul_le_mul_left _ h2
    omega
theorem val_drop {l : List Nat} (h : digs l) (k : Nat) (hk : k ≤ l.length) : val (l.drop k) = val l / 65536 ^ k := by
  have h1 := val_append (l.take k) (l.drop k)
  rw [List.take_append_drop] at h1
  have hlen : (l.take k).length = k := by simp; omega
  have h2 := val_lt (l := l.take k) fun d hd => h d (List.mem_of_mem_take hd)
  rw [hlen] at h1 h2
  rw [h1, Nat.add_mul_div_left _ _ (Nat.pow_pos (by decide)), Nat.div_eq_of_lt h2, Nat.zero_add]
theorem val_take {l : List Nat} (h : digs l) (k : Nat) (hk : k ≤ l.length) : val (l.take k) = val l % 65536 ^ k := by
  have h1 := val_append (l.take k) (l.drop k)
  rw [List.take_append_drop] at h1
  have hlen : (l.take k).length = k := by simp; omega
  have h2 := val_lt (l := l.take k) fun d hd => h d (List.mem_of_mem_take hd)
  rw [hlen] at h1 h2
  rw [h1, Nat.add_mul_mod_self_left, Nat.mod_eq_of_lt h2]
theorem val_set {l : List Nat} {k : Nat} (hk : k < l.length) (d : Nat) : val (l.set k d) + 65536 ^ k * l[k] = val l + 65536 ^ k * d := by
  induction l generalizing k with
  | nil => simp at hk
  | cons a l ih =>
    match k with
    | 0 => simp only [List.set_cons_zero, val, Nat.pow_zero, Nat.one_mul, List.getElem_cons_zero]; omega
    | k + 1 =>
      have := ih (k := k) (by simpa using hk)
      simp only [List.set_cons_succ, val, List.getElem_cons_succ, Nat.pow_succ]
      have e1 : 65536 ^ k * 65536 * l[k]'(by simpa using hk) = 65536 * (65536 ^ k * l[k]'(by simpa using hk)) := by
        rw [Nat.mul_comm (65536 ^ k) 65536, Nat.mul_assoc]
      have e2 : 65536 ^ k * 65536 * d = 65536 * (65536 ^ k * d) := by
        rw [Nat.mul_comm (65536 ^ k) 65536, Nat.mul_assoc]
      rw [e1, e2]
      omega
theorem val_eq_zero {l : List Nat} (h : ∀ d ∈ l, d = 0) : val l = 0 := by
  induction l with
  | nil => rfl
  | cons d l ih =>
    have h1 := h d (by simp)
    have h2 := ih fun x hx => h x (by simp [hx])
    simp [val, h1, h2]
theorem zero_of_val {l : List Nat} (h : val l = 0) : ∀ d ∈ l, d = 0 := by
  induction l with
  | nil => intro d hd; cases hd
  | cons a l ih =>
    simp only [val] at h
    intro d hd
    rcases List.mem_cons.1 hd with rfl | hd
    · omega
    · exact ih (by omega) d hd

/-- Is m to the degree at most p, as numbers of 32 bits behind the point? -/
def fit (m p d : Nat) : Bool := decide (m ^ d ≤ p * 4294967296 ^ d)
theorem pow_lt_pow {a b d : Nat} (h : a < b) (hd : 0 < d) : a ^ d < b ^ d := Nat.pow_lt_pow_left h (by omega)
/-- There is but one root. -/
theorem root_one {r s P d : Nat} (h1 : r ^ d ≤ P) (h2 : P < (r + 1) ^ d) (h3 : s ^ d ≤ P) (h4 : P < (s + 1) ^ d) : r = s := by
  rcases Nat.lt_trichotomy r s with h | h | h
  · have : (r + 1) ^ d ≤ s ^ d := Nat.pow_le_pow_left h d
    omega
  · exact h
  · have : (s + 1) ^ d ≤ r ^ d := Nat.pow_le_pow_left h d
    omega

/-- The first 64 primes. -/
def PL : List Nat := [2, 3, 5, 7, 11, 13, 17, 19, 23, 29, 31, 37, 41, 43, 47, 53, 59, 61, 67, 71, 73, 79, 83, 89, 97, 101, 103, 107, 109, 113, 127, 131, 137, 139, 149, 151, 157, 163, 167, 173, 179, 181, 191, 193, 197, 199, 211, 223, 227, 229, 233, 239, 241, 251, 257, 263, 269, 271, 277, 281, 283, 293, 307, 311]
/-- Those below p. -/
def pb (p : Nat) : List Nat := PL.filter (· < p)
def isP (p : Nat) (l : List Nat) : Bool := l.all fun q => p % q != 0
theorem pb_all : ∀ p, p < 313 → 2 ≤ p → (pb p).length < 64 → pb (p + 1) = if isP p (pb p) then pb p ++ [p] else pb p := by decide +kernel
theorem pb_end : ∀ p, p < 313 → (pb p).length < 64 ∨ pb p = PL := by decide +kernel
theorem pb_lt : ∀ p, p < 313 → ∀ q ∈ pb p, 2 ≤ q ∧ q < 313 := by decide +kernel
theorem pb_less : (pb 312) = PL := by decide +kernel
theorem pb_two : pb 2 = [] := by decide +kernel
/-- The whole parts of the roots. -/
def C2 : List Nat := [1, 1, 2, 2, 3, 3, 4, 4]
def C3 : List Nat := [1, 1, 1, 1, 2, 2, 2, 2, 2, 3, 3, 3, 3, 3, 3, 3, 3, 3, 4, 4, 4, 4, 4, 4, 4, 4, 4, 4, 4, 4, 5, 5, 5, 5, 5, 5, 5, 5, 5, 5, 5, 5, 5, 5, 5, 5, 5, 6, 6, 6, 6, 6, 6, 6, 6, 6, 6, 6, 6, 6, 6, 6, 6, 6]
/-- The roots, of 32 bits behind the point. -/
def R2 (i : Nat) : Nat := C2.getD i 0 * 4294967296 + w0.list.getD i 0
def R3 (i : Nat) : Nat := C3.getD i 0 * 4294967296 + KT.getD i 0
theorem roots2 : ∀ i, i < 8 → R2 i ^ 2 ≤ PL.getD i 0 * 4294967296 ^ 2 ∧ PL.getD i 0 * 4294967296 ^ 2 < (R2 i + 1) ^ 2 ∧ R2 i % 4294967296 = w0.list.getD i 0 := by decide +kernel
theorem roots3 : ∀ i, i < 64 → R3 i ^ 3 ≤ PL.getD i 0 * 4294967296 ^ 3 ∧ PL.getD i 0 * 4294967296 ^ 3 < (R3 i + 1) ^ 3 ∧ R3 i % 4294967296 = KT.getD i 0 := by decide +kernel
theorem PL_lt : ∀ i, i < 64 → 2 ≤ PL.getD i 0 ∧ PL.getD i 0 < 312 := by decide +kernel
theorem PL_lt2 : ∀ i, i < 8 → PL.getD i 0 < 20 := by decide +kernel

end Go.Proofs.YtlghojnlnfkdhaaDoor.RefM
