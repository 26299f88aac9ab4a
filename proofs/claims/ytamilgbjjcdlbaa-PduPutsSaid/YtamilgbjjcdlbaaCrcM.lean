/- Plain facts on the sum CRC-32: one step, eight steps, a byte fed; what is linear, what is one-to-one, and that a byte is no fixed point of eight steps. No conditions but those each law names; nothing of the program. -/
import Derived.Test.YtamilgbjjcdlbaaKit
namespace Go.Proofs.Ytamilgbjjcdlbaa.CrcM

/-- A register of 32 bits goes one bit down. -/
def stp (x : Nat) : Nat := if x % 2 = 1 then x / 2 ^^^ 3988292384 else x / 2
def it : Nat → Nat → Nat
  | 0, x => x
  | k + 1, x => stp (it k x)
/-- Eight steps. -/
def s8 (x : Nat) : Nat := it 8 x
/-- A byte fed. -/
def fb (x c : Nat) : Nat := s8 (x ^^^ c)
/-- Bytes fed. -/
def fd (x : Nat) (l : List Nat) : Nat := l.foldl fb x
/-- The sum. -/
def sm (l : List Nat) : Nat := 4294967295 - fd 4294967295 l

theorem xor_div2 (a b : Nat) : (a ^^^ b) / 2 = a / 2 ^^^ b / 2 := by
  have := Nat.shiftRight_xor_distrib (a := a) (b := b) (i := 1)
  simpa [Nat.shiftRight_succ] using this
theorem xor_mod2 (a b : Nat) : (a ^^^ b) % 2 = (a % 2 + b % 2) % 2 := by
  have := @Nat.xor_mod_two_eq_one a b
  rcases Nat.mod_two_eq_zero_or_one a with h1 | h1 <;> rcases Nat.mod_two_eq_zero_or_one b with h2 | h2 <;> rcases Nat.mod_two_eq_zero_or_one (a ^^^ b) with h3 | h3 <;> simp_all
theorem stp_lt {x : Nat} (h : x < 4294967296) : stp x < 4294967296 := by
  unfold stp
  split
  · exact Nat.xor_lt_two_pow (n := 32) (by omega) (by decide)
  · omega
theorem stp_xor (a b : Nat) : stp (a ^^^ b) = stp a ^^^ stp b := by
  unfold stp
  rw [xor_div2, xor_mod2]
  rcases Nat.mod_two_eq_zero_or_one a with h1 | h1 <;> rcases Nat.mod_two_eq_zero_or_one b with h2 | h2 <;> simp only [h1, h2]
  · simp
  · simp only [if_true, Nat.reduceEqDiff, if_false, Nat.xor_assoc]
  · simp only [if_true, Nat.reduceEqDiff, if_false]
    simp only [Nat.xor_assoc]
    rw [Nat.xor_comm (b / 2)]
  · simp only [Nat.reduceAdd, Nat.reduceMod, if_true, Nat.zero_ne_one, if_false]
    rw [Nat.xor_assoc, ← Nat.xor_assoc 3988292384, Nat.xor_comm 3988292384, Nat.xor_assoc (b / 2), Nat.xor_self, Nat.xor_zero]
theorem stp_zero : stp 0 = 0 := rfl
theorem stp_eq_zero {x : Nat} (hx : x < 4294967296) (h : stp x = 0) : x = 0 := by
  unfold stp at h
  split at h
  · have h2 : x / 2 = 3988292384 := by
      have := congrArg (· ^^^ 3988292384) h
      simpa [Nat.xor_assoc] using this
    omega
  · omega
theorem it_lt (k : Nat) {x : Nat} (h : x < 4294967296) : it k x < 4294967296 := by
  induction k with
  | zero => exact h
  | succ k ih => exact stp_lt ih
theorem it_xor (k a b : Nat) : it k (a ^^^ b) = it k a ^^^ it k b := by
  induction k with
  | zero => rfl
  | succ k ih => show stp _ = _; rw [ih, stp_xor]; rfl
theorem it_eq_zero {k x : Nat} (hx : x < 4294967296) (h : it k x = 0) : x = 0 := by
  induction k with
  | zero => exact h
  | succ k ih => exact ih (stp_eq_zero (it_lt k hx) h)
theorem it_succ' (k x : Nat) : it (k + 1) x = it k (stp x) := by
  induction k with
  | zero => rfl
  | succ k ih => show stp (it (k + 1) x) = _; rw [ih]; rfl
theorem it_even (k m : Nat) : it k (2 ^ k * m) = m := by
  induction k generalizing m with
  | zero => simp [it]
  | succ k ih =>
    rw [it_succ']
    have e : stp (2 ^ (k + 1) * m) = 2 ^ k * m := by
      unfold stp
      have h1 : 2 ^ (k + 1) * m = 2 * (2 ^ k * m) := by rw [Nat.pow_succ, Nat.mul_comm (2 ^ k) 2, Nat.mul_assoc]
      rw [h1, if_neg (by omega)]
      omega
    rw [e, ih]
theorem s8_lt {x : Nat} (h : x < 4294967296) : s8 x < 4294967296 := it_lt 8 h
theorem s8_xor (a b : Nat) : s8 (a ^^^ b) = s8 a ^^^ s8 b := it_xor 8 a b
theorem s8_inj {a b : Nat} (ha : a < 4294967296) (hb : b < 4294967296) (h : s8 a = s8 b) : a = b := by
  have h0 : s8 (a ^^^ b) = 0 := by rw [s8_xor, h, Nat.xor_self]
  have := it_eq_zero (k := 8) (Nat.xor_lt_two_pow (n := 32) ha hb) h0
  have h2 := congrArg (· ^^^ b) this
  simpa [Nat.xor_assoc] using h2
theorem s8_high (m : Nat) : s8 (256 * m) = m := it_even 8 m
theorem split8 (y : Nat) : y = (256 * (y / 256)) ^^^ (y % 256) := by
  apply Nat.eq_of_testBit_eq
  intro i
  rw [Nat.testBit_xor, show (256 : Nat) = 2 ^ 8 from rfl, Nat.testBit_mod_two_pow, Nat.testBit_two_pow_mul, Nat.testBit_div_two_pow]
  by_cases h : i < 8
  · have : ¬ 8 ≤ i := by omega
    simp [h, this]
  · have : 8 ≤ i := by omega
    simp [h, this]
/-- A byte fed by the table. -/
theorem fb_table {x c : Nat} (hc : c < 256) : fb x c = s8 ((x % 256) ^^^ c) ^^^ x / 256 := by
  have e1 : (x ^^^ c) / 256 = x / 256 := by
    have := Nat.shiftRight_xor_distrib (a := x) (b := c) (i := 8)
    rw [Nat.shiftRight_eq_div_pow, Nat.shiftRight_eq_div_pow, Nat.shiftRight_eq_div_pow] at this
    have h0 : c / 2 ^ 8 = 0 := by omega
    rw [h0] at this
    simpa using this
  have e2 : (x ^^^ c) % 256 = (x % 256) ^^^ c := by
    have := @Nat.xor_mod_two_pow x c 8
    rw [Nat.mod_eq_of_lt (a := c) (by omega)] at this
    exact this
  unfold fb
  conv => lhs; rw [split8 (x ^^^ c)]
  rw [s8_xor, s8_high, e1, e2, Nat.xor_comm]
theorem fb_lt {x c : Nat} (hx : x < 4294967296) (hc : c < 256) : fb x c < 4294967296 := s8_lt (Nat.xor_lt_two_pow (n := 32) hx (by omega))
theorem xor_inj_left {a b c : Nat} (h : a ^^^ c = b ^^^ c) : a = b := by
  have h2 := congrArg (· ^^^ c) h
  simpa [Nat.xor_assoc] using h2
theorem xor_inj_right {a b c : Nat} (h : c ^^^ a = c ^^^ b) : a = b := by
  rw [Nat.xor_comm c, Nat.xor_comm c] at h
  exact xor_inj_left h
theorem fb_inj {x y c : Nat} (hx : x < 4294967296) (hy : y < 4294967296) (hc : c < 256) (h : fb x c = fb y c) : x = y :=
  xor_inj_left (s8_inj (Nat.xor_lt_two_pow (n := 32) hx (by omega)) (Nat.xor_lt_two_pow (n := 32) hy (by omega)) h)
theorem fb_inj' {x c d : Nat} (hx : x < 4294967296) (hc : c < 256) (hd : d < 256) (h : fb x c = fb x d) : c = d :=
  xor_inj_right (s8_inj (Nat.xor_lt_two_pow (n := 32) hx (by omega)) (Nat.xor_lt_two_pow (n := 32) hx (by omega)) h)
theorem fd_nil (x : Nat) : fd x [] = x := by unfold fd; rw [List.foldl_nil]
theorem fd_cons (x c : Nat) (l : List Nat) : fd x (c :: l) = fd (fb x c) l := by unfold fd; rw [List.foldl_cons]
theorem fd_app (x : Nat) (l m : List Nat) : fd x (l ++ m) = fd (fd x l) m := List.foldl_append
theorem fd_snoc (x : Nat) (l : List Nat) (c : Nat) : fd x (l ++ [c]) = fb (fd x l) c := by rw [fd_app, fd_cons, fd_nil]
theorem fd_lt {x : Nat} (hx : x < 4294967296) {l : List Nat} (hl : ∀ c ∈ l, c < 256) : fd x l < 4294967296 := by
  induction l generalizing x with
  | nil => rw [fd_nil]; exact hx
  | cons c l ih => rw [fd_cons]; exact ih (fb_lt hx (hl c (by simp))) fun d hd => hl d (by simp [hd])
theorem fd_inj {x y : Nat} (hx : x < 4294967296) (hy : y < 4294967296) {l : List Nat} (hl : ∀ c ∈ l, c < 256) (h : fd x l = fd y l) : x = y := by
  induction l generalizing x y with
  | nil => rw [fd_nil, fd_nil] at h; exact h
  | cons c l ih =>
    have hc := hl c (by simp)
    rw [fd_cons, fd_cons] at h
    exact fb_inj hx hy hc (ih (fb_lt hx hc) (fb_lt hy hc) (fun d hd => hl d (by simp [hd])) h)
theorem sm_lt (l : List Nat) : sm l < 4294967296 := by unfold sm; omega
theorem sm_eq {l m : List Nat} (hl : ∀ c ∈ l, c < 256) (hm : ∀ c ∈ m, c < 256) (h : sm l = sm m) : fd 4294967295 l = fd 4294967295 m := by
  have h1 := fd_lt (x := 4294967295) (by decide) hl
  have h2 := fd_lt (x := 4294967295) (by decide) hm
  unfold sm at h
  omega
/-- Of bytes of which one is another the sum is another. -/
theorem sm_turned {l m : List Nat} {a b : Nat} (hl : ∀ c ∈ l, c < 256) (hm : ∀ c ∈ m, c < 256) (ha : a < 256) (hb : b < 256) (hab : a ≠ b) : sm (l ++ a :: m) ≠ sm (l ++ b :: m) := by
  intro h
  have h := sm_eq (by intro c hc; simp at hc; rcases hc with hc | hc | hc; exact hl c hc; omega; exact hm c hc) (by intro c hc; simp at hc; rcases hc with hc | hc | hc; exact hl c hc; omega; exact hm c hc) h
  rw [fd_app, fd_app, fd_cons, fd_cons] at h
  have hx := fd_lt (x := 4294967295) (by decide) hl
  exact hab (fb_inj' hx ha hb (fd_inj (fb_lt hx ha) (fb_lt hx hb) hm h))
/-- No byte but zero stays as it is through eight steps. -/
theorem s8_byte : ∀ d, d < 256 → s8 d = d → d = 0 := by
  have h : (List.range 256).all (fun d => s8 d != d || d == 0) = true := by decide +kernel
  intro d hd he
  have := List.all_eq_true.1 h d (by simp [hd])
  simp [he] at this
  exact this
/-- Of bytes of which two neighbours change places the sum is another, if they are unlike. -/
theorem sm_swapped {l m : List Nat} {a b : Nat} (hl : ∀ c ∈ l, c < 256) (hm : ∀ c ∈ m, c < 256) (ha : a < 256) (hb : b < 256) (hab : a ≠ b) : sm (l ++ a :: b :: m) ≠ sm (l ++ b :: a :: m) := by
  intro h
  have h := sm_eq (by intro c hc; simp at hc; rcases hc with hc | hc | hc | hc; exact hl c hc; omega; omega; exact hm c hc) (by intro c hc; simp at hc; rcases hc with hc | hc | hc | hc; exact hl c hc; omega; omega; exact hm c hc) h
  rw [fd_app, fd_app, fd_cons, fd_cons, fd_cons, fd_cons] at h
  have hx := fd_lt (x := 4294967295) (by decide) hl
  have h := fd_inj (fb_lt (fb_lt hx ha) hb) (fb_lt (fb_lt hx hb) ha) hm h
  have h := s8_inj (Nat.xor_lt_two_pow (n := 32) (fb_lt hx ha) (by omega)) (Nat.xor_lt_two_pow (n := 32) (fb_lt hx hb) (by omega)) h
  unfold fb at h
  rw [s8_xor, s8_xor, Nat.xor_assoc, Nat.xor_assoc] at h
  have h := xor_inj_right h
  have h2 : s8 (a ^^^ b) = a ^^^ b := by
    rw [s8_xor]
    have h3 : s8 a ^^^ b ^^^ b ^^^ s8 b = s8 b ^^^ a ^^^ b ^^^ s8 b := by rw [h]
    have e1 : s8 a ^^^ b ^^^ b ^^^ s8 b = s8 a ^^^ s8 b := by rw [Nat.xor_assoc (s8 a), Nat.xor_self, Nat.xor_zero]
    have e2 : s8 b ^^^ a ^^^ b ^^^ s8 b = a ^^^ b := by
      rw [Nat.xor_assoc (s8 b), Nat.xor_comm (s8 b), Nat.xor_assoc, Nat.xor_self, Nat.xor_zero]
    rw [e1, e2] at h3
    exact h3
  have h4 := s8_byte _ (Nat.xor_lt_two_pow (n := 8) ha hb) h2
  have h5 := congrArg (· ^^^ b) h4
  exact hab (by simpa [Nat.xor_assoc] using h5)
theorem example_sum : sm [49, 50, 51, 52, 53, 54, 55, 56, 57] = 3421780262 := by decide +kernel

end Go.Proofs.Ytamilgbjjcdlbaa.CrcM
