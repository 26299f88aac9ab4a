/- Plain facts on SHA-256: words of 32 bits as numbers, turns, a round, a block, the digest. No conditions but those each law names. -/
import Derived.Test.YtlghojnlnfkdhaaDoorByt
namespace Go.Proofs.YtlghojnlnfkdhaaDoor.ShaM
open Go.RowKit

/-- A word turned to the right. -/
def rt (x k : Nat) : Nat := x / 2 ^ k + x % 2 ^ k * 2 ^ (32 - k)
theorem rt_lt {x k : Nat} (hx : x < 4294967296) (hk : k ≤ 32) : rt x k < 4294967296 := by
  unfold rt
  have h1 : 2 ^ k * 2 ^ (32 - k) = 4294967296 := by rw [← Nat.pow_add, Nat.add_sub_cancel' hk]
  have hp : 0 < 2 ^ k := Nat.two_pow_pos k
  have hq : x / 2 ^ k < 2 ^ (32 - k) := by
    rw [Nat.div_lt_iff_lt_mul hp, Nat.mul_comm, h1]
    exact hx
  have hr : x % 2 ^ k < 2 ^ k := Nat.mod_lt _ hp
  have h2 : (x % 2 ^ k + 1) * 2 ^ (32 - k) ≤ 2 ^ k * 2 ^ (32 - k) := Nat.mul_le_mul_right _ hr
  rw [h1, Nat.add_mul] at h2
  omega
/-- The same by shifts. -/
theorem rt_or {x k : Nat} (hx : x < 4294967296) (hk : k ≤ 32) : (x * 2 ^ (32 - k) % 4294967296) ||| (x / 2 ^ k) = rt x k := by
  unfold rt
  have h1 : 2 ^ k * 2 ^ (32 - k) = 4294967296 := by rw [← Nat.pow_add, Nat.add_sub_cancel' hk]
  have hp : 0 < 2 ^ k := Nat.two_pow_pos k
  have hq : x / 2 ^ k < 2 ^ (32 - k) := by
    rw [Nat.div_lt_iff_lt_mul hp, Nat.mul_comm, h1]
    exact hx
  have h3 : x * 2 ^ (32 - k) % 4294967296 = x % 2 ^ k * 2 ^ (32 - k) := by
    rw [← h1, Nat.mul_mod_mul_right]
  rw [h3, Nat.mul_comm, ← Nat.two_pow_add_eq_or_of_lt hq]
  omega
def s0 (x : Nat) : Nat := rt x 7 ^^^ rt x 18 ^^^ x / 8
def s1 (x : Nat) : Nat := rt x 17 ^^^ rt x 19 ^^^ x / 1024
def g0 (x : Nat) : Nat := rt x 2 ^^^ rt x 13 ^^^ rt x 22
def g1 (x : Nat) : Nat := rt x 6 ^^^ rt x 11 ^^^ rt x 25
def ch (e f g : Nat) : Nat := e &&& f ||| (4294967295 - e) &&& g
def mj (a b c : Nat) : Nat := a &&& b ||| a &&& c ||| b &&& c
theorem xor_lt {x y : Nat} (hx : x < 4294967296) (hy : y < 4294967296) : x ^^^ y < 4294967296 := Nat.xor_lt_two_pow (n := 32) hx hy
theorem or_lt {x y : Nat} (hx : x < 4294967296) (hy : y < 4294967296) : x ||| y < 4294967296 := Nat.or_lt_two_pow (n := 32) hx hy
theorem and_lt {x y : Nat} (hy : y < 4294967296) : x &&& y < 4294967296 := Nat.and_lt_two_pow (n := 32) x hy
theorem s0_lt {x : Nat} (hx : x < 4294967296) : s0 x < 4294967296 := xor_lt (xor_lt (rt_lt hx (by decide)) (rt_lt hx (by decide))) (Nat.lt_of_le_of_lt (Nat.div_le_self _ _) hx)
theorem s1_lt {x : Nat} (hx : x < 4294967296) : s1 x < 4294967296 := xor_lt (xor_lt (rt_lt hx (by decide)) (rt_lt hx (by decide))) (Nat.lt_of_le_of_lt (Nat.div_le_self _ _) hx)
theorem g0_lt {x : Nat} (hx : x < 4294967296) : g0 x < 4294967296 := xor_lt (xor_lt (rt_lt hx (by decide)) (rt_lt hx (by decide))) (rt_lt hx (by decide))
theorem g1_lt {x : Nat} (hx : x < 4294967296) : g1 x < 4294967296 := xor_lt (xor_lt (rt_lt hx (by decide)) (rt_lt hx (by decide))) (rt_lt hx (by decide))
theorem ch_lt {e f g : Nat} (hf : f < 4294967296) (hg : g < 4294967296) : ch e f g < 4294967296 := or_lt (and_lt hf) (and_lt hg)
theorem mj_lt {a b c : Nat} (hb : b < 4294967296) (hc : c < 4294967296) : mj a b c < 4294967296 := or_lt (or_lt (and_lt hb) (and_lt hc)) (and_lt hc)

/-- The eight words. -/
structure W8 where
  a : Nat
  b : Nat
  c : Nat
  d : Nat
  e : Nat
  f : Nat
  g : Nat
  h : Nat
def W8.ok (v : W8) : Prop := v.a < 4294967296 ∧ v.b < 4294967296 ∧ v.c < 4294967296 ∧ v.d < 4294967296 ∧ v.e < 4294967296 ∧ v.f < 4294967296 ∧ v.g < 4294967296 ∧ v.h < 4294967296
def W8.list (v : W8) : List Nat := [v.a, v.b, v.c, v.d, v.e, v.f, v.g, v.h]
def low (v : W8) : Nat := (v.h + g1 v.e + ch v.e v.f v.g) % 4294967296
def high (v : W8) : Nat := (g0 v.a + mj v.a v.b v.c) % 4294967296
/-- A round: n is the round's word and its own number, added. -/
def rnd (v : W8) (n : Nat) : W8 := ⟨(n + low v + high v) % 4294967296, v.a, v.b, v.c, (v.d + (n + low v)) % 4294967296, v.e, v.f, v.g⟩
theorem mod_lt (n : Nat) : n % 4294967296 < 4294967296 := Nat.mod_lt _ (by decide)
theorem rnd_ok {v : W8} (h : v.ok) (n : Nat) : (rnd v n).ok := ⟨mod_lt _, h.1, h.2.1, h.2.2.1, mod_lt _, h.2.2.2.2.1, h.2.2.2.2.2.1, h.2.2.2.2.2.2.1⟩
def plus (v w : W8) : W8 := ⟨(v.a + w.a) % 4294967296, (v.b + w.b) % 4294967296, (v.c + w.c) % 4294967296, (v.d + w.d) % 4294967296, (v.e + w.e) % 4294967296, (v.f + w.f) % 4294967296, (v.g + w.g) % 4294967296, (v.h + w.h) % 4294967296⟩
theorem plus_ok (v w : W8) : (plus v w).ok := ⟨mod_lt _, mod_lt _, mod_lt _, mod_lt _, mod_lt _, mod_lt _, mod_lt _, mod_lt _⟩

/-- What each round adds of its own. -/
def KT : List Nat := [1116352408, 1899447441, 3049323471, 3921009573, 961987163, 1508970993, 2453635748, 2870763221, 3624381080, 310598401, 607225278, 1426881987, 1925078388, 2162078206, 2614888103, 3248222580, 3835390401, 4022224774, 264347078, 604807628, 770255983, 1249150122, 1555081692, 1996064986, 2554220882, 2821834349, 2952996808, 3210313671, 3336571891, 3584528711, 113926993, 338241895, 666307205, 773529912, 1294757372, 1396182291, 1695183700, 1986661051, 2177026350, 2456956037, 2730485921, 2820302411, 3259730800, 3345764771, 3516065817, 3600352804, 4094571909, 275423344, 430227734, 506948616, 659060556, 883997877, 958139571, 1322822218, 1537002063, 1747873779, 1955562222, 2024104815, 2227730452, 2361852424, 2428436474, 2756734187, 3204031479, 3329325298]
theorem KT_len : KT.length = 64 := by decide
theorem KT_lt {k : Nat} (h : k < KT.length) : KT[k] < 4294967296 := by
  have h2 : ∀ x ∈ KT, x < 4294967296 := by decide
  exact h2 _ (List.getElem_mem h)

/-- The words of the rounds, by what stands in a block. -/
def wd (b : List Nat) (k : Nat) : Nat := b.getD (4 * k) 0 * 16777216 + b.getD (4 * k + 1) 0 * 65536 + b.getD (4 * k + 2) 0 * 256 + b.getD (4 * k + 3) 0
def nx (l : List Nat) (k : Nat) : Nat := (l.getD (k - 16) 0 + l.getD (k - 7) 0 + s0 (l.getD (k - 15) 0) + s1 (l.getD (k - 2) 0)) % 4294967296
def sch (b : List Nat) : Nat → List Nat
  | 0 => []
  | k + 1 => sch b k ++ [if k < 16 then wd b k else nx (sch b k) k]
theorem sch_len (b : List Nat) (k : Nat) : (sch b k).length = k := by
  induction k with
  | zero => rfl
  | succ k ih => simp [sch, ih]
def by256 (b : List Nat) : Prop := ∀ c ∈ b, c < 256
theorem getD_lt {b : List Nat} (h : by256 b) (k : Nat) : b.getD k 0 < 256 := by
  rw [List.getD_eq_getElem?_getD]
  by_cases hk : k < b.length
  · rw [List.getElem?_eq_getElem hk]
    exact h _ (List.getElem_mem hk)
  · rw [List.getElem?_eq_none (by omega)]
    decide
theorem wd_lt {b : List Nat} (h : by256 b) (k : Nat) : wd b k < 4294967296 := by
  have h0 := getD_lt h (4 * k)
  have h1 := getD_lt h (4 * k + 1)
  have h2 := getD_lt h (4 * k + 2)
  have h3 := getD_lt h (4 * k + 3)
  unfold wd
  omega
theorem sch_lt {b : List Nat} (h : by256 b) (k : Nat) : ∀ c ∈ sch b k, c < 4294967296 := by
  induction k with
  | zero => intro c hc; cases hc
  | succ k ih =>
    intro c hc
    simp only [sch, List.mem_append, List.mem_singleton] at hc
    rcases hc with hc | rfl
    · exact ih c hc
    · by_cases hk : k < 16
      · rw [if_pos hk]; exact wd_lt h k
      · rw [if_neg hk]; exact mod_lt _
/-- The rounds of a block: the first k. -/
def rds (v : W8) (s : List Nat) : Nat → W8
  | 0 => v
  | k + 1 => rnd (rds v s k) (KT.getD k 0 + s.getD k 0)
theorem rds_ok {v : W8} (h : v.ok) (s : List Nat) (k : Nat) : (rds v s k).ok := by
  induction k with
  | zero => exact h
  | succ k ih => exact rnd_ok ih _
/-- The words behind a block. -/
def blk (v : W8) (b : List Nat) : W8 := plus v (rds v (sch b 64) 64)
theorem blk_ok (v : W8) (b : List Nat) : (blk v b).ok := plus_ok _ _
def w0 : W8 := ⟨1779033703, 3144134277, 1013904242, 2773480762, 1359893119, 2600822924, 528734635, 1541459225⟩
theorem w0_ok : w0.ok := by unfold W8.ok w0; decide
/-- The words behind the first k blocks of what was written. -/
def bk (l : List Nat) : Nat → W8
  | 0 => w0
  | k + 1 => blk (bk l k) ((l.drop (64 * k)).take 64)
theorem bk_ok (l : List Nat) (k : Nat) : (bk l k).ok := by
  induction k with
  | zero => exact w0_ok
  | succ k ih => exact blk_ok _ _
/-- The first blocks hang on the first bytes alone. -/
theorem bk_app (l m : List Nat) (k : Nat) (h : 64 * k ≤ l.length) : bk (l ++ m) k = bk l k := by
  induction k with
  | zero => rfl
  | succ k ih =>
    have : ((l ++ m).drop (64 * k)).take 64 = (l.drop (64 * k)).take 64 := by
      rw [List.drop_append_of_le_length (by omega), List.take_append_of_le_length (by simp; omega)]
    rw [bk, bk, ih (by omega), this]
/-- Each word's four bytes. -/
def by4 (n : Nat) : List Nat := [n / 16777216 % 256, n / 65536 % 256, n / 256 % 256, n % 256]
def bys (v : W8) : List Nat := v.list.flatMap by4
theorem bys_len (v : W8) : (bys v).length = 32 := rfl
theorem bys_lt (v : W8) : by256 (bys v) := by
  intro c hc
  simp only [bys, by4, W8.list, List.flatMap_cons, List.flatMap_nil, List.append_nil, List.mem_append, List.mem_cons, List.not_mem_nil, or_false] at hc
  have : ∀ n : Nat, n % 256 < 256 := fun n => Nat.mod_lt _ (by decide)
  rcases hc with (h | h | h | h) | (h | h | h | h) | (h | h | h | h) | (h | h | h | h) | (h | h | h | h) | (h | h | h | h) | (h | h | h | h) | (h | h | h | h) <;> (rw [h]; exact this _)
/-- What fills the last block behind so many bytes. -/
def zs (n : Nat) : Nat := (119 - n % 64) % 64
def eight (n : Nat) : List Nat := [8 * n / 72057594037927936 % 256, 8 * n / 281474976710656 % 256, 8 * n / 1099511627776 % 256, 8 * n / 4294967296 % 256, 8 * n / 16777216 % 256, 8 * n / 65536 % 256, 8 * n / 256 % 256, 8 * n % 256]
def tail (n : Nat) : List Nat := [128] ++ List.replicate (zs n) 0 ++ eight n
theorem tail_len (n : Nat) : (tail n).length = zs n + 9 := by simp [tail, eight]
theorem tail_lt (n : Nat) : by256 (tail n) := by
  intro c hc
  have : ∀ n : Nat, n % 256 < 256 := fun n => Nat.mod_lt _ (by decide)
  simp only [tail, eight, List.mem_append, List.mem_cons, List.not_mem_nil, or_false, List.mem_replicate] at hc
  rcases hc with (h | ⟨_, h⟩) | (h | h | h | h | h | h | h | h) <;> rw [h] <;> first | decide | exact this _
def pad (l : List Nat) : List Nat := l ++ tail l.length
theorem pad_len (l : List Nat) : (pad l).length % 64 = 0 := by
  rw [pad, List.length_append, tail_len]
  unfold zs
  omega
/-- The digest. -/
def dig (l : List Nat) : List Nat := bys (bk (pad l) ((pad l).length / 64))
theorem dig_len (l : List Nat) : (dig l).length = 32 := bys_len _
theorem dig_lt (l : List Nat) : by256 (dig l) := bys_lt _
theorem dig_abc : (dig [97, 98, 99]).take 4 = [0xba, 0x78, 0x16, 0xbf] := by decide +kernel

end Go.Proofs.YtlghojnlnfkdhaaDoor.ShaM
