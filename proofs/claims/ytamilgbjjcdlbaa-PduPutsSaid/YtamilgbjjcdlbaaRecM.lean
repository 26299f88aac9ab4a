/- Records and stages in plain terms: their bytes, the sealed sector, what a sector tells, and that a sector of which a byte is turned tells nothing. No conditions but those each law names; nothing of the program. -/
import Derived.Test.YtamilgbjjcdlbaaNumB
import Derived.Test.YtamilgbjjcdlbaaByt
import Derived.Test.YtamilgbjjcdlbaaCrcM
namespace Go.Proofs.Ytamilgbjjcdlbaa.RecM
open Go.RowKit Go.Proofs.Ytamilgbjjcdlbaa.Kit Go.Proofs.Ytamilgbjjcdlbaa.Byt

def nl (xs : List Nat) : List Int := xs.map fun n : Nat => (n : Int)
theorem nl_u8s (xs : List Nat) : u8n xs = NumA.u8s (nl xs) := by simp [u8n, nl, NumA.u8s]
theorem nl_app (xs ys : List Nat) : nl (xs ++ ys) = nl xs ++ nl ys := by simp [nl]
theorem nl_len (xs : List Nat) : (nl xs).length = xs.length := by simp [nl]
/-- Bytes. -/
def byt (xs : List Nat) : Prop := ∀ c ∈ xs, c < 256
theorem byt_app {xs ys : List Nat} (h : byt xs) (g : byt ys) : byt (xs ++ ys) := by
  intro c hc
  rcases List.mem_append.1 hc with h1 | h1
  · exact h c h1
  · exact g c h1
theorem byt_take {xs : List Nat} (h : byt xs) (k : Nat) : byt (xs.take k) := fun c hc => h c (List.mem_of_mem_take hc)
theorem byt_drop {xs : List Nat} (h : byt xs) (k : Nat) : byt (xs.drop k) := fun c hc => h c (List.mem_of_mem_drop hc)
theorem nl_255 {xs : List Nat} (h : byt xs) : ∀ u ∈ nl xs, 0 ≤ u ∧ u ≤ 255 := by
  intro u hu
  simp only [nl, List.mem_map] at hu
  obtain ⟨c, hc, rfl⟩ := hu
  have := h c hc
  omega
/-- A number's bytes. -/
def pbn (n x : Int) : List Nat := (List.range (NumA.wd x)).map fun i => NumB.cl (NumA.wd x) n / 2 ^ (8 * (NumA.wd x - 1 - i)) % 256
theorem pbn_nl (n x : Int) : nl (pbn n x) = NumB.putb n x := by simp [nl, pbn, NumB.putb, NumB.be, List.map_map, Function.comp_def]
theorem pbn_len (n x : Int) : (pbn n x).length = NumA.wd x := by simp [pbn]
theorem pbn_lt (n x : Int) : byt (pbn n x) := by
  intro c hc
  simp only [pbn, List.mem_map, List.mem_range] at hc
  obtain ⟨i, _, rfl⟩ := hc
  omega
theorem pbn1 (x : Nat) (h : x < 256) : pbn (x : Int) 1 = [x] := by
  have h1 : NumA.wd 1 = 1 := rfl
  unfold pbn NumB.cl
  rw [h1]
  have h2 : (2 : Nat) ^ (8 * 1) - 1 = 255 := rfl
  rw [h2]
  simp only [Int.toNat_natCast, List.range_succ, List.range_zero, List.nil_append, List.map_cons, List.map_nil]
  rw [Nat.min_eq_left (by omega)]
  simp
  omega
theorem pbn2 (x : Nat) (h : x < 65536) : pbn (x : Int) 2 = [x / 256, x % 256] := by
  have h1 : NumA.wd 2 = 2 := rfl
  unfold pbn NumB.cl
  rw [h1]
  have h2 : (2 : Nat) ^ (8 * 2) - 1 = 65535 := rfl
  rw [h2]
  simp only [Int.toNat_natCast, List.range_succ, List.range_zero, List.nil_append, List.map_cons, List.map_nil, List.singleton_append]
  rw [Nat.min_eq_left (by omega)]
  simp
  omega
theorem pbn4 (x : Nat) (h : x < 4294967296) : pbn (x : Int) 4 = [x / 16777216, x / 65536 % 256, x / 256 % 256, x % 256] := by
  have h1 : NumA.wd 4 = 4 := rfl
  unfold pbn NumB.cl
  rw [h1]
  have h2 : (2 : Nat) ^ (8 * 4) - 1 = 4294967295 := rfl
  rw [h2]
  simp only [Int.toNat_natCast, List.range_succ, List.range_zero, List.nil_append, List.map_cons, List.map_nil, List.cons_append]
  rw [Nat.min_eq_left (by omega)]
  simp
  omega
theorem pbn4_inj {x y : Nat} (hx : x < 4294967296) (hy : y < 4294967296) (h : pbn (x : Int) 4 = pbn (y : Int) 4) : x = y := by
  rw [pbn4 x hx, pbn4 y hy] at h
  simp only [List.cons.injEq, and_true] at h
  omega

/-! ### a sealed sector -/

/-- The sum of bytes, in four bytes. -/
def s4 (xs : List Nat) : List Nat := pbn (CrcM.sm xs : Nat) 4
theorem s4_len (xs : List Nat) : (s4 xs).length = 4 := by unfold s4; rw [pbn_len]; rfl
/-- Bytes, their sum, and zeros up to 64. -/
def shut (xs : List Nat) : List Nat := xs ++ (s4 xs ++ List.replicate (60 - xs.length) 0)
theorem shut_len {xs : List Nat} (h : xs.length ≤ 60) : (shut xs).length = 64 := by
  unfold shut
  rw [List.length_append, List.length_append, s4_len, List.length_replicate]
  omega
theorem shut_lt {xs : List Nat} (h : byt xs) : byt (shut xs) := byt_app h (byt_app (pbn_lt _ _) (fun c hc => by have := List.eq_of_mem_replicate hc; omega))
theorem shut_take (xs : List Nat) : (shut xs).take xs.length = xs := by unfold shut; rw [List.take_append_of_le_length (Nat.le_refl _), List.take_length]
theorem shut_drop (xs : List Nat) : (shut xs).drop (xs.length + 4) = List.replicate (60 - xs.length) 0 := by
  unfold shut
  rw [← List.append_assoc, List.drop_append_of_le_length (by rw [List.length_append, s4_len]; omega), List.drop_of_length_le (by rw [List.length_append, s4_len]; omega), List.nil_append]
theorem shut_sum {xs ys : List Nat} (h : shut xs = shut ys) (hl : xs.length = ys.length) : s4 xs = s4 ys := by
  unfold shut at h
  have h1 := (List.append_inj h hl).2
  exact (List.append_inj h1 (by rw [s4_len, s4_len])).1
theorem set_cut {xs : List Nat} {k : Nat} (h : k < xs.length) (y : Nat) : xs.set k y = xs.take k ++ y :: xs.drop (k + 1) := List.set_eq_take_append_cons_drop ▸ by simp [h]
theorem own_cut {xs : List Nat} {k : Nat} (h : k < xs.length) : xs = xs.take k ++ xs[k] :: xs.drop (k + 1) := by simp
/-- A sector that is sealed, of which a byte is turned, is none. -/
theorem shut_turned {xs : List Nat} {k y : Nat} (hb : byt xs) (hy : y < 256) (h60 : xs.length ≤ 60) (hk : k < 64) (hne : (shut xs)[k]'(by rw [shut_len h60]; exact hk) ≠ y) :
    shut (((shut xs).set k y).take xs.length) ≠ (shut xs).set k y := by
  intro h
  have hl := shut_len h60
  by_cases hx : k < xs.length
  · have e1 : ((shut xs).set k y).take xs.length = xs.set k y := by rw [List.take_set, shut_take]
    rw [e1] at h
    have e2 : (shut xs).set k y = xs.set k y ++ (s4 xs ++ List.replicate (60 - xs.length) 0) := by unfold shut; rw [List.set_append_left _ _ hx]
    rw [e2] at h
    have e3 : shut (xs.set k y) = xs.set k y ++ (s4 (xs.set k y) ++ List.replicate (60 - (xs.set k y).length) 0) := rfl
    rw [e3] at h
    have h1 := (List.append_inj h rfl).2
    have h2 := (List.append_inj h1 (by rw [s4_len, s4_len])).1
    have h3 := pbn4_inj (CrcM.sm_lt _) (CrcM.sm_lt _) h2
    have hg : (shut xs)[k]'(by omega) = xs[k] := by
      unfold shut
      rw [List.getElem_append_left hx]
    rw [hg] at hne
    have h4 := CrcM.sm_turned (l := xs.take k) (m := xs.drop (k + 1)) (byt_take hb k) (byt_drop hb (k + 1)) (hb _ (List.getElem_mem hx)) hy hne
    rw [← own_cut hx, ← set_cut hx] at h4
    exact h4 h3.symm
  · have e1 : ((shut xs).set k y).take xs.length = xs := by
      rw [List.take_set, shut_take, List.set_eq_of_length_le (by omega)]
    rw [e1] at h
    have h2 : (shut xs)[k]'(by omega) = ((shut xs).set k y)[k]'(by rw [List.length_set]; omega) := by
      have : ∀ (l : List Nat) (hl : k < l.length), shut xs = l → (shut xs)[k]'(by omega) = l[k] := fun l hl e => by subst e; rfl
      exact this _ _ h
    rw [List.getElem_set_self] at h2
    exact hne h2

/-! ### what a sector tells -/

/-- What is wrong with a sector of this second mark and so many first bytes. -/
def wrong (m n : Nat) (xs : List Nat) : Int := if xs.length ≠ 64 then 14 else if xs.take 2 ≠ [76, m] ∨ xs.drop (n + 4) ≠ List.replicate (60 - n) 0 then 2 else if shut (xs.take n) ≠ xs then 10 else 0
/-- The number of k bytes from the i-th on. -/
def nm (xs : List Nat) (i k : Nat) : Int := (nl ((xs.drop i).take k)).foldl (fun a b => 256 * a + b) 0

/-- A record. -/
structure Rc where
  (p q a c l b : Int)
/-- Is a bit of Bad on, of slot 0 or 1? -/
def bitOn (b i : Int) : Prop := (if i = 0 then b % 2 else b / 2 % 2) = 1
instance (b i : Int) : Decidable (bitOn b i) := by unfold bitOn; infer_instance
def Rc.right (r : Rc) : Prop := ((0 ≤ r.p ∧ r.p ≤ 3) ∧ (1 ≤ r.q ∧ r.q ≤ 4294967295) ∧ (0 ≤ r.a ∧ r.a ≤ 1) ∧ (0 ≤ r.c ∧ r.c ≤ 1)) ∧ (0 ≤ r.l ∧ r.l ≤ 7) ∧ (0 ≤ r.b ∧ r.b ≤ 3) ∧ (r.a = r.c → r.l = 0) ∧ ¬ bitOn r.b r.a ∧ ¬ bitOn r.b r.c
instance (r : Rc) : Decidable r.right := by unfold Rc.right; infer_instance
def Rc.none : Rc := ⟨0, 0, 0, 0, 0, 0⟩
def Rc.bytes (r : Rc) : List Nat := [76, 67] ++ pbn r.p 1 ++ pbn r.q 4 ++ pbn r.a 1 ++ pbn r.c 1 ++ pbn r.l 1 ++ pbn r.b 1
def rcOf (xs : List Nat) : Rc := ⟨nm xs 2 1, nm xs 3 4, nm xs 7 1, nm xs 8 1, nm xs 9 1, nm xs 10 1⟩
/-- The record that a sector tells, and its error. -/
def getR (xs : List Nat) : Rc × Int := if wrong 67 11 xs ≠ 0 then (Rc.none, wrong 67 11 xs) else if (rcOf xs).right then (rcOf xs, 0) else (Rc.none, 3)

/-- A stage. -/
structure Sg where
  (s z h : Int)
/-- Its blocks. -/
def blocks (z : Int) : Nat := ((z + 15) / 16).toNat
def Sg.right (g : Sg) : Prop := (1 ≤ g.s ∧ g.s ≤ 65535) ∧ (1 ≤ g.z ∧ g.z ≤ 160) ∧ (0 ≤ g.h ∧ g.h < 2 ^ blocks g.z)
instance (g : Sg) : Decidable g.right := by unfold Sg.right; infer_instance
def Sg.none : Sg := ⟨0, 0, 0⟩
def Sg.bytes (g : Sg) : List Nat := [76, 83] ++ pbn g.s 2 ++ pbn g.z 2 ++ pbn g.h 2
def sgOf (xs : List Nat) : Sg := ⟨nm xs 2 2, nm xs 4 2, nm xs 6 2⟩
def getS (xs : List Nat) : Sg × Int := if wrong 83 8 xs ≠ 0 then (Sg.none, wrong 83 8 xs) else if (sgOf xs).right then (sgOf xs, 0) else (Sg.none, 3)

theorem Rc.bytes_len (r : Rc) : r.bytes.length = 11 := by simp [Rc.bytes, pbn_len]; rfl
theorem Sg.bytes_len (g : Sg) : g.bytes.length = 8 := by simp [Sg.bytes, pbn_len]; rfl
theorem Rc.bytes_lt (r : Rc) : byt r.bytes := byt_app (byt_app (byt_app (byt_app (byt_app (byt_app (by unfold byt; simp) (pbn_lt _ _)) (pbn_lt _ _)) (pbn_lt _ _)) (pbn_lt _ _)) (pbn_lt _ _)) (pbn_lt _ _)
theorem Sg.bytes_lt (g : Sg) : byt g.bytes := byt_app (byt_app (byt_app (by unfold byt; simp) (pbn_lt _ _)) (pbn_lt _ _)) (pbn_lt _ _)
/-- A right record's bytes, one by one. -/
theorem Rc.bytes_eq {p q a c l b : Nat} (h : Rc.right ⟨p, q, a, c, l, b⟩) : Rc.bytes ⟨p, q, a, c, l, b⟩ = [76, 67, p, q / 16777216, q / 65536 % 256, q / 256 % 256, q % 256, a, c, l, b] := by
  obtain ⟨⟨h1, h2, h3, h4⟩, h5, h6, _⟩ := h
  dsimp only at h1 h2 h3 h4 h5 h6
  unfold Rc.bytes
  rw [pbn1 p (by omega), pbn4 q (by omega), pbn1 a (by omega), pbn1 c (by omega), pbn1 l (by omega), pbn1 b (by omega)]
  rfl
theorem pow_blocks {z : Int} (h : z ≤ 160) : (2 : Int) ^ blocks z ≤ 1024 := by
  have h1 : blocks z ≤ 10 := by unfold blocks; omega
  have h2 : (2 : Nat) ^ blocks z ≤ 2 ^ 10 := Nat.pow_le_pow_right (by omega) h1
  have h3 : ((2 ^ blocks z : Nat) : Int) = (2 : Int) ^ blocks z := by simp
  omega
theorem Sg.bytes_eq {s z h : Nat} (hr : Sg.right ⟨s, z, h⟩) : Sg.bytes ⟨s, z, h⟩ = [76, 83, s / 256, s % 256, z / 256, z % 256, h / 256, h % 256] := by
  obtain ⟨h1, h2, h3⟩ := hr
  dsimp only at h1 h2 h3
  have := pow_blocks h2.2
  unfold Sg.bytes
  rw [pbn2 s (by omega), pbn2 z (by omega), pbn2 h (by omega)]
  rfl
theorem Rc.nats {r : Rc} (h : r.right) : ∃ p q a c l b : Nat, r = ⟨p, q, a, c, l, b⟩ := by
  obtain ⟨p, q, a, c, l, b⟩ := r
  obtain ⟨⟨h1, h2, h3, h4⟩, h5, h6, _⟩ := h
  dsimp only at h1 h2 h3 h4 h5 h6
  exact ⟨p.toNat, q.toNat, a.toNat, c.toNat, l.toNat, b.toNat, by simp; omega⟩
theorem Sg.nats {g : Sg} (h : g.right) : ∃ s z k : Nat, g = ⟨s, z, k⟩ := by
  obtain ⟨s, z, k⟩ := g
  obtain ⟨h1, h2, h3, _⟩ := h
  dsimp only at h1 h2 h3
  exact ⟨s.toNat, z.toNat, k.toNat, by simp; omega⟩
theorem wrong_shut {m n : Nat} {xs : List Nat} (hl : xs.length = n) (h60 : n ≤ 60) (hm : xs.take 2 = [76, m]) (h2 : 2 ≤ n) : wrong m n (shut xs) = 0 := by
  have e1 : (shut xs).take 2 = [76, m] := by unfold shut; rw [List.take_append_of_le_length (by omega), hm]
  have e2 : (shut xs).drop (n + 4) = List.replicate (60 - n) 0 := by rw [← hl]; exact shut_drop xs
  have e3 : shut ((shut xs).take n) = shut xs := by rw [← hl, shut_take]
  unfold wrong
  rw [if_neg (by rw [shut_len (by omega)]; simp), if_neg (by rw [e1, e2]; simp), if_neg (by rw [e3]; simp)]
theorem rcOf_shut {r : Rc} (h : r.right) : rcOf (shut r.bytes) = r := by
  obtain ⟨p, q, a, c, l, b, rfl⟩ := Rc.nats h
  have he := Rc.bytes_eq h
  unfold shut rcOf nm
  rw [he]
  simp [nl]
  omega
theorem sgOf_shut {g : Sg} (h : g.right) : sgOf (shut g.bytes) = g := by
  obtain ⟨s, z, k, rfl⟩ := Sg.nats h
  have he := Sg.bytes_eq h
  unfold shut sgOf nm
  rw [he]
  simp [nl]
  omega
theorem getR_back {r : Rc} (h : r.right) : getR (shut r.bytes) = (r, 0) := by
  have h0 : wrong 67 11 (shut r.bytes) = 0 := wrong_shut r.bytes_len (by omega) (by simp [Rc.bytes]) (by omega)
  unfold getR
  rw [if_neg (by simp [h0]), rcOf_shut h, if_pos h]
theorem getS_back {g : Sg} (h : g.right) : getS (shut g.bytes) = (g, 0) := by
  have h0 : wrong 83 8 (shut g.bytes) = 0 := wrong_shut g.bytes_len (by omega) (by simp [Sg.bytes]) (by omega)
  unfold getS
  rw [if_neg (by simp [h0]), sgOf_shut h, if_pos h]
/-- A stage's sector is no record's. -/
theorem getR_stage (g : Sg) : getR (shut g.bytes) = (Rc.none, 2) := by
  have hl := g.bytes_len
  have e1 : (shut g.bytes).take 2 = [76, 83] := by unfold shut; rw [List.take_append_of_le_length (by omega)]; simp [Sg.bytes]
  have h0 : wrong 67 11 (shut g.bytes) = 2 := by
    unfold wrong
    rw [if_neg (by rw [shut_len (by omega)]; simp), if_pos (Or.inl (by rw [e1]; simp))]
  unfold getR
  rw [h0, if_pos (by omega)]
/-- Of a sector of which a byte is turned nothing is got. -/
theorem getR_turned (r : Rc) {k y : Nat} (hy : y < 256) (hk : k < 64) (hne : (shut r.bytes)[k]'(by rw [shut_len (by rw [r.bytes_len]; omega)]; exact hk) ≠ y) :
    (getR ((shut r.bytes).set k y)).1 = Rc.none ∧ (getR ((shut r.bytes).set k y)).2 ≠ 0 := by
  have ht := shut_turned r.bytes_lt hy (by rw [r.bytes_len]; omega) hk hne
  rw [r.bytes_len] at ht
  have h0 : wrong 67 11 ((shut r.bytes).set k y) ≠ 0 := by
    unfold wrong
    split
    · omega
    · split
      · omega
      · omega
  unfold getR
  rw [if_pos h0]
  exact ⟨rfl, h0⟩
/-- A sector of one byte, again and again. -/
theorem wrong_same (m y n k : Nat) (hm : m ≠ 76) : wrong m k (List.replicate n y) = if n = 64 then 2 else 14 := by
  unfold wrong
  rw [List.length_replicate]
  by_cases h : n = 64
  · rw [if_neg (by simp [h]), if_pos h, if_pos (Or.inl (by
      subst h
      intro e
      simp [List.replicate_succ] at e
      omega))]
  · rw [if_pos h, if_neg h]
end Go.Proofs.Ytamilgbjjcdlbaa.RecM
