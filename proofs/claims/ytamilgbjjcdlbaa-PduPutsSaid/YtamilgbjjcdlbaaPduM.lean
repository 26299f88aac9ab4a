/- Messages in plain terms: when one is right, its bytes, what bytes tell, and that bytes of which one is turned tell nothing. No conditions but those each law names; nothing of the program. -/
import Derived.Test.YtamilgbjjcdlbaaRecM
namespace Go.Proofs.Ytamilgbjjcdlbaa.PduM
open Go.RowKit Go.Proofs.Ytamilgbjjcdlbaa.Kit Go.Proofs.Ytamilgbjjcdlbaa.Byt Go.Proofs.Ytamilgbjjcdlbaa.RecM

/-- A message. -/
structure Pd where
  (k s p n z w c h : Int)
  (xs : List Nat)
def Pd.none : Pd := ⟨0, 0, 0, 0, 0, 0, 0, 0, []⟩
def Pd.right (r : Pd) : Prop :=
  (1 ≤ r.k ∧ r.k ≤ 8) ∧ (0 ≤ r.s ∧ r.s ≤ 65535) ∧
  (if r.k = 1 ∨ r.k = 8 then (0 ≤ r.p ∧ r.p ≤ 255) ∧ (0 ≤ r.z ∧ r.z ≤ 65535) else r.p = 0 ∧ r.z = 0) ∧
  (if r.k = 6 ∨ r.k = 7 then 0 ≤ r.w ∧ r.w ≤ 255 else r.w = 0) ∧
  (if r.k = 2 ∨ r.k = 6 ∨ r.k = 7 then 0 ≤ r.n ∧ r.n ≤ 255 else r.n = 0) ∧
  (if r.k = 7 then 0 ≤ r.c ∧ r.c ≤ 255 else r.c = 0) ∧
  (if r.k = 8 then 0 ≤ r.h ∧ r.h ≤ 65535 else r.h = 0) ∧
  r.xs.length = (if r.k = 2 then 16 else 0)
instance (r : Pd) : Decidable r.right := by unfold Pd.right; infer_instance
/-- The fields behind the kind and the session. -/
def Pd.body (r : Pd) : List Nat :=
  if r.k = 1 then pbn r.p 1 ++ pbn r.z 2 else if r.k = 2 then pbn r.n 1 ++ r.xs else if r.k = 6 then pbn r.w 1 ++ pbn r.n 1
  else if r.k = 7 then pbn r.w 1 ++ (pbn r.n 1 ++ pbn r.c 1) else if r.k = 8 then pbn r.p 1 ++ (pbn r.z 2 ++ pbn r.h 2) else []
def Pd.head (r : Pd) : List Nat := pbn r.k 1 ++ (pbn r.s 2 ++ r.body)
/-- Bytes, and their sum. -/
def tail (xs : List Nat) : List Nat := xs ++ s4 xs
/-- How many bytes a kind's head has. -/
def hl (k : Int) : Nat := if k = 1 then 6 else if k = 2 then 20 else if k = 6 then 5 else if k = 7 then 6 else if k = 8 then 8 else 3
/-- The message that a head tells, of this kind. -/
def msg (k : Int) (ys : List Nat) : Pd :=
  if k = 1 then ⟨k, nm ys 1 2, nm ys 3 1, 0, nm ys 4 2, 0, 0, 0, []⟩
  else if k = 2 then ⟨k, nm ys 1 2, 0, nm ys 3 1, 0, 0, 0, 0, (ys.drop 4).take 16⟩
  else if k = 6 then ⟨k, nm ys 1 2, 0, nm ys 4 1, 0, nm ys 3 1, 0, 0, []⟩
  else if k = 7 then ⟨k, nm ys 1 2, 0, nm ys 4 1, 0, nm ys 3 1, nm ys 5 1, 0, []⟩
  else if k = 8 then ⟨k, nm ys 1 2, nm ys 3 1, 0, nm ys 4 2, 0, 0, nm ys 6 2, []⟩
  else ⟨k, nm ys 1 2, 0, 0, 0, 0, 0, 0, []⟩
/-- What a head tells, and its error. -/
def parse (ys : List Nat) : Pd × Int :=
  if nm ys 0 1 < 1 ∨ 8 < nm ys 0 1 then (Pd.none, 2) else if ys.length < hl (nm ys 0 1) then (Pd.none, 1) else if hl (nm ys 0 1) < ys.length then (Pd.none, 2) else (msg (nm ys 0 1) ys, 0)
/-- What bytes tell, and their error. -/
def getP (ys : List Nat) : Pd × Int :=
  if ys.length < 5 then (Pd.none, 1) else if tail (ys.take (ys.length - 4)) ≠ ys then (Pd.none, 10) else parse (ys.take (ys.length - 4))

theorem Pd.body_len (r : Pd) : r.body.length = if r.k = 2 then 1 + r.xs.length else hl r.k - 3 := by
  have h1 : NumA.wd 1 = 1 := rfl
  have h2 : NumA.wd 2 = 2 := rfl
  unfold Pd.body hl
  by_cases e1 : r.k = 1
  · simp [e1, pbn_len, h1, h2]
  by_cases e2 : r.k = 2
  · simp [e2, pbn_len, h1]
  by_cases e6 : r.k = 6
  · simp [e6, pbn_len, h1]
  by_cases e7 : r.k = 7
  · simp [e7, pbn_len, h1]
  by_cases e8 : r.k = 8
  · simp [e8, pbn_len, h1, h2]
  simp [e1, e2, e6, e7, e8]
theorem Pd.head_len {r : Pd} (h : r.right) : r.head.length = hl r.k := by
  have hb := r.body_len
  have hx := h.2.2.2.2.2.2.2
  have h1 : NumA.wd 1 = 1 := rfl
  have h2 : NumA.wd 2 = 2 := rfl
  unfold Pd.head
  rw [List.length_append, List.length_append, pbn_len, pbn_len, hb, h1, h2]
  unfold hl
  split at hx
  · rename_i e; rw [hx]; simp [e]
  · rename_i e
    rw [if_neg e]
    repeat (first | split | omega)
theorem Pd.head_lt {r : Pd} (h : byt r.xs) : byt r.head := by
  have e : byt [] := by intro c hc; cases hc
  unfold Pd.head Pd.body
  refine byt_app (pbn_lt _ _) (byt_app (pbn_lt _ _) ?_)
  repeat (first | split | exact byt_app (pbn_lt _ _) (pbn_lt _ _) | exact byt_app (pbn_lt _ _) h | exact byt_app (pbn_lt _ _) (byt_app (pbn_lt _ _) (pbn_lt _ _)) | exact e)
theorem tail_len (xs : List Nat) : (tail xs).length = xs.length + 4 := by unfold tail; rw [List.length_append, s4_len]
theorem tail_lt {xs : List Nat} (h : byt xs) : byt (tail xs) := byt_app h (pbn_lt _ _)
theorem tail_take (xs : List Nat) : (tail xs).take ((tail xs).length - 4) = xs := by
  rw [tail_len, Nat.add_sub_cancel]
  unfold tail
  rw [List.take_append_of_le_length (Nat.le_refl _), List.take_length]
theorem getP_tail {xs : List Nat} (h : 1 ≤ xs.length) : getP (tail xs) = parse xs := by
  unfold getP
  rw [if_neg (by rw [tail_len]; omega), tail_take, if_neg (by simp)]

theorem nm_z (ys : List Nat) (i : Nat) : nm ys i 0 = 0 := by simp [nm, nl]
theorem nm1 {ys : List Nat} {i : Nat} (h : i < ys.length) : nm ys i 1 = (ys[i] : Nat) := by
  unfold nm
  rw [List.drop_eq_getElem_cons h, List.take_succ_cons, List.take_zero]
  simp [nl]
theorem nm2 {ys : List Nat} {i : Nat} (h : i + 1 < ys.length) : nm ys i 2 = 256 * (ys[i]'(by omega) : Nat) + (ys[i + 1] : Nat) := by
  unfold nm
  rw [List.drop_eq_getElem_cons (by omega : i < ys.length), List.drop_eq_getElem_cons h, List.take_succ_cons, List.take_succ_cons, List.take_zero]
  simp [nl]
theorem nm_bd1 {ys : List Nat} (hb : byt ys) (i : Nat) : 0 ≤ nm ys i 1 ∧ nm ys i 1 ≤ 255 := by
  by_cases h : i < ys.length
  · rw [nm1 h]
    have := hb _ (List.getElem_mem h)
    omega
  · have : nm ys i 1 = 0 := by unfold nm; rw [List.drop_of_length_le (by omega)]; rfl
    omega
theorem nm_bd2 {ys : List Nat} (hb : byt ys) {i : Nat} (h : i + 1 < ys.length) : 0 ≤ nm ys i 2 ∧ nm ys i 2 ≤ 65535 := by
  rw [nm2 h]
  have h1 := hb _ (List.getElem_mem (show i < ys.length by omega))
  have h2 := hb _ (List.getElem_mem h)
  omega
/-- What is got is right. -/
theorem parse_right {ys : List Nat} (hb : byt ys) (h : (parse ys).2 = 0) : (parse ys).1.right := by
  unfold parse at h ⊢
  by_cases h1 : nm ys 0 1 < 1 ∨ 8 < nm ys 0 1
  · rw [if_pos h1] at h; exact absurd h (by simp)
  · rw [if_neg h1] at h ⊢
    by_cases h2 : ys.length < hl (nm ys 0 1)
    · rw [if_pos h2] at h; exact absurd h (by simp)
    · rw [if_neg h2] at h ⊢
      by_cases h3 : hl (nm ys 0 1) < ys.length
      · rw [if_pos h3] at h; exact absurd h (by simp)
      · rw [if_neg h3]
        obtain ⟨k, hk⟩ : ∃ k, k = nm ys 0 1 := ⟨_, rfl⟩
        rw [← hk] at h1 h2 h3 ⊢
        have hk8 : k = 1 ∨ k = 2 ∨ k = 3 ∨ k = 4 ∨ k = 5 ∨ k = 6 ∨ k = 7 ∨ k = 8 := by omega
        clear h hk
        have b3 := nm_bd1 hb 3
        have b4 := nm_bd1 hb 4
        have b5 := nm_bd1 hb 5
        rcases hk8 with rfl | rfl | rfl | rfl | rfl | rfl | rfl | rfl
        all_goals
          have hlen := Nat.le_antisymm (Nat.le_of_not_lt h3) (Nat.le_of_not_lt h2)
          simp [hl] at hlen
          have b1 := nm_bd2 hb (i := 1) (by omega)
          simp [msg, Pd.right]
          first
            | (have c4 := nm_bd2 hb (i := 4) (by omega); have c6 := nm_bd2 hb (i := 6) (by omega); omega)
            | (have c4 := nm_bd2 hb (i := 4) (by omega); omega)
            | omega

theorem kinds {k : Int} (h : 1 ≤ k ∧ k ≤ 8) : k = 1 ∨ k = 2 ∨ k = 3 ∨ k = 4 ∨ k = 5 ∨ k = 6 ∨ k = 7 ∨ k = 8 := by omega
theorem pbn1' {x : Nat} (h : (x : Int) ≤ 255) : pbn (x : Int) 1 = [x] := pbn1 x (by omega)
theorem pbn2' {x : Nat} (h : (x : Int) ≤ 65535) : pbn (x : Int) 2 = [x / 256, x % 256] := pbn2 x (by omega)
theorem int_of {x y : Int} (h : 0 ≤ x ∧ x ≤ y) : ∃ m : Nat, x = m ∧ (m : Int) ≤ y := ⟨x.toNat, by omega, by omega⟩
/-- What is put is got. -/
theorem parse_head {r : Pd} (h : r.right) : parse r.head = (r, 0) := by
  obtain ⟨k, s, p, n, z, w, c, h', xs⟩ := r
  obtain ⟨h1, h2, h3, h4, h5, h6, h7, h8⟩ := h
  dsimp only at h1 h2 h3 h4 h5 h6 h7 h8
  obtain ⟨s, rfl, hs⟩ := int_of h2
  rcases kinds h1 with rfl | rfl | rfl | rfl | rfl | rfl | rfl | rfl
  · simp at h3 h4 h5 h6 h7 h8
    obtain ⟨⟨hp0, hp1⟩, hz0, hz1⟩ := h3
    obtain ⟨p, rfl, hp⟩ := int_of ⟨hp0, hp1⟩
    obtain ⟨z, rfl, hz⟩ := int_of ⟨hz0, hz1⟩
    subst h4
    subst h5
    subst h6
    subst h7
    subst h8
    have e : Pd.head ⟨1, s, p, 0, z, 0, 0, 0, []⟩ = ([1, s / 256, s % 256, p, z / 256, z % 256] : List Nat) := by
      simp only [Pd.head, Pd.body]
      simp (config := { decide := true }) only [if_true, if_false, show pbn (1 : Int) 1 = [1] from pbn1 1 (by omega), pbn2' hs, pbn1' hp, pbn2' hz]
      rfl
    rw [e]
    simp [parse, nm, nl, hl, msg]
    try omega
  · simp at h3 h4 h5 h6 h7 h8
    obtain ⟨rfl, rfl⟩ := h3
    subst h4
    obtain ⟨n, rfl, hn⟩ := int_of h5
    subst h6
    subst h7
    have e : Pd.head ⟨2, s, 0, n, 0, 0, 0, 0, xs⟩ = ([2, s / 256, s % 256, n] ++ xs : List Nat) := by
      simp only [Pd.head, Pd.body]
      simp (config := { decide := true }) only [if_true, if_false, show pbn (2 : Int) 1 = [2] from pbn1 2 (by omega), pbn2' hs, pbn1' hn]
      rfl
    rw [e]
    simp [parse, nm, nl, hl, msg, h8]
    refine ⟨by omega, ?_⟩
    exact List.take_of_length_le (by omega)
  · simp at h3 h4 h5 h6 h7 h8
    obtain ⟨rfl, rfl⟩ := h3
    subst h4
    subst h5
    subst h6
    subst h7
    subst h8
    have e : Pd.head ⟨3, s, 0, 0, 0, 0, 0, 0, []⟩ = ([3, s / 256, s % 256] : List Nat) := by
      simp only [Pd.head, Pd.body]
      simp (config := { decide := true }) only [if_false, show pbn (3 : Int) 1 = [3] from pbn1 3 (by omega), pbn2' hs]
      rfl
    rw [e]
    simp [parse, nm, nl, hl, msg]
    try omega
  · simp at h3 h4 h5 h6 h7 h8
    obtain ⟨rfl, rfl⟩ := h3
    subst h4
    subst h5
    subst h6
    subst h7
    subst h8
    have e : Pd.head ⟨4, s, 0, 0, 0, 0, 0, 0, []⟩ = ([4, s / 256, s % 256] : List Nat) := by
      simp only [Pd.head, Pd.body]
      simp (config := { decide := true }) only [if_false, show pbn (4 : Int) 1 = [4] from pbn1 4 (by omega), pbn2' hs]
      rfl
    rw [e]
    simp [parse, nm, nl, hl, msg]
    try omega
  · simp at h3 h4 h5 h6 h7 h8
    obtain ⟨rfl, rfl⟩ := h3
    subst h4
    subst h5
    subst h6
    subst h7
    subst h8
    have e : Pd.head ⟨5, s, 0, 0, 0, 0, 0, 0, []⟩ = ([5, s / 256, s % 256] : List Nat) := by
      simp only [Pd.head, Pd.body]
      simp (config := { decide := true }) only [if_false, show pbn (5 : Int) 1 = [5] from pbn1 5 (by omega), pbn2' hs]
      rfl
    rw [e]
    simp [parse, nm, nl, hl, msg]
    try omega
  · simp at h3 h4 h5 h6 h7 h8
    obtain ⟨rfl, rfl⟩ := h3
    obtain ⟨w, rfl, hw⟩ := int_of h4
    obtain ⟨n, rfl, hn⟩ := int_of h5
    subst h6
    subst h7
    subst h8
    have e : Pd.head ⟨6, s, 0, n, 0, w, 0, 0, []⟩ = ([6, s / 256, s % 256, w, n] : List Nat) := by
      simp only [Pd.head, Pd.body]
      simp (config := { decide := true }) only [if_true, if_false, show pbn (6 : Int) 1 = [6] from pbn1 6 (by omega), pbn2' hs, pbn1' hw, pbn1' hn]
      rfl
    rw [e]
    simp [parse, nm, nl, hl, msg]
    try omega
  · simp at h3 h4 h5 h6 h7 h8
    obtain ⟨rfl, rfl⟩ := h3
    obtain ⟨w, rfl, hw⟩ := int_of h4
    obtain ⟨n, rfl, hn⟩ := int_of h5
    obtain ⟨c, rfl, hc⟩ := int_of h6
    subst h7
    subst h8
    have e : Pd.head ⟨7, s, 0, n, 0, w, c, 0, []⟩ = ([7, s / 256, s % 256, w, n, c] : List Nat) := by
      simp only [Pd.head, Pd.body]
      simp (config := { decide := true }) only [if_true, if_false, show pbn (7 : Int) 1 = [7] from pbn1 7 (by omega), pbn2' hs, pbn1' hw, pbn1' hn, pbn1' hc]
      rfl
    rw [e]
    simp [parse, nm, nl, hl, msg]
    try omega
  · simp at h3 h4 h5 h6 h7 h8
    obtain ⟨⟨hp0, hp1⟩, hz0, hz1⟩ := h3
    obtain ⟨p, rfl, hp⟩ := int_of ⟨hp0, hp1⟩
    obtain ⟨z, rfl, hz⟩ := int_of ⟨hz0, hz1⟩
    subst h4
    subst h5
    subst h6
    obtain ⟨h', rfl, hh⟩ := int_of h7
    subst h8
    have e : Pd.head ⟨8, s, p, 0, z, 0, 0, h', []⟩ = ([8, s / 256, s % 256, p, z / 256, z % 256, h' / 256, h' % 256] : List Nat) := by
      simp only [Pd.head, Pd.body]
      simp (config := { decide := true }) only [if_true, if_false, show pbn (8 : Int) 1 = [8] from pbn1 8 (by omega), pbn2' hs, pbn1' hp, pbn2' hz, pbn2' hh]
      rfl
    rw [e]
    simp [parse, nm, nl, hl, msg]
    try omega

theorem getP_back {r : Pd} (h : r.right) : getP (tail r.head) = (r, 0) := by
  have hl1 := Pd.head_len h
  have h1 : 1 ≤ hl r.k := by unfold hl; repeat (first | split | omega)
  rw [getP_tail (by omega), parse_head h]
/-- Of bytes of which one is turned nothing is got. -/
theorem getP_turned {xs : List Nat} {j y : Nat} (hb : byt xs) (hy : y < 256) (h1 : 1 ≤ xs.length) (hj : j < (tail xs).length) (hne : (tail xs)[j] ≠ y) : getP ((tail xs).set j y) = (Pd.none, 10) := by
  have hl := tail_len xs
  unfold getP
  rw [List.length_set, if_neg (by omega), if_pos]
  intro h
  have e0 : (tail xs).length - 4 = xs.length := by omega
  rw [e0] at h
  by_cases hx : j < xs.length
  · have e1 : ((tail xs).set j y).take xs.length = xs.set j y := by
      rw [List.take_set]
      unfold tail
      rw [List.take_append_of_le_length (Nat.le_refl _), List.take_length]
    rw [e1] at h
    have e2 : (tail xs).set j y = xs.set j y ++ s4 xs := by unfold tail; rw [List.set_append_left _ _ hx]
    rw [e2] at h
    have h2 := List.append_cancel_left (show xs.set j y ++ s4 (xs.set j y) = xs.set j y ++ s4 xs from h)
    have h3 := pbn4_inj (CrcM.sm_lt _) (CrcM.sm_lt _) h2
    have hg : (tail xs)[j] = xs[j] := List.getElem_append_left hx
    rw [hg] at hne
    have h4 := CrcM.sm_turned (l := xs.take j) (m := xs.drop (j + 1)) (byt_take hb j) (byt_drop hb (j + 1)) (hb _ (List.getElem_mem hx)) hy hne
    rw [← own_cut hx, ← set_cut hx] at h4
    exact h4 h3.symm
  · have e1 : ((tail xs).set j y).take xs.length = xs := by
      rw [List.take_set]
      unfold tail
      rw [List.take_append_of_le_length (Nat.le_refl _), List.take_length, List.set_eq_of_length_le (by omega)]
    rw [e1] at h
    have h2 : (tail xs)[j] = ((tail xs).set j y)[j]'(by rw [List.length_set]; omega) := by
      have : ∀ (l : List Nat) (hl : j < l.length), tail xs = l → (tail xs)[j] = l[j] := fun l hl e => by subst e; rfl
      exact this _ _ h
    rw [List.getElem_set_self] at h2
    exact hne h2

/-! ### the reference's head: each number cut to its bytes -/

def b1 (x : Int) : Nat := (x % 256).toNat
def hi (x : Int) : Nat := (x.tdiv 256 % 256).toNat
theorem b1_lt (x : Int) : b1 x < 256 := by unfold b1; omega
theorem hi_lt (x : Int) : hi x < 256 := by unfold hi; omega
def Pd.rbody (r : Pd) : List Nat :=
  if r.k = 1 then [b1 r.p, hi r.z, b1 r.z] else if r.k = 2 then [b1 r.n] ++ r.xs else if r.k = 6 then [b1 r.w, b1 r.n]
  else if r.k = 7 then [b1 r.w, b1 r.n, b1 r.c] else if r.k = 8 then [b1 r.p, hi r.z, b1 r.z, hi r.h, b1 r.h] else []
def Pd.rhead (r : Pd) : List Nat := [b1 r.k, hi r.s, b1 r.s] ++ r.rbody
theorem rhead_lt {r : Pd} (h : byt r.xs) : byt r.rhead := by
  have e : byt [] := by intro c hc; cases hc
  have o : ∀ {x : Nat} {ys : List Nat}, x < 256 → byt ys → byt (x :: ys) := fun hx hy c hc => by
    rcases List.mem_cons.1 hc with h | h
    · omega
    · exact hy c h
  unfold Pd.rhead Pd.rbody
  refine o (b1_lt _) (o (hi_lt _) (o (b1_lt _) ?_))
  repeat (first | split | exact e | exact h | refine o (b1_lt _) ?_ | refine o (hi_lt _) ?_)
theorem b1_of {x : Int} (h : 0 ≤ x ∧ x ≤ 255) : [b1 x] = pbn x 1 := by
  obtain ⟨m, rfl, hm⟩ := int_of h
  rw [pbn1' hm]
  unfold b1
  congr 1
  omega
theorem hi_of {x : Int} (h : 0 ≤ x ∧ x ≤ 65535) : [hi x, b1 x] = pbn x 2 := by
  obtain ⟨m, rfl, hm⟩ := int_of h
  have e1 : hi (m : Int) = m / 256 := by unfold hi; rw [Int.tdiv_eq_ediv_of_nonneg (by omega)]; omega
  have e2 : b1 (m : Int) = m % 256 := by unfold b1; omega
  rw [pbn2' hm, e1, e2]
theorem rhead_eq {r : Pd} (h : r.right) : r.rhead = r.head := by
  obtain ⟨k, s, p, n, z, w, c, h', xs⟩ := r
  obtain ⟨h1, h2, h3, h4, h5, h6, h7, h8⟩ := h
  dsimp only at h1 h2 h3 h4 h5 h6 h7 h8
  have e1 : ∀ ys : List Nat, [b1 k, hi s, b1 s] ++ ys = pbn k 1 ++ (pbn s 2 ++ ys) := fun ys => by rw [← b1_of ⟨by omega, by omega⟩, ← hi_of h2]; rfl
  unfold Pd.rhead Pd.head Pd.rbody Pd.body
  dsimp only
  rw [e1]
  congr 2
  rcases kinds h1 with rfl | rfl | rfl | rfl | rfl | rfl | rfl | rfl <;> simp at h3 h4 h5 h6 h7 ⊢
  · rw [← b1_of h3.1, ← hi_of h3.2]; rfl
  · rw [← b1_of h5]; rfl
  · rw [← b1_of h4, ← b1_of h5]; rfl
  · rw [← b1_of h4, ← b1_of h5, ← b1_of h6]; rfl
  · rw [← b1_of h3.1, ← hi_of h3.2, ← hi_of h7]; rfl
/-- A message is right if its own bytes tell it. -/
theorem rright_iff {r : Pd} (hb : byt r.xs) : ((parse r.rhead).2 = 0 ∧ (parse r.rhead).1 = r) ↔ r.right := by
  constructor
  · intro h
    have h1 := parse_right (rhead_lt hb) h.1
    rwa [h.2] at h1
  · intro h
    rw [rhead_eq h, parse_head h]
    exact ⟨rfl, rfl⟩
end Go.Proofs.Ytamilgbjjcdlbaa.PduM
