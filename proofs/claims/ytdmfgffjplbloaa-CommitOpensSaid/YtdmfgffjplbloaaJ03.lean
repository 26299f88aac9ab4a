/- A partition's record in its two copies on a plain disk, in plain terms: what each call does, and the document's own record beside it. No conditions but those each law names; nothing of the program. Records and stages as they lie in memory. No conditions. When two records are one, as the model compares them. No conditions but those each law names. Records and stages as they lie in memory, and one that came in; when they are right, by the reference. Conditions: those each law names. When a record, and a stage, is right, by the code; how many blocks a size has. Conditions: the numbers are of 64 bits. -/
import Derived.Test.YtdmfgffjplbloaaJ02
import Derived.Test.YtdmfgffjplbloaaJ01
import Derived.Deep.Slices
import Derived.Deep.Fields
import Derived.WideShapes
import Derived.Laws.StructEq
import Derived.BigQuiet
import Derived.Deep.RegionHeld3
namespace Go.Proofs.Ytdmfgffjplbloaa.CmtM
open Go.RowKit Go.Proofs.Ytdmfgffjplbloaa.Kit Go.Proofs.Ytdmfgffjplbloaa.Byt Go.Proofs.Ytdmfgffjplbloaa.Mem Go.Proofs.Ytdmfgffjplbloaa.DskA Go.Proofs.Ytdmfgffjplbloaa.DskB Go.Proofs.Ytdmfgffjplbloaa.DskD Go.Proofs.Ytdmfgffjplbloaa.DskE Go.Proofs.Ytdmfgffjplbloaa.DskF Go.Proofs.Ytdmfgffjplbloaa.RecM Go.Proofs.Ytdmfgffjplbloaa.StgM Go.Proofs.Ytdmfgffjplbloaa.StgP Go.Proofs.Ytdmfgffjplbloaa.StgQ Go.Proofs.Ytdmfgffjplbloaa.StgJ Go.Proofs.Ytdmfgffjplbloaa.Put2

/-- A sector as a copy of a partition's record: the record, or none. -/
def cp (p : Int) (xs : List Nat) : Rc := if (getR xs).2 ≠ 0 ∨ (getR xs).1.p ≠ p then Rc.none else (getR xs).1
/-- The record of two sectors, and which one it is in. -/
def late (p : Int) (a b : List Nat) : Rc × Nat := if (cp p a).q < (cp p b).q then (cp p b, 1) else (cp p a, 0)
/-- A log: whose, its record, the copy that holds it. -/
structure Lg where
  p : Nat
  r : Rc
  i : Nat
def nextR (now r : Rc) : Rc := ⟨now.p, now.q + 1, r.a, r.c, r.l, r.b⟩
/-- What is saved behind a record, by the document. -/
def nx (now r : Rc) : Rc × Int := if 4294967295 ≤ now.q then (now, 4) else if (nextR now r).right then (nextR now r, 0) else (now, 3)
def lS (s : St) (l : Lg) (r : Rc) : St × Lg × Int :=
  if (nx l.r r).2 ≠ 0 then (s, l, (nx l.r r).2)
  else if (put1 s (10 * l.p + (1 - l.i)) (shut (nextR l.r r).bytes)).2 = 0 then ((put1 s (10 * l.p + (1 - l.i)) (shut (nextR l.r r).bytes)).1, ⟨l.p, nextR l.r r, 1 - l.i⟩, 0)
  else ((put1 s (10 * l.p + (1 - l.i)) (shut (nextR l.r r).bytes)).1, l, 8)
def one (p : Nat) : Rc := ⟨p, 1, 0, 0, 0, 0⟩
def lF (s : St) (p : Nat) : St × Int :=
  if (put1 s (10 * p + 1) (zs 64)).2 = 0 then put1 (put1 s (10 * p + 1) (zs 64)).1 (10 * p) (shut (one p).bytes) else ((put1 s (10 * p + 1) (zs 64)).1, 8)
def lO (s : St) (p : Nat) : Lg := ⟨p, (late p (now s (10 * p)) (now s (10 * p + 1))).1, (late p (now s (10 * p)) (now s (10 * p + 1))).2⟩

/-! ### sectors -/
theorem cp_back {r : Rc} (h : r.right) {p : Int} (hp : r.p = p) : cp p (shut r.bytes) = r := by
  unfold cp
  rw [getR_back h, if_neg (by simp [hp])]
theorem cp_get {p : Int} {xs : List Nat} (h : 1 ≤ (cp p xs).q) : getR xs = (cp p xs, 0) ∧ (cp p xs).p = p := by
  unfold cp at h ⊢
  by_cases e : (getR xs).2 ≠ 0 ∨ (getR xs).1.p ≠ p
  · rw [if_pos e] at h
    exact absurd h (by decide)
  · rw [if_neg e]
    have e1 : (getR xs).2 = 0 := by
      refine Classical.byContradiction fun h1 => e (.inl h1)
    have e2 : (getR xs).1.p = p := by
      refine Classical.byContradiction fun h1 => e (.inr h1)
    exact ⟨by rw [← e1], e2⟩
theorem getR_right {xs : List Nat} (h : (getR xs).2 = 0) : (getR xs).1.right := by
  unfold getR at h ⊢
  split
  · rename_i h1
    rw [if_pos h1] at h
    exact absurd h h1
  · rename_i h1
    rw [if_neg h1] at h
    split
    · rename_i h2; exact h2
    · rename_i h2
      rw [if_neg h2] at h
      exact absurd h (by decide)
theorem cp_right {p : Int} {xs : List Nat} (h : 1 ≤ (cp p xs).q) : (cp p xs).right := by
  have h1 := cp_get h
  have h2 := getR_right (xs := xs) (by rw [h1.1])
  rw [h1.1] at h2
  exact h2
theorem late_0 {p : Int} {a b : List Nat} {r : Rc} (h : late p a b = (r, 0)) : cp p a = r ∧ ¬ r.q < (cp p b).q := by
  unfold late at h
  split at h
  · injection h with h1 h2; cases h2
  · rename_i h0
    injection h with h1 h2
    rw [← h1]
    exact ⟨rfl, h0⟩
theorem late_1 {p : Int} {a b : List Nat} {r : Rc} (h : late p a b = (r, 1)) : cp p b = r ∧ (cp p a).q < r.q := by
  unfold late at h
  split at h
  · rename_i h0
    injection h with h1 h2
    rw [← h1]
    exact ⟨rfl, h0⟩
  · injection h with h1 h2; cases h2
theorem late_i (p : Int) (a b : List Nat) : (late p a b).2 ≤ 1 := by
  unfold late
  split
  · exact Nat.le_refl 1
  · exact Nat.zero_le 1
/-- The record that is saved into the other copy is the record. -/
theorem late_next {p : Int} {a b : List Nat} {r y : Rc} {i : Nat} (h : late p a b = (r, i)) (hy : y.right) (hp : y.p = p) (hq : r.q < y.q) :
    (i = 0 → late p a (shut y.bytes) = (y, 1)) ∧ (i = 1 → late p (shut y.bytes) b = (y, 0)) := by
  refine ⟨fun e => ?_, fun e => ?_⟩
  · subst e
    have h0 := late_0 h
    unfold late
    rw [cp_back hy hp, h0.1, if_pos hq]
  · subst e
    have h0 := late_1 h
    unfold late
    rw [cp_back hy hp, h0.1, if_neg (by omega)]

/-! ### a log on a disk that is up, and on one that went down -/
/-- The copies tell this record. -/
def Tells (S : List (List Nat)) (p : Nat) (r : Rc) (i : Nat) : Prop := late p (S.getD (10 * p) []) (S.getD (10 * p + 1) []) = (r, i)
structure Li (s : St) (l : Lg) : Prop where
  up : Up0 s
  p3 : l.p ≤ 3
  len : 10 * l.p + 2 ≤ s.S.length
  right : l.r.right
  pp : l.r.p = l.p
  i1 : l.i ≤ 1
  tell : Tells s.S l.p l.r l.i
  byts : Byts s
structure Ld (s : St) (l : Lg) (y : Rc) : Prop where
  down : s.down = true
  ok : s.ok
  most : s.L.length ≤ 1
  p3 : l.p ≤ 3
  len : 10 * l.p + 2 ≤ s.S.length
  right : l.r.right
  pp : l.r.p = l.p
  i1 : l.i ≤ 1
  righty : y.right
  ppy : y.p = l.p
  q : l.r.q < y.q
  tell : ∀ K, Tells (power K s).S l.p l.r l.i ∨ Tells (power K s).S l.p y (1 - l.i)
  byts : Byts s
theorem put1_08 (s : St) (i : Nat) (bs : List Nat) : (put1 s i bs).2 = 0 ∨ (put1 s i bs).2 = 8 := by
  unfold put1
  split
  · exact .inr rfl
  · split
    · exact .inr rfl
    · exact .inl rfl
theorem tells_next {S : List (List Nat)} {p i : Nat} {r y : Rc} (hl : 10 * p + 2 ≤ S.length) (h : Tells S p r i) (hi : i ≤ 1) (hy : y.right) (hp : y.p = p) (hq : r.q < y.q) : Tells (S.set (10 * p + (1 - i)) (shut y.bytes)) p y (1 - i) := by
  have hn := late_next h hy hp hq
  unfold Tells
  rcases (show i = 0 ∨ i = 1 by omega) with rfl | rfl
  · rw [getD_set _ (by omega), getD_set _ (by omega), if_neg (by omega), if_pos (by omega)]
    exact hn.1 rfl
  · rw [getD_set _ (by omega), getD_set _ (by omega), if_pos (by omega), if_neg (by omega)]
    exact hn.2 rfl
/-- The copy that holds the record tells it. -/
theorem tells_get {S : List (List Nat)} {p i : Nat} {r : Rc} (h : Tells S p r i) (hi : i ≤ 1) (hq : 1 ≤ r.q) : getR (S.getD (10 * p + i) []) = (r, 0) := by
  unfold Tells at h
  rcases (show i = 0 ∨ i = 1 by omega) with rfl | rfl
  · have h0 := (late_0 h).1
    have := cp_get (p := (p : Int)) (xs := S.getD (10 * p) []) (by rw [h0]; exact hq)
    rw [h0] at this
    exact this.1
  · have h0 := (late_1 h).1
    have := cp_get (p := (p : Int)) (xs := S.getD (10 * p + 1) []) (by rw [h0]; exact hq)
    rw [h0] at this
    exact this.1
theorem nx_cases (now r : Rc) : ((nx now r).2 = 0 ∧ (nx now r).1 = nextR now r ∧ (nextR now r).right) ∨ (((nx now r).2 = 3 ∨ (nx now r).2 = 4) ∧ (nx now r).1 = now) := by
  unfold nx
  split
  · exact .inr ⟨.inr rfl, rfl⟩
  · split
    · rename_i h; exact .inl ⟨rfl, rfl, h⟩
    · exact .inr ⟨.inl rfl, rfl⟩
/-- A record is saved, on a disk that is up. -/
theorem step_S {s : St} {l : Lg} (h : Li s l) (r : Rc) :
    ((lS s l r).2.2 = (nx l.r r).2 ∧ (lS s l r).2.2 ≠ 8 ∧ Li (lS s l r).1 (lS s l r).2.1 ∧ (lS s l r).2.1.r = (nx l.r r).1 ∧ (lS s l r).2.1.p = l.p) ∨
    ((lS s l r).2.2 = 8 ∧ (nx l.r r).2 = 0 ∧ (lS s l r).2.1 = l ∧ Ld (lS s l r).1 l (nx l.r r).1) := by
  unfold lS
  rcases nx_cases l.r r with ⟨e0, e1, hr⟩ | ⟨e34, e1⟩
  · rw [if_neg (fun e => e e0), e0, e1]
    have hi : 10 * l.p + (1 - l.i) < s.S.length := by have := h.len; omega
    have hbs : (shut (nextR l.r r).bytes).length = 64 := shut_len (by rw [Rc.bytes_len]; omega)
    have hq : l.r.q < (nextR l.r r).q := by show l.r.q < l.r.q + 1; omega
    have ht := tells_next h.len h.tell h.i1 hr h.pp hq
    rcases put1_cases h.up hi hbs with ⟨h0, hu, hS⟩ | ⟨h8, hd, hok, hm, hp⟩
    · rw [if_pos h0]
      refine .inl ⟨rfl, by show (0 : Int) ≠ 8; omega, ⟨hu, h.p3, ?_, hr, h.pp, by show 1 - l.i ≤ 1; omega, ?_, put1_byts h.byts _ (shut_lt (Rc.bytes_lt _))⟩, rfl, rfl⟩
      · rw [hS, List.length_set]; exact h.len
      · rw [hS]; exact ht
    · rw [if_neg (by omega)]
      refine .inr ⟨rfl, rfl, rfl, hd, hok, hm, h.p3, len_dn h.len hp, h.right, h.pp, h.i1, hr, h.pp, hq, fun K => ?_, put1_byts h.byts _ (shut_lt (Rc.bytes_lt _))⟩
      rcases hp K with e | e
      · rw [e]; exact .inl h.tell
      · rw [e]; exact .inr ht
  · rw [if_pos (by omega)]
    exact .inl ⟨rfl, by show (nx l.r r).2 ≠ 8; omega, h, e1.symm, rfl⟩
/-- A record is saved, on a disk that went down. -/
theorem down_S {s : St} {l : Lg} (h : s.down = true) (r : Rc) : (lS s l r).1 = s ∧ (lS s l r).2.1 = l ∧ (((nx l.r r).2 = 0 ∧ (lS s l r).2.2 = 8) ∨ ((nx l.r r).2 ≠ 0 ∧ (lS s l r).2.2 = (nx l.r r).2 ∧ (lS s l r).2.2 ≠ 8 ∧ (nx l.r r).1 = l.r)) := by
  unfold lS
  rcases nx_cases l.r r with ⟨e0, e1, hr⟩ | ⟨e34, e1⟩
  · rw [if_neg (fun e => e e0), put1_down h, if_neg (by show ¬ (8 : Int) = 0; omega)]
    exact ⟨rfl, rfl, .inl ⟨e0, rfl⟩⟩
  · rw [if_pos (by omega)]
    exact ⟨rfl, rfl, .inr ⟨by omega, rfl, by show (nx l.r r).2 ≠ 8; omega, e1⟩⟩
/-- Without a fuse the disk stays up. -/
theorem free_S {s : St} {l : Lg} (f : Free s) (r : Rc) : Free (lS s l r).1 ∧ (lS s l r).2.2 = (nx l.r r).2 ∧ (lS s l r).2.2 ≠ 8 := by
  have hp := put1_free f (10 * l.p + (1 - l.i)) (shut (nextR l.r r).bytes)
  unfold lS
  rcases nx_cases l.r r with ⟨e0, e1, hr⟩ | ⟨e34, e1⟩
  · rw [if_neg (fun e => e e0), if_pos hp.1]
    exact ⟨hp.2, e0.symm, by show (0 : Int) ≠ 8; omega⟩
  · rw [if_pos (by omega)]
    exact ⟨f, rfl, by show (nx l.r r).2 ≠ 8; omega⟩
/-- What a disk tells behind a failure of power. -/
theorem lO_of {s : St} (hL : s.L = []) {p i : Nat} {r : Rc} (h : Tells s.S p r i) : lO s p = ⟨p, r, i⟩ := by
  unfold lO
  rw [now_S hL, now_S hL]
  unfold Tells at h
  rw [h]
theorem up_power {s : St} {l : Lg} (h : Li s l) (K : Nat) : Li (power K s) l ∧ lO (power K s) l.p = l := by
  have hS : (power K s).S = s.S := by rw [power_S, h.up.none_]; rfl
  have ht : Tells (power K s).S l.p l.r l.i := by rw [hS]; exact h.tell
  exact ⟨⟨power_up0 h.up.ok K, h.p3, by rw [hS]; exact h.len, h.right, h.pp, h.i1, ht, power_byts h.byts K⟩, lO_of rfl ht⟩
theorem dn_power {s : St} {l : Lg} {y : Rc} (h : Ld s l y) (K : Nat) :
    (Li (power K s) l ∧ lO (power K s) l.p = l) ∨ (Li (power K s) ⟨l.p, y, 1 - l.i⟩ ∧ lO (power K s) l.p = ⟨l.p, y, 1 - l.i⟩) := by
  have hl : 10 * l.p + 2 ≤ (power K s).S.length := by rw [power_len]; exact h.len
  rcases h.tell K with ht | ht
  · exact .inl ⟨⟨power_up0 h.ok K, h.p3, hl, h.right, h.pp, h.i1, ht, power_byts h.byts K⟩, lO_of rfl ht⟩
  · exact .inr ⟨⟨power_up0 h.ok K, h.p3, hl, h.righty, h.ppy, by show 1 - l.i ≤ 1; omega, ht, power_byts h.byts K⟩, lO_of rfl ht⟩
/-- A log is made. -/
theorem one_right {p : Nat} (h : p ≤ 3) : (one p).right := by
  unfold Rc.right one bitOn
  simp
  omega
theorem cp_zs (p : Int) : cp p (zs 64) = Rc.none := by
  have e : wrong 67 11 (zs 64) = 2 := by
    have := wrong_same 67 0 64 11 (by omega)
    rw [if_pos rfl] at this
    exact this
  have e2 : getR (zs 64) = (Rc.none, 2) := by
    unfold getR
    rw [e]
    exact if_pos (by omega)
  unfold cp
  rw [e2]
  exact if_pos (.inl (by show (2 : Int) ≠ 0; omega))
theorem free_F {s : St} (hu : Up0 s) (f : Free s) (hby : Byts s) {p : Nat} (hp : p ≤ 3) (hl : 10 * p + 2 ≤ s.S.length) :
    (lF s p).2 = 0 ∧ Li (lF s p).1 ⟨p, one p, 0⟩ ∧ Free (lF s p).1 := by
  have h1 := put1_free f (10 * p + 1) (zs 64)
  have h2 := put1_free h1.2 (10 * p) (shut (one p).bytes)
  unfold lF
  rw [if_pos h1.1]
  have hb := shut_len (xs := (one p).bytes) (by rw [Rc.bytes_len]; omega)
  rcases put1_cases hu (i := 10 * p + 1) (bs := zs 64) (by omega) (zs_len 64) with ⟨_, gu, gS⟩ | ⟨g8, _⟩
  · obtain ⟨q, hq⟩ : ∃ q, q = put1 s (10 * p + 1) (zs 64) := ⟨_, rfl⟩
    have hq2 : Byts q.1 := by rw [hq]; exact put1_byts hby _ (zs_byt 64)
    rw [← hq] at gu gS h2 ⊢
    have hlq : 10 * p + 2 ≤ q.1.S.length := by rw [gS, List.length_set]; exact hl
    rcases put1_cases gu (i := 10 * p) (bs := shut (one p).bytes) (by omega) hb with ⟨_, ku, kS⟩ | ⟨k8, _⟩
    · refine ⟨h2.1, ⟨ku, hp, by rw [kS, List.length_set]; exact hlq, one_right hp, rfl, Nat.zero_le 1, ?_, put1_byts hq2 _ (shut_lt (Rc.bytes_lt _))⟩, h2.2⟩
      show late p _ _ = _
      rw [kS, gS]
      rw [getD_set _ (by rw [List.length_set]; show 10 * p < s.S.length; omega), if_pos rfl, getD_set _ (by rw [List.length_set]; show 10 * p < s.S.length; omega), if_neg (by show ¬ 10 * p = 10 * p + 1; omega), getD_set _ (by omega), if_pos rfl]
      unfold late
      rw [cp_back (p := (p : Int)) (one_right hp) rfl, cp_zs, if_neg (by show ¬ (1 : Int) < 0; omega)]
    · rw [h2.1] at k8; exact absurd k8 (by omega)
  · rw [h1.1] at g8; exact absurd g8 (by omega)
end Go.Proofs.Ytdmfgffjplbloaa.CmtM
namespace Go.Proofs.Ytdmfgffjplbloaa.RecA
open Go.RowKit Go.Proofs.Ytdmfgffjplbloaa.Kit Go.Proofs.Ytdmfgffjplbloaa.Byt Go.Proofs.Ytdmfgffjplbloaa.Mem Go.Proofs.Ytdmfgffjplbloaa.RecM

open Classical in
theorem bool_of (p : Prop) : ∃ b : Bool, b = true ↔ p := ⟨decide p, by simp⟩
@[reducible] def rval (r : Rc) : Value := .agg #[.int .i64 r.p, .int .i64 r.q, .int .i64 r.a, .int .i64 r.c, .int .i64 r.l, .int .i64 r.b]
@[reducible] def sval (g : Sg) : Value := .agg #[.int .i64 g.s, .int .i64 g.z, .int .i64 g.h]
def rcells (r : Rc) : List Value := [.int .i64 r.p, .int .i64 r.q, .int .i64 r.a, .int .i64 r.c, .int .i64 r.l, .int .i64 r.b]
def scells (g : Sg) : List Value := [.int .i64 g.s, .int .i64 g.z, .int .i64 g.h]
/-- A number of 64 bits. -/
def n64 (x : Int) : Prop := -9223372036854775808 ≤ x ∧ x ≤ 9223372036854775807
structure rok (r : Rc) : Prop where
  p : n64 r.p
  q : n64 r.q
  a : n64 r.a
  c : n64 r.c
  l : n64 r.l
  b : n64 r.b
structure sok (g : Sg) : Prop where
  s : n64 g.s
  z : n64 g.z
  h : n64 g.h

/-- The world only has more than w; this bool comes back. -/
def Yes (w : World) (b : Bool) (e : Ending) (w' : World) : Prop := e = .returned (.bool b) ∧ Below w.heap.size w w'
/-- A box of one's own, and all that was there. -/
structure Bx (w : World) (g : Nat) (t : TypeId) (cs : List Value) (wr : World) : Prop where
  blk : Blk wr g t cs
  new_ : w.heap.size ≤ g
  bel : Below w.heap.size w wr
theorem Bx.new (w : World) (t : TypeId) (cs : List Value) : Bx w w.heap.size t cs (w.alloc (.cells cs.toArray t)) := ⟨Blk.new w _ _, Nat.le_refl _, (Below.refl _ _).alloc (Nat.le_refl _) _⟩
theorem Bx.step {w wr w' : World} {g : Nat} {t : TypeId} {cs : List Value} (h : Bx w g t cs wr) (hb : Below wr.heap.size wr w') : Bx w g t cs w' := ⟨h.blk.below hb, h.new_, h.bel.trans (hb.mono h.bel.size)⟩
theorem Bx.alloc {w wr : World} {g : Nat} {t : TypeId} {cs : List Value} (h : Bx w g t cs wr) (o : Obj) : Bx w g t cs (wr.alloc o) := h.step ((Below.refl _ _).alloc (Nat.le_refl _) o)

set_option maxRecDepth 100000 in
set_option maxHeartbeats 800000 in
theorem int_eq {a b : Int} (h : a = b) : Value.int .i64 a = .int .i64 b := by rw [h]
end Go.Proofs.Ytdmfgffjplbloaa.RecA
namespace Go.Proofs.Ytdmfgffjplbloaa.CmtC
open Go.RowKit Go.Proofs.Ytdmfgffjplbloaa.Kit Go.Proofs.Ytdmfgffjplbloaa.Byt Go.Proofs.Ytdmfgffjplbloaa.Mem Go.Proofs.Ytdmfgffjplbloaa.RecM Go.Proofs.Ytdmfgffjplbloaa.RecA

/-! ### are two records one? -/
theorem rc_eq {r k : Rc} (h1 : r.p = k.p) (h2 : r.q = k.q) (h3 : r.a = k.a) (h4 : r.c = k.c) (h5 : r.l = k.l) (h6 : r.b = k.b) : r = k := by
  obtain ⟨a, b, c, d, e, f⟩ := r
  obtain ⟨a', b', c', d', e', f'⟩ := k
  simp only at h1 h2 h3 h4 h5 h6
  subst h1 h2 h3 h4 h5 h6
  rfl
set_option maxRecDepth 100000 in
theorem req (r k : Rc) (b : Bool) (hb : b = true ↔ r = k) (w : World) : (Op.equalIn 10000 31 (rval r) (rval k)).run Try.prog w = .ok b w := by
  have ht : Try.prog.underlying 31 = some (.struct (Try.prog.fieldsOf 31)) := by kernel_rfl
  have hp : Try.prog.stoodInHeld 31 = false := by kernel_rfl
  rw [show (10000 : Nat) = 9999 + 1 from rfl, run_equalIn_struct w 9999 _ _ _ ht hp]
  have e : b = (((((((r.p == k.p) && (r.q == k.q)) && (r.a == k.a)) && (r.c == k.c)) && (r.l == k.l)) && (r.b == k.b))) := by
    rw [Bool.eq_iff_iff, hb]
    simp only [Bool.and_eq_true, beq_iff_eq]
    exact ⟨fun h => by rw [h]; exact ⟨⟨⟨⟨⟨rfl, rfl⟩, rfl⟩, rfl⟩, rfl⟩, rfl⟩, fun ⟨⟨⟨⟨⟨h1, h2⟩, h3⟩, h4⟩, h5⟩, h6⟩ => rc_eq h1 h2 h3 h4 h5 h6⟩
  subst e
  simp [go_sem, Op.eqFields, Try.underlying31, Try.underlying3]
  clear hb
  (repeat' split) <;> simp [*]
end Go.Proofs.Ytdmfgffjplbloaa.CmtC
namespace Go.Proofs.Ytdmfgffjplbloaa.RecA
open Go.RowKit Go.Proofs.Ytdmfgffjplbloaa.Kit Go.Proofs.Ytdmfgffjplbloaa.Byt Go.Proofs.Ytdmfgffjplbloaa.Mem Go.Proofs.Ytdmfgffjplbloaa.RecM

set_option maxRecDepth 100000 in
theorem open_record {H : Type} {enc : TypeId × Value → H} {w : World} {base : Nat} {v : Value} {d : DataW H} {p : List MemPlace} (h : DataW.Trod enc Try.prog w 0 (fun _ => true) true 31 v d p) (o : Value.okWide Try.prog w .any base 31 v) :
    ∃ i : Rc, v = rval i ∧ rok i := by
  obtain ⟨cs, rfl, hs⟩ := Go.WideShapes.okWide_struct Try.underlying31 o
  obtain ⟨fuel, hf⟩ := h
  have hC : Try.prog.cellsOf 31 = 6 := by kernel_rfl
  rw [hC] at hs
  obtain ⟨cs, rfl⟩ : ∃ l : List Value, cs = l.toArray := ⟨cs.toList, by simp⟩
  have hcs : (Value.agg cs.toArray).cells.toList = cs := by simp [Value.cells]
  rw [hcs] at hf
  obtain ⟨ys, n', _, _, _, hyl, hfl⟩ := DataW.trod_struct Try.underlying31 hf
  match cs, hs with
  | [c0, c1, c2, c3, c4, c5], _ =>
    have ci : Try.prog.cellsOf 3 = 1 := by kernel_rfl
    match ys, hyl with
    | [y0, y1, y2, y3, y4, y5], _ =>
      have e0 : DataW.trod enc Try.prog w 0 (fun _ => true) true n' 3 (([c0, c1, c2, c3, c4, c5].drop 0).take (Try.prog.cellsOf 3)) = some y0 := hfl 0 _ rfl
      have e1 : DataW.trod enc Try.prog w 0 (fun _ => true) true n' 3 (([c0, c1, c2, c3, c4, c5].drop 1).take (Try.prog.cellsOf 3)) = some y1 := hfl 1 _ rfl
      have e2 : DataW.trod enc Try.prog w 0 (fun _ => true) true n' 3 (([c0, c1, c2, c3, c4, c5].drop 2).take (Try.prog.cellsOf 3)) = some y2 := hfl 2 _ rfl
      have e3 : DataW.trod enc Try.prog w 0 (fun _ => true) true n' 3 (([c0, c1, c2, c3, c4, c5].drop 3).take (Try.prog.cellsOf 3)) = some y3 := hfl 3 _ rfl
      have e4 : DataW.trod enc Try.prog w 0 (fun _ => true) true n' 3 (([c0, c1, c2, c3, c4, c5].drop 4).take (Try.prog.cellsOf 3)) = some y4 := hfl 4 _ rfl
      have e5 : DataW.trod enc Try.prog w 0 (fun _ => true) true n' 3 (([c0, c1, c2, c3, c4, c5].drop 5).take (Try.prog.cellsOf 3)) = some y5 := hfl 5 _ rfl
      rw [ci] at e0 e1 e2 e3 e4 e5
      obtain ⟨v0, q0, _, w0⟩ := DataW.trod_int (x := y0) Try.underlying3 e0
      obtain ⟨v1, q1, _, w1⟩ := DataW.trod_int (x := y1) Try.underlying3 e1
      obtain ⟨v2, q2, _, w2⟩ := DataW.trod_int (x := y2) Try.underlying3 e2
      obtain ⟨v3, q3, _, w3⟩ := DataW.trod_int (x := y3) Try.underlying3 e3
      obtain ⟨v4, q4, _, w4⟩ := DataW.trod_int (x := y4) Try.underlying3 e4
      obtain ⟨v5, q5, _, w5⟩ := DataW.trod_int (x := y5) Try.underlying3 e5
      obtain rfl : c0 = _ := by simpa using q0
      obtain rfl : c1 = _ := by simpa using q1
      obtain rfl : c2 = _ := by simpa using q2
      obtain rfl : c3 = _ := by simpa using q3
      obtain rfl : c4 = _ := by simpa using q4
      obtain rfl : c5 = _ := by simpa using q5
      exact ⟨⟨v0, v1, v2, v3, v4, v5⟩, rfl, bounds_i64 w0, bounds_i64 w1, bounds_i64 w2, bounds_i64 w3, bounds_i64 w4, bounds_i64 w5⟩
set_option maxRecDepth 100000 in
set_option maxHeartbeats 800000 in
theorem rbit_any (n : Nat) (i : Int) (w : World) (hn : n ≤ 3) (hi : 0 ≤ i ∧ i ≤ 1) (b : Bool) (hb : b = true ↔ bitOn n i) : Calls Try.prog 36 #[.int .i64 n, .int .i64 i] w fun e w' => e = .returned (.bool b) ∧ w = w' := by
  have HB := Lib.hid hb
  clear hb
  go_enter Try.func36, Try.ntmps36
  go_wp2
  go_loop [0, 5] (fun s k => ∃ j : Nat, (j : Int) ≤ i ∧ k = .int .i64 j ∧ s = .int .i64 ((n / 2 ^ j : Nat) : Int)) (fun _ k => 2 - (intOf k).toNat)
  case atStart => exact ⟨0, by omega, rfl, by simp⟩
  case round =>
    obtain ⟨j, hj, rfl, rfl⟩ := hrel
    have hm3 : n / 2 ^ j ≤ 3 := Nat.le_trans (Nat.div_le_self _ _) hn
    obtain ⟨m, hm⟩ : ∃ m, m = n / 2 ^ j := ⟨_, rfl⟩
    have HM := Lib.hid hm
    rw [← hm] at hm3 ⊢
    clear hm
    have ht : ((m : Nat) : Int).tdiv 2 = ((m / 2 : Nat) : Int) := by rw [Int.tdiv_eq_ediv_of_nonneg (by omega)]; omega
    have hmo : ((m : Nat) : Int).tmod 2 = ((m % 2 : Nat) : Int) := by rw [Int.tmod_eq_emod_of_nonneg (by omega)]; omega
    by_cases hji : (j : Int) < i
    · go_wp2
      go_round
      case rel => exact ⟨j + 1, by omega, by go_num, by rw [Nat.pow_succ, ← Nat.div_div_eq_div_mul, ← HM.out]; go_num⟩
      case measure => simp [intOf]; omega
    · obtain rfl : i = (j : Int) := by omega
      go_wp2
      go_ret
      refine ⟨ret_bool ?_, rfl⟩
      rw [Bool.eq_iff_iff, HB.out]
      unfold bitOn
      have hj2 : j = 0 ∨ j = 1 := by omega
      have hM := HM.out
      rcases hj2 with rfl | rfl
      · rw [if_pos (by rfl), beq_iff_eq]
        simp at hM
        omega
      · rw [if_neg (by omega), beq_iff_eq]
        simp at hM
        omega


end Go.Proofs.Ytdmfgffjplbloaa.RecA
namespace Go.Proofs.Ytdmfgffjplbloaa.RecG
open Go.RowKit Go.Proofs.Ytdmfgffjplbloaa.Kit Go.Proofs.Ytdmfgffjplbloaa.Byt Go.Proofs.Ytdmfgffjplbloaa.Mem Go.Proofs.Ytdmfgffjplbloaa.RecM Go.Proofs.Ytdmfgffjplbloaa.RecA

theorem below_drewN {B : Nat} {w w' : World} (h : Below B w w') (n : Nat) : Below B w (w'.drewN n) := ⟨h.os, h.tape, h.output, h.size, h.block⟩
def inn (n l m : Int) : Bool := decide (l ≤ n ∧ n ≤ m)
theorem inn_true {n l m : Int} (h : inn n l m = true) : l ≤ n ∧ n ≤ m := by simpa [inn] using h
theorem inn_false {n l m : Int} (h : inn n l m = false) : ¬ (l ≤ n ∧ n ≤ m) := by simpa [inn] using h
theorem within_any (n l m : Int) (w : World) : Calls Try.prog 54 #[.int .i64 n, .int .i64 l, .int .i64 m] w fun e w' => e = .returned (.bool (inn n l m)) ∧ w = w' := by
  unfold inn
  by_cases h : l ≤ n
  · go_enter Try.func54, Try.ntmps54
    go_wp2
    go_ret
    exact ⟨ret_bool (by simp [h]), rfl⟩
  · have h' : ¬ (l ≤ n) := h
    go_enter Try.func54, Try.ntmps54
    go_wp2
    go_ret
    exact ⟨ret_bool (by rw [Bool.eq_iff_iff]; simp; omega), rfl⟩

theorem within_eq {n l m : Int} {b : Bool} (h : inn n l m = b) (w : World) : Calls Try.prog 54 #[.int .i64 n, .int .i64 l, .int .i64 m] w fun e w' => e = .returned (.bool b) ∧ w = w' := h ▸ within_any n l m w
theorem within_q {n l m : Int} {b : Bool} (h : inn n l m = b) (w : World) : Calls Try.prog 54 #[.int .i64 n, .int .i64 l, .int .i64 m] w fun e w' => e = .returned (.bool b) ∧ w' = w := (within_eq h w).mono fun _ _ h => ⟨h.1, h.2.symm⟩
theorem Bx.six {w wr : World} {g : Nat} {t' : TypeId} {p q a c l t : Int} (h : Bx w g t' (rcells ⟨p, q, a, c, l, t⟩) wr) : wr.cell? ⟨g, 0, none⟩ = some (.int .i64 p) ∧ wr.cell? ⟨g, 1, none⟩ = some (.int .i64 q) ∧ wr.cell? ⟨g, 2, none⟩ = some (.int .i64 a) ∧ wr.cell? ⟨g, 3, none⟩ = some (.int .i64 c) ∧ wr.cell? ⟨g, 4, none⟩ = some (.int .i64 l) ∧ wr.cell? ⟨g, 5, none⟩ = some (.int .i64 t) := ⟨h.blk.cell (i := 0) rfl, h.blk.cell (i := 1) rfl, h.blk.cell (i := 2) rfl, h.blk.cell (i := 3) rfl, h.blk.cell (i := 4) rfl, h.blk.cell (i := 5) rfl⟩
/-- How many boots may be left. -/
def most (a c : Int) : Int := if a = c then 0 else 7
theorem most_any (p q a c l t : Int) (w : World) : Calls Try.prog 55 #[.agg #[.int .i64 p, .int .i64 q, .int .i64 a, .int .i64 c, .int .i64 l, .int .i64 t]] w fun e w' => e = .returned (.int .i64 (most a c)) ∧ Below w.heap.size w w' := by
  have HX := Lib.hid (Bx.new w 31 (rcells ⟨p, q, a, c, l, t⟩))
  by_cases e : a = c
  · have HM := Lib.hid (show most a c = 0 from if_pos e)
    subst e
    go_enter Try.func55, Try.ntmps55
    go_wp2
    go_ret
    exact ⟨by rw [HM.out]; rfl, HX.out.bel⟩
  · have HM := Lib.hid (show most a c = 7 from if_neg e)
    have e' : (a == c) = false := by simpa using e
    go_enter Try.func55, Try.ntmps55
    go_wp2
    go_ret
    exact ⟨by rw [HM.out]; rfl, HX.out.bel⟩

/-- The slots that may not be bad. -/
def need (a c : Int) : Int := if a = 0 then (if c = 0 then 1 else 3) else if c = 0 then 3 else 2
set_option maxRecDepth 100000 in
set_option maxHeartbeats 800000 in
theorem need_any (p q a c l t : Int) (w : World) (ha : a = 0 ∨ a = 1) (hc : c = 0 ∨ c = 1) : Calls Try.prog 56 #[.agg #[.int .i64 p, .int .i64 q, .int .i64 a, .int .i64 c, .int .i64 l, .int .i64 t]] w fun e w' => e = .returned (.int .i64 (need a c)) ∧ Below w.heap.size w w' := by
  have HX := Lib.hid (Bx.new w 31 (rcells ⟨p, q, a, c, l, t⟩))
  rcases ha with rfl | rfl <;> rcases hc with rfl | rfl
  all_goals
    go_enter Try.func56, Try.ntmps56
    go_wp2
    go_quiet (fail)
    go_wp2
    go_ret
    exact ⟨ret_int (by first | rfl | decide), below_drewN HX.out.bel _⟩
theorem and_need {t a c : Int} (ht : 0 ≤ t ∧ t ≤ 3) (ha : a = 0 ∨ a = 1) (hc : c = 0 ∨ c = 1) : (bits .and .i64 t (need a c) == 0) = true ↔ ¬ bitOn t a ∧ ¬ bitOn t c := by
  obtain ⟨k, rfl⟩ : ∃ k : Nat, t = k := ⟨t.toNat, by omega⟩
  have hk : k = 0 ∨ k = 1 ∨ k = 2 ∨ k = 3 := by omega
  rcases hk with rfl | rfl | rfl | rfl <;> rcases ha with rfl | rfl <;> rcases hc with rfl | rfl <;> decide



theorem run_and (t D : Int) (w : World) : (binOp .and 3 (.int .i64 t) (.int .i64 D)).run Try.prog w = .ok (.int .i64 (bits .and .i64 t D)) w := by
  go_simp
end Go.Proofs.Ytdmfgffjplbloaa.RecG
