/- Channels in plain terms: what is sent, got and drained. No conditions but those each law names. -/
import Derived.Test.YtliiinffkcgcaaaTabI0
namespace Go.Proofs.Ytliiinffkcgcaaa.PrtM
open Go.RowKit Go.Proofs.Ytliiinffkcgcaaa.Kit Go.Proofs.Ytliiinffkcgcaaa.Byt Go.Proofs.Ytliiinffkcgcaaa.Mem
open Go.Proofs.Ytliiinffkcgcaaa.TabA (Tri Tris)

/-- What all channels have, with one of them turned. -/
def up (L : Nat → List Int) (k : Nat) (l : List Int) : Nat → List Int := fun j => if j = k then l else L j
theorem up_same (L : Nat → List Int) (k : Nat) (l : List Int) : up L k l k = l := if_pos rfl
theorem up_other {L : Nat → List Int} {k j : Nat} {l : List Int} (h : j ≠ k) : up L k l j = L j := if_neg h
theorem up_self (L : Nat → List Int) (k : Nat) : up L k (L k) = L := by
  funext j
  unfold up
  split
  · rename_i h; rw [h]
  · rfl
def full (d : Int) (l : List Int) : Bool := decide (d ≠ 0 ∧ (l.length : Int) = d)
def sndL (d : Int) (l : List Int) (n : Int) : List Int := if d = 0 then [n] else if full d l = true then l else l ++ [n]
def getN (l : List Int) : Int := l.headD 0
def getB (l : List Int) : Bool := !l.isEmpty
def getL (d : Int) (l : List Int) : List Int := if d = 0 then l else l.tail
/-- Is there such a channel, and is it the partition's? -/
def chan (C : List Tri) (k : Int) : Option Tri := if 0 ≤ k then C[k.toNat]? else none
def sndOk (C : List Tri) (p k : Int) : Bool := match chan C k with | none => false | some r => decide (r.a = p)
def getOk (C : List Tri) (p k : Int) : Bool := match chan C k with | none => false | some r => decide (r.b = p)
def dep (C : List Tri) (k : Nat) : Int := match C[k]? with | none => 0 | some r => r.c
def snds (C : List Tri) (L : Nat → List Int) (p k n : Int) : (Bool × Int) × (Nat → List Int) :=
  if sndOk C p k = false then ((false, 15), L)
  else if n < 0 ∨ 65535 < n then ((false, 3), L)
  else ((!full (dep C k.toNat) (L k.toNat), 0), up L k.toNat (sndL (dep C k.toNat) (L k.toNat) n))
def gets (C : List Tri) (L : Nat → List Int) (p k : Int) : (Int × Bool × Int) × (Nat → List Int) :=
  if getOk C p k = false then ((0, false, 15), L)
  else ((getN (L k.toNat), getB (L k.toNat), 0), up L k.toNat (getL (dep C k.toNat) (L k.toNat)))
def drn (C : List Tri) (p : Int) (m : Nat) (L : Nat → List Int) : Nat → List Int := fun k => match C[k]? with
  | some r => if r.b = p ∧ k < m then [] else L k
  | none => L k
def hasL (C : List Tri) (L : Nat → List Int) (k : Int) : List Int := match chan C k with | none => [] | some _ => L k.toNat

theorem chan_no {C : List Tri} {k : Int} (h : ¬ (0 ≤ k ∧ k < (C.length : Int))) : chan C k = none := by
  unfold chan
  split
  · exact List.getElem?_eq_none (by omega)
  · rfl
theorem chan_yes {C : List Tri} {k : Int} (h0 : 0 ≤ k) (h1 : k < (C.length : Int)) : chan C k = some (C[k.toNat]'(by omega)) := by
  unfold chan
  rw [if_pos h0]
  exact List.getElem?_eq_getElem _
theorem dep_at {C : List Tri} {k : Nat} {r : Tri} (h : C[k]? = some r) : dep C k = r.c := by unfold dep; rw [h]
theorem sndOk_at {C : List Tri} {p : Int} {k : Nat} {r : Tri} (h : C[k]? = some r) : sndOk C p k = decide (r.a = p) := by
  unfold sndOk chan
  rw [if_pos (by omega), Int.toNat_natCast, h]
theorem getOk_at {C : List Tri} {p : Int} {k : Nat} {r : Tri} (h : C[k]? = some r) : getOk C p k = decide (r.b = p) := by
  unfold getOk chan
  rw [if_pos (by omega), Int.toNat_natCast, h]
theorem hasL_at {C : List Tri} {L : Nat → List Int} {k : Nat} {r : Tri} (h : C[k]? = some r) : hasL C L k = L k := by
  unfold hasL chan
  rw [if_pos (by omega), Int.toNat_natCast, h]
theorem hasL_no {C : List Tri} {L : Nat → List Int} {k : Int} (h : ¬ (0 ≤ k ∧ k < (C.length : Int))) : hasL C L k = [] := by
  unfold hasL
  rw [chan_no h]
theorem snds_no {C : List Tri} {L : Nat → List Int} {p k n : Int} (h : sndOk C p k = false) : snds C L p k n = ((false, 15), L) := if_pos h
theorem snds_range {C : List Tri} {L : Nat → List Int} {p k n : Int} (h : sndOk C p k = true) (hn : n < 0 ∨ 65535 < n) : snds C L p k n = ((false, 3), L) := by
  unfold snds
  rw [if_neg (by rw [h]; simp), if_pos hn]
theorem snds_yes {C : List Tri} {L : Nat → List Int} {p n : Int} {k : Nat} {r : Tri} (hr : C[k]? = some r) (ha : r.a = p) (h0 : 0 ≤ n) (h1 : n ≤ 65535) : snds C L p k n = ((!full r.c (L k), 0), up L k (sndL r.c (L k) n)) := by
  unfold snds
  rw [if_neg (by rw [sndOk_at hr]; simp [ha]), if_neg (by omega), Int.toNat_natCast, dep_at hr]
theorem gets_no {C : List Tri} {L : Nat → List Int} {p k : Int} (h : getOk C p k = false) : gets C L p k = ((0, false, 15), L) := if_pos h
theorem gets_yes {C : List Tri} {L : Nat → List Int} {p : Int} {k : Nat} {r : Tri} (hr : C[k]? = some r) (hb : r.b = p) : gets C L p k = ((getN (L k), getB (L k), 0), up L k (getL r.c (L k))) := by
  unfold gets
  rw [if_neg (by rw [getOk_at hr]; simp [hb]), Int.toNat_natCast, dep_at hr]
theorem drn_zero (C : List Tri) (p : Int) (L : Nat → List Int) : drn C p 0 L = L := by
  funext k
  unfold drn
  split
  · rw [if_neg (by omega)]
  · rfl
theorem drn_yes {C : List Tri} {p : Int} {m : Nat} {L : Nat → List Int} {r : Tri} (h : C[m]? = some r) (hb : r.b = p) : drn C p (m + 1) L = up (drn C p m L) m [] := by
  funext k
  unfold up
  by_cases hk : k = m
  · subst hk
    rw [if_pos rfl]
    unfold drn
    rw [h]
    exact if_pos ⟨hb, by omega⟩
  · rw [if_neg hk]
    unfold drn
    split
    · congr 1
      rw [eq_iff_iff]
      omega
    · rfl
theorem drn_no {C : List Tri} {p : Int} {m : Nat} {L : Nat → List Int} {r : Tri} (h : C[m]? = some r) (hb : r.b ≠ p) : drn C p (m + 1) L = drn C p m L := by
  funext k
  unfold drn
  split
  · rename_i r' hr'
    by_cases hk : k = m
    · subst hk
      rw [h] at hr'
      injection hr' with hr'
      subst hr'
      rw [if_neg (fun hh => hb hh.1), if_neg (fun hh => hb hh.1)]
    · congr 1
      rw [eq_iff_iff]
      omega
  · rfl
end Go.Proofs.Ytliiinffkcgcaaa.PrtM
