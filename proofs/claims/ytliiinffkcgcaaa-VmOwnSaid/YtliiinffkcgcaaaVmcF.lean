/- One instruction, and a tick, with the channels, in plain terms: as the program does them, and as the document has them. No conditions but those each law names. -/
import Derived.Test.YtliiinffkcgcaaaVmcM
import Derived.Test.YtliiinffkcgcaaaPrtM
import Derived.Test.YtliiinffkcgcaaaOpsA
namespace Go.Proofs.Ytliiinffkcgcaaa.VmcF
open Go.RowKit Go.Proofs.Ytliiinffkcgcaaa.Kit Go.Proofs.Ytliiinffkcgcaaa.Byt Go.Proofs.Ytliiinffkcgcaaa.PrtM Go.Proofs.Ytliiinffkcgcaaa.OpsM Go.Proofs.Ytliiinffkcgcaaa.OpsA Go.Proofs.Ytliiinffkcgcaaa.VmcM
open Go.Proofs.Ytliiinffkcgcaaa.TabA (Tri)
open Go.Proofs.Ytliiinffkcgcaaa.ImgA (Im)
open Go.Proofs.Ytliiinffkcgcaaa.BitM (hb)

/-- What a deed of the program leaves: the state, the channels, what was sent, whether it confirmed, whether the tick ends. -/
structure R where
  v : V
  L : Nat → List Int
  sn : List (Int × Int)
  cf : Bool
  e : Bool
def sndR (i : Im) (C : List Tri) (a : Int) (r : R) : R :=
  let u := takeV (need (hb i.s a) 15 r.v)
  let x := takeN (need (hb i.s a) 15 r.v)
  if u.ft = 0 then
    let t := snds C r.L i.p a x
    { r with v := need (decide (t.1.2 = 0)) 15 u, L := t.2, sn := if t.1.2 = 0 then r.sn ++ [(a, x)] else r.sn }
  else { r with v := u }
def getR (i : Im) (C : List Tri) (a : Int) (r : R) : R :=
  let u := need (decide (r.v.h + 2 ≤ 8)) 14 (need (hb i.r a) 15 r.v)
  if u.ft = 0 then
    let t := gets C r.L i.p a
    let u3 := need (decide (t.1.2.2 = 0)) 15 u
    { r with v := lay (tru t.1.2.1) (if t.1.2.1 = true then lay t.1.1 u3 else u3), L := t.2 }
  else { r with v := u }
def deedR (i : Im) (C : List Tri) (o a : Int) (r : R) : R :=
  if o = 0 then { r with e := true } else if o = 14 then sndR i C a r else if o = 15 then getR i C a r else if o = 16 then { r with cf := true } else { r with v := deed i o a r.v }
/-- One instruction of the program. -/
def stepV (i : Im) (C : List Tri) (r : R) : R :=
  match atI i.xs r.v.pc with
  | none => { r with v := { r.v with ft := 19 }, e := true }
  | some (o, a, n) =>
    let d := deedR i C o a { r with v := { r.v with pc := r.v.pc + n }, e := false }
    if d.v.ft ≠ 0 then { d with v := { r.v with ft := d.v.ft }, e := true } else d

/-! ### the document -/
structure T where
  z : Z
  L : Nat → List Int
  sn : List (Int × Int)
  cf : Bool
  e : Bool
def failT (f : Int) (t : T) : T := { t with z := { t.z with ft := f }, e := true }
def sndT (i : Im) (C : List Tri) (a nx : Int) (t : T) : T :=
  let x := top t.z.st
  let r := snds C t.L i.p a x
  if r.1.2 = 0 then { t with z := { t.z with pc := nx, st := t.z.st.dropLast }, L := r.2, sn := t.sn ++ [(a, x)], e := false } else { failT 15 t with L := r.2 }
def getT (i : Im) (C : List Tri) (a nx : Int) (t : T) : T :=
  let r := gets C t.L i.p a
  if r.1.2.2 = 0 then { t with z := { t.z with pc := nx, st := if r.1.2.1 = true then push 1 (push r.1.1 t.z.st) else push 0 t.z.st }, L := r.2, e := false } else { failT 15 t with L := r.2 }
def stpT (i : Im) (C : List Tri) (t : T) : T :=
  match atI i.xs t.z.pc with
  | none => failT 19 t
  | some (o, a, n) =>
    if flt i t.z.st.length o a ≠ 0 then failT (flt i t.z.st.length o a) t
    else if o = 14 then sndT i C a (t.z.pc + n) t else if o = 15 then getT i C a (t.z.pc + n) t
    else { t with z := eff o a (t.z.pc + n) t.z, cf := t.cf || decide (o = 16), e := decide (o = 0) }
def R.t (r : R) (k : Nat) : T := ⟨r.v.z k, r.L, r.sn, r.cf, r.e⟩

/-! ### they are one -/
theorem z_len {v : V} (h : v.ok) (k : Nat) : (v.z k).st.length = v.h := by
  show (v.s.take v.h).length = v.h
  rw [List.length_take, h.ls]
  have := h.h8
  omega
theorem snds_refuse {C : List Tri} {L : Nat → List Int} {p k n : Int} (h : (snds C L p k n).1.2 ≠ 0) : (snds C L p k n).2 = L := by
  unfold snds at h ⊢
  split
  · rfl
  · rename_i h1
    rw [if_neg h1] at h
    split
    · rfl
    · rename_i h2
      rw [if_neg h2] at h
      exact absurd rfl h
theorem gets_refuse {C : List Tri} {L : Nat → List Int} {p k : Int} (h : (gets C L p k).1.2.2 ≠ 0) : (gets C L p k).2 = L := by
  unfold gets at h ⊢
  split
  · rfl
  · rename_i h1
    rw [if_neg h1] at h
    exact absurd rfl h
theorem z_pc (v : V) (p : Int) (k : Nat) : ({ v with pc := p } : V).z k = { v.z k with pc := p } := rfl
theorem z_ft (v : V) (f : Int) (k : Nat) : ({ v with ft := f } : V).z k = { v.z k with ft := f } := rfl
theorem sndR_t {i : Im} {C : List Tri} {a : Int} {r : R} (h : r.v.ok) (hf : r.v.ft = 0) (he : r.e = false) :
    (flt i r.v.h 14 a ≠ 0 → (sndR i C a r).v.ft = flt i r.v.h 14 a ∧ (sndR i C a r).L = r.L ∧ (sndR i C a r).sn = r.sn ∧ (sndR i C a r).cf = r.cf) ∧
    (flt i r.v.h 14 a = 0 → ((snds C r.L i.p a (top (r.v.z i.m.toNat).st)).1.2 ≠ 0 → (sndR i C a r).v.ft = 15 ∧ (sndR i C a r).L = r.L ∧ (sndR i C a r).sn = r.sn ∧ (sndR i C a r).cf = r.cf) ∧
      ((snds C r.L i.p a (top (r.v.z i.m.toNat).st)).1.2 = 0 → (sndR i C a r).v.ft = 0 ∧ (sndR i C a r).t i.m.toNat = sndT i C a r.v.pc (r.t i.m.toNat))) := by
  have ef : flt i r.v.h 14 a = if hb i.s a = false then 15 else if r.v.h = 0 then 5 else 0 := by
    have h8 := h.h8
    unfold flt
    rw [if_neg (by omega), if_neg (by omega), show takes 14 = 1 from rfl, show lays 14 = 0 from rfl]
    by_cases hh : hb i.s a = false
    · rw [if_pos (Or.inl ⟨rfl, hh⟩), if_pos hh]
    · rw [if_neg (fun q => by rcases q with q | q; exact hh q.2; exact absurd q.1 (by decide)), if_neg hh]
      by_cases h0 : r.v.h = 0
      · rw [if_pos (by omega), if_pos h0]
      · rw [if_neg (by omega), if_neg h0, if_neg (by omega)]
  rw [ef]
  by_cases hh : hb i.s a = false
  · rw [if_pos hh]
    refine ⟨fun _ => ?_, fun hx => absurd hx (by decide)⟩
    have e1 : (need (hb i.s a) 15 r.v).ft = 15 := by rw [hh, need_no hf]
    have e2 : (takeV (need (hb i.s a) 15 r.v)).ft = 15 := by rw [take_keep (by rw [e1]; decide), e1]
    unfold sndR
    dsimp only
    rw [if_neg (by rw [e2]; decide)]
    exact ⟨e2, rfl, rfl, rfl⟩
  · have hh' : hb i.s a = true := by simpa using hh
    rw [if_neg hh]
    have eN : need (hb i.s a) 15 r.v = r.v := by rw [hh', need_true]
    by_cases h0 : r.v.h = 0
    · rw [if_pos h0]
      refine ⟨fun _ => ?_, fun hx => absurd hx (by decide)⟩
      have e2 := take_no h0 hf
      unfold sndR
      rw [eN]
      dsimp only
      rw [if_neg (by rw [e2]; decide)]
      exact ⟨e2, rfl, rfl, rfl⟩
    · rw [if_neg h0]
      refine ⟨fun hx => absurd rfl hx, fun _ => ?_⟩
      obtain ⟨a1, a2, a3, a4, a5⟩ := take_h h0
      have t1 := take_top (k := i.m.toNat) h h0
      have e1 := take_z (k := i.m.toNat) h h0
      have hs : sndR i C a r = { r with v := need (decide ((snds C r.L i.p a (takeN r.v)).1.2 = 0)) 15 (takeV r.v), L := (snds C r.L i.p a (takeN r.v)).2, sn := if (snds C r.L i.p a (takeN r.v)).1.2 = 0 then r.sn ++ [(a, takeN r.v)] else r.sn } := by
        unfold sndR
        rw [eN]
        dsimp only
        rw [if_pos (by rw [a2]; exact hf)]
      rw [hs, t1]
      constructor
      · intro hx
        rw [decide_eq_false hx, if_neg hx, snds_refuse hx]
        exact ⟨by show (need false 15 (takeV r.v)).ft = 15; rw [need_no (by rw [a2]; exact hf)], rfl, rfl, rfl⟩
      · intro hx
        rw [decide_eq_true hx, if_pos hx, need_true]
        refine ⟨by show (takeV r.v).ft = 0; rw [a2]; exact hf, ?_⟩
        unfold sndT R.t
        dsimp only
        rw [if_pos hx, e1, he]
        rfl
theorem getR_t {i : Im} {C : List Tri} {a : Int} {r : R} (h : r.v.ok) (hf : r.v.ft = 0) (he : r.e = false) :
    (flt i r.v.h 15 a ≠ 0 → (getR i C a r).v.ft = flt i r.v.h 15 a ∧ (getR i C a r).L = r.L ∧ (getR i C a r).sn = r.sn ∧ (getR i C a r).cf = r.cf) ∧
    (flt i r.v.h 15 a = 0 → ((gets C r.L i.p a).1.2.2 ≠ 0 → (getR i C a r).v.ft = 15 ∧ (getR i C a r).L = r.L ∧ (getR i C a r).sn = r.sn ∧ (getR i C a r).cf = r.cf) ∧
      ((gets C r.L i.p a).1.2.2 = 0 → (getR i C a r).v.ft = 0 ∧ (getR i C a r).t i.m.toNat = getT i C a r.v.pc (r.t i.m.toNat))) := by
  have h8 := h.h8
  have ef : flt i r.v.h 15 a = if hb i.r a = false then 15 else if r.v.h + 2 ≤ 8 then 0 else 14 := by
    unfold flt
    rw [if_neg (by omega), if_neg (by omega), show takes 15 = 0 from rfl, show lays 15 = 2 from rfl]
    by_cases hh : hb i.r a = false
    · rw [if_pos (Or.inr ⟨rfl, hh⟩), if_pos hh]
    · rw [if_neg (fun q => by rcases q with q | q; exact absurd q.1 (by decide); exact hh q.2), if_neg hh, if_neg (by omega)]
      by_cases h0 : r.v.h + 2 ≤ 8
      · rw [if_neg (by omega), if_pos h0]
      · rw [if_pos (by omega), if_neg h0]
  rw [ef]
  by_cases hh : hb i.r a = false
  · rw [if_pos hh]
    refine ⟨fun _ => ?_, fun hx => absurd hx (by decide)⟩
    have e1 : (need (hb i.r a) 15 r.v).ft = 15 := by rw [hh, need_no hf]
    have e2 : (need (decide (r.v.h + 2 ≤ 8)) 14 (need (hb i.r a) 15 r.v)).ft = 15 := by rw [need_keep (by rw [e1]; decide), e1]
    unfold getR
    dsimp only
    rw [if_neg (by rw [e2]; decide)]
    exact ⟨e2, rfl, rfl, rfl⟩
  · have hh' : hb i.r a = true := by simpa using hh
    rw [if_neg hh]
    have eN : need (hb i.r a) 15 r.v = r.v := by rw [hh', need_true]
    by_cases h0 : r.v.h + 2 ≤ 8
    · rw [if_pos h0]
      refine ⟨fun hx => absurd rfl hx, fun _ => ?_⟩
      have hs : getR i C a r = { r with v := lay (tru (gets C r.L i.p a).1.2.1) (if (gets C r.L i.p a).1.2.1 = true then lay (gets C r.L i.p a).1.1 (need (decide ((gets C r.L i.p a).1.2.2 = 0)) 15 r.v) else need (decide ((gets C r.L i.p a).1.2.2 = 0)) 15 r.v), L := (gets C r.L i.p a).2 } := by
        unfold getR
        rw [eN, decide_eq_true h0, need_true]
        dsimp only
        rw [if_pos hf]
      rw [hs]
      constructor
      · intro hx
        rw [decide_eq_false hx, gets_refuse hx, need_no hf]
        refine ⟨?_, rfl, rfl, rfl⟩
        show (lay _ _).ft = 15
        have k15 : ({ r.v with ft := 15 } : V).ft ≠ 0 := by show (15 : Int) ≠ 0; decide
        split
        · have k2 := lay_keep (n := (gets C r.L i.p a).1.1) k15
          rw [lay_keep (by rw [k2]; exact k15), k2]
        · rw [lay_keep k15]
      · intro hx
        rw [decide_eq_true hx, need_true]
        unfold getT R.t
        dsimp only
        rw [if_pos hx, he]
        cases hi : (gets C r.L i.p a).1.2.1 with
        | true =>
          rw [if_pos rfl, if_pos rfl]
          obtain ⟨c1, c2, c3, c4, c5⟩ := lay_h (v := r.v) (n := (gets C r.L i.p a).1.1) (by omega)
          obtain ⟨d1, d2, d3, d4, d5⟩ := lay_h (v := lay (gets C r.L i.p a).1.1 r.v) (n := tru true) (by omega)
          refine ⟨by rw [d2, c2]; exact hf, ?_⟩
          rw [lay_z (h.lay _) (by omega), lay_z h (by omega), c2, c3, c4]
          rfl
        | false =>
          rw [if_neg (by simp), if_neg (by simp)]
          obtain ⟨c1, c2, c3, c4, c5⟩ := lay_h (v := r.v) (n := tru false) (by omega)
          refine ⟨by rw [c2]; exact hf, ?_⟩
          rw [lay_z h (by omega)]
          rfl
    · rw [if_neg h0]
      refine ⟨fun _ => ?_, fun hx => absurd hx (by decide)⟩
      have e2 : (need (decide (r.v.h + 2 ≤ 8)) 14 r.v).ft = 14 := by rw [decide_eq_false h0, need_no hf]
      unfold getR
      rw [eN]
      dsimp only
      rw [if_neg (by rw [e2]; decide)]
      exact ⟨e2, rfl, rfl, rfl⟩
theorem R.ok.deedR {i : Im} {C : List Tri} {o a : Int} {r : R} (h : r.v.ok) : (VmcF.deedR i C o a r).v.ok := by
  unfold VmcF.deedR
  split
  · exact h
  · split
    · unfold sndR
      dsimp only
      split
      · exact (h.need _ _).takeV.need _ _
      · exact (h.need _ _).takeV
    · split
      · unfold getR
        dsimp only
        split
        · refine V.ok.lay ?_ _
          split
          · exact (((h.need _ _).need _ _).need _ _).lay _
          · exact ((h.need _ _).need _ _).need _ _
        · exact (h.need _ _).need _ _
      · split
        · exact h
        · exact h.deed _ _ _
theorem stepV_ok {i : Im} {C : List Tri} {r : R} (h : r.v.ok) : (stepV i C r).v.ok := by
  unfold stepV
  split
  · exact h.ft _
  · rename_i o a n _
    dsimp only
    split
    · exact h.ft _
    · exact R.ok.deedR (r := { r with v := { r.v with pc := r.v.pc + n }, e := false }) (h.pc _)
theorem sndT_yes {i : Im} {C : List Tri} {a nx : Int} {t : T} (h : (snds C t.L i.p a (top t.z.st)).1.2 = 0) : sndT i C a nx t = { t with z := { t.z with pc := nx, st := t.z.st.dropLast }, L := (snds C t.L i.p a (top t.z.st)).2, sn := t.sn ++ [(a, top t.z.st)], e := false } := if_pos h
theorem sndT_no {i : Im} {C : List Tri} {a nx : Int} {t : T} (h : (snds C t.L i.p a (top t.z.st)).1.2 ≠ 0) : sndT i C a nx t = { failT 15 t with L := (snds C t.L i.p a (top t.z.st)).2 } := if_neg h
theorem getT_yes {i : Im} {C : List Tri} {a nx : Int} {t : T} (h : (gets C t.L i.p a).1.2.2 = 0) : getT i C a nx t = { t with z := { t.z with pc := nx, st := if (gets C t.L i.p a).1.2.1 = true then push 1 (push (gets C t.L i.p a).1.1 t.z.st) else push 0 t.z.st }, L := (gets C t.L i.p a).2, e := false } := if_pos h
theorem getT_no {i : Im} {C : List Tri} {a nx : Int} {t : T} (h : (gets C t.L i.p a).1.2.2 ≠ 0) : getT i C a nx t = { failT 15 t with L := (gets C t.L i.p a).2 } := if_neg h
theorem fail_t {r d : R} {f : Int} {k : Nat} (h1 : d.v.ft = f) (h0 : f ≠ 0) (h2 : d.L = r.L) (h3 : d.sn = r.sn) (h4 : d.cf = r.cf) : (if d.v.ft ≠ 0 then ({ d with v := { r.v with ft := d.v.ft }, e := true } : R) else d).t k = failT f (r.t k) := by
  rw [if_pos (by rw [h1]; exact h0), h1]
  unfold failT R.t
  dsimp only
  rw [h2, h3, h4]
  rfl
theorem good_t {r d : R} {k : Nat} (h1 : d.v.ft = 0) : (if d.v.ft ≠ 0 then ({ d with v := { r.v with ft := d.v.ft }, e := true } : R) else d).t k = d.t k := by
  rw [if_neg (by rw [h1]; simp)]
theorem atI_bd {xs : List Nat} {pc o a : Int} {n : Nat} (h : atI xs pc = some (o, a, n)) : 0 ≤ o ∧ o ≤ 18 ∧ 0 ≤ a := by
  unfold atI at h
  split at h
  · cases h
  · have h1 := at1_n h
    refine ⟨h1.2.2.1, h1.2.2.2, ?_⟩
    revert h
    cases xs.drop pc.toNat with
    | nil => intro h; simp [at1] at h
    | cons q l =>
      intro h
      simp only [at1] at h
      split at h <;> (try contradiction)
      split at h
      · cases l with
        | nil => cases h
        | cons b l => simp only [Option.some.injEq, Prod.mk.injEq] at h; omega
      · simp only [Option.some.injEq, Prod.mk.injEq] at h; omega
/-- One instruction: the program does as the document has it. -/
theorem step_t {i : Im} {C : List Tri} {r : R} (h : r.v.ok) (hf : r.v.ft = 0) (hm : 0 ≤ i.m) : (stepV i C r).t i.m.toNat = stpT i C (r.t i.m.toNat) := by
  unfold stepV stpT
  rw [show (r.t i.m.toNat).z.pc = r.v.pc from rfl, show (r.t i.m.toNat).z.st.length = r.v.h from z_len h _]
  cases hat : atI i.xs r.v.pc with
  | none => rfl
  | some q =>
    obtain ⟨o, a, n⟩ := q
    dsimp only
    obtain ⟨ho, ho2, ha⟩ := atI_bd hat
    have hv : ({ r.v with pc := r.v.pc + n } : V).ok := h.pc _
    obtain ⟨d, hd⟩ : ∃ d, d = deedR i C o a { r with v := { r.v with pc := r.v.pc + n }, e := false } := ⟨_, rfl⟩
    rw [← hd]
    by_cases h14 : o = 14
    · subst h14
      obtain ⟨k1, k2⟩ := sndR_t (i := i) (C := C) (a := a) (r := { r with v := { r.v with pc := r.v.pc + n }, e := false }) hv hf rfl
      rw [show deedR i C 14 a = sndR i C a from by funext x; unfold deedR; rw [if_neg (by omega), if_pos rfl]] at hd
      rw [← hd] at k1 k2
      by_cases hq : flt i r.v.h 14 a = 0
      · obtain ⟨k3, k4⟩ := k2 hq
        by_cases hs : (snds C r.L i.p a (top (r.v.z i.m.toNat).st)).1.2 = 0
        · obtain ⟨e1, e2⟩ := k4 hs
          refine (good_t (r := r) e1).trans (e2.trans ?_)
          rw [if_neg (fun hh => hh hq), if_pos rfl]
          exact (sndT_yes hs).trans (sndT_yes (t := r.t i.m.toNat) hs).symm
        · obtain ⟨e1, e2, e3, e4⟩ := k3 hs
          refine (fail_t (r := r) e1 (by decide) e2 e3 e4).trans ?_
          rw [if_neg (fun hh => hh hq), if_pos rfl]
          exact ((sndT_no (t := r.t i.m.toNat) hs).trans (by rw [show (snds C (r.t i.m.toNat).L i.p a (top (r.t i.m.toNat).z.st)).2 = r.L from snds_refuse hs]; rfl)).symm
      · obtain ⟨e1, e2, e3, e4⟩ := k1 hq
        refine (fail_t (r := r) e1 hq e2 e3 e4).trans ?_
        rw [if_pos hq]
    · by_cases h15 : o = 15
      · subst h15
        obtain ⟨k1, k2⟩ := getR_t (i := i) (C := C) (a := a) (r := { r with v := { r.v with pc := r.v.pc + n }, e := false }) hv hf rfl
        rw [show deedR i C 15 a = getR i C a from by funext x; unfold deedR; rw [if_neg (by omega), if_neg (by omega), if_pos rfl]] at hd
        rw [← hd] at k1 k2
        by_cases hq : flt i r.v.h 15 a = 0
        · obtain ⟨k3, k4⟩ := k2 hq
          by_cases hs : (gets C r.L i.p a).1.2.2 = 0
          · obtain ⟨e1, e2⟩ := k4 hs
            refine (good_t (r := r) e1).trans (e2.trans ?_)
            rw [if_neg (fun hh => hh hq), if_neg h14, if_pos rfl]
            exact (getT_yes hs).trans (getT_yes (t := r.t i.m.toNat) hs).symm
          · obtain ⟨e1, e2, e3, e4⟩ := k3 hs
            refine (fail_t (r := r) e1 (by decide) e2 e3 e4).trans ?_
            rw [if_neg (fun hh => hh hq), if_neg h14, if_pos rfl]
            exact ((getT_no (t := r.t i.m.toNat) hs).trans (by rw [show (gets C (r.t i.m.toNat).L i.p a).2 = r.L from gets_refuse hs]; rfl)).symm
        · obtain ⟨e1, e2, e3, e4⟩ := k1 hq
          refine (fail_t (r := r) e1 hq e2 e3 e4).trans ?_
          rw [if_pos hq]
      · obtain ⟨k1, k2⟩ := deed_z (i := i) (v := { r.v with pc := r.v.pc + n }) hv hf hm (o := o) (a := a) ⟨ho, ho2⟩ h14 h15 ha
        have key : d = ⟨deed i o a { r.v with pc := r.v.pc + n }, r.L, r.sn, r.cf || decide (o = 16), decide (o = 0)⟩ := by
          rw [hd]
          unfold deedR
          by_cases h0 : o = 0
          · subst h0
            rw [if_pos rfl]
            simp [deed]
          · rw [if_neg h0, if_neg h14, if_neg h15]
            by_cases h16 : o = 16
            · subst h16
              rw [if_pos rfl]
              simp [deed]
            · rw [if_neg h16]
              simp [h0, h16]
        by_cases hq : flt i r.v.h o a = 0
        · have e2 := k2 hq
          have e1 : (deed i o a { r.v with pc := r.v.pc + n }).ft = 0 := (congrArg Z.ft e2).trans hf
          refine (good_t (r := r) (by rw [key]; exact e1)).trans ?_
          rw [if_neg (fun hh => hh hq), if_neg h14, if_neg h15, key]
          unfold R.t
          dsimp only
          rw [e2]
          rfl
        · have e1 : (deed i o a { r.v with pc := r.v.pc + n }).ft = flt i r.v.h o a := k1 hq
          have h16 : o ≠ 16 := fun hh => by
            subst hh
            apply hq
            have h8 := h.h8
            simp [flt, takes, lays]
            omega
          refine (fail_t (r := r) (by rw [key]; exact e1) hq (by rw [key]) (by rw [key]) (by rw [key, decide_eq_false h16]; simp)).trans ?_
          rw [if_pos hq]
end Go.Proofs.Ytliiinffkcgcaaa.VmcF
