/- A tick in plain terms. No conditions but those each law names. -/
import Derived.Test.YtliiinffkcgcaaaVmcF
import Derived.Test.YtliiinffkcgcaaaOpsN3
import Derived.Test.YtliiinffkcgcaaaImgB0
namespace Go.Proofs.Ytliiinffkcgcaaa.VmcN
open Go.RowKit Go.Proofs.Ytliiinffkcgcaaa.Kit Go.Proofs.Ytliiinffkcgcaaa.Byt Go.Proofs.Ytliiinffkcgcaaa.OpsM Go.Proofs.Ytliiinffkcgcaaa.OpsA Go.Proofs.Ytliiinffkcgcaaa.VmcM Go.Proofs.Ytliiinffkcgcaaa.VmcF Go.Proofs.Ytliiinffkcgcaaa.PrtM
open Go.Proofs.Ytliiinffkcgcaaa.ImgA (Im)
open Go.Proofs.Ytliiinffkcgcaaa.ImgB (right)
open Go.Proofs.Ytliiinffkcgcaaa.TabA (Tri)
open Go.Proofs.Ytliiinffkcgcaaa.BitM (hb)

/-! ### what a step leaves alone -/
theorem take_tk (v : V) : (takeV v).tk = v.tk ∧ (takeV v).pc = v.pc := by unfold takeV; split; exact ⟨(need_h _ _ _).2.2.2.2, (need_h _ _ _).2.2.2.1⟩; exact ⟨rfl, rfl⟩
theorem lay_tk (n : Int) (v : V) : (lay n v).tk = v.tk ∧ (lay n v).pc = v.pc := by unfold lay; split; exact ⟨rfl, rfl⟩; exact ⟨(need_h _ _ _).2.2.2.2, (need_h _ _ _).2.2.2.1⟩
theorem need_tk (b : Bool) (e : Int) (v : V) : (need b e v).tk = v.tk ∧ (need b e v).pc = v.pc := ⟨(need_h _ _ _).2.2.2.2, (need_h _ _ _).2.2.2.1⟩
theorem deed_tk (i : Im) (o a : Int) (v : V) : (deed i o a v).tk = v.tk ∧ ((deed i o a v).pc = v.pc ∨ (deed i o a v).pc = a) := by
  unfold deed
  repeat' split
  · exact ⟨(lay_tk _ _).1, .inl (lay_tk _ _).2⟩
  · exact ⟨(take_tk _).1, .inl (take_tk _).2⟩
  · unfold dupl; exact ⟨by rw [(lay_tk _ _).1, (lay_tk _ _).1, (take_tk _).1], .inl (by rw [(lay_tk _ _).2, (lay_tk _ _).2, (take_tk _).2])⟩
  · unfold swp; exact ⟨by rw [(lay_tk _ _).1, (lay_tk _ _).1, (take_tk _).1, (take_tk _).1], .inl (by rw [(lay_tk _ _).2, (lay_tk _ _).2, (take_tk _).2, (take_tk _).2])⟩
  · unfold two; exact ⟨by rw [(lay_tk _ _).1, (take_tk _).1, (take_tk _).1], .inl (by rw [(lay_tk _ _).2, (take_tk _).2, (take_tk _).2])⟩
  · unfold loa; split
    · exact ⟨(lay_tk _ _).1, .inl (lay_tk _ _).2⟩
    · exact ⟨(need_tk _ _ _).1, .inl (need_tk _ _ _).2⟩
  · unfold stor; split
    · exact ⟨(take_tk _).1, .inl (take_tk _).2⟩
    · exact ⟨(need_tk _ _ _).1, .inl (need_tk _ _ _).2⟩
  · exact ⟨(need_tk _ _ _).1, .inr rfl⟩
  · unfold zer
    dsimp only
    split
    · exact ⟨by show (takeV _).tk = _; rw [(take_tk _).1, (need_tk _ _ _).1], .inr rfl⟩
    · exact ⟨by rw [(take_tk _).1, (need_tk _ _ _).1], .inl (by rw [(take_tk _).2, (need_tk _ _ _).2])⟩
  · exact ⟨(need_tk _ _ _).1, .inl (need_tk _ _ _).2⟩
  · exact ⟨(lay_tk _ _).1, .inl (lay_tk _ _).2⟩
  · exact ⟨rfl, .inl rfl⟩
theorem deedR_tk (i : Im) (C : List Tri) (o a : Int) (r : R) : (deedR i C o a r).v.tk = r.v.tk ∧ ((deedR i C o a r).v.pc = r.v.pc ∨ (deedR i C o a r).v.pc = a) ∧ (deedR i C o a r).sn.length ≤ r.sn.length + 1 := by
  unfold deedR
  split
  · exact ⟨rfl, .inl rfl, Nat.le_succ _⟩
  · split
    · unfold sndR
      dsimp only
      split
      · refine ⟨by rw [(need_tk _ _ _).1, (take_tk _).1, (need_tk _ _ _).1], .inl (by rw [(need_tk _ _ _).2, (take_tk _).2, (need_tk _ _ _).2]), ?_⟩
        dsimp only
        split
        · simp
        · exact Nat.le_succ _
      · exact ⟨by rw [(take_tk _).1, (need_tk _ _ _).1], .inl (by rw [(take_tk _).2, (need_tk _ _ _).2]), Nat.le_succ _⟩
    · split
      · unfold getR
        dsimp only
        split
        · refine ⟨?_, .inl ?_, Nat.le_succ _⟩
          · rw [(lay_tk _ _).1]
            split
            · rw [(lay_tk _ _).1, (need_tk _ _ _).1, (need_tk _ _ _).1, (need_tk _ _ _).1]
            · rw [(need_tk _ _ _).1, (need_tk _ _ _).1, (need_tk _ _ _).1]
          · rw [(lay_tk _ _).2]
            split
            · rw [(lay_tk _ _).2, (need_tk _ _ _).2, (need_tk _ _ _).2, (need_tk _ _ _).2]
            · rw [(need_tk _ _ _).2, (need_tk _ _ _).2, (need_tk _ _ _).2]
        · exact ⟨by rw [(need_tk _ _ _).1, (need_tk _ _ _).1], .inl (by rw [(need_tk _ _ _).2, (need_tk _ _ _).2]), Nat.le_succ _⟩
      · split
        · exact ⟨rfl, .inl rfl, Nat.le_succ _⟩
        · exact ⟨(deed_tk _ _ _ _).1, (deed_tk _ _ _ _).2, Nat.le_succ _⟩
theorem atI_b {xs : List Nat} {pc o a : Int} {n : Nat} (hx : ∀ u ∈ xs, u < 256) (h : atI xs pc = some (o, a, n)) : 0 ≤ o ∧ o ≤ 18 ∧ 0 ≤ a ∧ a ≤ 255 ∧ 0 ≤ pc ∧ pc + n ≤ xs.length := by
  have h1 := atI_bd h
  unfold atI at h
  split at h
  · cases h
  · have h2 := OpsN.at1_b (fun b hb => hx b (List.mem_of_mem_drop hb)) h
    have h3 := at1_n h
    rw [List.length_drop] at h3
    exact ⟨h1.1, h1.2.1, h1.2.2, by omega, by omega, by omega⟩
theorem stepV_keeps {i : Im} {C : List Tri} {r : R} (hx : ∀ u ∈ i.xs, u < 256) (hl : i.xs.length ≤ 96) (hp : 0 ≤ r.v.pc ∧ r.v.pc ≤ 1000) :
    (stepV i C r).v.tk = r.v.tk ∧ (0 ≤ (stepV i C r).v.pc ∧ (stepV i C r).v.pc ≤ 1000) ∧ (stepV i C r).sn.length ≤ r.sn.length + 1 ∧ ((stepV i C r).e = false → (stepV i C r).v.ft = 0) := by
  unfold stepV
  cases hat : atI i.xs r.v.pc with
  | none => exact ⟨rfl, hp, Nat.le_succ _, fun h => by cases h⟩
  | some q =>
    obtain ⟨o, a, n⟩ := q
    dsimp only
    have hb := atI_b hx hat
    obtain ⟨k1, k2, k3⟩ := deedR_tk i C o a { r with v := { r.v with pc := r.v.pc + n }, e := false }
    split
    · exact ⟨rfl, hp, k3, fun h => by cases h⟩
    · rename_i hq
      refine ⟨k1, ?_, k3, fun _ => Classical.byContradiction hq⟩
      rcases k2 with k2 | k2
      · rw [k2]
        show 0 ≤ r.v.pc + (n : Int) ∧ r.v.pc + (n : Int) ≤ 1000
        omega
      · rw [k2]
        omega

/-! ### a tick -/
def goV (i : Im) (C : List Tri) : Nat → R → R
  | 0, r => r
  | k + 1, r => if (stepV i C r).e = true then stepV i C r else goV i C k (stepV i C r)
def goT (i : Im) (C : List Tri) : Nat → T → T
  | 0, t => t
  | k + 1, t => if (stpT i C t).e = true then stpT i C t else goT i C k (stpT i C t)
def plusV (v : V) : V := { v with tk := v.tk + 1 }
def plusZ (z : Z) : Z := { z with tk := z.tk + 1 }
def tickV (i : Im) (C : List Tri) (v : V) (L : Nat → List Int) : R :=
  if v.ft ≠ 0 then ⟨v, L, [], false, false⟩ else { goV i C i.f.toNat ⟨v, L, [], false, false⟩ with v := plusV (goV i C i.f.toNat ⟨v, L, [], false, false⟩).v }
def tickT (i : Im) (C : List Tri) (z : Z) (L : Nat → List Int) : T :=
  if z.ft ≠ 0 then ⟨z, L, [], false, false⟩ else { goT i C i.f.toNat ⟨z, L, [], false, false⟩ with z := plusZ (goT i C i.f.toNat ⟨z, L, [], false, false⟩).z }
theorem goV_ok {i : Im} {C : List Tri} (hx : ∀ u ∈ i.xs, u < 256) (hl : i.xs.length ≤ 96) : ∀ (k : Nat) {r : R}, r.v.ok → 0 ≤ r.v.pc ∧ r.v.pc ≤ 1000 → (goV i C k r).v.ok ∧ (0 ≤ (goV i C k r).v.pc ∧ (goV i C k r).v.pc ≤ 1000) ∧ (goV i C k r).v.tk = r.v.tk
  | 0, _, h, hp => ⟨h, hp, rfl⟩
  | k + 1, r, h, hp => by
    obtain ⟨k1, k2, k3, k4⟩ := stepV_keeps (C := C) hx hl hp
    rw [goV]
    split
    · exact ⟨stepV_ok h, k2, k1⟩
    · obtain ⟨q1, q2, q3⟩ := goV_ok hx hl k (stepV_ok (C := C) (i := i) h) k2
      exact ⟨q1, q2, q3.trans k1⟩
theorem run_t {i : Im} {C : List Tri} (hx : ∀ u ∈ i.xs, u < 256) (hl : i.xs.length ≤ 96) (hm : 0 ≤ i.m) : ∀ (k : Nat) {r : R}, r.v.ok → 0 ≤ r.v.pc ∧ r.v.pc ≤ 1000 → r.v.ft = 0 → (goV i C k r).t i.m.toNat = goT i C k (r.t i.m.toNat)
  | 0, _, _, _, _ => rfl
  | k + 1, r, h, hp, hf => by
    have e1 := step_t (C := C) h hf hm
    obtain ⟨k1, k2, k3, k4⟩ := stepV_keeps (C := C) hx hl hp
    rw [goV, goT, ← e1]
    show _ = if (stepV i C r).e = true then _ else _
    split
    · rfl
    · rename_i he
      exact run_t hx hl hm k (stepV_ok h) k2 (k4 (by simpa using he))
theorem tick_t {i : Im} {C : List Tri} (hx : ∀ u ∈ i.xs, u < 256) (hl : i.xs.length ≤ 96) (hm : 0 ≤ i.m) {v : V} {L : Nat → List Int} (h : v.ok) (hp : 0 ≤ v.pc ∧ v.pc ≤ 1000) :
    (tickV i C v L).v.z i.m.toNat = (tickT i C (v.z i.m.toNat) L).z ∧ (tickV i C v L).L = (tickT i C (v.z i.m.toNat) L).L ∧ (tickV i C v L).sn = (tickT i C (v.z i.m.toNat) L).sn ∧ (tickV i C v L).cf = (tickT i C (v.z i.m.toNat) L).cf := by
  unfold tickV tickT
  rw [show (v.z i.m.toNat).ft = v.ft from rfl]
  by_cases hf : v.ft = 0
  · rw [if_neg (fun hh => hh hf), if_neg (fun hh => hh hf)]
    have e := run_t (C := C) hx hl hm i.f.toNat (r := ⟨v, L, [], false, false⟩) h hp hf
    rw [show (R.mk v L [] false false).t i.m.toNat = ⟨v.z i.m.toNat, L, [], false, false⟩ from rfl] at e
    rw [← e]
    exact ⟨rfl, rfl, rfl, rfl⟩
  · rw [if_pos hf, if_pos hf]
    exact ⟨rfl, rfl, rfl, rfl⟩
theorem tickV_ok {i : Im} {C : List Tri} (hx : ∀ u ∈ i.xs, u < 256) (hl : i.xs.length ≤ 96) {v : V} {L : Nat → List Int} (h : v.ok) (hp : 0 ≤ v.pc ∧ v.pc ≤ 1000) :
    (tickV i C v L).v.ok ∧ (0 ≤ (tickV i C v L).v.pc ∧ (tickV i C v L).v.pc ≤ 1000) ∧ ((tickV i C v L).v.tk = v.tk ∨ (tickV i C v L).v.tk = v.tk + 1) := by
  unfold tickV
  split
  · exact ⟨h, hp, .inl rfl⟩
  · obtain ⟨q1, q2, q3⟩ := goV_ok (C := C) hx hl i.f.toNat (r := ⟨v, L, [], false, false⟩) h hp
    refine ⟨q1.tk _, q2, .inr ?_⟩
    show (goV i C i.f.toNat ⟨v, L, [], false, false⟩).v.tk + 1 = _
    rw [q3]

/-! ### what is sent -/
def SnOk (i : Im) (p : Int × Int) : Prop := (0 ≤ p.1 ∧ p.1 ≤ 15 ∧ hb i.s p.1 = true) ∧ num p.2
theorem hb_bd {s k : Int} (h : hb s k = true) : 0 ≤ k ∧ k ≤ 15 := by
  unfold hb at h
  simp only [decide_eq_true_eq] at h
  omega
theorem sndR_sn {i : Im} {C : List Tri} {a : Int} {r : R} (h : r.v.ok) (hf : r.v.ft = 0) (hq : ∀ p ∈ r.sn, SnOk i p) : ∀ p ∈ (sndR i C a r).sn, SnOk i p := by
  unfold sndR
  dsimp only
  split
  · rename_i hu
    intro p hp
    dsimp only at hp
    split at hp
    · rw [List.mem_append, List.mem_singleton] at hp
      rcases hp with hp | rfl
      · exact hq p hp
      · have hh : hb i.s a = true := by
          cases hc : hb i.s a with
          | true => rfl
          | false =>
            rw [hc] at hu
            have e1 : (need false 15 r.v).ft = 15 := by rw [need_no hf]
            rw [take_keep (by rw [e1]; decide), e1] at hu
            exact absurd hu (by decide)
        exact ⟨⟨(hb_bd hh).1, (hb_bd hh).2, hh⟩, (h.need _ _).takeN⟩
    · exact hq p hp
  · exact hq
theorem stepV_sn {i : Im} {C : List Tri} {r : R} (h : r.v.ok) (hf : r.v.ft = 0) (hq : ∀ p ∈ r.sn, SnOk i p) : ∀ p ∈ (stepV i C r).sn, SnOk i p := by
  unfold stepV
  cases atI i.xs r.v.pc with
  | none => exact hq
  | some q =>
    obtain ⟨o, a, n⟩ := q
    dsimp only
    have key : ∀ p ∈ (deedR i C o a { r with v := { r.v with pc := r.v.pc + n }, e := false }).sn, SnOk i p := by
      unfold deedR
      split
      · exact hq
      · split
        · exact sndR_sn (h.pc _) hf hq
        · split
          · unfold getR
            dsimp only
            split
            · exact hq
            · exact hq
          · split
            · exact hq
            · exact hq
    split
    · exact key
    · exact key
theorem goV_sn {i : Im} {C : List Tri} (hx : ∀ u ∈ i.xs, u < 256) (hl : i.xs.length ≤ 96) : ∀ (k : Nat) {r : R}, r.v.ok → 0 ≤ r.v.pc ∧ r.v.pc ≤ 1000 → r.v.ft = 0 → (∀ p ∈ r.sn, SnOk i p) → (∀ p ∈ (goV i C k r).sn, SnOk i p) ∧ (goV i C k r).sn.length ≤ r.sn.length + k
  | 0, _, _, _, _, hq => ⟨hq, Nat.le_refl _⟩
  | k + 1, r, h, hp, hf, hq => by
    obtain ⟨k1, k2, k3, k4⟩ := stepV_keeps (C := C) hx hl hp
    have hs := stepV_sn (C := C) h hf hq
    rw [goV]
    split
    · exact ⟨hs, by omega⟩
    · rename_i he
      obtain ⟨q1, q2⟩ := goV_sn hx hl k (stepV_ok (C := C) (i := i) h) k2 (k4 (by simpa using he)) hs
      exact ⟨q1, by omega⟩
theorem tickV_sn {i : Im} {C : List Tri} (hx : ∀ u ∈ i.xs, u < 256) (hl : i.xs.length ≤ 96) {v : V} {L : Nat → List Int} (h : v.ok) (hp : 0 ≤ v.pc ∧ v.pc ≤ 1000) :
    (∀ p ∈ (tickV i C v L).sn, SnOk i p) ∧ (tickV i C v L).sn.length ≤ i.f.toNat := by
  unfold tickV
  by_cases hf : v.ft = 0
  · rw [if_neg (fun hh => hh hf)]
    have := goV_sn (C := C) hx hl i.f.toNat (r := ⟨v, L, [], false, false⟩) h hp hf (by simp)
    exact ⟨this.1, by have h2 := this.2; simpa using h2⟩
  · rw [if_pos hf]
    exact ⟨by simp, Nat.zero_le _⟩
end Go.Proofs.Ytliiinffkcgcaaa.VmcN
