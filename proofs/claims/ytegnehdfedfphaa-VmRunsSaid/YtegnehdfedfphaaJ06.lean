/- A tick in plain terms. No conditions but those each law names. The program's Tick. Conditions: the machine and the channels lie as the facts say; the image is right; fewer than 2^60 ticks. The program's copied, New, Image and Reset. Conditions: the image, the machine lie as the facts say. The program's State. Conditions: the machine lies as the facts say; a memory of at most 16 words. The program's Set: Drain. Conditions: it lies as the facts say; numbers of 64 bits. Channels made of a table, by the program. Conditions: the table lies as the facts say. New, by the program. Conditions: the table lies as the facts say. The laws' example holds; what is too long. No conditions. Acts on channels that came in; a list of numbers held against another one; what is too long. No conditions but those each law names. -/
import Derived.Test.YtegnehdfedfphaaJ04
import Derived.Test.YtegnehdfedfphaaImgB0
import Derived.Test.YtegnehdfedfphaaVmcK2
import Derived.Test.YtegnehdfedfphaaJ05
import Derived.Test.YtegnehdfedfphaaJ03
import Derived.Deep.RegionHeld3
import Derived.Test.YtegnehdfedfphaaPrtE
namespace Go.Proofs.Ytegnehdfedfphaa.VmcN
open Go.RowKit Go.Proofs.Ytegnehdfedfphaa.Kit Go.Proofs.Ytegnehdfedfphaa.Byt Go.Proofs.Ytegnehdfedfphaa.OpsM Go.Proofs.Ytegnehdfedfphaa.OpsA Go.Proofs.Ytegnehdfedfphaa.VmcM Go.Proofs.Ytegnehdfedfphaa.VmcF Go.Proofs.Ytegnehdfedfphaa.PrtM
open Go.Proofs.Ytegnehdfedfphaa.ImgA (Im)
open Go.Proofs.Ytegnehdfedfphaa.ImgB (right)
open Go.Proofs.Ytegnehdfedfphaa.TabA (Tri)
open Go.Proofs.Ytegnehdfedfphaa.BitM (hb)

/-! ### what a step leaves alone -/
theorem take_tk (v : V) : (takeV v).tk = v.tk ∧ (takeV v).pc = v.pc := by unfold takeV; split; exact ⟨(need_h _ _ _).2.2.2.2, (need_h _ _ _).2.2.2.1⟩; exact ⟨rfl, rfl⟩
theorem lay_tk (n : Int) (v : V) : (lay n v).tk = v.tk ∧ (lay n v).pc = v.pc := by unfold lay; split; exact ⟨rfl, rfl⟩; exact ⟨(need_h _ _ _).2.2.2.2, (need_h _ _ _).2.2.2.1⟩
theorem need_tk (b : Bool) (e : Int) (v : V) : (need b e v).tk = v.tk ∧ (need b e v).pc = v.pc := ⟨(need_h _ _ _).2.2.2.2, (need_h _ _ _).2.2.2.1⟩
theorem deed_tk (i : Im) (o a : Int) (v : V) : (deed i o a v).tk = v.tk ∧ ((deed i o a v).pc = v.pc ∨ (deed i o a v).pc = a) := by
  unfold deed
  repeat' split
  · exact ⟨(lay_tk _ _).1, .inl (lay_tk _ _).2⟩
  · exact ⟨(take_tk _).1, .inl (take_tk _).2⟩
  · unfold dupl; exact ⟨by rw [(lay_tk _ _).1, (lay_tk _ _).1, (take_tk _).1], .inl (by rw [(lay_tk _ _).2, (lay_tk _ _).2, (take_tk _).2])⟩
  · unfold swp; exact ⟨by rw [(lay_tk _ _).1, (lay_tk _ _).1, (take_tk _).1, (take_tk _).1], .inl (by rw [(lay_tk _ _).2, (lay_tk _ _).2, (take_tk _).2, (take_tk _).2])⟩
  · unfold two; exact ⟨by rw [(lay_tk _ _).1, (take_tk _).1, (take_tk _).1], .inl (by rw [(lay_tk _ _).2, (take_tk _).2, (take_tk _).2])⟩
  · unfold loa; split
    · exact ⟨(lay_tk _ _).1, .inl (lay_tk _ _).2⟩
    · exact ⟨(need_tk _ _ _).1, .inl (need_tk _ _ _).2⟩
  · unfold stor; split
    · exact ⟨(take_tk _).1, .inl (take_tk _).2⟩
    · exact ⟨(need_tk _ _ _).1, .inl (need_tk _ _ _).2⟩
  · exact ⟨(need_tk _ _ _).1, .inr rfl⟩
  · unfold zer
    dsimp only
    split
    · exact ⟨by show (takeV _).tk = _; rw [(take_tk _).1, (need_tk _ _ _).1], .inr rfl⟩
    · exact ⟨by rw [(take_tk _).1, (need_tk _ _ _).1], .inl (by rw [(take_tk _).2, (need_tk _ _ _).2])⟩
  · exact ⟨(need_tk _ _ _).1, .inl (need_tk _ _ _).2⟩
  · exact ⟨(lay_tk _ _).1, .inl (lay_tk _ _).2⟩
  · exact ⟨rfl, .inl rfl⟩
theorem deedR_tk (i : Im) (C : List Tri) (o a : Int) (r : R) : (deedR i C o a r).v.tk = r.v.tk ∧ ((deedR i C o a r).v.pc = r.v.pc ∨ (deedR i C o a r).v.pc = a) ∧ (deedR i C o a r).sn.length ≤ r.sn.length + 1 := by
  unfold deedR
  split
  · exact ⟨rfl, .inl rfl, Nat.le_succ _⟩
  · split
    · unfold sndR
      dsimp only
      split
      · refine ⟨by rw [(need_tk _ _ _).1, (take_tk _).1, (need_tk _ _ _).1], .inl (by rw [(need_tk _ _ _).2, (take_tk _).2, (need_tk _ _ _).2]), ?_⟩
        dsimp only
        split
        · simp
        · exact Nat.le_succ _
      · exact ⟨by rw [(take_tk _).1, (need_tk _ _ _).1], .inl (by rw [(take_tk _).2, (need_tk _ _ _).2]), Nat.le_succ _⟩
    · split
      · unfold getR
        dsimp only
        split
        · refine ⟨?_, .inl ?_, Nat.le_succ _⟩
          · rw [(lay_tk _ _).1]
            split
            · rw [(lay_tk _ _).1, (need_tk _ _ _).1, (need_tk _ _ _).1, (need_tk _ _ _).1]
            · rw [(need_tk _ _ _).1, (need_tk _ _ _).1, (need_tk _ _ _).1]
          · rw [(lay_tk _ _).2]
            split
            · rw [(lay_tk _ _).2, (need_tk _ _ _).2, (need_tk _ _ _).2, (need_tk _ _ _).2]
            · rw [(need_tk _ _ _).2, (need_tk _ _ _).2, (need_tk _ _ _).2]
        · exact ⟨by rw [(need_tk _ _ _).1, (need_tk _ _ _).1], .inl (by rw [(need_tk _ _ _).2, (need_tk _ _ _).2]), Nat.le_succ _⟩
      · split
        · exact ⟨rfl, .inl rfl, Nat.le_succ _⟩
        · exact ⟨(deed_tk _ _ _ _).1, (deed_tk _ _ _ _).2, Nat.le_succ _⟩
theorem atI_b {xs : List Nat} {pc o a : Int} {n : Nat} (hx : ∀ u ∈ xs, u < 256) (h : atI xs pc = some (o, a, n)) : 0 ≤ o ∧ o ≤ 18 ∧ 0 ≤ a ∧ a ≤ 255 ∧ 0 ≤ pc ∧ pc + n ≤ xs.length := by
  have h1 := atI_bd h
  unfold atI at h
  split at h
  · cases h
  · have h2 := OpsN.at1_b (fun b hb => hx b (List.mem_of_mem_drop hb)) h
    have h3 := at1_n h
    rw [List.length_drop] at h3
    exact ⟨h1.1, h1.2.1, h1.2.2, by omega, by omega, by omega⟩
theorem stepV_keeps {i : Im} {C : List Tri} {r : R} (hx : ∀ u ∈ i.xs, u < 256) (hl : i.xs.length ≤ 96) (hp : 0 ≤ r.v.pc ∧ r.v.pc ≤ 1000) :
    (stepV i C r).v.tk = r.v.tk ∧ (0 ≤ (stepV i C r).v.pc ∧ (stepV i C r).v.pc ≤ 1000) ∧ (stepV i C r).sn.length ≤ r.sn.length + 1 ∧ ((stepV i C r).e = false → (stepV i C r).v.ft = 0) := by
  unfold stepV
  cases hat : atI i.xs r.v.pc with
  | none => exact ⟨rfl, hp, Nat.le_succ _, fun h => by cases h⟩
  | some q =>
    obtain ⟨o, a, n⟩ := q
    dsimp only
    have hb := atI_b hx hat
    obtain ⟨k1, k2, k3⟩ := deedR_tk i C o a { r with v := { r.v with pc := r.v.pc + n }, e := false }
    split
    · exact ⟨rfl, hp, k3, fun h => by cases h⟩
    · rename_i hq
      refine ⟨k1, ?_, k3, fun _ => Classical.byContradiction hq⟩
      rcases k2 with k2 | k2
      · rw [k2]
        show 0 ≤ r.v.pc + (n : Int) ∧ r.v.pc + (n : Int) ≤ 1000
        omega
      · rw [k2]
        omega

/-! ### a tick -/
def goV (i : Im) (C : List Tri) : Nat → R → R
  | 0, r => r
  | k + 1, r => if (stepV i C r).e = true then stepV i C r else goV i C k (stepV i C r)
def goT (i : Im) (C : List Tri) : Nat → T → T
  | 0, t => t
  | k + 1, t => if (stpT i C t).e = true then stpT i C t else goT i C k (stpT i C t)
def plusV (v : V) : V := { v with tk := v.tk + 1 }
def plusZ (z : Z) : Z := { z with tk := z.tk + 1 }
def tickV (i : Im) (C : List Tri) (v : V) (L : Nat → List Int) : R :=
  if v.ft ≠ 0 then ⟨v, L, [], false, false⟩ else { goV i C i.f.toNat ⟨v, L, [], false, false⟩ with v := plusV (goV i C i.f.toNat ⟨v, L, [], false, false⟩).v }
def tickT (i : Im) (C : List Tri) (z : Z) (L : Nat → List Int) : T :=
  if z.ft ≠ 0 then ⟨z, L, [], false, false⟩ else { goT i C i.f.toNat ⟨z, L, [], false, false⟩ with z := plusZ (goT i C i.f.toNat ⟨z, L, [], false, false⟩).z }
theorem goV_ok {i : Im} {C : List Tri} (hx : ∀ u ∈ i.xs, u < 256) (hl : i.xs.length ≤ 96) : ∀ (k : Nat) {r : R}, r.v.ok → 0 ≤ r.v.pc ∧ r.v.pc ≤ 1000 → (goV i C k r).v.ok ∧ (0 ≤ (goV i C k r).v.pc ∧ (goV i C k r).v.pc ≤ 1000) ∧ (goV i C k r).v.tk = r.v.tk
  | 0, _, h, hp => ⟨h, hp, rfl⟩
  | k + 1, r, h, hp => by
    obtain ⟨k1, k2, k3, k4⟩ := stepV_keeps (C := C) hx hl hp
    rw [goV]
    split
    · exact ⟨stepV_ok h, k2, k1⟩
    · obtain ⟨q1, q2, q3⟩ := goV_ok hx hl k (stepV_ok (C := C) (i := i) h) k2
      exact ⟨q1, q2, q3.trans k1⟩
theorem run_t {i : Im} {C : List Tri} (hx : ∀ u ∈ i.xs, u < 256) (hl : i.xs.length ≤ 96) (hm : 0 ≤ i.m) : ∀ (k : Nat) {r : R}, r.v.ok → 0 ≤ r.v.pc ∧ r.v.pc ≤ 1000 → r.v.ft = 0 → (goV i C k r).t i.m.toNat = goT i C k (r.t i.m.toNat)
  | 0, _, _, _, _ => rfl
  | k + 1, r, h, hp, hf => by
    have e1 := step_t (C := C) h hf hm
    obtain ⟨k1, k2, k3, k4⟩ := stepV_keeps (C := C) hx hl hp
    rw [goV, goT, ← e1]
    show _ = if (stepV i C r).e = true then _ else _
    split
    · rfl
    · rename_i he
      exact run_t hx hl hm k (stepV_ok h) k2 (k4 (by simpa using he))
theorem tick_t {i : Im} {C : List Tri} (hx : ∀ u ∈ i.xs, u < 256) (hl : i.xs.length ≤ 96) (hm : 0 ≤ i.m) {v : V} {L : Nat → List Int} (h : v.ok) (hp : 0 ≤ v.pc ∧ v.pc ≤ 1000) :
    (tickV i C v L).v.z i.m.toNat = (tickT i C (v.z i.m.toNat) L).z ∧ (tickV i C v L).L = (tickT i C (v.z i.m.toNat) L).L ∧ (tickV i C v L).sn = (tickT i C (v.z i.m.toNat) L).sn ∧ (tickV i C v L).cf = (tickT i C (v.z i.m.toNat) L).cf := by
  unfold tickV tickT
  rw [show (v.z i.m.toNat).ft = v.ft from rfl]
  by_cases hf : v.ft = 0
  · rw [if_neg (fun hh => hh hf), if_neg (fun hh => hh hf)]
    have e := run_t (C := C) hx hl hm i.f.toNat (r := ⟨v, L, [], false, false⟩) h hp hf
    rw [show (R.mk v L [] false false).t i.m.toNat = ⟨v.z i.m.toNat, L, [], false, false⟩ from rfl] at e
    rw [← e]
    exact ⟨rfl, rfl, rfl, rfl⟩
  · rw [if_pos hf, if_pos hf]
    exact ⟨rfl, rfl, rfl, rfl⟩
theorem tickV_ok {i : Im} {C : List Tri} (hx : ∀ u ∈ i.xs, u < 256) (hl : i.xs.length ≤ 96) {v : V} {L : Nat → List Int} (h : v.ok) (hp : 0 ≤ v.pc ∧ v.pc ≤ 1000) :
    (tickV i C v L).v.ok ∧ (0 ≤ (tickV i C v L).v.pc ∧ (tickV i C v L).v.pc ≤ 1000) ∧ ((tickV i C v L).v.tk = v.tk ∨ (tickV i C v L).v.tk = v.tk + 1) := by
  unfold tickV
  split
  · exact ⟨h, hp, .inl rfl⟩
  · obtain ⟨q1, q2, q3⟩ := goV_ok (C := C) hx hl i.f.toNat (r := ⟨v, L, [], false, false⟩) h hp
    refine ⟨q1.tk _, q2, .inr ?_⟩
    show (goV i C i.f.toNat ⟨v, L, [], false, false⟩).v.tk + 1 = _
    rw [q3]

/-! ### what is sent -/
def SnOk (i : Im) (p : Int × Int) : Prop := (0 ≤ p.1 ∧ p.1 ≤ 15 ∧ hb i.s p.1 = true) ∧ num p.2
theorem hb_bd {s k : Int} (h : hb s k = true) : 0 ≤ k ∧ k ≤ 15 := by
  unfold hb at h
  simp only [decide_eq_true_eq] at h
  omega
theorem sndR_sn {i : Im} {C : List Tri} {a : Int} {r : R} (h : r.v.ok) (hf : r.v.ft = 0) (hq : ∀ p ∈ r.sn, SnOk i p) : ∀ p ∈ (sndR i C a r).sn, SnOk i p := by
  unfold sndR
  dsimp only
  split
  · rename_i hu
    intro p hp
    dsimp only at hp
    split at hp
    · rw [List.mem_append, List.mem_singleton] at hp
      rcases hp with hp | rfl
      · exact hq p hp
      · have hh : hb i.s a = true := by
          cases hc : hb i.s a with
          | true => rfl
          | false =>
            rw [hc] at hu
            have e1 : (need false 15 r.v).ft = 15 := by rw [need_no hf]
            rw [take_keep (by rw [e1]; decide), e1] at hu
            exact absurd hu (by decide)
        exact ⟨⟨(hb_bd hh).1, (hb_bd hh).2, hh⟩, (h.need _ _).takeN⟩
    · exact hq p hp
  · exact hq
theorem stepV_sn {i : Im} {C : List Tri} {r : R} (h : r.v.ok) (hf : r.v.ft = 0) (hq : ∀ p ∈ r.sn, SnOk i p) : ∀ p ∈ (stepV i C r).sn, SnOk i p := by
  unfold stepV
  cases atI i.xs r.v.pc with
  | none => exact hq
  | some q =>
    obtain ⟨o, a, n⟩ := q
    dsimp only
    have key : ∀ p ∈ (deedR i C o a { r with v := { r.v with pc := r.v.pc + n }, e := false }).sn, SnOk i p := by
      unfold deedR
      split
      · exact hq
      · split
        · exact sndR_sn (h.pc _) hf hq
        · split
          · unfold getR
            dsimp only
            split
            · exact hq
            · exact hq
          · split
            · exact hq
            · exact hq
    split
    · exact key
    · exact key
theorem goV_sn {i : Im} {C : List Tri} (hx : ∀ u ∈ i.xs, u < 256) (hl : i.xs.length ≤ 96) : ∀ (k : Nat) {r : R}, r.v.ok → 0 ≤ r.v.pc ∧ r.v.pc ≤ 1000 → r.v.ft = 0 → (∀ p ∈ r.sn, SnOk i p) → (∀ p ∈ (goV i C k r).sn, SnOk i p) ∧ (goV i C k r).sn.length ≤ r.sn.length + k
  | 0, _, _, _, _, hq => ⟨hq, Nat.le_refl _⟩
  | k + 1, r, h, hp, hf, hq => by
    obtain ⟨k1, k2, k3, k4⟩ := stepV_keeps (C := C) hx hl hp
    have hs := stepV_sn (C := C) h hf hq
    rw [goV]
    split
    · exact ⟨hs, by omega⟩
    · rename_i he
      obtain ⟨q1, q2⟩ := goV_sn hx hl k (stepV_ok (C := C) (i := i) h) k2 (k4 (by simpa using he)) hs
      exact ⟨q1, by omega⟩
theorem tickV_sn {i : Im} {C : List Tri} (hx : ∀ u ∈ i.xs, u < 256) (hl : i.xs.length ≤ 96) {v : V} {L : Nat → List Int} (h : v.ok) (hp : 0 ≤ v.pc ∧ v.pc ≤ 1000) :
    (∀ p ∈ (tickV i C v L).sn, SnOk i p) ∧ (tickV i C v L).sn.length ≤ i.f.toNat := by
  unfold tickV
  by_cases hf : v.ft = 0
  · rw [if_neg (fun hh => hh hf)]
    have := goV_sn (C := C) hx hl i.f.toNat (r := ⟨v, L, [], false, false⟩) h hp hf (by simp)
    exact ⟨this.1, by have h2 := this.2; simpa using h2⟩
  · rw [if_pos hf]
    exact ⟨by simp, Nat.zero_le _⟩
end Go.Proofs.Ytegnehdfedfphaa.VmcN
namespace Go.Proofs.Ytegnehdfedfphaa.VmcL
open Go.RowKit Go.Proofs.Ytegnehdfedfphaa.Kit Go.Proofs.Ytegnehdfedfphaa.Byt Go.Proofs.Ytegnehdfedfphaa.Mem Go.Proofs.Ytegnehdfedfphaa.OpsM Go.Proofs.Ytegnehdfedfphaa.OpsA Go.Proofs.Ytegnehdfedfphaa.VmcM Go.Proofs.Ytegnehdfedfphaa.VmcA Go.Proofs.Ytegnehdfedfphaa.VmcE Go.Proofs.Ytegnehdfedfphaa.VmcF Go.Proofs.Ytegnehdfedfphaa.VmcG Go.Proofs.Ytegnehdfedfphaa.VmcI Go.Proofs.Ytegnehdfedfphaa.VmcJ Go.Proofs.Ytegnehdfedfphaa.VmcK Go.Proofs.Ytegnehdfedfphaa.VmcN Go.Proofs.Ytegnehdfedfphaa.PrtM Go.Proofs.Ytegnehdfedfphaa.PrtA Go.Proofs.Ytegnehdfedfphaa.PrtD Go.Proofs.Ytegnehdfedfphaa.PrtE
open Go.Proofs.Ytegnehdfedfphaa.ImgA (Im)
open Go.Proofs.Ytegnehdfedfphaa.ImgB (right)
open Go.Proofs.Ytegnehdfedfphaa.TabA (Tri)
open Go.Proofs.Ytegnehdfedfphaa.BitA (i64s)
open Go.Proofs.Ytegnehdfedfphaa.BitM (hb)
open Go.Proofs.Ytegnehdfedfphaa.TabE (ret_row)

section
variable {B S n c M ob n1 c1 : Nat} {w : World} {ρ : Nat → Lab} {A A1 : Option Addr} {Q : Nat → Nat} {C : List Tri} {L : Nat → List Int} {i : Im} {v : V} {sn : List (Int × Int)} {cf : Bool}
theorem right_n (hi : right i) : 0 < i.n := by have := hi.2.2.2.2.2.2.2; omega
theorem right_l (h : i.ok w) (hi : right i) : i.xs.length ≤ 96 := by have := hi.2.2.2.2.2.2.2; have := h.len; omega
/-- One step, whatever stands there. -/
theorem step_any (h : Mw B w ρ M i S A n c Q C v L) (ho : Ob B w ρ ob A1 n1 c1 sn cf) (hf : v.ft = 0) (hi : right i) (hp : 0 ≤ v.pc ∧ v.pc ≤ 1000) (hsn : sn.length ≤ 100000) (e0 : Bool) :
    Calls Try.prog 29 #[.pointer (some ⟨M, 0, none⟩), pv S, .pointer (some ⟨ob, 0, none⟩)] w (Steps' B w ρ M i ob S A n c Q C (stepV i C ⟨v, L, sn, cf, e0⟩)) := by
  cases hat : atI i.xs v.pc with
  | none =>
    have e : stepV i C ⟨v, L, sn, cf, e0⟩ = ⟨{ v with ft := 19 }, L, sn, cf, true⟩ := by unfold stepV; dsimp only; rw [hat]
    rw [e]
    exact step_none h ho (right_n hi) ⟨by omega, by omega⟩ hat
  | some q =>
    obtain ⟨o, a, k⟩ := q
    obtain ⟨b1, b2, b3, b4, b5, b6⟩ := atI_b h.code.byt hat
    obtain ⟨o', rfl⟩ : ∃ o' : Nat, o = o' := ⟨o.toNat, by omega⟩
    obtain ⟨a', rfl⟩ : ∃ a' : Nat, a = a' := ⟨a.toNat, by omega⟩
    have e : stepV i C ⟨v, L, sn, cf, e0⟩ = (if (deedR i C o' a' ⟨{ v with pc := v.pc + k }, L, sn, cf, false⟩).v.ft ≠ 0 then { deedR i C o' a' ⟨{ v with pc := v.pc + k }, L, sn, cf, false⟩ with v := { v with ft := (deedR i C o' a' ⟨{ v with pc := v.pc + k }, L, sn, cf, false⟩).v.ft }, e := true } else deedR i C o' a' ⟨{ v with pc := v.pc + k }, L, sn, cf, false⟩) := by unfold stepV; dsimp only; rw [hat]
    rw [e]
    exact step_some h ho hf hi ⟨by omega, by omega⟩ hsn hat (by omega) (by omega) rfl
/-- What a tick leaves. -/
def Tks (B : Nat) (w : World) (ρ : Nat → Lab) (M : Nat) (i : Im) (S : Nat) (A : Option Addr) (n c : Nat) (Q : Nat → Nat) (C : List Tri) (r : R) (e : Ending) (w' : World) : Prop :=
  ∃ A2 n2 c2 ρ', e = .returned (.agg #[.slice A2 n2 c2, .bool r.cf]) ∧ Prs w' A2 n2 c2 r.sn ∧ (∀ b o, A2 = some ⟨b, o, none⟩ → ρ' b = .own 3) ∧ Mw B w' ρ' M i S A n c Q C r.v r.L ∧ Stp Vm0 w ρ w' ρ'
theorem size_out : (Try.prog.info? 51).map (·.size) = some 2 := by kernel_rfl
theorem mw_below {w' : World} (h : Mw B w ρ M i S A n c Q C v L) (hb : Below w.heap.size w w') : Mw B w' ρ M i S A n c Q C v L := ⟨h.chs.below hb, h.blk.below hb, h.lm, h.ok, h.code.below hb, h.lc⟩
set_option maxRecDepth 100000 in
theorem tick_stands (h : Mw B w ρ M i S A n c Q C v L) (hf : v.ft ≠ 0) : Calls Try.prog 13 #[.pointer (some ⟨M, 0, none⟩), pv S] w (Tks B w ρ M i S A n c Q C ⟨v, L, [], false, false⟩) := by
  have hMl := h.blk.lt
  have c35 := h.blk.cell (i := 35) ((mc_st i v 27).trans (sc_ft h.ok))
  obtain ⟨y, hy⟩ : ∃ y, y = v.ft := ⟨_, rfl⟩
  rw [← hy] at c35 hf
  have H := Lib.hid h
  have hb : Below w.heap.size w (w.alloc (.cells #[.slice none 0 0, .bool false] 51)) := (Below.refl _ _).alloc (Nat.le_refl _) _
  have HB := Lib.hid hb
  clear h hb hy
  go_enter Try.func13, Try.ntmps13
  go_wp2_with fail
  refine ret_row (g := w.heap.size) (cs := #[.slice none 0 0, .bool false]) Try.results13 rfl rfl (Blk.new w 51 [.slice none 0 0, .bool false]) Try.underlying51 rfl size_out ?_
  exact ⟨none, 0, 0, ρ, rfl, Prs.nil _, (fun b o h => by cases h), mw_below H.out HB.out, Stp.of_below H.out.chs.bd HB.out⟩
/-- The box of what is told, made anew. -/
theorem out_new (h : Mw B w ρ M i S A n c Q C v L) {wb : World} {gb : Nat} (hb : Below w.heap.size w wb) (hB : Blk wb gb 51 [.slice none 0 0, .bool false]) (hg : w.heap.size ≤ gb) :
    ∃ ρ', Mw B wb ρ' M i S A n c Q C v L ∧ Ob B wb ρ' gb none 0 0 [] false ∧ Stp Vm0 w ρ wb ρ' ∧ (∀ k, w.heap.size ≤ k → k ≠ gb → ρ' k = .out) := by
  have hs : Stp (fun l => l = .own 2) w ρ wb (fun k => if k = gb then .own 2 else ρ k) := ⟨Keep.of_below hb, fun k hk => if_neg (by omega), fun k hk => by
    by_cases he : k = gb
    · rw [if_pos he]; exact .inr ⟨rfl, by rw [he]; exact hB.lt⟩
    · rw [if_neg he]; exact .inl (Chs.newOut h.chs hk)⟩
  have hs0 : Stp Vm0 w ρ wb (fun k => if k = gb then .own 2 else ρ k) := hs.mono fun l hl => .inl (.inr (.inl hl))
  have hc := h.chs.carry hs (fun e => by cases e) (fun e => by cases e) (fun k e => by cases e) (fun k e => by cases e)
  have hgo : ρ gb = .out := Chs.newOut h.chs hg
  refine ⟨_, ⟨hc, h.blk.below hb, by rw [hs.old M h.blk.lt]; exact h.lm, h.ok, h.code.below hb, fun b o hA hn => ?_⟩, ⟨hB, if_pos rfl, World.ownsRow_nil wb B _ 2, (fun g hg => by cases hg)⟩, hs0, fun k hk hne => (if_neg hne).trans (Chs.newOut h.chs hk)⟩
  obtain ⟨b', o', hA', hlt, _⟩ := h.code.code.2.2.2 hn
  rw [hA'] at hA
  injection hA with hA
  injection hA with hA
  exact (if_neg (by omega)).trans (hA ▸ h.lc b' o' hA' hn)
/-- The ticks are counted, and what is told is laid where it is handed back. -/
theorem tick_end {W : World} {ρk : Nat → Lab} {rb : Nat} {x0 x1 : Value} {u : V} {L' : Nat → List Int} (h0 : Mw B w ρ M i S A n c Q C v L) (h : Mw B W ρk M i S A n c Q C u L') (ho : Ob B W ρk ob A1 n1 c1 sn cf) (hs : Stp Vm0 w ρ W ρk) (hn : 0 < i.n) (hr : Blk W rb 51 [x0, x1]) (hrl : ρk rb = .out) (hwr : w.heap.size ≤ rb) (hsn : ∀ p ∈ sn, SnOk i p)
    {W3 : World} (hW3 : W3 = ((W.setCell ⟨M, 34, none⟩ (.int .i64 (u.tk + 1))).setCell ⟨rb, 0, none⟩ (.slice A1 n1 c1)).setCell ⟨rb, 1, none⟩ (.bool cf)) :
    Blk W3 rb 51 [.slice A1 n1 c1, .bool cf] ∧ Tks B w ρ M i S A n c Q C ⟨plusV u, L', sn, cf, false⟩ (.returned (.agg #[.slice A1 n1 c1, .bool cf])) W3 := by
  obtain ⟨k1, k2, k3⟩ := Mw.put h ho hn (Below.refl _ W) (k := 26) (set_tk h.ok (u.tk + 1)) (h.ok.tk _)
  have hne : rb ≠ M := fun e => by have := h.lm; rw [← e, hrl] at this; cases this
  have hne2 : rb ≠ ob := fun e => by have := ho.lo; rw [← e, hrl] at this; cases this
  have hr1 : Blk (W.setCell ⟨M, 34, none⟩ (.int .i64 (u.tk + 1))) rb 51 [x0, x1] := hr.far hne _
  have hk : Keep (fun j => j = rb) (W.setCell ⟨M, 8 + 26, none⟩ (.int .i64 (u.tk + 1))) W3 := by
    rw [hW3]
    exact (Keep.set (F := fun j => j = rb) _ 0 _ rfl).trans (Keep.set (F := fun j => j = rb) _ 1 _ rfl) fun _ h => .inl h
  have hB3 : Blk W3 rb 51 [.slice A1 n1 c1, .bool cf] := by
    rw [hW3]
    exact (hr1.set 0 (.slice A1 n1 c1)).set 1 (.bool cf)
  have hK : Keep (fun j => ρk j = .out) (W.setCell ⟨M, 8 + 26, none⟩ (.int .i64 (u.tk + 1))) W3 := hk.mono fun j _ hj => hj ▸ hrl
  have hown : W3.ownsRow B 78 2 (.slice A1 n1 c1) n1 (sn.flatMap OpsN.pcs) := hk.own k2.own fun g hg he => by have := k2.row g hg; rw [he, hrl] at this; cases this
  have hs3 : Stp Vm0 w ρ W3 ρk := Stp.fresh (hs.trans k3) (hk.mono fun j _ hj => hj ▸ hwr)
  have hcode : i.ok W3 := ⟨hk.rd k1.code.code fun hn b o hA he => by
    obtain ⟨b', o', hA', hlt, _⟩ := h0.code.code.2.2.2 hn
    rw [hA'] at hA
    injection hA with hA
    injection hA with hA
    omega, k1.code.byt⟩
  exact ⟨hB3, A1, n1, c1, ρk, rfl, OpsN.Prs.own hown (fun p hp => by
    obtain ⟨⟨q1, q2, _⟩, q3, q4⟩ := hsn p hp
    exact ⟨⟨by omega, by omega⟩, ⟨by omega, by omega⟩⟩), fun b o hA => k2.row b (by rw [hA]; rfl), ⟨Chs.others k1.chs hK, hk.blk k1.blk (fun e => hne e.symm), k1.lm, k1.ok, hcode, k1.lc⟩, hs3⟩
set_option maxRecDepth 100000 in
set_option maxHeartbeats 1600000 in
theorem tick_goes (h : Mw B w ρ M i S A n c Q C v L) (hf : v.ft = 0) (hi : right i) (hp : 0 ≤ v.pc ∧ v.pc ≤ 1000) (ht : 0 ≤ v.tk ∧ v.tk ≤ 1000000) {G : R} (hG : G = tickV i C v L) : Calls Try.prog 13 #[.pointer (some ⟨M, 0, none⟩), pv S] w (Tks B w ρ M i S A n c Q C G) := by
  have hMl := h.blk.lt
  have hx := h.code.byt
  have hl := right_l h.code hi
  obtain ⟨wa, hwa⟩ : ∃ wa, wa = w.alloc (.cells #[.slice none 0 0, .bool false] 51) := ⟨_, rfl⟩
  obtain ⟨wb, hwb⟩ : ∃ wb, wb = wa.alloc (.cells #[.slice none 0 0, .bool false] 51) := ⟨_, rfl⟩
  have hsa : wa.heap.size = w.heap.size + 1 := by rw [hwa]; exact World.size_alloc _ _
  have hbb : Below w.heap.size w wb := by rw [hwb, hwa]; exact ((Below.refl _ _).alloc (Nat.le_refl _) _).alloc (by simp) _
  have hR : Blk wb w.heap.size 51 [.slice none 0 0, .bool false] := by rw [hwb, hwa]; exact (Blk.new w _ _).alloc _
  have hO : Blk wb (w.heap.size + 1) 51 [.slice none 0 0, .bool false] := by rw [hwb, ← hsa]; exact Blk.new wa _ _
  obtain ⟨ρ1, k1, k2, k3, k4⟩ := out_new h hbb hO (by omega)
  have c35 := h.blk.cell (i := 35) ((mc_st i v 27).trans (sc_ft h.ok))
  have c4 : w.cell? ⟨M, 4, none⟩ = some (.int .i64 i.f) := h.blk.cell (i := 4) rfl
  rw [hf] at c35
  obtain ⟨F, hF⟩ : ∃ F : Nat, i.f = F := ⟨i.f.toNat, by have := hi.2.2.2.2.1; omega⟩
  have hF32 : F ≤ 32 := by have := hi.2.2.2.2.1; omega
  rw [hF] at c4
  have hFn : i.f.toNat = F := by omega
  have hgv : G = { goV i C F ⟨v, L, [], false, false⟩ with v := plusV (goV i C F ⟨v, L, [], false, false⟩).v } := by rw [hG]; unfold tickV; rw [if_neg (fun hh => hh hf), hFn]
  have HG := Lib.hid hgv
  have HSN := Lib.hid (show (∀ p ∈ G.sn, SnOk i p) from by rw [hG]; exact (tickV_sn hx hl h.ok hp).1)
  have HTK := Lib.hid (show (goV i C F ⟨v, L, [], false, false⟩).v.tk = v.tk from (goV_ok hx hl F (r := ⟨v, L, [], false, false⟩) h.ok hp).2.2)
  have HT := Lib.hid ht
  have HI := Lib.hid hi
  have HX := Lib.hid hx
  have HL := Lib.hid hl
  have K1 := Lib.hid k1
  have K2 := Lib.hid k2
  have K3 := Lib.hid k3
  have HRB := Lib.hid (show Blk wb w.heap.size 51 [.slice none 0 0, .bool false] ∧ ρ1 w.heap.size = .out from ⟨hR, k4 _ (Nat.le_refl _) (by omega)⟩)
  have H0 := Lib.hid (show (R.mk v L [] false false).v.ft = 0 ∧ (0 ≤ v.pc ∧ v.pc ≤ 1000) from ⟨hf, hp⟩)
  have HBB := Lib.hid hbb
  have H := Lib.hid h
  have HNN := Lib.hid (right_n hi)
  clear h hf hi hp ht hG hx hl hsa hbb hR hO k1 k2 k3 k4 hF hFn hgv
  go_enter Try.func13, Try.ntmps13
  go_wp2_with fail
  rw [← hwa, ← hwb]
  clear hwa hwb
  go_loopw [23] (fun z wr => ∃ (k : Nat) (ρk : Nat → Lab) (A1 : Option Addr) (n1 c1 : Nat) (r : R), k ≤ F ∧ z = .int .i64 k ∧ Hid (Mw B wr ρk M i S A n c Q C r.v r.L) ∧ Hid (Ob B wr ρk (w.heap.size + 1) A1 n1 c1 r.sn r.cf) ∧ Hid (Stp Vm0 wb ρ1 wr ρk) ∧ Hid (r.v.ft = 0 ∧ (0 ≤ r.v.pc ∧ r.v.pc ≤ 1000) ∧ r.sn.length ≤ k ∧ goV i C (F - k) r = goV i C F ⟨v, L, [], false, false⟩)) (fun z _ => F - (intOf z).toNat)
  case atStart => exact ⟨0, ρ1, none, 0, 0, ⟨v, L, [], false, false⟩, Nat.zero_le _, rfl, K1, K2, Lib.hid (Stp.refl _ K1.out.chs.bd), Lib.hid ⟨H0.out.1, H0.out.2, Nat.le_refl _, rfl⟩⟩
  case round =>
    obtain ⟨k, ρk, A1, n1, c1, r, hk, rfl, HM, HO, HS, HI2⟩ := hrel
    by_cases hlt : k < F
    · have HST := Lib.hid (step_any HM.out HO.out HI2.out.1 HI.out HI2.out.2.1 (by have := HI2.out.2.2.1; omega) r.e)
      have HKP := Lib.hid (stepV_keeps (C := C) HX.out HL.out HI2.out.2.1)
      obtain ⟨s, hs⟩ : ∃ s, s = stepV i C r := ⟨_, rfl⟩
      have HGO := Lib.hid (show goV i C (F - k) r = if s.e = true then s else goV i C (F - (k + 1)) s from by rw [show F - k = (F - (k + 1)) + 1 by omega, goV, ← hs])
      rw [← hs] at HKP
      have HST : Hid (Calls Try.prog 29 #[.pointer (some ⟨M, 0, none⟩), pv S, .pointer (some ⟨w.heap.size + 1, 0, none⟩)] wr (Steps' B wr ρk M i (w.heap.size + 1) S A n c Q C s)) := by rw [hs]; exact HST
      clear hs
      go_wp2_with fail
      refine HST.out.mono ?_
      rintro e wq ⟨rfl, ρq, A2, n2, c2, q1, q2, q3⟩
      have HM2 := Lib.hid q1
      have HO2 := Lib.hid q2
      have HS2 := Lib.hid (HS.out.trans q3)
      clear q1 q2 q3
      cases hse : s.e
      · have HGO := Lib.hid (show goV i C (F - k) r = goV i C (F - (k + 1)) s from HGO.out.trans (if_neg (by rw [hse]; simp)))
        have HFT := Lib.hid (HKP.out.2.2.2 hse)
        clear hse
        go_wp2_with fail
        go_roundw
        case rel => exact ⟨k + 1, ρq, A2, n2, c2, s, by omega, by go_num, HM2, HO2, HS2, Lib.hid ⟨HFT.out, HKP.out.2.1, by have := HKP.out.2.2.1; have := HI2.out.2.2.1; omega, HGO.out.symm.trans HI2.out.2.2.2⟩⟩
        case measure => simp [intOf]; omega
      · have HFIN := Lib.hid (show s = goV i C F ⟨v, L, [], false, false⟩ from ((HGO.out.trans (if_pos hse)).symm).trans HI2.out.2.2.2)
        clear hse HM HO HS HST HGO HI2
        obtain ⟨r, hr⟩ : ∃ r, r = s := ⟨_, rfl⟩
        rw [← hr] at HM2 HO2 HFIN HKP
        clear hr
        have HM := HM2
        have HO := HO2
        have HS := HS2
        have HTKr := Lib.hid (show r.v.tk = v.tk from by rw [HFIN.out]; exact HTK.out)
        have HSr := Lib.hid (show ∀ p ∈ r.sn, SnOk i p from by have q := HSN.out; rw [HG.out, ← HFIN.out] at q; exact q)
        obtain ⟨WW, rfl⟩ : ∃ WW : World, WW = wq := ⟨_, rfl⟩
        obtain ⟨ρk, rfl⟩ : ∃ ρk, ρk = ρq := ⟨_, rfl⟩
        obtain ⟨A1, rfl⟩ : ∃ A1, A1 = A2 := ⟨_, rfl⟩
        obtain ⟨n1, rfl⟩ : ∃ n1, n1 = n2 := ⟨_, rfl⟩
        obtain ⟨c1, rfl⟩ : ∃ c1, c1 = c2 := ⟨_, rfl⟩
        have c34 := HM.out.blk.cell (i := 34) ((mc_st _ _ 26).trans (sc_tk HM.out.ok))
        have z34 := HM.out.blk.frozen 34
        have o0 := HO.out.blk.cell (i := 0) rfl
        have o1 := HO.out.blk.cell (i := 1) rfl
        have HRW := Lib.hid (show Blk WW w.heap.size 51 [.slice none 0 0, .bool false] ∧ ρk w.heap.size = .out from ⟨HS.out.keep.blk HRB.out.1 (by rw [HRB.out.2]; exact out_vm0), by rw [HS.out.old _ HRB.out.1.lt]; exact HRB.out.2⟩)
        have r0 := HRW.out.1.cell (i := 0) rfl
        have r1 := HRW.out.1.cell (i := 1) rfl
        have z0 := HRW.out.1.frozen 0
        have z1 := HRW.out.1.frozen 1
        obtain ⟨y, hy⟩ : ∃ y, y = r.v.tk := ⟨_, rfl⟩
        rw [← hy] at c34
        have hy1 : 0 ≤ y := by rw [hy, HTKr.out]; exact HT.out.1
        have hy2 : y ≤ 1000000 := by rw [hy, HTKr.out]; exact HT.out.2
        have HY := Lib.hid hy
        obtain ⟨cfv, hcf⟩ : ∃ cfv, cfv = r.cf := ⟨_, rfl⟩
        rw [← hcf] at o1
        have HCF := Lib.hid hcf
        clear hy hcf
        go_wp2_with fail
        have hE := tick_end (rb := w.heap.size) H.out HM.out HO.out (K3.out.trans HS.out) HNN.out HRW.out.1 HRW.out.2 (Nat.le_refl _) HSr.out (W3 := ((WW.setCell ⟨M, 34, none⟩ (.int .i64 (r.v.tk + 1))).setCell ⟨w.heap.size, 0, none⟩ (.slice A1 n1 c1)).setCell ⟨w.heap.size, 1, none⟩ (.bool r.cf)) rfl
        rw [← HY.out, ← HCF.out] at hE
        have HE := Lib.hid hE
        clear hE
        refine ret_row (g := w.heap.size) (cs := #[.slice A1 n1 c1, .bool cfv]) Try.results13 rfl rfl HE.out.1 Try.underlying51 rfl size_out ?_
        rw [HG.out, ← HFIN.out]
        have q := HE.out.2
        rw [HCF.out] at q ⊢
        exact q
    · obtain rfl : k = F := by omega
      have HFIN := Lib.hid (show r = goV i C k ⟨v, L, [], false, false⟩ from by have q := HI2.out.2.2.2; rw [Nat.sub_self] at q; exact q)
      have HTKr := Lib.hid (show r.v.tk = v.tk from by rw [HFIN.out]; exact HTK.out)
      have HSr := Lib.hid (show ∀ p ∈ r.sn, SnOk i p from by have q := HSN.out; rw [HG.out, ← HFIN.out] at q; exact q)
      obtain ⟨WW, rfl⟩ : ∃ WW : World, WW = wr := ⟨_, rfl⟩
      have c34 := HM.out.blk.cell (i := 34) ((mc_st _ _ 26).trans (sc_tk HM.out.ok))
      have z34 := HM.out.blk.frozen 34
      have o0 := HO.out.blk.cell (i := 0) rfl
      have o1 := HO.out.blk.cell (i := 1) rfl
      have HRW := Lib.hid (show Blk WW w.heap.size 51 [.slice none 0 0, .bool false] ∧ ρk w.heap.size = .out from ⟨HS.out.keep.blk HRB.out.1 (by rw [HRB.out.2]; exact out_vm0), by rw [HS.out.old _ HRB.out.1.lt]; exact HRB.out.2⟩)
      have r0 := HRW.out.1.cell (i := 0) rfl
      have r1 := HRW.out.1.cell (i := 1) rfl
      have z0 := HRW.out.1.frozen 0
      have z1 := HRW.out.1.frozen 1
      obtain ⟨y, hy⟩ : ∃ y, y = r.v.tk := ⟨_, rfl⟩
      rw [← hy] at c34
      have hy1 : 0 ≤ y := by rw [hy, HTKr.out]; exact HT.out.1
      have hy2 : y ≤ 1000000 := by rw [hy, HTKr.out]; exact HT.out.2
      have HY := Lib.hid hy
      obtain ⟨cfv, hcf⟩ : ∃ cfv, cfv = r.cf := ⟨_, rfl⟩
      rw [← hcf] at o1
      have HCF := Lib.hid hcf
      clear hy hcf
      go_wp2_with fail
      have hE := tick_end (rb := w.heap.size) H.out HM.out HO.out (K3.out.trans HS.out) HNN.out HRW.out.1 HRW.out.2 (Nat.le_refl _) HSr.out (W3 := ((WW.setCell ⟨M, 34, none⟩ (.int .i64 (r.v.tk + 1))).setCell ⟨w.heap.size, 0, none⟩ (.slice A1 n1 c1)).setCell ⟨w.heap.size, 1, none⟩ (.bool r.cf)) rfl
      rw [← HY.out, ← HCF.out] at hE
      have HE := Lib.hid hE
      clear hE
      refine ret_row (g := w.heap.size) (cs := #[.slice A1 n1 c1, .bool cfv]) Try.results13 rfl rfl HE.out.1 Try.underlying51 rfl size_out ?_
      rw [HG.out, ← HFIN.out]
      have q := HE.out.2
      rw [HCF.out] at q ⊢
      exact q
end
end Go.Proofs.Ytegnehdfedfphaa.VmcL
namespace Go.Proofs.Ytegnehdfedfphaa.VmcP
open Go.RowKit Go.Proofs.Ytegnehdfedfphaa.Kit Go.Proofs.Ytegnehdfedfphaa.Byt Go.Proofs.Ytegnehdfedfphaa.Mem Go.Proofs.Ytegnehdfedfphaa.VmcM Go.Proofs.Ytegnehdfedfphaa.VmcA Go.Proofs.Ytegnehdfedfphaa.VmcJ Go.Proofs.Ytegnehdfedfphaa.PrtA
open Go.Proofs.Ytegnehdfedfphaa.ImgA (Im)
open Go.Proofs.Ytegnehdfedfphaa.ImgB (right)
open Go.Proofs.Ytegnehdfedfphaa.TabA (Tri)
open Go.Proofs.Ytegnehdfedfphaa.BitA (i64s)
open Go.Proofs.Ytegnehdfedfphaa.TabE (ret_row)
open Go.Proofs.Ytegnehdfedfphaa.TabI (info_of)

theorem info_u8 : (Try.prog.info? 5).map (fun i => (i.zero, i.size, i.bytes)) = some (some (.int .u8 0), 1, 1) := by kernel_rfl
set_option maxRecDepth 100000 in
set_option maxHeartbeats 400000 in
theorem bclone_any (A : Option Addr) (n c : Nat) (xs : List Nat) (w : World) (hR : Rd w A n c (u8n xs)) (hn : 0 < n) (hl : n ≤ 100000) :
    Calls Try.prog 38 #[.slice A n c] w fun e w' => ∃ A2 n2 c2, e = .returned (.slice A2 n2 c2) ∧ w'.ownsRow w.heap.size 5 1 (.slice A2 n2 c2) n2 (u8n xs) ∧ Below w.heap.size w w' := by
  obtain ⟨i0, hi0, hz0, hz1, hz2⟩ := info_of info_u8
  obtain ⟨b, o, hA⟩ : ∃ b o, A = some ⟨b, o, none⟩ := by
    obtain ⟨b, o, hA, _⟩ := hR.at_ hn
    exact ⟨b, o, hA⟩
  have HR := Lib.hid hR
  clear hR
  subst hA
  have hnil := fun (W : World) => Lib.run_eql_slice_nil (P := Try.prog) W 27 5 (some ⟨b, o, none⟩) n c 0 0 Try.underlying27
  go_enter Try.func38, Try.ntmps38
  go_wp2_with (at_builtin; refine wpList_add _ rfl (.tmp 5) (.tmp 6) _ rfl w.heap.size 5 i0 _ 1 Try.underlying27 hi0 hz0 hz1 hz2 rfl _ 0 [] rfl (emptied w _) (some ⟨b, o, none⟩) n c (u8n xs) rfl (HR.out.alloc _) (u8n_one _) (by omega) (by omega) (size_alloc _ _) ?_; intro A2 n2 c2 w2 hn2 hown2 hg2 hat2; have hb2 := below_add ((Below.refl w.heap.size w).alloc (Nat.le_refl _) _) (emptied w _) (Nat.le_refl _) hg2)
  go_ret
  have h3 : w2.ownsRow w.heap.size 5 1 (.slice A2 n2 c2) n2 (u8n xs) := by simpa using hown2
  exact ⟨A2, n2, c2, rfl, h3, hb2⟩
theorem own_low {base low n : Nat} {e : TypeId} {v : Value} {xs : List Value} {w : World} (h : w.ownsRow base e 1 v n xs) (hb : low ≤ base) : w.ownsRow low e 1 v n xs := by
  refine ⟨h.1, ?_⟩
  rcases h.2 with h1 | ⟨g, cap, cur, h1, h2, h3⟩
  · exact .inl h1
  · exact .inr ⟨g, cap, cur, h1, by omega, h3⟩
/-- An image like i, whose code is memory of its own. -/
def Cop (w : World) (i j : Im) (w' : World) : Prop := (j.p = i.p ∧ j.v = i.v ∧ j.h = i.h ∧ j.m = i.m ∧ j.f = i.f ∧ j.s = i.s ∧ j.r = i.r ∧ j.n = i.n ∧ j.xs = i.xs) ∧ j.ok w' ∧ (∀ b o, j.A = some ⟨b, o, none⟩ → w.heap.size ≤ b) ∧ Below w.heap.size w w'
/-- The code is a row of its own. -/
def Copo (w : World) (i j : Im) (w' : World) : Prop := Cop w i j w' ∧ w'.ownsRow w.heap.size 5 1 (.slice j.A j.n j.c) j.n (u8n j.xs)
theorem size_im : (Try.prog.info? 29).map (·.size) = some 8 := by kernel_rfl
theorem im_one (i : Im) : ∀ u ∈ i.cells, u.oneCell' = true := by
  intro u hu
  unfold Im.cells at hu
  simp only [List.mem_cons, List.not_mem_nil, or_false] at hu
  rcases hu with rfl | rfl | rfl | rfl | rfl | rfl | rfl | rfl <;> rfl
set_option maxRecDepth 100000 in
set_option maxHeartbeats 800000 in
theorem copied_own (i : Im) (w : World) (h : i.ok w) (hn : 0 < i.n) (hl : i.n ≤ 100000) : Calls Try.prog 25 #[i.val] w fun e w' => ∃ j : Im, e = .returned j.val ∧ Copo w i j w' := by
  obtain ⟨p, v, hh, m, f, s, r, A, n, c, xs⟩ := i
  dsimp only at hn hl
  have HC := Lib.hid (fun w' (hb : Below w.heap.size w w') => bclone_any A n c xs w' (h.code.below hb) hn hl)
  have HB := Lib.hid h.byt
  have HL := Lib.hid (show xs.length = n from h.len)
  obtain ⟨wa, hwa⟩ : ∃ wa, wa = w.alloc (.cells #[.int .i64 p, .int .i64 v, .int .i64 hh, .int .i64 m, .int .i64 f, .int .i64 s, .int .i64 r, .slice A n c] 29) := ⟨_, rfl⟩
  obtain ⟨wb, hwb⟩ : ∃ wb, wb = wa.alloc (.cells #[.int .i64 0, .int .i64 0, .int .i64 0, .int .i64 0, .int .i64 0, .int .i64 0, .int .i64 0, .slice none 0 0] 29) := ⟨_, rfl⟩
  have hsa : wa.heap.size = w.heap.size + 1 := by rw [hwa]; exact World.size_alloc _ _
  have hbb : Below w.heap.size w wb := by rw [hwb, hwa]; exact ((Below.refl _ _).alloc (Nat.le_refl _) _).alloc (by simp) _
  have b1 : Blk wb w.heap.size 29 [.int .i64 p, .int .i64 v, .int .i64 hh, .int .i64 m, .int .i64 f, .int .i64 s, .int .i64 r, .slice A n c] := by rw [hwb, hwa]; exact (Blk.new w _ _).alloc _
  have b2 : Blk wb wa.heap.size 29 [.int .i64 0, .int .i64 0, .int .i64 0, .int .i64 0, .int .i64 0, .int .i64 0, .int .i64 0, .slice none 0 0] := by rw [hwb]; exact Blk.new wa _ _
  rw [hsa] at b2
  have HBB := Lib.hid hbb
  have B1 := Lib.hid b1
  have B2 := Lib.hid b2
  have x7 := b1.cell (i := 7) rfl
  have HSB := Lib.hid (show wb.heap.size = w.heap.size + 2 from by rw [hwb, World.size_alloc, hsa])
  clear h hsa hbb b1 b2
  go_enter Try.func25, Try.ntmps25
  go_wp2_with fail
  rw [← hwa, ← hwb]
  refine (HC.out _ HBB.out).mono ?_
  rintro e w2 ⟨A2, n2, c2, rfl, ho2, hb2⟩
  have hr2 := Rd.own ho2
  have hnew : ∀ b o, A2 = some ⟨b, o, none⟩ → wb.heap.size ≤ b := fun b o hA => (ho2.lt b (by rw [hA]; rfl)).1
  have HO2 := Lib.hid (show w2.ownsRow wb.heap.size 5 1 (.slice A2 n2 c2) n2 (u8n xs) from ho2)
  have h1 := B1.out.below hb2
  have h2 := B2.out.below hb2
  have HR2 := Lib.hid hr2
  have HN2 := Lib.hid hnew
  have HB2 := Lib.hid (HBB.out.trans (hb2.mono HBB.out.size))
  have x7 := h1.cell (i := 7) rfl
  have z7 := h1.frozen 7
  have H1 := Lib.hid (h1.set 7 (.slice A2 n2 c2))
  have H2 := Lib.hid (h2.far (p := ⟨w.heap.size, 7, none⟩) (by show w.heap.size + 1 ≠ w.heap.size; omega) (.slice A2 n2 c2))
  clear hr2 hnew hb2 h1 h2 hwa hwb B1 B2 HC HBB ho2
  go_wp2_with (first
    | (refine wpList_load_blk rfl 29 (.tmp 1) rfl w.heap.size rfl H1.out Try.underlying29 rfl size_im ?_)
    | (refine wpList_store_blk rfl 29 (.tmp 2) (.tmp 7) rfl (w.heap.size + 1) rfl (Im.cells ⟨p, v, hh, m, f, s, r, A2, n2, c2, xs⟩) rfl H2.out rfl size_im (VmcP.im_one _) ?_; intro w3 hB3 ho3))
  have hb3 : Below w.heap.size w w3 := ho3.out.below (HB2.out.setCell (Nat.le_refl _) _) (by omega) (by have := HB2.out.size; simpa [World.setCell] using this)
  have hn2 : n2 = n := by have h1 := HR2.out.1; have h2 := HL.out; simp [u8n] at h1; omega
  have hK : Keep (fun k => k = w.heap.size ∨ k = w.heap.size + 1) w2 w3 := (Keep.set (F := fun k => k = w.heap.size ∨ k = w.heap.size + 1) w2 7 (.slice A2 n2 c2) (Or.inl rfl)).trans (Keep.only (F := fun k => k = w.heap.size ∨ k = w.heap.size + 1) ho3.out (Or.inr rfl)) fun k hk => .inl hk
  have hr3 : Rd w3 A2 n2 c2 (u8n xs) := hK.rd HR2.out fun _ b o hA => by have h1 := HN2.out b o hA; have h2 := HSB.out; omega
  refine ret_row (g := w.heap.size + 1) (cs := (Im.cells ⟨p, v, hh, m, f, s, r, A2, n2, c2, xs⟩).toArray) Try.results25 rfl rfl hB3.out Try.underlying29 rfl size_im ?_
  exact ⟨⟨p, v, hh, m, f, s, r, A2, n2, c2, xs⟩, rfl, ⟨⟨rfl, rfl, rfl, rfl, rfl, rfl, rfl, hn2, rfl⟩, ⟨hr3, HB.out⟩, fun b o hA => by have h1 := HN2.out b o hA; have h2 := HSB.out; omega, hb3⟩, hK.own (own_low HO2.out (by have h2 := HSB.out; omega)) fun k hk => by have h1 := (HO2.out.lt k hk).1; have h2 := HSB.out; omega⟩
theorem copied_any (i : Im) (w : World) (h : i.ok w) (hn : 0 < i.n) (hl : i.n ≤ 100000) : Calls Try.prog 25 #[i.val] w fun e w' => ∃ j : Im, e = .returned j.val ∧ Cop w i j w' :=
  (copied_own i w h hn hl).mono fun _ _ ⟨j, h1, h2⟩ => ⟨j, h1, h2.1⟩
theorem built_machine (i : Im) : Try.prog.built 90 [(0, .agg i.cells.toArray)] = some (mc i ⟨0, [0, 0, 0, 0, 0, 0, 0, 0], 0, [0, 0, 0, 0, 0, 0, 0, 0, 0, 0, 0, 0, 0, 0, 0, 0], 0, 0⟩).toArray := by kernel_rfl
/-- The state of a machine that was just made. -/
def v0 : V := ⟨0, [0, 0, 0, 0, 0, 0, 0, 0], 0, [0, 0, 0, 0, 0, 0, 0, 0, 0, 0, 0, 0, 0, 0, 0, 0], 0, 0⟩
theorem v0_ok : v0.ok := ⟨rfl, rfl, by decide, by unfold v0; simp [num], by unfold v0; simp [num]⟩
theorem wpList_build_l {P : Program} {ops : Array Oper} {rest : List Oper} {o : Oper} {a : Act} {w : World} {Q : Exit → Act → World → Prop} (hg : o.guard = none) (t : TypeId) (parts : List (Nat × Operand)) (ho : o.op = .build t parts.toArray)
    (cells : List Value) (hc : P.built t (parts.map fun (i, x) => (i, a.eval x)) = some cells.toArray) (h : wpList P ops Q rest (a.put o.dst (.agg cells.toArray)) w) : wpList P ops Q (o :: rest) a w := by
  have hc' : P.built t (parts.toArray.map fun (i, x) => (i, a.eval x)).toList = some cells.toArray := by
    rw [← hc]
    simp
  exact wpList_build hg t parts.toArray ho (by rw [hc']; rfl) (by rw [hc']; exact h)
set_option maxRecDepth 100000 in
theorem new_bad (i : Im) (w : World) (h : i.ok w) (hn : i.n ≤ 9223372036854775807) (hr : ¬ right i) : Calls Try.prog 6 #[i.val] w fun e w' => e = .returned (.tuple #[.pointer none, .int .i64 3]) ∧ Below w.heap.size w w' := by
  have HR := Lib.hid (fun w' => ImgB.right_any i w' hn false ⟨(fun e => nomatch e), (fun e => absurd e hr)⟩)
  obtain ⟨p, v, hh, m, f, s, r, A, n, c, xs⟩ := i
  have HBX := Lib.hid (show Below w.heap.size w (w.alloc (.cells #[.int .i64 p, .int .i64 v, .int .i64 hh, .int .i64 m, .int .i64 f, .int .i64 s, .int .i64 r, .slice A n c] 29)) from (Below.refl _ _).alloc (Nat.le_refl _) _)
  clear h hn hr
  show Calls _ _ #[.agg #[.int .i64 p, .int .i64 v, .int .i64 hh, .int .i64 m, .int .i64 f, .int .i64 s, .int .i64 r, .slice A n c]] w _
  go_enter Try.func6, Try.ntmps6
  go_wp2_with fail
  refine (HR.out _).mono ?_
  rintro e w2 ⟨rfl, hb2⟩
  have HB2 := Lib.hid (HBX.out.trans (hb2.mono HBX.out.size))
  clear hb2
  go_wp2
  go_ret2
  exact ⟨rfl, HB2.out⟩
set_option maxRecDepth 100000 in
theorem new_yes (i : Im) (w : World) (h : i.ok w) (hr : right i) : Calls Try.prog 6 #[i.val] w fun e w' => ∃ M j, e = .returned (.tuple #[.pointer (some ⟨M, 0, none⟩), .int .i64 0]) ∧ Blk w' M 90 (mc j v0) ∧ w.heap.size ≤ M ∧ (∀ b o, j.A = some ⟨b, o, none⟩ → 0 < j.n → b ≠ M) ∧ Cop w i j w' := by
  have hn0 : i.n ≤ 96 ∧ 0 < i.n := by have := hr.2.2.2.2.2.2.2; omega
  have HR := Lib.hid (fun w' => ImgB.right_any i w' (by omega) true ⟨fun _ => hr, fun _ => rfl⟩)
  have HC := Lib.hid (fun w' (hb : Below w.heap.size w w') => copied_any i w' (h.below hb) hn0.2 (by omega))
  obtain ⟨p, v, hh, m, f, s, r, A, n, c, xs⟩ := i
  obtain ⟨wa, hwa⟩ : ∃ wa, wa = w.alloc (.cells #[.int .i64 p, .int .i64 v, .int .i64 hh, .int .i64 m, .int .i64 f, .int .i64 s, .int .i64 r, .slice A n c] 29) := ⟨_, rfl⟩
  have hba : Below w.heap.size w wa := by rw [hwa]; exact (Below.refl _ _).alloc (Nat.le_refl _) _
  have b1 : Blk wa w.heap.size 29 [.int .i64 p, .int .i64 v, .int .i64 hh, .int .i64 m, .int .i64 f, .int .i64 s, .int .i64 r, .slice A n c] := by rw [hwa]; exact Blk.new w _ _
  have HBA := Lib.hid hba
  have B1 := Lib.hid b1
  clear h hr hn0 hba b1
  show Calls _ _ #[.agg #[.int .i64 p, .int .i64 v, .int .i64 hh, .int .i64 m, .int .i64 f, .int .i64 s, .int .i64 r, .slice A n c]] w _
  go_enter Try.func6, Try.ntmps6
  go_wp2_with fail
  rw [← hwa]
  refine (HR.out _).mono ?_
  rintro e w2 ⟨rfl, hb2⟩
  have hB2 := B1.out.below hb2
  obtain ⟨x0, x1, x2, x3, x4, x5, x6, x7⟩ := (show w2.cell? ⟨w.heap.size, 0, none⟩ = some (.int .i64 p) ∧ w2.cell? ⟨w.heap.size, 1, none⟩ = some (.int .i64 v) ∧ w2.cell? ⟨w.heap.size, 2, none⟩ = some (.int .i64 hh) ∧ w2.cell? ⟨w.heap.size, 3, none⟩ = some (.int .i64 m) ∧ w2.cell? ⟨w.heap.size, 4, none⟩ = some (.int .i64 f) ∧ w2.cell? ⟨w.heap.size, 5, none⟩ = some (.int .i64 s) ∧ w2.cell? ⟨w.heap.size, 6, none⟩ = some (.int .i64 r) ∧ w2.cell? ⟨w.heap.size, 7, none⟩ = some (.slice A n c) from ⟨hB2.cell rfl, hB2.cell rfl, hB2.cell rfl, hB2.cell rfl, hB2.cell rfl, hB2.cell rfl, hB2.cell rfl, hB2.cell rfl⟩)
  have HB2 := Lib.hid (HBA.out.trans (hb2.mono HBA.out.size))
  clear hb2 hB2 hwa B1
  go_wp2_with fail
  refine (HC.out _ HB2.out).mono ?_
  rintro e w3 ⟨j, rfl, hj⟩
  have HJ := Lib.hid hj
  have HBM := Lib.hid (built_machine j)
  clear hj x0 x1 x2 x3 x4 x5 x6 x7
  obtain ⟨jp, jv, jh, jm, jf, js, jr, jA, jn, jc, jx⟩ := j
  go_wp2_with (refine wpList_build_l rfl 90 [(0, .tmp 8)] rfl (mc ⟨jp, jv, jh, jm, jf, js, jr, jA, jn, jc, jx⟩ v0) HBM.out ?_)
  go_ret2
  have hb4 : Below w.heap.size w (w3.alloc (.cells (mc ⟨jp, jv, jh, jm, jf, js, jr, jA, jn, jc, jx⟩ v0).toArray 90)) := (HB2.out.trans (HJ.out.2.2.2.mono HB2.out.size)).alloc (by have := HB2.out.size; have := HJ.out.2.2.2.size; omega) _
  exact ⟨w3.heap.size, ⟨jp, jv, jh, jm, jf, js, jr, jA, jn, jc, jx⟩, rfl, Blk.new w3 _ _, by have := HB2.out.size; have := HJ.out.2.2.2.size; omega, (fun b o hA hn => by
    obtain ⟨b', o', hA', hlt, _⟩ := HJ.out.2.1.code.2.2.2 hn
    rw [hA'] at hA
    injection hA with hA
    injection hA with hA
    omega), HJ.out.1, HJ.out.2.1.alloc _, fun b o hA => by have h1 := HJ.out.2.2.1 b o hA; have := HB2.out.size; omega, hb4⟩
/-- Image tells what the machine was made of, in memory of its own. -/
theorem image_own {M : Nat} {i : Im} {v : V} {w : World} (hB : Blk w M 90 (mc i v)) (h : i.ok w) (hn : 0 < i.n) (hl : i.n ≤ 100000) : Calls Try.prog 9 #[.pointer (some ⟨M, 0, none⟩)] w fun e w' => ∃ j : Im, e = .returned j.val ∧ Copo w i j w' := by
  have hMl := hB.lt
  have HC := Lib.hid (fun w' (hb : Below w.heap.size w w') => copied_own i w' (h.below hb) hn hl)
  obtain ⟨p, vv, hh, m, f, s, r, A, n, c, xs⟩ := i
  have x0 := hB.cell (i := 0) (v := .int .i64 p) rfl
  have x1 := hB.cell (i := 1) (v := .int .i64 vv) rfl
  have x2 := hB.cell (i := 2) (v := .int .i64 hh) rfl
  have x3 := hB.cell (i := 3) (v := .int .i64 m) rfl
  have x4 := hB.cell (i := 4) (v := .int .i64 f) rfl
  have x5 := hB.cell (i := 5) (v := .int .i64 s) rfl
  have x6 := hB.cell (i := 6) (v := .int .i64 r) rfl
  have x7 := hB.cell (i := 7) (v := .slice A n c) rfl
  obtain ⟨wa, hwa⟩ : ∃ wa, wa = w.alloc (.cells #[.int .i64 0, .int .i64 0, .int .i64 0, .int .i64 0, .int .i64 0, .int .i64 0, .int .i64 0, .slice none 0 0] 29) := ⟨_, rfl⟩
  have HBA := Lib.hid (show Below w.heap.size w wa from by rw [hwa]; exact (Below.refl _ _).alloc (Nat.le_refl _) _)
  have HZ := Lib.hid (show Blk wa w.heap.size 29 [.int .i64 0, .int .i64 0, .int .i64 0, .int .i64 0, .int .i64 0, .int .i64 0, .int .i64 0, .slice none 0 0] from by rw [hwa]; exact Blk.new w _ _)
  clear hB h hn hl
  go_enter Try.func9, Try.ntmps9
  go_wp2_with fail
  rw [← hwa]
  refine (HC.out _ HBA.out).mono ?_
  rintro e w3 ⟨j, rfl, hj⟩
  have HJ := Lib.hid hj
  have HZ3 := Lib.hid (HZ.out.below hj.1.2.2.2)
  clear hj hwa x0 x1 x2 x3 x4 x5 x6 x7
  go_wp2_with (refine wpList_store_blk rfl 29 (.tmp 2) (.tmp 10) rfl w.heap.size rfl (Im.cells j) rfl HZ3.out rfl size_im (im_one _) ?_; intro w4 hB4 ho4)
  refine ret_row (g := w.heap.size) (cs := (Im.cells j).toArray) Try.results9 rfl rfl hB4.out Try.underlying29 rfl size_im ?_
  have hs := HBA.out.size
  exact ⟨j, rfl, ⟨HJ.out.1.1, ⟨(Keep.only (F := fun k => k = w.heap.size) ho4.out rfl).rd HJ.out.1.2.1.code fun _ b o hA => by have h1 := HJ.out.1.2.2.1 b o hA; have h2 := HZ.out.lt; omega, HJ.out.1.2.1.byt⟩, fun b o hA => by have h1 := HJ.out.1.2.2.1 b o hA; omega, ho4.out.below (HBA.out.trans (HJ.out.1.2.2.2.mono hs)) (Nat.le_refl _) (by have := HJ.out.1.2.2.2.size; omega)⟩, (Keep.only (F := fun k => k = w.heap.size) ho4.out rfl).own (own_low HJ.out.2 hs) fun k hk => by have h1 := (HJ.out.2.lt k hk).1; have h2 := HZ.out.lt; omega⟩
theorem image_any {M : Nat} {i : Im} {v : V} {w : World} (hB : Blk w M 90 (mc i v)) (h : i.ok w) (hn : 0 < i.n) (hl : i.n ≤ 100000) : Calls Try.prog 9 #[.pointer (some ⟨M, 0, none⟩)] w fun e w' => ∃ j : Im, e = .returned j.val ∧ Cop w i j w' :=
  (image_own hB h hn hl).mono fun _ _ ⟨j, h1, h2⟩ => ⟨j, h1, h2.1⟩
end Go.Proofs.Ytegnehdfedfphaa.VmcP
namespace Go.Proofs.Ytegnehdfedfphaa.VmcS
open Go.RowKit Go.Proofs.Ytegnehdfedfphaa.Kit Go.Proofs.Ytegnehdfedfphaa.Byt Go.Proofs.Ytegnehdfedfphaa.Mem Go.Proofs.Ytegnehdfedfphaa.VmcM Go.Proofs.Ytegnehdfedfphaa.VmcA Go.Proofs.Ytegnehdfedfphaa.VmcJ Go.Proofs.Ytegnehdfedfphaa.PrtB Go.Proofs.Ytegnehdfedfphaa.PrtC
open Go.Proofs.Ytegnehdfedfphaa.ImgA (Im)
open Go.Proofs.Ytegnehdfedfphaa.VmcP (own_low)
open Go.Proofs.Ytegnehdfedfphaa.BitA (i64s)
open Go.Proofs.Ytegnehdfedfphaa.TabE (ret_row)
open Go.Proofs.Ytegnehdfedfphaa.TabI (info_int info_of)

section
variable {w : World} {sb M : Nat} {v : V} {i : Im}
theorem rd_s (h : v.ok) (hB : Blk w sb 88 (scells v)) : Rd w (some ⟨sb, 1, none⟩) v.h 8 (TabI.i64s (v.s.take v.h)) := by
  have h8 := h.h8
  have hl := h.ls
  refine ⟨by simp [TabI.i64s, hl]; omega, h8, by omega, fun hp => ⟨sb, 1, rfl, hB.lt, fun j u hu => ?_⟩⟩
  have hj : j < v.h := by have := (List.getElem?_eq_some_iff.1 hu).1; simp [TabI.i64s, hl] at this; omega
  refine hB.cell ?_
  rw [sc_s h (by omega), ← hu]
  unfold TabI.i64s
  rw [List.getElem?_map, List.getElem?_take, if_pos hj, List.getD_eq_getElem?_getD, List.getElem?_eq_getElem (by omega)]
  rfl
theorem rd_m (h : v.ok) {k : Nat} (hk : k ≤ 16) (hB : Blk w sb 88 (scells v)) : Rd w (some ⟨sb, 10, none⟩) k 16 (TabI.i64s (v.m.take k)) := by
  have hl := h.lm
  refine ⟨by simp [TabI.i64s, hl]; omega, hk, by omega, fun hp => ⟨sb, 10, rfl, hB.lt, fun j u hu => ?_⟩⟩
  have hj : j < k := by have := (List.getElem?_eq_some_iff.1 hu).1; simp [TabI.i64s, hl] at this; omega
  refine hB.cell ?_
  rw [sc_m h (by omega), ← hu]
  unfold TabI.i64s
  rw [List.getElem?_map, List.getElem?_take, if_pos hj, List.getD_eq_getElem?_getD, List.getElem?_eq_getElem (by omega)]
  rfl
end
/-- A new list of its own. -/
def NewsO (w : World) (l : List Int) : Ending → World → Prop := fun e w' => ∃ A n c, e = .returned (.slice A n c) ∧ w'.ownsRow w.heap.size 3 1 (.slice A n c) n (TabI.i64s l) ∧ Below w.heap.size w w'
section
variable {w : World} {A : Option Addr} {n c : Nat} {l : List Int}
set_option maxRecDepth 100000 in
theorem clone_own {b o : Nat} (hR : Rd w (some ⟨b, o, none⟩) n c (TabI.i64s l)) (hn : n ≤ 100) : Calls Try.prog 36 #[.slice (some ⟨b, o, none⟩) n c] w (NewsO w l) := by
  obtain ⟨i0, hi0, hz0, hz1, hz2⟩ := info_of info_int
  have hnil := fun (W : World) (a : Option Addr) (n c : Nat) => Lib.run_eql_slice_nil (P := Try.prog) W 64 3 a n c 0 0 Try.underlying64
  have HR := Lib.hid hR
  clear hR
  go_enter Try.func36, Try.ntmps36
  go_wp2_with (at_builtin; refine wpList_add _ rfl (.tmp 5) (.tmp 6) _ rfl w.heap.size 3 i0 _ 8 Try.underlying64 hi0 hz0 hz1 hz2 rfl _ 0 [] rfl (emptied w _) (some ⟨b, o, none⟩) n c (TabI.i64s l) rfl (HR.out.alloc _) (TabI.i64s_one _) (by omega) (by omega) (size_alloc _ _) ?_; intro A2 n2 c2 w2 hn2 hown2 hg2 hat2; have hb2 := below_add ((Below.refl w.heap.size w).alloc (Nat.le_refl _) _) (emptied w _) (Nat.le_refl _) hg2)
  go_ret
  have h3 : w2.ownsRow w.heap.size 3 1 (.slice A2 n2 c2) n2 (TabI.i64s l) := by simpa using hown2
  exact ⟨A2, n2, c2, rfl, h3, hb2⟩
end
/-- A state that is told: its lists lie in memory from block B on. -/
def Sv (B : Nat) (w : World) (z : Z) (x : Value) : Prop := ∃ A1 n1 c1 A2 n2 c2, x = .agg #[.int .i64 z.pc, .slice A1 n1 c1, .slice A2 n2 c2, .int .i64 z.tk, .int .i64 z.ft] ∧ w.ownsRow B 3 1 (.slice A1 n1 c1) n1 (TabI.i64s z.st) ∧ w.ownsRow B 3 1 (.slice A2 n2 c2) n2 (TabI.i64s z.mem)
def z28 : List Value := [.int .i64 0, .int .i64 0, .int .i64 0, .int .i64 0, .int .i64 0, .int .i64 0, .int .i64 0, .int .i64 0, .int .i64 0, .int .i64 0, .int .i64 0, .int .i64 0, .int .i64 0, .int .i64 0, .int .i64 0, .int .i64 0, .int .i64 0, .int .i64 0, .int .i64 0, .int .i64 0, .int .i64 0, .int .i64 0, .int .i64 0, .int .i64 0, .int .i64 0, .int .i64 0, .int .i64 0, .int .i64 0]
theorem sc_one (v : V) : ∀ u ∈ scells v, u.oneCell' = true := by
  intro u hu
  unfold scells i64s at hu
  simp only [List.mem_cons, List.mem_append, List.mem_map, List.not_mem_nil, or_false] at hu
  rcases hu with rfl | ⟨_, _, rfl⟩ | rfl | ⟨_, _, rfl⟩ | rfl | rfl <;> rfl
theorem size_st : (Try.prog.info? 66).map (·.size) = some 5 := by kernel_rfl
set_option maxRecDepth 100000 in
set_option maxHeartbeats 1600000 in
theorem state_any {M : Nat} {i : Im} {v : V} {w : World} (hB : Blk w M 90 (mc i v)) (h : v.ok) (hm : 0 ≤ i.m ∧ i.m ≤ 16) : Calls Try.prog 20 #[.pointer (some ⟨M, 0, none⟩)] w fun e w' => ∃ x, e = .returned x ∧ Sv w.heap.size w' (v.z i.m.toNat) x ∧ Below w.heap.size w w' := by
  have hMl := hB.lt
  have HOK := Lib.hid h
  obtain ⟨wa, hwa⟩ : ∃ wa, wa = w.alloc (.cells #[.int .i64 0, .slice none 0 0, .slice none 0 0, .int .i64 0, .int .i64 0] 66) := ⟨_, rfl⟩
  have HBA := Lib.hid (show Below w.heap.size w wa from by rw [hwa]; exact (Below.refl _ _).alloc (Nat.le_refl _) _)
  have HRA := Lib.hid (show Blk wa w.heap.size 66 [.int .i64 0, .slice none 0 0, .slice none 0 0, .int .i64 0, .int .i64 0] from by rw [hwa]; exact Blk.new w _ _)
  have HSA := Lib.hid (show wa.heap.size = w.heap.size + 1 from by rw [hwa]; exact World.size_alloc _ _)
  have HMA := Lib.hid (hB.below HBA.out)
  obtain ⟨p, hp⟩ : ∃ p, p = v.pc := ⟨_, rfl⟩
  obtain ⟨hh, hhh⟩ : ∃ hh, hh = v.h := ⟨_, rfl⟩
  obtain ⟨tk, htk⟩ : ∃ tk, tk = v.tk := ⟨_, rfl⟩
  obtain ⟨ft, hft⟩ : ∃ ft, ft = v.ft := ⟨_, rfl⟩
  obtain ⟨mN, hmN⟩ : ∃ mN : Nat, i.m = mN := ⟨i.m.toNat, by omega⟩
  obtain ⟨sb, hsb⟩ : ∃ sb, sb = w.heap.size + 1 := ⟨_, rfl⟩
  have h8 : hh ≤ 8 := by rw [hhh]; exact h.h8
  have h8i : (hh : Int) ≤ 8 := by omega
  have h0i : (0 : Int) ≤ (hh : Int) := by omega
  have m16 : mN ≤ 16 := by omega
  have m16i : (mN : Int) ≤ 16 := by omega
  have m0i : (0 : Int) ≤ (mN : Int) := by omega
  have HCL := Lib.hid (show ∀ w', Blk w' sb 88 (scells v) ∧ Blk w' M 90 (mc i v) → w'.cell? ⟨sb, 0, none⟩ = some (.int .i64 p) ∧ w'.cell? ⟨sb, 9, none⟩ = some (.int .i64 hh) ∧ w'.cell? ⟨M, 3, none⟩ = some (.int .i64 mN) ∧ w'.cell? ⟨sb, 26, none⟩ = some (.int .i64 tk) ∧ w'.cell? ⟨sb, 27, none⟩ = some (.int .i64 ft) from fun w' hh2 => by
    rw [hp, hhh, ← hmN, htk, hft]
    exact ⟨hh2.1.cell (sc_pc v), hh2.1.cell (sc_h h), hh2.2.cell (i := 3) rfl, hh2.1.cell (sc_tk h), hh2.1.cell (sc_ft h)⟩)
  have HRS := Lib.hid (show ∀ w', Blk w' sb 88 (scells v) ∧ Blk w' M 90 (mc i v) → Rd w' (some ⟨sb, 1, none⟩) hh 8 (TabI.i64s (v.s.take hh)) from fun w' hh2 => by rw [hhh]; exact rd_s h hh2.1)
  have HRM := Lib.hid (show ∀ w', Blk w' sb 88 (scells v) ∧ Blk w' M 90 (mc i v) → Rd w' (some ⟨sb, 10, none⟩) mN 16 (TabI.i64s (v.m.take mN)) from fun w' hh2 => rd_m h m16 hh2.1)
  have HZ := Lib.hid (show v.z i.m.toNat = ⟨p, v.s.take hh, v.m.take mN, tk, ft⟩ from by rw [hp, hhh, htk, hft, hmN]; rfl)
  have HZ28 := Lib.hid (show (Try.prog.info? 88).map (·.size) = some (scells v).length from by rw [sc_len h]; exact size_state)
  have HZB := Lib.hid (show Blk ((w.alloc (.cells #[.int .i64 0, .slice none 0 0, .slice none 0 0, .int .i64 0, .int .i64 0] 66)).alloc (.cells z28.toArray 88)) (w.heap.size + 1) 88 z28 from by have q := Blk.new (w.alloc (.cells #[.int .i64 0, .slice none 0 0, .slice none 0 0, .int .i64 0, .int .i64 0] 66)) 88 z28; rwa [World.size_alloc] at q)
  clear hB h hm hp hhh htk hft hmN
  go_enter Try.func20, Try.ntmps20
  go_wp2_with (first
    | (refine wpList_load_part rfl 88 (.tmp 9) rfl M 8 rfl (scells v) (show Blk (w.alloc _) M _ _ from by rw [← hwa]; exact HMA.out) (by unfold mc; rw [List.drop_left' (by rfl), List.take_length]) Try.underlying88 rfl HZ28.out ?_)
    | (refine wpList_store_blk rfl 88 (.tmp 3) (.tmp 10) rfl (w.heap.size + 1) rfl (scells v) rfl HZB.out (by rw [sc_len HOK.out]; rfl) HZ28.out (sc_one v) ?_; intro w4 hB4 ho4))
  have hb4 : Below w.heap.size w w4 := ho4.out.below (by have q : Below w.heap.size w (w.alloc (.cells #[.int .i64 0, .slice none 0 0, .slice none 0 0, .int .i64 0, .int .i64 0] 66)) := (Below.refl _ _).alloc (Nat.le_refl _) _; exact q.alloc q.size _) (by omega) (by simp; omega)
  have HB4 := Lib.hid hb4
  rw [← hsb] at hB4 ho4
  have hM4 := (show Blk w4 M 90 (mc i v) from ho4.out.blk (by have q := HMA.out.alloc (.cells z28.toArray 88); rw [hwa] at q; exact q) (by omega))
  have HR4 := Lib.hid (show Blk w4 w.heap.size 66 [.int .i64 0, .slice none 0 0, .slice none 0 0, .int .i64 0, .int .i64 0] from ho4.out.blk (by have q := HRA.out.alloc (.cells z28.toArray 88); rw [hwa] at q; exact q) (by omega))
  have HS4 := Lib.hid (show Blk w4 sb 88 (scells v) ∧ Blk w4 M 90 (mc i v) from ⟨hB4.out, hM4⟩)
  rw [← hsb]
  have HSB := Lib.hid hsb
  clear hB4 ho4 hM4 hb4 hwa HZB HRA HMA hsb
  refine wp_region_held_drew (S := fun w' => Blk w' sb 88 (scells v) ∧ Blk w' M 90 (mc i v)) (by kernel_rfl) HS4.out (fun hS => ?_)
  refine wpAnyH_take (i := 0) (v := .pointer (some ⟨sb, 0, none⟩)) rfl (by kernel_rfl) (by kernel_rfl) (by kernel_rfl) (fun _ _ _ h => h) (Or.inl ⟨by rfl, fun w hS => (by first | rfl | (go_simp; done))⟩) hS ?_
  try simp only [Act.put, List.getElem_toArray, List.getElem_cons_zero, List.setIfInBounds_toArray, List.set_cons_zero, List.set_cons_succ]
  refine wpAnyH_take (i := 1) (v := .int .i64 p) rfl (by kernel_rfl) (by kernel_rfl) (by kernel_rfl) (fun _ _ _ h => h) (Or.inl ⟨by rfl, fun w hS => (by have h0 := HCL.out w hS; obtain ⟨q0, q1, q2, q3, q4⟩ := h0; go_simp; done)⟩) hS ?_
  try simp only [Act.put, List.getElem_toArray, List.getElem_cons_succ, List.getElem_cons_zero, List.setIfInBounds_toArray, List.set_cons_zero, List.set_cons_succ]
  refine wpAnyH_take (i := 2) (v := .pointer (some ⟨sb, 1, none⟩)) rfl (by kernel_rfl) (by kernel_rfl) (by kernel_rfl) (fun _ _ _ h => h) (Or.inl ⟨by rfl, fun w hS => (by first | rfl | (go_simp; done))⟩) hS ?_
  try simp only [Act.put, List.getElem_toArray, List.getElem_cons_succ, List.getElem_cons_zero, List.setIfInBounds_toArray, List.set_cons_zero, List.set_cons_succ]
  refine wpAnyH_take (i := 3) (v := .pointer (some ⟨sb, 9, none⟩)) rfl (by kernel_rfl) (by kernel_rfl) (by kernel_rfl) (fun _ _ _ h => h) (Or.inl ⟨by rfl, fun w hS => (by first | rfl | (go_simp; done))⟩) hS ?_
  try simp only [Act.put, List.getElem_toArray, List.getElem_cons_succ, List.getElem_cons_zero, List.setIfInBounds_toArray, List.set_cons_zero, List.set_cons_succ]
  refine wpAnyH_take (i := 4) (v := .int .i64 (hh : Nat)) rfl (by kernel_rfl) (by kernel_rfl) (by kernel_rfl) (fun _ _ _ h => h) (Or.inl ⟨by rfl, fun w hS => (by have h0 := HCL.out w hS; obtain ⟨q0, q1, q2, q3, q4⟩ := h0; go_simp; done)⟩) hS ?_
  try simp only [Act.put, List.getElem_toArray, List.getElem_cons_succ, List.getElem_cons_zero, List.setIfInBounds_toArray, List.set_cons_zero, List.set_cons_succ]
  refine wpAnyH_take (i := 5) (v := .slice (some ⟨sb, 1, none⟩) hh 8) rfl (by kernel_rfl) (by kernel_rfl) (by kernel_rfl) (fun _ _ _ h => h) (Or.inl ⟨by rfl, fun w hS => (by first | rfl | (go_simp; done))⟩) hS ?_
  try simp only [Act.put, List.getElem_toArray, List.getElem_cons_succ, List.getElem_cons_zero, List.setIfInBounds_toArray, List.set_cons_zero, List.set_cons_succ]
  refine wpAnyH_take (i := 7) (v := .pointer (some ⟨sb, 10, none⟩)) rfl (by kernel_rfl) (by kernel_rfl) (by kernel_rfl) (fun _ _ _ h => h) (Or.inl ⟨by rfl, fun w hS => (by first | rfl | (go_simp; done))⟩) hS ?_
  try simp only [Act.put, List.getElem_toArray, List.getElem_cons_succ, List.getElem_cons_zero, List.setIfInBounds_toArray, List.set_cons_zero, List.set_cons_succ]
  refine wpAnyH_take (i := 8) (v := .pointer (some ⟨M, 0, none⟩)) rfl (by kernel_rfl) (by kernel_rfl) (by kernel_rfl) (fun _ _ _ h => h) (Or.inl ⟨by rfl, fun w hS => (by first | rfl | (go_simp; done))⟩) hS ?_
  try simp only [Act.put, List.getElem_toArray, List.getElem_cons_succ, List.getElem_cons_zero, List.setIfInBounds_toArray, List.set_cons_zero, List.set_cons_succ]
  refine wpAnyH_take (i := 9) (v := .pointer (some ⟨M, 0, none⟩)) rfl (by kernel_rfl) (by kernel_rfl) (by kernel_rfl) (fun _ _ _ h => h) (Or.inl ⟨by rfl, fun w hS => (by first | rfl | (go_simp; done))⟩) hS ?_
  try simp only [Act.put, List.getElem_toArray, List.getElem_cons_succ, List.getElem_cons_zero, List.setIfInBounds_toArray, List.set_cons_zero, List.set_cons_succ]
  refine wpAnyH_take (i := 10) (v := .pointer (some ⟨M, 0, none⟩)) rfl (by kernel_rfl) (by kernel_rfl) (by kernel_rfl) (fun _ _ _ h => h) (Or.inl ⟨by rfl, fun w hS => (by first | rfl | (go_simp; done))⟩) hS ?_
  try simp only [Act.put, List.getElem_toArray, List.getElem_cons_succ, List.getElem_cons_zero, List.setIfInBounds_toArray, List.set_cons_zero, List.set_cons_succ]
  refine wpAnyH_take (i := 11) (v := .pointer (some ⟨M, 3, none⟩)) rfl (by kernel_rfl) (by kernel_rfl) (by kernel_rfl) (fun _ _ _ h => h) (Or.inl ⟨by rfl, fun w hS => (by first | rfl | (go_simp; done))⟩) hS ?_
  try simp only [Act.put, List.getElem_toArray, List.getElem_cons_succ, List.getElem_cons_zero, List.setIfInBounds_toArray, List.set_cons_zero, List.set_cons_succ]
  refine wpAnyH_take (i := 12) (v := .int .i64 (mN : Nat)) rfl (by kernel_rfl) (by kernel_rfl) (by kernel_rfl) (fun _ _ _ h => h) (Or.inl ⟨by rfl, fun w hS => (by have h0 := HCL.out w hS; obtain ⟨q0, q1, q2, q3, q4⟩ := h0; go_simp; done)⟩) hS ?_
  try simp only [Act.put, List.getElem_toArray, List.getElem_cons_succ, List.getElem_cons_zero, List.setIfInBounds_toArray, List.set_cons_zero, List.set_cons_succ]
  refine wpAnyH_take (i := 13) (v := .slice (some ⟨sb, 10, none⟩) mN 16) rfl (by kernel_rfl) (by kernel_rfl) (by kernel_rfl) (fun _ _ _ h => h) (Or.inl ⟨by rfl, fun w hS => (by first | rfl | (go_simp; done))⟩) hS ?_
  try simp only [Act.put, List.getElem_toArray, List.getElem_cons_succ, List.getElem_cons_zero, List.setIfInBounds_toArray, List.set_cons_zero, List.set_cons_succ]
  refine wpAnyH_take (i := 15) (v := .pointer (some ⟨sb, 26, none⟩)) rfl (by kernel_rfl) (by kernel_rfl) (by kernel_rfl) (fun _ _ _ h => h) (Or.inl ⟨by rfl, fun w hS => (by first | rfl | (go_simp; done))⟩) hS ?_
  try simp only [Act.put, List.getElem_toArray, List.getElem_cons_succ, List.getElem_cons_zero, List.setIfInBounds_toArray, List.set_cons_zero, List.set_cons_succ]
  refine wpAnyH_take (i := 16) (v := .int .i64 tk) rfl (by kernel_rfl) (by kernel_rfl) (by kernel_rfl) (fun _ _ _ h => h) (Or.inl ⟨by rfl, fun w hS => (by have h0 := HCL.out w hS; obtain ⟨q0, q1, q2, q3, q4⟩ := h0; go_simp; done)⟩) hS ?_
  try simp only [Act.put, List.getElem_toArray, List.getElem_cons_succ, List.getElem_cons_zero, List.setIfInBounds_toArray, List.set_cons_zero, List.set_cons_succ]
  refine wpAnyH_take (i := 17) (v := .pointer (some ⟨sb, 27, none⟩)) rfl (by kernel_rfl) (by kernel_rfl) (by kernel_rfl) (fun _ _ _ h => h) (Or.inl ⟨by rfl, fun w hS => (by first | rfl | (go_simp; done))⟩) hS ?_
  try simp only [Act.put, List.getElem_toArray, List.getElem_cons_succ, List.getElem_cons_zero, List.setIfInBounds_toArray, List.set_cons_zero, List.set_cons_succ]
  refine wpAnyH_take (i := 18) (v := .int .i64 ft) rfl (by kernel_rfl) (by kernel_rfl) (by kernel_rfl) (fun _ _ _ h => h) (Or.inl ⟨by rfl, fun w hS => (by have h0 := HCL.out w hS; obtain ⟨q0, q1, q2, q3, q4⟩ := h0; go_simp; done)⟩) hS ?_
  try simp only [Act.put, List.getElem_toArray, List.getElem_cons_succ, List.getElem_cons_zero, List.setIfInBounds_toArray, List.set_cons_zero, List.set_cons_succ]
  refine wpAnyH_ready (rs := [6]) (by kernel_rfl) (by simp) ?_
  refine AllReadyH.cons rfl (fun K hK => ?_) (AllReadyH.nil)
  rw [if_pos (by rfl)]
  go_simp
  refine (clone_own (HRS.out _ hS) (by omega)).mono ?_
  rintro e w5 ⟨A1, n1, c1, rfl, h1, h3⟩
  dsimp only
  refine hK.out _ _ ⟨hS.1.below h3, hS.2.below h3⟩ (fun hS => ?_)
  clear hK K
  have HL1 := Lib.hid h1
  have HB5 := Lib.hid (HB4.out.trans (Below.mono (show Below w4.heap.size w4 w5 from ⟨h3.os, h3.tape, h3.output, h3.size, h3.block⟩) HB4.out.size))
  have HR5 := Lib.hid (HR4.out.below (show Below w4.heap.size w4 w5 from ⟨h3.os, h3.tape, h3.output, h3.size, h3.block⟩))
  have HZ5 := Lib.hid (show w4.heap.size ≤ w5.heap.size from h3.size)
  clear h1 h3
  try simp only [Act.put, List.getElem_toArray, List.getElem_cons_succ, List.getElem_cons_zero, List.setIfInBounds_toArray, List.set_cons_zero, List.set_cons_succ]
  refine wpAnyH_ready (rs := [14]) (by kernel_rfl) (by simp) ?_
  refine AllReadyH.cons rfl (fun K hK => ?_) (AllReadyH.nil)
  rw [if_pos (by rfl)]
  go_simp
  refine (clone_own (HRM.out _ hS) (by omega)).mono ?_
  rintro e w6 ⟨A2, n2, c2, rfl, h1, h3⟩
  dsimp only
  refine hK.out _ _ ⟨hS.1.below h3, hS.2.below h3⟩ (fun hS => ?_)
  clear hK K
  have HL2 := Lib.hid h1
  have HL1' := Lib.hid (own_below HL1.out h3)
  have HB6 := Lib.hid (HB5.out.trans (h3.mono HB5.out.size))
  have h6 := HR5.out.below h3
  have y0 := h6.cell (i := 0) rfl
  have y1 := h6.cell (i := 1) rfl
  have y2 := h6.cell (i := 2) rfl
  have y3 := h6.cell (i := 3) rfl
  have y4 := h6.cell (i := 4) rfl
  have u0 := h6.frozen 0
  have u1 := h6.frozen 1
  have u2 := h6.frozen 2
  have u3 := h6.frozen 3
  have u4 := h6.frozen 4
  have HR6 := Lib.hid h6
  clear h1 h3 h6
  try simp only [Act.put, List.getElem_toArray, List.getElem_cons_succ, List.getElem_cons_zero, List.setIfInBounds_toArray, List.set_cons_zero, List.set_cons_succ]
  refine wpAnyH_take (i := 19) (v := .agg #[.int .i64 p, .slice A1 n1 c1, .slice A2 n2 c2, .int .i64 tk, .int .i64 ft]) rfl (by kernel_rfl) (by kernel_rfl) (by kernel_rfl) (fun _ _ _ h => h) (Or.inl ⟨by rfl, fun w hS => (by first | rfl | (go_simp; done))⟩) hS ?_
  try simp only [Act.put, List.getElem_toArray, List.getElem_cons_succ, List.getElem_cons_zero, List.setIfInBounds_toArray, List.set_cons_zero, List.set_cons_succ]
  refine wpAnyH_ready (rs := [20]) (by kernel_rfl) (by simp) ?_
  refine AllReadyH.cons rfl (fun K hK => ?_) (AllReadyH.nil)
  rw [if_pos (by rfl)]
  go_simp
  obtain ⟨w7, hw7⟩ : ∃ w7, w7 = ((((w6.setCell ⟨w.heap.size, 0, none⟩ (.int .i64 p)).setCell ⟨w.heap.size, 1, none⟩ (.slice A1 n1 c1)).setCell ⟨w.heap.size, 2, none⟩ (.slice A2 n2 c2)).setCell ⟨w.heap.size, 3, none⟩ (.int .i64 tk)).setCell ⟨w.heap.size, 4, none⟩ (.int .i64 ft) := ⟨_, rfl⟩
  have hk7 : Keep (fun k => k = w.heap.size) w6 w7 := by
    rw [hw7]
    exact ((((Keep.set (F := fun k => k = w.heap.size) w6 0 _ rfl).trans (Keep.set (F := fun k => k = w.heap.size) _ 1 _ rfl) fun _ h => .inl h).trans (Keep.set (F := fun k => k = w.heap.size) _ 2 _ rfl) fun _ h => .inl h).trans (Keep.set (F := fun k => k = w.heap.size) _ 3 _ rfl) fun _ h => .inl h).trans (Keep.set (F := fun k => k = w.heap.size) _ 4 _ rfl) fun _ h => .inl h
  have hR7 : Blk w7 w.heap.size 66 [.int .i64 p, .slice A1 n1 c1, .slice A2 n2 c2, .int .i64 tk, .int .i64 ft] := by
    rw [hw7]
    exact ((((HR6.out.set 0 (.int .i64 p)).set 1 (.slice A1 n1 c1)).set 2 (.slice A2 n2 c2)).set 3 (.int .i64 tk)).set 4 (.int .i64 ft)
  have HK7 := Lib.hid hk7
  have HR7 := Lib.hid hR7
  rw [← hw7]
  refine hK.out _ _ ⟨hk7.blk hS.1 (by have := HSB.out; omega), hk7.blk hS.2 (by omega)⟩ (fun hS => ?_)
  clear hK K hS hw7 hk7 hR7 y0 y1 y2 y3 y4 u0 u1 u2 u3 u4
  try simp only [Act.put, List.getElem_toArray, List.getElem_cons_succ, List.getElem_cons_zero, List.setIfInBounds_toArray, List.set_cons_zero, List.set_cons_succ]
  refine wpAnyH_done (by kernel_rfl) ?_ _
  go_wp2_with fail
  refine ret_row (g := w.heap.size) (cs := #[.int .i64 p, .slice A1 n1 c1, .slice A2 n2 c2, .int .i64 tk, .int .i64 ft]) Try.results20 rfl rfl HR7.out Try.underlying66 rfl size_st ?_
  have q4 : w.heap.size < w4.heap.size := HR4.out.lt
  have q5 := HZ5.out
  refine ⟨_, rfl, ⟨A1, n1, c1, A2, n2, c2, by rw [HZ.out], ?_, ?_⟩, HB6.out.trans (HK7.out.below (fun k hk => by omega) HB6.out.size)⟩
  · rw [HZ.out]
    refine HK7.out.own (own_low (base := w4.heap.size) HL1'.out (by omega)) fun k hk => ?_
    have q6 : w4.heap.size ≤ k := (HL1'.out.lt k hk).1
    omega
  · rw [HZ.out]
    refine HK7.out.own (own_low (base := w5.heap.size) HL2.out (by omega)) fun k hk => ?_
    have q6 : w5.heap.size ≤ k := (HL2.out.lt k hk).1
    omega
end Go.Proofs.Ytegnehdfedfphaa.VmcS
namespace Go.Proofs.Ytegnehdfedfphaa.PrtF
open Go.RowKit Go.Proofs.Ytegnehdfedfphaa.Kit Go.Proofs.Ytegnehdfedfphaa.Byt Go.Proofs.Ytegnehdfedfphaa.Mem Go.Proofs.Ytegnehdfedfphaa.TabI Go.Proofs.Ytegnehdfedfphaa.PrtM Go.Proofs.Ytegnehdfedfphaa.PrtA Go.Proofs.Ytegnehdfedfphaa.PrtB Go.Proofs.Ytegnehdfedfphaa.PrtC Go.Proofs.Ytegnehdfedfphaa.PrtD Go.Proofs.Ytegnehdfedfphaa.PrtE
open Go.Proofs.Ytegnehdfedfphaa.TabA (Tri Tris)

section
variable {B S n c : Nat} {w : World} {ρ : Nat → Lab} {A : Option Addr} {Q : Nat → Nat} {C : List Tri} {L : Nat → List Int} {r : Tri}
/-- The world has more, no more. -/
theorem Stp.more {F : Lab → Prop} {w w1 w2 : World} {ρ ρ1 : Nat → Lab} (h : Stp F w ρ w1 ρ1) (hb : Bd B w1 ρ1) (hw : Below w1.heap.size w1 w2) : Stp F w ρ w2 ρ1 := h.trans (Stp.of_below hb hw)
end
end Go.Proofs.Ytegnehdfedfphaa.PrtF
namespace Go.Proofs.Ytegnehdfedfphaa.PrtG
open Go.RowKit Go.Proofs.Ytegnehdfedfphaa.Kit Go.Proofs.Ytegnehdfedfphaa.Byt Go.Proofs.Ytegnehdfedfphaa.Mem Go.Proofs.Ytegnehdfedfphaa.TabI Go.Proofs.Ytegnehdfedfphaa.PrtM Go.Proofs.Ytegnehdfedfphaa.PrtA Go.Proofs.Ytegnehdfedfphaa.PrtB Go.Proofs.Ytegnehdfedfphaa.PrtC Go.Proofs.Ytegnehdfedfphaa.PrtD Go.Proofs.Ytegnehdfedfphaa.PrtE Go.Proofs.Ytegnehdfedfphaa.PrtF
open Go.Proofs.Ytegnehdfedfphaa.TabA (Tri Tris Ta)
open Go.Proofs.Ytegnehdfedfphaa.TabB (Bx Yes)
open Go.Proofs.Ytegnehdfedfphaa.TabD (right right_any bool_of)

def ecells (d : Int) : List Value := if d = 0 then [.int .i64 0, .bool false] else [.int .i64 d, .slice none 0 0]
def etype (d : Int) : TypeId := if d = 0 then 121 else 124
set_option maxRecDepth 100000 in
theorem empty_any (d : Int) (w : World) : Calls Try.prog 28 #[.int .i64 d] w fun e w' => e = .returned (.iface (kind d) (.pointer (some ⟨w.heap.size, 0, none⟩))) ∧ w.alloc (.cells (ecells d).toArray (etype d)) = w' := by
  by_cases hd : d = 0
  · subst hd
    go_enter Try.func28, Try.ntmps28
    go_wp2
    go_ret
    exact ⟨rfl, rfl⟩
  · rw [kind, ecells, etype, if_neg hd, if_neg hd, if_neg hd]
    have hb : (d == 0) = false := by simpa using hd
    go_enter Try.func28, Try.ntmps28
    go_wp2
    go_ret
    exact ⟨rfl, rfl⟩
theorem cont_empty {B k q : Nat} {w : World} {ρ : Nat → Lab} {d : Int} (h : Blk w q (etype d) (ecells d)) (h4 : 0 ≤ d) : Cont B w ρ k q d [] := by
  by_cases hd : d = 0
  · rw [etype, ecells, if_pos hd, if_pos hd] at h
    exact .inl ⟨hd, 0, false, h, fun h => (by cases h), fun _ => ⟨rfl, rfl⟩⟩
  · rw [etype, ecells, if_neg hd, if_neg hd] at h
    exact .inr ⟨hd, none, 0, 0, h, World.ownsRow_nil _ _ _ _, by omega, fun g hg => by cases hg⟩

def none_ : Nat → List Int := fun _ => []
section
variable {B S k c n' c' : Nat} {W wb w3 : World} {ρ : Nat → Lab} {A A' : Option Addr} {Q : Nat → Nat} {C : List Tri} {r : Tri}
/-- One channel more. -/
theorem Chs.more (h : Chs B W ρ S A k c Q (C.take k) none_) (hr : C[k]? = some r) (hok : r.ok ∧ 0 ≤ r.c ∧ r.c ≤ 4) (hk : k < 4)
    (hb : Below (W.heap.size + 1) (W.alloc (.cells (ecells r.c).toArray (etype r.c))) wb) (hsb : W.heap.size + 1 ≤ wb.heap.size)
    (hown : w3.ownsRow B 99 3 (.slice A' n' c') n' (lcells Q 0 (C.take k) ++ ccells r W.heap.size)) (hg : wb.grownBy w3 (Value.slice A k c).ownBlock)
    (hat : (Value.slice A' n' c').ownBlock = (Value.slice A k c).ownBlock ∨ (Value.slice A' n' c').ownBlock = some wb.heap.size) (hn : n' = k + 1) :
    ∃ ρ' Q', Chs B (w3.setCell ⟨S, 0, none⟩ (.slice A' n' c')) ρ' S A' n' c' Q' (C.take (k + 1)) none_ ∧ Below B W (w3.setCell ⟨S, 0, none⟩ (.slice A' n' c')) := by
  have hs3 := hg.size
  have hCk : (C.take (k + 1)) = C.take k ++ [r] := by
    obtain ⟨hl, he⟩ := List.getElem?_eq_some_iff.1 hr
    rw [List.take_succ_eq_append_getElem hl, he]
  have hlen : (C.take k).length = k := h.len
  have hSl := h.set.lt
  have hSo : (Value.slice A k c).ownBlock ≠ some S := fun e => by
    have := h.llist S e
    rw [h.lset] at this
    cases this
  have hold : ∀ g, (Value.slice A k c).ownBlock = some g → g < W.heap.size := fun g hg => (h.list.lt g hg).2
  obtain ⟨ρ', hρ'⟩ : ∃ ρ' : Nat → Lab, ρ' = fun i => if i = W.heap.size then .head k else if W.heap.size < i ∧ (Value.slice A' n' c').ownBlock = some i then .list else ρ i := ⟨_, rfl⟩
  have hlt : ∀ i, i < W.heap.size → ρ' i = ρ i := fun i hi => by rw [hρ']; simp only [if_neg (show ¬ i = W.heap.size by omega), if_neg (show ¬ (W.heap.size < i ∧ (Value.slice A' n' c').ownBlock = some i) by omega)]
  have hout : ∀ i, W.heap.size ≤ i → ρ i = .out := fun i hi => Classical.byContradiction fun hn => by have := (h.bd i hn).2; omega
  have hK1 : Keep (fun i => (Value.slice A k c).ownBlock = some i) W w3 :=
    ((Keep.of_below (w := W) (w' := wb) (F := fun i => (Value.slice A k c).ownBlock = some i) (((Below.refl W.heap.size W).alloc (Nat.le_refl _) (.cells (ecells r.c).toArray (etype r.c))).trans (hb.mono (by omega)))).trans (Keep.grown (F := fun i => (Value.slice A k c).ownBlock = some i) hg fun _ h => h) fun _ h => .inl h)
  have hK2 : Keep (fun i => i = S ∨ (Value.slice A k c).ownBlock = some i) W (w3.setCell ⟨S, 0, none⟩ (.slice A' n' c')) :=
    (hK1.mono fun _ _ h => .inr h).trans (Keep.set (F := fun i => i = S) w3 0 (.slice A' n' c') rfl) fun i hi => .inl (.inl hi)
  have hs4 : (w3.setCell ⟨S, 0, none⟩ (.slice A' n' c')).heap.size = w3.heap.size := by simp [World.setCell]
  have hown4 : (w3.setCell ⟨S, 0, none⟩ (.slice A' n' c')).ownsRow B 99 3 (.slice A' n' c') n' (lcells Q 0 (C.take k) ++ ccells r W.heap.size) :=
    (Keep.set (F := fun i => i = S) w3 0 (.slice A' n' c') rfl).own hown fun g hg2 e => by
      subst e
      rcases hat with e2 | e2
      · exact hSo (e2 ▸ hg2)
      · rw [e2] at hg2; injection hg2 with hg2; omega
  have hS : Stp (fun l => l = .set ∨ l = .list ∨ l = .head k) W ρ (w3.setCell ⟨S, 0, none⟩ (.slice A' n' c')) ρ' := ⟨hK2.mono fun i _ hi => by
      rcases hi with rfl | hi
      · exact .inl h.lset
      · exact .inr (.inl (h.llist i hi)), hlt, fun i hi => by
      by_cases h1 : i = W.heap.size
      · refine .inr ⟨.inr (.inr (by rw [hρ']; exact if_pos h1)), by rw [hs4]; omega⟩
      · by_cases h2 : W.heap.size < i ∧ (Value.slice A' n' c').ownBlock = some i
        · refine .inr ⟨.inr (.inl (by rw [hρ']; simp only [if_neg h1, if_pos h2])), (hown4.lt i h2.2).2⟩
        · exact .inl (by rw [hρ']; simp only [if_neg h1, if_neg h2]; exact hout i hi)⟩
  have hblk : Blk (w3.setCell ⟨S, 0, none⟩ (.slice A' n' c')) W.heap.size (etype r.c) (ecells r.c) := by
    have h1 : Blk wb W.heap.size (etype r.c) (ecells r.c) := (hb.block W.heap.size (by omega)).trans (Blk.new W _ _)
    have h2 : Blk w3 W.heap.size (etype r.c) (ecells r.c) := (hg.block _ (by omega) fun e => by have := hold _ e.symm; omega).trans h1
    exact (Keep.set (F := fun i => i = S) w3 0 (.slice A' n' c') rfl).blk h2 (by omega)
  have hbd := h.bd.step h.base hS
  refine ⟨ρ', fun j => if j = k then W.heap.size else Q j, ⟨hbd, Nat.le_trans h.base hS.keep.size, ?_, by rw [hlt S hSl]; exact h.lset, ?_, ?_, by rw [hCk]; simp [hlen, hn], by omega, ?_, ?_⟩, hS.below h.bd (by rintro (e | e | e) <;> cases e) h.base⟩
  · have h3 : Blk w3 S 94 [.slice A k c] := hK1.blk h.set fun e => hSo e
    exact h3.set 0 _
  · rw [hCk, lcells_snoc, lcells_congr (Q := Q) 0 (C.take k) (fun j _ hj => if_neg (by omega))]
    simp only [Nat.zero_add, hlen, if_pos]
    exact hown4
  · intro g hg2
    rcases hat with e2 | e2
    · rw [e2] at hg2
      rw [hlt g (hold g hg2)]
      exact h.llist g hg2
    · have hg3 := hg2
      rw [e2] at hg2
      injection hg2 with hg2
      rw [hρ']
      simp only [if_neg (show ¬ g = W.heap.size by omega), if_pos (show W.heap.size < g ∧ (Value.slice A' n' c').ownBlock = some g from ⟨by omega, hg3⟩)]
  · intro r' hr'
    rw [hCk, List.mem_append, List.mem_singleton] at hr'
    rcases hr' with hr' | rfl
    · exact h.ok r' hr'
    · exact hok
  · intro j r' hr'
    by_cases hj : j = k
    · subst hj
      have hr2 : r' = r := by
        rw [hCk, List.getElem?_append_right (by omega), hlen, Nat.sub_self] at hr'
        simpa using hr'.symm
      subst hr2
      simp only [if_pos]
      exact ⟨by rw [hρ']; simp, cont_empty hblk hok.2.1⟩
    · have hjk : j < k := by
        have := (List.getElem?_eq_some_iff.1 hr').1
        rw [hCk, List.length_append, hlen, List.length_singleton] at this
        omega
      rw [hCk, List.getElem?_append_left (by omega)] at hr'
      obtain ⟨e1, e2⟩ := h.head j r' hr'
      have hq : Q j < W.heap.size := (h.bd (Q j) (by rw [e1]; intro e; cases e)).2
      simp only [if_neg hj]
      refine ⟨by rw [hlt _ hq]; exact e1, e2.carry hS ?_ ?_⟩
      · rw [e1]
        rintro (e | e | e)
        · cases e
        · cases e
        · injection e with e; exact hj e
      · rintro (e | e | e) <;> cases e
end
end Go.Proofs.Ytegnehdfedfphaa.PrtG
namespace Go.Proofs.Ytegnehdfedfphaa.PrtH
open Go.RowKit Go.Proofs.Ytegnehdfedfphaa.Kit Go.Proofs.Ytegnehdfedfphaa.Byt Go.Proofs.Ytegnehdfedfphaa.Mem Go.Proofs.Ytegnehdfedfphaa.TabI Go.Proofs.Ytegnehdfedfphaa.PrtM Go.Proofs.Ytegnehdfedfphaa.PrtA Go.Proofs.Ytegnehdfedfphaa.PrtB Go.Proofs.Ytegnehdfedfphaa.PrtC Go.Proofs.Ytegnehdfedfphaa.PrtD Go.Proofs.Ytegnehdfedfphaa.PrtE Go.Proofs.Ytegnehdfedfphaa.PrtF Go.Proofs.Ytegnehdfedfphaa.PrtG
open Go.Proofs.Ytegnehdfedfphaa.TabA (Tri Tris Ta)
open Go.Proofs.Ytegnehdfedfphaa.TabB (Bx Yes)
open Go.Proofs.Ytegnehdfedfphaa.TabD (right right_any bool_of)

theorem info_conn : (Try.prog.info? 99).map (fun i => (i.zero, i.size, i.bytes)) = some (some (.agg #[.int .i64 0, .int .i64 0, .nilIface]), 3, 32) := by kernel_rfl
theorem new_cells3 (w : World) (xs : List Value) (e : TypeId) : ∀ j u, xs[j]? = some u → (w.alloc (.cells xs.toArray e)).cell? ((⟨w.heap.size, 0, none⟩ : Addr).add j) = some u := fun j u hu => by
  rw [Addr.add_lit]
  exact (Blk.new w e xs).cell (by simpa using hu)
theorem ccells_one (r : Tri) (q : Nat) : ∀ u ∈ ccells r q, u.oneCell' = true := by
  intro u hu
  simp only [ccells, List.mem_cons, List.not_mem_nil, or_false] at hu
  rcases hu with rfl | rfl | rfl <;> rfl
theorem Chs.start {B S : Nat} {w : World} (h : Blk w S 94 [.slice none 0 0]) (hb : B ≤ S) : Chs B w (fun i => if i = S then .set else .out) S none 0 0 (fun _ => 0) [] none_ where
  bd := fun i hi => by
    by_cases h1 : i = S
    · subst h1; exact ⟨hb, h.lt⟩
    · simp [h1] at hi
  base := by have := h.lt; omega
  set := h
  lset := if_pos rfl
  list := World.ownsRow_nil _ _ _ _
  llist := fun g hg => by cases hg
  len := rfl
  most := by omega
  ok := by simp
  head := fun k r hr => by simp at hr
theorem wblks {B S k c gb : Nat} {W : World} {ρ : Nat → Lab} {A : Option Addr} {Q : Nat → Nat} {C : List Tri} {L : Nat → List Int} {x y z : Value} {t : TypeId} (h : Chs B W.drew ρ S A k c Q C L) (hb : Blk W gb t [x, y, z]) (d : Int) :
    (W.alloc (.cells (ecells d).toArray (etype d))).cell? ⟨S, 0, none⟩ = some (.slice A k c) ∧ (W.alloc (.cells (ecells d).toArray (etype d))).cell? ⟨gb, 0, none⟩ = some x ∧ (W.alloc (.cells (ecells d).toArray (etype d))).cell? ⟨gb, 1, none⟩ = some y ∧ (W.alloc (.cells (ecells d).toArray (etype d))).cell? ⟨gb, 2, none⟩ = some z :=
  have h2 : Blk W.drew gb t [x, y, z] := hb
  ⟨(h.set.alloc _).cell rfl, (h2.alloc _).cell rfl, (h2.alloc _).cell rfl, (h2.alloc _).cell rfl⟩
theorem new_conn (W : World) (r : Tri) : ∀ (j : Nat) (u : Value), (ccells r W.heap.size)[j]? = some u → ((W.drew.alloc (.cells (ecells r.c).toArray (etype r.c))).alloc (.cells (ccells r W.heap.size).toArray 99)).cell? ((⟨W.heap.size + 1, 0, none⟩ : Addr).add j) = some u := by
  have h := new_cells3 (W.drew.alloc (.cells (ecells r.c).toArray (etype r.c))) (ccells r W.heap.size) 99
  rw [World.size_alloc] at h
  exact h
theorem own_ee {B S k c : Nat} {W : World} {ρ : Nat → Lab} {A : Option Addr} {Q : Nat → Nat} {C : List Tri} {L : Nat → List Int} (h : Chs B W.drew ρ S A k c Q C L) (r : Tri) :
    ((W.drew.alloc (.cells (ecells r.c).toArray (etype r.c))).alloc (.cells (ccells r W.heap.size).toArray 99)).ownsRow B 99 3 (.slice A k c) k (lcells Q 0 C) := (h.list.alloc _).alloc _
theorem conn_after {B S k c : Nat} {W w5 : World} {ρ : Nat → Lab} {A : Option Addr} {Q : Nat → Nat} {C : List Tri} {L : Nat → List Int} {x y z : Value} {t : TypeId} {gb : Nat} (h : Chs B W.drew ρ S A k c Q C L) (hb : Blk W gb t [x, y, z]) (hgb : (Value.slice A k c).ownBlock ≠ some gb) (r : Tri)
    (hg : ((W.drew.alloc (.cells (ecells r.c).toArray (etype r.c))).alloc (.cells (ccells r W.heap.size).toArray 99)).grownBy w5 (Value.slice A k c).ownBlock) :
    w5.cell? ⟨S, 0, none⟩ = some (.slice A k c) ∧ w5.frozen? ⟨S, 0, none⟩ = false ∧ w5.cell? ⟨gb, 0, none⟩ = some x ∧ w5.cell? ⟨gb, 1, none⟩ = some y ∧ w5.cell? ⟨gb, 2, none⟩ = some z := by
  have h1 := (h.set.alloc (.cells (ecells r.c).toArray (etype r.c))).alloc (.cells (ccells r W.heap.size).toArray 99)
  have h2 : Blk w5 S 94 [.slice A k c] := (hg.block S h1.lt fun e => by
    have := h.llist S e.symm
    rw [h.lset] at this
    cases this).trans h1
  have h3 : Blk W.drew gb t [x, y, z] := hb
  have h4 := (h3.alloc (.cells (ecells r.c).toArray (etype r.c))).alloc (.cells (ccells r W.heap.size).toArray 99)
  have h5 : Blk w5 gb t [x, y, z] := (hg.block gb h4.lt fun e => hgb e.symm).trans h4
  exact ⟨h2.cell rfl, h2.frozen 0, h5.cell rfl, h5.cell rfl, h5.cell rfl⟩
set_option maxRecDepth 100000 in
theorem new_bad (t : Ta) (w : World) (h : t.ok w) (hb : ¬ right t) : Calls Try.prog 10 #[t.val] w fun e w' => e = .returned (.tuple #[.pointer none, .int .i64 9]) ∧ Below w.heap.size w w' := by
  have HR := Lib.hid (fun w' (hb' : Below w.heap.size w w') => right_any t w' (h.below hb') false (by simp [hb]))
  have HX := Lib.hid (Bx.new w t)
  obtain ⟨y0, y1, y2, y3, y4⟩ := HX.out.cell
  clear h hb
  obtain ⟨fr, A1, n1, c1, P, A2, n2, c2, W, A3, n3, c3, C, tr⟩ := t
  dsimp only at y0 y1 y2 y3 y4
  show Calls _ _ #[.agg #[.int .i64 fr, .slice A1 n1 c1, .slice A2 n2 c2, .slice A3 n3 c3, .int .i64 tr]] w _
  go_enter Try.func10, Try.ntmps10
  go_wp2_with fail
  refine (HR.out _ HX.out.bel).mono ?_
  rintro e w1 ⟨rfl, hb1⟩
  have HX1 := Lib.hid (HX.out.step hb1)
  clear hb1
  go_wp2_with fail
  go_ret2
  exact ⟨rfl, HX1.out.bel⟩
set_option maxRecDepth 100000 in
set_option maxHeartbeats 3200000 in
theorem new_yes (t : Ta) (w : World) (h : t.ok w) (hr : right t) : Calls Try.prog 10 #[t.val] w fun e w' => ∃ S ρ A c Q, e = .returned (.tuple #[.pointer (some ⟨S, 0, none⟩), .int .i64 0]) ∧ Chs w.heap.size w' ρ S A t.n3 c Q t.C none_ ∧ Below w.heap.size w w' := by
  obtain ⟨i0, hi0, hz0, hz1, hz2⟩ := info_of info_conn
  have HR := Lib.hid (fun w' (hb' : Below w.heap.size w w') => right_any t w' (h.below hb') true (by simp [hr]))
  have HX := Lib.hid (Bx.new w t)
  have HCT := Lib.hid h.C
  have HN4 := Lib.hid hr.2.2.2.2
  obtain ⟨y0, y1, y2, y3, y4⟩ := HX.out.cell
  clear h hr
  obtain ⟨fr, A1, n1, c1, P, A2, n2, c2, W, A3, n3, c3, C, tr⟩ := t
  dsimp only at y0 y1 y2 y3 y4 HCT HN4
  have hn3 : n3 ≤ 4 := by have := HCT.out.1; have := HN4.out.1; omega
  show Calls _ _ #[.agg #[.int .i64 fr, .slice A1 n1 c1, .slice A2 n2 c2, .slice A3 n3 c3, .int .i64 tr]] w fun e w' => ∃ S ρ A c Q, e = .returned (.tuple #[.pointer (some ⟨S, 0, none⟩), .int .i64 0]) ∧ Chs w.heap.size w' ρ S A n3 c Q C none_ ∧ Below w.heap.size w w'
  go_enter Try.func10, Try.ntmps10
  go_wp2_with fail
  refine (HR.out _ HX.out.bel).mono ?_
  rintro e w1 ⟨rfl, hb1⟩
  have HX1 := Lib.hid (HX.out.step hb1)
  clear hb1 y0 y1 y2 y3 y4 HX
  obtain ⟨y0, y1, y2, y3, y4⟩ := HX1.out.cell
  dsimp only at y0 y1 y2 y3 y4
  have H0 := Lib.hid (Chs.start (B := w.heap.size) (Blk.new w1 94 [.slice none 0 0]) (by have := HX1.out.sz; omega))
  have HB0 := Lib.hid (HX1.out.bel.alloc HX1.out.bel.size (.cells #[.slice none 0 0] 94))
  have z3 : (w1.alloc (.cells #[.slice none 0 0] 94)).cell? ⟨w.heap.size, 3, none⟩ = some (.slice A3 n3 c3) := (HX1.out.alloc _).cell.2.2.2.1
  go_wp2_with fail
  clear y0 y1 y2 y3 y4 z3
  go_loopw [15] (fun i wr => ∃ (k : Nat) (ρ1 : Nat → Lab) (A : Option Addr) (c : Nat) (Q : Nat → Nat), k ≤ n3 ∧ i = .int .i64 k ∧ Hid (Chs w.heap.size wr ρ1 w1.heap.size A k c Q (C.take k) none_) ∧ Hid (Below w.heap.size w wr)) (fun i _ => n3 - (intOf i).toNat)
  case atStart => exact ⟨0, _, none, 0, _, Nat.zero_le _, rfl, H0, HB0⟩
  case round =>
    obtain ⟨k, ρ1, A, c, Q, hk, rfl, H1, HB⟩ := hrel
    by_cases hlt : k < n3
    · obtain ⟨r, b, o, hr, hrk, rfl, hbl, k0, k1, k2⟩ := (HCT.out.below HB.out).at_ hlt
      have HR1 := Lib.hid hr
      have HOK := Lib.hid (show r.ok ∧ 0 ≤ r.c ∧ r.c ≤ 4 from ⟨hrk, (HN4.out.2 k r hr).2.2.2⟩)
      clear hr hrk
      obtain ⟨wa, hwa⟩ : ∃ wa, wa = wr.alloc (.cells #[.int .i64 r.a, .int .i64 r.b, .int .i64 r.c] 59) := ⟨_, rfl⟩
      have hba : Below wr.heap.size wr wa := by rw [hwa]; exact (Below.refl _ _).alloc (Nat.le_refl _) _
      have HA := Lib.hid (H1.out.below (w' := wa.drew) hba.drew)
      have HBa := Lib.hid (HB.out.trans (hba.mono HB.out.size))
      have hbx : Blk wa wr.heap.size 59 [.int .i64 r.a, .int .i64 r.b, .int .i64 r.c] := by rw [hwa]; exact Blk.new wr _ _
      have b0 := hbx.cell (i := 0) rfl
      have b1 := hbx.cell (i := 1) rfl
      have b2 := hbx.cell (i := 2) rfl
      have s0 : wa.cell? ⟨w1.heap.size, 0, none⟩ = some (.slice A k c) := HA.out.set.cell rfl
      have hgb : (Value.slice A k c).ownBlock ≠ some wr.heap.size := fun e => by have := (H1.out.list.lt _ e).2; omega
      have hne : w1.heap.size ≠ wr.heap.size := by have := H1.out.set.lt; omega
      obtain ⟨e0, d0, d1, d2⟩ := wblks HA.out hbx r.c
      have HD := Lib.hid (show (wa.drew.alloc (.cells (ecells r.c).toArray (etype r.c))).cell? ⟨wr.heap.size, 0, none⟩ = some (.int .i64 r.a) ∧ (wa.drew.alloc (.cells (ecells r.c).toArray (etype r.c))).cell? ⟨wr.heap.size, 1, none⟩ = some (.int .i64 r.b) ∧ (wa.drew.alloc (.cells (ecells r.c).toArray (etype r.c))).cell? ⟨wr.heap.size, 2, none⟩ = some (.int .i64 r.c) from ⟨d0, d1, d2⟩)
      have hbE := (hbx.alloc (.cells (ecells r.c).toArray (etype r.c))).alloc (.cells (ccells r wa.heap.size).toArray 99)
      have e1 : ((wa.alloc (.cells (ecells r.c).toArray (etype r.c))).alloc (.cells #[.int .i64 r.a, .int .i64 r.b, .iface (kind r.c) (.pointer (some ⟨wa.heap.size, 0, none⟩))] 99)).cell? ⟨w1.heap.size, 0, none⟩ = some (.slice A k c) := ((HA.out.set.alloc (.cells (ecells r.c).toArray (etype r.c))).alloc (.cells (ccells r wa.heap.size).toArray 99)).cell rfl
      have HE := Lib.hid (show ((wa.drew.alloc (.cells (ecells r.c).toArray (etype r.c))).alloc (.cells (ccells r wa.heap.size).toArray 99)).cell? ⟨wr.heap.size, 0, none⟩ = some (.int .i64 r.a) ∧ ((wa.drew.alloc (.cells (ecells r.c).toArray (etype r.c))).alloc (.cells (ccells r wa.heap.size).toArray 99)).cell? ⟨wr.heap.size, 1, none⟩ = some (.int .i64 r.b) ∧ ((wa.drew.alloc (.cells (ecells r.c).toArray (etype r.c))).alloc (.cells (ccells r wa.heap.size).toArray 99)).cell? ⟨wr.heap.size, 2, none⟩ = some (.int .i64 r.c) from ⟨hbE.cell rfl, hbE.cell rfl, hbE.cell rfl⟩)
      clear hbE d0 d1 d2
      go_upto_region 7 with (fail)
      rw [← hwa]
      clear hwa k0 k1 k2 hba
      refine wp_region_held_drew (S := (fun w' => w'.cell? ⟨wr.heap.size, 0, none⟩ = some (.int .i64 r.a) ∧ w'.cell? ⟨wr.heap.size, 1, none⟩ = some (.int .i64 r.b) ∧ w'.cell? ⟨wr.heap.size, 2, none⟩ = some (.int .i64 r.c))) (by kernel_rfl) ⟨b0, b1, b2⟩ (fun hS => ?_)
      refine wpAnyH_take (i := 0) (v := .pointer (some ⟨w1.heap.size, 0, none⟩)) rfl (by kernel_rfl) (by kernel_rfl) (by kernel_rfl) (fun _ _ _ h => h) (Or.inl ⟨by rfl, fun w hS => (by first | rfl | (obtain ⟨h0, h1, h2⟩ := hS; go_simp; done))⟩) (by assumption) ?_
      try simp only [Act.put, List.getElem_toArray, List.getElem_cons_zero, List.setIfInBounds_toArray, List.set_cons_zero, List.set_cons_succ]
      refine wpAnyH_take (i := 1) (v := .pointer (some ⟨w1.heap.size, 0, none⟩)) rfl (by kernel_rfl) (by kernel_rfl) (by kernel_rfl) (fun _ _ _ h => h) (Or.inl ⟨by rfl, fun w hS => (by first | rfl | (obtain ⟨h0, h1, h2⟩ := hS; go_simp; done))⟩) (by assumption) ?_
      try simp only [Act.put, List.getElem_toArray, List.getElem_cons_succ, List.getElem_cons_zero, List.setIfInBounds_toArray, List.set_cons_zero, List.set_cons_succ]
      refine wpAnyH_take (i := 2) (v := .pointer (some ⟨w1.heap.size, 0, none⟩)) rfl (by kernel_rfl) (by kernel_rfl) (by kernel_rfl) (fun _ _ _ h => h) (Or.inl ⟨by rfl, fun w hS => (by first | rfl | (obtain ⟨h0, h1, h2⟩ := hS; go_simp; done))⟩) (by assumption) ?_
      try simp only [Act.put, List.getElem_toArray, List.getElem_cons_succ, List.getElem_cons_zero, List.setIfInBounds_toArray, List.set_cons_zero, List.set_cons_succ]
      refine wpAnyH_take (i := 3) (v := .pointer (some ⟨w1.heap.size, 0, none⟩)) rfl (by kernel_rfl) (by kernel_rfl) (by kernel_rfl) (fun _ _ _ h => h) (Or.inl ⟨by rfl, fun w hS => (by first | rfl | (obtain ⟨h0, h1, h2⟩ := hS; go_simp; done))⟩) (by assumption) ?_
      try simp only [Act.put, List.getElem_toArray, List.getElem_cons_succ, List.getElem_cons_zero, List.setIfInBounds_toArray, List.set_cons_zero, List.set_cons_succ]
      refine wpAnyH_take (i := 5) (v := .pointer (some ⟨wr.heap.size, 0, none⟩)) rfl (by kernel_rfl) (by kernel_rfl) (by kernel_rfl) (fun _ _ _ h => h) (Or.inl ⟨by rfl, fun w hS => (by first | rfl | (obtain ⟨h0, h1, h2⟩ := hS; go_simp; done))⟩) (by assumption) ?_
      try simp only [Act.put, List.getElem_toArray, List.getElem_cons_succ, List.getElem_cons_zero, List.setIfInBounds_toArray, List.set_cons_zero, List.set_cons_succ]
      refine wpAnyH_take (i := 6) (v := .int .i64 r.a) rfl (by kernel_rfl) (by kernel_rfl) (by kernel_rfl) (fun _ _ _ h => h) (Or.inl ⟨by rfl, fun w hS => (by first | rfl | (obtain ⟨h0, h1, h2⟩ := hS; go_simp; done))⟩) (by assumption) ?_
      try simp only [Act.put, List.getElem_toArray, List.getElem_cons_succ, List.getElem_cons_zero, List.setIfInBounds_toArray, List.set_cons_zero, List.set_cons_succ]
      refine wpAnyH_take (i := 7) (v := .pointer (some ⟨wr.heap.size, 1, none⟩)) rfl (by kernel_rfl) (by kernel_rfl) (by kernel_rfl) (fun _ _ _ h => h) (Or.inl ⟨by rfl, fun w hS => (by first | rfl | (obtain ⟨h0, h1, h2⟩ := hS; go_simp; done))⟩) (by assumption) ?_
      try simp only [Act.put, List.getElem_toArray, List.getElem_cons_succ, List.getElem_cons_zero, List.setIfInBounds_toArray, List.set_cons_zero, List.set_cons_succ]
      refine wpAnyH_take (i := 8) (v := .int .i64 r.b) rfl (by kernel_rfl) (by kernel_rfl) (by kernel_rfl) (fun _ _ _ h => h) (Or.inl ⟨by rfl, fun w hS => (by first | rfl | (obtain ⟨h0, h1, h2⟩ := hS; go_simp; done))⟩) (by assumption) ?_
      try simp only [Act.put, List.getElem_toArray, List.getElem_cons_succ, List.getElem_cons_zero, List.setIfInBounds_toArray, List.set_cons_zero, List.set_cons_succ]
      refine wpAnyH_take (i := 9) (v := .pointer (some ⟨wr.heap.size, 2, none⟩)) rfl (by kernel_rfl) (by kernel_rfl) (by kernel_rfl) (fun _ _ _ h => h) (Or.inl ⟨by rfl, fun w hS => (by first | rfl | (obtain ⟨h0, h1, h2⟩ := hS; go_simp; done))⟩) (by assumption) ?_
      try simp only [Act.put, List.getElem_toArray, List.getElem_cons_succ, List.getElem_cons_zero, List.setIfInBounds_toArray, List.set_cons_zero, List.set_cons_succ]
      refine wpAnyH_take (i := 10) (v := .int .i64 r.c) rfl (by kernel_rfl) (by kernel_rfl) (by kernel_rfl) (fun _ _ _ h => h) (Or.inl ⟨by rfl, fun w hS => (by first | rfl | (obtain ⟨h0, h1, h2⟩ := hS; go_simp; done))⟩) (by assumption) ?_
      try simp only [Act.put, List.getElem_toArray, List.getElem_cons_succ, List.getElem_cons_zero, List.setIfInBounds_toArray, List.set_cons_zero, List.set_cons_succ]
      refine wpAnyH_ready (rs := [4, 11]) (by kernel_rfl) (by simp) ?_
      refine AllReadyH.cons rfl (fun K hK => ?_) (AllReadyH.cons rfl (fun K hK => ?_) (AllReadyH.nil))
      focus
        rw [if_pos (by rfl)]
        go_simp
        refine hK.out _ _ (by assumption) (fun hS => ?_)
        clear hK K
        try simp only [Act.put, List.getElem_toArray, List.getElem_cons_succ, List.getElem_cons_zero, List.setIfInBounds_toArray, List.set_cons_zero, List.set_cons_succ]
        refine wpAnyH_ready (rs := [11]) (by kernel_rfl) (by simp) ?_
        refine AllReadyH.cons rfl (fun K hK => ?_) (AllReadyH.nil)
        rw [if_pos (by rfl)]
        go_simp
        refine (empty_any r.c _).mono ?_
        rintro e w2 ⟨rfl, rfl⟩
        dsimp only
        refine hK.out _ _ HD.out (fun hS => ?_)
        clear hK K
        try simp only [Act.put, List.getElem_toArray, List.getElem_cons_succ, List.getElem_cons_zero, List.setIfInBounds_toArray, List.set_cons_zero, List.set_cons_succ]
        refine wpAnyH_take (i := 12) (v := .agg #[.int .i64 r.a, .int .i64 r.b, .iface (kind r.c) (.pointer (some ⟨wa.heap.size, 0, none⟩))]) rfl (by kernel_rfl) (by kernel_rfl) (by kernel_rfl) (fun _ _ _ h => h) (Or.inl ⟨by rfl, fun w hS => (by first | rfl | (obtain ⟨h0, h1, h2⟩ := hS; go_simp; done))⟩) (by assumption) ?_
        try simp only [Act.put, List.getElem_toArray, List.getElem_cons_succ, List.getElem_cons_zero, List.setIfInBounds_toArray, List.set_cons_zero, List.set_cons_succ]
        refine wpAnyH_ready (rs := [13]) (by kernel_rfl) (by simp) ?_
        refine AllReadyH.cons rfl (fun K hK => ?_) (AllReadyH.nil)
        rw [if_pos (by rfl)]
        go_simp
        refine hK.out _ _ HE.out (fun hS => ?_)
        clear hK K
        try simp only [Act.put, List.getElem_toArray, List.getElem_cons_succ, List.getElem_cons_zero, List.setIfInBounds_toArray, List.set_cons_zero, List.set_cons_succ]
        refine wpAnyH_ready (rs := [14]) (by kernel_rfl) (by simp) ?_
        refine AllReadyH.cons rfl (fun K hK => ?_) (AllReadyH.nil)
        rw [if_pos (by rfl)]
        refine wp_append_at (.tmp 23) (.tmp 32) 92 rfl w.heap.size 99 i0 _ 3 32 Try.underlying92 hi0 hz0 hz1 hz2 rfl (by omega) (.slice A k c) k (lcells Q 0 (C.take k)) rfl (own_ee HA.out r) ⟨wa.heap.size + 1, 0, none⟩ 1 1 (ccells r wa.heap.size) rfl rfl (new_conn wa r) (ccells_one _ _) (by unfold maxLen; omega) (by omega) (by have := HBa.out.size; simp; omega) ?_
        intro A5 n5 c5 w5 hn5 hown5 hg5 hat5
        obtain ⟨e5, f5, g5⟩ := conn_after HA.out hbx hgb r hg5
        have Hg5 := Lib.hid hg5
        clear hg5
        refine hK.out _ _ g5 (fun hS => ?_)
        clear hK K
        try simp only [Act.put, List.getElem_toArray, List.getElem_cons_succ, List.getElem_cons_zero, List.setIfInBounds_toArray, List.set_cons_zero, List.set_cons_succ]
        refine wpAnyH_take (i := 15) (v := .pointer (some ⟨w1.heap.size, 0, none⟩)) rfl (by kernel_rfl) (by kernel_rfl) (by kernel_rfl) (fun _ _ _ h => h) (Or.inl ⟨by rfl, fun w hS => (by first | rfl | (obtain ⟨h0, h1, h2⟩ := hS; go_simp; done))⟩) (by assumption) ?_
        try simp only [Act.put, List.getElem_toArray, List.getElem_cons_succ, List.getElem_cons_zero, List.setIfInBounds_toArray, List.set_cons_zero, List.set_cons_succ]
        refine wpAnyH_take (i := 16) (v := .pointer (some ⟨w1.heap.size, 0, none⟩)) rfl (by kernel_rfl) (by kernel_rfl) (by kernel_rfl) (fun _ _ _ h => h) (Or.inl ⟨by rfl, fun w hS => (by first | rfl | (obtain ⟨h0, h1, h2⟩ := hS; go_simp; done))⟩) (by assumption) ?_
        try simp only [Act.put, List.getElem_toArray, List.getElem_cons_succ, List.getElem_cons_zero, List.setIfInBounds_toArray, List.set_cons_zero, List.set_cons_succ]
        refine wpAnyH_ready (rs := [17]) (by kernel_rfl) (by simp) ?_
        refine AllReadyH.cons rfl (fun K hK => ?_) (AllReadyH.nil)
        rw [if_pos (by rfl)]
        go_simp
        refine hK.out _ _ (by rw [World.cell?_setCell_far _ _ _ _ hne, World.cell?_setCell_far _ _ _ _ hne, World.cell?_setCell_far _ _ _ _ hne]; exact g5) (fun hS => ?_)
        clear hK K
        try simp only [Act.put, List.getElem_toArray, List.getElem_cons_succ, List.getElem_cons_zero, List.setIfInBounds_toArray, List.set_cons_zero, List.set_cons_succ]
        refine wpAnyH_done (by kernel_rfl) ?_ _
      rotate_left 1
      focus
        rw [if_pos (by rfl)]
        go_simp
        refine (empty_any r.c _).mono ?_
        rintro e w2 ⟨rfl, rfl⟩
        dsimp only
        refine hK.out _ _ HD.out (fun hS => ?_)
        clear hK K
        try simp only [Act.put, List.getElem_toArray, List.getElem_cons_succ, List.getElem_cons_zero, List.setIfInBounds_toArray, List.set_cons_zero, List.set_cons_succ]
        refine wpAnyH_take (i := 12) (v := .agg #[.int .i64 r.a, .int .i64 r.b, .iface (kind r.c) (.pointer (some ⟨wa.heap.size, 0, none⟩))]) rfl (by kernel_rfl) (by kernel_rfl) (by kernel_rfl) (fun _ _ _ h => h) (Or.inl ⟨by rfl, fun w hS => (by first | rfl | (obtain ⟨h0, h1, h2⟩ := hS; go_simp; done))⟩) (by assumption) ?_
        try simp only [Act.put, List.getElem_toArray, List.getElem_cons_succ, List.getElem_cons_zero, List.setIfInBounds_toArray, List.set_cons_zero, List.set_cons_succ]
        refine wpAnyH_ready (rs := [4, 13]) (by kernel_rfl) (by simp) ?_
        refine AllReadyH.cons rfl (fun K hK => ?_) (AllReadyH.cons rfl (fun K hK => ?_) (AllReadyH.nil))
        focus
          rw [if_pos (by rfl)]
          go_simp
          refine hK.out _ _ (by assumption) (fun hS => ?_)
          clear hK K
          try simp only [Act.put, List.getElem_toArray, List.getElem_cons_succ, List.getElem_cons_zero, List.setIfInBounds_toArray, List.set_cons_zero, List.set_cons_succ]
          refine wpAnyH_ready (rs := [13]) (by kernel_rfl) (by simp) ?_
          refine AllReadyH.cons rfl (fun K hK => ?_) (AllReadyH.nil)
          rw [if_pos (by rfl)]
          go_simp
          refine hK.out _ _ HE.out (fun hS => ?_)
          clear hK K
          try simp only [Act.put, List.getElem_toArray, List.getElem_cons_succ, List.getElem_cons_zero, List.setIfInBounds_toArray, List.set_cons_zero, List.set_cons_succ]
          refine wpAnyH_ready (rs := [14]) (by kernel_rfl) (by simp) ?_
          refine AllReadyH.cons rfl (fun K hK => ?_) (AllReadyH.nil)
          rw [if_pos (by rfl)]
          refine wp_append_at (.tmp 23) (.tmp 32) 92 rfl w.heap.size 99 i0 _ 3 32 Try.underlying92 hi0 hz0 hz1 hz2 rfl (by omega) (.slice A k c) k (lcells Q 0 (C.take k)) rfl (own_ee HA.out r) ⟨wa.heap.size + 1, 0, none⟩ 1 1 (ccells r wa.heap.size) rfl rfl (new_conn wa r) (ccells_one _ _) (by unfold maxLen; omega) (by omega) (by have := HBa.out.size; simp; omega) ?_
          intro A5 n5 c5 w5 hn5 hown5 hg5 hat5
          obtain ⟨e5, f5, g5⟩ := conn_after HA.out hbx hgb r hg5
          have Hg5 := Lib.hid hg5
          clear hg5
          refine hK.out _ _ g5 (fun hS => ?_)
          clear hK K
          try simp only [Act.put, List.getElem_toArray, List.getElem_cons_succ, List.getElem_cons_zero, List.setIfInBounds_toArray, List.set_cons_zero, List.set_cons_succ]
          refine wpAnyH_take (i := 15) (v := .pointer (some ⟨w1.heap.size, 0, none⟩)) rfl (by kernel_rfl) (by kernel_rfl) (by kernel_rfl) (fun _ _ _ h => h) (Or.inl ⟨by rfl, fun w hS => (by first | rfl | (obtain ⟨h0, h1, h2⟩ := hS; go_simp; done))⟩) (by assumption) ?_
          try simp only [Act.put, List.getElem_toArray, List.getElem_cons_succ, List.getElem_cons_zero, List.setIfInBounds_toArray, List.set_cons_zero, List.set_cons_succ]
          refine wpAnyH_take (i := 16) (v := .pointer (some ⟨w1.heap.size, 0, none⟩)) rfl (by kernel_rfl) (by kernel_rfl) (by kernel_rfl) (fun _ _ _ h => h) (Or.inl ⟨by rfl, fun w hS => (by first | rfl | (obtain ⟨h0, h1, h2⟩ := hS; go_simp; done))⟩) (by assumption) ?_
          try simp only [Act.put, List.getElem_toArray, List.getElem_cons_succ, List.getElem_cons_zero, List.setIfInBounds_toArray, List.set_cons_zero, List.set_cons_succ]
          refine wpAnyH_ready (rs := [17]) (by kernel_rfl) (by simp) ?_
          refine AllReadyH.cons rfl (fun K hK => ?_) (AllReadyH.nil)
          rw [if_pos (by rfl)]
          go_simp
          refine hK.out _ _ (by rw [World.cell?_setCell_far _ _ _ _ hne, World.cell?_setCell_far _ _ _ _ hne, World.cell?_setCell_far _ _ _ _ hne]; exact g5) (fun hS => ?_)
          clear hK K
          try simp only [Act.put, List.getElem_toArray, List.getElem_cons_succ, List.getElem_cons_zero, List.setIfInBounds_toArray, List.set_cons_zero, List.set_cons_succ]
          refine wpAnyH_done (by kernel_rfl) ?_ _
        rotate_left 1
        focus
          rw [if_pos (by rfl)]
          go_simp
          refine hK.out _ _ HE.out (fun hS => ?_)
          clear hK K
          try simp only [Act.put, List.getElem_toArray, List.getElem_cons_succ, List.getElem_cons_zero, List.setIfInBounds_toArray, List.set_cons_zero, List.set_cons_succ]
          refine wpAnyH_ready (rs := [4]) (by kernel_rfl) (by simp) ?_
          refine AllReadyH.cons rfl (fun K hK => ?_) (AllReadyH.nil)
          rw [if_pos (by rfl)]
          go_simp
          refine hK.out _ _ (by assumption) (fun hS => ?_)
          clear hK K
          try simp only [Act.put, List.getElem_toArray, List.getElem_cons_succ, List.getElem_cons_zero, List.setIfInBounds_toArray, List.set_cons_zero, List.set_cons_succ]
          refine wpAnyH_ready (rs := [14]) (by kernel_rfl) (by simp) ?_
          refine AllReadyH.cons rfl (fun K hK => ?_) (AllReadyH.nil)
          rw [if_pos (by rfl)]
          refine wp_append_at (.tmp 23) (.tmp 32) 92 rfl w.heap.size 99 i0 _ 3 32 Try.underlying92 hi0 hz0 hz1 hz2 rfl (by omega) (.slice A k c) k (lcells Q 0 (C.take k)) rfl (own_ee HA.out r) ⟨wa.heap.size + 1, 0, none⟩ 1 1 (ccells r wa.heap.size) rfl rfl (new_conn wa r) (ccells_one _ _) (by unfold maxLen; omega) (by omega) (by have := HBa.out.size; simp; omega) ?_
          intro A5 n5 c5 w5 hn5 hown5 hg5 hat5
          obtain ⟨e5, f5, g5⟩ := conn_after HA.out hbx hgb r hg5
          have Hg5 := Lib.hid hg5
          clear hg5
          refine hK.out _ _ g5 (fun hS => ?_)
          clear hK K
          try simp only [Act.put, List.getElem_toArray, List.getElem_cons_succ, List.getElem_cons_zero, List.setIfInBounds_toArray, List.set_cons_zero, List.set_cons_succ]
          refine wpAnyH_take (i := 15) (v := .pointer (some ⟨w1.heap.size, 0, none⟩)) rfl (by kernel_rfl) (by kernel_rfl) (by kernel_rfl) (fun _ _ _ h => h) (Or.inl ⟨by rfl, fun w hS => (by first | rfl | (obtain ⟨h0, h1, h2⟩ := hS; go_simp; done))⟩) (by assumption) ?_
          try simp only [Act.put, List.getElem_toArray, List.getElem_cons_succ, List.getElem_cons_zero, List.setIfInBounds_toArray, List.set_cons_zero, List.set_cons_succ]
          refine wpAnyH_take (i := 16) (v := .pointer (some ⟨w1.heap.size, 0, none⟩)) rfl (by kernel_rfl) (by kernel_rfl) (by kernel_rfl) (fun _ _ _ h => h) (Or.inl ⟨by rfl, fun w hS => (by first | rfl | (obtain ⟨h0, h1, h2⟩ := hS; go_simp; done))⟩) (by assumption) ?_
          try simp only [Act.put, List.getElem_toArray, List.getElem_cons_succ, List.getElem_cons_zero, List.setIfInBounds_toArray, List.set_cons_zero, List.set_cons_succ]
          refine wpAnyH_ready (rs := [17]) (by kernel_rfl) (by simp) ?_
          refine AllReadyH.cons rfl (fun K hK => ?_) (AllReadyH.nil)
          rw [if_pos (by rfl)]
          go_simp
          refine hK.out _ _ (by rw [World.cell?_setCell_far _ _ _ _ hne, World.cell?_setCell_far _ _ _ _ hne, World.cell?_setCell_far _ _ _ _ hne]; exact g5) (fun hS => ?_)
          clear hK K
          try simp only [Act.put, List.getElem_toArray, List.getElem_cons_succ, List.getElem_cons_zero, List.setIfInBounds_toArray, List.set_cons_zero, List.set_cons_succ]
          refine wpAnyH_done (by kernel_rfl) ?_ _
      all_goals
        go_wp2_with fail
        obtain ⟨ρ2, Q2, h2, hb2⟩ := Chs.more HA.out HR1.out HOK.out (by omega) (wb := (wa.drew.alloc (.cells (ecells r.c).toArray (etype r.c))).alloc (.cells (ccells r wa.heap.size).toArray 99)) ((Below.refl _ _).alloc (by simp) _) (by simp) hown5.out Hg5.out hat5.out hn5.out
        have H2 := Lib.hid h2
        have HB2 := Lib.hid (show Below w.heap.size w (w5.setCell ⟨w1.heap.size, 0, none⟩ (.slice A5 n5 c5)) from HBa.out.drew.trans hb2)
        obtain rfl : n5 = k + 1 := hn5.out
        clear h2 hb2
        go_roundw
        case rel => exact ⟨k + 1, ρ2, A5, c5, Q2, by omega, by go_num, H2, HB2⟩
        case measure => simp [intOf]; omega
    · obtain rfl : k = n3 := by omega
      go_wp2_with fail
      go_ret2
      exact ⟨_, ρ1, A, c, Q, rfl, by have := H1.out; rwa [List.take_of_length_le (by have := HCT.out.1; omega)] at this, HB.out⟩
end Go.Proofs.Ytegnehdfedfphaa.PrtH
namespace Go.Proofs.Ytegnehdfedfphaa.PrtW
open Go.RowKit Go.Proofs.Ytegnehdfedfphaa.Kit Go.Proofs.Ytegnehdfedfphaa.Byt Go.Proofs.Ytegnehdfedfphaa.Mem Go.Proofs.Ytegnehdfedfphaa.TabI Go.Proofs.Ytegnehdfedfphaa.PrtM Go.Proofs.Ytegnehdfedfphaa.PrtA Go.Proofs.Ytegnehdfedfphaa.PrtB Go.Proofs.Ytegnehdfedfphaa.PrtC Go.Proofs.Ytegnehdfedfphaa.PrtD Go.Proofs.Ytegnehdfedfphaa.PrtE Go.Proofs.Ytegnehdfedfphaa.PrtF Go.Proofs.Ytegnehdfedfphaa.PrtG Go.Proofs.Ytegnehdfedfphaa.PrtH
open Go.Proofs.Ytegnehdfedfphaa.TabA (Tri Tris Ta)
open Go.Proofs.Ytegnehdfedfphaa.TabB (Bx Yes PartOk)
open Go.Proofs.Ytegnehdfedfphaa.TabC (WinOk endAt)
open Go.Proofs.Ytegnehdfedfphaa.TabD (right bool_of huge)
open Go.Proofs.Ytegnehdfedfphaa.TabE (tcells Tris.of_blk ret_row size_table)

def exP : List Tri := [⟨1, 1, 0⟩, ⟨1, 1, 0⟩]
def exW : List Tri := [⟨0, 0, 1⟩]
def exC : List Tri := [⟨0, 1, 2⟩]
def ex (g1 g2 g3 : Nat) : Ta := ⟨4, some ⟨g1, 0, none⟩, 2, 2, exP, some ⟨g2, 0, none⟩, 1, 1, exW, some ⟨g3, 0, none⟩, 1, 1, exC, 1⟩
theorem ex_right (g1 g2 g3 : Nat) : right (ex g1 g2 g3) := by
  refine ⟨⟨by show (1 : Int) ≤ 4; omega, by show (4 : Int) ≤ 64; omega⟩, ⟨by show (1 : Int) ≤ 1; omega, by show (1 : Int) ≤ 7; omega⟩, ⟨⟨by show 2 ≤ 2; omega, by show 2 ≤ 4; omega⟩, ?_⟩, ⟨by show 1 ≤ 8; omega, ?_, 0, _, rfl, rfl⟩, ⟨by show 1 ≤ 4; omega, ?_⟩⟩
  · intro k r hr
    match k, hr with
    | 0, hr => injection hr with hr; subst hr; simp [PartOk]
    | 1, hr => injection hr with hr; subst hr; simp [PartOk]
    | k + 2, hr => simp [ex, exP] at hr
  · intro k r hr
    match k, hr with
    | 0, hr => injection hr with hr; subst hr; simp [WinOk, endAt, ex, exP]
    | k + 1, hr => simp [ex, exW] at hr
  · intro k r hr
    match k, hr with
    | 0, hr => injection hr with hr; subst hr; simp [Go.Proofs.Ytegnehdfedfphaa.TabC.ChanOk, ex, exP]
    | k + 1, hr => simp [ex, exC] at hr
theorem exP_ok : ∀ r ∈ exP, r.ok := by
  intro r hr
  simp only [exP, List.mem_cons, List.not_mem_nil, or_false] at hr
  rcases hr with rfl | rfl <;> exact ⟨by decide, by decide, by decide, by decide, by decide, by decide⟩
theorem exW_ok : ∀ r ∈ exW, r.ok := by
  intro r hr
  simp only [exW, List.mem_cons, List.not_mem_nil, or_false] at hr
  subst hr
  exact ⟨by decide, by decide, by decide, by decide, by decide, by decide⟩
theorem exC_ok : ∀ r ∈ exC, r.ok := by
  intro r hr
  simp only [exC, List.mem_cons, List.not_mem_nil, or_false] at hr
  subst hr
  exact ⟨by decide, by decide, by decide, by decide, by decide, by decide⟩
theorem ex_ok {w : World} {g1 g2 g3 : Nat} {t1 t2 t3 : TypeId} (h1 : Blk w g1 t1 (tcells exP)) (h2 : Blk w g2 t2 (tcells exW)) (h3 : Blk w g3 t3 (tcells exC)) : (ex g1 g2 g3).ok w :=
  ⟨Tris.of_blk (R := exP) (c := 2) (xs := []) (by simpa using h1) (Nat.le_refl _) (by decide) exP_ok, Tris.of_blk (R := exW) (c := 1) (xs := []) (by simpa using h2) (Nat.le_refl _) (by decide) exW_ok, Tris.of_blk (R := exC) (c := 1) (xs := []) (by simpa using h3) (Nat.le_refl _) (by decide) exC_ok,
    by show -9223372036854775808 ≤ (4 : Int); omega, by show (4 : Int) ≤ 9223372036854775807; omega, by show -9223372036854775808 ≤ (1 : Int); omega, by show (1 : Int) ≤ 9223372036854775807; omega⟩
theorem five (w : World) (o0 o1 : Obj) (t2 t3 t4 : TypeId) (x2 x3 x4 : List Value) :
    Blk (((((w.alloc o0).alloc o1).alloc (.cells x2.toArray t2)).alloc (.cells x3.toArray t3)).alloc (.cells x4.toArray t4)) (w.heap.size + 1 + 1) t2 x2 ∧
    Blk (((((w.alloc o0).alloc o1).alloc (.cells x2.toArray t2)).alloc (.cells x3.toArray t3)).alloc (.cells x4.toArray t4)) (w.heap.size + 1 + 1 + 1) t3 x3 ∧
    Blk (((((w.alloc o0).alloc o1).alloc (.cells x2.toArray t2)).alloc (.cells x3.toArray t3)).alloc (.cells x4.toArray t4)) (w.heap.size + 1 + 1 + 1 + 1) t4 x4 ∧
    Below w.heap.size w (((((w.alloc o0).alloc o1).alloc (.cells x2.toArray t2)).alloc (.cells x3.toArray t3)).alloc (.cells x4.toArray t4)) := by
  refine ⟨?_, ?_, ?_, ?_⟩
  · have h := ((Blk.new ((w.alloc o0).alloc o1) t2 x2).alloc (.cells x3.toArray t3)).alloc (.cells x4.toArray t4)
    rwa [World.size_alloc, World.size_alloc] at h
  · have h := (Blk.new (((w.alloc o0).alloc o1).alloc (.cells x2.toArray t2)) t3 x3).alloc (.cells x4.toArray t4)
    rwa [World.size_alloc, World.size_alloc, World.size_alloc] at h
  · have h := Blk.new ((((w.alloc o0).alloc o1).alloc (.cells x2.toArray t2)).alloc (.cells x3.toArray t3)) t4 x4
    rwa [World.size_alloc, World.size_alloc, World.size_alloc, World.size_alloc] at h
  · exact ((((Below.refl _ w).alloc (Nat.le_refl _) _).alloc (by simp) _).alloc (by simp; omega) _).alloc (by simp; omega) _ |>.alloc (by simp; omega) _
section
variable {B S n c : Nat} {w : World} {ρ : Nat → Lab} {A : Option Addr} {Q : Nat → Nat} {L : Nat → List Int}
theorem ex_send (h : Chs B w ρ S A n c Q exC L) (l l' : List Int) (y : Int) (v : Bool) (hl : L 0 = l) (h0 : 0 ≤ y) (h1 : y ≤ 65535) (hv : v = !full 2 l) (hl' : l' = sndL 2 l y) :
    Calls Try.prog 16 #[.pointer (some ⟨S, 0, none⟩), .int .i64 0, .int .i64 0, .int .i64 y] w (Lft B w ρ S A n c Q exC (up L 0 l') (.tuple #[.bool v, .int .i64 0])) := by
  subst hl
  subst hv
  subst hl'
  exact send_yes h (k := 0) (r := ⟨0, 1, 2⟩) rfl 0 y rfl h0 h1
theorem ex_get (h : Chs B w ρ S A n c Q exC L) (l l' : List Int) (x : Int) (v : Bool) (hl : L 0 = l) (hx : x = getN l) (hv : v = getB l) (hl' : l' = getL 2 l) :
    Calls Try.prog 100 #[.pointer (some ⟨S, 0, none⟩), .int .i64 1, .int .i64 0] w (Lft B w ρ S A n c Q exC (up L 0 l') (.tuple #[.int .i64 x, .bool v, .int .i64 0])) := by
  subst hl
  subst hx
  subst hv
  subst hl'
  exact get_yes h (k := 0) (r := ⟨0, 1, 2⟩) rfl 1 rfl
end
end Go.Proofs.Ytegnehdfedfphaa.PrtW
namespace Go.Proofs.Ytegnehdfedfphaa.PrtO
open Go.RowKit Go.Proofs.Ytegnehdfedfphaa.Kit Go.Proofs.Ytegnehdfedfphaa.Byt Go.Proofs.Ytegnehdfedfphaa.Mem Go.Proofs.Ytegnehdfedfphaa.TabI
open Go.Proofs.Ytegnehdfedfphaa.TabA (Tri Tris Ta)
open Go.Proofs.Ytegnehdfedfphaa.TabB (Yes)
open Go.Proofs.Ytegnehdfedfphaa.TabD (huge)

structure Ac where
  kind : Int
  part : Int
  ch : Int
  num : Int
instance : Inhabited Ac := ⟨⟨0, 0, 0, 0⟩⟩
def Ac.cells (r : Ac) : List Value := [.int .i64 r.kind, .int .i64 r.part, .int .i64 r.ch, .int .i64 r.num]
def I64 (x : Int) : Prop := -9223372036854775808 ≤ x ∧ x ≤ 9223372036854775807
structure Ac.ok (r : Ac) : Prop where
  k : I64 r.kind
  p : I64 r.part
  c : I64 r.ch
  n : I64 r.num
/-- The slice at A is these acts. -/
def Acts (w : World) (A : Option Addr) (n c : Nat) (R : List Ac) : Prop :=
  R.length = n ∧ n ≤ c ∧ c ≤ 9223372036854775807 ∧ (∀ r ∈ R, r.ok) ∧
  (0 < n → ∃ b o, A = some ⟨b, o, none⟩ ∧ b < w.heap.size ∧ ∀ k r, R[k]? = some r → ∀ j u, r.cells[j]? = some u → w.cell? ⟨b, o + k * 4 + j, none⟩ = some u)
theorem Acts.below {w w' : World} {A : Option Addr} {n c : Nat} {R : List Ac} (h : Acts w A n c R) (hb : Below w.heap.size w w') : Acts w' A n c R :=
  ⟨h.1, h.2.1, h.2.2.1, h.2.2.2.1, fun hp => by
    obtain ⟨b, o, hA, hbl, hc⟩ := h.2.2.2.2 hp
    exact ⟨b, o, hA, Nat.lt_of_lt_of_le hbl hb.size, fun k r hr j u hu => (hb.cell (p := ⟨b, o + k * 4 + j, none⟩) hbl).trans (hc k r hr j u hu)⟩⟩
/-- The k-th act's cells. -/
theorem Acts.at_ {w : World} {A : Option Addr} {n c : Nat} {R : List Ac} (h : Acts w A n c R) {k : Nat} (hk : k < n) :
    ∃ (r : Ac) (b o : Nat), R[k]? = some r ∧ r.ok ∧ A = some ⟨b, o, none⟩ ∧ b < w.heap.size ∧ w.cell? ⟨b, o + k * 4, none⟩ = some (.int .i64 r.kind) ∧ w.cell? ⟨b, o + k * 4 + 1, none⟩ = some (.int .i64 r.part) ∧ w.cell? ⟨b, o + k * 4 + 2, none⟩ = some (.int .i64 r.ch) ∧ w.cell? ⟨b, o + k * 4 + 3, none⟩ = some (.int .i64 r.num) := by
  obtain ⟨b, o, hA, hb, hc⟩ := h.2.2.2.2 (by omega)
  have hk' : k < R.length := by rw [h.1]; exact hk
  have hr := List.getElem?_eq_getElem hk'
  have hm := List.getElem_mem hk'
  exact ⟨R[k], b, o, hr, h.2.2.2.1 _ hm, hA, hb, hc k _ hr 0 _ rfl, hc k _ hr 1 _ rfl, hc k _ hr 2 _ rfl, hc k _ hr 3 _ rfl⟩
theorem i64_at {w : World} {A : Option Addr} {n c : Nat} {l : List Int} (h : Rd w A n c (i64s l)) {k : Nat} (hk : k < n) : ∃ (x : Int) (b o : Nat), l[k]? = some x ∧ A = some ⟨b, o, none⟩ ∧ b < w.heap.size ∧ w.cell? ⟨b, o + k, none⟩ = some (.int .i64 x) := by
  obtain ⟨b, o, hA, hb, hc⟩ := h.2.2.2 (by omega)
  have hl : k < l.length := by have := h.1; rw [i64s_len] at this; omega
  exact ⟨l[k], b, o, List.getElem?_eq_getElem hl, hA, hb, hc k _ (by simp [i64s, List.getElem?_eq_getElem hl])⟩
set_option maxRecDepth 100000 in
set_option maxHeartbeats 800000 in
theorem same_ints (A B : Option Addr) (n m c d : Nat) (xs : List Int) (w : World) (hx : Rd w A n c (i64s xs)) (hy : Rd w B m d (i64s xs)) :
    Calls Try.prog 21 #[.slice A n c, .slice B m d] w fun e w' => e = .returned (.bool true) ∧ ∃ n, w' = w.drewN n := by
  obtain rfl : xs.length = n := by have := hx.1; rwa [i64s_len] at this
  obtain rfl : xs.length = m := by have := hy.1; rwa [i64s_len] at this
  have lx : xs.length ≤ 9223372036854775807 := by have := hx.le; have := hx.cap; omega
  go_enter Try.func21, Try.ntmps21
  go_wp2
  go_loopw [5] (fun i wr => ∃ k : Nat, k ≤ xs.length ∧ i = .int .i64 k ∧ (∃ n, wr = w.drewN n)) (fun i _ => xs.length - (intOf i).toNat)
  case atStart => exact ⟨0, Nat.zero_le _, rfl, ⟨0, rfl⟩⟩
  case round =>
    obtain ⟨k, hk, rfl, ⟨n, rfl⟩⟩ := hrel
    by_cases hlt : k < xs.length
    · obtain ⟨x, bx, ox, hx1, rfl, _, gx⟩ := i64_at hx hlt
      obtain ⟨y, by', oy, hy1, rfl, _, gy⟩ := i64_at hy hlt
      obtain rfl : x = y := by rw [hx1] at hy1; injection hy1
      clear hx1 hy1
      go_wp2_with fail
      go_quiet (fail)
      go_wp2
      go_roundw
      case rel => exact ⟨k + 1, by omega, by go_num, ⟨_, rfl⟩⟩
      case measure => simp [intOf]; omega
    · go_wp2
      go_ret
      exact ⟨rfl, n, rfl⟩
end Go.Proofs.Ytegnehdfedfphaa.PrtO
