/- Channels whose numbers fit, in plain terms. No conditions but those each law names. The reference's stack, whichever instruction; its machine with its channels and what it tells. Conditions: they lie as the facts say. -/
import Derived.Test.YtegnehdfedfphaaJ09
import Derived.Test.YtegnehdfedfphaaJ01
import Derived.Test.YtegnehdfedfphaaVmrF
namespace Go.Proofs.Ytegnehdfedfphaa.VmrP
open Go.RowKit Go.Proofs.Ytegnehdfedfphaa.Kit Go.Proofs.Ytegnehdfedfphaa.PrtM Go.Proofs.Ytegnehdfedfphaa.PrtX Go.Proofs.Ytegnehdfedfphaa.VmcM
open Go.Proofs.Ytegnehdfedfphaa.TabA (Tri)

/-- What every channel holds fits. -/
def Ft (C : List Tri) (L : Nat → List Int) : Prop := ∀ (k : Nat) (r : Tri), C[k]? = some r → (0 ≤ r.c ∧ r.c ≤ 4) ∧ ((L k).length : Int) ≤ max r.c 1 ∧ ∀ y ∈ L k, num y
section
variable {C : List Tri} {L : Nat → List Int} {p k y : Int}
theorem Ft.fits (h : Ft C L) : Fits C L := fun k r hr => by
  obtain ⟨h1, h2, _⟩ := h k r hr
  exact ⟨h1, by omega⟩
theorem chan_some {r : Tri} (h : chan C k = some r) : ∃ j : Nat, k = j ∧ C[j]? = some r := by
  unfold chan at h
  split at h
  · rename_i h0
    exact ⟨k.toNat, by omega, h⟩
  · cases h
theorem Ft.snds (h : Ft C L) : Ft C (snds C L p k y).2 := by
  cases hk : sndOk C p k with
  | false => rw [snds_no hk]; exact h
  | true =>
    by_cases hy : y < 0 ∨ 65535 < y
    · rw [snds_range hk hy]; exact h
    · obtain ⟨j, r, rfl, hr, ha⟩ : ∃ (j : Nat) (r : Tri), k = j ∧ C[j]? = some r ∧ r.a = p := by
        unfold sndOk at hk
        split at hk
        · cases hk
        · rename_i r hc
          obtain ⟨j, hj, hr⟩ := chan_some hc
          exact ⟨j, r, hj, hr, by simpa using hk⟩
      rw [snds_yes hr ha (by omega) (by omega)]
      intro k' r' hr'
      by_cases e : k' = j
      · subst e
        obtain ⟨h1, h2, h3⟩ := h k' r' hr'
        rw [hr] at hr'
        injection hr' with hr'
        subst hr'
        show _ ∧ ((up L k' (sndL r.c (L k') y) k').length : Int) ≤ max r.c 1 ∧ ∀ z ∈ up L k' (sndL r.c (L k') y) k', num z
        rw [up_same]
        refine ⟨h1, ?_, ?_⟩
        · unfold sndL
          split
          · simp; omega
          · split
            · exact h2
            · rename_i h4 h5
              unfold full at h5
              simp only [decide_eq_true_eq] at h5
              simp only [List.length_append, List.length_cons, List.length_nil]
              omega
        · have ny : num y := ⟨by omega, by omega⟩
          unfold sndL
          split
          · intro z hz; simp at hz; subst hz; exact ny
          · split
            · exact h3
            · intro z hz
              rcases List.mem_append.1 hz with hz | hz
              · exact h3 z hz
              · simp at hz; subst hz; exact ny
      · show _ ∧ ((up L j (sndL r.c (L j) y) k').length : Int) ≤ max r'.c 1 ∧ ∀ z ∈ up L j (sndL r.c (L j) y) k', num z
        rw [up_other e]
        exact h k' r' hr'
theorem Ft.gets (h : Ft C L) : Ft C (gets C L p k).2 ∧ num (gets C L p k).1.1 := by
  cases hk : getOk C p k with
  | false => rw [gets_no hk]; exact ⟨h, show num 0 from ⟨by decide, by decide⟩⟩
  | true =>
    obtain ⟨j, r, rfl, hr, hb⟩ : ∃ (j : Nat) (r : Tri), k = j ∧ C[j]? = some r ∧ r.b = p := by
      unfold getOk at hk
      split at hk
      · cases hk
      · rename_i r hc
        obtain ⟨j, hj, hr⟩ := chan_some hc
        exact ⟨j, r, hj, hr, by simpa using hk⟩
    rw [gets_yes hr hb]
    obtain ⟨g1, g2, g3⟩ := h j r hr
    refine ⟨fun k' r' hr' => ?_, ?_⟩
    · by_cases e : k' = j
      · subst e
        rw [hr] at hr'
        injection hr' with hr'
        subst hr'
        show _ ∧ ((up L k' (getL r.c (L k')) k').length : Int) ≤ max r.c 1 ∧ ∀ z ∈ up L k' (getL r.c (L k')) k', num z
        rw [up_same]
        unfold getL
        split
        · exact ⟨g1, g2, g3⟩
        · exact ⟨g1, by simp only [List.length_tail]; omega, fun z hz => g3 z (List.mem_of_mem_tail hz)⟩
      · show _ ∧ ((up L j (getL r.c (L j)) k').length : Int) ≤ max r'.c 1 ∧ ∀ z ∈ up L j (getL r.c (L j)) k', num z
        rw [up_other e]
        exact h k' r' hr'
    · show num (getN (L j))
      unfold getN
      cases hl : L j with
      | nil => exact ⟨by decide, by decide⟩
      | cons x l => exact g3 x (by rw [hl]; simp)
theorem ft_none (hC : ∀ (k : Nat) (r : Tri), C[k]? = some r → 0 ≤ r.c ∧ r.c ≤ 4) : Ft C fun _ => [] := fun k r hr => ⟨hC k r hr, by simp; omega, by simp⟩
end
end Go.Proofs.Ytegnehdfedfphaa.VmrP
namespace Go.Proofs.Ytegnehdfedfphaa.VmrG
open Go.RowKit Go.Proofs.Ytegnehdfedfphaa.Kit Go.Proofs.Ytegnehdfedfphaa.Byt Go.Proofs.Ytegnehdfedfphaa.Mem Go.Proofs.Ytegnehdfedfphaa.OpsM Go.Proofs.Ytegnehdfedfphaa.VmcM Go.Proofs.Ytegnehdfedfphaa.VmrA Go.Proofs.Ytegnehdfedfphaa.VmrB Go.Proofs.Ytegnehdfedfphaa.VmrE Go.Proofs.Ytegnehdfedfphaa.VmrF Go.Proofs.Ytegnehdfedfphaa.VmrP Go.Proofs.Ytegnehdfedfphaa.PrtM
open Go.Proofs.Ytegnehdfedfphaa.ImgA (Im)
open Go.Proofs.Ytegnehdfedfphaa.TabA (Tri)
open Go.Proofs.Ytegnehdfedfphaa.TabI (i64s i64s_len i64s_one)
open Go.Proofs.Ytegnehdfedfphaa.PrtA (Lab Stp Bd)
open Go.Proofs.Ytegnehdfedfphaa.PrtR (Ref Rf Rft)

section
variable {B N n c m d : Nat} {A D : Option Addr} {i : Im} {z : Z} {w w' w2 : World} {ρ ρ' : Nat → Lab} {o a : Int}
theorem stack_any (h : Rm B w ρ N i A n c D m d z) (ho : 0 ≤ o ∧ o ≤ 18) (ha : 0 ≤ a ∧ a ≤ 255) (hc : o ≠ 13 → o ≠ 14 → o ≠ 15 → takes o ≤ n ∧ n + lays o ≤ 8 + takes o) (hm : o = 10 ∨ o = 11 → a < m) (ht : 0 ≤ z.tk ∧ z.tk ≤ 1000000) :
    Calls Try.prog 34 #[.pointer (some ⟨N, 0, none⟩), .agg #[.int .i64 o, .int .i64 a]] w (Rs B w ρ N i D m d (stkS o a z) (.tuple #[])) := by
  rcases (show o = 0 ∨ o = 1 ∨ o = 2 ∨ o = 3 ∨ o = 4 ∨ o = 5 ∨ o = 6 ∨ o = 7 ∨ o = 8 ∨ o = 9 ∨ o = 10 ∨ o = 11 ∨ o = 12 ∨ o = 13 ∨ o = 14 ∨ o = 15 ∨ o = 16 ∨ o = 17 ∨ o = 18 by omega) with rfl | rfl | rfl | rfl | rfl | rfl | rfl | rfl | rfl | rfl | rfl | rfl | rfl | rfl | rfl | rfl | rfl | rfl | rfl
  · exact s_0 h ha
  · exact s_1 h ha (by have := hc (by decide) (by decide) (by decide); rw [show takes 1 = 0 from rfl, show lays 1 = 1 from rfl] at this; omega)
  · exact s_2 h ha (by have := hc (by decide) (by decide) (by decide); rw [show takes 2 = 1 from rfl] at this; omega)
  · exact s_3 h ha (by have := hc (by decide) (by decide) (by decide); rw [show takes 3 = 1 from rfl] at this; omega) (by have := hc (by decide) (by decide) (by decide); rw [show takes 3 = 1 from rfl, show lays 3 = 2 from rfl] at this; omega)
  · exact s_4 h ha (by have := hc (by decide) (by decide) (by decide); rw [show takes 4 = 2 from rfl] at this; omega)
  · exact s_5 h ha (by have := hc (by decide) (by decide) (by decide); rw [show takes 5 = 2 from rfl] at this; omega)
  · exact s_6 h ha (by have := hc (by decide) (by decide) (by decide); rw [show takes 6 = 2 from rfl] at this; omega)
  · exact s_7 h ha (by have := hc (by decide) (by decide) (by decide); rw [show takes 7 = 2 from rfl] at this; omega)
  · exact s_8 h ha (by have := hc (by decide) (by decide) (by decide); rw [show takes 8 = 2 from rfl] at this; omega)
  · exact s_9 h ha (by have := hc (by decide) (by decide) (by decide); rw [show takes 9 = 2 from rfl] at this; omega)
  · exact s_10 h ha (by have := hc (by decide) (by decide) (by decide); rw [show takes 10 = 0 from rfl, show lays 10 = 1 from rfl] at this; omega) (hm (.inl rfl))
  · exact s_11 h ha (by have := hc (by decide) (by decide) (by decide); rw [show takes 11 = 1 from rfl] at this; omega) (hm (.inr rfl))
  · exact s_12 h ha
  · exact s_13 h ha
  · exact s_14 h ha
  · exact s_15 h ha
  · exact s_16 h ha
  · exact s_17 h ha
  · exact s_18 h ha (by have := hc (by decide) (by decide) (by decide); rw [show takes 18 = 0 from rfl, show lays 18 = 1 from rfl] at this; omega) ht
end

def pcs (p : Int × Int) : List Value := [.int .i64 p.1, .int .i64 p.2]
/-- What is told so far, at block ob. -/
structure Ob (B : Nat) (w : World) (ρ : Nat → Lab) (ob : Nat) (A : Option Addr) (n c : Nat) (sn : List (Int × Int)) (cf : Bool) : Prop where
  blk : Blk w ob 53 [.slice A n c, .bool cf]
  lo : ρ ob = .own 12
  row : w.ownsRow B 78 2 (.slice A n c) n (sn.flatMap pcs)
  lr : ∀ g, (Value.slice A n c).ownBlock = some g → ρ g = .own 13
  most : n ≤ 1000
/-- What the reference's tick may touch. -/
def Ra (l : Lab) : Prop := Rl l ∨ Ref l ∨ l = .own 12 ∨ l = .own 13
theorem ra_out : ¬ Ra .out := by
  rintro ((e | e) | (e | e) | e | e) <;> cases e
theorem ref_own (k : Nat) : ¬ Ref (.own k) := by rintro (e | e) <;> cases e
theorem ref_out : ¬ Ref .out := by rintro (e | e) <;> cases e
theorem rl_12 : ¬ Rl (.own 12) := by rintro (e | e) <;> (injection e with e; omega)
theorem rl_13 : ¬ Rl (.own 13) := by rintro (e | e) <;> (injection e with e; omega)
section
variable {B ob n c : Nat} {A : Option Addr} {sn : List (Int × Int)} {cf : Bool} {w w' : World} {ρ ρ' : Nat → Lab} {F : Lab → Prop}
theorem Ob.carry (h : Ob B w ρ ob A n c sn cf) (hs : Stp F w ρ w' ρ') (h1 : ¬ F (.own 12)) (h2 : ¬ F (.own 13)) : Ob B w' ρ' ob A n c sn cf where
  blk := hs.keep.blk h.blk (by rw [h.lo]; exact h1)
  lo := by rw [hs.old ob h.blk.lt]; exact h.lo
  row := hs.keep.own h.row fun g hg hf => h2 (h.lr g hg ▸ hf)
  lr := fun g hg => by rw [hs.old g (h.row.lt g hg).2]; exact h.lr g hg
  most := h.most
theorem Ob.below (h : Ob B w ρ ob A n c sn cf) (hbd : Bd B w ρ) (hb : Below w.heap.size w w') : Ob B w' ρ ob A n c sn cf := h.carry (F := fun _ => False) (Stp.of_below hbd hb) id id
end
/-- The reference's machine at N, its channels at X, what it tells at ob. -/
structure Rw (B : Nat) (w : World) (ρ : Nat → Lab) (N : Nat) (i : Im) (D : Option Addr) (m d : Nat) (X gl : Nat) (A' : Option Addr) (nc c' : Nat) (C : List Tri) (ob : Nat) (z : Z) (L : Nat → List Int) (sn : List (Int × Int)) (cf : Bool) : Prop where
  rm : ∃ A n c, Rm B w ρ N i A n c D m d z
  rf : Rf B w ρ X gl A' nc c' C L
  ob : ∃ A n c, Ob B w ρ ob A n c sn cf
  ft : Ft C L
section
variable {B N m d X gl nc c' ob : Nat} {D A' : Option Addr} {i : Im} {C : List Tri} {z u : Z} {L L' : Nat → List Int} {sn : List (Int × Int)} {cf : Bool} {w w' : World} {ρ ρ' : Nat → Lab} {e : Ending} {r v : Value}
theorem Rw.bd (h : Rw B w ρ N i D m d X gl A' nc c' C ob z L sn cf) : Bd B w ρ := h.rf.bd
theorem Rw.below (h : Rw B w ρ N i D m d X gl A' nc c' C ob z L sn cf) (hb : Below w.heap.size w w') : Rw B w' ρ N i D m d X gl A' nc c' C ob z L sn cf := by
  obtain ⟨⟨A, n, c, h1⟩, h2, ⟨A2, n2, c2, h3⟩, h4⟩ := h
  exact ⟨⟨A, n, c, h1.below hb⟩, h2.below hb, ⟨A2, n2, c2, h3.below h2.bd hb⟩, h4⟩
/-- Behind a call on the machine alone. -/
theorem Rw.mach (h : Rw B w ρ N i D m d X gl A' nc c' C ob z L sn cf) (H : Rs B w ρ N i D m d u r e w') : e = .returned r ∧ Rw B w' ρ N i D m d X gl A' nc c' C ob u L sn cf ∧ Stp Ra w ρ w' ρ := by
  obtain ⟨h1, h2, ⟨A2, n2, c2, h3⟩, h4⟩ := h
  obtain ⟨k1, k2, k3⟩ := H
  exact ⟨k1, ⟨k2, h2.carry k3 (by rintro (e | e) <;> cases e) (by rintro (e | e) <;> cases e) (by rintro (e | e) <;> cases e), ⟨A2, n2, c2, h3.carry k3 rl_12 rl_13⟩, h4⟩, k3.mono fun l hl => .inl hl⟩
/-- Behind a call on the channels alone. -/
theorem Rw.chan (h : Rw B w ρ N i D m d X gl A' nc c' C ob z L sn cf) (hF : Ft C L') (H : Rft B w ρ X gl A' nc c' C L' v e w') : e = .returned v ∧ ∃ ρ', Rw B w' ρ' N i D m d X gl A' nc c' C ob z L' sn cf ∧ Stp Ra w ρ w' ρ' := by
  obtain ⟨⟨A, n, c, h1⟩, h2, ⟨A2, n2, c2, h3⟩, h4⟩ := h
  obtain ⟨k1, ρ', k2, k3⟩ := H
  exact ⟨k1, ρ', ⟨⟨A, n, c, h1.carry k3 ref_out (ref_own _) (ref_own _)⟩, k2, ⟨A2, n2, c2, h3.carry k3 (ref_own _) (ref_own _)⟩, hF⟩, k3.mono fun l hl => .inr (.inl hl)⟩
end
end Go.Proofs.Ytegnehdfedfphaa.VmrG
