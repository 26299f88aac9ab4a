/- Timers in memory: Swap. Conditions: they lie as the facts say. -/
import Derived.Test.YtgoogcjkokpicaaTimA
import Derived.Deep.RegionLaw
namespace Go.Proofs.Ytgoogcjkokpicaa.TimB
open Go.RowKit Go.Proofs.Ytgoogcjkokpicaa.Kit Go.Proofs.Ytgoogcjkokpicaa.Byt Go.Proofs.Ytgoogcjkokpicaa.Mem Go.Proofs.Ytgoogcjkokpicaa.TimM Go.Proofs.Ytgoogcjkokpicaa.TimA

section
variable {n c g i j bi bj : Nat} {w : World}
def SW (w : World) (g i j bi bj : Nat) (w' : World) : Prop := ∃ k, w' = (((((w.setCell ⟨g, i, none⟩ (.pointer (some ⟨bj, 0, none⟩))).setCell ⟨g, j, none⟩ (.pointer (some ⟨bi, 0, none⟩))).setCell ⟨bj, 2, none⟩ (.int .i64 (i : Nat))).setCell ⟨bi, 2, none⟩ (.int .i64 (j : Nat)))).drewN k
theorem swap_raw (hn : n ≤ 1000) (hi : i < n) (hj : j < n) (hij : i ≠ j) (hgi : g ≠ bi) (hgj : g ≠ bj) (hb : bi ≠ bj)
    (ci : w.cell? ⟨g, i, none⟩ = some (.pointer (some ⟨bi, 0, none⟩))) (cj : w.cell? ⟨g, j, none⟩ = some (.pointer (some ⟨bj, 0, none⟩)))
    (fi : w.frozen? ⟨g, i, none⟩ = false) (fj : w.frozen? ⟨g, j, none⟩ = false) (fbi : w.frozen? ⟨bi, 2, none⟩ = false) (fbj : w.frozen? ⟨bj, 2, none⟩ = false)
    (pi : (w.cell? ⟨bi, 2, none⟩).isSome = true) (pj : (w.cell? ⟨bj, 2, none⟩).isSome = true) :
    Calls Try.prog 44 #[.slice (some ⟨g, 0, none⟩) n c, .int .i64 (i : Nat), .int .i64 (j : Nat)] w fun e w' => e = .returned (.tuple #[]) ∧ SW w g i j bi bj w' := by
  obtain ⟨vi, hvi⟩ := Option.isSome_iff_exists.1 pi
  obtain ⟨vj, hvj⟩ := Option.isSome_iff_exists.1 pj
  clear pi pj
  go_enter Try.func44, Try.ntmps44
  go_wp2
  go_region
  go_wp2
  go_region
  go_wp2
  first | go_end0 | refine bodyPost_ret (results_none rfl _ _ _) rfl ?_
  exact ⟨rfl, 2, rfl⟩
end
def sg (i j k : Nat) : Nat := if k = j then i else if k = i then j else k
theorem sw_sg (g : Nat → En) (i j k : Nat) : sw g i j k = g (sg i j k) := by
  unfold sw sg
  split
  · rfl
  · split <;> rfl
theorem sg_lt {i j k n : Nat} (hi : i < n) (hj : j < n) (hk : k < n) : sg i j k < n := by
  unfold sg
  split
  · exact hi
  · split <;> assumption
theorem sg_inj {i j k k' : Nat} (h : sg i j k = sg i j k') : k = k' := by
  unfold sg at h
  split at h <;> split at h <;> (try split at h) <;> (try split at h) <;> omega
section
variable {B tb mb n c g i j : Nat} {F : Nat → Prop} {w w' : World} {E : List En}
theorem hp_swp (h : HpA B w F tb mb (some ⟨g, 0, none⟩) n c E) (hi : i < n) (hj : j < n) (hij : i ≠ j) (hs : SW w g i j (at_ E i).b (at_ E j).b w') :
    HpA B w' F tb mb (some ⟨g, 0, none⟩) n c (swp E i j) ∧ Keep F w w' := by
  obtain ⟨k, rfl⟩ := hs
  have hl := h.len
  have li : i < E.length := by omega
  have lj : j < E.length := by omega
  have mi := at_mem li
  have mj := at_mem lj
  obtain ⟨fg, gtb, gE⟩ := h.frow g rfl
  have bij : (at_ E i).b ≠ (at_ E j).b := fun e => hij (h.nd i j hi hj e)
  have hperm := swp_perm li lj
  have hk : Keep F w (((((w.setCell ⟨g, i, none⟩ (pt (at_ E j))).setCell ⟨g, j, none⟩ (pt (at_ E i))).setCell ⟨(at_ E j).b, 2, none⟩ (.int .i64 (i : Nat))).setCell ⟨(at_ E i).b, 2, none⟩ (.int .i64 (j : Nat)))) := by
    refine (((Keep.set w i (pt (at_ E j)) fg).trans (Keep.set _ j (pt (at_ E i)) fg) fun _ h => .inl h).trans (Keep.set _ 2 _ (h.en _ mj).1) fun _ h => .inl h).trans (Keep.set _ 2 _ (h.en _ mi).1) fun _ h => .inl h
  have tj := (h.en _ mj).2.1
  have ti := (h.en _ mi).2.1
  have r1 := (h.row.stored i (pt (at_ E j))).1
  have r2 := (r1.stored j (pt (at_ E i))).1
  have r3 : (((((w.setCell ⟨g, i, none⟩ (pt (at_ E j))).setCell ⟨g, j, none⟩ (pt (at_ E i))).setCell ⟨(at_ E j).b, 2, none⟩ (.int .i64 (i : Nat))).setCell ⟨(at_ E i).b, 2, none⟩ (.int .i64 (j : Nat)))).ownsRow B 56 1 (.slice (some ⟨g, 0, none⟩) n c) n (pts (swp E i j)) := by
    have e : pts (swp E i j) = ((pts E).set i (pt (at_ E j))).set j (pt (at_ E i)) := by simp [pts, swp, List.map_set]
    rw [e]
    have k3 : ∀ (W : World) (b : Nat) (u : Value), b ≠ g → Keep (fun x => x = b) W (W.setCell ⟨b, 2, none⟩ u) := fun W b u _ => Keep.set W 2 u rfl
    refine (k3 _ _ _ (gE _ mi)).own ((k3 _ _ _ (gE _ mj)).own r2 ?_) ?_
    · intro x hx e
      obtain rfl : g = x := by injection hx
      exact gE _ mj e.symm
    · intro x hx e
      obtain rfl : g = x := by injection hx
      exact gE _ mi e.symm
  refine ⟨HpA.drewN ⟨fun x hx => ⟨(h.bd x hx).1, by simpa using (h.bd x hx).2⟩, by simpa using h.base, ?_, h.ftb, r3, fun x hx => ?_, by rw [swp_len]; exact hl, h.most, fun x hx => ?_, fun e he => h.en e (hperm.mem_iff.1 he), fun a b ha hb e => ?_⟩ k, hk.drewN k⟩
  · exact (((h.box.far (p := ⟨g, i, none⟩) gtb.symm _).far (p := ⟨g, j, none⟩) gtb.symm _).far (p := ⟨_, 2, none⟩) tj.symm _).far (p := ⟨_, 2, none⟩) ti.symm _
  · obtain rfl : g = x := by injection hx
    exact ⟨fg, gtb, fun e he => gE e (hperm.mem_iff.1 he)⟩
  · rw [swp_at li lj (by omega), sw_sg]
    have hs := sg_lt (n := n) hi hj hx
    have hb := h.ent _ hs
    have hm := at_mem (E := E) (k := sg i j x) (by omega)
    have hb2 := (hb.far (p := ⟨g, i, none⟩) (gE _ hm) (pt (at_ E j))).far (p := ⟨g, j, none⟩) (gE _ hm) (pt (at_ E i))
    unfold sg at hb2 hm hs ⊢
    by_cases e1 : x = j
    · subst e1
      simp only [if_pos] at hb2 ⊢
      exact (hb2.far (p := ⟨_, 2, none⟩) bij _).set 2 _
    · by_cases e2 : x = i
      · subst e2
        simp only [if_neg e1, if_pos] at hb2 ⊢
        exact (hb2.set 2 _).far (p := ⟨_, 2, none⟩) bij.symm _
      · simp only [if_neg e1, if_neg e2] at hb2 ⊢
        exact (hb2.far (p := ⟨_, 2, none⟩) (fun e => e1 (h.nd _ _ hx hj e)) _).far (p := ⟨_, 2, none⟩) (fun e => e2 (h.nd _ _ hx hi e)) _
  · rw [swp_at li lj (by omega), swp_at li lj (by omega), sw_sg, sw_sg] at e
    exact sg_inj (h.nd _ _ (sg_lt hi hj ha) (sg_lt hi hj hb) e)
theorem swap_any (h : HpA B w F tb mb (some ⟨g, 0, none⟩) n c E) (hi : i < n) (hj : j < n) (hij : i ≠ j) :
    Calls Try.prog 44 #[.slice (some ⟨g, 0, none⟩) n c, .int .i64 (i : Nat), .int .i64 (j : Nat)] w fun e w' => e = .returned (.tuple #[]) ∧ HpA B w' F tb mb (some ⟨g, 0, none⟩) n c (swp E i j) ∧ Keep F w w' := by
  have hl := h.len
  obtain ⟨fg, gtb, gE⟩ := h.frow g rfl
  have bij : (at_ E i).b ≠ (at_ E j).b := fun e => hij (h.nd i j hi hj e)
  refine (swap_raw (c := c) h.most hi hj hij (gE _ (at_mem (by omega))).symm (gE _ (at_mem (by omega))).symm bij (h.cell hi) (h.cell hj) ?_ ?_ ((h.ent i hi).frozen 2) ((h.ent j hj).frozen 2) (by rw [h.place hi]; rfl) (by rw [h.place hj]; rfl)).mono fun e w' ⟨h1, h2⟩ => ⟨h1, hp_swp h hi hj hij h2⟩
  · exact h.row.frozenAt i
  · exact h.row.frozenAt j
end
end Go.Proofs.Ytgoogcjkokpicaa.TimB
