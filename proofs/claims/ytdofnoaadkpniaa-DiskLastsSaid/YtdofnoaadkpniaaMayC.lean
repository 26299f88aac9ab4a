/- A disk and the array of eight lists, apart from each other. No conditions but those each law names. -/
import Derived.Test.YtdofnoaadkpniaaMayB
import Derived.Test.YtdofnoaadkpniaaDskF
namespace Go.Proofs.Ytdofnoaadkpniaa.MayC
open Go.RowKit Go.Proofs.Ytdofnoaadkpniaa.Kit Go.Proofs.Ytdofnoaadkpniaa.Byt Go.Proofs.Ytdofnoaadkpniaa.Mem Go.Proofs.Ytdofnoaadkpniaa.DskA Go.Proofs.Ytdofnoaadkpniaa.DskB Go.Proofs.Ytdofnoaadkpniaa.DskD Go.Proofs.Ytdofnoaadkpniaa.DskE Go.Proofs.Ytdofnoaadkpniaa.DskF Go.Proofs.Ytdofnoaadkpniaa.RdkA Go.Proofs.Ytdofnoaadkpniaa.MayA Go.Proofs.Ytdofnoaadkpniaa.MayB

structure Both (w0 w : World) (F G : Nat → Prop) (g gm : Nat) (s : St) (rv : Nat → Sv) (E : Nat → List Sl) (K : Nat) : Prop where
  u : Up w0 w F g s
  m : MB w G gm rv E K
  ap : ∀ k, F k → ¬ G k
  low : ∀ k, G k → w0.heap.size ≤ k
section
variable {w0 w w' w2 w3 : World} {F G : Nat → Prop} {g gm K : Nat} {s s' : St} {rv : Nat → Sv} {E : Nat → List Sl} {v : Value} {e : Ending}
theorem Both.under (h : Both w0 w F G g gm s rv E K) (hb : Below w.heap.size w w') : Both w0 w' F G g gm s rv E K := ⟨h.u.under hb, h.m.below hb, h.ap, h.low⟩
theorem Both.drew (h : Both w0 w F G g gm s rv E K) : Both w0 w.drew F G g gm s rv E K := ⟨h.u.drew, h.m.drew, h.ap, h.low⟩
theorem Both.left (h : Both w0 w F G g gm s rv E K) (hg : Went w0 F g w v s' e w') : e = .returned v ∧ ∃ F', Both w0 w' F' G g gm s' rv E K ∧ Keep F w w' ∧ ∀ k, F' k → F k ∨ w.heap.size ≤ k := by
  obtain ⟨he, F', hU, hk, hf⟩ := hg
  refine ⟨he, F', ⟨hU, h.m.keep hk fun k h2 h1 => h.ap k h1 h2, fun k h1 h2 => ?_, h.low⟩, hk, hf⟩
  rcases hf k h1 with h3 | h3
  · exact h.ap k h3 h2
  · have := h.m.lt k h2; omega
theorem Both.laid {rv' : Nat → Sv} {E' : Nat → List Sl} {K' : Nat} (h : Both w0 w F G g gm s rv E K) (hm : MB w3 (Gr G w w3) gm rv' E' K' ∧ Keep G w w3) : Both w0 w3 F (Gr G w w3) g gm s rv' E' K' := by
  have hs := h.u.bel.size
  refine ⟨⟨h.u.dk.keep hm.2 h.ap, h.u.low, h.u.bel.trans (hm.2.below h.low hs)⟩, hm.1, fun k h1 h2 => ?_, fun k hk => ?_⟩
  · rcases Gr.ge _ _ _ k h2 with h3 | h3
    · exact h.ap k h1 h3
    · have := h.u.dk.lt k h1; omega
  · rcases Gr.ge _ _ _ k hk with h3 | h3
    · exact h.low k h3
    · omega
theorem Both.first {w1 w2 : World} {F1 : Nat → Prop} {n : Int} (hb1 : Below w0.heap.size w0 w1) (hD : Dk w2 F1 g (newSt n)) (hb2 : Below w1.heap.size w1 w2) (hf1 : ∀ k, F1 k → w1.heap.size ≤ k) :
    Both w0 (w2.alloc (.cells (hd8 fun _ => ⟨none, 0, 0⟩).toArray 49)) F1 (fun k => k = w2.heap.size) g w2.heap.size (newSt n) (fun _ => ⟨none, 0, 0⟩) (fun _ => []) 0 := by
  have h1 := hb1.size
  have h2 := hb2.size
  have hB : Below w0.heap.size w0 w2 := hb1.trans (hb2.mono h1)
  refine ⟨⟨hD.below ((Below.refl _ _).alloc (Nat.le_refl _) _), fun k hk => by have := hf1 k hk; omega, hB.alloc hB.size _⟩, ⟨Blk.new w2 _ _, (fun i hi => by omega), (fun i hi => by omega), rfl, (fun i _ k hk => by cases hk), (fun k hk => by rw [World.size_alloc]; omega), by omega⟩, fun k h1 h2 => by have := hD.lt k h1; omega, fun k hk => by omega⟩
end
/-- What the loop over the acts keeps. -/
structure Acc (s : St) (E : Nat → List Sl) (k : Nat) : Prop where
  may : May s fun i => (E i).map Sl.xs
  fuse : s.fuse < 0
  down : s.down = false
  len : s.S.length = 8
  few : s.L.length ≤ k
  low : ∀ i, i < 8 → (E i).length ≤ k + 1
theorem Acc.first {E : Nat → List Sl} (h : ∀ i, i < 8 → (E i).map Sl.xs = [zs 64]) : Acc (newSt 8) E 0 := by
  refine ⟨fun i hi => ?_, by simp [newSt], rfl, rfl, Nat.le_refl _, fun i hi => ?_⟩
  · show (∀ kp, _ ∈ (E i).map Sl.xs) ∧ ((E i).map Sl.xs).getLast? = _
    rw [h i hi]
    have hz : ∀ kp, (laidTo kp (newSt 8).S (newSt 8).L (newSt 8).L.length).getD i [] = zs 64 := by
      intro kp
      show (List.replicate 8 (zs 64)).getD i [] = zs 64
      rw [List.getD_eq_getElem?_getD, List.getElem?_replicate, if_pos hi]
      rfl
    exact ⟨fun kp => by rw [hz]; exact List.mem_singleton.2 rfl, by rw [hz]; rfl⟩
  · have := congrArg List.length (h i hi)
    rw [List.length_map] at this
    simp at this
    omega
theorem Acc.wrote {s : St} {E : Nat → List Sl} {k j : Nat} (h : Acc s E k) (hj : j < 8) {v : Sl} {bs : List Nat} (hv : v.xs = bs) : Acc (wrote s j bs) (up E j (E j ++ [v])) (k + 1) := by
  refine ⟨fun i hi => ?_, h.fuse, h.down, h.len, by have := h.few; simp [DskF.wrote]; omega, fun i hi => ?_⟩
  · have h2 := h.may.wrote h.len hj bs i hi
    have he : up (fun i => (E i).map Sl.xs) j ((E j).map Sl.xs ++ [bs]) i = (up E j (E j ++ [v]) i).map Sl.xs := by
      by_cases hij : i = j
      · subst hij; rw [up_same, up_same]; simp [hv]
      · rw [up_ne _ _ hij, up_ne _ _ hij]
    rw [he] at h2
    exact h2
  · by_cases hij : i = j
    · subst hij
      rw [up_same]
      have := h.low i hi
      simp
      omega
    · rw [up_ne _ _ hij]
      have := h.low i hi
      omega
theorem Acc.flushed {s : St} {E E' : Nat → List Sl} {k : Nat} (h : Acc s E k) (hE : ∀ i, i < 8 → ∃ x, (E i).getLast? = some x ∧ E' i = [x]) : Acc (lay (fun _ => true) s) E' (k + 1) := by
  refine ⟨h.may.flushed fun i hi x hx => ?_, h.fuse, h.down, by show (laidTo _ _ _ _).length = 8; rw [laidTo_len]; exact h.len, by simp [lay], fun i hi => ?_⟩
  · obtain ⟨y, hy, he⟩ := hE i hi
    rw [List.getLast?_map, hy] at hx
    injection hx with hx
    show (E' i).map Sl.xs = [x]
    rw [he, ← hx]
    rfl
  · obtain ⟨y, _, he⟩ := hE i hi
    rw [he]
    simp
theorem Acc.powered {s : St} {E : Nat → List Sl} {k : Nat} (h : Acc s E k) (K : Nat) : ∀ i, i < 8 → now (power K s) i ∈ (E i).map Sl.xs := by
  intro i hi
  have h1 := (h.may i hi).1 (kb K)
  have : now (power K s) i = (laidTo (kb K) s.S s.L s.L.length).getD i [] := rfl
  rw [this]
  exact h1
end Go.Proofs.Ytdofnoaadkpniaa.MayC
