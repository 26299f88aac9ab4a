/- Two disks apart from each other. No conditions but those each law names. -/
import Derived.Test.YtdofnoaadkpniaaDskF
namespace Go.Proofs.Ytdofnoaadkpniaa.DskH
open Go.RowKit Go.Proofs.Ytdofnoaadkpniaa.Kit Go.Proofs.Ytdofnoaadkpniaa.Byt Go.Proofs.Ytdofnoaadkpniaa.Mem Go.Proofs.Ytdofnoaadkpniaa.DskA Go.Proofs.Ytdofnoaadkpniaa.DskB Go.Proofs.Ytdofnoaadkpniaa.DskD Go.Proofs.Ytdofnoaadkpniaa.DskE Go.Proofs.Ytdofnoaadkpniaa.DskF

structure Two (w0 w : World) (F1 F2 : Nat → Prop) (g1 g2 : Nat) (s1 s2 : St) : Prop where
  a : Up w0 w F1 g1 s1
  b : Up w0 w F2 g2 s2
  ap : ∀ k, F1 k → ¬ F2 k
section
variable {w0 w w' : World} {F1 F2 : Nat → Prop} {g1 g2 : Nat} {s1 s2 s' : St} {v : Value} {e : Ending}
theorem Two.under (h : Two w0 w F1 F2 g1 g2 s1 s2) (hb : Below w.heap.size w w') : Two w0 w' F1 F2 g1 g2 s1 s2 := ⟨h.a.under hb, h.b.under hb, h.ap⟩
theorem Two.left (h : Two w0 w F1 F2 g1 g2 s1 s2) (hg : Went w0 F1 g1 w v s' e w') : e = .returned v ∧ ∃ F', Two w0 w' F' F2 g1 g2 s' s2 ∧ Keep F1 w w' ∧ ∀ k, F' k → F1 k ∨ w.heap.size ≤ k := by
  obtain ⟨he, F', hU, hk, hf⟩ := hg
  refine ⟨he, F', ⟨hU, ⟨h.b.dk.keep hk fun k h2 h1 => h.ap k h1 h2, h.b.low, hU.bel⟩, fun k h1 h2 => ?_⟩, hk, hf⟩
  rcases hf k h1 with h3 | h3
  · exact h.ap k h3 h2
  · have := h.b.dk.lt k h2; omega
theorem Two.right (h : Two w0 w F1 F2 g1 g2 s1 s2) (hg : Went w0 F2 g2 w v s' e w') : e = .returned v ∧ ∃ F', Two w0 w' F1 F' g1 g2 s1 s' ∧ Keep F2 w w' ∧ ∀ k, F' k → F2 k ∨ w.heap.size ≤ k := by
  obtain ⟨he, F', hU, hk, hf⟩ := hg
  refine ⟨he, F', ⟨⟨h.a.dk.keep hk fun k h2 h1 => h.ap k h2 h1, h.a.low, hU.bel⟩, hU, fun k h1 h2 => ?_⟩, hk, hf⟩
  rcases hf k h2 with h3 | h3
  · exact h.ap k h1 h3
  · have := h.a.dk.lt k h1; omega
end
/-- All that a failure of power keeps, of up to 64 writes. -/
theorem laidTo_all {kp : Nat → Bool} (S : List (List Nat)) (L : List (Nat × List Nat)) : ∀ k, (∀ j, j < k → kp j = true) → laidTo kp S L k = laidTo (fun _ => true) S L k := by
  intro k
  induction k with
  | zero => intro _; rfl
  | succ k ih =>
    intro h
    rw [laidTo, laidTo, if_pos (h k (by omega)), if_pos rfl, ih fun j hj => h j (by omega)]
theorem kb_all {k : Nat} (h : k < 64) : kb 18446744073709551615 k = true := by
  have key : ∀ n : Nat, n < 64 → kb 18446744073709551615 n = true := by decide
  exact key k h
theorem power_all {s : St} (h : s.L.length ≤ 64) : power 18446744073709551615 s = { lay (fun _ => true) s with fuse := -1, down := false } := by
  rw [power, lay, lay, laidTo_all _ _ _ fun j hj => kb_all (by omega)]
theorem now_laid {s : St} (h : s.L = []) (i : Nat) : now s i = s.S.getD i [] := by
  rw [now, h]
  rfl
end Go.Proofs.Ytdofnoaadkpniaa.DskH
