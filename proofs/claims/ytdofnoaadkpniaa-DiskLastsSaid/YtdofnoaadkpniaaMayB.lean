/- The array of eight lists: kept, a list laid anew. No conditions but those each law names. -/
import Derived.Test.YtdofnoaadkpniaaMayA
namespace Go.Proofs.Ytdofnoaadkpniaa.MayB
open Go.RowKit Go.Proofs.Ytdofnoaadkpniaa.Kit Go.Proofs.Ytdofnoaadkpniaa.Byt Go.Proofs.Ytdofnoaadkpniaa.Mem Go.Proofs.Ytdofnoaadkpniaa.DskA Go.Proofs.Ytdofnoaadkpniaa.DskB Go.Proofs.Ytdofnoaadkpniaa.DskE Go.Proofs.Ytdofnoaadkpniaa.RdkA Go.Proofs.Ytdofnoaadkpniaa.MayA

def hd8 (rv : Nat → Sv) : List Value := [(rv 0).v, (rv 1).v, (rv 2).v, (rv 3).v, (rv 4).v, (rv 5).v, (rv 6).v, (rv 7).v]
theorem hd8_up {rv : Nat → Sv} {j : Nat} (h : j < 8) (q : Sv) : (hd8 rv).set j q.v = hd8 (up rv j q) := by
  match j, h with
  | 0, _ => rfl
  | 1, _ => rfl
  | 2, _ => rfl
  | 3, _ => rfl
  | 4, _ => rfl
  | 5, _ => rfl
  | 6, _ => rfl
  | 7, _ => rfl
theorem hd8_at {rv : Nat → Sv} {j : Nat} (h : j < 8) : (hd8 rv)[j]? = some (rv j).v := by
  match j, h with
  | 0, _ => rfl
  | 1, _ => rfl
  | 2, _ => rfl
  | 3, _ => rfl
  | 4, _ => rfl
  | 5, _ => rfl
  | 6, _ => rfl
  | 7, _ => rfl
structure ElM (w : World) (G : Nat → Prop) (gm : Nat) (rv : Nat → Sv) (v : Sl) : Prop where
  rd : Rd w v.A v.n v.c (u8n v.xs)
  n64 : v.n = 64
  fp : ∀ b o, v.A = some ⟨b, o, none⟩ → G b ∧ b ≠ gm ∧ ∀ i, i < 8 → (rv i).v.ownBlock ≠ some b
structure MB (w : World) (G : Nat → Prop) (gm : Nat) (rv : Nat → Sv) (E : Nat → List Sl) (K : Nat) : Prop where
  head : Blk w gm 49 (hd8 rv)
  row : ∀ i, i < K → Rm w (rv i) ((E i).map Sl.val)
  el : ∀ i, i < K → ∀ v ∈ E i, ElM w G gm rv v
  fg : G gm
  fo : ∀ i, i < 8 → ∀ k, (rv i).v.ownBlock = some k → G k ∧ k ≠ gm ∧ ∀ j, j < 8 → j ≠ i → (rv j).v.ownBlock ≠ some k
  lt : ∀ k, G k → k < w.heap.size
  le : K ≤ 8
section
variable {w w' w2 w3 : World} {F G : Nat → Prop} {gm K : Nat} {rv : Nat → Sv} {E : Nat → List Sl}
theorem ElM.keep {v : Sl} (h : ElM w G gm rv v) (k : Keep F w w') (hd : ∀ k, G k → ¬ F k) : ElM w' G gm rv v := ⟨k.rd h.rd fun _ b o hA => hd b (h.fp b o hA).1, h.n64, h.fp⟩
theorem MB.keep (h : MB w G gm rv E K) (k : Keep F w w') (hd : ∀ k, G k → ¬ F k) : MB w' G gm rv E K :=
  ⟨k.blk h.head (hd _ h.fg), fun i hi => (h.row i hi).keep k fun b hb => hd b (h.fo i (Nat.lt_of_lt_of_le hi h.le) b hb).1, fun i hi v hv => (h.el i hi v hv).keep k hd, h.fg, h.fo, fun i hi => Nat.lt_of_lt_of_le (h.lt i hi) k.size, h.le⟩
theorem MB.below (h : MB w G gm rv E K) (hb : Below w.heap.size w w') : MB w' G gm rv E K := h.keep (Keep.of_below (F := fun _ => False) hb) fun _ _ h => h
theorem MB.drew (h : MB w G gm rv E K) : MB w.drew G gm rv E K := h.keep ((Keep.refl (fun _ => False) w).drew) fun _ _ h => h
/-- A list was laid anew. -/
theorem MB.put (h : MB w G gm rv E K) {j : Nat} (hj : j < 8) {q : Sv} {e' : List Sl} (k2 : Keep (fun k => (rv j).v.ownBlock = some k) w w2) (hq : q.v.ownBlock = (rv j).v.ownBlock ∨ ∀ k, q.v.ownBlock = some k → w.heap.size ≤ k) (hR : Rm w2 q (e'.map Sl.val))
    (he : ∀ v ∈ e', (v ∈ E j ∧ j < K) ∨ (Rd w2 v.A v.n v.c (u8n v.xs) ∧ v.n = 64 ∧ ∀ b o, v.A = some ⟨b, o, none⟩ → w.heap.size ≤ b ∧ b < w2.heap.size ∧ q.v.ownBlock ≠ some b)) {K' : Nat} (hK' : ∀ i, i < K' → i = j ∨ i < K) (hK8 : K' ≤ 8) (hw3 : w3 = w2.setCell ⟨gm, j, none⟩ q.v) :
    MB w3 (Gr G w w3) gm (up rv j q) (up E j e') K' ∧ Keep G w w3 := by
  subst hw3
  have hs2 := k2.size
  have hs3 : (w2.setCell ⟨gm, j, none⟩ q.v).heap.size = w2.heap.size := by simp [World.setCell]
  have hgl := h.lt gm h.fg
  have ks : Keep (fun k => k = gm) w2 (w2.setCell ⟨gm, j, none⟩ q.v) := Keep.set _ _ _ rfl
  obtain ⟨bq, oq, curq, hAq, hhq, _⟩ := hR
  have hqb : q.v.ownBlock = some bq := by simp [Sv.v, hAq, Value.ownBlock]
  have hq2 : ∀ k, q.v.ownBlock = some k → ((rv j).v.ownBlock = some k) ∨ (w.heap.size ≤ k ∧ k < w2.heap.size) := by
    intro k hk
    rcases hq with h1 | h1
    · exact .inl (h1 ▸ hk)
    · refine .inr ⟨h1 k hk, ?_⟩
      rw [hqb] at hk
      injection hk with hk
      exact hk ▸ lt_some hhq
  have hne : ∀ k, q.v.ownBlock = some k → k ≠ gm := by
    intro k hk
    rcases hq2 k hk with h1 | h1
    · exact (h.fo j hj k h1).2.1
    · omega
  have hel : ∀ v, ElM w G gm rv v → ElM (w2.setCell ⟨gm, j, none⟩ q.v) (Gr G w (w2.setCell ⟨gm, j, none⟩ q.v)) gm (up rv j q) v := by
    intro v hv
    refine ⟨ks.rd (k2.rd hv.rd fun _ b o hA hk => (hv.fp b o hA).2.2 j hj hk) fun _ b o hA hk => (hv.fp b o hA).2.1 hk, hv.n64, fun b o hA => ?_⟩
    have h0 := hv.fp b o hA
    refine ⟨.inl h0.1, h0.2.1, fun i hi => ?_⟩
    by_cases hij : i = j
    · subst hij
      rw [up_same]
      intro hk
      rcases hq2 b hk with h1 | h1
      · exact h0.2.2 i hi h1
      · have := h.lt b h0.1; omega
    · rw [up_ne _ _ hij]
      exact h0.2.2 i hi
  refine ⟨⟨?_, fun i hi => ?_, fun i hi v hv => ?_, .inl h.fg, fun i hi k hk => ?_, Gr.lt h.lt (by omega), hK8⟩, ?_⟩
  · rw [← hd8_up hj]
    exact (k2.blk h.head fun hk => (h.fo j hj gm hk).2.1 rfl).set j _
  · by_cases hij : i = j
    · subst hij
      rw [up_same, up_same]
      exact Rm.keep ⟨bq, oq, curq, hAq, hhq, by assumption⟩ ks fun b hb => hne b hb
    · have hiK : i < K := (hK' i hi).resolve_left hij
      have hi8 : i < 8 := by omega
      rw [up_ne _ _ hij, up_ne _ _ hij]
      exact ((h.row i hiK).keep k2 fun b hb hb2 => (h.fo i hi8 b hb).2.2 j hj (Ne.symm hij) hb2).keep ks fun b hb => (h.fo i hi8 b hb).2.1
  · by_cases hij : i = j
    · subst hij
      rw [up_same] at hv
      rcases he v hv with ⟨h1, h2⟩ | ⟨h1, h2, h3⟩
      · exact hel v (h.el i h2 v h1)
      · refine ⟨ks.rd h1 fun _ b o hA hk => ?_, h2, fun b o hA => ?_⟩
        · have := h3 b o hA; omega
        · obtain ⟨a1, a2, a3⟩ := h3 b o hA
          refine ⟨.inr ⟨a1, by omega⟩, by omega, fun a ha => ?_⟩
          by_cases hai : a = i
          · subst hai
            rw [up_same]
            exact a3
          · rw [up_ne _ _ hai]
            intro hk
            have := h.lt b (h.fo a ha b hk).1
            omega
    · rw [up_ne _ _ hij] at hv
      exact hel v (h.el i ((hK' i hi).resolve_left hij) v hv)
  · by_cases hij : i = j
    · subst hij
      rw [up_same] at hk
      refine ⟨?_, hne k hk, fun a ha hai => ?_⟩
      · rcases hq2 k hk with h1 | h1
        · exact .inl (h.fo i hi k h1).1
        · exact .inr (by omega)
      · rw [up_ne _ _ hai]
        intro hk2
        rcases hq2 k hk with h1 | h1
        · exact (h.fo i hi k h1).2.2 a ha hai hk2
        · have := h.lt k (h.fo a ha k hk2).1; omega
    · rw [up_ne _ _ hij] at hk
      have h0 := h.fo i hi k hk
      refine ⟨.inl h0.1, h0.2.1, fun a ha hai => ?_⟩
      by_cases haj : a = j
      · subst haj
        rw [up_same]
        intro hk2
        rcases hq2 k hk2 with h1 | h1
        · exact h0.2.2 a ha hai h1
        · have := h.lt k h0.1; omega
      · rw [up_ne _ _ haj]
        exact h0.2.2 a ha hai
  · exact (k2.mono fun k _ hk => (h.fo j hj k hk).1).trans (Keep.set (F := G) _ _ _ h.fg) fun _ h => .inl h
/-- The last one alone. -/
theorem Rm.last {s : Sv} {xs : List Value} (h : Rm w s xs) (hn : 0 < s.n) : ∃ b o u, s.A = some ⟨b, o, none⟩ ∧ xs.getLast? = some u ∧ Rm w ⟨some ⟨b, o + (s.n - 1), none⟩, 1, s.c - (s.n - 1)⟩ [u] ∧ Sv.v ⟨some ⟨b, o + (s.n - 1), none⟩, 1, s.c - (s.n - 1)⟩ = .slice (some ⟨b, o + (s.n - 1), none⟩) 1 (s.c - (s.n - 1)) := by
  obtain ⟨b, o, cur, hA, hh, hl, hnc, hcm, hcs, hx⟩ := h
  have hlt : s.n - 1 < xs.length := by omega
  have hu : xs[s.n - 1]? = some xs[s.n - 1] := List.getElem?_eq_getElem hlt
  refine ⟨b, o, xs[s.n - 1], hA, ?_, ⟨b, o + (s.n - 1), cur, rfl, hh, rfl, by show 1 ≤ s.c - (s.n - 1); omega, by show s.c - (s.n - 1) ≤ _; omega, by show o + (s.n - 1) + (s.c - (s.n - 1)) ≤ _; omega, fun j u hj => ?_⟩, rfl⟩
  · rw [List.getLast?_eq_getElem?, hl, hu]
  · have hj0 : j = 0 := by
      have := (List.getElem?_eq_some_iff.1 hj).1
      simpa using this
    subst hj0
    simp at hj
    subst hj
    exact hx _ _ hu
end
end Go.Proofs.Ytdofnoaadkpniaa.MayB
