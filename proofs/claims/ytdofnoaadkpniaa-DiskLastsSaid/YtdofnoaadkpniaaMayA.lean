/- An array of eight slices of slices of bytes, as it lies in memory; what a disk may hold. No conditions but those each law names. -/
import Derived.ArgAppend
import Derived.Test.YtdofnoaadkpniaaRdkA
import Derived.Test.YtdofnoaadkpniaaDskE
namespace Go.Proofs.Ytdofnoaadkpniaa.MayA
open Go.RowKit Go.Proofs.Ytdofnoaadkpniaa.Kit Go.Proofs.Ytdofnoaadkpniaa.Byt Go.Proofs.Ytdofnoaadkpniaa.Mem Go.Proofs.Ytdofnoaadkpniaa.DskA Go.Proofs.Ytdofnoaadkpniaa.DskB Go.Proofs.Ytdofnoaadkpniaa.DskE Go.Proofs.Ytdofnoaadkpniaa.RdkA

/-! ### what may be there -/

/-- M tells, sector by sector, what a failure of power may leave; the last one is what a flush leaves. -/
def May (s : St) (M : Nat → List (List Nat)) : Prop :=
  ∀ i, i < 8 → (∀ kp, (laidTo kp s.S s.L s.L.length).getD i [] ∈ M i) ∧ (M i).getLast? = some ((laidTo (fun _ => true) s.S s.L s.L.length).getD i [])
theorem laidTo_app (kp : Nat → Bool) (S : List (List Nat)) (L : List (Nat × List Nat)) (p : Nat × List Nat) : ∀ k, k ≤ L.length → laidTo kp S (L ++ [p]) k = laidTo kp S L k := by
  intro k
  induction k with
  | zero => intro _; rfl
  | succ k ih =>
    intro hk
    have hg : (L ++ [p]).getD k (0, []) = L.getD k (0, []) := by
      rw [List.getD_eq_getElem?_getD, List.getD_eq_getElem?_getD, List.getElem?_append_left (by omega)]
    rw [laidTo, laidTo, ih (by omega), hg]
theorem laidTo_more (kp : Nat → Bool) (S : List (List Nat)) (L : List (Nat × List Nat)) (p : Nat × List Nat) : laidTo kp S (L ++ [p]) (L ++ [p]).length = if kp L.length then (laidTo kp S L L.length).set p.1 p.2 else laidTo kp S L L.length := by
  have hl : (L ++ [p]).length = L.length + 1 := by simp
  have hg : (L ++ [p]).getD L.length (0, []) = p := by simp
  rw [hl, laidTo, hg, laidTo_app kp S L p L.length (Nat.le_refl _)]
theorem May.wrote {s : St} {M : Nat → List (List Nat)} (h : May s M) (hS : s.S.length = 8) {j : Nat} (hj : j < 8) (bs : List Nat) : May { s with L := s.L ++ [(j, bs)] } (up M j (M j ++ [bs])) := by
  intro i hi
  obtain ⟨h1, h2⟩ := h i hi
  have hset : ∀ X : List (List Nat), X.length = 8 → (X.set j bs).getD i [] = if i = j then bs else X.getD i [] := by
    intro X hX
    by_cases hij : i = j
    · subst hij
      rw [if_pos rfl]
      simp [hX, hi]
    · rw [if_neg hij, List.getD_eq_getElem?_getD, List.getElem?_set_ne (Ne.symm hij), ← List.getD_eq_getElem?_getD]
  have hlen : ∀ kp, (laidTo kp s.S s.L s.L.length).length = 8 := fun kp => by rw [laidTo_len, hS]
  refine ⟨fun kp => ?_, ?_⟩
  · show (laidTo kp s.S (s.L ++ [(j, bs)]) (s.L ++ [(j, bs)]).length).getD i [] ∈ _
    rw [laidTo_more]
    split
    · rw [hset _ (hlen kp)]
      by_cases hij : i = j
      · subst hij
        rw [if_pos rfl, up_same]
        simp
      · rw [if_neg hij, up_ne _ _ hij]
        exact h1 kp
    · by_cases hij : i = j
      · subst hij
        rw [up_same]
        exact List.mem_append_left _ (h1 kp)
      · rw [up_ne _ _ hij]
        exact h1 kp
  · show (up M j (M j ++ [bs]) i).getLast? = some ((laidTo _ s.S (s.L ++ [(j, bs)]) (s.L ++ [(j, bs)]).length).getD i [])
    rw [laidTo_more, if_pos rfl, hset _ (hlen _)]
    by_cases hij : i = j
    · subst hij
      rw [if_pos rfl, up_same]
      simp
    · rw [if_neg hij, up_ne _ _ hij]
      exact h2
theorem May.flushed {s : St} {M M' : Nat → List (List Nat)} (h : May s M) (hM : ∀ i, i < 8 → ∀ x, (M i).getLast? = some x → M' i = [x]) : May (lay (fun _ => true) s) M' := by
  intro i hi
  obtain ⟨_, h2⟩ := h i hi
  rw [hM i hi _ h2]
  exact ⟨fun kp => List.mem_singleton.2 rfl, rfl⟩

/-! ### a slice with room, wherever it begins -/

/-- The slice's cells are xs; behind them there is room up to its capacity. -/
def Rm (w : World) (s : Sv) (xs : List Value) : Prop :=
  ∃ b o cur, s.A = some ⟨b, o, none⟩ ∧ w.heap[b]? = some (.cells cur 31 (0, 0)) ∧ xs.length = s.n ∧ s.n ≤ s.c ∧ s.c ≤ 9223372036854775807 ∧ o + s.c ≤ cur.size ∧ ∀ j u, xs[j]? = some u → cur[o + j]? = some u
section
variable {w w' w1 w2 w3 : World} {F G : Nat → Prop} {s : Sv} {xs : List Value}
theorem Rm.rd (h : Rm w s xs) : Rd w s.A s.n s.c xs := by
  obtain ⟨b, o, cur, hA, hh, hl, hn, hm, hc, hx⟩ := h
  exact ⟨hl, hn, by omega, fun _ => ⟨b, o, hA, lt_some hh, fun j u hu => by rw [cell_of_row w b (o + j) _ _ _ hh]; exact hx j u hu⟩⟩
theorem Rm.keep (h : Rm w s xs) (k : Keep F w w') (hd : ∀ b, s.v.ownBlock = some b → ¬ F b) : Rm w' s xs := by
  obtain ⟨b, o, cur, hA, hh, rest⟩ := h
  exact ⟨b, o, cur, hA, (k.block b (lt_some hh) (hd b (by simp [Sv.v, hA, Value.ownBlock]))).trans hh, rest⟩
theorem Rm.of_own {A : Option Addr} {n c : Nat} {base : Nat} (h : w.ownsRow base 31 1 (.slice A n c) n xs) (hn : 0 < n) : Rm w ⟨A, n, c⟩ xs := by
  rcases h.2 with ⟨hv, h0⟩ | ⟨g, cap', cur, hv, _, hh, hnc, hcm, hcs, hx⟩
  · omega
  · simp only [Value.slice.injEq] at hv
    obtain ⟨rfl, _, rfl⟩ := hv
    unfold maxLen at hcm
    refine ⟨g, 0, cur, rfl, hh, by simpa using h.1, hnc, hcm, by show 0 + c ≤ cur.size; omega, fun j u hu => ?_⟩
    rw [← hx, List.getElem?_take] at hu
    split at hu
    · rw [Nat.zero_add]; simpa using hu
    · cases hu
theorem run_append_rm {P : Program} (w : World) (t ty : TypeId) (i : TypeInfo) (ht : P.underlying t = some (.slice 31)) (hi : P.info? 31 = some i) (hz : i.zero = some (.slice none 0 0)) (hsize : i.size = 1) (hby : i.bytes = 24)
    {s : Sv} {xs : List Value} (h : Rm w s xs) (hn : s.n ≤ 1000000) (u : Value) (hu : u.oneCell' = true) (ad : Addr) (m c : Nat) (hm : m = 1) (hx : ∀ j v, [u][j]? = some v → w.cell? (ad.add j) = some v) :
    ∃ s' w', (Builtin.append_ #[t, t] ty #[s.v, .slice (some ad) m c]).run P w = .ok (Sv.v s') w' ∧ Rm w' s' (xs ++ [u]) ∧ w.grownBy w' s.v.ownBlock ∧ (s'.v.ownBlock = s.v.ownBlock ∨ ∀ k, s'.v.ownBlock = some k → w.heap.size ≤ k) := by
  subst hm
  obtain ⟨b, o, cur, hA, hh, hl, hnc, hcm, hcs, hc⟩ := h
  have hob : s.v.ownBlock = some b := by simp [Sv.v, hA, Value.ownBlock]
  by_cases hr : s.n + 1 ≤ s.c
  · have hlt : o + s.n < cur.size := by omega
    have hcell : w.cell? ⟨b, o + s.n, none⟩ = some cur[o + s.n] := by rw [cell_of_row w b _ _ _ _ hh]; simp [hlt]
    have hrun := run_append_room_cells (P := P) w t ty 31 i ht hi b o s.n s.c ad 1 c [u] (by simp [hsize]) hx (fun v hv => by rw [List.mem_singleton.1 hv]; exact hu) hr
      (fun j hj => by
        have : j = 0 := by simpa using hj
        subst this
        rw [hsize, Nat.mul_one, Nat.add_zero, hcell]; rfl)
      (fun j _ => frozen_of_row w b _ _ _ hh)
    have hsc : w.setCells b (o + s.n * i.size) [u] = w.setCell ⟨b, o + s.n, none⟩ u := by simp [World.setCells, hsize]
    rw [hsc] at hrun
    refine ⟨⟨some ⟨b, o, none⟩, s.n + 1, s.c⟩, w.setCell ⟨b, o + s.n, none⟩ u, by rw [Sv.v, hA]; exact hrun, ⟨b, o, cur.setIfInBounds (o + s.n) u, rfl, heap_setCell_same w b _ _ _ _ hh, by simp [hl], hr, hcm, by simpa using hcs, fun j v hj => ?_⟩, ?_, .inl hob.symm⟩
    · rcases Nat.lt_or_ge j s.n with hjn | hjn
      · rw [List.getElem?_append_left (by omega)] at hj
        rw [Array.getElem?_setIfInBounds_ne (by omega)]
        exact hc j v hj
      · rw [List.getElem?_append_right (by omega)] at hj
        have hj0 : j - xs.length = 0 := by
          have := (List.getElem?_eq_some_iff.1 hj).1
          simpa using this
        rw [hj0] at hj
        have hjs : j = s.n := by omega
        subst hjs
        simp at hj
        subst hj
        rw [Array.getElem?_setIfInBounds_self_of_lt hlt]
    · rw [hob]
      exact (Only.set w b _ u).1
  · obtain ⟨v', w', hrun, hown, hg⟩ := run_append_arg_grows (P := P) (w := w) t ty 31 i _ 1 24 ht hi hz hsize hby rfl (by omega) ⟨b, o, none⟩ s.n s.c xs (by omega)
      (fun j v hj => by rw [Addr.add_lit, cell_of_row w b (o + j) _ _ _ hh]; exact hc j v hj) ad 1 c [u] rfl hx (by omega) (by unfold maxLen; omega) (by omega)
    have hw2 := hown
    rcases hw2.2 with ⟨_, h0⟩ | ⟨g, cap', cur', rfl, hb, _⟩
    · omega
    · refine ⟨⟨some ⟨g, 0, none⟩, s.n + 1, cap'⟩, w', by rw [Sv.v, hA]; exact hrun, Rm.of_own hown (by omega), ⟨hg.os, hg.tape, hg.output, hg.size, fun k hk _ => hg.block k hk (by simp)⟩, .inr fun k hk => ?_⟩
      injection hk with hk
      have hk : g = k := hk
      omega
end
end Go.Proofs.Ytdofnoaadkpniaa.MayA
