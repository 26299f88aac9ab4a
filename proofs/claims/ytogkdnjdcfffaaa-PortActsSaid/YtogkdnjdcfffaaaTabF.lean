/- One three left out of a list of threes; what an append of threes makes. No conditions but those each law names. -/
import Derived.Test.YtogkdnjdcfffaaaTabE0
namespace Go.Proofs.Ytogkdnjdcfffaaa.TabF
open Go.RowKit Go.Proofs.Ytogkdnjdcfffaaa.Kit Go.Proofs.Ytogkdnjdcfffaaa.Byt Go.Proofs.Ytogkdnjdcfffaaa.Mem Go.Proofs.Ytogkdnjdcfffaaa.TabA Go.Proofs.Ytogkdnjdcfffaaa.TabB Go.Proofs.Ytogkdnjdcfffaaa.TabC Go.Proofs.Ytogkdnjdcfffaaa.TabD Go.Proofs.Ytogkdnjdcfffaaa.TabE

/-- The list without its i-th three. -/
def out (R : List Tri) (i : Nat) : List Tri := R.take i ++ R.drop (i + 1)
theorem out_len {R : List Tri} {i : Nat} (h : i < R.length) : (out R i).length + 1 = R.length := by simp [out]; omega
theorem out_at {R : List Tri} {i : Nat} (h : i < R.length) (k : Nat) : (out R i)[k]? = if k < i then R[k]? else R[k + 1]? := by
  unfold out
  by_cases hk : k < i
  · rw [if_pos hk, List.getElem?_append_left (by simp; omega), List.getElem?_take, if_pos hk]
  · rw [if_neg hk, List.getElem?_append_right (by simp; omega), List.getElem?_drop]
    congr 1
    simp
    omega
theorem out_chans {m : Nat} {C : List Tri} {i : Nat} (hi : i < C.length) (h : ChansOk m C) : ChansOk m (out C i) := by
  refine ⟨by have := out_len hi; have := h.1; omega, fun k r hr => ?_⟩
  rw [out_at hi] at hr
  split at hr
  · exact h.2 _ _ hr
  · exact h.2 _ _ hr
theorem endAt_out_lt {W : List Tri} {i : Nat} (hi : i < W.length) : ∀ k, k ≤ i → endAt (out W i) k = endAt W k
  | 0, _ => rfl
  | k + 1, hk => by
    have : (out W i)[k]? = W[k]? := by rw [out_at hi, if_pos (by omega)]
    simp only [endAt, this]
theorem endAt_out_ge {W : List Tri} {i : Nat} (hi : i < W.length) {k : Nat} (hk : i ≤ k) : endAt (out W i) (k + 1) = endAt W (k + 2) := by
  have : (out W i)[k]? = W[k + 1]? := by rw [out_at hi, if_neg (by omega)]
  simp only [endAt, this]
theorem out_wins {m : Nat} {fr : Int} {W : List Tri} {i : Nat} (hi : i < W.length) (h : ∀ (k : Nat) (r : Tri), W[k]? = some r → WinOk m fr W k r) : ∀ (k : Nat) (r : Tri), (out W i)[k]? = some r → WinOk m fr (out W i) k r := by
  intro k r hr
  have hr0 := hr
  rw [out_at hi] at hr
  split at hr
  · rename_i hk
    have := h k r hr
    exact ⟨this.1, by rw [endAt_out_lt hi k (by omega)]; exact this.2.1, this.2.2⟩
  · rename_i hk
    have h1 := h (k + 1) r hr
    refine ⟨h1.1, ?_, h1.2.2⟩
    rcases Nat.lt_or_ge i k with hlt | hge
    · obtain ⟨k', rfl⟩ : ∃ k', k = k' + 1 := ⟨k - 1, by omega⟩
      rw [endAt_out_ge hi (by omega)]
      exact h1.2.1
    · obtain rfl : k = i := by omega
      rw [endAt_out_lt hi k (Nat.le_refl _)]
      have hw : W[k]? = some W[k] := List.getElem?_eq_getElem hi
      obtain ⟨_, _, _, _, _, v5⟩ := WinOk.bounds h hw
      have := (WinOk.bounds h hw).2.1
      have h2 := h1.2.1
      rw [endAt_next hw] at h2
      omega
theorem tcells_app (R S : List Tri) : tcells (R ++ S) = tcells R ++ tcells S := by simp [tcells]
theorem tcells_one (R : List Tri) : ∀ u ∈ tcells R, u.oneCell' = true := by
  intro u hu
  simp only [tcells, List.mem_flatMap, Tri.cells, List.mem_cons, List.not_mem_nil, or_false] at hu
  obtain ⟨r, _, rfl | rfl | rfl⟩ := hu <;> rfl
theorem tcells_get {R : List Tri} {j : Nat} {u : Value} (h : (tcells R)[j]? = some u) : ∃ (k q : Nat) (r : Tri), j = k * 3 + q ∧ R[k]? = some r ∧ r.cells[q]? = some u := by
  induction R generalizing j with
  | nil => simp [tcells] at h
  | cons r R ih =>
    rw [tcells_cons] at h
    match j, h with
    | 0, h => exact ⟨0, 0, r, rfl, rfl, by simpa [Tri.cells] using h⟩
    | 1, h => exact ⟨0, 1, r, rfl, rfl, by simpa [Tri.cells] using h⟩
    | 2, h => exact ⟨0, 2, r, rfl, rfl, by simpa [Tri.cells] using h⟩
    | j + 3, h =>
      obtain ⟨k, q, r', e, h1, h2⟩ := ih (j := j) (by simpa using h)
      exact ⟨k + 1, q, r', by omega, by simpa using h1, h2⟩
/-- The cells of a part of what lies at A. -/
theorem Tris.part {w : World} {b o n c : Nat} {R : List Tri} (h : Tris w (some ⟨b, o, none⟩) n c R) (lo m : Nat) : ∀ j u, (tcells ((R.drop lo).take m))[j]? = some u → w.cell? ((⟨b, o + lo * 3, none⟩ : Addr).add j) = some u := by
  intro j u hu
  obtain ⟨k, q, r, rfl, hr, hq⟩ := tcells_get hu
  rw [List.getElem?_take] at hr
  split at hr
  · rw [List.getElem?_drop] at hr
    have hl := (List.getElem?_eq_some_iff.1 hr).1
    obtain ⟨b', o', hA, _, hc⟩ := h.2.2.2.2 (by have := h.1; omega)
    injection hA with hA
    injection hA with h1 h2
    subst h1 h2
    have := hc (lo + k) r hr q u hq
    rw [Addr.add_lit]
    rw [show o + lo * 3 + (k * 3 + q) = o + (lo + k) * 3 + q by omega]
    exact this
  · cases hr
theorem Tris.first {w : World} {b o n c : Nat} {R : List Tri} (h : Tris w (some ⟨b, o, none⟩) n c R) (m : Nat) : ∀ j u, (tcells (R.take m))[j]? = some u → w.cell? ((⟨b, o, none⟩ : Addr).add j) = some u := by
  have := Tris.part h 0 m
  simpa using this
theorem Tris.rest {w : World} {b o n c : Nat} {R : List Tri} (h : Tris w (some ⟨b, o, none⟩) n c R) (lo : Nat) : ∀ j u, (tcells (R.drop lo))[j]? = some u → w.cell? ((⟨b, o + lo * 3, none⟩ : Addr).add j) = some u := by
  have := Tris.part h lo R.length
  rwa [List.take_of_length_le (by simp)] at this
theorem Tris.of_own {w : World} {base n c : Nat} {e : TypeId} {A : Option Addr} {R : List Tri} (h : w.ownsRow base e 3 (.slice A n c) n (tcells R)) (hok : ∀ r ∈ R, r.ok) : Tris w A n c R := by
  have hl : R.length = n := by have := h.1; rw [tcells_len] at this; omega
  rcases h.2 with ⟨hv, h0⟩ | ⟨g, cap', cur, hv, _, hh, hnc, hcm, _, _⟩
  · simp only [Value.slice.injEq] at hv
    obtain ⟨rfl, rfl, rfl⟩ := hv
    exact ⟨hl, by omega, by omega, hok, fun h => by omega⟩
  · simp only [Value.slice.injEq] at hv
    obtain ⟨rfl, _, rfl⟩ := hv
    unfold maxLen at hcm
    refine ⟨hl, by omega, by omega, hok, fun _ => ⟨g, 0, rfl, lt_some hh, fun k r hr j u hu => ?_⟩⟩
    have := h.cells (g := g) rfl _ u (tcells_at hr hu)
    rw [Nat.zero_add]
    simpa [Addr.add_lit] using this
/-- An empty slice that was just written out owns nothing. -/
theorem emptied3 (w : World) (e : TypeId) (base : Nat) (hb : base ≤ w.heap.size) : (w.alloc (.cells #[] e)).ownsRow base e 3 (.slice (some ⟨w.heap.size, 0, none⟩) 0 0) 0 [] :=
  ⟨by simp, .inr ⟨w.heap.size, 0, #[], rfl, hb, heap_alloc_new w _, by simp, by unfold maxLen; omega, by simp, by simp⟩⟩
theorem out_ok {R : List Tri} (h : ∀ r ∈ R, r.ok) (i : Nat) : ∀ r ∈ out R i, r.ok := fun r hr => by
  rcases List.mem_append.1 hr with h1 | h1
  · exact h r (List.mem_of_mem_take h1)
  · exact h r (List.mem_of_mem_drop h1)
theorem info_of {t : TypeId} {z : Value} {size bytes : Nat} (h : (Try.prog.info? t).map (fun i => (i.zero, i.size, i.bytes)) = some (some z, size, bytes)) : ∃ i, Try.prog.info? t = some i ∧ i.zero = some z ∧ i.size = size ∧ i.bytes = bytes := by
  cases hi : Try.prog.info? t with
  | none => rw [hi] at h; cases h
  | some i =>
    rw [hi] at h
    simp at h
    exact ⟨i, rfl, h.1, h.2.1, h.2.2⟩
theorem info_chan : (Try.prog.info? 56).map (fun i => (i.zero, i.size, i.bytes)) = some (some (.agg #[.int .i64 0, .int .i64 0, .int .i64 0]), 3, 24) := by kernel_rfl
theorem info_win : (Try.prog.info? 75).map (fun i => (i.zero, i.size, i.bytes)) = some (some (.agg #[.int .i64 0, .int .i64 0, .int .i64 0]), 3, 24) := by kernel_rfl
theorem info_prt : (Try.prog.info? 72).map (fun i => (i.zero, i.size, i.bytes)) = some (some (.agg #[.int .i64 0, .int .i64 0, .int .i64 0]), 3, 24) := by kernel_rfl
end Go.Proofs.Ytogkdnjdcfffaaa.TabF
