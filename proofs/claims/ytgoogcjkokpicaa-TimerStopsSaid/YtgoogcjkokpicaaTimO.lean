/- Acts on timers that came in. No conditions but those each law names. -/
import Derived.Test.YtgoogcjkokpicaaTimW
namespace Go.Proofs.Ytgoogcjkokpicaa.TimO
open Go.RowKit Go.Proofs.Ytgoogcjkokpicaa.Kit Go.Proofs.Ytgoogcjkokpicaa.Byt Go.Proofs.Ytgoogcjkokpicaa.Mem Go.Proofs.Ytgoogcjkokpicaa.TimA

structure Ac where
  kind : Int
  name : Int
  tick : Int
instance : Inhabited Ac := ⟨⟨0, 0, 0⟩⟩
def Ac.cells (r : Ac) : List Value := [.int .i64 r.kind, .int .i64 r.name, .int .i64 r.tick]
structure Ac.ok (r : Ac) : Prop where
  k : hw r.kind
  n : hw r.name
  t : hw r.tick
/-- The slice at A is these acts. -/
def Acts (w : World) (A : Option Addr) (n c : Nat) (R : List Ac) : Prop :=
  R.length = n ∧ n ≤ c ∧ c ≤ 9223372036854775807 ∧ (∀ r ∈ R, r.ok) ∧
  (0 < n → ∃ b o, A = some ⟨b, o, none⟩ ∧ b < w.heap.size ∧ ∀ k r, R[k]? = some r → ∀ j u, r.cells[j]? = some u → w.cell? ⟨b, o + k * 3 + j, none⟩ = some u)
theorem Acts.below {w w' : World} {A : Option Addr} {n c : Nat} {R : List Ac} (h : Acts w A n c R) (hb : Below w.heap.size w w') : Acts w' A n c R :=
  ⟨h.1, h.2.1, h.2.2.1, h.2.2.2.1, fun hp => by
    obtain ⟨b, o, hA, hbl, hc⟩ := h.2.2.2.2 hp
    exact ⟨b, o, hA, Nat.lt_of_lt_of_le hbl hb.size, fun k r hr j u hu => (hb.cell (p := ⟨b, o + k * 3 + j, none⟩) hbl).trans (hc k r hr j u hu)⟩⟩
/-- The k-th act's cells. -/
theorem Acts.at_ {w : World} {A : Option Addr} {n c : Nat} {R : List Ac} (h : Acts w A n c R) {k : Nat} (hk : k < n) :
    ∃ (r : Ac) (b o : Nat), R[k]? = some r ∧ r.ok ∧ A = some ⟨b, o, none⟩ ∧ b < w.heap.size ∧ w.cell? ⟨b, o + k * 3, none⟩ = some (.int .i64 r.kind) ∧ w.cell? ⟨b, o + k * 3 + 1, none⟩ = some (.int .i64 r.name) ∧ w.cell? ⟨b, o + k * 3 + 2, none⟩ = some (.int .i64 r.tick) := by
  obtain ⟨b, o, hA, hb, hc⟩ := h.2.2.2.2 (by omega)
  have hk' : k < R.length := by rw [h.1]; exact hk
  have hr := List.getElem?_eq_getElem hk'
  have hm := List.getElem_mem hk'
  exact ⟨R[k], b, o, hr, h.2.2.2.1 _ hm, hA, hb, hc k _ hr 0 _ rfl, hc k _ hr 1 _ rfl, hc k _ hr 2 _ rfl⟩
set_option maxRecDepth 100000 in
theorem open_acts {H : Type} {enc : TypeId × Value → H} {w : World} {base : Nat} {v : Value} {d : DataW H} {p : List MemPlace} (h : DataW.Trod enc Try.prog w 0 (fun _ => true) true 22 v d p) (o : Value.okWide Try.prog w .any base 22 v) :
    ∃ A n c R, v = .slice A n c ∧ Acts w A n c R := by
  obtain ⟨a, n, c, rfl⟩ := Go.WideShapes.okWide_slice Try.underlying22 o
  obtain ⟨fuel, hf⟩ := h
  rcases Go.Deep.open_slice Try.underlying22 hf with ⟨hcs, _⟩ | ⟨x, len, cap, m, q, D, Pl, hcs, _, hl, hm, hmm, _, hi⟩
  · simp [Value.cells] at hcs
    obtain ⟨rfl, rfl, rfl⟩ := hcs
    exact ⟨none, 0, 0, [], rfl, rfl, by omega, by omega, by simp, fun h => absurd h (by simp)⟩
  · simp [Value.cells] at hcs
    obtain ⟨rfl, rfl, rfl⟩ := hcs
    have hC : Try.prog.cellsOf 28 = 3 := by kernel_rfl
    have each : ∀ i, i < n → ∃ r : Ac, r.ok ∧ ∀ j u, r.cells[j]? = some u → w.cell? (x.add (i * 3 + j)) = some u := by
      intro i hin
      obtain ⟨cs', hc, ht⟩ := hi i (by rw [hmm]; simp; omega)
      rw [hC] at hc
      obtain ⟨ys, n', _, _, _, hyl, hfl⟩ := DataW.trod_struct Try.underlying28 ht
      obtain ⟨_, hlen, hat⟩ := World.cells?_some hc
      match cs', hlen with
      | [c0, c1, c2], _ =>
        have ci : Try.prog.cellsOf 3 = 1 := by kernel_rfl
        match ys, hyl with
        | [y0, y1, y2], _ =>
          have e0 : DataW.trod enc Try.prog w 0 (fun _ => true) true n' 3 (([c0, c1, c2].drop 0).take (Try.prog.cellsOf 3)) = some y0 := hfl 0 _ rfl
          rw [ci] at e0
          have e1 : DataW.trod enc Try.prog w 0 (fun _ => true) true n' 3 (([c0, c1, c2].drop 1).take (Try.prog.cellsOf 3)) = some y1 := hfl 1 _ rfl
          rw [ci] at e1
          have e2 : DataW.trod enc Try.prog w 0 (fun _ => true) true n' 3 (([c0, c1, c2].drop 2).take (Try.prog.cellsOf 3)) = some y2 := hfl 2 _ rfl
          rw [ci] at e2
          obtain ⟨v0, q0, _, w0⟩ := DataW.trod_int (x := y0) Try.underlying3 e0
          obtain ⟨v1, q1, _, w1⟩ := DataW.trod_int (x := y1) Try.underlying3 e1
          obtain ⟨v2, q2, _, w2⟩ := DataW.trod_int (x := y2) Try.underlying3 e2
          obtain rfl : c0 = _ := by simpa using q0
          obtain rfl : c1 = _ := by simpa using q1
          obtain rfl : c2 = _ := by simpa using q2
          refine ⟨⟨v0, v1, v2⟩, ⟨w0, w1, w2⟩, fun j u hu => ?_⟩
          have hj : j < 3 := by
            have := (List.getElem?_eq_some_iff.1 hu).1
            simpa [Ac.cells] using this
          have := hat j hj
          rw [Go.Deep.add_add] at this
          rw [this]
          exact hu
    obtain ⟨f, hf2⟩ := Go.Deep.choose_lt each
    refine ⟨some x, n, c, (List.range n).map f, rfl, by simp, hl, by unfold maxLen at hm; omega, ?_, fun hp => ?_⟩
    · intro r hr
      simp only [List.mem_map, List.mem_range] at hr
      obtain ⟨i, hi', rfl⟩ := hr
      exact (hf2 i hi').1
    · obtain ⟨b, off, spot⟩ := x
      have hc0 := (hf2 0 hp).2 0 _ rfl
      have hspot : spot = none := by simpa [Addr.add] using World.cell?_spot hc0
      subst hspot
      refine ⟨b, off, rfl, ?_, fun k r hr j u hu => ?_⟩
      · have := block_lt_of_cell hc0
        simpa [Addr.add] using this
      · have hk : k < n := by
          have := (List.getElem?_eq_some_iff.1 hr).1
          simpa using this
        simp only [List.getElem?_map, List.getElem?_range hk, Option.map_some, Option.some.injEq] at hr
        subst hr
        have := (hf2 k hk).2 j u hu
        rw [Addr.add_lit] at this
        rw [Nat.add_assoc]
        exact this
end Go.Proofs.Ytgoogcjkokpicaa.TimO
