/- A frame table in plain terms, and as it lies in memory; a table that came in. No conditions but those each law names. -/
import Derived.Test.YtliiinffkcgcaaaMem
import Derived.Deep.Slices
import Derived.Deep.Fields
import Derived.Deep.Strs
import Derived.WideShapes
namespace Go.Proofs.Ytliiinffkcgcaaa.TabA
open Go.RowKit Go.Proofs.Ytliiinffkcgcaaa.Kit Go.Proofs.Ytliiinffkcgcaaa.Byt Go.Proofs.Ytliiinffkcgcaaa.Mem

/-- Three numbers: a partition, a window, or a channel. -/
structure Tri where
  a : Int
  b : Int
  c : Int
instance : Inhabited Tri := ⟨⟨0, 0, 0⟩⟩
def Tri.cells (r : Tri) : List Value := [.int .i64 r.a, .int .i64 r.b, .int .i64 r.c]
structure Tri.ok (r : Tri) : Prop where
  a0 : -9223372036854775808 ≤ r.a
  a1 : r.a ≤ 9223372036854775807
  b0 : -9223372036854775808 ≤ r.b
  b1 : r.b ≤ 9223372036854775807
  c0 : -9223372036854775808 ≤ r.c
  c1 : r.c ≤ 9223372036854775807
/-- The slice at A is these threes. -/
def Tris (w : World) (A : Option Addr) (n c : Nat) (R : List Tri) : Prop :=
  R.length = n ∧ n ≤ c ∧ c ≤ 9223372036854775807 ∧ (∀ r ∈ R, r.ok) ∧
  (0 < n → ∃ b o, A = some ⟨b, o, none⟩ ∧ b < w.heap.size ∧ ∀ k r, R[k]? = some r → ∀ j u, r.cells[j]? = some u → w.cell? ⟨b, o + k * 3 + j, none⟩ = some u)
theorem Tris.below {w w' : World} {A : Option Addr} {n c : Nat} {R : List Tri} (h : Tris w A n c R) (hb : Below w.heap.size w w') : Tris w' A n c R :=
  ⟨h.1, h.2.1, h.2.2.1, h.2.2.2.1, fun hp => by
    obtain ⟨b, o, hA, hbl, hc⟩ := h.2.2.2.2 hp
    exact ⟨b, o, hA, Nat.lt_of_lt_of_le hbl hb.size, fun k r hr j u hu => (hb.cell (p := ⟨b, o + k * 3 + j, none⟩) hbl).trans (hc k r hr j u hu)⟩⟩
/-- The k-th three's cells. -/
theorem Tris.at_ {w : World} {A : Option Addr} {n c : Nat} {R : List Tri} (h : Tris w A n c R) {k : Nat} (hk : k < n) :
    ∃ (r : Tri) (b o : Nat), R[k]? = some r ∧ r.ok ∧ A = some ⟨b, o, none⟩ ∧ b < w.heap.size ∧ w.cell? ⟨b, o + k * 3, none⟩ = some (.int .i64 r.a) ∧ w.cell? ⟨b, o + k * 3 + 1, none⟩ = some (.int .i64 r.b) ∧ w.cell? ⟨b, o + k * 3 + 2, none⟩ = some (.int .i64 r.c) := by
  obtain ⟨b, o, hA, hb, hc⟩ := h.2.2.2.2 (by omega)
  have hk' : k < R.length := by rw [h.1]; exact hk
  have hr := List.getElem?_eq_getElem hk'
  have hm := List.getElem_mem hk'
  exact ⟨R[k], b, o, hr, h.2.2.2.1 _ hm, hA, hb, hc k _ hr 0 _ rfl, hc k _ hr 1 _ rfl, hc k _ hr 2 _ rfl⟩
theorem Tris.le {w : World} {A : Option Addr} {n c : Nat} {R : List Tri} (h : Tris w A n c R) : n ≤ 9223372036854775807 := by have := h.2.1; have := h.2.2.1; omega
theorem Tris.nil (w : World) : Tris w none 0 0 [] := ⟨rfl, by omega, by omega, by simp, fun h => absurd h (by simp)⟩

set_option maxRecDepth 100000 in
theorem open_tris {H : Type} {enc : TypeId × Value → H} {w : World} {t e : TypeId} {f0 f1 f2 : Field} {fuel : Nat} {cs : List Value} {x : DataW H × List MemPlace}
    (ht : Try.prog.underlying t = some (.slice e)) (he : Try.prog.underlying e = some (.struct #[f0, f1, f2])) (hC : Try.prog.cellsOf e = 3)
    (g0 : f0.type = 3 ∧ f0.offset = 0) (g1 : f1.type = 3 ∧ f1.offset = 1) (g2 : f2.type = 3 ∧ f2.offset = 2)
    (h : DataW.trod enc Try.prog w 0 (fun _ => true) true fuel t cs = some x) : ∃ A n c R, cs = [.slice A n c] ∧ Tris w A n c R := by
  rcases Go.Deep.open_slice ht h with ⟨hcs, _⟩ | ⟨x, n, c, m, q, D, Pl, hcs, _, hl, hm, hmm, _, hi⟩
  · exact ⟨none, 0, 0, [], hcs, Tris.nil w⟩
  · have each : ∀ i, i < n → ∃ r : Tri, r.ok ∧ ∀ j u, r.cells[j]? = some u → w.cell? (x.add (i * 3 + j)) = some u := by
      intro i hin
      obtain ⟨cs', hc, ht⟩ := hi i (by rw [hmm]; simp; omega)
      rw [hC] at hc
      obtain ⟨y0, y1, y2, n', _, _, e0, e1, e2⟩ := Go.Deep.trod_struct3 he ht
      obtain ⟨_, hlen, hat⟩ := World.cells?_some hc
      match cs', hlen with
      | [c0, c1, c2], _ =>
        have ci : Try.prog.cellsOf 3 = 1 := by kernel_rfl
        rw [g0.1, g0.2, ci] at e0
        rw [g1.1, g1.2, ci] at e1
        rw [g2.1, g2.2, ci] at e2
        obtain ⟨v0, q0, _, w0⟩ := DataW.trod_int (x := y0) Try.underlying3 e0
        obtain ⟨v1, q1, _, w1⟩ := DataW.trod_int (x := y1) Try.underlying3 e1
        obtain ⟨v2, q2, _, w2⟩ := DataW.trod_int (x := y2) Try.underlying3 e2
        obtain rfl : c0 = _ := by simpa using q0
        obtain rfl : c1 = _ := by simpa using q1
        obtain rfl : c2 = _ := by simpa using q2
        have b0 := bounds_i64 w0
        have b1 := bounds_i64 w1
        have b2 := bounds_i64 w2
        refine ⟨⟨v0, v1, v2⟩, ⟨b0.1, b0.2, b1.1, b1.2, b2.1, b2.2⟩, fun j u hu => ?_⟩
        have hj : j < 3 := by
          have := (List.getElem?_eq_some_iff.1 hu).1
          simpa [Tri.cells] using this
        have := hat j hj
        rw [Go.Deep.add_add] at this
        rw [this]
        exact hu
    obtain ⟨f, hf2⟩ := Go.Deep.choose_lt each
    refine ⟨some x, n, c, (List.range n).map f, hcs, by simp, hl, by unfold maxLen at hm; omega, ?_, fun hp => ?_⟩
    · intro r hr
      simp only [List.mem_map, List.mem_range] at hr
      obtain ⟨i, hi', rfl⟩ := hr
      exact (hf2 i hi').1
    · obtain ⟨b, off, spot⟩ := x
      have hc0 := (hf2 0 hp).2 0 _ rfl
      have hspot : spot = none := by simpa [Addr.add] using World.cell?_spot hc0
      subst hspot
      refine ⟨b, off, rfl, ?_, fun k r hr j u hu => ?_⟩
      · have := block_lt_of_cell hc0
        simpa [Addr.add] using this
      · have hk : k < n := by
          have := (List.getElem?_eq_some_iff.1 hr).1
          simpa using this
        simp only [List.getElem?_map, List.getElem?_range hk, Option.map_some, Option.some.injEq] at hr
        subst hr
        have := (hf2 k hk).2 j u hu
        rw [Addr.add_lit] at this
        rw [Nat.add_assoc]
        exact this

/-- A table, and how it lies. -/
structure Ta where
  fr : Int
  A1 : Option Addr
  n1 : Nat
  c1 : Nat
  P : List Tri
  A2 : Option Addr
  n2 : Nat
  c2 : Nat
  W : List Tri
  A3 : Option Addr
  n3 : Nat
  c3 : Nat
  C : List Tri
  tr : Int
@[reducible] def Ta.val (t : Ta) : Value := .agg #[.int .i64 t.fr, .slice t.A1 t.n1 t.c1, .slice t.A2 t.n2 t.c2, .slice t.A3 t.n3 t.c3, .int .i64 t.tr]
def Ta.cells (t : Ta) : List Value := [.int .i64 t.fr, .slice t.A1 t.n1 t.c1, .slice t.A2 t.n2 t.c2, .slice t.A3 t.n3 t.c3, .int .i64 t.tr]
structure Ta.ok (w : World) (t : Ta) : Prop where
  P : Tris w t.A1 t.n1 t.c1 t.P
  W : Tris w t.A2 t.n2 t.c2 t.W
  C : Tris w t.A3 t.n3 t.c3 t.C
  f0 : -9223372036854775808 ≤ t.fr
  f1 : t.fr ≤ 9223372036854775807
  t0 : -9223372036854775808 ≤ t.tr
  t1 : t.tr ≤ 9223372036854775807
theorem Ta.ok.below {w w' : World} {t : Ta} (h : t.ok w) (hb : Below w.heap.size w w') : t.ok w' :=
  ⟨h.P.below hb, h.W.below hb, h.C.below hb, h.f0, h.f1, h.t0, h.t1⟩
theorem Ta.ok.alloc {w : World} {t : Ta} (h : t.ok w) (o : Obj) : t.ok (w.alloc o) := h.below ((Below.refl _ _).alloc (Nat.le_refl _) o)

set_option maxRecDepth 100000 in
theorem open_table {H : Type} {enc : TypeId × Value → H} {w : World} {base : Nat} {v : Value} {d : DataW H} {p : List MemPlace} (h : DataW.Trod enc Try.prog w 0 (fun _ => true) true 26 v d p) (o : Value.okWide Try.prog w .any base 26 v) :
    ∃ t : Ta, v = t.val ∧ t.ok w := by
  obtain ⟨cs, rfl, hs⟩ := Go.WideShapes.okWide_struct Try.underlying26 o
  obtain ⟨fuel, hf⟩ := h
  have hC : Try.prog.cellsOf 26 = 5 := by kernel_rfl
  rw [hC] at hs
  obtain ⟨cs, rfl⟩ : ∃ l : List Value, cs = l.toArray := ⟨cs.toList, by simp⟩
  have hcs : (Value.agg cs.toArray).cells.toList = cs := by simp [Value.cells]
  rw [hcs] at hf
  obtain ⟨ys, n', _, _, _, hyl, hfl⟩ := DataW.trod_struct Try.underlying26 hf
  match cs, hs with
  | [c0, c1, c2, c3, c4], _ =>
    have ci : Try.prog.cellsOf 3 = 1 := by kernel_rfl
    have cp : Try.prog.cellsOf 22 = 1 := by kernel_rfl
    have cw : Try.prog.cellsOf 23 = 1 := by kernel_rfl
    have cc : Try.prog.cellsOf 24 = 1 := by kernel_rfl
    match ys, hyl with
    | [y0, y1, y2, y3, y4], _ =>
      have e0 : DataW.trod enc Try.prog w 0 (fun _ => true) true n' 3 (([c0, c1, c2, c3, c4].drop 0).take (Try.prog.cellsOf 3)) = some y0 := hfl 0 _ rfl
      rw [ci] at e0
      have e1 : DataW.trod enc Try.prog w 0 (fun _ => true) true n' 22 (([c0, c1, c2, c3, c4].drop 1).take (Try.prog.cellsOf 22)) = some y1 := hfl 1 _ rfl
      rw [cp] at e1
      have e2 : DataW.trod enc Try.prog w 0 (fun _ => true) true n' 23 (([c0, c1, c2, c3, c4].drop 2).take (Try.prog.cellsOf 23)) = some y2 := hfl 2 _ rfl
      rw [cw] at e2
      have e3 : DataW.trod enc Try.prog w 0 (fun _ => true) true n' 24 (([c0, c1, c2, c3, c4].drop 3).take (Try.prog.cellsOf 24)) = some y3 := hfl 3 _ rfl
      rw [cc] at e3
      have e4 : DataW.trod enc Try.prog w 0 (fun _ => true) true n' 3 (([c0, c1, c2, c3, c4].drop 4).take (Try.prog.cellsOf 3)) = some y4 := hfl 4 _ rfl
      rw [ci] at e4
      obtain ⟨v0, q0, _, w0⟩ := DataW.trod_int (x := y0) Try.underlying3 e0
      obtain ⟨v4, q4, _, w4⟩ := DataW.trod_int (x := y4) Try.underlying3 e4
      obtain ⟨A1, n1, k1, R1, q1, h1⟩ := open_tris Try.underlying22 Try.underlying81 (by kernel_rfl) ⟨rfl, rfl⟩ ⟨rfl, rfl⟩ ⟨rfl, rfl⟩ e1
      obtain ⟨A2, n2, k2, R2, q2, h2⟩ := open_tris Try.underlying23 Try.underlying84 (by kernel_rfl) ⟨rfl, rfl⟩ ⟨rfl, rfl⟩ ⟨rfl, rfl⟩ e2
      obtain ⟨A3, n3, k3, R3, q3, h3⟩ := open_tris Try.underlying24 Try.underlying59 (by kernel_rfl) ⟨rfl, rfl⟩ ⟨rfl, rfl⟩ ⟨rfl, rfl⟩ e3
      obtain rfl : c0 = _ := by simpa using q0
      obtain rfl : c1 = _ := by simpa using q1
      obtain rfl : c2 = _ := by simpa using q2
      obtain rfl : c3 = _ := by simpa using q3
      obtain rfl : c4 = _ := by simpa using q4
      have b0 := bounds_i64 w0
      have b4 := bounds_i64 w4
      exact ⟨⟨v0, A1, n1, k1, R1, A2, n2, k2, R2, A3, n3, k3, R3, v4⟩, rfl, h1, h2, h3, b0.1, b0.2, b4.1, b4.2⟩
set_option maxRecDepth 100000 in
theorem open_channel {H : Type} {enc : TypeId × Value → H} {w : World} {base : Nat} {v : Value} {d : DataW H} {p : List MemPlace} (h : DataW.Trod enc Try.prog w 0 (fun _ => true) true 59 v d p) (o : Value.okWide Try.prog w .any base 59 v) :
    ∃ r : Tri, v = .agg r.cells.toArray ∧ r.ok := by
  obtain ⟨cs, rfl, hs⟩ := Go.WideShapes.okWide_struct Try.underlying59 o
  obtain ⟨fuel, hf⟩ := h
  have hC : Try.prog.cellsOf 59 = 3 := by kernel_rfl
  rw [hC] at hs
  obtain ⟨cs, rfl⟩ : ∃ l : List Value, cs = l.toArray := ⟨cs.toList, by simp⟩
  have hcs : (Value.agg cs.toArray).cells.toList = cs := by simp [Value.cells]
  rw [hcs] at hf
  obtain ⟨ys, n', _, _, _, hyl, hfl⟩ := DataW.trod_struct Try.underlying59 hf
  match cs, hs with
  | [c0, c1, c2], _ =>
    have ci : Try.prog.cellsOf 3 = 1 := by kernel_rfl
    match ys, hyl with
    | [y0, y1, y2], _ =>
      have e0 : DataW.trod enc Try.prog w 0 (fun _ => true) true n' 3 (([c0, c1, c2].drop 0).take (Try.prog.cellsOf 3)) = some y0 := hfl 0 _ rfl
      rw [ci] at e0
      have e1 : DataW.trod enc Try.prog w 0 (fun _ => true) true n' 3 (([c0, c1, c2].drop 1).take (Try.prog.cellsOf 3)) = some y1 := hfl 1 _ rfl
      rw [ci] at e1
      have e2 : DataW.trod enc Try.prog w 0 (fun _ => true) true n' 3 (([c0, c1, c2].drop 2).take (Try.prog.cellsOf 3)) = some y2 := hfl 2 _ rfl
      rw [ci] at e2
      obtain ⟨v0, q0, _, w0⟩ := DataW.trod_int (x := y0) Try.underlying3 e0
      obtain ⟨v1, q1, _, w1⟩ := DataW.trod_int (x := y1) Try.underlying3 e1
      obtain ⟨v2, q2, _, w2⟩ := DataW.trod_int (x := y2) Try.underlying3 e2
      obtain rfl : c0 = _ := by simpa using q0
      obtain rfl : c1 = _ := by simpa using q1
      obtain rfl : c2 = _ := by simpa using q2
      have b0 := bounds_i64 w0
      have b1 := bounds_i64 w1
      have b2 := bounds_i64 w2
      exact ⟨⟨v0, v1, v2⟩, rfl, b0.1, b0.2, b1.1, b1.2, b2.1, b2.2⟩
end Go.Proofs.Ytliiinffkcgcaaa.TabA
