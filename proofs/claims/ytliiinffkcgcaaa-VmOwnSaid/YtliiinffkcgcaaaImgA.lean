/- A program image in plain terms, and as it lies in memory; an image that came in; its own box. No conditions but those each law names. -/
import Derived.Test.YtliiinffkcgcaaaMem
import Derived.Deep.Slices
import Derived.Deep.Fields
import Derived.Deep.Strs
import Derived.WideShapes
namespace Go.Proofs.Ytliiinffkcgcaaa.ImgA
open Go.RowKit Go.Proofs.Ytliiinffkcgcaaa.Kit Go.Proofs.Ytliiinffkcgcaaa.Byt Go.Proofs.Ytliiinffkcgcaaa.Mem

/-- Bytes that came in, inside something. -/
theorem open_bytes {H : Type} {enc : TypeId × Value → H} {w : World} {t e : TypeId} {fuel : Nat} {cs : List Value} {x : DataW H × List MemPlace} {P : Program}
    (ht : P.underlying t = some (.slice e)) (he : P.underlying e = some (.int .u8)) (hc : P.cellsOf e = 1) (h : DataW.trod enc P w 0 (fun _ => true) true fuel t cs = some x) :
    ∃ A n c xs, cs = [.slice A n c] ∧ Rd w A n c (u8n xs) ∧ ∀ u ∈ xs, u < 256 := by
  rcases Go.Deep.open_slice1 ht hc h with ⟨hcs, _⟩ | ⟨a, n, c, m, q, V, D, Pl, hcs, _, hl, hm, hmm, _, hi⟩
  · exact ⟨none, 0, 0, [], hcs, Rd.nil w, by simp⟩
  · have each : ∀ i, i < n → ∃ u : Nat, u < 256 ∧ w.cell? (a.add i) = some (.int .u8 (u : Int)) := by
      intro i hin
      obtain ⟨h1, h2⟩ := hi i (by rw [hmm]; simp; omega)
      obtain ⟨v, q, _, wv⟩ := DataW.trod_int he h2
      have hb := bounds_u8 wv
      obtain hv : V i = .int .u8 v := by simpa using q
      exact ⟨v.toNat, by omega, by rw [h1, hv, Int.toNat_of_nonneg hb.1]⟩
    obtain ⟨f, hf2⟩ := Go.Deep.choose_lt each
    refine ⟨some a, n, c, (List.range n).map f, hcs, ⟨by simp [u8n], hl, by unfold maxLen at hm; omega, fun hp => ?_⟩, ?_⟩
    · obtain ⟨b, off, spot⟩ := a
      have hc0 := (hf2 0 hp).2
      have hspot : spot = none := by simpa [Addr.add] using World.cell?_spot hc0
      subst hspot
      refine ⟨b, off, rfl, ?_, fun j u hu => ?_⟩
      · have := block_lt_of_cell hc0
        simpa [Addr.add] using this
      · have hj : j < n := by
          have := (List.getElem?_eq_some_iff.1 hu).1
          simpa [u8n] using this
        simp only [u8n, List.map_map, List.getElem?_map, List.getElem?_range hj, Option.map_some, Option.some.injEq] at hu
        subst hu
        have := (hf2 j hj).2
        rwa [Addr.add_lit] at this
    · intro u hu
      simp only [List.mem_map, List.mem_range] at hu
      obtain ⟨i, hi', rfl⟩ := hu
      exact (hf2 i hi').1

/-- An image, and how it lies. -/
structure Im where
  p : Int
  v : Int
  h : Int
  m : Int
  f : Int
  s : Int
  r : Int
  A : Option Addr
  n : Nat
  c : Nat
  xs : List Nat
@[reducible] def Im.val (i : Im) : Value := .agg #[.int .i64 i.p, .int .i64 i.v, .int .i64 i.h, .int .i64 i.m, .int .i64 i.f, .int .i64 i.s, .int .i64 i.r, .slice i.A i.n i.c]
def Im.cells (i : Im) : List Value := [.int .i64 i.p, .int .i64 i.v, .int .i64 i.h, .int .i64 i.m, .int .i64 i.f, .int .i64 i.s, .int .i64 i.r, .slice i.A i.n i.c]
structure Im.ok (w : World) (i : Im) : Prop where
  code : Rd w i.A i.n i.c (u8n i.xs)
  byt : ∀ u ∈ i.xs, u < 256
theorem Im.ok.len {w : World} {i : Im} (h : i.ok w) : i.xs.length = i.n := Rd.nats h.code
theorem Im.ok.below {w w' : World} {i : Im} (h : i.ok w) (hb : Below w.heap.size w w') : i.ok w' := ⟨h.code.below hb, h.byt⟩
theorem Im.ok.alloc {w : World} {i : Im} (h : i.ok w) (o : Obj) : i.ok (w.alloc o) := h.below ((Below.refl _ _).alloc (Nat.le_refl _) o)

set_option maxRecDepth 100000 in
theorem open_image {H : Type} {enc : TypeId × Value → H} {w : World} {base : Nat} {v : Value} {d : DataW H} {p : List MemPlace} (h : DataW.Trod enc Try.prog w 0 (fun _ => true) true 29 v d p) (o : Value.okWide Try.prog w .any base 29 v) :
    ∃ i : Im, v = i.val ∧ i.ok w := by
  obtain ⟨cs, rfl, hs⟩ := Go.WideShapes.okWide_struct Try.underlying29 o
  obtain ⟨fuel, hf⟩ := h
  have hC : Try.prog.cellsOf 29 = 8 := by kernel_rfl
  rw [hC] at hs
  obtain ⟨cs, rfl⟩ : ∃ l : List Value, cs = l.toArray := ⟨cs.toList, by simp⟩
  have hcs : (Value.agg cs.toArray).cells.toList = cs := by simp [Value.cells]
  rw [hcs] at hf
  obtain ⟨ys, n', _, _, _, hyl, hfl⟩ := DataW.trod_struct Try.underlying29 hf
  match cs, hs with
  | [c0, c1, c2, c3, c4, c5, c6, c7], _ =>
    have ci : Try.prog.cellsOf 3 = 1 := by kernel_rfl
    have cb : Try.prog.cellsOf 27 = 1 := by kernel_rfl
    match ys, hyl with
    | [y0, y1, y2, y3, y4, y5, y6, y7], _ =>
      have e0 : DataW.trod enc Try.prog w 0 (fun _ => true) true n' 3 (([c0, c1, c2, c3, c4, c5, c6, c7].drop 0).take (Try.prog.cellsOf 3)) = some y0 := hfl 0 _ rfl
      have e1 : DataW.trod enc Try.prog w 0 (fun _ => true) true n' 3 (([c0, c1, c2, c3, c4, c5, c6, c7].drop 1).take (Try.prog.cellsOf 3)) = some y1 := hfl 1 _ rfl
      have e2 : DataW.trod enc Try.prog w 0 (fun _ => true) true n' 3 (([c0, c1, c2, c3, c4, c5, c6, c7].drop 2).take (Try.prog.cellsOf 3)) = some y2 := hfl 2 _ rfl
      have e3 : DataW.trod enc Try.prog w 0 (fun _ => true) true n' 3 (([c0, c1, c2, c3, c4, c5, c6, c7].drop 3).take (Try.prog.cellsOf 3)) = some y3 := hfl 3 _ rfl
      have e4 : DataW.trod enc Try.prog w 0 (fun _ => true) true n' 3 (([c0, c1, c2, c3, c4, c5, c6, c7].drop 4).take (Try.prog.cellsOf 3)) = some y4 := hfl 4 _ rfl
      have e5 : DataW.trod enc Try.prog w 0 (fun _ => true) true n' 3 (([c0, c1, c2, c3, c4, c5, c6, c7].drop 5).take (Try.prog.cellsOf 3)) = some y5 := hfl 5 _ rfl
      have e6 : DataW.trod enc Try.prog w 0 (fun _ => true) true n' 3 (([c0, c1, c2, c3, c4, c5, c6, c7].drop 6).take (Try.prog.cellsOf 3)) = some y6 := hfl 6 _ rfl
      have e7 : DataW.trod enc Try.prog w 0 (fun _ => true) true n' 27 (([c0, c1, c2, c3, c4, c5, c6, c7].drop 7).take (Try.prog.cellsOf 27)) = some y7 := hfl 7 _ rfl
      rw [ci] at e0 e1 e2 e3 e4 e5 e6
      rw [cb] at e7
      obtain ⟨v0, q0, _, _⟩ := DataW.trod_int (x := y0) Try.underlying3 e0
      obtain ⟨v1, q1, _, _⟩ := DataW.trod_int (x := y1) Try.underlying3 e1
      obtain ⟨v2, q2, _, _⟩ := DataW.trod_int (x := y2) Try.underlying3 e2
      obtain ⟨v3, q3, _, _⟩ := DataW.trod_int (x := y3) Try.underlying3 e3
      obtain ⟨v4, q4, _, _⟩ := DataW.trod_int (x := y4) Try.underlying3 e4
      obtain ⟨v5, q5, _, _⟩ := DataW.trod_int (x := y5) Try.underlying3 e5
      obtain ⟨v6, q6, _, _⟩ := DataW.trod_int (x := y6) Try.underlying3 e6
      obtain ⟨A, n, c, xs, q7, hr, hx⟩ := open_bytes Try.underlying27 Try.underlying5 (by kernel_rfl) e7
      obtain rfl : c0 = _ := by simpa using q0
      obtain rfl : c1 = _ := by simpa using q1
      obtain rfl : c2 = _ := by simpa using q2
      obtain rfl : c3 = _ := by simpa using q3
      obtain rfl : c4 = _ := by simpa using q4
      obtain rfl : c5 = _ := by simpa using q5
      obtain rfl : c6 = _ := by simpa using q6
      obtain rfl : c7 = _ := by simpa using q7
      exact ⟨⟨v0, v1, v2, v3, v4, v5, v6, A, n, c, xs⟩, rfl, hr, hx⟩

/-- The world only has more than w; this bool comes back. -/
def Yes (w : World) (b : Bool) (e : Ending) (w' : World) : Prop := e = .returned (.bool b) ∧ Below w.heap.size w w'
/-- The image's own box, and all that was there. -/
structure Bx (w : World) (g : Nat) (i : Im) (wr : World) : Prop where
  blk : Blk wr g 29 i.cells
  new_ : w.heap.size ≤ g
  bel : Below w.heap.size w wr
theorem Bx.new (w : World) (i : Im) : Bx w w.heap.size i (w.alloc (.cells i.cells.toArray 29)) := ⟨Blk.new w _ _, Nat.le_refl _, (Below.refl _ _).alloc (Nat.le_refl _) _⟩
theorem Bx.step {w wr w' : World} {g : Nat} {i : Im} (h : Bx w g i wr) (hb : Below wr.heap.size wr w') : Bx w g i w' := ⟨h.blk.below hb, h.new_, h.bel.trans (hb.mono h.bel.size)⟩
theorem Bx.alloc {w wr : World} {g : Nat} {i : Im} (h : Bx w g i wr) (o : Obj) : Bx w g i (wr.alloc o) := h.step ((Below.refl _ _).alloc (Nat.le_refl _) o)
theorem Bx.drewN {w wr : World} {g : Nat} {i : Im} (h : Bx w g i wr) (n : Nat) : Bx w g i (wr.drewN n) := h.step ⟨rfl, rfl, rfl, Nat.le_refl _, fun _ _ => rfl⟩
theorem Bx.cell {w wr : World} {g : Nat} {i : Im} (h : Bx w g i wr) : wr.cell? ⟨g, 0, none⟩ = some (.int .i64 i.p) ∧ wr.cell? ⟨g, 1, none⟩ = some (.int .i64 i.v) ∧ wr.cell? ⟨g, 2, none⟩ = some (.int .i64 i.h) ∧ wr.cell? ⟨g, 3, none⟩ = some (.int .i64 i.m) ∧ wr.cell? ⟨g, 4, none⟩ = some (.int .i64 i.f) ∧ wr.cell? ⟨g, 5, none⟩ = some (.int .i64 i.s) ∧ wr.cell? ⟨g, 6, none⟩ = some (.int .i64 i.r) ∧ wr.cell? ⟨g, 7, none⟩ = some (.slice i.A i.n i.c) :=
  ⟨h.blk.cell rfl, h.blk.cell rfl, h.blk.cell rfl, h.blk.cell rfl, h.blk.cell rfl, h.blk.cell rfl, h.blk.cell rfl, h.blk.cell rfl⟩
theorem Bx.sz {w wr : World} {g : Nat} {i : Im} (h : Bx w g i wr) : w.heap.size < wr.heap.size := Nat.lt_of_le_of_lt h.new_ h.blk.lt
end Go.Proofs.Ytliiinffkcgcaaa.ImgA
