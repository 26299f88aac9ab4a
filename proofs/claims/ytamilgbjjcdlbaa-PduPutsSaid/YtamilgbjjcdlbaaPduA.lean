/- Messages as they lie in memory; one that came in; its own box. No conditions but those each law names. -/
import Derived.Test.YtamilgbjjcdlbaaMem
import Derived.Test.YtamilgbjjcdlbaaPduM
import Derived.Test.YtamilgbjjcdlbaaNumA
import Derived.Deep.Slices
import Derived.Deep.Fields
import Derived.Deep.Strs
import Derived.WideShapes
namespace Go.Proofs.Ytamilgbjjcdlbaa.PduA
open Go.RowKit Go.Proofs.Ytamilgbjjcdlbaa.Kit Go.Proofs.Ytamilgbjjcdlbaa.Byt Go.Proofs.Ytamilgbjjcdlbaa.Mem Go.Proofs.Ytamilgbjjcdlbaa.RecM Go.Proofs.Ytamilgbjjcdlbaa.PduM

open Classical in
theorem bool_of (p : Prop) : ∃ b : Bool, b = true ↔ p := ⟨decide p, by simp⟩
theorem below_drewN {B : Nat} {w w' : World} (h : Below B w w') (n : Nat) : Below B w (w'.drewN n) := ⟨h.os, h.tape, h.output, h.size, h.block⟩
/-- Bytes that came in, inside something. -/

theorem open_bytes {H : Type} {enc : TypeId × Value → H} {w : World} {t e : TypeId} {fuel : Nat} {cs : List Value} {x : DataW H × List MemPlace} {P : Program}
    (ht : P.underlying t = some (.slice e)) (he : P.underlying e = some (.int .u8)) (hc : P.cellsOf e = 1) (h : DataW.trod enc P w 0 (fun _ => true) true fuel t cs = some x) :
    ∃ A n c xs, cs = [.slice A n c] ∧ Rd w A n c (u8n xs) ∧ ∀ u ∈ xs, u < 256 := by
  rcases Go.Deep.open_slice1 ht hc h with ⟨hcs, _⟩ | ⟨a, n, c, m, q, V, D, Pl, hcs, _, hl, hm, hmm, _, hi⟩
  · exact ⟨none, 0, 0, [], hcs, Rd.nil w, by simp⟩
  · have each : ∀ i, i < n → ∃ u : Nat, u < 256 ∧ w.cell? (a.add i) = some (.int .u8 (u : Int)) := by
      intro i hin
      obtain ⟨h1, h2⟩ := hi i (by rw [hmm]; simp; omega)
      obtain ⟨v, q, _, wv⟩ := DataW.trod_int he h2
      have hb := bounds_u8 wv
      obtain hv : V i = .int .u8 v := by simpa using q
      exact ⟨v.toNat, by omega, by rw [h1, hv, Int.toNat_of_nonneg hb.1]⟩
    obtain ⟨f, hf2⟩ := Go.Deep.choose_lt each
    refine ⟨some a, n, c, (List.range n).map f, hcs, ⟨by simp [u8n], hl, by unfold maxLen at hm; omega, fun hp => ?_⟩, ?_⟩
    · obtain ⟨b, off, spot⟩ := a
      have hc0 := (hf2 0 hp).2
      have hspot : spot = none := by simpa [Addr.add] using World.cell?_spot hc0
      subst hspot
      refine ⟨b, off, rfl, ?_, fun j u hu => ?_⟩
      · have := block_lt_of_cell hc0
        simpa [Addr.add] using this
      · have hj : j < n := by
          have := (List.getElem?_eq_some_iff.1 hu).1
          simpa [u8n] using this
        simp only [u8n, List.map_map, List.getElem?_map, List.getElem?_range hj, Option.map_some, Option.some.injEq] at hu
        subst hu
        have := (hf2 j hj).2
        rwa [Addr.add_lit] at this
    · intro u hu
      simp only [List.mem_map, List.mem_range] at hu
      obtain ⟨i, hi', rfl⟩ := hu
      exact (hf2 i hi').1


/-- A message, and how it lies. -/
structure Pu where
  (k s p n z y c h : Int)
  (A : Option Addr)
  (m d : Nat)
  (xs : List Nat)
def Pu.pd (i : Pu) : Pd := ⟨i.k, i.s, i.p, i.n, i.z, i.y, i.c, i.h, i.xs⟩
@[reducible] def Pu.val (i : Pu) : Value := .agg #[.int .i64 i.k, .int .i64 i.s, .int .i64 i.p, .int .i64 i.n, .int .i64 i.z, .int .i64 i.y, .int .i64 i.c, .int .i64 i.h, .slice i.A i.m i.d]
def Pu.cells (i : Pu) : List Value := [.int .i64 i.k, .int .i64 i.s, .int .i64 i.p, .int .i64 i.n, .int .i64 i.z, .int .i64 i.y, .int .i64 i.c, .int .i64 i.h, .slice i.A i.m i.d]
def Pu.none : Pu := ⟨0, 0, 0, 0, 0, 0, 0, 0, Option.none, 0, 0, []⟩
/-- A number of 64 bits. -/
def n64 (x : Int) : Prop := -9223372036854775808 ≤ x ∧ x ≤ 9223372036854775807
structure Pu.bd (i : Pu) : Prop where
  k : n64 i.k
  s : n64 i.s
  p : n64 i.p
  n : n64 i.n
  z : n64 i.z
  y : n64 i.y
  c : n64 i.c
  h : n64 i.h
/-- Its data lies so. -/
structure Pu.ok (w : World) (i : Pu) : Prop where
  data : Rd w i.A i.m i.d (u8n i.xs)
  byt : byt i.xs
theorem Pu.ok.len {w : World} {i : Pu} (h : i.ok w) : i.xs.length = i.m := Rd.nats h.data
theorem Pu.ok.below {w w' : World} {i : Pu} (h : i.ok w) (hb : Below w.heap.size w w') : i.ok w' := ⟨h.data.below hb, h.byt⟩
theorem Pu.ok.alloc {w : World} {i : Pu} (h : i.ok w) (o : Obj) : i.ok (w.alloc o) := h.below ((Below.refl _ _).alloc (Nat.le_refl _) o)
theorem none_ok (w : World) : Pu.none.ok w := ⟨Rd.nil w, by intro c hc; cases hc⟩
theorem none_pd : Pu.none.pd = Pd.none := rfl
theorem size_pdu : (Try.prog.info? 24).map (·.size) = some 9 := by kernel_rfl
theorem one_p (i : Pu) : ∀ u ∈ i.cells, u.oneCell' = true := by intro u hu; simp [Pu.cells] at hu; rcases hu with rfl | rfl | rfl | rfl | rfl | rfl | rfl | rfl | rfl <;> rfl

set_option maxRecDepth 100000 in
theorem open_pdu {H : Type} {enc : TypeId × Value → H} {w : World} {base : Nat} {v : Value} {d : DataW H} {p : List MemPlace} (h : DataW.Trod enc Try.prog w 0 (fun _ => true) true 24 v d p) (o : Value.okWide Try.prog w .any base 24 v) :
    ∃ i : Pu, v = i.val ∧ i.ok w ∧ i.bd := by
  obtain ⟨cs, rfl, hs⟩ := Go.WideShapes.okWide_struct Try.underlying24 o
  obtain ⟨fuel, hf⟩ := h
  have hC : Try.prog.cellsOf 24 = 9 := by kernel_rfl
  rw [hC] at hs
  obtain ⟨cs, rfl⟩ : ∃ l : List Value, cs = l.toArray := ⟨cs.toList, by simp⟩
  have hcs : (Value.agg cs.toArray).cells.toList = cs := by simp [Value.cells]
  rw [hcs] at hf
  obtain ⟨ys, n', _, _, _, hyl, hfl⟩ := DataW.trod_struct Try.underlying24 hf
  match cs, hs with
  | [c0, c1, c2, c3, c4, c5, c6, c7, c8], _ =>
    have ci : Try.prog.cellsOf 3 = 1 := by kernel_rfl
    have cb : Try.prog.cellsOf 22 = 1 := by kernel_rfl
    match ys, hyl with
    | [y0, y1, y2, y3, y4, y5, y6, y7, y8], _ =>
      have e0 : DataW.trod enc Try.prog w 0 (fun _ => true) true n' 3 (([c0, c1, c2, c3, c4, c5, c6, c7, c8].drop 0).take (Try.prog.cellsOf 3)) = some y0 := hfl 0 _ rfl
      have e1 : DataW.trod enc Try.prog w 0 (fun _ => true) true n' 3 (([c0, c1, c2, c3, c4, c5, c6, c7, c8].drop 1).take (Try.prog.cellsOf 3)) = some y1 := hfl 1 _ rfl
      have e2 : DataW.trod enc Try.prog w 0 (fun _ => true) true n' 3 (([c0, c1, c2, c3, c4, c5, c6, c7, c8].drop 2).take (Try.prog.cellsOf 3)) = some y2 := hfl 2 _ rfl
      have e3 : DataW.trod enc Try.prog w 0 (fun _ => true) true n' 3 (([c0, c1, c2, c3, c4, c5, c6, c7, c8].drop 3).take (Try.prog.cellsOf 3)) = some y3 := hfl 3 _ rfl
      have e4 : DataW.trod enc Try.prog w 0 (fun _ => true) true n' 3 (([c0, c1, c2, c3, c4, c5, c6, c7, c8].drop 4).take (Try.prog.cellsOf 3)) = some y4 := hfl 4 _ rfl
      have e5 : DataW.trod enc Try.prog w 0 (fun _ => true) true n' 3 (([c0, c1, c2, c3, c4, c5, c6, c7, c8].drop 5).take (Try.prog.cellsOf 3)) = some y5 := hfl 5 _ rfl
      have e6 : DataW.trod enc Try.prog w 0 (fun _ => true) true n' 3 (([c0, c1, c2, c3, c4, c5, c6, c7, c8].drop 6).take (Try.prog.cellsOf 3)) = some y6 := hfl 6 _ rfl
      have e7 : DataW.trod enc Try.prog w 0 (fun _ => true) true n' 3 (([c0, c1, c2, c3, c4, c5, c6, c7, c8].drop 7).take (Try.prog.cellsOf 3)) = some y7 := hfl 7 _ rfl
      have e8 : DataW.trod enc Try.prog w 0 (fun _ => true) true n' 22 (([c0, c1, c2, c3, c4, c5, c6, c7, c8].drop 8).take (Try.prog.cellsOf 22)) = some y8 := hfl 8 _ rfl
      rw [ci] at e0 e1 e2 e3 e4 e5 e6 e7
      rw [cb] at e8
      obtain ⟨v0, q0, _, w0⟩ := DataW.trod_int (x := y0) Try.underlying3 e0
      obtain ⟨v1, q1, _, w1⟩ := DataW.trod_int (x := y1) Try.underlying3 e1
      obtain ⟨v2, q2, _, w2⟩ := DataW.trod_int (x := y2) Try.underlying3 e2
      obtain ⟨v3, q3, _, w3⟩ := DataW.trod_int (x := y3) Try.underlying3 e3
      obtain ⟨v4, q4, _, w4⟩ := DataW.trod_int (x := y4) Try.underlying3 e4
      obtain ⟨v5, q5, _, w5⟩ := DataW.trod_int (x := y5) Try.underlying3 e5
      obtain ⟨v6, q6, _, w6⟩ := DataW.trod_int (x := y6) Try.underlying3 e6
      obtain ⟨v7, q7, _, w7⟩ := DataW.trod_int (x := y7) Try.underlying3 e7
      obtain ⟨A, m, d, xs, q8, hr, hx⟩ := open_bytes Try.underlying22 Try.underlying5 (by kernel_rfl) e8
      obtain rfl : c0 = _ := by simpa using q0
      obtain rfl : c1 = _ := by simpa using q1
      obtain rfl : c2 = _ := by simpa using q2
      obtain rfl : c3 = _ := by simpa using q3
      obtain rfl : c4 = _ := by simpa using q4
      obtain rfl : c5 = _ := by simpa using q5
      obtain rfl : c6 = _ := by simpa using q6
      obtain rfl : c7 = _ := by simpa using q7
      obtain rfl : c8 = _ := by simpa using q8
      exact ⟨⟨v0, v1, v2, v3, v4, v5, v6, v7, A, m, d, xs⟩, rfl, ⟨hr, hx⟩, ⟨bounds_i64 w0, bounds_i64 w1, bounds_i64 w2, bounds_i64 w3, bounds_i64 w4, bounds_i64 w5, bounds_i64 w6, bounds_i64 w7⟩⟩

/-- The world only has more than w; this bool comes back. -/
def Yes (w : World) (b : Bool) (e : Ending) (w' : World) : Prop := e = .returned (.bool b) ∧ Below w.heap.size w w'
/-- New memory of one's own, and all that was there. -/
def Gives (w : World) (xs : List Nat) (e : Ending) (w' : World) : Prop := ∃ B m d, e = .returned (.slice B m d) ∧ w'.ownsRow w.heap.size 5 1 (.slice B m d) m (u8n xs) ∧ Below w.heap.size w w'
theorem own_mono {w : World} {b b' : Nat} {e : TypeId} {v : Value} {n : Nat} {xs : List Value} (h : w.ownsRow b' e 1 v n xs) (hb : b ≤ b') : w.ownsRow b e 1 v n xs := by
  refine ⟨h.1, ?_⟩
  rcases h.2 with h1 | ⟨g, cap, cur, hv, hg, hrest⟩
  · exact .inl h1
  · exact .inr ⟨g, cap, cur, hv, by omega, hrest⟩
/-- A box of one's own, and all that was there. -/
structure Bx (w : World) (g : Nat) (cs : List Value) (wr : World) : Prop where
  blk : Blk wr g 24 cs
  new_ : w.heap.size ≤ g
  bel : Below w.heap.size w wr
theorem Bx.new (w : World) (cs : List Value) : Bx w w.heap.size cs (w.alloc (.cells cs.toArray 24)) := ⟨Blk.new w _ _, Nat.le_refl _, (Below.refl _ _).alloc (Nat.le_refl _) _⟩
theorem Bx.step {w wr w' : World} {g : Nat} {cs : List Value} (h : Bx w g cs wr) (hb : Below wr.heap.size wr w') : Bx w g cs w' := ⟨h.blk.below hb, h.new_, h.bel.trans (hb.mono h.bel.size)⟩
theorem Bx.alloc {w wr : World} {g : Nat} {cs : List Value} (h : Bx w g cs wr) (o : Obj) : Bx w g cs (wr.alloc o) := h.step ((Below.refl _ _).alloc (Nat.le_refl _) o)
theorem nine {w : World} {g : Nat} {t : TypeId} {i : Pu} (h : Blk w g t i.cells) : w.cell? ⟨g, 0, none⟩ = some (.int .i64 i.k) ∧ w.cell? ⟨g, 1, none⟩ = some (.int .i64 i.s) ∧ w.cell? ⟨g, 2, none⟩ = some (.int .i64 i.p) ∧ w.cell? ⟨g, 3, none⟩ = some (.int .i64 i.n) ∧ w.cell? ⟨g, 4, none⟩ = some (.int .i64 i.z) ∧ w.cell? ⟨g, 5, none⟩ = some (.int .i64 i.y) ∧ w.cell? ⟨g, 6, none⟩ = some (.int .i64 i.c) ∧ w.cell? ⟨g, 7, none⟩ = some (.int .i64 i.h) ∧ w.cell? ⟨g, 8, none⟩ = some (.slice i.A i.m i.d) := ⟨h.cell rfl, h.cell rfl, h.cell rfl, h.cell rfl, h.cell rfl, h.cell rfl, h.cell rfl, h.cell rfl, h.cell rfl⟩
/-- Bytes that were just written out. -/
theorem own_lit {w : World} (xs : List Nat) {n : Nat} (hn : xs.length = n) (h63 : n ≤ 1000) : (w.alloc (.cells (u8n xs).toArray 5)).ownsRow w.heap.size 5 1 (.slice (some ⟨w.heap.size, 0, none⟩) n n) n (u8n xs) := by
  have h := own_of_block (w := w.alloc (.cells (u8n xs).toArray 5)) (g := w.heap.size) (cur := u8n xs) (e := 5) (base := w.heap.size) (n := n) (heap_alloc_new w _) (Nat.le_refl _) (by rw [u8n_len]; omega) (by rw [u8n_len]; omega)
  rw [u8n_len, hn, List.take_of_length_le (by rw [u8n_len]; omega)] at h
  exact h
theorem rd_lit (w : World) (xs : List Nat) {n : Nat} (hn : xs.length = n) (h63 : n ≤ 1000) : Rd (w.alloc (.cells (u8n xs).toArray 5)) (some ⟨w.heap.size, 0, none⟩) n n (u8n xs) := Rd.own (own_lit xs hn h63)
theorem own_at (w : World) (g n base : Nat) (xs : List Nat) (hg : w.heap.size = g) (hn : xs.length = n) (h63 : n ≤ 1000) (hb : base ≤ g) : (w.alloc (.cells (u8n xs).toArray 5)).ownsRow base 5 1 (.slice (some ⟨g, 0, none⟩) n n) n (u8n xs) := by
  subst hg
  exact own_mono (own_lit xs hn h63) hb
theorem rd_at (w : World) (g n : Nat) (xs : List Nat) (hg : w.heap.size = g) (hn : xs.length = n) (h63 : n ≤ 1000) : Rd (w.alloc (.cells (u8n xs).toArray 5)) (some ⟨g, 0, none⟩) n n (u8n xs) := Rd.own (own_at w g n g xs hg hn h63 (Nat.le_refl _))
end Go.Proofs.Ytamilgbjjcdlbaa.PduA
