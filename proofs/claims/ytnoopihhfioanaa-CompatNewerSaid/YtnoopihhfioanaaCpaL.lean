/- An image that came in, its numbers of 64 bits. No conditions but those the law names. -/
import Derived.Test.YtnoopihhfioanaaImgA
import Derived.Test.YtnoopihhfioanaaCpaN
namespace Go.Proofs.Ytnoopihhfioanaa.CpaL
open Go.RowKit Go.Proofs.Ytnoopihhfioanaa.Kit Go.Proofs.Ytnoopihhfioanaa.Byt Go.Proofs.Ytnoopihhfioanaa.Mem
open Go.Proofs.Ytnoopihhfioanaa.ImgA (Im open_bytes)
open Go.Proofs.Ytnoopihhfioanaa.CpaN (n64)
set_option maxRecDepth 100000 in
theorem open_image64 {H : Type} {enc : TypeId × Value → H} {w : World} {base : Nat} {v : Value} {d : DataW H} {p : List MemPlace} (h : DataW.Trod enc Try.prog w 0 (fun _ => true) true 29 v d p) (o : Value.okWide Try.prog w .any base 29 v) :
    ∃ i : Im, v = i.val ∧ i.ok w ∧ (n64 i.p ∧ n64 i.v ∧ n64 i.h ∧ n64 i.m ∧ n64 i.f ∧ n64 i.s ∧ n64 i.r) := by
  obtain ⟨cs, rfl, hs⟩ := Go.WideShapes.okWide_struct Try.underlying29 o
  obtain ⟨fuel, hf⟩ := h
  have hC : Try.prog.cellsOf 29 = 8 := by kernel_rfl
  rw [hC] at hs
  obtain ⟨cs, rfl⟩ : ∃ l : List Value, cs = l.toArray := ⟨cs.toList, by simp⟩
  have hcs : (Value.agg cs.toArray).cells.toList = cs := by simp [Value.cells]
  rw [hcs] at hf
  obtain ⟨ys, n', _, _, _, hyl, hfl⟩ := DataW.trod_struct Try.underlying29 hf
  match cs, hs with
  | [c0, c1, c2, c3, c4, c5, c6, c7], _ =>
    have ci : Try.prog.cellsOf 3 = 1 := by kernel_rfl
    have cb : Try.prog.cellsOf 27 = 1 := by kernel_rfl
    match ys, hyl with
    | [y0, y1, y2, y3, y4, y5, y6, y7], _ =>
      have e0 : DataW.trod enc Try.prog w 0 (fun _ => true) true n' 3 (([c0, c1, c2, c3, c4, c5, c6, c7].drop 0).take (Try.prog.cellsOf 3)) = some y0 := hfl 0 _ rfl
      have e1 : DataW.trod enc Try.prog w 0 (fun _ => true) true n' 3 (([c0, c1, c2, c3, c4, c5, c6, c7].drop 1).take (Try.prog.cellsOf 3)) = some y1 := hfl 1 _ rfl
      have e2 : DataW.trod enc Try.prog w 0 (fun _ => true) true n' 3 (([c0, c1, c2, c3, c4, c5, c6, c7].drop 2).take (Try.prog.cellsOf 3)) = some y2 := hfl 2 _ rfl
      have e3 : DataW.trod enc Try.prog w 0 (fun _ => true) true n' 3 (([c0, c1, c2, c3, c4, c5, c6, c7].drop 3).take (Try.prog.cellsOf 3)) = some y3 := hfl 3 _ rfl
      have e4 : DataW.trod enc Try.prog w 0 (fun _ => true) true n' 3 (([c0, c1, c2, c3, c4, c5, c6, c7].drop 4).take (Try.prog.cellsOf 3)) = some y4 := hfl 4 _ rfl
      have e5 : DataW.trod enc Try.prog w 0 (fun _ => true) true n' 3 (([c0, c1, c2, c3, c4, c5, c6, c7].drop 5).take (Try.prog.cellsOf 3)) = some y5 := hfl 5 _ rfl
      have e6 : DataW.trod enc Try.prog w 0 (fun _ => true) true n' 3 (([c0, c1, c2, c3, c4, c5, c6, c7].drop 6).take (Try.prog.cellsOf 3)) = some y6 := hfl 6 _ rfl
      have e7 : DataW.trod enc Try.prog w 0 (fun _ => true) true n' 27 (([c0, c1, c2, c3, c4, c5, c6, c7].drop 7).take (Try.prog.cellsOf 27)) = some y7 := hfl 7 _ rfl
      rw [ci] at e0 e1 e2 e3 e4 e5 e6
      rw [cb] at e7
      obtain ⟨v0, q0, _, w0⟩ := DataW.trod_int (x := y0) Try.underlying3 e0
      obtain ⟨v1, q1, _, w1⟩ := DataW.trod_int (x := y1) Try.underlying3 e1
      obtain ⟨v2, q2, _, w2⟩ := DataW.trod_int (x := y2) Try.underlying3 e2
      obtain ⟨v3, q3, _, w3⟩ := DataW.trod_int (x := y3) Try.underlying3 e3
      obtain ⟨v4, q4, _, w4⟩ := DataW.trod_int (x := y4) Try.underlying3 e4
      obtain ⟨v5, q5, _, w5⟩ := DataW.trod_int (x := y5) Try.underlying3 e5
      obtain ⟨v6, q6, _, w6⟩ := DataW.trod_int (x := y6) Try.underlying3 e6
      obtain ⟨A, n, c, xs, q7, hr, hx⟩ := open_bytes Try.underlying27 Try.underlying5 (by kernel_rfl) e7
      obtain rfl : c0 = _ := by simpa using q0
      obtain rfl : c1 = _ := by simpa using q1
      obtain rfl : c2 = _ := by simpa using q2
      obtain rfl : c3 = _ := by simpa using q3
      obtain rfl : c4 = _ := by simpa using q4
      obtain rfl : c5 = _ := by simpa using q5
      obtain rfl : c6 = _ := by simpa using q6
      obtain rfl : c7 = _ := by simpa using q7
      exact ⟨⟨v0, v1, v2, v3, v4, v5, v6, A, n, c, xs⟩, rfl, ⟨hr, hx⟩, bounds_i64 w0, bounds_i64 w1, bounds_i64 w2, bounds_i64 w3, bounds_i64 w4, bounds_i64 w5, bounds_i64 w6⟩

end Go.Proofs.Ytnoopihhfioanaa.CpaL
