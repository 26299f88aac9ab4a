/- The walk of ImageSame. Condition: the rounds' own numbers lie in the variable. -/
import Derived.Test.YtlghojnlnfkdhaaDoorImgE
import Derived.Test.YtlghojnlnfkdhaaDoorImgC
namespace Go.Proofs.YtlghojnlnfkdhaaDoor.ImageSameW
open Go.RowKit Go.Proofs.YtlghojnlnfkdhaaDoor.Kit Go.Proofs.YtlghojnlnfkdhaaDoor.Byt Go.Proofs.YtlghojnlnfkdhaaDoor.Mem Go.Proofs.YtlghojnlnfkdhaaDoor.ShaM Go.Proofs.YtlghojnlnfkdhaaDoor.ShaE Go.Proofs.YtlghojnlnfkdhaaDoor.ImgA Go.Proofs.YtlghojnlnfkdhaaDoor.ImgB Go.Proofs.YtlghojnlnfkdhaaDoor.ImgC Go.Proofs.YtlghojnlnfkdhaaDoor.ImgE

theorem isame_v {p v h m f s r p' v' h' m' f' s' r' : Int} {A A' : Option Addr} {n c n' c' : Nat} {xs xs' : List Nat} (w : World) (hi : Im.ok w ⟨p, v, h, m, f, s, r, A, n, c, xs⟩) (hj : Im.ok w ⟨p', v', h', m', f', s', r', A', n', c', xs'⟩) (b : Bool) (hb : b = true ↔ like ⟨p, v, h, m, f, s, r, A, n, c, xs⟩ ⟨p', v', h', m', f', s', r', A', n', c', xs'⟩) :
    Calls Tryd.prog 16 #[.agg #[.int .i64 p, .int .i64 v, .int .i64 h, .int .i64 m, .int .i64 f, .int .i64 s, .int .i64 r, .slice A n c], .agg #[.int .i64 p', .int .i64 v', .int .i64 h', .int .i64 m', .int .i64 f', .int .i64 s', .int .i64 r', .slice A' n' c']] w (Yes w b) := isame_any _ _ w hi hj b hb
set_option maxRecDepth 100000 in
set_option maxHeartbeats 6400000 in
theorem core (i j : Im) (w : World) (hT : Tab w) (hi : i.ok w) (hj : j.ok w) : Calls Tryd.prog 5 #[i.val, j.val] w (Yes w true) := by
  have HX := Lib.hid (B2.new w i j)
  have HW := Lib.hid (fun w' (hb : Below w.heap.size w w') => wakes_any w' (hT.below hb hT.1))
  obtain ⟨b, hb⟩ := bool_of (like i j)
  have HB := Lib.hid hb
  have HI := Lib.hid hi
  have HJ := Lib.hid hj
  have HR := Lib.hid (fun w' (hb' : Below w.heap.size w w') => rsame_any i j w' (hi.below hb') (hj.below hb') b hb)
  have hn : i.n ≤ 9223372036854775807 := by have := hi.code.le; have := hi.code.cap; omega
  have hn' : j.n ≤ 9223372036854775807 := by have := hj.code.le; have := hj.code.cap; omega
  have HSS := Lib.hid (fun w' (hb' : Below w.heap.size w w') => isame_any i i w' (hi.below hb') (hi.below hb') true (by simp [like]))
  have HSD := Lib.hid (fun w' (hb' : Below w.heap.size w w') => isame_any i j w' (hi.below hb') (hj.below hb') b hb)
  clear hT hb hi hj HB HI HJ
  obtain ⟨p, v, h, m, f, s, r, A, n, c, xs⟩ := i
  obtain ⟨p', v', h', m', f', s', r', A', n', c', xs'⟩ := j
  have hn : n ≤ 9223372036854775807 := hn
  have hn' : n' ≤ 9223372036854775807 := hn'
  show Calls _ _ #[.agg #[.int .i64 p, .int .i64 v, .int .i64 h, .int .i64 m, .int .i64 f, .int .i64 s, .int .i64 r, .slice A n c], .agg #[.int .i64 p', .int .i64 v', .int .i64 h', .int .i64 m', .int .i64 f', .int .i64 s', .int .i64 r', .slice A' n' c']] w _
  by_cases hl : (500 : Int) < (n : Int)
  · go_enter Tryd.func5, Tryd.ntmps5
    go_wp2_with fail
    refine (HW.out _ HX.out.x.bel).mono ?_
    rintro e w1 ⟨rfl, hb1⟩
    have HX1 := Lib.hid (HX.out.step hb1)
    clear hb1
    obtain ⟨⟨y0, y1, y2, y3, y4, y5, y6, y7⟩, z0, z1, z2, z3, z4, z5, z6, z7⟩ := HX1.out.cell
    dsimp only at y0 y1 y2 y3 y4 y5 y6 y7 z0 z1 z2 z3 z4 z5 z6 z7
    go_wp2
    go_ret
    exact ⟨rfl, HX1.out.x.bel⟩
  · by_cases hl' : (500 : Int) < (n' : Int)
    · go_enter Tryd.func5, Tryd.ntmps5
      go_wp2_with fail
      refine (HW.out _ HX.out.x.bel).mono ?_
      rintro e w1 ⟨rfl, hb1⟩
      have HX1 := Lib.hid (HX.out.step hb1)
      clear hb1
      obtain ⟨⟨y0, y1, y2, y3, y4, y5, y6, y7⟩, z0, z1, z2, z3, z4, z5, z6, z7⟩ := HX1.out.cell
      dsimp only at y0 y1 y2 y3 y4 y5 y6 y7 z0 z1 z2 z3 z4 z5 z6 z7
      go_wp2
      go_ret
      exact ⟨rfl, HX1.out.x.bel⟩
    · go_enter Tryd.func5, Tryd.ntmps5
      go_wp2_with fail
      refine (HW.out _ HX.out.x.bel).mono ?_
      rintro e w1 ⟨rfl, hb1⟩
      have HX1 := Lib.hid (HX.out.step hb1)
      clear hb1
      obtain ⟨⟨y0, y1, y2, y3, y4, y5, y6, y7⟩, z0, z1, z2, z3, z4, z5, z6, z7⟩ := HX1.out.cell
      dsimp only at y0 y1 y2 y3 y4 y5 y6 y7 z0 z1 z2 z3 z4 z5 z6 z7
      have hbb : (b == b) = true := by simp
      go_wp2_with fail
      go_region_held3 (fun w' => (w'.cell? ⟨w.heap.size, 0, none⟩ = some (.int .i64 p) ∧ w'.cell? ⟨w.heap.size, 1, none⟩ = some (.int .i64 v) ∧ w'.cell? ⟨w.heap.size, 2, none⟩ = some (.int .i64 h) ∧ w'.cell? ⟨w.heap.size, 3, none⟩ = some (.int .i64 m) ∧ w'.cell? ⟨w.heap.size, 4, none⟩ = some (.int .i64 f) ∧ w'.cell? ⟨w.heap.size, 5, none⟩ = some (.int .i64 s) ∧ w'.cell? ⟨w.heap.size, 6, none⟩ = some (.int .i64 r) ∧ w'.cell? ⟨w.heap.size, 7, none⟩ = some (.slice A n c)) ∧ w'.cell? ⟨w.heap.size + 1, 0, none⟩ = some (.int .i64 p') ∧ w'.cell? ⟨w.heap.size + 1, 1, none⟩ = some (.int .i64 v') ∧ w'.cell? ⟨w.heap.size + 1, 2, none⟩ = some (.int .i64 h') ∧ w'.cell? ⟨w.heap.size + 1, 3, none⟩ = some (.int .i64 m') ∧ w'.cell? ⟨w.heap.size + 1, 4, none⟩ = some (.int .i64 f') ∧ w'.cell? ⟨w.heap.size + 1, 5, none⟩ = some (.int .i64 s') ∧ w'.cell? ⟨w.heap.size + 1, 6, none⟩ = some (.int .i64 r') ∧ w'.cell? ⟨w.heap.size + 1, 7, none⟩ = some (.slice A' n' c'))
        (first | go_keep | exact HX4.out.cell | exact HX3.out.cell | exact HX2.out.cell)
        (first
         | (go_at_call 16; have hq := HX3; clear hq; refine (HSS.out _ HX3.out.x.bel).mono ?_; rintro e w4 ⟨rfl, hb4⟩; have HX4 := Lib.hid (HX3.out.step hb4); clear hb4)
         | (go_at_call 15; refine (HR.out _ HX2.out.x.bel).mono ?_; rintro e w3 ⟨rfl, hb3⟩; have HX3 := Lib.hid (HX2.out.step hb3); clear hb3)
         | (go_at_call 16; refine (HSD.out _ (HX1.out.step (Below.refl w1.heap.size w1).drew).x.bel).mono ?_; rintro e w2 ⟨rfl, hb2⟩; have HX2 := Lib.hid (HX1.out.step (((Below.refl w1.heap.size w1).drew).trans hb2)); clear hb2))
      all_goals (clear y0 y1 y2 y3 y4 y5 y6 y7 z0 z1 z2 z3 z4 z5 z6 z7; go_wp2; go_ret; exact ⟨rfl, HX4.out.x.bel⟩)

set_option maxRecDepth 100000 in
theorem hole {H : Type} (enc : TypeId × Value → H) (base : Nat) (v0 : Value) (d0 : DataW H) (p0 : List MemPlace) (v1 : Value) (d1 : DataW H) (p1 : List MemPlace) (w : World) (w0 : DataW.Trod enc Tryd.prog w 0 (fun _ => true) true 24 v0 d0 p0) (o0 : Value.okWide Tryd.prog w .any base 24 v0) (w1 : DataW.Trod enc Tryd.prog w 0 (fun _ => true) true 24 v1 d1 p1) (o1 : Value.okWide Tryd.prog w .any base 24 v1) (hT : Tab w) :
    Calls Tryd.prog 5 #[v0, v1] w fun e w' => e = .returned (.bool true) ∧ Below w.heap.size w w' := by
  obtain ⟨i, rfl, hi⟩ := open_image w0 o0
  obtain ⟨j, rfl, hj⟩ := open_image w1 o1
  exact core i j w hT hi hj
end Go.Proofs.YtlghojnlnfkdhaaDoor.ImageSameW
