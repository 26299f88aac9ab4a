/- The reference's Same, of like tables. Conditions: the tables lie as the facts say. -/
import Derived.Test.YtcgnlkckgfaomaaTabU
import Derived.BigQuiet
namespace Go.Proofs.Ytcgnlkckgfaomaa.TabV
open Go.RowKit Go.Proofs.Ytcgnlkckgfaomaa.Kit Go.Proofs.Ytcgnlkckgfaomaa.NumA Go.Proofs.Ytcgnlkckgfaomaa.NumB Go.Proofs.Ytcgnlkckgfaomaa.Mem Go.Proofs.Ytcgnlkckgfaomaa.TabA Go.Proofs.Ytcgnlkckgfaomaa.TabB Go.Proofs.Ytcgnlkckgfaomaa.TabC Go.Proofs.Ytcgnlkckgfaomaa.TabD Go.Proofs.Ytcgnlkckgfaomaa.TabE Go.Proofs.Ytcgnlkckgfaomaa.TabH Go.Proofs.Ytcgnlkckgfaomaa.TabI Go.Proofs.Ytcgnlkckgfaomaa.TabJ

/-- Two tables' boxes. -/
structure B2 (w : World) (g h : Nat) (t u : Ta) (wr : World) : Prop where
  x : Blk wr g 26 t.cells
  y : Blk wr h 26 u.cells
  bel : Below w.heap.size w wr
theorem B2.step {w wr w' : World} {g h : Nat} {t u : Ta} (H : B2 w g h t u wr) (hb : Below wr.heap.size wr w') : B2 w g h t u w' := ⟨H.x.below hb, H.y.below hb, H.bel.trans (hb.mono H.bel.size)⟩

set_option maxRecDepth 100000 in
set_option maxHeartbeats 6400000 in
theorem rsame_yes (fr tr : Int) (A1 A2 A3 B1 B2' B3 : Option Addr) (n1 c1 n2 c2 n3 c3 d1 d2 d3 : Nat) (P W C : List Tri) (w : World) (ht : Ta.ok w ⟨fr, A1, n1, c1, P, A2, n2, c2, W, A3, n3, c3, C, tr⟩) (hu : Ta.ok w ⟨fr, B1, n1, d1, P, B2', n2, d2, W, B3, n3, d3, C, tr⟩) :
    Calls Try.prog 17 #[Ta.val ⟨fr, A1, n1, c1, P, A2, n2, c2, W, A3, n3, c3, C, tr⟩, Ta.val ⟨fr, B1, n1, d1, P, B2', n2, d2, W, B3, n3, d3, C, tr⟩] w (Yes w true) := by
  have hm1 : n1 ≤ 9223372036854775807 := ht.P.le
  have hm2 : n2 ≤ 9223372036854775807 := ht.W.le
  have hm3 : n3 ≤ 9223372036854775807 := ht.C.le
  have HT := Lib.hid ht
  have HU := Lib.hid hu
  clear ht hu
  obtain ⟨t, hte⟩ : ∃ t : Ta, t = ⟨fr, A1, n1, c1, P, A2, n2, c2, W, A3, n3, c3, C, tr⟩ := ⟨_, rfl⟩
  obtain ⟨u, hue⟩ : ∃ u : Ta, u = ⟨fr, B1, n1, d1, P, B2', n2, d2, W, B3, n3, d3, C, tr⟩ := ⟨_, rfl⟩
  have HX := Lib.hid (show B2 w w.heap.size (w.heap.size + 1) t u ((w.alloc (.cells t.cells.toArray 26)).alloc (.cells u.cells.toArray 26)) from
    ⟨Blk.alloc (Blk.new w _ _) _, by have h := Blk.new (w.alloc (.cells t.cells.toArray 26)) 26 u.cells; simpa using h, ((Below.refl _ _).alloc (Nat.le_refl _) _).alloc (by simp) _⟩)
  have HK := Lib.hid (show ∀ wr, B2 w w.heap.size (w.heap.size + 1) t u wr → (wr.cell? ⟨w.heap.size, 0, none⟩ = some (.int .i64 fr) ∧ wr.cell? ⟨w.heap.size, 1, none⟩ = some (.slice A1 n1 c1) ∧ wr.cell? ⟨w.heap.size, 2, none⟩ = some (.slice A2 n2 c2) ∧ wr.cell? ⟨w.heap.size, 3, none⟩ = some (.slice A3 n3 c3) ∧ wr.cell? ⟨w.heap.size, 4, none⟩ = some (.int .i64 tr)) ∧
      (wr.cell? ⟨w.heap.size + 1, 0, none⟩ = some (.int .i64 fr) ∧ wr.cell? ⟨w.heap.size + 1, 1, none⟩ = some (.slice B1 n1 d1) ∧ wr.cell? ⟨w.heap.size + 1, 2, none⟩ = some (.slice B2' n2 d2) ∧ wr.cell? ⟨w.heap.size + 1, 3, none⟩ = some (.slice B3 n3 d3) ∧ wr.cell? ⟨w.heap.size + 1, 4, none⟩ = some (.int .i64 tr)) from by
    intro wr H
    subst hte hue
    exact ⟨⟨H.x.cell rfl, H.x.cell rfl, H.x.cell rfl, H.x.cell rfl, H.x.cell rfl⟩, ⟨H.y.cell rfl, H.y.cell rfl, H.y.cell rfl, H.y.cell rfl, H.y.cell rfl⟩⟩)
  have HW : Hid (((w.alloc (.cells t.cells.toArray 26)).alloc (.cells u.cells.toArray 26)) = ((w.alloc (.cells #[.int .i64 fr, .slice A1 n1 c1, .slice A2 n2 c2, .slice A3 n3 c3, .int .i64 tr] 26)).alloc (.cells #[.int .i64 fr, .slice B1 n1 d1, .slice B2' n2 d2, .slice B3 n3 d3, .int .i64 tr] 26))) := Lib.hid (by subst hte hue; rfl)
  rw [HW.out] at HX
  clear hte hue HW
  show Calls _ _ #[.agg #[.int .i64 fr, .slice A1 n1 c1, .slice A2 n2 c2, .slice A3 n3 c3, .int .i64 tr], .agg #[.int .i64 fr, .slice B1 n1 d1, .slice B2' n2 d2, .slice B3 n3 d3, .int .i64 tr]] w _
  obtain ⟨⟨y0, y1, y2, y3, y4⟩, ⟨z0, z1, z2, z3, z4⟩⟩ := HK.out _ HX.out
  go_enter Try.func17, Try.ntmps17
  go_wp2_with fail
  clear y0 y1 y2 y3 y4 z0 z1 z2 z3 z4
  go_loopw [5] (fun i wr => ∃ k : Nat, k ≤ n1 ∧ i = .int .i64 k ∧ Hid (B2 w w.heap.size (w.heap.size + 1) t u wr)) (fun i _ => n1 - (intOf i).toNat)
  case atStart => exact ⟨0, Nat.zero_le _, rfl, HX⟩
  case round =>
    obtain ⟨k, hk, rfl, HXr⟩ := hrel
    obtain ⟨⟨y0, y1, y2, y3, y4⟩, ⟨z0, z1, z2, z3, z4⟩⟩ := HK.out _ HXr.out
    by_cases hlt : k < n1
    · obtain ⟨r, b1, o1, hr, _, hA, hl1, q0, q1, q2⟩ := (HT.out.below HXr.out.bel).P.at_ hlt
      obtain ⟨r', b2, o2, hr', _, hA', hl2, p0, p1, p2⟩ := (HU.out.below HXr.out.bel).P.at_ hlt
      dsimp only at hr hr' hA hA'
      obtain rfl : r = r' := by rw [hr] at hr'; injection hr'
      clear hr hr'
      rw [hA] at y1
      rw [hA'] at z1
      go_wp2_with fail
      go_quiet (fail)
      go_wp2_with fail
      go_roundw
      case rel => exact ⟨k + 1, by omega, by go_num, Lib.hid (HXr.out.step (below_drewN (Below.refl _ _) _))⟩
      case measure => simp [intOf]; omega
    · obtain rfl : n1 = k := by omega
      go_wp2_with fail
      clear y0 y1 y2 y3 y4 z0 z1 z2 z3 z4
      go_loopw [6] (fun i wr => ∃ k : Nat, k ≤ n2 ∧ i = .int .i64 k ∧ Hid (B2 w w.heap.size (w.heap.size + 1) t u wr)) (fun i _ => n2 - (intOf i).toNat)
      case atStart => exact ⟨0, Nat.zero_le _, rfl, HXr⟩
      case round =>
        obtain ⟨k, hk, rfl, HXr⟩ := hrel
        obtain ⟨⟨y0, y1, y2, y3, y4⟩, ⟨z0, z1, z2, z3, z4⟩⟩ := HK.out _ HXr.out
        by_cases hlt : k < n2
        · obtain ⟨r, b1, o1, hr, _, hA, hl1, q0, q1, q2⟩ := (HT.out.below HXr.out.bel).W.at_ hlt
          obtain ⟨r', b2, o2, hr', _, hA', hl2, p0, p1, p2⟩ := (HU.out.below HXr.out.bel).W.at_ hlt
          dsimp only at hr hr' hA hA'
          obtain rfl : r = r' := by rw [hr] at hr'; injection hr'
          clear hr hr'
          rw [hA] at y2
          rw [hA'] at z2
          go_wp2_with fail
          go_quiet (fail)
          go_wp2_with fail
          go_roundw
          case rel => exact ⟨k + 1, by omega, by go_num, Lib.hid (HXr.out.step (below_drewN (Below.refl _ _) _))⟩
          case measure => simp [intOf]; omega
        · obtain rfl : n2 = k := by omega
          go_wp2_with fail
          clear y0 y1 y2 y3 y4 z0 z1 z2 z3 z4
          go_loopw [7] (fun i wr => ∃ k : Nat, k ≤ n3 ∧ i = .int .i64 k ∧ Hid (B2 w w.heap.size (w.heap.size + 1) t u wr)) (fun i _ => n3 - (intOf i).toNat)
          case atStart => exact ⟨0, Nat.zero_le _, rfl, HXr⟩
          case round =>
            obtain ⟨k, hk, rfl, HXr⟩ := hrel
            obtain ⟨⟨y0, y1, y2, y3, y4⟩, ⟨z0, z1, z2, z3, z4⟩⟩ := HK.out _ HXr.out
            by_cases hlt : k < n3
            · obtain ⟨r, b1, o1, hr, _, hA, hl1, q0, q1, q2⟩ := (HT.out.below HXr.out.bel).C.at_ hlt
              obtain ⟨r', b2, o2, hr', _, hA', hl2, p0, p1, p2⟩ := (HU.out.below HXr.out.bel).C.at_ hlt
              dsimp only at hr hr' hA hA'
              obtain rfl : r = r' := by rw [hr] at hr'; injection hr'
              clear hr hr'
              rw [hA] at y3
              rw [hA'] at z3
              go_wp2_with fail
              go_quiet (fail)
              go_wp2_with fail
              go_roundw
              case rel => exact ⟨k + 1, by omega, by go_num, Lib.hid (HXr.out.step (below_drewN (Below.refl _ _) _))⟩
              case measure => simp [intOf]; omega
            · obtain rfl : n3 = k := by omega
              go_wp2_with fail
              go_ret
              exact ⟨rfl, HXr.out.bel⟩
end Go.Proofs.Ytcgnlkckgfaomaa.TabV
