/- The walk of PduSizes. No conditions. -/
import Derived.Test.YtamilgbjjcdlbaaPduW
namespace Go.Proofs.Ytamilgbjjcdlbaa.PduSizesW
open Go.RowKit Go.Proofs.Ytamilgbjjcdlbaa.Kit Go.Proofs.Ytamilgbjjcdlbaa.Byt Go.Proofs.Ytamilgbjjcdlbaa.Mem Go.Proofs.Ytamilgbjjcdlbaa.RecM Go.Proofs.Ytamilgbjjcdlbaa.PduM Go.Proofs.Ytamilgbjjcdlbaa.PduA Go.Proofs.Ytamilgbjjcdlbaa.PduE Go.Proofs.Ytamilgbjjcdlbaa.PduN Go.Proofs.Ytamilgbjjcdlbaa.PduW

set_option maxRecDepth 100000 in
set_option maxHeartbeats 3200000 in
theorem core (i : Pu) (w : World) (ho : i.ok w) (hn : i.bd) : Calls Try.prog 7 #[i.val] w (Yes w true) := by
  have HX := Lib.hid (Bx.new w i.cells)
  by_cases hr : i.pd.right
  · have HP := Lib.hid (fun w' (h : Below w.heap.size w w') => put_yes i w' (ho.below h) hn hr)
    have hlen := Pd.head_len hr
    have hk1 : 1 ≤ i.k := hr.1.1
    have hk2 : i.k ≤ 8 := hr.1.2
    obtain ⟨S, hS⟩ : ∃ S, S = tail i.pd.head := ⟨_, rfl⟩
    have HL := Lib.hid (show S.length = hl i.k + 4 from by rw [hS, tail_len, hlen]; rfl)
    rw [← hS] at HP
    clear hS hlen hr ho hn
    obtain ⟨k, s, p, n, z, y, c, h, A, m, d, xs⟩ := i
    show Calls _ _ #[.agg #[.int .i64 k, .int .i64 s, .int .i64 p, .int .i64 n, .int .i64 z, .int .i64 y, .int .i64 c, .int .i64 h, .slice A m d]] w _
    go_enter Try.func7, Try.ntmps7
    go_wp2_with fail
    refine (wakes_any _).mono ?_
    rintro e w1 ⟨rfl, hb1⟩
    have HX1 := Lib.hid (HX.out.step hb1)
    clear hb1 HX
    obtain ⟨y0, y1, y2, y3, y4, y5, y6, y7, y8⟩ := nine HX1.out.blk
    dsimp only at y0 y1 y2 y3 y4 y5 y6 y7 y8
    go_wp2_with fail
    refine (HP.out _ HX1.out.bel).mono ?_
    rintro e w2 ⟨B, q, t, rfl, ho2, hb2⟩
    have hq : q = hl k + 4 := by have := ho2.1; rw [u8n_len, HL.out, Nat.mul_one] at this; exact this.symm
    have HX2 := Lib.hid (HX1.out.step hb2)
    clear ho2 hb2 HX1 y0 y1 y2 y3 y4 y5 y6 y7 y8
    obtain ⟨y0, y1, y2, y3, y4, y5, y6, y7, y8⟩ := nine HX2.out.blk
    dsimp only at y0 y1 y2 y3 y4 y5 y6 y7 y8
    have hlt := HX2.out.blk.lt
    have hk : k = 1 ∨ k = 2 ∨ k = 3 ∨ k = 4 ∨ k = 5 ∨ k = 6 ∨ k = 7 ∨ k = 8 := kinds ⟨hk1, hk2⟩
    clear hk1 hk2 HP
    rcases hk with rfl | rfl | rfl | rfl | rfl | rfl | rfl | rfl
    all_goals
      simp only [hl] at hq
      simp at hq
      subst hq
      go_wp2
      go_ret
      exact ⟨rfl, HX2.out.bel.alloc HX2.out.bel.size _⟩
  · have HP := Lib.hid (fun w' (h : Below w.heap.size w w') => put_no i w' (ho.below h) hn hr)
    clear hr ho hn
    obtain ⟨k, s, p, n, z, y, c, h, A, m, d, xs⟩ := i
    show Calls _ _ #[.agg #[.int .i64 k, .int .i64 s, .int .i64 p, .int .i64 n, .int .i64 z, .int .i64 y, .int .i64 c, .int .i64 h, .slice A m d]] w _
    go_enter Try.func7, Try.ntmps7
    go_wp2_with fail
    refine (wakes_any _).mono ?_
    rintro e w1 ⟨rfl, hb1⟩
    have HX1 := Lib.hid (HX.out.step hb1)
    clear hb1 HX
    obtain ⟨y0, y1, y2, y3, y4, y5, y6, y7, y8⟩ := nine HX1.out.blk
    dsimp only at y0 y1 y2 y3 y4 y5 y6 y7 y8
    go_wp2_with fail
    refine (HP.out _ HX1.out.bel).mono ?_
    rintro e w2 ⟨rfl, hb2⟩
    have HX2 := Lib.hid (HX1.out.step hb2)
    clear hb2 HX1 y0 y1 y2 y3 y4 y5 y6 y7 y8
    go_wp2
    go_ret
    exact ⟨rfl, HX2.out.bel⟩

set_option maxRecDepth 100000 in
theorem hole {H : Type} (enc : TypeId × Value → H) (base : Nat) (v0 : Value) (d0 : DataW H) (p0 : List MemPlace) (w : World) (w0 : DataW.Trod enc Try.prog w 0 (fun _ => true) true 24 v0 d0 p0) (o0 : Value.okWide Try.prog w .any base 24 v0) :
    Calls Try.prog 7 #[v0] w fun e w' => e = .returned (.bool true) ∧ Below w.heap.size w w' := by
  obtain ⟨i, rfl, hi, hn⟩ := open_pdu w0 o0
  exact core i w hi hn
end Go.Proofs.Ytamilgbjjcdlbaa.PduSizesW
