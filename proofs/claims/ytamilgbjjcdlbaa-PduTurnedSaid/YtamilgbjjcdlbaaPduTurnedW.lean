/- The walk of PduTurned. No conditions. -/
import Derived.Test.YtamilgbjjcdlbaaPduW
import Derived.Test.YtamilgbjjcdlbaaCrcE
namespace Go.Proofs.Ytamilgbjjcdlbaa.PduTurnedW
open Go.RowKit Go.Proofs.Ytamilgbjjcdlbaa.Kit Go.Proofs.Ytamilgbjjcdlbaa.Byt Go.Proofs.Ytamilgbjjcdlbaa.Mem Go.Proofs.Ytamilgbjjcdlbaa.RecM Go.Proofs.Ytamilgbjjcdlbaa.PduM Go.Proofs.Ytamilgbjjcdlbaa.PduA Go.Proofs.Ytamilgbjjcdlbaa.PduE Go.Proofs.Ytamilgbjjcdlbaa.PduN Go.Proofs.Ytamilgbjjcdlbaa.PduW Go.Proofs.Ytamilgbjjcdlbaa.CrcE

set_option maxRecDepth 100000 in
set_option maxHeartbeats 3200000 in
theorem core (i : Pu) (q v : Nat) (hq : q < 256) (hv : v < 256) (w : World) (ho : i.ok w) (hn : i.bd) : Calls Try.prog 5 #[i.val, .int .u8 (q : Nat), .int .u8 (v : Nat)] w (Yes w true) := by
  have HX := Lib.hid (Bx.new w i.cells)
  by_cases hr : i.pd.right
  · have HP := Lib.hid (fun w' (h : Below w.heap.size w w') => put_yes i w' (ho.below h) hn hr)
    by_cases hv0 : v = 0
    · subst hv0
      clear hr ho hn
      obtain ⟨k, s, p, n, z, y, c, h, A, m, d, xs⟩ := i
      show Calls _ _ #[.agg #[.int .i64 k, .int .i64 s, .int .i64 p, .int .i64 n, .int .i64 z, .int .i64 y, .int .i64 c, .int .i64 h, .slice A m d], .int .u8 (q : Nat), .int .u8 0] w _
      go_enter Try.func5, Try.ntmps5
      go_wp2_with fail
      refine (wakes_any _).mono ?_
      rintro e w1 ⟨rfl, hb1⟩
      have HX1 := Lib.hid (HX.out.step hb1)
      clear hb1 HX
      obtain ⟨y0, y1, y2, y3, y4, y5, y6, y7, y8⟩ := nine HX1.out.blk
      dsimp only at y0 y1 y2 y3 y4 y5 y6 y7 y8
      go_wp2_with fail
      refine (HP.out _ HX1.out.bel).mono ?_
      rintro e w2 ⟨B, q2, t, rfl, ho2, hb2⟩
      have HX2 := Lib.hid (HX1.out.step hb2)
      clear ho2 hb2 HX1 y0 y1 y2 y3 y4 y5 y6 y7 y8
      go_wp2
      go_ret
      exact ⟨rfl, HX2.out.bel⟩
    · have hyb : ((v : Int) == 0) = false := by simp; omega
      have hlen := Pd.head_len hr
      have hS1 : 1 ≤ i.pd.head.length := by rw [hlen]; unfold hl; repeat (first | split | omega)
      have hl20 : i.pd.head.length ≤ 20 := by rw [hlen]; unfold hl; repeat (first | split | omega)
      have hHb : byt i.pd.head := Pd.head_lt ho.byt
      have hTl := tail_len i.pd.head
      obtain ⟨N, hN⟩ : ∃ N, N = i.pd.head.length + 4 := ⟨_, rfl⟩
      have hrem : (q : Int) % (N : Int) = ((q % N : Nat) : Int) := by simp
      have hkl : q % N < N := Nat.mod_lt _ (by omega)
      obtain ⟨j, hjq⟩ : ∃ j, j = q % N := ⟨_, rfl⟩
      rw [← hjq] at hrem hkl
      clear hjq
      have hTb : byt (tail i.pd.head) := tail_lt hHb
      have hu := hTb ((tail i.pd.head)[j]'(by omega)) (List.getElem_mem _)
      have hxor := xor8 hu hv
      have hz : ((tail i.pd.head)[j]'(by omega) ^^^ v) < 256 := Nat.xor_lt_two_pow (n := 8) hu hv
      have hne : (tail i.pd.head)[j]'(by omega) ≠ ((tail i.pd.head)[j]'(by omega) ^^^ v) := fun h => hv0 (by
        have h2 := congrArg ((tail i.pd.head)[j]'(by omega) ^^^ ·) h
        simpa [← Nat.xor_assoc] using h2.symm)
      have hT := getP_turned hHb hz hS1 (by omega) hne
      have HTB := Lib.hid (set_lt (k := j) hTb hz)
      obtain ⟨u, hue⟩ : ∃ u, u = (tail i.pd.head)[j]'(by omega) := ⟨_, rfl⟩
      have HU := Lib.hid (show (tail i.pd.head)[j]? = some u from by rw [List.getElem?_eq_getElem (by omega), hue])
      rw [← hue] at hu hxor hz hT HTB
      have HG := Lib.hid (fun A n c w' (h : Rd w' A n c (u8n ((tail i.pd.head).set j (u ^^^ v)))) (hl : n ≤ 1000000) => (by have h1 := get_any A n c _ w' h HTB.out hl; rw [hT] at h1; exact h1 : Calls Try.prog 14 #[.slice A n c] w' (Tells w' (Pd.none, 10))))
      have hSl : (tail i.pd.head).length = N := by omega
      obtain ⟨S, hS⟩ : ∃ S, S = tail i.pd.head := ⟨_, rfl⟩
      rw [← hS] at HP HG HU hSl
      have HSL := Lib.hid hSl
      have hN24 : N ≤ 24 := by omega
      have hN0 : (0 : Int) < (N : Int) := by omega
      have hN1 : ¬ ((N : Int) = 0) := by omega
      clear hr ho hn hS hT hne hue hu HTB hTb hHb hSl hTl hlen hS1 hl20 hN
      obtain ⟨k, s, p, n, z, y, c, h, A, m, d, xs⟩ := i
      show Calls _ _ #[.agg #[.int .i64 k, .int .i64 s, .int .i64 p, .int .i64 n, .int .i64 z, .int .i64 y, .int .i64 c, .int .i64 h, .slice A m d], .int .u8 (q : Nat), .int .u8 (v : Nat)] w _
      go_enter Try.func5, Try.ntmps5
      go_wp2_with fail
      refine (wakes_any _).mono ?_
      rintro e w1 ⟨rfl, hb1⟩
      have HX1 := Lib.hid (HX.out.step hb1)
      clear hb1 HX
      obtain ⟨y0, y1, y2, y3, y4, y5, y6, y7, y8⟩ := nine HX1.out.blk
      dsimp only at y0 y1 y2 y3 y4 y5 y6 y7 y8
      go_wp2_with fail
      refine (HP.out _ HX1.out.bel).mono ?_
      rintro e w2 ⟨B, q2, t, rfl, ho2, hb2⟩
      have HX2 := Lib.hid (HX1.out.step hb2)
      obtain rfl : N = q2 := by have := Rd.nats (Rd.own ho2); have := HSL.out; omega
      obtain ⟨g, rfl, hgb, hgl⟩ := own_some ho2 (by omega)
      have hcell : w2.cell? ⟨g, j, none⟩ = some (.int .u8 (u : Nat)) := by
        have h1 := own_byte ho2 (k := j) (by have := HSL.out; omega)
        have h2 := HU.out
        rw [List.getElem?_eq_getElem (by have := HSL.out; omega)] at h2
        injection h2 with h2
        rw [h2] at h1
        exact h1
      have hfz := ho2.frozenAt j
      have HST := Lib.hid (ho2.stored j (.int .u8 ((u ^^^ v : Nat) : Int))).1
      have HL3 := Lib.hid (show Below w.heap.size w (w2.setCell ⟨g, j, none⟩ (.int .u8 ((u ^^^ v : Nat) : Int))) from HX2.out.bel.setCell (by have := HX1.out.bel.size; show w.heap.size ≤ g; omega) _)
      clear ho2 hb2 HX1 HX2 y0 y1 y2 y3 y4 y5 y6 y7 y8
      go_wp2_with fail
      have HR3 := Lib.hid (show Rd (w2.setCell ⟨g, j, none⟩ (.int .u8 ((u ^^^ v : Nat) : Int))) (some ⟨g, 0, none⟩) N t (u8n (S.set j (u ^^^ v))) from by
        have h := Rd.own HST.out
        rw [u8n_set] at h
        exact h)
      clear hcell hfz HST
      generalize w2.setCell ⟨g, j, none⟩ (.int .u8 ((u ^^^ v : Nat) : Int)) = w3 at *
      refine (HG.out _ _ _ _ HR3.out (by omega)).mono ?_
      rintro e w4 ⟨x, rfl, hpd, hok, hb4⟩
      have HL4 := Lib.hid (HL3.out.trans (hb4.mono HL3.out.size))
      have hs4 := HL4.out.size
      clear hb4 HL3 HR3
      obtain ⟨k', s', p', n', z', y', c', h', A', m', d', xs'⟩ := x
      have HXX := Lib.hid (hok.alloc (.cells #[.int .i64 k', .int .i64 s', .int .i64 p', .int .i64 n', .int .i64 z', .int .i64 y', .int .i64 c', .int .i64 h', .slice A' m' d'] 24))
      have HSM := Lib.hid (fun w' (h : Pu.ok w' ⟨k', s', p', n', z', y', c', h', A', m', d', xs'⟩) => PduB.rsame_any _ Pu.none w' h (none_ok w') true (by rw [PduB.like_pd, hpd]; simp [none_pd]))
      clear hok hpd
      go_wp2_with fail
      refine (HSM.out _ HXX.out).mono ?_
      rintro e w5 ⟨rfl, hb5⟩
      have HL5 := Lib.hid ((HL4.out.alloc hs4 (.cells #[.int .i64 k', .int .i64 s', .int .i64 p', .int .i64 n', .int .i64 z', .int .i64 y', .int .i64 c', .int .i64 h', .slice A' m' d'] 24)).trans (hb5.mono (HL4.out.alloc hs4 (.cells #[.int .i64 k', .int .i64 s', .int .i64 p', .int .i64 n', .int .i64 z', .int .i64 y', .int .i64 c', .int .i64 h', .slice A' m' d'] 24)).size))
      go_wp2
      go_ret
      exact ⟨rfl, HL5.out⟩
  · have HP := Lib.hid (fun w' (h : Below w.heap.size w w') => put_no i w' (ho.below h) hn hr)
    clear hr ho hn
    obtain ⟨k, s, p, n, z, y, c, h, A, m, d, xs⟩ := i
    show Calls _ _ #[.agg #[.int .i64 k, .int .i64 s, .int .i64 p, .int .i64 n, .int .i64 z, .int .i64 y, .int .i64 c, .int .i64 h, .slice A m d], .int .u8 (q : Nat), .int .u8 (v : Nat)] w _
    go_enter Try.func5, Try.ntmps5
    go_wp2_with fail
    refine (wakes_any _).mono ?_
    rintro e w1 ⟨rfl, hb1⟩
    have HX1 := Lib.hid (HX.out.step hb1)
    clear hb1 HX
    obtain ⟨y0, y1, y2, y3, y4, y5, y6, y7, y8⟩ := nine HX1.out.blk
    dsimp only at y0 y1 y2 y3 y4 y5 y6 y7 y8
    go_wp2_with fail
    refine (HP.out _ HX1.out.bel).mono ?_
    rintro e w2 ⟨rfl, hb2⟩
    have HX2 := Lib.hid (HX1.out.step hb2)
    clear hb2 HX1 y0 y1 y2 y3 y4 y5 y6 y7 y8
    go_wp2
    go_ret
    exact ⟨rfl, HX2.out.bel⟩

set_option maxRecDepth 100000 in
theorem hole {H : Type} (enc : TypeId × Value → H) (base : Nat) (v0 : Value) (d0 : DataW H) (p0 : List MemPlace) (a1 a2 : Int) (w : World) (w0 : DataW.Trod enc Try.prog w 0 (fun _ => true) true 24 v0 d0 p0) (o0 : Value.okWide Try.prog w .any base 24 v0) (w1 : (Lit.int .u8 a1).wf = true) (w2 : (Lit.int .u8 a2).wf = true) :
    Calls Try.prog 5 #[v0, .int .u8 a1, .int .u8 a2] w fun e w' => e = .returned (.bool true) ∧ Below w.heap.size w w' := by
  obtain ⟨i, rfl, hi, hn⟩ := open_pdu w0 o0
  have h1 := bounds_u8 w1
  have h2 := bounds_u8 w2
  obtain ⟨q, rfl⟩ : ∃ q : Nat, a1 = q := ⟨a1.toNat, by omega⟩
  obtain ⟨v, rfl⟩ : ∃ v : Nat, a2 = v := ⟨a2.toNat, by omega⟩
  exact core i q v (by omega) (by omega) w hi hn
end Go.Proofs.Ytamilgbjjcdlbaa.PduTurnedW
