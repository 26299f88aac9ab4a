/- The walk of ImageTurned. Condition: the rounds' own numbers lie in the variable. -/
import Derived.Test.YtlghojnlnfkdhaaDoorImgE
namespace Go.Proofs.YtlghojnlnfkdhaaDoor.ImageTurnedW
open Go.RowKit Go.Proofs.YtlghojnlnfkdhaaDoor.Kit Go.Proofs.YtlghojnlnfkdhaaDoor.Byt Go.Proofs.YtlghojnlnfkdhaaDoor.Mem Go.Proofs.YtlghojnlnfkdhaaDoor.Beq Go.Proofs.YtlghojnlnfkdhaaDoor.ShaM Go.Proofs.YtlghojnlnfkdhaaDoor.ShaE Go.Proofs.YtlghojnlnfkdhaaDoor.ImgA Go.Proofs.YtlghojnlnfkdhaaDoor.ImgB Go.Proofs.YtlghojnlnfkdhaaDoor.ImgS Go.Proofs.YtlghojnlnfkdhaaDoor.ImgP Go.Proofs.YtlghojnlnfkdhaaDoor.ImgR Go.Proofs.YtlghojnlnfkdhaaDoor.ImgG Go.Proofs.YtlghojnlnfkdhaaDoor.ImgF Go.Proofs.YtlghojnlnfkdhaaDoor.ImgE

set_option maxRecDepth 100000 in
set_option maxHeartbeats 3200000 in
theorem core (i : Im) (p0 q : Nat) (hp : p0 < 65536) (hq : q < 256) (w : World) (hT : Tab w) (ho : i.ok w) : Calls Tryd.prog 4 #[i.val, .int .u16 (p0 : Nat), .int .u8 (q : Nat)] w (Yes w true) := by
  have hn : i.xs.length = i.n := ho.len
  have hcap : i.n ≤ 9223372036854775807 := by have := ho.code.le; have := ho.code.cap; omega
  have HX := Lib.hid (Bx.new w i)
  have HW := Lib.hid (fun w' (hb : Below w.heap.size w w') => wakes_any w' (hT.below hb hT.1))
  by_cases hr : right i
  · have h96 : i.n ≤ 96 := by have := hr.2.2.2.2.2.2.2.2; omega
    have hC := closed_len (head i)
    rw [head_len, hn] at hC
    have hC8 := closed_lt (head_lt ho.byt)
    have HP := Lib.hid (fun w' (hb : Below w.heap.size w w') => put_yes i w' (hT.below hb hT.1) (ho.below hb) hr)
    have HG := Lib.hid (fun w' (hb : Below w.heap.size w w') (j y : Nat) (hj : j < (closed (head i)).length) (hy : y < 256) (hne : (closed (head i)).getD j 0 ≠ y) (A : Option Addr) (n c : Nat) (hR : Rd w' A n c (u8n ((closed (head i)).set j y))) => get_turn i w' (hT.below hb hT.1) ho.byt hn hr j y hj hy (fun h => hne (by rw [← h]; simp [List.getD, hj])) A n c hR)
    clear hT ho hr
    obtain ⟨C, hCC⟩ : ∃ C, C = closed (head i) := ⟨_, rfl⟩
    rw [← hCC] at hC hC8
    rw [← hCC] at HP HG
    clear hCC
    obtain ⟨p, v, h, m, f, s, r, A, n, c, xs⟩ := i
    dsimp only at hn h96 hC hcap
    show Calls _ _ #[.agg #[.int .i64 p, .int .i64 v, .int .i64 h, .int .i64 m, .int .i64 f, .int .i64 s, .int .i64 r, .slice A n c], .int .u16 (p0 : Nat), .int .u8 (q : Nat)] w _
    obtain ⟨N, hN⟩ : ∃ N, N = 13 + n + 36 := ⟨_, rfl⟩
    rw [← hN] at hC
    have hN0 : 0 < N := by omega
    have hN2 : N ≤ 145 := by omega
    have hk : p0 % N < N := Nat.mod_lt _ hN0
    have hmod : (p0 : Int) % (N : Int) = ((p0 % N : Nat) : Int) := by simp
    clear hN hn
    generalize p0 % N = k at *
    by_cases hq0 : q = 0
    · subst hq0
      go_enter Tryd.func4, Tryd.ntmps4
      go_wp2_with fail
      refine (HW.out _ HX.out.bel).mono ?_
      rintro e w1 ⟨rfl, hb1⟩
      have HX1 := Lib.hid (HX.out.step hb1)
      clear hb1 HX
      obtain ⟨y0, y1, y2, y3, y4, y5, y6, y7⟩ := HX1.out.cell
      dsimp only at y0 y1 y2 y3 y4 y5 y6 y7
      go_wp2_with fail
      refine (HP.out _ HX1.out.bel).mono ?_
      rintro e w2 ⟨B, m2, d, rfl, ho2, hb2⟩
      have HX2 := Lib.hid (HX1.out.step hb2)
      clear hb2 ho2 y0 y1 y2 y3 y4 y5 y6 y7 HX1
      go_wp2
      go_ret
      exact ⟨rfl, HX2.out.bel⟩
    · have hkx : k < C.length := by omega
      have hy := hC8 C[k] (List.getElem_mem hkx)
      have hxor := CrcE.xor8 hy hq
      have hz : (C[k] ^^^ q) < 256 := Nat.xor_lt_two_pow (n := 8) hy hq
      have HNE := Lib.hid (show C.getD k 0 ≠ (C[k] ^^^ q) from fun h => hq0 (by
        have h : C[k] = (C[k] ^^^ q) := by rw [← h]; simp [List.getD, hkx]
        have h2 := congrArg (C[k] ^^^ ·) h
        simpa [← Nat.xor_assoc] using h2.symm))
      have g3 : ((q : Int) == 0) = false := by simp; omega
      go_enter Tryd.func4, Tryd.ntmps4
      go_wp2_with fail
      refine (HW.out _ HX.out.bel).mono ?_
      rintro e w1 ⟨rfl, hb1⟩
      have HX1 := Lib.hid (HX.out.step hb1)
      clear hb1 HX
      obtain ⟨y0, y1, y2, y3, y4, y5, y6, y7⟩ := HX1.out.cell
      dsimp only at y0 y1 y2 y3 y4 y5 y6 y7
      go_wp2_with fail
      refine (HP.out _ HX1.out.bel).mono ?_
      rintro e w2 ⟨B, m2, d, rfl, ho2, hb2⟩
      have HX2 := Lib.hid (HX1.out.step hb2)
      obtain rfl : N = m2 := by have := ho2.1; rw [u8n_len, hC] at this; omega
      have hs1 := HX1.out.bel.size
      clear hb2 y0 y1 y2 y3 y4 y5 y6 y7 HX1
      obtain ⟨g, rfl, hgb, hgl⟩ := CrcE.own_some ho2 hN0
      have hcell := CrcE.own_byte ho2 hkx
      have hfz := ho2.frozenAt k
      have hst := Lib.hid (ho2.stored k (.int .u8 ((C[k] ^^^ q : Nat) : Int))).1
      have hgw : w.heap.size ≤ g := by omega
      clear ho2
      go_wp2_with fail
      have hown3 := hst.out
      rw [CrcE.u8n_set] at hown3
      have HR3 := Lib.hid (Rd.own hown3)
      have HL3 := Lib.hid (HX2.out.bel.setCell (by show w.heap.size ≤ g; exact hgw) (.int .u8 ((C[k] ^^^ q : Nat) : Int)) : Below w.heap.size w (w2.setCell ⟨g, k, none⟩ (.int .u8 ((C[k] ^^^ q : Nat) : Int))))
      clear hst hcell hfz hown3 HX2
      generalize w2.setCell ⟨g, k, none⟩ (.int .u8 ((C[k] ^^^ q : Nat) : Int)) = w3 at *
      refine (HG.out w3 HL3.out k (C[k] ^^^ q) hkx hz HNE.out _ N d HR3.out).mono ?_
      rintro e w4 ⟨rfl, hb4⟩
      have HL4 := Lib.hid ((HL3.out.trans (hb4.mono HL3.out.size)).alloc (HL3.out.trans (hb4.mono HL3.out.size)).size (.cells #[.int .i64 0, .int .i64 0, .int .i64 0, .int .i64 0, .int .i64 0, .int .i64 0, .int .i64 0, .slice none 0 0] 24))
      clear hb4
      have HZ4 := Lib.hid (Blk.new w4 24 zeroI)
      have hs4 : w4.heap.size < (w4.alloc (.cells #[.int .i64 0, .int .i64 0, .int .i64 0, .int .i64 0, .int .i64 0, .int .i64 0, .int .i64 0, .slice none 0 0] 24)).heap.size := by simp
      have z0 := HZ4.out.cell (i := 0) rfl
      have z1 := HZ4.out.cell (i := 1) rfl
      have z2 := HZ4.out.cell (i := 2) rfl
      have z3 := HZ4.out.cell (i := 3) rfl
      have z4 := HZ4.out.cell (i := 4) rfl
      have z5 := HZ4.out.cell (i := 5) rfl
      have z6 := HZ4.out.cell (i := 6) rfl
      have z7 := HZ4.out.cell (i := 7) rfl
      have HRS := Lib.hid (fun w' => rsame_any ⟨0, 0, 0, 0, 0, 0, 0, none, 0, 0, []⟩ ⟨0, 0, 0, 0, 0, 0, 0, none, 0, 0, []⟩ w' ⟨Rd.nil w', by simp⟩ ⟨Rd.nil w', by simp⟩ true (by simp [like]))
      go_wp2_with (go_at_call 15; refine (HRS.out _).mono ?_; rintro e w5 ⟨rfl, hb5⟩)
      go_ret
      exact ⟨rfl, HL4.out.trans (hb5.mono HL4.out.size)⟩
  · have HP := Lib.hid (fun w' => put_no i w' hcap hr)
    clear hT ho hr
    obtain ⟨p, v, h, m, f, s, r, A, n, c, xs⟩ := i
    show Calls _ _ #[.agg #[.int .i64 p, .int .i64 v, .int .i64 h, .int .i64 m, .int .i64 f, .int .i64 s, .int .i64 r, .slice A n c], .int .u16 (p0 : Nat), .int .u8 (q : Nat)] w _
    go_enter Tryd.func4, Tryd.ntmps4
    go_wp2_with fail
    refine (HW.out _ HX.out.bel).mono ?_
    rintro e w1 ⟨rfl, hb1⟩
    have HX1 := Lib.hid (HX.out.step hb1)
    clear hb1 HX
    obtain ⟨y0, y1, y2, y3, y4, y5, y6, y7⟩ := HX1.out.cell
    dsimp only at y0 y1 y2 y3 y4 y5 y6 y7
    go_wp2_with fail
    refine (HP.out _).mono ?_
    rintro e w2 ⟨rfl, hb2⟩
    have HX2 := Lib.hid (HX1.out.step hb2)
    clear hb2 y0 y1 y2 y3 y4 y5 y6 y7 HX1
    go_wp2
    go_ret
    exact ⟨rfl, HX2.out.bel⟩

set_option maxRecDepth 100000 in
theorem hole {H : Type} (enc : TypeId × Value → H) (base : Nat) (v0 : Value) (d0 : DataW H) (p0 : List MemPlace) (a1 a2 : Int) (w : World) (w0 : DataW.Trod enc Tryd.prog w 0 (fun _ => true) true 24 v0 d0 p0) (o0 : Value.okWide Tryd.prog w .any base 24 v0) (w1 : (Lit.int .u16 a1).wf = true) (w2 : (Lit.int .u8 a2).wf = true) (hT : Tab w) :
    Calls Tryd.prog 4 #[v0, .int .u16 a1, .int .u8 a2] w fun e w' => e = .returned (.bool true) ∧ Below w.heap.size w w' := by
  obtain ⟨i, rfl, hi⟩ := open_image w0 o0
  have hb := bounds_u16 w1
  have hb2 := bounds_u8 w2
  obtain ⟨q, rfl⟩ : ∃ q : Nat, a1 = q := ⟨a1.toNat, by omega⟩
  obtain ⟨q2, rfl⟩ : ∃ q : Nat, a2 = q := ⟨a2.toNat, by omega⟩
  exact core i q q2 (by omega) (by omega) w hT hi
end Go.Proofs.YtlghojnlnfkdhaaDoor.ImageTurnedW
