/- The walk of ImageSize. Condition: the rounds' own numbers lie in the variable. -/
import Derived.Test.YtlghojnlnfkdhaaDoorImgE
namespace Go.Proofs.YtlghojnlnfkdhaaDoor.ImageSizeW
open Go.RowKit Go.Proofs.YtlghojnlnfkdhaaDoor.Kit Go.Proofs.YtlghojnlnfkdhaaDoor.Byt Go.Proofs.YtlghojnlnfkdhaaDoor.Mem Go.Proofs.YtlghojnlnfkdhaaDoor.Beq Go.Proofs.YtlghojnlnfkdhaaDoor.ShaM Go.Proofs.YtlghojnlnfkdhaaDoor.ShaE Go.Proofs.YtlghojnlnfkdhaaDoor.ImgA Go.Proofs.YtlghojnlnfkdhaaDoor.ImgB Go.Proofs.YtlghojnlnfkdhaaDoor.ImgS Go.Proofs.YtlghojnlnfkdhaaDoor.ImgP Go.Proofs.YtlghojnlnfkdhaaDoor.ImgR Go.Proofs.YtlghojnlnfkdhaaDoor.ImgG Go.Proofs.YtlghojnlnfkdhaaDoor.ImgF Go.Proofs.YtlghojnlnfkdhaaDoor.ImgE

set_option maxRecDepth 100000 in
set_option maxHeartbeats 3200000 in
theorem core (i : Im) (q : Nat) (hq : q < 65536) (w : World) (hT : Tab w) (ho : i.ok w) : Calls Tryd.prog 6 #[i.val, .int .u16 (q : Nat)] w (Yes w true) := by
  have hn : i.xs.length = i.n := ho.len
  have hcap : i.n ≤ 9223372036854775807 := by have := ho.code.le; have := ho.code.cap; omega
  have HX := Lib.hid (Bx.new w i)
  have HW := Lib.hid (fun w' (hb : Below w.heap.size w w') => wakes_any w' (hT.below hb hT.1))
  by_cases hr : right i
  · have h96 : i.n ≤ 96 := by have := hr.2.2.2.2.2.2.2.2; omega
    have hC := closed_len (head i)
    rw [head_len, hn] at hC
    have HP := Lib.hid (fun w' (hb : Below w.heap.size w w') => put_yes i w' (hT.below hb hT.1) (ho.below hb) hr)
    have HG := Lib.hid (fun w' (hb : Below w.heap.size w w') (k : Nat) (hk : k < (closed (head i)).length) (A : Option Addr) (n c : Nat) (hR : Rd w' A n c (u8n ((closed (head i)).take k))) => get_part i w' (hT.below hb hT.1) ho.byt hn hr k hk A n c hR)
    clear hT ho hr
    obtain ⟨C, hCC⟩ : ∃ C, C = closed (head i) := ⟨_, rfl⟩
    rw [← hCC] at HP HG hC
    clear hCC
    obtain ⟨p, v, h, m, f, s, r, A, n, c, xs⟩ := i
    dsimp only at hn h96 hC hcap
    show Calls _ _ #[.agg #[.int .i64 p, .int .i64 v, .int .i64 h, .int .i64 m, .int .i64 f, .int .i64 s, .int .i64 r, .slice A n c], .int .u16 (q : Nat)] w _
    obtain ⟨k, hk⟩ : ∃ k, k = q % (13 + n + 36) := ⟨_, rfl⟩
    have hkl : k < 13 + n + 36 := by rw [hk]; exact Nat.mod_lt _ (by omega)
    have HK := Lib.hid hk
    clear hk hn
    go_enter Tryd.func6, Tryd.ntmps6
    go_wp2_with fail
    refine (HW.out _ HX.out.bel).mono ?_
    rintro e w1 ⟨rfl, hb1⟩
    have HX1 := Lib.hid (HX.out.step hb1)
    clear hb1 HX
    obtain ⟨y0, y1, y2, y3, y4, y5, y6, y7⟩ := HX1.out.cell
    dsimp only at y0 y1 y2 y3 y4 y5 y6 y7
    go_wp2_with fail
    refine (HP.out _ HX1.out.bel).mono ?_
    rintro e w2 ⟨B, m2, d, rfl, ho2, hb2⟩
    have HX2 := Lib.hid (HX1.out.step hb2)
    have hm2 : m2 = 13 + n + 36 := by have := ho2.1; rw [u8n_len, hC] at this; omega
    have HR2 := Lib.hid (Rd.own ho2)
    clear hb2 ho2 y0 y1 y2 y3 y4 y5 y6 y7 HX1
    subst hm2
    have hrem : (q : Int) % (((13 + n + 36 : Nat) : Int)) = (k : Int) := by rw [HK.out]; simp
    have hd := HR2.out.le
    have hd2 := HR2.out.cap
    obtain ⟨gb, go', rfl, _, _⟩ := HR2.out.2.2.2 (by omega)
    obtain ⟨N, hN⟩ : ∃ N, N = 13 + n + 36 := ⟨_, rfl⟩
    rw [← hN] at hrem HR2 hd hkl ⊢
    have HNN := Lib.hid hN
    have hN0 : (0 : Int) < (N : Int) := by omega
    have hN1 : ¬ ((N : Int) = 0) := by omega
    have hN2 : (N : Int) ≤ 145 := by omega
    have kd : (k : Int) ≤ (d : Int) := by omega
    have k0 : (0 : Int) ≤ (k : Int) := by omega
    clear hN
    go_wp2_with fail
    refine (HG.out w2 HX2.out.bel k (by rw [hC]; have := HNN.out; omega) _ k d (by have h := HR2.out.take (k := k) (by omega); rwa [show (u8n C).take k = u8n (C.take k) from by simp [u8n]] at h)).mono ?_
    rintro e w3 ⟨x, hx, rfl, hb3⟩
    have HX3 := Lib.hid ((HX2.out.step hb3).alloc (.cells #[.int .i64 0, .int .i64 0, .int .i64 0, .int .i64 0, .int .i64 0, .int .i64 0, .int .i64 0, .slice none 0 0] 24))
    clear hb3 HX2 HG HR2
    obtain ⟨y0, y1, y2, y3, y4, y5, y6, y7⟩ := HX3.out.cell
    dsimp only at y0 y1 y2 y3 y4 y5 y6 y7
    have hz : ((N : Int) == 49 + (n : Int)) = true := by have := HNN.out; simp; omega
    rcases hx with rfl | rfl
    · go_wp2
      go_ret
      exact ⟨rfl, HX3.out.bel⟩
    · go_wp2
      go_ret
      exact ⟨rfl, HX3.out.bel⟩
  · have HP := Lib.hid (fun w' => put_no i w' hcap hr)
    clear hT ho hr
    obtain ⟨p, v, h, m, f, s, r, A, n, c, xs⟩ := i
    show Calls _ _ #[.agg #[.int .i64 p, .int .i64 v, .int .i64 h, .int .i64 m, .int .i64 f, .int .i64 s, .int .i64 r, .slice A n c], .int .u16 (q : Nat)] w _
    go_enter Tryd.func6, Tryd.ntmps6
    go_wp2_with fail
    refine (HW.out _ HX.out.bel).mono ?_
    rintro e w1 ⟨rfl, hb1⟩
    have HX1 := Lib.hid (HX.out.step hb1)
    clear hb1 HX
    obtain ⟨y0, y1, y2, y3, y4, y5, y6, y7⟩ := HX1.out.cell
    dsimp only at y0 y1 y2 y3 y4 y5 y6 y7
    go_wp2_with fail
    refine (HP.out _).mono ?_
    rintro e w2 ⟨rfl, hb2⟩
    have HX2 := Lib.hid (HX1.out.step hb2)
    clear hb2 y0 y1 y2 y3 y4 y5 y6 y7 HX1
    go_wp2
    go_ret
    exact ⟨rfl, HX2.out.bel⟩

set_option maxRecDepth 100000 in
theorem hole {H : Type} (enc : TypeId × Value → H) (base : Nat) (v0 : Value) (d0 : DataW H) (p0 : List MemPlace) (a1 : Int) (w : World) (w0 : DataW.Trod enc Tryd.prog w 0 (fun _ => true) true 24 v0 d0 p0) (o0 : Value.okWide Tryd.prog w .any base 24 v0) (w1 : (Lit.int .u16 a1).wf = true) (hT : Tab w) :
    Calls Tryd.prog 6 #[v0, .int .u16 a1] w fun e w' => e = .returned (.bool true) ∧ Below w.heap.size w w' := by
  obtain ⟨i, rfl, hi⟩ := open_image w0 o0
  have hb := bounds_u16 w1
  obtain ⟨q, rfl⟩ : ∃ q : Nat, a1 = q := ⟨a1.toNat, by omega⟩
  exact core i q (by omega) w hT hi
end Go.Proofs.YtlghojnlnfkdhaaDoor.ImageSizeW
