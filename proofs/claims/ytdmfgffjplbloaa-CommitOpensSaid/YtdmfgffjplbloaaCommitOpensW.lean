/- The walk of CommitOpens. No conditions. -/
import Derived.Test.YtdmfgffjplbloaaJ10
import Derived.Test.YtdmfgffjplbloaaJ09
namespace Go.Proofs.Ytdmfgffjplbloaa.CommitOpensW
open Go.RowKit Go.Proofs.Ytdmfgffjplbloaa.Kit Go.Proofs.Ytdmfgffjplbloaa.Byt Go.Proofs.Ytdmfgffjplbloaa.Mem Go.Proofs.Ytdmfgffjplbloaa.DskA Go.Proofs.Ytdmfgffjplbloaa.DskE Go.Proofs.Ytdmfgffjplbloaa.DskF Go.Proofs.Ytdmfgffjplbloaa.RecM Go.Proofs.Ytdmfgffjplbloaa.RecA Go.Proofs.Ytdmfgffjplbloaa.RecB Go.Proofs.Ytdmfgffjplbloaa.CmtM Go.Proofs.Ytdmfgffjplbloaa.CmtN Go.Proofs.Ytdmfgffjplbloaa.CmtA Go.Proofs.Ytdmfgffjplbloaa.CmtC Go.Proofs.Ytdmfgffjplbloaa.CmtK Go.Proofs.Ytdmfgffjplbloaa.StgM Go.Proofs.Ytdmfgffjplbloaa.StgJ Go.Proofs.Ytdmfgffjplbloaa.Put2
open Go.Proofs.Ytdmfgffjplbloaa.PlaM (rC fnd rcommit_any)
open Go.Proofs.Ytdmfgffjplbloaa.DskB (newSt cnt zs new_any)
open Go.Proofs.Ytdmfgffjplbloaa.RecF (size_rec one_r)
theorem new_now (n : Int) (i : Nat) : (Go.Proofs.Ytdmfgffjplbloaa.DskD.now (newSt n) i = zs 64) ∨ (Go.Proofs.Ytdmfgffjplbloaa.DskD.now (newSt n) i = []) := by
  rw [now_S rfl]
  by_cases h : i < cnt n
  · exact .inl (new_getD n i h)
  · right
    show (List.replicate (cnt n) (zs 64)).getD i [] = []
    rw [List.getD_eq_getElem?_getD, List.getElem?_replicate, if_neg h]
    rfl
theorem new_lO (n : Int) (p : Nat) (h : 10 * p + 2 ≤ cnt n) : (lO (newSt n) p).r = Rc.none := by
  unfold lO late
  rw [now_S rfl, now_S rfl, new_getD n _ (by omega), new_getD n _ (by omega), cp_zs]
  rfl
set_option maxRecDepth 100000 in
set_option maxHeartbeats 3200000 in
theorem core (n p : Int) (r : Rc) (w : World) (_ : n64 n) (hp : n64 p) (_ : rok r) : Calls Try.prog 5 #[.int .i64 n, .int .i64 p, rval r] w fun e w' => e = .returned (.bool true) ∧ Below w.heap.size w w' := by
  have hb0 : Below w.heap.size w (w.alloc (.cells (rcells r).toArray 31)) := (Below.refl _ _).alloc (Nat.le_refl _) _
  have hx0 := Blk.new w 31 (rcells r)
  have HB0 : Hid (Below w.heap.size w (w.alloc (.cells #[.int .i64 r.p, .int .i64 r.q, .int .i64 r.a, .int .i64 r.c, .int .i64 r.l, .int .i64 r.b] 31))) := Lib.hid hb0
  have HX0 : Hid (Blk (w.alloc (.cells #[.int .i64 r.p, .int .i64 r.q, .int .i64 r.a, .int .i64 r.c, .int .i64 r.l, .int .i64 r.b] 31)) w.heap.size 31 (rcells r)) := Lib.hid hx0
  have hE := fun (w : World) => req Rc.none Rc.none true ⟨fun _ => rfl, fun _ => rfl⟩ w
  dsimp only [rval, Rc.none] at hE
  have HRC := Lib.hid (fun w' => rcommit_any p 1 w')
  have HRT := Lib.hid hp
  clear hb0 hx0
  go_enter Try.func5, Try.ntmps5
  go_wp2_with fail
  refine (wakes_any _).mono ?_
  rintro e w1 ⟨rfl, hb1⟩
  have HB1 := Lib.hid (HB0.out.trans (hb1.mono HB0.out.size))
  have HX1 := Lib.hid (HX0.out.below hb1)
  clear hb1 HB0 HX0
  go_wp2_with fail
  refine (open_nil p _).mono ?_
  rintro e w2 ⟨rfl, hb2⟩
  have HB2 := Lib.hid (HB1.out.trans (hb2.mono HB1.out.size))
  have HX2 := Lib.hid (HX1.out.below hb2)
  clear hb2 HB1 HX1
  go_wp2_with fail
  refine (format_nil p _).mono ?_
  rintro e w3 ⟨rfl, hb3⟩
  have HB3 := Lib.hid (HB2.out.trans (hb3.mono HB2.out.size))
  have HX3 := Lib.hid (HX2.out.below hb3)
  clear hb3 HB2 HX2
  go_wp2_with fail
  refine (latest_nil _).mono ?_
  rintro e w4 ⟨rfl, hb4⟩
  have HB4 := Lib.hid (HB3.out.trans (hb4.mono HB3.out.size))
  have HX4 := Lib.hid (HX3.out.below hb4)
  have x0 := HX4.out.cell (i := 0) rfl
  have x1 := HX4.out.cell (i := 1) rfl
  have x2 := HX4.out.cell (i := 2) rfl
  have x3 := HX4.out.cell (i := 3) rfl
  have x4 := HX4.out.cell (i := 4) rfl
  have x5 := HX4.out.cell (i := 5) rfl
  clear hb4 HB3 HX3
  dsimp only [rval, Rc.none]
  go_wp2_with fail
  refine (save_nil r _).mono ?_
  rintro e w5 ⟨rfl, hb5⟩
  have HB5 := Lib.hid (HB4.out.trans (hb5.mono HB4.out.size))
  clear hb5 HB4 HX4 x0 x1 x2 x3 x4 x5
  go_wp2_with fail
  refine (new_any n _).mono ?_
  rintro e w6 ⟨g, F6, rfl, hD6, hb6, hf6⟩
  have HD6 := Lib.hid hD6
  have HB6 := Lib.hid (HB5.out.trans (hb6.mono HB5.out.size))
  have HF6 := Lib.hid (fun i hi => Nat.le_trans HB5.out.size (hf6 i hi))
  clear hD6 hb6 hf6 HB5
  go_wp2_with fail
  by_cases hin : 0 ≤ p ∧ p ≤ 3 ∧ 10 * p + 2 ≤ (cnt n : Nat)
  · obtain ⟨k, rfl⟩ : ∃ k : Nat, p = k := ⟨p.toNat, by omega⟩
    have hk3 : k ≤ 3 := by omega
    have hkl : 10 * k + 2 ≤ cnt n := by omega
    have hrc : rC (k : Int) 1 = ((10 * k + 1 : Nat) : Int) := by unfold rC fnd; rw [if_pos (by omega), if_neg (by omega)]; omega
    rw [hrc] at HRC
    have hq := new_lO n k hkl
    refine (open_any F6 g (newSt n) k _ HD6.out hk3 (by rw [new_len]; exact hkl) rfl (Nat.zero_le _) (now_byt (new_byts n))).mono ?_
    rintro e w7 ⟨hb7, ⟨h1, _⟩ | ⟨_, rfl⟩⟩
    · rw [hq] at h1
      exact absurd h1 (by decide)
    · have HD7 := Lib.hid (HD6.out.below hb7)
      have HB7 := Lib.hid (HB6.out.trans (hb7.mono HB6.out.size))
      have HLN := Lib.hid (fun w' h => len_any F6 g (newSt n) w' h)
      rw [new_len] at HLN
      have h128 := DskB.cnt_le n
      clear hb7 HD6 HB6 hin hrc hq
      obtain ⟨z, hz⟩ : ∃ z : Nat, z = 10 * k + 1 := ⟨_, rfl⟩
      rw [← hz] at HRC
      have hz1 : z < cnt n := by omega
      have HKL := Lib.hid hkl
      obtain ⟨c, hc⟩ : ∃ c, c = cnt n := ⟨_, rfl⟩
      rw [← hc] at HLN hz1 h128
      have HC := Lib.hid hc
      clear hz hkl hc
      have hE2 := fun (w : World) => req (one k) (one k) true ⟨fun _ => rfl, fun _ => rfl⟩ w
      dsimp only [rval, one] at hE2
      go_wp2_with (first
        | (go_at_call 17; refine (HRC.out _).mono ?_; rintro e w' ⟨rfl, rfl⟩)
        | (go_at_call 21; refine (HLN.out _ HD7.out).mono ?_; rintro e w' ⟨rfl, rfl⟩))
      refine (fmt_new n k g F6 w w7 HD7.out HF6.out HB7.out hk3 HKL.out).mono ?_
      rintro e w8 ⟨a, F8, J8, s8, rfl, hLo, _, _, _⟩
      have HO8 := Lib.hid hLo
      clear hLo HD7 HB7
      go_wp2_with fail
      refine (latest_any J8 g a _ w8 HO8.out.ls.lm).mono ?_
      rintro e w9 ⟨rfl, hb9⟩
      have HO9 := Lib.hid (HO8.out.below hb9)
      clear hb9 HO8
      dsimp only [rval, one]
      go_wp2_with fail
      refine (latest_any J8 g a _ w9 HO9.out.ls.lm).mono ?_
      rintro e w10 ⟨rfl, hb10⟩
      have HO10 := Lib.hid (HO9.out.below hb10)
      clear hb10 HO9
      go_wp2_with fail
      refine (rright_any (one k) _ (rok_of (one_right hk3)) true ⟨fun _ => one_right hk3, fun _ => rfl⟩).mono ?_
      rintro e w11 ⟨rfl, hb11⟩
      have HO11 := Lib.hid (HO10.out.below hb11)
      clear hb11 HO10
      go_wp2
      go_ret
      exact ⟨rfl, HO11.out.bel⟩
  · refine (open_range F6 g (newSt n) p _ HD6.out HRT.out (by rw [new_len]; exact hin)).mono ?_
    rintro e w7 ⟨rfl, hb7⟩
    have HD7 := Lib.hid (HD6.out.below hb7)
    have HB7 := Lib.hid (HB6.out.trans (hb7.mono HB6.out.size))
    have HFR := Lib.hid (fun w' h => format_range F6 g (newSt n) p w' h HRT.out (by rw [new_len]; exact hin))
    have HLN := Lib.hid (fun w' h => len_any F6 g (newSt n) w' h)
    rw [new_len] at HLN
    have hrc : rC p 1 < 0 ∨ (0 ≤ rC p 1 ∧ (cnt n : Int) ≤ rC p 1) := by
      unfold rC fnd
      rw [if_pos (by omega)]
      split <;> omega
    obtain ⟨z, hz⟩ : ∃ z, z = rC p 1 := ⟨_, rfl⟩
    rw [← hz] at HRC hrc
    obtain ⟨c, hc⟩ : ∃ c, c = cnt n := ⟨_, rfl⟩
    rw [← hc] at HLN hrc
    clear hb7 HD6 HB6 hin hz hc
    rcases hrc with h0 | ⟨h0, h1⟩
    · go_wp2_with (first
        | (go_at_call 17; refine (HRC.out _).mono ?_; rintro e w' ⟨rfl, rfl⟩)
        | (go_at_call 9; refine (HFR.out _ HD7.out).mono ?_; rintro e w8 ⟨rfl, hb8⟩; have HB8 := Lib.hid (HB7.out.trans (hb8.mono HB7.out.size)); clear hb8))
      go_ret
      exact ⟨rfl, HB8.out⟩
    · have h0' : ¬ z < 0 := by omega
      go_wp2_with (first
        | (go_at_call 17; refine (HRC.out _).mono ?_; rintro e w' ⟨rfl, rfl⟩)
        | (go_at_call 21; refine (HLN.out _ HD7.out).mono ?_; rintro e w' ⟨rfl, rfl⟩)
        | (go_at_call 9; refine (HFR.out _ HD7.out).mono ?_; rintro e w8 ⟨rfl, hb8⟩; have HB8 := Lib.hid (HB7.out.trans (hb8.mono HB7.out.size)); clear hb8))
      go_ret
      exact ⟨rfl, HB8.out⟩
set_option maxRecDepth 100000 in
theorem hole {H : Type} (enc : TypeId × Value → H) (base : Nat) (a0 a1 : Int) (v2 : Value) (d2 : DataW H) (p2 : List MemPlace) (w : World) (w0 : (Lit.int .i64 a0).wf = true) (w1 : (Lit.int .i64 a1).wf = true) (w2 : DataW.Trod enc Try.prog w 0 (fun _ => true) true 31 v2 d2 p2) (o2 : Value.okWide Try.prog w .any base 31 v2) :
    Calls Try.prog 5 #[.int .i64 a0, .int .i64 a1, v2] w fun e w' => e = .returned (.bool true) ∧ Below w.heap.size w w' := by
  obtain ⟨r, rfl, hr⟩ := open_record w2 o2
  exact core a0 a1 r w (bounds_i64 w0) (bounds_i64 w1) hr
end Go.Proofs.Ytdmfgffjplbloaa.CommitOpensW
