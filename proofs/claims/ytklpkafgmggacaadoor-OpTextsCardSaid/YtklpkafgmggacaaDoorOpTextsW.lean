/- The walk of OpTexts: an instruction's text, and what any text is parsed to. Condition: the given variables lie as the fact says. -/
import Derived.Test.YtklpkafgmggacaaDoorOpsK
import Derived.Test.YtklpkafgmggacaaDoorOpsI
namespace Go.Proofs.YtklpkafgmggacaaDoor.OpTextsW
open Go.RowKit Go.Proofs.YtklpkafgmggacaaDoor.Kit Go.Proofs.YtklpkafgmggacaaDoor.Byt Go.Proofs.YtklpkafgmggacaaDoor.Mem Go.Proofs.YtklpkafgmggacaaDoor.OpsM Go.Proofs.YtklpkafgmggacaaDoor.OpsA Go.Proofs.YtklpkafgmggacaaDoor.OpsT Go.Proofs.YtklpkafgmggacaaDoor.OpsU Go.Proofs.YtklpkafgmggacaaDoor.OpsV Go.Proofs.YtklpkafgmggacaaDoor.OpsG Go.Proofs.YtklpkafgmggacaaDoor.OpsX Go.Proofs.YtklpkafgmggacaaDoor.OpsN Go.Proofs.YtklpkafgmggacaaDoor.OpsH Go.Proofs.YtklpkafgmggacaaDoor.OpsI Go.Proofs.YtklpkafgmggacaaDoor.OpsK

theorem par_form (x : Option (Int × Int)) : ∃ (o a : Int) (b : Bool), parP x = .tuple #[.agg #[.int .i64 o, .int .i64 a], .bool b] ∧ gotP x = .agg #[.int .i64 o, .int .i64 a, .int .i64 0, .bool b] := by
  cases x with
  | none => exact ⟨0, 0, false, rfl, rfl⟩
  | some y => exact ⟨y.1, y.2, true, rfl, rfl⟩
set_option maxRecDepth 100000 in
set_option maxHeartbeats 6400000 in
theorem core (o a : Int) (t : ByteArray) (w : World) (hG : OTab w) (ho : n64 o) (ha : n64 a) (_ht : t.size ≤ maxLen) :
    Calls Tryd.prog 3 #[.agg #[.int .i64 o, .int .i64 a], .string t] w (Yes w true) := by
  have heq : ∀ o a w', (Op.equalIn 10000 23 (.agg #[.int .i64 o, .int .i64 a]) (.agg #[.int .i64 o, .int .i64 a])).run Tryd.prog w' = .ok true w' := fun o a w' => by rw [ieq]; simp
  obtain ⟨wa, hwa⟩ : ∃ wa, wa = w.alloc (.cells #[.int .i64 o, .int .i64 a] 23) := ⟨_, rfl⟩
  have XA : Hid (Blk wa w.heap.size 23 [.int .i64 o, .int .i64 a]) := Lib.hid (by rw [hwa]; exact Blk.new w _ _)
  have HB : Hid (Below w.heap.size w wa) := Lib.hid (by rw [hwa]; exact (Below.refl w.heap.size w).alloc (Nat.le_refl _) _)
  have HG := Lib.hid hG
  have HT := Lib.hid (fun w' hw => text_any o a w' hw ho ha)
  have HR := Lib.hid (fun w' => rright_any o a w')
  have HPT := Lib.hid (fun (h : t.size ≤ 50) w' hw => parse_any t (by omega) w' hw)
  have HRP := Lib.hid (fun w' => rparse_any t w')
  obtain ⟨o2, a2, b2, f1, f2⟩ := par_form (prs t)
  rw [f1] at HPT
  rw [f2] at HRP
  obtain ⟨x, hx⟩ : ∃ x, x = ok o a := ⟨_, rfl⟩
  rw [← hx] at HT HR
  clear hG f1 f2
  go_enter Tryd.func3, Tryd.ntmps3
  go_upto_region 1 with (fail)
  rw [← hwa]
  clear hwa
  go_wp2_with fail
  refine (wakes_any _).mono ?_
  rintro e w1 ⟨rfl, hb1⟩
  have L1 := Lib.hid (HB.out.trans (hb1.mono HB.out.size))
  have X1 := Lib.hid (XA.out.below hb1)
  clear hb1 XA
  by_cases h50 : (50 : Int) < t.size
  · go_wp2_with fail
    go_ret
    exact ⟨rfl, L1.out⟩
  · have HP := Lib.hid (HPT.out (by omega))
    clear HPT
    have k0 := X1.out.cell (i := 0) rfl
    have k1 := X1.out.cell (i := 1) rfl
    cases x with
    | false =>
      have e1 : tI o a = ⟨#[]⟩ := by unfold tI; rw [← hx]; rfl
      rw [e1] at HT
      have HE := Lib.hid (fun w' hw => parse_any ⟨#[]⟩ (by decide) w' hw)
      obtain ⟨o3, a3, b3, g1, _⟩ := par_form (prs ⟨#[]⟩)
      rw [g1] at HE
      clear e1 hx g1
      go_wp2_with (first
        | (go_at_call 5; refine (HT.out _ (HG.out.below L1.out)).mono ?_; rintro e w2 ⟨rfl, hb2⟩; have L2 := Lib.hid (L1.out.trans (hb2.mono L1.out.size)); have X2 := Lib.hid (X1.out.below hb2); have m0 := X2.out.cell (i := 0) rfl; have m1 := X2.out.cell (i := 1) rfl; clear hb2 k0 k1)
        | (go_at_call 6; refine (HR.out _).mono ?_; rintro e w3 ⟨rfl, hb3⟩; have L3 := Lib.hid (L2.out.trans (hb3.mono L2.out.size)); have X3 := Lib.hid (X2.out.below hb3); have n0 := X3.out.cell (i := 0) rfl; have n1 := X3.out.cell (i := 1) rfl; clear hb3 m0 m1)
        | (go_at_call 8; have hq := L4; clear hq; refine (HP.out _ (HG.out.below (L4.out.alloc L4.out.size _))).mono ?_; rintro e w5 ⟨rfl, hb5⟩; have L5 := Lib.hid ((L4.out.alloc L4.out.size _).trans (hb5.mono (L4.out.alloc L4.out.size _).size)); have Y5 := Lib.hid (Blk.new w5 23 [.int .i64 o2, .int .i64 a2]); have y0 := Y5.out.cell (i := 0) rfl; have y1 := Y5.out.cell (i := 1) rfl; clear hb5)
        | (go_at_call 8; refine (HE.out _ (HG.out.below L3.out)).mono ?_; rintro e w4 ⟨rfl, hb4⟩; have L4 := Lib.hid (L3.out.trans (hb4.mono L3.out.size)); clear hb4 n0 n1)
        | (go_at_call 9; refine (HRP.out _).mono ?_; rintro e w6 ⟨rfl, hb6⟩; have L6 := Lib.hid ((L5.out.alloc L5.out.size _).trans (hb6.mono (L5.out.alloc L5.out.size _).size)); have Y6 := Lib.hid ((Y5.out.below hb6).alloc (.cells #[.int .i64 o2, .int .i64 a2, .int .i64 0, .bool b2] 32)); have z0 := Y6.out.cell (i := 0) rfl; have z1 := Y6.out.cell (i := 1) rfl; clear hb6 y0 y1))
      go_ret
      exact ⟨by first | rfl | exact ret_bool (by cases b2 <;> rfl), L6.out.alloc L6.out.size _⟩
    | true =>
      obtain ⟨q1, q2, q3, q4, _⟩ := ok_iff.1 hx.symm
      obtain ⟨k, rfl⟩ : ∃ k : Nat, o = k := ⟨o.toNat, by omega⟩
      obtain ⟨b, rfl⟩ : ∃ b : Nat, a = b := ⟨a.toNat, by omega⟩
      have e1 : tI k b = txt k b := by unfold tI; rw [← hx, if_pos rfl, txI_nat]
      rw [e1] at HT
      have hsz := txt_size (k := k) (a := b) (by omega)
      have HE := Lib.hid (fun w' hw => parse_any (txt k b) (by omega) w' hw)
      have e2 : prs (txt k b) = some ((k : Int), (b : Int)) := prs_of_txt hx.symm rfl
      rw [e2] at HE
      have HE2 := Lib.hid (show ∀ w', OTab w' → Calls Tryd.prog 8 #[.string (txt k b)] w' fun e w'' => e = .returned (.tuple #[.agg #[.int .i64 (k : Int), .int .i64 (b : Int)], .bool true]) ∧ Below w'.heap.size w' w'' from fun w' hw => HE.out w' hw)
      have HX := Lib.hid (fun w' => rtext_any k b (by omega) (by omega) w')
      obtain ⟨s, hs⟩ : ∃ s, s = txt k b := ⟨_, rfl⟩
      rw [← hs] at HT HE2 HX
      have hss : (s.toList == s.toList) = true := by rw [seq_str]; exact decide_eq_true rfl
      clear e1 e2 hx HE hs hsz
      go_wp2_with (first
        | (go_at_call 5; refine (HT.out _ (HG.out.below L1.out)).mono ?_; rintro e w2 ⟨rfl, hb2⟩; have L2 := Lib.hid (L1.out.trans (hb2.mono L1.out.size)); have X2 := Lib.hid (X1.out.below hb2); have m0 := X2.out.cell (i := 0) rfl; have m1 := X2.out.cell (i := 1) rfl; clear hb2 k0 k1)
        | (go_at_call 6; refine (HR.out _).mono ?_; rintro e w3 ⟨rfl, hb3⟩; have L3 := Lib.hid (L2.out.trans (hb3.mono L2.out.size)); have X3 := Lib.hid (X2.out.below hb3); have n0 := X3.out.cell (i := 0) rfl; have n1 := X3.out.cell (i := 1) rfl; clear hb3 m0 m1)
        | (go_at_call 7; refine (HX.out _).mono ?_; rintro e w3b ⟨rfl, hb3⟩; have L3b := Lib.hid (L3.out.trans (hb3.mono L3.out.size)); have X3b := Lib.hid (X3.out.below hb3); clear hb3 n0 n1)
        | (go_at_call 8; have hq := L4; clear hq; refine (HP.out _ (HG.out.below (L4.out.alloc L4.out.size _))).mono ?_; rintro e w5 ⟨rfl, hb5⟩; have L5 := Lib.hid ((L4.out.alloc L4.out.size _).trans (hb5.mono (L4.out.alloc L4.out.size _).size)); have Y5 := Lib.hid (Blk.new w5 23 [.int .i64 o2, .int .i64 a2]); have y0 := Y5.out.cell (i := 0) rfl; have y1 := Y5.out.cell (i := 1) rfl; clear hb5 c0 c1 d0 d1)
        | (go_at_call 8; refine (HE2.out _ (HG.out.below L3b.out)).mono ?_; rintro e w4 ⟨rfl, hb4⟩; have L4 := Lib.hid (L3b.out.trans (hb4.mono L3b.out.size)); have X4 := Lib.hid ((X3b.out.below hb4).alloc (.cells #[.int .i64 (k : Int), .int .i64 (b : Int)] 23)); have Z4 := Lib.hid (Blk.new w4 23 [.int .i64 (k : Int), .int .i64 (b : Int)]); have c0 := X4.out.cell (i := 0) rfl; have c1 := X4.out.cell (i := 1) rfl; have d0 := Z4.out.cell (i := 0) rfl; have d1 := Z4.out.cell (i := 1) rfl; clear hb4)
        | (go_at_call 9; refine (HRP.out _).mono ?_; rintro e w6 ⟨rfl, hb6⟩; have L6 := Lib.hid ((L5.out.alloc L5.out.size _).trans (hb6.mono (L5.out.alloc L5.out.size _).size)); have Y6 := Lib.hid ((Y5.out.below hb6).alloc (.cells #[.int .i64 o2, .int .i64 a2, .int .i64 0, .bool b2] 32)); have z0 := Y6.out.cell (i := 0) rfl; have z1 := Y6.out.cell (i := 1) rfl; clear hb6 y0 y1))
      go_ret
      exact ⟨by first | rfl | exact ret_bool (by cases b2 <;> rfl), L6.out.alloc L6.out.size _⟩
theorem hole {H : Type} (enc : TypeId × Value → H) (base : Nat) (v0 : Value) (d0 : DataW H) (p0 : List MemPlace) (s1 : ByteArray) (w : World) (w0 : DataW.Trod enc Tryd.prog w 0 (fun _ => true) true 23 v0 d0 p0) (o0 : Value.okWide Tryd.prog w .any base 23 v0) (w1 : s1.size ≤ maxLen) (hT : OTab w) :
    Calls Tryd.prog 3 #[v0, .string s1] w fun e w' => e = .returned (.bool true) ∧ Below w.heap.size w w' := by
  obtain ⟨a, b, rfl, ha, hb⟩ := open_ins w0 o0
  exact core a b s1 w hT ha hb w1
end Go.Proofs.YtklpkafgmggacaaDoor.OpTextsW
