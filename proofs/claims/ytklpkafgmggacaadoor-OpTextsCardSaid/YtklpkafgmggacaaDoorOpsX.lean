/- The reference's Parse: each instruction there is is asked. No conditions. -/
import Derived.Test.YtklpkafgmggacaaDoorOpsV
namespace Go.Proofs.YtklpkafgmggacaaDoor.OpsX
open Go.RowKit Go.Proofs.YtklpkafgmggacaaDoor.Kit Go.Proofs.YtklpkafgmggacaaDoor.Byt Go.Proofs.YtklpkafgmggacaaDoor.Mem Go.Proofs.YtklpkafgmggacaaDoor.OpsM Go.Proofs.YtklpkafgmggacaaDoor.OpsA Go.Proofs.YtklpkafgmggacaaDoor.OpsT Go.Proofs.YtklpkafgmggacaaDoor.OpsU Go.Proofs.YtklpkafgmggacaaDoor.OpsV

theorem prs_of_none {t : ByteArray} (h : ∀ o a : Nat, o < 19 → a < 256 → ok o a = true → txt o a ≠ t) : prs t = none := by
  cases hp : prs t with
  | none => rfl
  | some x =>
    obtain ⟨o, a⟩ := x
    obtain ⟨h1, h2⟩ := prs_some hp
    obtain ⟨q1, q2, q3, q4, _⟩ := ok_iff.1 h1
    have e1 : ((o.toNat : Nat) : Int) = o := by omega
    have e2 : ((a.toNat : Nat) : Int) = a := by omega
    exact absurd h2 (h o.toNat a.toNat (by omega) (by omega) (by rw [e1, e2]; exact h1))
theorem prs_of_txt {t : ByteArray} {o a : Nat} (h : ok o a = true) (ht : txt o a = t) : prs t = some ((o : Int), (a : Int)) := by
  rw [← ht, ← txI_nat]
  exact prs_txt h
/-- How a parse is told. -/
def gotP : Option (Int × Int) → Value
  | none => .agg #[.int .i64 0, .int .i64 0, .int .i64 0, .bool false]
  | some (o, a) => .agg #[.int .i64 o, .int .i64 a, .int .i64 0, .bool true]
theorem size_got : (Tryd.prog.info? 32).map (·.size) = some 4 := by kernel_rfl
theorem one_got (a b c : Int) (d : Bool) : ∀ u ∈ [Value.int .i64 a, .int .i64 b, .int .i64 c, .bool d], u.oneCell' = true := by
  intro u hu
  simp only [List.mem_cons, List.not_mem_nil, or_false] at hu
  rcases hu with rfl | rfl | rfl | rfl <;> rfl
set_option maxRecDepth 100000 in
set_option maxHeartbeats 3200000 in
theorem rparse_any (t : ByteArray) (w : World) : Calls Tryd.prog 9 #[.string t] w fun e w' => e = .returned (gotP (prs t)) ∧ Below w.heap.size w w' := by
  obtain ⟨wa, hwa⟩ : ∃ wa, wa = w.alloc (.cells #[.int .i64 0, .int .i64 0, .int .i64 0, .bool false] 32) := ⟨_, rfl⟩
  have HA : Hid (Blk wa w.heap.size 32 [.int .i64 0, .int .i64 0, .int .i64 0, .bool false]) := Lib.hid (by rw [hwa]; exact Blk.new w _ _)
  have HB : Hid (Below w.heap.size w wa) := Lib.hid (by rw [hwa]; exact (Below.refl w.heap.size w).alloc (Nat.le_refl _) _)
  have hwl : w.heap.size < wa.heap.size := HA.out.lt
  go_enter Tryd.func9, Tryd.ntmps9
  go_upto_region 1 with (fail)
  rw [← hwa]
  clear hwa
  go_wp2_with fail
  go_loopw [3] (fun s wr => ∃ o : Nat, o ≤ 19 ∧ s = .int .i64 o ∧ Hid (∀ q b : Nat, q < o → b < 256 → ok q b = true → txt q b ≠ t) ∧ Hid (Below wa.heap.size wa wr)) (fun s _ => 19 - (intOf s).toNat)
  case atStart => exact ⟨0, by omega, rfl, Lib.hid (fun q b h => by omega), Lib.hid (Below.refl _ _)⟩
  case round =>
    obtain ⟨o, ho, rfl, HN, HV⟩ := hrel
    by_cases hlt : (o : Int) ≤ 18
    · obtain ⟨w0, rfl⟩ : ∃ w0, w0 = wr := ⟨_, rfl⟩
      go_wp2_with fail
      go_loopw [4] (fun s wr => ∃ a : Nat, a ≤ 256 ∧ s = .int .i64 a ∧ Hid (∀ b : Nat, b < a → ok o b = true → txt o b ≠ t) ∧ Hid (Below wa.heap.size wa wr)) (fun s _ => 256 - (intOf s).toNat)
      case atStart => exact ⟨0, by omega, rfl, Lib.hid (fun b h => by omega), HV⟩
      case round =>
        obtain ⟨a, ha, rfl, HM, HU⟩ := hrel
        by_cases hla : (a : Int) ≤ 255
        · have hR := Lib.hid (fun w' => rright_any (o : Int) (a : Int) w')
          have hT := Lib.hid (fun w' => rtext_any o a (by omega) (by omega) w')
          have hX := Lib.hid (Blk.new wr 23 [.int .i64 o, .int .i64 a])
          have k0 := hX.out.cell (i := 0) rfl
          have k1 := hX.out.cell (i := 1) rfl
          have HUa := Lib.hid (HU.out.alloc HU.out.size (.cells #[.int .i64 o, .int .i64 a] 23))
          obtain ⟨x, hx⟩ : ∃ x, x = ok o a := ⟨_, rfl⟩
          rw [← hx] at hR
          cases x with
          | false =>
            have HS := Lib.hid (show ∀ b : Nat, b < a + 1 → ok o b = true → txt o b ≠ t from fun b hb hk => by
              by_cases e : b = a
              · subst e; rw [← hx] at hk; cases hk
              · exact HM.out b (by omega) hk)
            clear hx HM
            go_wp2_with (first
              | (go_at_call 6; refine (hR.out _).mono ?_; rintro e w1 ⟨rfl, hb1⟩; have L1 := Lib.hid (HUa.out.trans (hb1.mono HUa.out.size)); clear hb1)
              | fail)
            go_roundw
            case rel => exact ⟨a + 1, by omega, by go_num, HS, L1⟩
            case measure => simp [intOf]; omega
          | true =>
            by_cases htx : txt o a = t
            · have HE := Lib.hid (prs_of_txt hx.symm htx)
              have HTX := Lib.hid htx
              clear hx HM htx HN
              go_wp2_with (first
                | (go_at_call 6; refine (hR.out _).mono ?_; rintro e w1 ⟨rfl, hb1⟩; have L1 := Lib.hid (HUa.out.trans (hb1.mono HUa.out.size)); have X1 := Lib.hid (hX.out.below hb1); have m0 := X1.out.cell (i := 0) rfl; have m1 := X1.out.cell (i := 1) rfl; clear hb1 k0 k1)
                | (go_at_call 7; refine (hT.out _).mono ?_; rintro e w2 ⟨rfl, hb2⟩; have L2 := Lib.hid (L1.out.trans (hb2.mono L1.out.size)); have X2 := Lib.hid (X1.out.below hb2); have n0 := X2.out.cell (i := 0) rfl; have n1 := X2.out.cell (i := 1) rfl; have G2 := Lib.hid (HA.out.below L2.out); rw [HTX.out]; clear hb2 m0 m1)
                | (refine wpList_store_blk rfl 32 (.tmp 2) (.tmp 26) rfl w.heap.size rfl [.int .i64 o, .int .i64 a, .int .i64 0, .bool true] rfl G2.out rfl size_got (one_got _ _ _ _) ?_; intro w9 hB9 ho9))
              have e0 := hB9.out.cell (i := 0) rfl
              have e1 := hB9.out.cell (i := 1) rfl
              have e2 := hB9.out.cell (i := 2) rfl
              have e3 := hB9.out.cell (i := 3) rfl
              refine bodyPost_ret (v := gotP (some ((o : Int), (a : Int)))) (by simp [results, Tryd.results9, go_sem, gotP, e0, e1, e2, e3]) rfl ?_
              exact ⟨by rw [HE.out], ho9.out.below (HB.out.trans (L2.out.mono HB.out.size)) (Nat.le_refl _) (by have := L2.out.size; have := HB.out.size; omega)⟩
            · have HS := Lib.hid (show ∀ b : Nat, b < a + 1 → ok o b = true → txt o b ≠ t from fun b hb hk => by
                by_cases e : b = a
                · subst e; exact htx
                · exact HM.out b (by omega) hk)
              have hq : ((txt o a).toList == t.toList) = false := by rw [seq_str]; exact decide_eq_false htx
              clear hx HM
              go_wp2_with (first
                | (go_at_call 6; refine (hR.out _).mono ?_; rintro e w1 ⟨rfl, hb1⟩; have L1 := Lib.hid (HUa.out.trans (hb1.mono HUa.out.size)); have X1 := Lib.hid (hX.out.below hb1); have m0 := X1.out.cell (i := 0) rfl; have m1 := X1.out.cell (i := 1) rfl; clear hb1 k0 k1)
                | (go_at_call 7; refine (hT.out _).mono ?_; rintro e w2 ⟨rfl, hb2⟩; have L2 := Lib.hid (L1.out.trans (hb2.mono L1.out.size)); clear hb2))
              go_roundw
              case rel => exact ⟨a + 1, by omega, by go_num, HS, L2⟩
              case measure => simp [intOf]; omega
        · obtain rfl : a = 256 := by omega
          go_wp2_with fail
          go_roundw
          case rel => exact ⟨o + 1, by omega, by go_num, Lib.hid (fun q b hq hb hk => by
            by_cases e : q = o
            · subst e; exact HM.out b hb hk
            · exact HN.out q b (by omega) hb hk), HU⟩
          case measure => simp [intOf]; omega
    · obtain rfl : o = 19 := by omega
      have HE := Lib.hid (prs_of_none HN.out)
      have G2 := Lib.hid (HA.out.below HV.out)
      clear HN
      go_wp2_with (refine wpList_store_blk rfl 32 (.tmp 2) (.tmp 27) rfl w.heap.size rfl [.int .i64 0, .int .i64 0, .int .i64 0, .bool false] rfl G2.out rfl size_got (one_got _ _ _ _) ?_; intro w9 hB9 ho9)
      have e0 := hB9.out.cell (i := 0) rfl
      have e1 := hB9.out.cell (i := 1) rfl
      have e2 := hB9.out.cell (i := 2) rfl
      have e3 := hB9.out.cell (i := 3) rfl
      refine bodyPost_ret (v := gotP none) (by simp [results, Tryd.results9, go_sem, gotP, e0, e1, e2, e3]) rfl ?_
      exact ⟨by rw [HE.out], ho9.out.below (HB.out.trans (HV.out.mono HB.out.size)) (Nat.le_refl _) (by have := HV.out.size; have := HB.out.size; omega)⟩
end Go.Proofs.YtklpkafgmggacaaDoor.OpsX
