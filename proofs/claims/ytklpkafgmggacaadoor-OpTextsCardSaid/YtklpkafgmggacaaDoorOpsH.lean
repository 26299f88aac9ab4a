/- The code's Text, named, Parse. Condition: the given variables lie as the fact says. -/
import Derived.Test.YtklpkafgmggacaaDoorOpsG
import Derived.Test.YtklpkafgmggacaaDoorOpsX
import Derived.Deep.RegionHeld3
namespace Go.Proofs.YtklpkafgmggacaaDoor.OpsH
open Go.RowKit Go.Proofs.YtklpkafgmggacaaDoor.Kit Go.Proofs.YtklpkafgmggacaaDoor.Byt Go.Proofs.YtklpkafgmggacaaDoor.Mem Go.Proofs.YtklpkafgmggacaaDoor.OpsM Go.Proofs.YtklpkafgmggacaaDoor.OpsA Go.Proofs.YtklpkafgmggacaaDoor.OpsT Go.Proofs.YtklpkafgmggacaaDoor.OpsU Go.Proofs.YtklpkafgmggacaaDoor.OpsV Go.Proofs.YtklpkafgmggacaaDoor.OpsG Go.Proofs.YtklpkafgmggacaaDoor.OpsX Go.Proofs.YtklpkafgmggacaaDoor.OpsN

/-- What Text tells. -/
def tI (o a : Int) : ByteArray := if ok o a then txI o a else ⟨#[]⟩
set_option maxRecDepth 100000 in
set_option maxHeartbeats 1600000 in
theorem text_any (o a : Int) (w : World) (h : OTab w) (ho : n64 o) (ha : n64 a) : Calls Tryd.prog 5 #[.agg #[.int .i64 o, .int .i64 a]] w fun e w' => e = .returned (.tuple #[.string (tI o a), .bool (ok o a)]) ∧ Below w.heap.size w w' := by
  obtain ⟨wa, hwa⟩ : ∃ wa, wa = w.alloc (.cells #[.int .i64 o, .int .i64 a] 23) := ⟨_, rfl⟩
  have HX : Hid (Blk wa w.heap.size 23 [.int .i64 o, .int .i64 a]) := Lib.hid (by rw [hwa]; exact Blk.new w _ _)
  have HB : Hid (Below w.heap.size w wa) := Lib.hid (by rw [hwa]; exact (Below.refl w.heap.size w).alloc (Nat.le_refl _) _)
  have HG := Lib.hid h
  have HR := Lib.hid (fun w' => right_any o a w' ho ha)
  have k0 := HX.out.cell (i := 0) rfl
  have k1 := HX.out.cell (i := 1) rfl
  obtain ⟨x, hx⟩ : ∃ x, x = ok o a := ⟨_, rfl⟩
  rw [← hx] at HR
  cases x with
  | false =>
    have HE := Lib.hid (show tI o a = ⟨#[]⟩ from by unfold tI; rw [← hx]; rfl)
    rw [HE.out, ← hx]
    clear HE hx ho ha
    go_enter Tryd.func5, Tryd.ntmps5
    go_upto_region 1 with (fail)
    rw [← hwa]
    clear hwa
    go_wp2_with (go_at_call 12; refine (HR.out _).mono ?_; rintro e w1 ⟨rfl, hb1⟩; have L1 := Lib.hid (HB.out.trans (hb1.mono HB.out.size)); clear hb1)
    go_ret2
    exact ⟨rfl, L1.out⟩
  | true =>
    obtain ⟨q1, q2, q3, q4, _⟩ := ok_iff.1 hx.symm
    obtain ⟨k, rfl⟩ : ∃ k : Nat, o = k := ⟨o.toNat, by omega⟩
    obtain ⟨b, rfl⟩ : ∃ b : Nat, a = b := ⟨a.toNat, by omega⟩
    have hk : k < 19 := by omega
    have hki : (k : Int) < 19 := by omega
    have hb : b < 256 := by omega
    have HE := Lib.hid (show tI k b = txt k b from by unfold tI; rw [← hx, if_pos rfl, txI_nat])
    rw [HE.out, ← hx]
    have g0 := (h.below HB.out).nm k hk
    cases hh : hasA k
    · have HT := Lib.hid (show nmk k = txt k b from by unfold txt; rw [hh]; rfl)
      have HK := Lib.hid (fun w' => hh ▸ takes_any (k : Int) w')
      rw [← HT.out]
      clear HE hx ho ha hh HT q1 q2 q3 q4 h
      go_enter Tryd.func5, Tryd.ntmps5
      go_upto_region 1 with (fail)
      rw [← hwa]
      clear hwa
      go_wp2_with (first
        | (go_at_call 12; refine (HR.out _).mono ?_; rintro e w1 ⟨rfl, hb1⟩; have L1 := Lib.hid (HB.out.trans (hb1.mono HB.out.size)); have X1 := Lib.hid (HX.out.below hb1); have G1 := Lib.hid (HG.out.below L1.out); have m0 := X1.out.cell (i := 0) rfl; have m1 := X1.out.cell (i := 1) rfl; have g1 := G1.out.nm k hk; clear hb1 k0 k1 g0)
        | (go_at_call 13; refine (HK.out _).mono ?_; rintro e w2 ⟨rfl, rfl⟩))
      go_ret2
      exact ⟨rfl, L1.out⟩
    · have HT := Lib.hid (show nmk k ++ ⟨#[32]⟩ ++ dec b = txt k b from by unfold txt; rw [hh]; rfl)
      have HK := Lib.hid (fun w' => hh ▸ takes_any (k : Int) w')
      have HI := Lib.hid (fun w' hw => itoa_any b hb w' hw)
      rw [← HT.out]
      clear HE hx ho ha hh HT q1 q2 q3 q4 h
      go_enter Tryd.func5, Tryd.ntmps5
      go_upto_region 1 with (fail)
      rw [← hwa]
      clear hwa
      go_upto_region 5 with (first
        | (go_at_call 12; refine (HR.out _).mono ?_; rintro e w1 ⟨rfl, hb1⟩; have L1 := Lib.hid (HB.out.trans (hb1.mono HB.out.size)); have X1 := Lib.hid (HX.out.below hb1); have G1 := Lib.hid (HG.out.below L1.out); have m0 := X1.out.cell (i := 0) rfl; have m1 := X1.out.cell (i := 1) rfl; have g1 := G1.out.nm k hk; clear hb1 k0 k1 g0)
        | (go_at_call 13; refine (HK.out _).mono ?_; rintro e w2 ⟨rfl, rfl⟩))
      have HBd := Lib.hid ((Below.refl w1.heap.size w1).drew)
      have s1 := nmk_size k hk
      have s2 := dec_size b
      have s3 : (⟨#[32]⟩ : ByteArray).size = 1 := rfl
      have s4 : (nmk k ++ ⟨#[32]⟩).size = (nmk k).size + 1 := by rw [ByteArray.size_append]; rfl
      have ad1 : ¬ (nmk k).size + (⟨#[32]⟩ : ByteArray).size > 9223372036854775807 := by rw [s3]; omega
      have ad2 : ¬ 9223372036854775807 < (nmk k).size + 1 := by omega
      have ad3 : ¬ (nmk k ++ ⟨#[32]⟩).size + (dec b).size > 9223372036854775807 := by rw [s4]; omega
      have ad4 : ¬ 9223372036854775807 < (nmk k).size + 1 + (dec b).size := by omega
      go_region_held3 (fun w' => w'.cell? ⟨w.heap.size, 0, none⟩ = some (.int .i64 (k : Int)) ∧ w'.cell? ⟨w.heap.size, 1, none⟩ = some (.int .i64 (b : Int)) ∧ w'.cell? ⟨0, k, none⟩ = some (.string (nmk k)))
        (first | go_keep | exact HC1.out)
        (first | (go_at_call 14; refine (HI.out _ (G1.out.below HBd.out)).mono ?_; rintro e xs1 ⟨rfl, hbe⟩; have HE1 := Lib.hid (HBd.out.trans (hbe.mono HBd.out.size)); have HC1 := Lib.hid (And.intro ((X1.out.below HE1.out).cell (i := 0) rfl) (And.intro ((X1.out.below HE1.out).cell (i := 1) rfl) ((G1.out.below HE1.out).nm k hk))); clear hbe))
      all_goals
        go_wp2_with fail
        go_ret2
        exact ⟨rfl, L1.out.trans (HE1.out.mono L1.out.size)⟩
end Go.Proofs.YtklpkafgmggacaaDoor.OpsH
