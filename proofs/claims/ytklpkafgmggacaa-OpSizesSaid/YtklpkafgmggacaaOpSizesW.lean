/- The walk of OpSizes: an instruction's bytes are one or two, and just that one. No conditions. -/
import Derived.Test.YtklpkafgmggacaaOpsK
namespace Go.Proofs.Ytklpkafgmggacaa.OpSizesW
open Go.RowKit Go.Proofs.Ytklpkafgmggacaa.Kit Go.Proofs.Ytklpkafgmggacaa.Byt Go.Proofs.Ytklpkafgmggacaa.Mem Go.Proofs.Ytklpkafgmggacaa.OpsM Go.Proofs.Ytklpkafgmggacaa.OpsA Go.Proofs.Ytklpkafgmggacaa.OpsN Go.Proofs.Ytklpkafgmggacaa.OpsK

theorem bts_lt {o a : Int} (h : ok o a = true) : ∀ b ∈ bts (o, a), b < 256 := by
  obtain ⟨h1, h2, h3, h4, h5⟩ := ok_iff.1 h
  intro b hb
  unfold bts at hb
  split at hb <;> simp at hb <;> omega
set_option maxRecDepth 100000 in
set_option maxHeartbeats 3200000 in
theorem core (o a : Int) (w : World) (ho : n64 o) (ha : n64 a) : Calls Try.prog 5 #[.agg #[.int .i64 o, .int .i64 a]] w (Yes w true) := by
  have HX := Lib.hid (Blk.new w 29 [.int .i64 o, .int .i64 a])
  have HB := Lib.hid ((Below.refl w.heap.size w).alloc (Nat.le_refl _) (.cells #[.int .i64 o, .int .i64 a] 29))
  have HP := Lib.hid (fun (w' : World) (h : Blk (w'.alloc (.cells #[.int .i64 o, .int .i64 a] 29)) w'.heap.size 29 [.int .i64 o, .int .i64 a]) => put_any _ _ _ [(o, a)] _ (Prs.block h rfl (by simpa using ⟨ho, ha⟩) (by simp)) (by simp))
  have HR := Lib.hid (fun w' => right_any o a w' ho ha)
  have HRA := Lib.hid (fun w' => rarg_any o w')
  have heq : ∀ w', (Op.equalIn 10000 29 (.agg #[.int .i64 o, .int .i64 a]) (.agg #[.int .i64 o, .int .i64 a])).run Try.prog w' = .ok true w' := fun w' => by rw [ieq]; simp
  have HOK := Lib.hid (show allOk [(o, a)] = ok o a from by simp [allOk])
  clear ho ha
  go_enter Try.func5, Try.ntmps5
  go_upto_region 1 with (fail)
  obtain ⟨w0, hw0⟩ : ∃ w0, w0 = w.alloc (.cells #[.int .i64 o, .int .i64 a] 29) := ⟨_, rfl⟩
  rw [← hw0]
  have HX0 : Hid (Blk w0 w.heap.size 29 [.int .i64 o, .int .i64 a]) := Lib.hid (by rw [hw0]; exact HX.out)
  have HB0 : Hid (Below w.heap.size w w0) := Lib.hid (by rw [hw0]; exact HB.out)
  clear hw0 HX HB
  go_wp2_with fail
  refine (wakes_any _).mono ?_
  rintro e w1 ⟨rfl, hb1⟩
  have HX1 := Lib.hid (HX0.out.below hb1)
  have HB1 := Lib.hid (HB0.out.trans (hb1.mono HB0.out.size))
  clear hb1 HX0 HB0
  have k0 := HX1.out.cell (i := 0) rfl
  have k1 := HX1.out.cell (i := 1) rfl
  go_wp2_with fail
  refine (HP.out _ (Blk.new w1 29 [.int .i64 o, .int .i64 a])).mono ?_
  rintro e w2 ⟨B, m, d, rfl, hr2, hb2⟩
  have hb2' := ((Below.refl w1.heap.size w1).alloc (Nat.le_refl _) (.cells #[.int .i64 o, .int .i64 a] 29)).trans (hb2.mono (by simp))
  have HX2 := Lib.hid (HX1.out.below hb2')
  have HB2 := Lib.hid (HB1.out.trans (hb2'.mono HB1.out.size))
  rw [HOK.out] at hr2 ⊢
  have HR2 := Lib.hid hr2
  clear k0 k1 hb2 hb2' hr2 HX1 HB1 HOK HP
  have k0 := HX2.out.cell (i := 0) rfl
  have k1 := HX2.out.cell (i := 1) rfl
  cases hok : ok o a
  · rw [hok] at HR
    rw [if_neg (by simp)]
    clear hok HR2
    go_wp2_with fail
    refine (HR.out _).mono ?_
    rintro e w3 ⟨rfl, hb3⟩
    have HB3 := Lib.hid (HB2.out.trans (hb3.mono HB2.out.size))
    clear k0 k1 hb3
    go_wp2
    go_ret
    exact ⟨rfl, HB3.out⟩
  · rw [if_pos rfl]
    rw [hok] at HR2
    have HR3 : Hid (Rd w2 B m d (u8n (bts (o, a)))) := Lib.hid (by have := HR2.out; simpa using this)
    have HF := Lib.hid (show atI (bts (o, a)) 0 = some (o, a, (bts (o, a)).length) from by have := at1_bts hok []; rw [List.append_nil] at this; rw [atI, if_neg (by omega)]; exact this)
    have HM := Lib.hid (show (bts (o, a)).length = m from Rd.nats HR3.out)
    have HA := Lib.hid (at_any B m d (bts (o, a)) 0 w2 HR3.out (bts_lt hok) (by unfold n64; omega))
    rw [HF.out, HM.out] at HA
    have hl := bts_len (o, a)
    rw [HM.out] at hl
    have hm0 : (0 : Int) + (m : Int) = (m : Int) := by omega
    clear hok HR2 HF HM HR
    have fin : ∀ x : Bool, hasA o = x → True := fun _ _ => trivial
    cases hh : hasA o
    · rw [hh] at HRA
      obtain rfl : m = 1 := by simpa [hh] using hl
      clear hh hl fin
      go_wp2_with fail
      refine (HRA.out _).mono ?_
      rintro e w3 ⟨rfl, rfl⟩
      go_wp2_with fail
      refine HA.out.mono ?_
      rintro e w4 ⟨rfl, hb4⟩
      have HX4 := Lib.hid (HX2.out.below hb4)
      have HB4 := Lib.hid (HB2.out.trans (hb4.mono HB2.out.size))
      clear k0 k1 hb4 HX2 HB2
      have k0 := (HX4.out.alloc (.cells #[.int .i64 o, .int .i64 a] 29)).cell (i := 0) rfl
      have k1 := (HX4.out.alloc (.cells #[.int .i64 o, .int .i64 a] 29)).cell (i := 1) rfl
      go_wp2_with fail
      go_ret
      exact ⟨rfl, HB4.out.alloc HB4.out.size _⟩
    · rw [hh] at HRA
      obtain rfl : m = 2 := by simpa [hh] using hl
      clear hh hl fin
      go_wp2_with fail
      refine (HRA.out _).mono ?_
      rintro e w3 ⟨rfl, rfl⟩
      go_wp2_with fail
      refine HA.out.mono ?_
      rintro e w4 ⟨rfl, hb4⟩
      have HX4 := Lib.hid (HX2.out.below hb4)
      have HB4 := Lib.hid (HB2.out.trans (hb4.mono HB2.out.size))
      clear k0 k1 hb4 HX2 HB2
      have k0 := (HX4.out.alloc (.cells #[.int .i64 o, .int .i64 a] 29)).cell (i := 0) rfl
      have k1 := (HX4.out.alloc (.cells #[.int .i64 o, .int .i64 a] 29)).cell (i := 1) rfl
      go_wp2_with fail
      go_ret
      exact ⟨rfl, HB4.out.alloc HB4.out.size _⟩
set_option maxRecDepth 100000 in
theorem hole {H : Type} (enc : TypeId × Value → H) (base : Nat) (v0 : Value) (d0 : DataW H) (p0 : List MemPlace) (w : World) (w0 : DataW.Trod enc Try.prog w 0 (fun _ => true) true 29 v0 d0 p0) (o0 : Value.okWide Try.prog w .any base 29 v0) :
    Calls Try.prog 5 #[v0] w fun e w' => e = .returned (.bool true) ∧ Below w.heap.size w w' := by
  obtain ⟨o, a, rfl, ho, ha⟩ := open_ins w0 o0
  exact core o a w ho ha
end Go.Proofs.Ytklpkafgmggacaa.OpSizesW
