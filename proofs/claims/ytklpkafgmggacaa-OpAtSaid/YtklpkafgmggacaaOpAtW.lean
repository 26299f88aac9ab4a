/- The walk of OpAt: at any place of any code, and all of it. No conditions. -/
import Derived.Test.YtklpkafgmggacaaOpsK
import Derived.BigQuiet
namespace Go.Proofs.Ytklpkafgmggacaa.OpAtW
open Go.RowKit Go.Proofs.Ytklpkafgmggacaa.Kit Go.Proofs.Ytklpkafgmggacaa.Byt Go.Proofs.Ytklpkafgmggacaa.Mem Go.Proofs.Ytklpkafgmggacaa.OpsM Go.Proofs.Ytklpkafgmggacaa.OpsA Go.Proofs.Ytklpkafgmggacaa.OpsN Go.Proofs.Ytklpkafgmggacaa.OpsK

theorem got_form (pc : Int) (x : Option (Int × Int × Nat)) : ∃ (o a q : Int) (b : Bool), got pc x = .agg #[.int .i64 o, .int .i64 a, .int .i64 q, .bool b] ∧ o = (x.map (·.1)).getD 0 ∧ a = (x.map (·.2.1)).getD 0 ∧ q = (x.map fun y => pc + y.2.2).getD 0 ∧ b = x.isSome := by
  cases x with
  | none => exact ⟨0, 0, 0, false, rfl, rfl, rfl, rfl, rfl⟩
  | some y => exact ⟨y.1, y.2.1, pc + y.2.2, true, rfl, rfl, rfl, rfl, rfl⟩
set_option maxRecDepth 100000 in
set_option maxHeartbeats 6400000 in
theorem core (A : Option Addr) (n c : Nat) (xs : List Nat) (pc : Int) (w : World) (hr : Rd w A n c (u8n xs)) (hx : ∀ b ∈ xs, b < 256) (hp : n64 pc) :
    Calls Try.prog 4 #[.slice A n c, .int .i64 pc] w (Yes w true) := by
  obtain rfl := Rd.nats hr
  have hle : xs.length ≤ 9223372036854775807 := by have := hr.le; have := hr.cap; omega
  have HAT := Lib.hid (fun w' (hb : Below w.heap.size w w') => at_any A xs.length c xs pc w' (hr.below hb) hx hp)
  have HRT := Lib.hid (fun (q : Int) w' (hb : Below w.heap.size w w') (hq : n64 q) => rat_any A xs.length c xs q w' (hr.below hb) hx hq)
  have HAL := Lib.hid (fun (h : xs.length ≤ 300) w' (hb : Below w.heap.size w w') => all_any A xs.length c xs w' (hr.below hb) hx h)
  have HR0 := Lib.hid (fun w' hb => HRT.out pc w' hb hp)
  obtain ⟨o, a, q, b, g0, g1, g2, g3, g4⟩ := got_form pc (atI xs pc)
  obtain ⟨en, hen⟩ : ∃ en : Int, en = if b then 0 else 19 := ⟨_, rfl⟩
  have HFD := Lib.hid (show ∀ w1 e w', Finds w1 pc (atI xs pc) e w' → e = .returned (.tuple #[.agg #[.int .i64 o, .int .i64 a], .int .i64 q, .int .i64 en]) ∧ Below w1.heap.size w1 w' from fun w1 e w' h => by
    obtain ⟨h1, h2⟩ := h
    rw [← g1, ← g2, ← g3, ← g4, ← hen] at h1
    exact ⟨h1, h2⟩)
  have HEN := Lib.hid hen
  rw [g0] at HR0
  have heq : ∀ o a w', (Op.equalIn 10000 29 (.agg #[.int .i64 o, .int .i64 a]) (.agg #[.int .i64 o, .int .i64 a])).run Try.prog w' = .ok true w' := fun o a w' => by rw [ieq]; simp
  clear hr hx hp g0 g1 g2 g3 g4 hen
  go_enter Try.func4, Try.ntmps4
  go_wp2_with fail
  refine (wakes_any _).mono ?_
  rintro e w1 ⟨rfl, hb1⟩
  have HB1 := Lib.hid hb1
  clear hb1
  by_cases h3 : (300 : Int) < xs.length
  · go_wp2_with fail
    go_ret
    exact ⟨rfl, HB1.out⟩
  · have h300 : xs.length ≤ 300 := by omega
    have HAL := Lib.hid (HAL.out h300)
    go_wp2_with fail
    refine (HAT.out _ HB1.out).mono ?_
    intro e w2 h2
    obtain ⟨rfl, hb2⟩ := HFD.out _ _ _ h2
    have HB2 := Lib.hid (HB1.out.trans (hb2.mono HB1.out.size))
    have HB2a := Lib.hid (HB2.out.alloc HB2.out.size (.cells #[.int .i64 o, .int .i64 a] 29))
    clear hb2 h2 HB1 HAT HFD
    go_wp2_with fail
    refine (HR0.out _ HB2a.out).mono ?_
    rintro e w3 ⟨rfl, hb3⟩
    have HX3 := Lib.hid ((Blk.new w2 29 [.int .i64 o, .int .i64 a]).below hb3)
    have HB3 := Lib.hid (HB2a.out.trans (hb3.mono HB2a.out.size))
    have HB3a := Lib.hid (HB3.out.alloc HB3.out.size (.cells #[.int .i64 o, .int .i64 a, .int .i64 q, .bool b] 39))
    clear hb3 HB2 HB2a HR0
    have k0 := (HX3.out.alloc (.cells #[.int .i64 o, .int .i64 a, .int .i64 q, .bool b] 39)).cell (i := 0) rfl
    have k1 := (HX3.out.alloc (.cells #[.int .i64 o, .int .i64 a, .int .i64 q, .bool b] 39)).cell (i := 1) rfl
    have hlast : en = if b then 0 else 19 := HEN.out
    cases b
    · rw [if_neg (by simp)] at hlast
      subst hlast
      go_upto_region 9 with fail
      obtain ⟨w4, hw4⟩ : ∃ w4, w4 = w3.alloc (.cells #[.int .i64 o, .int .i64 a, .int .i64 q, .bool false] 39) := ⟨_, rfl⟩
      rw [← hw4]
      have HB4 : Hid (Below w.heap.size w w4) := Lib.hid (by rw [hw4]; exact HB3a.out)
      clear hw4 k0 k1 HX3 HB3 HB3a HEN
      go_wp2_with fail
      refine (HAL.out _ HB4.out).mono ?_
      rintro e w5 ⟨B, m, d, rfl, hr5, hb5⟩
      have HB5 := Lib.hid (HB4.out.trans (hb5.mono HB4.out.size))
      clear hb5 HB4 HAL
      obtain ⟨T, hT⟩ : ∃ T, T = tell xs := ⟨_, rfl⟩
      rw [← hT] at hr5 ⊢
      cases T with
      | none =>
        rw [if_neg (by simp)]
        obtain rfl : m = 0 := by have := hr5.1; simpa using this.symm
        have HT := Lib.hid hT.symm
        clear hr5 hT
        go_wp2_with fail
        go_loopw [11, 12] (fun at' k' wr => ∃ p k : Nat, p ≤ xs.length ∧ k ≤ p ∧ at' = .int .i64 p ∧ k' = .int .i64 k ∧ Hid (tell (xs.drop p) = none) ∧ Hid (Below w.heap.size w wr)) (fun at' _ _ => xs.length - (intOf at').toNat)
        case atStart => exact ⟨0, 0, Nat.zero_le _, Nat.le_refl _, rfl, rfl, HT, HB5⟩
        case round =>
          obtain ⟨p, k, hp, hk, rfl, rfl, HQ, HW⟩ := hrel
          by_cases hlt : p < xs.length
          · have hnn : xs.drop p ≠ [] := by intro h; have := congrArg List.length h; simp at this; omega
            have HG := Lib.hid (HRT.out p wr HW.out (by unfold n64; omega))
            rw [atI, if_neg (by omega), Int.toNat_natCast] at HG
            cases h1 : at1 (xs.drop p) with
            | none =>
              rw [h1] at HG
              simp only [got] at HG
              clear h1 hnn HQ
              go_wp2_with fail
              refine HG.out.mono ?_
              rintro e w6 ⟨rfl, hb6⟩
              have HB6 := Lib.hid (HW.out.trans (hb6.mono HW.out.size))
              clear hb6 HG
              go_wp2_with fail
              go_ret
              exact ⟨rfl, HB6.out.alloc HB6.out.size _⟩
            | some y =>
              obtain ⟨o', a', m'⟩ := y
              obtain ⟨hn1, hn2, _⟩ := at1_n h1
              rw [List.length_drop] at hn2
              have HQ2 := Lib.hid (show tell (xs.drop (p + m')) = none from by
                have h2 := tell_some h1
                rw [HQ.out, List.drop_drop] at h2
                cases h3 : tell (xs.drop (p + m')) with
                | none => rfl
                | some T => rw [h3] at h2; cases h2)
              rw [h1] at HG
              simp only [got] at HG
              clear h1 hnn HQ
              go_wp2_with fail
              refine HG.out.mono ?_
              rintro e w6 ⟨rfl, hb6⟩
              have HB6 := Lib.hid (HW.out.trans (hb6.mono HW.out.size))
              clear hb6 HG
              go_upto_region 17 with (fail)
              go_quiet (fail)
              go_wp2_with fail
              go_roundw
              case rel => exact ⟨p + m', k + 1, by omega, by omega, by go_num, by go_num, HQ2, Lib.hid (below_drewN (HB6.out.alloc HB6.out.size _) _)⟩
              case measure => simp [intOf]; omega
          · exfalso
            have h := HQ.out
            rw [List.drop_eq_nil_of_le (by omega)] at h
            cases h
      | some L =>
        rw [if_pos (show (some L).isSome = true from rfl)]
        have HT := Lib.hid hT.symm
        have HL : Hid (Prs w5 B m d L) := Lib.hid hr5
        have hLm : L.length = m := hr5.1
        have hm63 := hr5.le
        clear hr5 hT
        go_wp2_with fail
        go_loopw [11, 12] (fun at' k' wr => ∃ p k : Nat, p ≤ xs.length ∧ k ≤ p ∧ at' = .int .i64 p ∧ k' = .int .i64 k ∧ Hid (tell (xs.drop p) = some (L.drop k)) ∧ Hid (Below w.heap.size w wr) ∧ Hid (Below w5.heap.size w5 wr)) (fun at' _ _ => xs.length - (intOf at').toNat)
        case atStart => exact ⟨0, 0, Nat.zero_le _, Nat.le_refl _, rfl, rfl, HT, HB5, Lib.hid (Below.refl _ _)⟩
        case round =>
          obtain ⟨p, k, hp, hk, rfl, rfl, HQ, HW, HV⟩ := hrel
          by_cases hlt : p < xs.length
          · have hnn : xs.drop p ≠ [] := by intro h; have := congrArg List.length h; simp at this; omega
            have HG := Lib.hid (HRT.out p wr HW.out (by unfold n64; omega))
            rw [atI, if_neg (by omega), Int.toNat_natCast] at HG
            cases h1 : at1 (xs.drop p) with
            | none =>
              exfalso
              have h2 := tell_none hnn h1
              rw [HQ.out] at h2
              cases h2
            | some y =>
              obtain ⟨o', a', m'⟩ := y
              obtain ⟨hn1, hn2, _⟩ := at1_n h1
              rw [List.length_drop] at hn2
              have hq := tell_some h1
              rw [HQ.out, List.drop_drop] at hq
              obtain ⟨T, hT2, hT3⟩ : ∃ T, tell (xs.drop (p + m')) = some T ∧ L.drop k = (o', a') :: T := by
                cases h3 : tell (xs.drop (p + m')) with
                | none => rw [h3] at hq; cases hq
                | some T => rw [h3] at hq; exact ⟨T, rfl, by simpa using hq⟩
              have hkm : k < m := by
                have := congrArg List.length hT3
                rw [List.length_drop] at this
                simp at this
                omega
              have hkL : k < L.length := by omega
              rw [List.drop_eq_getElem_cons hkL, List.cons.injEq] at hT3
              obtain ⟨hT4, hT5⟩ := hT3
              rw [← hT5] at hT2
              have HQ2 := Lib.hid hT2
              rw [h1] at HG
              simp only [got] at HG
              clear h1 hnn HQ hq hT2 hT5
              go_wp2_with fail
              refine HG.out.mono ?_
              rintro e w6 ⟨rfl, hb6⟩
              have HB6 := Lib.hid (HW.out.trans (hb6.mono HW.out.size))
              have HV6 := Lib.hid (HV.out.trans (hb6.mono HV.out.size))
              have HB7 := Lib.hid (HB6.out.alloc HB6.out.size (.cells #[.int .i64 o', .int .i64 a', .int .i64 ((p : Int) + (m' : Int)), .bool true] 39))
              have HV7 := Lib.hid (HV6.out.alloc HV6.out.size (.cells #[.int .i64 o', .int .i64 a', .int .i64 ((p : Int) + (m' : Int)), .bool true] 39))
              clear hb6 HG HB6 HV6
              obtain ⟨x1, x2, bB, oB, hx1, _, _, rfl, c0, c1⟩ := (HL.out.below HV7.out).at_ hkm
              rw [List.getElem?_eq_getElem hkL, hT4] at hx1
              simp only [Option.some.injEq, Prod.mk.injEq] at hx1
              obtain ⟨rfl, rfl⟩ := hx1
              have hd : decide (m ≤ k) = false := by simp; omega
              have hd2 : decide ((m : Int) ≤ (k : Int)) = false := by simp; omega
              clear hT4
              go_upto_region 17 with (fail)
              go_quiet (fail)
              clear c0 c1
              go_wp2_with fail
              go_roundw
              case rel => exact ⟨p + m', k + 1, by omega, by omega, by go_num, by go_num, HQ2, Lib.hid (below_drewN HB7.out _), Lib.hid (below_drewN HV7.out _)⟩
              case measure => simp [intOf]; omega
          · go_wp2_with fail
            go_ret
            exact ⟨rfl, HW.out⟩
    · rw [if_pos rfl] at hlast
      subst hlast
      go_upto_region 9 with fail
      obtain ⟨w4, hw4⟩ : ∃ w4, w4 = w3.alloc (.cells #[.int .i64 o, .int .i64 a, .int .i64 q, .bool true] 39) := ⟨_, rfl⟩
      rw [← hw4]
      have HB4 : Hid (Below w.heap.size w w4) := Lib.hid (by rw [hw4]; exact HB3a.out)
      clear hw4 k0 k1 HX3 HB3 HB3a HEN
      go_wp2_with fail
      refine (HAL.out _ HB4.out).mono ?_
      rintro e w5 ⟨B, m, d, rfl, hr5, hb5⟩
      have HB5 := Lib.hid (HB4.out.trans (hb5.mono HB4.out.size))
      clear hb5 HB4 HAL
      obtain ⟨T, hT⟩ : ∃ T, T = tell xs := ⟨_, rfl⟩
      rw [← hT] at hr5 ⊢
      cases T with
      | none =>
        rw [if_neg (by simp)]
        obtain rfl : m = 0 := by have := hr5.1; simpa using this.symm
        have HT := Lib.hid hT.symm
        clear hr5 hT
        go_wp2_with fail
        go_loopw [11, 12] (fun at' k' wr => ∃ p k : Nat, p ≤ xs.length ∧ k ≤ p ∧ at' = .int .i64 p ∧ k' = .int .i64 k ∧ Hid (tell (xs.drop p) = none) ∧ Hid (Below w.heap.size w wr)) (fun at' _ _ => xs.length - (intOf at').toNat)
        case atStart => exact ⟨0, 0, Nat.zero_le _, Nat.le_refl _, rfl, rfl, HT, HB5⟩
        case round =>
          obtain ⟨p, k, hp, hk, rfl, rfl, HQ, HW⟩ := hrel
          by_cases hlt : p < xs.length
          · have hnn : xs.drop p ≠ [] := by intro h; have := congrArg List.length h; simp at this; omega
            have HG := Lib.hid (HRT.out p wr HW.out (by unfold n64; omega))
            rw [atI, if_neg (by omega), Int.toNat_natCast] at HG
            cases h1 : at1 (xs.drop p) with
            | none =>
              rw [h1] at HG
              simp only [got] at HG
              clear h1 hnn HQ
              go_wp2_with fail
              refine HG.out.mono ?_
              rintro e w6 ⟨rfl, hb6⟩
              have HB6 := Lib.hid (HW.out.trans (hb6.mono HW.out.size))
              clear hb6 HG
              go_wp2_with fail
              go_ret
              exact ⟨rfl, HB6.out.alloc HB6.out.size _⟩
            | some y =>
              obtain ⟨o', a', m'⟩ := y
              obtain ⟨hn1, hn2, _⟩ := at1_n h1
              rw [List.length_drop] at hn2
              have HQ2 := Lib.hid (show tell (xs.drop (p + m')) = none from by
                have h2 := tell_some h1
                rw [HQ.out, List.drop_drop] at h2
                cases h3 : tell (xs.drop (p + m')) with
                | none => rfl
                | some T => rw [h3] at h2; cases h2)
              rw [h1] at HG
              simp only [got] at HG
              clear h1 hnn HQ
              go_wp2_with fail
              refine HG.out.mono ?_
              rintro e w6 ⟨rfl, hb6⟩
              have HB6 := Lib.hid (HW.out.trans (hb6.mono HW.out.size))
              clear hb6 HG
              go_upto_region 17 with (fail)
              go_quiet (fail)
              go_wp2_with fail
              go_roundw
              case rel => exact ⟨p + m', k + 1, by omega, by omega, by go_num, by go_num, HQ2, Lib.hid (below_drewN (HB6.out.alloc HB6.out.size _) _)⟩
              case measure => simp [intOf]; omega
          · exfalso
            have h := HQ.out
            rw [List.drop_eq_nil_of_le (by omega)] at h
            cases h
      | some L =>
        rw [if_pos (show (some L).isSome = true from rfl)]
        have HT := Lib.hid hT.symm
        have HL : Hid (Prs w5 B m d L) := Lib.hid hr5
        have hLm : L.length = m := hr5.1
        have hm63 := hr5.le
        clear hr5 hT
        go_wp2_with fail
        go_loopw [11, 12] (fun at' k' wr => ∃ p k : Nat, p ≤ xs.length ∧ k ≤ p ∧ at' = .int .i64 p ∧ k' = .int .i64 k ∧ Hid (tell (xs.drop p) = some (L.drop k)) ∧ Hid (Below w.heap.size w wr) ∧ Hid (Below w5.heap.size w5 wr)) (fun at' _ _ => xs.length - (intOf at').toNat)
        case atStart => exact ⟨0, 0, Nat.zero_le _, Nat.le_refl _, rfl, rfl, HT, HB5, Lib.hid (Below.refl _ _)⟩
        case round =>
          obtain ⟨p, k, hp, hk, rfl, rfl, HQ, HW, HV⟩ := hrel
          by_cases hlt : p < xs.length
          · have hnn : xs.drop p ≠ [] := by intro h; have := congrArg List.length h; simp at this; omega
            have HG := Lib.hid (HRT.out p wr HW.out (by unfold n64; omega))
            rw [atI, if_neg (by omega), Int.toNat_natCast] at HG
            cases h1 : at1 (xs.drop p) with
            | none =>
              exfalso
              have h2 := tell_none hnn h1
              rw [HQ.out] at h2
              cases h2
            | some y =>
              obtain ⟨o', a', m'⟩ := y
              obtain ⟨hn1, hn2, _⟩ := at1_n h1
              rw [List.length_drop] at hn2
              have hq := tell_some h1
              rw [HQ.out, List.drop_drop] at hq
              obtain ⟨T, hT2, hT3⟩ : ∃ T, tell (xs.drop (p + m')) = some T ∧ L.drop k = (o', a') :: T := by
                cases h3 : tell (xs.drop (p + m')) with
                | none => rw [h3] at hq; cases hq
                | some T => rw [h3] at hq; exact ⟨T, rfl, by simpa using hq⟩
              have hkm : k < m := by
                have := congrArg List.length hT3
                rw [List.length_drop] at this
                simp at this
                omega
              have hkL : k < L.length := by omega
              rw [List.drop_eq_getElem_cons hkL, List.cons.injEq] at hT3
              obtain ⟨hT4, hT5⟩ := hT3
              rw [← hT5] at hT2
              have HQ2 := Lib.hid hT2
              rw [h1] at HG
              simp only [got] at HG
              clear h1 hnn HQ hq hT2 hT5
              go_wp2_with fail
              refine HG.out.mono ?_
              rintro e w6 ⟨rfl, hb6⟩
              have HB6 := Lib.hid (HW.out.trans (hb6.mono HW.out.size))
              have HV6 := Lib.hid (HV.out.trans (hb6.mono HV.out.size))
              have HB7 := Lib.hid (HB6.out.alloc HB6.out.size (.cells #[.int .i64 o', .int .i64 a', .int .i64 ((p : Int) + (m' : Int)), .bool true] 39))
              have HV7 := Lib.hid (HV6.out.alloc HV6.out.size (.cells #[.int .i64 o', .int .i64 a', .int .i64 ((p : Int) + (m' : Int)), .bool true] 39))
              clear hb6 HG HB6 HV6
              obtain ⟨x1, x2, bB, oB, hx1, _, _, rfl, c0, c1⟩ := (HL.out.below HV7.out).at_ hkm
              rw [List.getElem?_eq_getElem hkL, hT4] at hx1
              simp only [Option.some.injEq, Prod.mk.injEq] at hx1
              obtain ⟨rfl, rfl⟩ := hx1
              have hd : decide (m ≤ k) = false := by simp; omega
              have hd2 : decide ((m : Int) ≤ (k : Int)) = false := by simp; omega
              clear hT4
              go_upto_region 17 with (fail)
              go_quiet (fail)
              clear c0 c1
              go_wp2_with fail
              go_roundw
              case rel => exact ⟨p + m', k + 1, by omega, by omega, by go_num, by go_num, HQ2, Lib.hid (below_drewN HB7.out _), Lib.hid (below_drewN HV7.out _)⟩
              case measure => simp [intOf]; omega
          · go_wp2_with fail
            go_ret
            exact ⟨rfl, HW.out⟩
theorem hole (a0 : Option Addr) (len0 cap0 : Nat) (z0 : List Int) (a1 : Int) (w : World) (w0 : Row .u8 w a0 len0 cap0 z0) (w1 : (Lit.int .i64 a1).wf = true) :
    Calls Try.prog 4 #[.slice a0 len0 cap0, .int .i64 a1] w fun e w' => e = .returned (.bool true) ∧ Below w.heap.size w w' := by
  obtain ⟨xs, hx, hb⟩ := Row.nats w0
  exact core a0 len0 cap0 xs a1 w hx hb (bounds_i64 w1)
end Go.Proofs.Ytklpkafgmggacaa.OpAtW
