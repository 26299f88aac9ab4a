/- The walk of TimerOrder. No conditions. -/
import Derived.Test.YtgoogcjkokpicaaTimV
namespace Go.Proofs.Ytgoogcjkokpicaa.TimerOrderW
open Go.RowKit Go.Proofs.Ytgoogcjkokpicaa.Kit Go.Proofs.Ytgoogcjkokpicaa.Byt Go.Proofs.Ytgoogcjkokpicaa.Mem Go.Proofs.Ytgoogcjkokpicaa.TimM Go.Proofs.Ytgoogcjkokpicaa.TimA Go.Proofs.Ytgoogcjkokpicaa.TimH Go.Proofs.Ytgoogcjkokpicaa.TimN Go.Proofs.Ytgoogcjkokpicaa.TimQ Go.Proofs.Ytgoogcjkokpicaa.TimU Go.Proofs.Ytgoogcjkokpicaa.TimI Go.Proofs.Ytgoogcjkokpicaa.TimL Go.Proofs.Ytgoogcjkokpicaa.TimW Go.Proofs.Ytgoogcjkokpicaa.TimO Go.Proofs.Ytgoogcjkokpicaa.TimP Go.Proofs.Ytgoogcjkokpicaa.TimV

set_option maxRecDepth 100000 in
set_option maxHeartbeats 12800000 in
theorem core (A0 : Option Addr) (m cm : Nat) (R : List Ac) (tick : Int) (w : World) (hacts : Acts w A0 m cm R) :
    Calls Try.prog 4 #[.slice A0 m cm, .int .i64 tick] w fun e w' => e = .returned (.bool true) ∧ Below w.heap.size w w' := by
  have HAC := Lib.hid hacts
  have hm64 : m ≤ 9223372036854775807 := by have := hacts.2.1; have := hacts.2.2.1; omega
  have hmm := @run_makeMap Try.prog
  clear hacts
  go_enter Try.func4, Try.ntmps4
  go_wp2_with fail
  refine (wakes_any _).mono ?_
  rintro e w1 ⟨rfl, hb1⟩
  have HB1 := Lib.hid hb1
  clear hb1
  by_cases hm : m ≤ 200
  rotate_left 1
  · go_wp2
    go_ret
    exact ⟨rfl, HB1.out⟩
  go_wp2_with fail
  refine (new_rn w HB1.out).mono ?_
  rintro e w2 ⟨tb, rfl, hr⟩
  obtain ⟨mt, hmt⟩ : ∃ mt, mt = w2.heap.size := ⟨_, rfl⟩
  obtain ⟨w3, hw3⟩ : ∃ w3, w3 = w2.alloc (.map #[] 0) := ⟨_, rfl⟩
  have hb3 : Below w2.heap.size w2 w3 := by rw [hw3]; exact (Below.refl _ _).alloc (Nat.le_refl _) _
  have HT3 := Lib.hid (show Tm w3 mt 0 [] from by rw [hw3, hmt]; exact Tm.made w2)
  have HR3 := Lib.hid (show Rn w w3 tb 0 [] (fun i => i = mt) from hr.more hb3 fun i hi => by have := HT3.out.lt; exact .inr (by omega))
  have hmw : w.heap.size ≤ mt := by have := hr.bel.size; omega
  clear hr hb3
  go_upto_region 7 with (fail)
  rw [← hw3, ← hmt]
  clear hw3 hmt hmm
  go_wp2_with fail
  go_loopw [26] (fun i wr => ∃ (k : Nat) (X : Xs), k ≤ m ∧ i = .int .i64 k ∧ Hid (Rn w wr tb k X (fun i => i = mt)) ∧ Hid (Tm wr mt k X)) (fun i _ => m - (intOf i).toNat)
  case atStart => exact ⟨0, [], Nat.zero_le _, rfl, HR3, HT3⟩
  case round =>
    obtain ⟨k, X, hk, rfl, HR, HT⟩ := hrel
    clear HR3 HT3
    by_cases hlt : k < m
    · obtain ⟨ra, ab0, ao, hra, hrok, rfl, habl, a0, a1, a2⟩ := (HAC.out.below HR.out.bel).at_ hlt
      obtain ⟨p0, p1, p2⟩ := hrok
      have HP1 := Lib.hid p1
      have HP2 := Lib.hid p2
      obtain ⟨ab, hab⟩ : ∃ ab, ab = wr.heap.size := ⟨_, rfl⟩
      obtain ⟨wa, hwa⟩ : ∃ wa, wa = wr.alloc (.cells #[.int .i64 ra.kind, .int .i64 ra.name, .int .i64 ra.tick] 28) := ⟨_, rfl⟩
      have hba : Below wr.heap.size wr wa := by rw [hwa]; exact (Below.refl _ _).alloc (Nat.le_refl _) _
      have HBX := Lib.hid (show Blk wa ab 28 [.int .i64 ra.kind, .int .i64 ra.name, .int .i64 ra.tick] from by rw [hwa, hab]; exact Blk.new wr _ _)
      have HRa := Lib.hid (show Rn w wa tb k X (fun i => i = mt ∨ i = ab) from HR.out.more hba fun i hi => by
        rcases hi with hi | hi
        · exact .inl hi
        · have := HBX.out.lt
          exact .inr (by omega))
      have HTa := Lib.hid (HT.out.below hba)
      have hne : mt ≠ ab := by have := HT.out.lt; omega
      have HUN := Lib.hid HR.out.un
      have b1 := HBX.out.cell (i := 1) rfl
      have b2 := HBX.out.cell (i := 2) rfl
      have hk9 : k < 900 := by omega
      have HS := Lib.hid (set_rn HRa.out hk9 HP1.out HP2.out)
      clear hra p0 p1 p2
      go_upto_region 10 with (fail)
      rw [← hwa, ← hab]
      clear hwa hba hab a0 a1 a2 HR HT
      go_wp2_with fail
      refine HS.out.mono ?_
      rintro e wb ⟨rfl, hr, hkp⟩
      have HRb := Lib.hid hr
      have HTb := Lib.hid (HTa.out.keep hkp fun h => h (.inl rfl))
      have hbx := hkp.blk HBX.out fun h => h (.inr rfl)
      have HBXb := Lib.hid hbx
      clear hr hkp b1 b2 hbx
      have b1 := HBXb.out.cell (i := 1) rfl
      have b2 := HBXb.out.cell (i := 2) rfl
      have hk10 : k < 1000 := by omega
      go_wp2_with (at_mapUpdate; refine wpList_tput rfl _ _ _ rfl HTb.out HUN.out hk10 HP1.out HP2.out rfl rfl rfl ?_; intro wd hT hK; have HTd := Lib.hid hT; have HRd := Lib.hid (show Rn w wd tb (k + 1) (setX X ra.name ra.tick) (fun i => i = mt) from Rn.keep (HRb.out.less fun i hi => .inl hi) hK fun i hi => ⟨hi, by rw [hi]; exact hmw⟩); clear hT hK)
      go_roundw
      case rel => exact ⟨k + 1, setX X ra.name ra.tick, by omega, by go_num, HRd, HTd⟩
      case measure => simp [intOf]; omega
    · obtain rfl : k = m := by omega
      obtain ⟨D, hown, hag⟩ := HT.out
      have HAG := Lib.hid hag
      have HUN := Lib.hid HR.out.un
      have hXl : X.length ≤ 200 := by
        obtain ⟨_, G, h2, _⟩ := HR.out
        have := h2.lenN
        omega
      obtain ⟨r, hr⟩ : ∃ r, r = wr.heap.size := ⟨_, rfl⟩
      go_wp2_with (at_range; refine wpList_range_own _ rfl _ _ rfl 3 3 law Try.underlying47 _ mt k D rfl hown ?_; intro w0 hrg0 hg0 hs0)
      rw [← hr] at hrg0 ⊢
      have hk0 : Keep (fun _ => False) wr w0 := Keep.grown hg0 fun i hi => by cases hi
      have HR0 := Lib.hid (show Rn w w0 tb k X (fun i => i = mt ∨ i = r) from HR.out.more (hk0.below (fun i hi => hi.elim) (Nat.le_refl _)) fun i hi => by
        rcases hi with hi | hi
        · exact .inl hi
        · exact .inr (by omega))
      have hrw : w.heap.size ≤ r := by have := HR.out.bel.size; omega
      have HRG0 := Lib.hid hrg0
      clear hrg0 hg0 hs0 hk0 hown hag hr
      go_frame
      go_loopw [9] (fun v wr => ∃ (left : Lit → Bool) (cnt : Nat), v = .int .i64 (cl X tick (fun y => left (.int .i64 y)) : Nat) ∧ Hid (wr.ranges Try.prog 3 (plainElem Try.prog 3) mt r k D left cnt) ∧ Hid (Rn w wr tb k X (fun i => i = mt ∨ i = r))) (fun _ wr => wr.rangeLeft mt r)
      case atStart =>
        refine ⟨_, _, ?_, HRG0, HR0⟩
        rw [cl_start fun p hp => ?_]
        · rfl
        · rw [HAG.out.has p.1 (HR.out.wf p hp).1]
          exact has_iff.2 ⟨p.2, hp⟩
      case round =>
        obtain ⟨left, cnt, rfl, HRG, HRR⟩ := hrel
        clear HRG0 HR0
        have hcl : cl X tick (fun y => left (.int .i64 y)) ≤ 200 := by
          exact Nat.le_trans (List.length_filter_le _ _) hXl
        obtain ⟨cc, hcc⟩ : ∃ cc, cc = cl X tick (fun y => left (.int .i64 y)) := ⟨_, rfl⟩
        rw [← hcc] at hcl ⊢
        have HCC := Lib.hid hcc
        clear hcc
        go_wp2_with (at_next; refine wpList_next_ranges_ii _ rfl _ rfl 3 3 .i64 .i64 law Try.underlying3 Try.underlying3 mt r k _ _ _ rfl HRG.out ?_ ?_)
        · intro _ hl0
          have HDC := Lib.hid (show cc = dc X tick from HCC.out.trans (cl_end fun (p : Int × Int) _ => hl0 (.int .i64 p.1)))
          have HT4 := Lib.hid (show Tm wr mt k X from ⟨D, HRG.out.owns, HAG.out⟩)
          have HR4 := Lib.hid (HRR.out.less (Z' := fun i => i = mt) fun i hi => .inl hi)
          have HDL := Lib.hid (due_len (t := tick) HUN.out)
          have HD := Lib.hid (due_rn HR4.out tick)
          clear HRG HRR hl0
          go_wp2_with fail
          refine HD.out.mono ?_
          rintro e w5 ⟨A5, n5, c5, rfl, hrd, _, hr5, hkp⟩
          have HT5 := Lib.hid (HT4.out.keep hkp fun h => h rfl)
          have HR5 := Lib.hid hr5
          have HRD := Lib.hid hrd
          obtain rfl : cc = n5 := by
            have h1 := hrd.1
            rw [ints_len] at h1
            have h2 := HDL.out.1
            have h3 := HDC.out
            omega
          clear hrd hr5 hkp HD HT4 HR4
          go_wp2_with fail
          go_loopw [58] (fun i wr => ∃ (j : Nat), j ≤ cc ∧ i = .int .i64 j ∧ wr = w5) (fun i _ => cc - (intOf i).toNat)
          case atStart => exact ⟨0, Nat.zero_le _, rfl, rfl⟩
          case round =>
            obtain ⟨j, hj, rfl, rfl⟩ := hrel
            by_cases hltj : j < cc
            · obtain ⟨L, l1, l2, l3⟩ := due_order (t := tick) HUN.out
              obtain ⟨x, b, o, hx, rfl, _, gx⟩ := Go.Proofs.Ytgoogcjkokpicaa.TimW.ints_at HRD.out hltj
              have hpj : ∀ i y, (dueN X tick)[i]? = some y → ∃ p : Int × Int, L[i]? = some p ∧ p.1 = y := fun i y hy => by
                rw [l1, List.getElem?_map] at hy
                cases hL : L[i]? with
                | none => rw [hL] at hy; cases hy
                | some p => rw [hL] at hy; injection hy with hy; exact ⟨p, hL, hy⟩
              obtain ⟨p, hp, rfl⟩ := hpj j x hx
              obtain ⟨hpX, hpt⟩ := l2 p (List.mem_of_getElem? hp)
              have HAT := Lib.hid (show atX X p.1 = (p.2, true) from at_yes HUN.out hpX)
              have HWX := Lib.hid (HR.out.wf p hpX).1
              have hdt : decide (tick < p.2) = false := by simp; omega
              by_cases h0 : j = 0
              · subst h0
                rw [Nat.add_zero] at gx
                clear hx hp hpX hpt hpj l1 l2 l3
                go_wp2_with (at_lookup; refine wpList_tlook rfl _ _ rfl HT5.out HUN.out HWX.out rfl rfl ?_; rw [HAT.out])
                go_roundw
                case rel => exact ⟨1, by omega, rfl, by first | rfl | trivial⟩
                case measure => simp [intOf]; omega
              · obtain ⟨q, rfl⟩ : ∃ q, j = q + 1 := ⟨j - 1, by omega⟩
                obtain ⟨y, b', o', hy, hA, _, gy⟩ := Go.Proofs.Ytgoogcjkokpicaa.TimW.ints_at HRD.out (k := q) (by omega)
                injection hA with hA
                injection hA with e1 e2
                subst e1 e2
                obtain ⟨p', hp', rfl⟩ := hpj q y hy
                obtain ⟨hpX', hpt'⟩ := l2 p' (List.mem_of_getElem? hp')
                have hle : le p' p ∧ p'.1 ≠ p.1 := by
                  obtain ⟨h1, e1⟩ := List.getElem?_eq_some_iff.1 hp'
                  obtain ⟨h2, e2⟩ := List.getElem?_eq_some_iff.1 hp
                  have := List.pairwise_iff_getElem.1 l3 q (q + 1) h1 h2 (by omega)
                  rw [e1, e2] at this
                  exact this
                have hrun := run_tlook HT5.out HUN.out (HR.out.wf p' hpX').1
                rw [at_yes HUN.out hpX'] at hrun
                have hd1 : decide (p.2 < p'.2) = false := by have := le_tick hle.1; simp; omega
                have hs1 : ((q + 1 : Nat) : Int) - 1 = (q : Nat) := by omega
                by_cases he : p.2 = p'.2
                · have hd2 : (p.2 == p'.2) = true := by simpa using he
                  have hd3 : decide (p.1 ≤ p'.1) = false := by
                    have h1 := hle.1
                    have h2 := hle.2
                    unfold le at h1
                    simp
                    omega
                  clear hx hp hpX hpt hpj l1 l2 l3 hy hp' hpX' hpt' hle he h0
                  go_wp2_with (at_lookup; refine wpList_tlook rfl _ _ rfl HT5.out HUN.out HWX.out rfl rfl ?_; rw [HAT.out])
                  go_roundw
                  case rel => exact ⟨q + 1 + 1, by omega, by go_num, by first | rfl | trivial⟩
                  case measure => simp [intOf]; omega
                · have hd2 : (p.2 == p'.2) = false := by simpa using he
                  clear hx hp hpX hpt hpj l1 l2 l3 hy hp' hpX' hpt' hle he h0
                  go_wp2_with (at_lookup; refine wpList_tlook rfl _ _ rfl HT5.out HUN.out HWX.out rfl rfl ?_; rw [HAT.out])
                  go_roundw
                  case rel => exact ⟨q + 1 + 1, by omega, by go_num, by first | rfl | trivial⟩
                  case measure => simp [intOf]; omega
            · obtain rfl : j = cc := by omega
              have HLN := Lib.hid (len_rn HR5.out)
              have hlen := fun ty => run_tlen HT5.out ty
              have HD2 := Lib.hid (due_rn HR5.out tick)
              obtain ⟨y, hy⟩ : ∃ y, y = (dueL X tick).length := ⟨_, rfl⟩
              have hyl : y ≤ 200 := by have := HDL.out.2; omega
              have hsub : ((y : Int) == (X.length : Int) - (j : Int)) = true := by
                have h1 := HDL.out
                have h2 := HDC.out
                simp
                omega
              have HTW := Lib.hid (due_two (t := tick) HUN.out)
              rw [← hy] at HLN
              clear hy
              go_wp2_with (first
                | (go_at_call 18; refine HLN.out.mono ?_; rintro e w6 ⟨rfl, rfl⟩)
                | (go_at_call 15; refine HD2.out.mono ?_; rintro e w7 ⟨A7, n7, c7, rfl, hrd7, _, hr7, _⟩; have HR7 := Lib.hid hr7; obtain rfl : n7 = 0 := (by have h1 := hrd7.1; rw [HTW.out] at h1; simpa [ints] using h1.symm); clear hrd7 hr7))
              go_ret
              exact ⟨rfl, HR7.out.bel⟩
        · intro x c w1 cnt1 hwx hwc hlx hat hrg1 hlt1 hg1 hs1 hen
          have hmem : (x, c) ∈ X := by
            have h1 : Maps.has D (.int .i64 x) = true := Maps.has_true_of_atKey hat
            rw [HAG.out.has x hwx] at h1
            obtain ⟨s, hs⟩ := has_iff.1 h1
            have h2 := HAG.out.at_ x s hs .nil
            rw [hat] at h2
            injection h2 with h2
            injection h2 with _ h2
            rw [h2]
            exact hs
          have HST := Lib.hid (cl_step (t := tick) (left := fun y => left (.int .i64 y)) (left' := fun y => left (.int .i64 y) && !(Lit.int .i64 y).sameKey (.int .i64 x)) HUN.out hmem hlx (by simp [WideAt.sameKey_self (isK x)]) fun y hy => by
            rw [Maps.sameKey_ne fun h => hy (by injection h)]
            simp)
          have HR1 := Lib.hid (show Rn w w1 tb k X (fun i => i = mt ∨ i = r) from HRR.out.keep (Keep.grown (F := fun i => i = r) hg1 fun i hi => by injection hi with hi; exact hi.symm) fun i hi => ⟨.inr hi, by rw [hi]; exact hrw⟩)
          have HRG1 := Lib.hid hrg1
          have HLT := Lib.hid hlt1
          clear hmem hat hlx hrg1 hlt1 hg1 hs1 hwx hwc
          by_cases hle : c ≤ tick
          · have hd : decide (c ≤ tick) = true := by simpa using hle
            have HST2 := Lib.hid (HST.out.trans (by rw [if_pos hle, ← HCC.out]))
            clear hle
            go_wp2
            go_roundw
            case rel => exact ⟨_, _, by rw [HST2.out]; rfl, HRG1, HR1⟩
            case measure => rw [HRG1.out.left_eq, HRG.out.left_eq]; exact HLT.out
          · have hd : decide (c ≤ tick) = false := by simpa using hle
            have HST2 := Lib.hid (HST.out.trans (by rw [if_neg hle, ← HCC.out]))
            clear hle
            go_wp2
            go_roundw
            case rel => exact ⟨_, _, by rw [HST2.out]; rfl, HRG1, HR1⟩
            case measure => rw [HRG1.out.left_eq, HRG.out.left_eq]; exact HLT.out
theorem hole {H : Type} (enc : TypeId × Value → H) (base : Nat) (v0 : Value) (d0 : DataW H) (p0 : List MemPlace) (a1 : Int) (w : World) (w0 : DataW.Trod enc Try.prog w 0 (fun _ => true) true 22 v0 d0 p0) (o0 : Value.okWide Try.prog w .any base 22 v0) (_ : (Lit.int .i64 a1).wf = true) :
    Calls Try.prog 4 #[v0, .int .i64 a1] w fun e w' => e = .returned (.bool true) ∧ Below w.heap.size w w' := by
  obtain ⟨A, n, c, R, rfl, hr⟩ := open_acts w0 o0
  exact core A n c R a1 w hr
end Go.Proofs.Ytgoogcjkokpicaa.TimerOrderW
