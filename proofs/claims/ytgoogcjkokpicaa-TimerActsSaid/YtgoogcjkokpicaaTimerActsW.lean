/- The walk of TimerActs. No conditions. -/
import Derived.Test.YtgoogcjkokpicaaTimT
import Derived.Deep.RegionHeld3
namespace Go.Proofs.Ytgoogcjkokpicaa.TimerActsW
open Go.RowKit Go.Proofs.Ytgoogcjkokpicaa.Kit Go.Proofs.Ytgoogcjkokpicaa.Byt Go.Proofs.Ytgoogcjkokpicaa.Mem Go.Proofs.Ytgoogcjkokpicaa.TimM Go.Proofs.Ytgoogcjkokpicaa.TimA Go.Proofs.Ytgoogcjkokpicaa.TimN Go.Proofs.Ytgoogcjkokpicaa.TimQ Go.Proofs.Ytgoogcjkokpicaa.TimI Go.Proofs.Ytgoogcjkokpicaa.TimL Go.Proofs.Ytgoogcjkokpicaa.TimW Go.Proofs.Ytgoogcjkokpicaa.TimO Go.Proofs.Ytgoogcjkokpicaa.TimP Go.Proofs.Ytgoogcjkokpicaa.TimR Go.Proofs.Ytgoogcjkokpicaa.TimS Go.Proofs.Ytgoogcjkokpicaa.TimT

/-- The block of a slice that has something in it. -/
def Zx (A : Option Addr) (n : Nat) (i : Nat) : Prop := 0 < n ∧ ∃ o, A = some ⟨i, o, none⟩
theorem zx_nil (i : Nat) : ¬ Zx none 0 i := fun h => by have := h.1; omega
section
variable {w w' w0 : World} {A : Option Addr} {n c tb N M : Nat} {X : Xs} {Z : Nat → Prop}
theorem zx_own {e : TypeId} {size B : Nat} {xs : List Value} (h : w.ownsRow B e size (.slice A n c) n xs) {i : Nat} (hi : Zx A n i) : B ≤ i ∧ i < w.heap.size := by
  obtain ⟨_, o, rfl⟩ := hi
  exact h.lt i rfl
theorem on_keep (h : On w A n c X) (hk : Keep (fun i => ¬ Z i) w w') (hZ : ∀ i, Zx A n i → Z i) : On w' A n c X := h.keep hk fun hp b o hA hn => hn (hZ b ⟨hp, o, hA⟩)
theorem St.up {B : Nat} {G : Nat → Prop} (h : St B w G tb N X) (hN : N ≤ M) (hM : M ≤ 900) : St B w G tb M X := by
  obtain ⟨F, mb, A, n, c, E, f, h1, h2⟩ := h
  exact ⟨F, mb, A, n, c, E, f, ⟨h1.hp, TimK.Mp.more h1.mp hN, h1.nf, h1.bm, by have := h1.nN; omega, hM, h1.ord, h1.perm, h1.un, h1.yes, h1.no⟩, h2⟩
theorem Rn.up (h : Rn w0 w tb N X Z) (hN : N ≤ M) (hM : M ≤ 900) : Rn w0 w tb M X Z := by
  obtain ⟨h1, G, h2, h3⟩ := h
  exact ⟨h1, G, St.up h2 hN hM, h3⟩
theorem Rn.lenN (h : Rn w0 w tb N X Z) : X.length ≤ N := by obtain ⟨h1, G, h2, h3⟩ := h; exact h2.lenN
end
set_option maxRecDepth 100000 in
set_option maxHeartbeats 12800000 in
theorem core (A0 : Option Addr) (m cm : Nat) (R : List Ac) (w : World) (hacts : Acts w A0 m cm R) :
    Calls Try.prog 3 #[.slice A0 m cm] w fun e w' => e = .returned (.bool true) ∧ Below w.heap.size w w' := by
  have HAC := Lib.hid hacts
  have hm64 : m ≤ 9223372036854775807 := by have := hacts.2.1; have := hacts.2.2.1; omega
  clear hacts
  go_enter Try.func3, Try.ntmps3
  go_wp2_with fail
  refine (wakes_any _).mono ?_
  rintro e w1 ⟨rfl, hb1⟩
  have HB1 := Lib.hid hb1
  clear hb1
  by_cases hm : m ≤ 200
  rotate_left 1
  · go_wp2
    go_ret
    exact ⟨rfl, HB1.out⟩
  go_wp2_with fail
  refine (new_rn w HB1.out).mono ?_
  rintro e w2 ⟨tb, rfl, hr⟩
  have HR2 := Lib.hid hr
  clear hr
  go_wp2_with fail
  go_loopw [4, 26] (fun x i wr => ∃ (k : Nat) (A : Option Addr) (n c : Nat) (X : Xs), k ≤ m ∧ i = .int .i64 k ∧ x = .slice A n c ∧ Hid (Rn w wr tb k X (Zx A n)) ∧ Hid (On wr A n c X)) (fun _ i _ => m - (intOf i).toNat)
  case atStart => exact ⟨0, none, 0, 0, [], Nat.zero_le _, rfl, rfl, Lib.hid (HR2.out.less fun i hi => (zx_nil i hi).elim), Lib.hid (On.nil _)⟩
  case round =>
    obtain ⟨k, A, n, c, X, hk, rfl, rfl, HR, HO⟩ := hrel
    clear HR2
    by_cases hlt : k < m
    · obtain ⟨ra, ab0, ao, hra, hrok, rfl, habl, a0, a1, a2⟩ := (HAC.out.below HR.out.bel).at_ hlt
      obtain ⟨p0, p1, p2⟩ := hrok
      obtain ⟨ak, an, at'⟩ := ra
      dsimp only at a0 a1 a2 p0 p1 p2
      have HP1 := Lib.hid p1
      have HP2 := Lib.hid p2
      have hnk : n ≤ k := by have h1 := Rn.lenN HR.out; have h2 := HO.out.1; omega
      obtain ⟨wa, hwa⟩ : ∃ wa, wa = wr.alloc (.cells #[.int .i64 ak, .int .i64 an, .int .i64 at'] 28) := ⟨_, rfl⟩
      have hba : Below wr.heap.size wr wa := by rw [hwa]; exact (Below.refl _ _).alloc (Nat.le_refl _) _
      obtain ⟨ab, hab⟩ : ∃ ab, ab = wr.heap.size := ⟨_, rfl⟩
      have HBX := Lib.hid (show Blk wa ab 28 [.int .i64 ak, .int .i64 an, .int .i64 at'] from by rw [hwa, hab]; exact Blk.new wr _ _)
      have HRa := Lib.hid (show Rn w wa tb k X (fun i => Zx A n i ∨ i = ab) from HR.out.more hba fun i hi => by
        rcases hi with hi | hi
        · exact .inl hi
        · have := HBX.out.lt
          exact .inr (by omega))
      have HOa := Lib.hid (HO.out.below hba)
      have b0 := HBX.out.cell (i := 0) rfl
      have b1 := HBX.out.cell (i := 1) rfl
      have b2 := HBX.out.cell (i := 2) rfl
      go_upto_region 11 with (fail)
      rw [← hwa]
      rw [← hab]
      clear hwa hba a0 a1 a2 hra p0 p1 p2 hab HR HO habl
      by_cases hk0 : ak = 0
      focus
        have q0 : (ak == 0) = true := by simpa using hk0
        have q1 : (ak == 1) = false := by simp; omega
        have q2 : (ak == 2) = false := by simp; omega
        have HKI := Lib.hid (show ak ≠ 1 from by omega)
        clear hk0
        go_wp2_with fail
        refine (set_rn HRa.out (by omega) HP1.out HP2.out).mono ?_
        rintro e wb ⟨rfl, hr, hkp⟩
        have HRb := Lib.hid hr
        have HOb := Lib.hid (on_keep HOa.out hkp fun i hi => .inl hi)
        have HBXb := Lib.hid (hkp.blk HBX.out fun h => h (.inr rfl))
        clear hr hkp b0 b1 b2 HRa HOa HBX
        have b1 := HBXb.out.cell (i := 1) rfl
        have b2 := HBXb.out.cell (i := 2) rfl
        go_wp2_with fail
        refine (rset_any HOb.out (by omega) an at').mono ?_
        rintro e wz ⟨A1, n1, c1, rfl, ho, hb⟩
        obtain ⟨X1, hX1⟩ : ∃ X1, X1 = setX X an at' := ⟨_, rfl⟩
        rw [← hX1] at HRb ho
        have HRz := Lib.hid (show Rn w wz tb (k + 1) X1 (Zx A1 n1) from HRb.out.more hb fun i hi => .inr (zx_own ho hi))
        have HOz := Lib.hid (show On wz A1 n1 c1 X1 from On.own ho)
        have HAz := Lib.hid (HBXb.out.below hb)
        have HKz := Lib.hid (show ak = 1 → (atX X1 an).2 = false from fun h => absurd h HKI.out)
        clear ho hb b1 b2 HRb HOb HBXb HKI hX1
        go_upto_region 24 with (fail)
      rotate_left 1
      by_cases hk1 : ak = 1
      focus
        have q0 : (ak == 0) = false := by simpa using hk0
        have q1 : (ak == 1) = true := by simpa using hk1
        have q2 : (ak == 2) = false := by simp; omega
        clear hk0 hk1
        go_wp2_with fail
        refine (rstop_any HOa.out (by omega) an).mono ?_
        rintro e wb ⟨A1, n1, c1, rfl, ho, hb⟩
        obtain ⟨X1, hX1⟩ : ∃ X1, X1 = stopX X an := ⟨_, rfl⟩
        have HLL := Lib.hid (show n1 < n ↔ hasX X an = true from by
          have h1 := (stop_len (X := X) (k := an))
          have h2 := ho.1
          rw [pcs_len, ← hX1] at h2
          rw [← hX1] at h1
          have h3 := HOa.out.1
          rw [← h1]
          omega)
        have HNO := Lib.hid (show (atX X1 an).2 = false from by
          rw [at_no fun t ht => by rw [hX1] at ht; exact (mem_stop.1 ht).2 rfl])
        rw [← hX1] at ho
        have HRb := Lib.hid (show Rn w wb tb k X (fun i => Zx A1 n1 i ∨ i = ab) from HRa.out.more hb fun i hi => by
          rcases hi with hi | hi
          · exact .inr (zx_own ho hi)
          · exact .inl (.inr hi))
        have HOb := Lib.hid (show On wb A1 n1 c1 X1 from On.own ho)
        have HBXb := Lib.hid (HBX.out.below hb)
        clear ho hb b0 b1 b2 HRa HBX HOa
        have b1 := HBXb.out.cell (i := 1) rfl
        have HST := Lib.hid (stop_rn HRb.out HP1.out)
        rw [← hX1] at HST
        clear hX1
        by_cases hh : hasX X an = true
        focus
          rw [hh] at HST HLL
          have hlen : n1 < n := HLL.out.2 rfl
          have hlen2 : decide ((n1 : Int) < (n : Int)) = true := by simpa using hlen
          have hlen3 : decide (n1 < n) = true := by simpa using hlen
          clear hh HLL
          go_wp2_with fail
          refine HST.out.mono ?_
          rintro e wz ⟨rfl, hr, hkp⟩
          have HRz := Lib.hid (show Rn w wz tb (k + 1) X1 (Zx A1 n1) from Rn.up (hr.less fun i hi => .inl hi) (by omega) (by omega))
          have HOz := Lib.hid (on_keep HOb.out hkp fun i hi => .inl hi)
          have HAz := Lib.hid (hkp.blk HBXb.out fun h => h (.inr rfl))
          have HKz := Lib.hid (show ak = 1 → (atX X1 an).2 = false from fun _ => HNO.out)
          clear hr hkp b1 HRb HOb HBXb HST HNO hlen
          go_upto_region 24 with (fail)
          clear hlen2 hlen3
        rotate_left 1
        focus
          have hh : hasX X an = false := by simpa using hh
          rw [hh] at HST HLL
          have hlen : ¬ n1 < n := fun h => by have := HLL.out.1 h; cases this
          have hlen2 : decide ((n1 : Int) < (n : Int)) = false := by simpa using hlen
          have hlen3 : decide (n1 < n) = false := by simpa using hlen
          clear hh HLL
          go_wp2_with fail
          refine HST.out.mono ?_
          rintro e wz ⟨rfl, hr, hkp⟩
          have HRz := Lib.hid (show Rn w wz tb (k + 1) X1 (Zx A1 n1) from Rn.up (hr.less fun i hi => .inl hi) (by omega) (by omega))
          have HOz := Lib.hid (on_keep HOb.out hkp fun i hi => .inl hi)
          have HAz := Lib.hid (hkp.blk HBXb.out fun h => h (.inr rfl))
          have HKz := Lib.hid (show ak = 1 → (atX X1 an).2 = false from fun _ => HNO.out)
          clear hr hkp b1 HRb HOb HBXb HST HNO hlen
          go_upto_region 24 with (fail)
          clear hlen2 hlen3
      rotate_left 2
      by_cases hk2 : ak = 2
      focus
        have q0 : (ak == 0) = false := by simpa using hk0
        have q1 : (ak == 1) = false := by simpa using hk1
        have q2 : (ak == 2) = true := by simpa using hk2
        have HKI := Lib.hid hk1
        clear hk0 hk1 hk2
        go_wp2_with fail
        refine (rdue_any HOa.out (by omega) at').mono ?_
        rintro e wb ⟨A3, n3, c3, A1, n1, c1, rfl, hrd, hon, hbl2, hbl3, hb⟩
        obtain ⟨gb, hgb⟩ : ∃ gb, gb = wb.heap.size := ⟨_, rfl⟩
        obtain ⟨wc, hwc⟩ : ∃ wc, wc = wb.alloc (.cells #[.slice A3 n3 c3, .slice A1 n1 c1] 35) := ⟨_, rfl⟩
        have hbc : Below wb.heap.size wb wc := by rw [hwc]; exact (Below.refl _ _).alloc (Nat.le_refl _) _
        have HGB := Lib.hid (show Blk wc gb 35 [.slice A3 n3 c3, .slice A1 n1 c1] from by rw [hwc, hgb]; exact Blk.new wb _ _)
        have hab := HBX.out.lt
        have HRc := Lib.hid (show Rn w wc tb k X (fun i => Zx A1 n1 i ∨ Zx A3 n3 i ∨ i = ab ∨ i = gb) from HRa.out.more (hb.trans (hbc.mono hb.size)) fun i hi => by
          have h1 := hb.size
          have h2 := hbc.size
          rcases hi with ⟨hp, o, hA⟩ | ⟨hp, o, hA⟩ | hi | hi
          · obtain ⟨b', o', hA', hbs, _⟩ := hon.2.2.2 hp
            rw [hA] at hA'
            injection hA' with hA'
            injection hA' with e _
            rcases hbl2 hp i o hA with ⟨o', ho'⟩ | h3
            · refine .inl (.inl ⟨?_, o', ho'⟩)
              have h4 := hon.1
              have h5 : 0 < (dueL X at').length := by omega
              obtain ⟨p, hp'⟩ := List.exists_mem_of_length_pos h5
              have h6 := ((due_left HRa.out.un p).1 hp').1
              have h7 := List.length_pos_of_mem h6
              have h8 := HOa.out.1
              omega
            · exact .inr ⟨h3, by omega⟩
          · obtain ⟨b', o', hA', hbs, _⟩ := hrd.2.2.2 hp
            rw [hA] at hA'
            injection hA' with hA'
            injection hA' with e _
            exact .inr ⟨hbl3 i o hA, by omega⟩
          · exact .inl (.inr hi)
          · have := HGB.out.lt
            exact .inr ⟨by omega, by omega⟩)
        have HOc := Lib.hid (hon.below hbc)
        have HNc := Lib.hid (hrd.below hbc)
        have HBXc := Lib.hid ((HBX.out.below hb).below hbc)
        go_upto_region 21 with (fail)
        rw [← hwc, ← hgb]
        clear hwc hbc hgb hrd hon hbl2 hbl3 hb hab b0 b1 b2 HRa HOa HBX
        have y2 := HBXc.out.cell (i := 2) rfl
        have g0 := HGB.out.cell (i := 0) rfl
        have HDU := Lib.hid (fun ww (hb : Below wc.heap.size wc ww) => due_rn (HRc.out.below hb) at')
        go_region_held3 (fun w' => w'.cell? ⟨ab, 2, none⟩ = some (.int .i64 at') ∧ w'.cell? ⟨gb, 0, none⟩ = some (.slice A3 n3 c3))
          (first | go_keep | exact HSe.out)
          (first
          | (go_at_call 15; refine (HDU.out _ (Below.refl _ wc).drew).mono ?_; rintro e we ⟨A5, n5, c5, rfl, hr1, _, hr2, hkp⟩; have HR5 := Lib.hid hr1; have HRe := Lib.hid hr2; have HNe := Lib.hid (hkp.rd (show Rd wc.drew A3 n3 c3 (ints (dueN X at')) from HNc.out) fun hp b o hA hn => hn (.inr (.inl ⟨hp, o, hA⟩))); have HGe := Lib.hid (hkp.blk (show Blk wc.drew gb _ _ from HGB.out) fun hn => hn (.inr (.inr (.inr rfl)))); have HBXe := Lib.hid (hkp.blk (show Blk wc.drew ab _ _ from HBXc.out) fun hn => hn (.inr (.inr (.inl rfl)))); have HOe := Lib.hid (on_keep (show On wc.drew A1 n1 c1 (dueL X at') from HOc.out) hkp fun i hi => .inl hi); have HSe := Lib.hid (show we.cell? ⟨ab, 2, none⟩ = some (.int .i64 at') ∧ we.cell? ⟨gb, 0, none⟩ = some (.slice A3 n3 c3) from ⟨HBXe.out.cell (i := 2) rfl, HGe.out.cell (i := 0) rfl⟩); clear hr1 hr2 hkp)
          | (go_at_call 14; refine (same_ints _ _ _ _ _ _ (dueN X at') _ HR5.out HNe.out).mono ?_; rintro e wf ⟨rfl, nq, rfl⟩))
        all_goals
          have g1 := HGe.out.cell (i := 1) rfl
          have HRz := Lib.hid (show Rn w (we.drewN nq) tb (k + 1) (dueL X at') (Zx A1 n1) from (Rn.up (HRe.out.less fun i hi => .inl hi) (by omega) (by omega)).drewN nq)
          have HOz := Lib.hid (HOe.out.below (below_drewN (Below.refl _ _) nq))
          have HAz := Lib.hid (HBXe.out.below (below_drewN (Below.refl _ _) nq))
          have HKz := Lib.hid (show ak = 1 → (atX (dueL X at') an).2 = false from fun h => absurd h HKI.out)
          clear y2 g0 HRc HOc HNc HBXc HGB HDU HR5 HRe HNe HGe HBXe HOe HSe HKI
          go_upto_region 24 with (fail)
          clear g1
          generalize we.drewN nq = wz at HRz HOz HAz ⊢
          generalize dueL X at' = X1 at HRz HOz HKz ⊢
      rotate_left 1
      focus
        have q0 : (ak == 0) = false := by simpa using hk0
        have q1 : (ak == 1) = false := by simpa using hk1
        have q2 : (ak == 2) = false := by simpa using hk2
        have HKz := Lib.hid (show ak = 1 → (atX X an).2 = false from fun h => absurd h hk1)
        clear hk0 hk1 hk2
        have HRz := Lib.hid (show Rn w wa tb (k + 1) X (Zx A n) from Rn.up (HRa.out.less fun i hi => .inl hi) (by omega) (by omega))
        have HOz := HOa
        have HAz := HBX
        clear HRa HOa HBX b0 b1 b2
        go_upto_region 24 with (fail)
        have hn1 : n ≤ k := hnk
        generalize X = X1 at HRz HOz HKz ⊢
        generalize A = A1 at HRz HOz ⊢
        generalize n = n1 at HRz HOz hn1 ⊢
        generalize c = c1 at HOz ⊢
        generalize wa = wz at HRz HOz HAz ⊢
      all_goals
        have z0 := HAz.out.cell (i := 0) rfl
        have z1 := HAz.out.cell (i := 1) rfl
        have HNX := Lib.hid (next_rn HRz.out)
        have HFI := Lib.hid (first_any HOz.out)
        have HL := Lib.hid (len_rn HRz.out)
        rw [HOz.out.1] at HL
        clear z0 z1
        cases hmx : minX X1 with
        | none =>
          have hnx : nextX X1 = (0, false) := by unfold nextX; rw [hmx]
          rw [hnx] at HNX
          have HMX := Lib.hid hmx
          clear hnx hmx
          go_wp2_with fail
          refine HNX.out.mono ?_
          rintro e wy ⟨rfl, rfl⟩
          go_wp2_with fail
          refine HFI.out.mono ?_
          rintro e wx ⟨b, rfl, hfs, q, rfl⟩
          obtain rfl : b = -1 := by
            rcases hfs with ⟨_, h⟩ | ⟨j, p, _, _, h⟩
            · exact h
            · rw [HMX.out] at h; cases h
          have HRy := Lib.hid (HRz.out.drewN q)
          have HOy := Lib.hid (HOz.out.below (below_drewN (Below.refl _ _) q))
          have HAy := Lib.hid (HAz.out.below (below_drewN (Below.refl _ _) q))
          have HLy := Lib.hid (len_rn HRy.out)
          rw [HOz.out.1] at HLy
          clear hfs HNX HFI HL HRz HOz HAz
          go_wp2_with fail
          refine HLy.out.mono ?_
          rintro e wy ⟨rfl, rfl⟩
          go_wp2_with fail
          go_loopw [117] (fun i wr => ∃ (j : Nat), j ≤ n1 ∧ i = .int .i64 j ∧ Hid (Rn w wr tb (k + 1) X1 (Zx A1 n1)) ∧ Hid (On wr A1 n1 c1 X1) ∧ Hid (Blk wr ab 28 [.int .i64 ak, .int .i64 an, .int .i64 at'])) (fun i _ => n1 - (intOf i).toNat)
          case atStart => exact ⟨0, Nat.zero_le _, rfl, HRy, HOy, HAy⟩
          case round =>
            obtain ⟨j2, hj2, rfl, HR3, HO3, HA3⟩ := hrel
            have hn64 : n1 ≤ 9223372036854775807 := by have := HO3.out.2.1; have := HO3.out.2.2.1; omega
            clear HRy HOy HAy
            by_cases hlt2 : j2 < n1
            · obtain ⟨p2, bx2, ox2, hp2, hA2, _, x1, x2⟩ := HO3.out.at_ hlt2
              have HAT := Lib.hid (show atX X1 p2.1 = (p2.2, true) from at_yes HR3.out.un (List.mem_of_getElem? hp2))
              have HW := Lib.hid (HR3.out.wf p2 (List.mem_of_getElem? hp2)).1
              have hAA := HO3.out.2.2.2
              obtain ⟨wo, hwo⟩ : ∃ wo, wo = wr.alloc (.cells #[.int .i64 p2.1, .int .i64 p2.2] 43) := ⟨_, rfl⟩
              have hbo : Below wr.heap.size wr wo := by rw [hwo]; exact (Below.refl _ _).alloc (Nat.le_refl _) _
              have HBo := Lib.hid (show Blk wo wr.heap.size 43 [.int .i64 p2.1, .int .i64 p2.2] from by rw [hwo]; exact Blk.new wr _ _)
              have HRo := Lib.hid (HR3.out.below hbo)
              have HOo := Lib.hid (HO3.out.below hbo)
              have HAo := Lib.hid (HA3.out.below hbo)
              have HATC := Lib.hid (at_rn HRo.out HW.out)
              rw [HAT.out] at HATC
              have o0 := HBo.out.cell (i := 0) rfl
              have o1 := HBo.out.cell (i := 1) rfl
              clear hp2 hAA
              subst hA2
              go_upto_region 33 with (fail)
              rw [← hwo]
              clear hwo hbo x1 x2
              go_wp2_with fail
              refine HATC.out.mono ?_
              rintro e wo2 ⟨rfl, rfl⟩
              go_wp2_with fail
              go_roundw
              case rel => exact ⟨j2 + 1, by omega, by go_num, HRo, HOo, HAo⟩
              case measure => simp [intOf]; omega
            · obtain rfl : j2 = n1 := by omega
              have z0 := HA3.out.cell (i := 0) rfl
              have z1 := HA3.out.cell (i := 1) rfl
              obtain ⟨⟨v1, v2⟩, hv⟩ : ∃ v, v = atX X1 an := ⟨_, rfl⟩
              have HAT := Lib.hid (at_rn HR3.out HP1.out)
              have HKY := HKz
              rw [← hv] at HAT HKY
              clear hv
              cases v2 with
              | false =>
                go_wp2_with fail
                refine HAT.out.mono ?_
                rintro e wo2 ⟨rfl, rfl⟩
                go_wp2_with fail
                go_roundw
                case rel => exact ⟨k + 1, A1, j2, c1, X1, by omega, by go_num, rfl, HR3, HO3⟩
                case measure => simp [intOf]; omega
              | true =>
                have hk1 : ak ≠ 1 := fun h => by have := HKY.out h; cases this
                first
                  | exact absurd (by simpa using q1) hk1
                  | (have q1' : (ak == 1) = false := by simpa using hk1
                     clear hk1
                     go_wp2_with fail
                     refine HAT.out.mono ?_
                     rintro e wo2 ⟨rfl, rfl⟩
                     go_wp2_with fail
                     go_roundw
                     case rel => exact ⟨k + 1, A1, j2, c1, X1, by omega, by go_num, rfl, HR3, HO3⟩
                     case measure => simp [intOf]; omega)
        | some p =>
          have hnx : nextX X1 = (p.2, true) := by unfold nextX; rw [hmx]
          rw [hnx] at HNX
          have HMX := Lib.hid hmx
          clear hnx hmx
          go_wp2_with fail
          refine HNX.out.mono ?_
          rintro e wy ⟨rfl, rfl⟩
          go_wp2_with fail
          refine HFI.out.mono ?_
          rintro e wx ⟨b, rfl, hfs, q, rfl⟩
          have HRy := Lib.hid (HRz.out.drewN q)
          have HOy := Lib.hid (HOz.out.below (below_drewN (Below.refl _ _) q))
          have HAy := Lib.hid (HAz.out.below (below_drewN (Below.refl _ _) q))
          have HLy := Lib.hid (len_rn HRy.out)
          rw [HOz.out.1] at HLy
          obtain ⟨j, rfl, hj⟩ : ∃ j : Nat, b = (j : Nat) ∧ X1[j]? = some p := by
            rcases hfs with ⟨h, _⟩ | ⟨j, p', h1, h2, h3⟩
            · rw [HMX.out] at h; cases h
            · rw [HMX.out] at h3; injection h3 with h3; subst h3; exact ⟨j, h1, h2⟩
          have hjn : j < n1 := by have := (List.getElem?_eq_some_iff.1 hj).1; rw [HOy.out.1] at this; exact this
          obtain ⟨p', bx, ox, hp', hA1, _, x1, x2⟩ := HOy.out.at_ hjn
          obtain rfl : p = p' := by rw [hj] at hp'; injection hp'
          subst hA1
          clear hfs hp' hj HNX HFI HL HRz HOz HAz
          go_wp2_with fail
          refine HLy.out.mono ?_
          rintro e wy ⟨rfl, rfl⟩
          clear x1 x2
          obtain ⟨A1, hA1⟩ : ∃ A1, A1 = some (⟨bx, ox, none⟩ : Addr) := ⟨_, rfl⟩
          rw [← hA1] at HRy HOy ⊢
          clear hA1
          go_wp2_with fail
          go_loopw [117] (fun i wr => ∃ (j : Nat), j ≤ n1 ∧ i = .int .i64 j ∧ Hid (Rn w wr tb (k + 1) X1 (Zx A1 n1)) ∧ Hid (On wr A1 n1 c1 X1) ∧ Hid (Blk wr ab 28 [.int .i64 ak, .int .i64 an, .int .i64 at'])) (fun i _ => n1 - (intOf i).toNat)
          case atStart => exact ⟨0, Nat.zero_le _, rfl, HRy, HOy, HAy⟩
          case round =>
            obtain ⟨j2, hj2, rfl, HR3, HO3, HA3⟩ := hrel
            have hn64 : n1 ≤ 9223372036854775807 := by have := HO3.out.2.1; have := HO3.out.2.2.1; omega
            clear HRy HOy HAy
            by_cases hlt2 : j2 < n1
            · obtain ⟨p2, bx2, ox2, hp2, hA2, _, x1, x2⟩ := HO3.out.at_ hlt2
              have HAT := Lib.hid (show atX X1 p2.1 = (p2.2, true) from at_yes HR3.out.un (List.mem_of_getElem? hp2))
              have HW := Lib.hid (HR3.out.wf p2 (List.mem_of_getElem? hp2)).1
              have hAA := HO3.out.2.2.2
              obtain ⟨wo, hwo⟩ : ∃ wo, wo = wr.alloc (.cells #[.int .i64 p2.1, .int .i64 p2.2] 43) := ⟨_, rfl⟩
              have hbo : Below wr.heap.size wr wo := by rw [hwo]; exact (Below.refl _ _).alloc (Nat.le_refl _) _
              have HBo := Lib.hid (show Blk wo wr.heap.size 43 [.int .i64 p2.1, .int .i64 p2.2] from by rw [hwo]; exact Blk.new wr _ _)
              have HRo := Lib.hid (HR3.out.below hbo)
              have HOo := Lib.hid (HO3.out.below hbo)
              have HAo := Lib.hid (HA3.out.below hbo)
              have HATC := Lib.hid (at_rn HRo.out HW.out)
              rw [HAT.out] at HATC
              have o0 := HBo.out.cell (i := 0) rfl
              have o1 := HBo.out.cell (i := 1) rfl
              clear hp2 hAA
              subst hA2
              go_upto_region 33 with (fail)
              rw [← hwo]
              clear hwo hbo x1 x2
              go_wp2_with fail
              refine HATC.out.mono ?_
              rintro e wo2 ⟨rfl, rfl⟩
              go_wp2_with fail
              go_roundw
              case rel => exact ⟨j2 + 1, by omega, by go_num, HRo, HOo, HAo⟩
              case measure => simp [intOf]; omega
            · obtain rfl : j2 = n1 := by omega
              have z0 := HA3.out.cell (i := 0) rfl
              have z1 := HA3.out.cell (i := 1) rfl
              obtain ⟨⟨v1, v2⟩, hv⟩ : ∃ v, v = atX X1 an := ⟨_, rfl⟩
              have HAT := Lib.hid (at_rn HR3.out HP1.out)
              have HKY := HKz
              rw [← hv] at HAT HKY
              clear hv
              cases v2 with
              | false =>
                go_wp2_with fail
                refine HAT.out.mono ?_
                rintro e wo2 ⟨rfl, rfl⟩
                go_wp2_with fail
                go_roundw
                case rel => exact ⟨k + 1, A1, j2, c1, X1, by omega, by go_num, rfl, HR3, HO3⟩
                case measure => simp [intOf]; omega
              | true =>
                have hk1 : ak ≠ 1 := fun h => by have := HKY.out h; cases this
                first
                  | exact absurd (by simpa using q1) hk1
                  | (have q1' : (ak == 1) = false := by simpa using hk1
                     clear hk1
                     go_wp2_with fail
                     refine HAT.out.mono ?_
                     rintro e wo2 ⟨rfl, rfl⟩
                     go_wp2_with fail
                     go_roundw
                     case rel => exact ⟨k + 1, A1, j2, c1, X1, by omega, by go_num, rfl, HR3, HO3⟩
                     case measure => simp [intOf]; omega)
    · go_wp2
      go_ret
      exact ⟨rfl, HR.out.bel⟩
theorem hole {H : Type} (enc : TypeId × Value → H) (base : Nat) (v0 : Value) (d0 : DataW H) (p0 : List MemPlace) (w : World) (w0 : DataW.Trod enc Try.prog w 0 (fun _ => true) true 22 v0 d0 p0) (o0 : Value.okWide Try.prog w .any base 22 v0) :
    Calls Try.prog 3 #[v0] w fun e w' => e = .returned (.bool true) ∧ Below w.heap.size w w' := by
  obtain ⟨A, n, c, R, rfl, hr⟩ := open_acts w0 o0
  exact core A n c R w hr
end Go.Proofs.Ytgoogcjkokpicaa.TimerActsW
