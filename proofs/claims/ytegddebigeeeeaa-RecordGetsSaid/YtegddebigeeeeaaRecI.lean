/- When a stage is right, the sum as it stands behind bytes, and whether bytes are all zeros, by the code. Conditions: numbers of 64 bits; the slice reads as the bytes that are named. -/
import Derived.Test.YtegddebigeeeeaaRecG
import Derived.Test.YtegddebigeeeeaaRecC
import Derived.Test.YtegddebigeeeeaaCrcD
namespace Go.Proofs.Ytegddebigeeeeaa.RecI
open Go.RowKit Go.Proofs.Ytegddebigeeeeaa.Kit Go.Proofs.Ytegddebigeeeeaa.Byt Go.Proofs.Ytegddebigeeeeaa.Mem Go.Proofs.Ytegddebigeeeeaa.RecM Go.Proofs.Ytegddebigeeeeaa.RecA Go.Proofs.Ytegddebigeeeeaa.RecC Go.Proofs.Ytegddebigeeeeaa.RecG

theorem blocks_q {z : Int} (hz : n64 z) {K : Nat} (h : K = blocks z) (w : World) : Calls Try.prog 17 #[.int .i64 z] w fun e w' => e = .returned (.int .i64 (K : Nat)) ∧ w' = w := h ▸ (blocks_any z w hz).mono fun _ _ h => ⟨h.1, h.2.symm⟩
set_option maxRecDepth 100000 in
set_option maxHeartbeats 1600000 in
theorem rights_any (g : Sg) (w : World) (hk : sok g) (b : Bool) (hb : b = true ↔ g.right) : Calls Try.prog 15 #[sval g] w (Yes w b) := by
  obtain ⟨s, z, h⟩ := g
  have HB := Lib.hid (show b = true ↔ (1 ≤ s ∧ s ≤ 65535) ∧ (1 ≤ z ∧ z ≤ 160) ∧ (0 ≤ h ∧ h < 2 ^ blocks z) from hb)
  have hz := hk.z
  clear hb hk
  have HX := Lib.hid (Bx.new w 35 (scells ⟨s, z, h⟩))
  have HF := Lib.hid (show ∀ q : Prop, (b = true → q) → ¬ q → b = false from fun q h hp => by rw [Bool.eq_false_iff]; exact fun hb => hp (h hb))
  show Calls _ _ #[.agg #[.int .i64 s, .int .i64 z, .int .i64 h]] w _
  cases s0 : inn s 1 65535
  · have hbf := Lib.hid (HF.out _ (fun h => (HB.out.1 h).1) (inn_false s0))
    go_enter Try.func15, Try.ntmps15
    go_wp2_with fail
    have W0 := Lib.hid (fun w1 => within_q s0 w1)
    clear s0
    go_quiet ((go_at_call 28; with_reducible exact Calls.quiet_of_same (W0.out _)))
    go_wp2
    go_ret
    exact ⟨by rw [hbf.out]; rfl, below_drewN HX.out.bel _⟩
  · cases s1 : inn z 1 160
    · have hbf := Lib.hid (HF.out _ (fun h => (HB.out.1 h).2.1) (inn_false s1))
      go_enter Try.func15, Try.ntmps15
      go_wp2_with fail
      have W0 := Lib.hid (fun w1 => within_q s0 w1)
      have W1 := Lib.hid (fun w1 => within_q s1 w1)
      clear s0 s1
      go_quiet ((first | (go_at_call 28; with_reducible exact Calls.quiet_of_same (W0.out _)) | (go_at_call 28; with_reducible exact Calls.quiet_of_same (W1.out _))))
      go_wp2
      go_ret
      exact ⟨by rw [hbf.out]; rfl, below_drewN HX.out.bel _⟩
    · have h1 := inn_true s1
      obtain ⟨K, hK⟩ : ∃ K, K = blocks z := ⟨_, rfl⟩
      have hK10 : K ≤ 10 := by rw [hK]; unfold blocks; omega
      have hp : (2 : Int) ^ K ≤ 1024 := by rw [hK]; exact pow_blocks h1.2
      have hp1 : 1 ≤ (2 : Int) ^ K := by
        have h2 : 1 ≤ 2 ^ K := Nat.one_le_two_pow
        have h3 : ((2 ^ K : Nat) : Int) = (2 : Int) ^ K := by simp
        omega
      have HBK := Lib.hid (fun w1 => blocks_q hz hK w1)
      cases s2 : inn h 0 ((2 : Int) ^ K - 1)
      · have hbf := Lib.hid (HF.out _ (fun h => (HB.out.1 h).2.2) (by have := inn_false s2; rw [← hK]; omega))
        have W0 := Lib.hid (fun w1 => within_q s0 w1)
        have W1 := Lib.hid (fun w1 => within_q s1 w1)
        have W2 := Lib.hid (fun w1 => within_q s2 w1)
        clear s0 s1 s2 hK
        go_enter Try.func15, Try.ntmps15
        go_wp2_with fail
        go_quiet ((first | (go_at_call 28; with_reducible exact Calls.quiet_of_same (W0.out _)) | (go_at_call 28; with_reducible exact Calls.quiet_of_same (W1.out _)) | (go_at_call 17; with_reducible exact Calls.quiet_of_same (HBK.out _)) | (go_at_call 28; with_reducible exact Calls.quiet_of_same (W2.out _))))
        go_wp2
        go_ret
        exact ⟨by rw [hbf.out]; rfl, below_drewN HX.out.bel _⟩
      · have hbt := Lib.hid (HB.out.2 ⟨inn_true s0, h1, by have := inn_true s2; rw [← hK]; omega⟩)
        have W0 := Lib.hid (fun w1 => within_q s0 w1)
        have W1 := Lib.hid (fun w1 => within_q s1 w1)
        have W2 := Lib.hid (fun w1 => within_q s2 w1)
        clear s0 s1 s2 hK
        go_enter Try.func15, Try.ntmps15
        go_wp2_with fail
        go_quiet ((first | (go_at_call 28; with_reducible exact Calls.quiet_of_same (W0.out _)) | (go_at_call 28; with_reducible exact Calls.quiet_of_same (W1.out _)) | (go_at_call 17; with_reducible exact Calls.quiet_of_same (HBK.out _)) | (go_at_call 28; with_reducible exact Calls.quiet_of_same (W2.out _))))
        go_wp2
        go_ret
        exact ⟨by rw [hbt.out]; rfl, below_drewN HX.out.bel _⟩

set_option maxRecDepth 100000 in
set_option maxHeartbeats 800000 in
theorem sumOf_any (A : Option Addr) (n c : Nat) (xs : List Nat) (w : World) (hR : Rd w A n c (u8n xs)) (hx : byt xs) :
    Calls Try.prog 38 #[.slice A n c] w (Gives w (s4 xs)) := by
  have HR := Lib.hid hR
  have hlt : CrcM.sm xs < 4294967296 := CrcM.sm_lt xs
  have HS := Lib.hid (fun g w' (hT : CrcC.Tb w' g 256) (h : Rd w' A n c (u8n xs)) => CrcD.sum_there g A n c xs w' hT h hx)
  have HD := Lib.hid (show s4 xs = pbn (CrcM.sm xs : Nat) 4 from rfl)
  obtain ⟨y, hy⟩ : ∃ y, y = CrcM.sm xs := ⟨_, rfl⟩
  rw [← hy] at HS hlt HD
  clear hR hy
  go_enter Try.func38, Try.ntmps38
  go_wp2_with (first
   | (go_at_call 49; refine (CrcC.make_any _).mono ?_; rintro e w1 ⟨rfl, hT, hb1, hs1⟩; clear hs1; have HT := Lib.hid hT; clear hT)
   | (go_at_call 50; refine (HS.out _ _ HT.out (HR.out.below hb1)).mono ?_; rintro e w' ⟨rfl, rfl⟩)
   | (go_at_call 37; refine (NumB.put_any none 0 0 [] (y : Nat) 4 _ (Rd.nil _) (by omega)).mono ?_; rintro e w2 ⟨A2, n2, c2, hn2, rfl, hown2, hb2⟩))
  go_ret
  refine ⟨A2, n2, c2, rfl, ?_, hb1.trans (hb2.mono hb1.size)⟩
  rw [HD.out, nl_u8s, pbn_nl]
  exact own_mono (by simpa using hown2) hb1.size

set_option maxRecDepth 100000 in
set_option maxHeartbeats 400000 in
theorem zeros_any (A : Option Addr) (n c : Nat) (xs : List Nat) (w : World) (hR : Rd w A n c (u8n xs)) (b : Bool) (hb : b = true ↔ xs = List.replicate xs.length 0) :
    Calls Try.prog 40 #[.slice A n c] w fun e w' => e = .returned (.bool b) ∧ w = w' := by
  have hn : xs.length = n := Rd.nats hR
  have hcap := hR.cap
  have hle := hR.le
  have HR := Lib.hid hR
  have HB := Lib.hid hb
  have HN := Lib.hid hn
  clear hR hb hn
  go_enter Try.func40, Try.ntmps40
  go_wp2
  go_loop [7] (fun i => ∃ k : Nat, k ≤ n ∧ i = .int .i64 k ∧ Hid (xs.take k = List.replicate k 0)) (fun i => n - (intOf i).toNat)
  case atStart => exact ⟨0, by omega, rfl, Lib.hid (by simp)⟩
  case round =>
    obtain ⟨k, hk, rfl, hz⟩ := hrel
    by_cases hkn : k < n
    · obtain ⟨bb, o, rfl, hc⟩ := Rd.nat HR.out (k := k) (by have := HN.out; omega)
      have HX := Lib.hid (show ∀ h : k < xs.length, xs.take (k + 1) = xs.take k ++ [xs[k]] from fun h => take_snoc h)
      obtain ⟨u, hu⟩ : ∃ u, u = xs[k]'(by have := HN.out; omega) := ⟨_, rfl⟩
      have HU := Lib.hid hu
      rw [← hu] at hc
      clear hu
      by_cases hu0 : u = 0
      · have hd : ((u : Int) != 0) = false := by simp [hu0]
        have HU0 := Lib.hid hu0
        clear hu0
        go_wp2
        go_round
        case rel => exact ⟨k + 1, by omega, by go_num, Lib.hid (by rw [HX.out (by have := HN.out; omega), hz.out, ← HU.out, HU0.out, List.replicate_succ'])⟩
        case measure => simp [intOf]; omega
      · have hd : ((u : Int) != 0) = true := by simp; omega
        have hbf := Lib.hid (show b = false from by
          rw [Bool.eq_false_iff]
          intro h
          have h1 := HB.out.1 h
          refine hu0 ?_
          rw [HU.out]
          have h4 : xs[k]'(by have := HN.out; omega) = (List.replicate xs.length 0)[k]'(by rw [List.length_replicate]; have := HN.out; omega) := by
            have : ∀ (l : List Nat) (hl : k < l.length), xs = l → xs[k]'(by have := HN.out; omega) = l[k] := fun l hl e => by subst e; rfl
            exact this _ _ h1
          rw [h4, List.getElem_replicate])
        clear hu0
        go_wp2
        go_ret
        exact ⟨by rw [hbf.out]; rfl, rfl⟩
    · obtain rfl : k = n := by omega
      have hbt := Lib.hid (HB.out.2 (by have h1 := hz.out; have h2 := HN.out; rw [List.take_of_length_le (by omega)] at h1; rw [h2]; exact h1))
      go_wp2
      go_ret
      exact ⟨by rw [hbt.out]; rfl, rfl⟩
end Go.Proofs.Ytegddebigeeeeaa.RecI
