/- The walk of BitsJoin. No conditions. -/
import Derived.Test.YtfibhjkjaagheaaBitN
import Derived.Test.YtfibhjkjaagheaaBitR
import Derived.Test.YtfibhjkjaagheaaByt
namespace Go.Proofs.Ytfibhjkjaagheaa.BitsJoinW
open Go.RowKit Go.Proofs.Ytfibhjkjaagheaa.Kit Go.Proofs.Ytfibhjkjaagheaa.Byt Go.Proofs.Ytfibhjkjaagheaa.Mem Go.Proofs.Ytfibhjkjaagheaa.BitM Go.Proofs.Ytfibhjkjaagheaa.BitA Go.Proofs.Ytfibhjkjaagheaa.BitB Go.Proofs.Ytfibhjkjaagheaa.BitC Go.Proofs.Ytfibhjkjaagheaa.BitN Go.Proofs.Ytfibhjkjaagheaa.BitR

/-- The blocks that a list of bytes names. -/
def bl (xs : List Nat) : List Int := xs.map fun x => ((x % 16 : Nat) : Int)
theorem bl_len (xs : List Nat) : (bl xs).length = xs.length := by simp [bl]
theorem bl_at (xs : List Nat) {k : Nat} (h : k < xs.length) : (bl xs).getD k 0 = ((xs[k] % 16 : Nat) : Int) := by
  simp [bl, List.getD_eq_getElem?_getD, h]
/-- In any order it is one set. -/
theorem join (xs : List Nat) : fw 0 (bl xs) = fw 0 (bl xs.reverse) := by
  refine small_ext (fw_small zero_small) (fw_small zero_small) fun k hk => ?_
  rw [hb_fw _ _ hk, hb_fw _ _ hk]
  congr 2
  simp [bl]
theorem small64 {s : Int} (h : small s) : n64 s := ⟨by have := h.1; omega, by have := h.2; omega⟩
set_option maxRecDepth 100000 in
set_option maxHeartbeats 3200000 in
theorem core (A : Option Addr) (n c : Nat) (xs : List Nat) (y : Nat) (w : World) (hR : Rd w A n c (u8n xs)) (hx : ∀ u ∈ xs, u < 256) (hy : y < 256) : Calls Try.prog 6 #[.slice A n c, .int .u8 (y : Nat)] w fun e w' => e = .returned (.bool true) ∧ Below w.heap.size w w' := by
  have hn : xs.length = n := Rd.nats hR
  have hcap := hR.cap
  have hle := hR.le
  have HR := Lib.hid hR
  by_cases h50 : 50 < n
  · clear hn
    go_enter Try.func6, Try.ntmps6
    go_wp2_with (go_at_call 7; refine (wakes_any _).mono ?_; rintro e w1 ⟨rfl, hb1⟩; have HL1 := Lib.hid hb1; clear hb1)
    go_ret
    exact ⟨rfl, HL1.out⟩
  · have h50' : ¬ (50 : Int) < (n : Int) := by omega
    have HX := Lib.hid hx
    have HN := Lib.hid hn
    have HJ := Lib.hid (join xs)
    have hk17 : ((y : Int)).tmod 17 = ((y % 17 : Nat) : Int) := by rw [Int.tmod_eq_emod_of_nonneg (by omega)]; omega
    obtain ⟨k, hk⟩ : ∃ k, k = y % 17 := ⟨_, rfl⟩
    have hk16 : k ≤ 16 := by omega
    rw [← hk] at hk17
    clear hk hx hn hR
    go_enter Try.func6, Try.ntmps6
    go_wp2_with (go_at_call 7; refine (wakes_any _).mono ?_; rintro e w1 ⟨rfl, hb1⟩; have HL1 := Lib.hid hb1; clear hb1)
    go_loopw [6, 7, 22] (fun a' b' j' wr => ∃ (j : Nat) (a b : Int), j ≤ n ∧ a' = .int .i64 a ∧ b' = .int .i64 b ∧ j' = .int .i64 j ∧ Hid (a = fw 0 ((bl xs).take j)) ∧ Hid (b = fw 0 ((bl xs.reverse).take j)) ∧ Hid (Below w.heap.size w wr)) (fun _ _ j' _ => n - (intOf j').toNat)
    case atStart => exact ⟨0, 0, 0, by omega, rfl, rfl, rfl, Lib.hid (by simp [fw]), Lib.hid (by simp [fw]), HL1⟩
    case round =>
      clear HL1
      obtain ⟨j, a, b, hj, rfl, rfl, rfl, ha, hb, HL⟩ := hrel
      by_cases hlt : j < n
      · obtain ⟨r, hr⟩ : ∃ r : Nat, r = n - 1 - j := ⟨_, rfl⟩
        have hrn : r < n := by omega
        have hri : (n : Int) - 1 - (j : Int) = (r : Int) := by omega
        have hlen := HN.out
        obtain ⟨B, o, rfl, hc⟩ := Rd.nat (HR.out.below HL.out) (k := j) (by omega)
        obtain ⟨B', o', hBo, hc'⟩ := Rd.nat (HR.out.below HL.out) (k := r) (by omega)
        simp only [Option.some.injEq, Addr.mk.injEq, and_true] at hBo
        obtain ⟨rfl, rfl⟩ := hBo
        have hxj := HX.out xs[j] (List.getElem_mem _)
        have hxr := HX.out xs[r] (List.getElem_mem _)
        have hna := fw_next 0 (bl xs) (j := j) (by rw [bl_len]; omega)
        rw [← ha.out, bl_at xs (by omega)] at hna
        have hnb := fw_next 0 (bl xs.reverse) (j := j) (by rw [bl_len, List.length_reverse]; omega)
        rw [← hb.out, bl_at xs.reverse (by rw [List.length_reverse]; omega)] at hnb
        have hrev : xs.reverse[j]'(by rw [List.length_reverse]; omega) = xs[r] := by
          rw [List.getElem_reverse]
          congr 1
          omega
        rw [hrev] at hnb
        have hsa : small a := by rw [ha.out]; exact fw_small zero_small
        have hsb : small b := by rw [hb.out]; exact fw_small zero_small
        obtain ⟨x, hx⟩ : ∃ x, x = xs[j] := ⟨_, rfl⟩
        obtain ⟨z, hz⟩ : ∃ z, z = xs[r] := ⟨_, rfl⟩
        rw [← hx] at hna hc hxj
        rw [← hz] at hnb hc' hxr
        have hx16 : ((x : Int)).tmod 16 = ((x % 16 : Nat) : Int) := by rw [Int.tmod_eq_emod_of_nonneg (by omega)]; omega
        have hz16 : ((z : Int)).tmod 16 = ((z % 16 : Nat) : Int) := by rw [Int.tmod_eq_emod_of_nonneg (by omega)]; omega
        obtain ⟨p, hp⟩ : ∃ p, p = x % 16 := ⟨_, rfl⟩
        obtain ⟨q, hq⟩ : ∃ q, q = z % 16 := ⟨_, rfl⟩
        rw [← hp] at hna hx16
        rw [← hq] at hnb hz16
        have HWA := Lib.hid (fun w' => with_any a p w' (small64 hsa) ⟨by omega, by omega⟩)
        have HWB := Lib.hid (fun w' => with_any b q w' (small64 hsb) ⟨by omega, by omega⟩)
        obtain ⟨a2, ha2⟩ : ∃ a2, a2 = wv a p := ⟨_, rfl⟩
        obtain ⟨b2, hb2⟩ : ∃ b2, b2 = wv b q := ⟨_, rfl⟩
        rw [← ha2] at HWA hna
        rw [← hb2] at HWB hnb
        have HNA := Lib.hid hna
        have HNB := Lib.hid hnb
        have hbk := block_lt_of_cell hc'
        clear hna hnb ha2 hb2 hp hq hx hz hrev hlen hr ha hb hsa hsb
        go_wp2_with (first
          | (have hq := HLA; clear hq; go_at_call 8; refine (HWB.out _).mono ?_; rintro e w4 ⟨rfl, hb4⟩; have HLB := Lib.hid (HLA.out.trans (hb4.mono HLA.out.size)); clear hb4)
          | (go_at_call 8; refine (HWA.out _).mono ?_; rintro e w3 ⟨rfl, hb3⟩; have hc' := (hb3.cell (p := ⟨B, o + r, none⟩) hbk).trans hc'; have HLA := Lib.hid (HL.out.trans (hb3.mono HL.out.size)); clear hb3))
        go_roundw
        case rel => exact ⟨j + 1, a2, b2, by omega, rfl, rfl, by go_num, Lib.hid HNA.out.symm, Lib.hid HNB.out.symm, HLB⟩
        case measure => simp [intOf]; omega
      · obtain rfl : j = n := by omega
        have hlen := HN.out
        have hae : a = fw 0 (bl xs) := by rw [ha.out, List.take_of_length_le (by rw [bl_len]; omega)]
        have hbe : b = a := by rw [hb.out, List.take_of_length_le (by rw [bl_len, List.length_reverse]; omega), ← HJ.out]; exact hae.symm
        have hsa : small a := by rw [hae]; exact fw_small zero_small
        subst hbe
        have h64 := small64 hsa
        have HRU := Lib.hid (show ∀ w', Calls Try.prog 13 #[.int .i64 b, .int .i64 (k : Nat)] w' (HandsP w' (runs b k)) from fun w' => by have h := runs_any b k w' h64 ⟨by omega, by omega⟩; rw [lim_nat hk16] at h; exact h)
        have HMI := Lib.hid (show ∀ w', Calls Try.prog 11 #[.int .i64 b, .int .i64 (k : Nat)] w' (Hands w' (miss b k)) from fun w' => by have h := missing_any b k w' h64 ⟨by omega, by omega⟩; rw [lim_nat hk16] at h; exact h)
        obtain ⟨hok, hen, _, htot⟩ := runs_ok b k
        have hmk : (miss b k).length ≤ k := by have := hok.tot; omega
        obtain ⟨R, hRR⟩ : ∃ R, R = runs b k := ⟨_, rfl⟩
        obtain ⟨M, hM⟩ : ∃ M, M = miss b k := ⟨_, rfl⟩
        rw [← hRR] at HRU hok hen htot
        rw [← hM] at HMI htot hmk
        have HOK := Lib.hid hok
        have HTO := Lib.hid htot
        have HEN := Lib.hid hen
        have HMK := Lib.hid hmk
        clear hRR hM hok hen htot hae hlen ha hb hsa h64 hmk
        go_wp2_with (go_at_call 13; refine (HRU.out _).mono ?_; rintro e w2 ⟨A2, n2, c2, rfl, hp2, hb2⟩; have HP2 := Lib.hid hp2; have HL2 := Lib.hid (HL.out.trans (hb2.mono HL.out.size)); clear hb2 hp2)
        have hlen : R.length = n2 := HP2.out.1
        have hn63 : n2 ≤ 9223372036854775807 := by have := HP2.out.2.1; have := HP2.out.2.2.1; omega
        go_loopw [9, 50] (fun t' i' wx => ∃ (i : Nat) (t : Int), i ≤ n2 ∧ t' = .int .i64 t ∧ i' = .int .i64 i ∧ Hid (t = tot (R.take i)) ∧ Hid (Below w.heap.size w wx) ∧ Hid (Below w2.heap.size w2 wx)) (fun _ i' _ => n2 - (intOf i').toNat)
        case atStart => exact ⟨0, 0, by omega, rfl, rfl, Lib.hid (by simp [tot]), HL2, Lib.hid (Below.refl _ _)⟩
        case round =>
          clear HL HL2
          obtain ⟨i, t, hi, rfl, rfl, ht, HL, HB⟩ := hrel
          have htk := HOK.out.take i
          have htt : 0 ≤ t := by rw [ht.out]; exact htk.tot.1
          by_cases hit : i < n2
          · obtain ⟨u, v, B, o, hRj, rfl, hc0, hc1⟩ := (HP2.out.below HB.out).at_ hit
            obtain ⟨g1, g2, _, _, _, g6⟩ := HOK.out.at_ hRj
            have HTX := Lib.hid (show t + v = tot (R.take (i + 1)) from by rw [ht.out]; exact (tot_take hRj).symm)
            have htv : t + v ≤ 16 := by
              have h1 := htk.tot.2
              rw [← ht.out] at h1
              have := HEN.out
              omega
            have HLA := Lib.hid (HL.out.alloc HL.out.size (.cells #[.int .i64 u, .int .i64 v] 32))
            have HBA := Lib.hid (HB.out.alloc HB.out.size (.cells #[.int .i64 u, .int .i64 v] 32))
            clear ht htk g2 g6 hRj
            go_wp2
            go_roundw
            case rel => exact ⟨i + 1, t + v, by omega, rfl, by go_num, HTX, HLA, HBA⟩
            case measure => simp [intOf]; omega
          · obtain rfl : i = n2 := by omega
            have hte : t + (M.length : Int) = (k : Int) := by rw [ht.out, List.take_of_length_le (by omega)]; exact HTO.out
            have HTE := Lib.hid hte
            have HMS := Lib.hid (show ∀ (w' : World) A m c, Rd w' A m c (i64s M) → M.length = m from fun w' A m c h => by have h1 := h.len; rwa [i64s_len] at h1)
            clear ht htk HP2 HTO HOK hte
            go_wp2_with (go_at_call 11; refine (HMI.out _).mono ?_; rintro e w5 ⟨A5, n5, c5, rfl, hr5, hb5⟩; have hn5 := HMS.out _ _ _ _ hr5; have HL5 := Lib.hid (HL.out.trans (hb5.mono HL.out.size)); clear hr5 hb5; obtain rfl : M.length = n5 := hn5)
            go_ret
            refine ⟨ret_b ?_, HL5.out⟩
            have h1 := HTE.out
            have h2 := HMK.out
            rw [h1, wrap_in (by omega) (by omega)]
            simp
theorem hole (a0 : Option Addr) (len0 cap0 : Nat) (z0 : List Int) (a1 : Int) (w : World) (w0 : Row .u8 w a0 len0 cap0 z0) (w1 : (Lit.int .u8 a1).wf = true) :
    Calls Try.prog 6 #[.slice a0 len0 cap0, .int .u8 a1] w fun e w' => e = .returned (.bool true) ∧ Below w.heap.size w w' := by
  obtain ⟨xs, hx, hb⟩ := Row.nats w0
  obtain ⟨y, hy, rfl⟩ : ∃ y : Nat, y < 256 ∧ a1 = y := by
    have h := bounds_u8 w1
    exact ⟨a1.toNat, by omega, by omega⟩
  exact core a0 len0 cap0 xs y w hx hb hy
end Go.Proofs.Ytfibhjkjaagheaa.BitsJoinW
