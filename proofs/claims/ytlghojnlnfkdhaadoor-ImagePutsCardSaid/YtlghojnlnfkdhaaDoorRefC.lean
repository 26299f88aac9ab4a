/- The reference's test of a root. Conditions: a word of up to 35 bits, a degree of at most 3, a number of at most 65535. -/
import Derived.Test.YtlghojnlnfkdhaaDoorRefB
namespace Go.Proofs.YtlghojnlnfkdhaaDoor.RefC
open Go.RowKit Go.Proofs.YtlghojnlnfkdhaaDoor.Kit Go.Proofs.YtlghojnlnfkdhaaDoor.ShaC Go.Proofs.YtlghojnlnfkdhaaDoor.ShaK Go.Proofs.YtlghojnlnfkdhaaDoor.RefM Go.Proofs.YtlghojnlnfkdhaaDoor.RefN Go.Proofs.YtlghojnlnfkdhaaDoor.RefB

theorem val_step {xs : List Nat} {j : Nat} (h : 0 < j) (hj : j ≤ xs.length) : val (xs.drop (j - 1)) = xs.getD (j - 1) 0 + 65536 * val (xs.drop j) := by
  rw [List.drop_eq_getElem_cons (show j - 1 < xs.length by omega), List.getD_eq_getElem?_getD, List.getElem?_eq_getElem (show j - 1 < xs.length by omega)]
  simp only [val, Option.getD_some, Nat.sub_add_cancel h]
theorem val_drop_all (xs : List Nat) : val (xs.drop xs.length) = 0 := by rw [List.drop_of_length_le (Nat.le_refl _)]; rfl
theorem all_step {xs : List Nat} {t : Nat} (ht : t < xs.length) (h : (xs.take t).all (· == 0) = true) : (xs.take (t + 1)).all (· == 0) = (xs.getD t 0 == 0) := by
  rw [List.take_succ_eq_append_getElem ht, List.all_append, h, List.getD_eq_getElem?_getD, List.getElem?_eq_getElem ht]
  simp
theorem all_not {xs : List Nat} {t e : Nat} (he : t < e) (ht : t < xs.length) (h : xs.getD t 0 ≠ 0) : (xs.take e).all (· == 0) = false := by
  rw [List.all_eq_false]
  refine ⟨xs.getD t 0, ?_, by simpa using h⟩
  rw [List.getD_eq_getElem?_getD, List.getElem?_eq_getElem ht]
  rw [List.mem_take_iff_getElem]
  exact ⟨t, by omega, rfl⟩

set_option maxRecDepth 100000 in
set_option maxHeartbeats 1600000 in
theorem fits_any (m p d : Nat) (w : World) (hm : m < 281474976710656) (hp : p ≤ 65535) (hd : d ≤ 3) :
    Calls Tryd.prog 70 #[.int .i64 (m : Nat), .int .i64 (p : Nat), .int .i64 (d : Nat)] w fun e w' => e = .returned (.bool (fit m p d)) ∧ Below w.heap.size w w' := by
  obtain ⟨f, hf⟩ : ∃ f, f = fit m p d := ⟨_, rfl⟩
  rw [← hf]
  have HF := Lib.hid hf
  clear hf
  have B0 : Hid (Blk (w.alloc (.cells #[.int .i64 1] 3)) w.heap.size 3 (i64n [1])) := Lib.hid (heap_alloc_new w _)
  go_enter Tryd.func70, Tryd.ntmps70
  go_wp2
  go_loopw [7, 8] (fun x i wr => ∃ k n c : Nat, ∃ A, ∃ xs : List Nat, k ≤ d ∧ i = .int .i64 k ∧ x = .slice A n c ∧ Hid (Rd wr A n c (i64n xs)) ∧ Hid (digs xs) ∧ Hid (n = 1 + 4 * k) ∧ Hid (val xs = m ^ k) ∧ Below w.heap.size w wr) (fun _ i _ => d - (intOf i).toNat)
  case atStart => exact ⟨0, 1, 1, _, [1], Nat.zero_le _, rfl, rfl, Lib.hid (blk_rd B0.out (by decide)), Lib.hid (by intro x hx; simp at hx; omega), Lib.hid rfl, Lib.hid rfl, (Below.refl _ _).alloc (Nat.le_refl _) _⟩
  case round =>
    clear B0
    obtain ⟨k, n, c, A, xs, hk, rfl, rfl, hR, hD, hn, hv, hbel⟩ := hrel
    by_cases hlt : k < d
    · have h13 : n ≤ 13 := by have := hn.out; omega
      have HT := Lib.hid (times_any A n c xs m wr hR.out hD.out h13 hm)
      go_wp2_with (go_at_call 79; refine HT.out.mono ?_; rintro e w2 ⟨o, rfl, hB2, ho2, hd2, hv2, hb2⟩)
      replace hB2 := Lib.hid hB2
      replace hv2 := Lib.hid hv2
      replace hd2 := Lib.hid hd2
      go_roundw
      case rel =>
        refine ⟨k + 1, n + 4, n + 4, _, o, by omega, by go_num, rfl, Lib.hid ?_, hd2, Lib.hid (by have := hn.out; omega), Lib.hid (by rw [hv2.out, hv.out, Nat.pow_succ]), hbel.trans (hb2.mono hbel.size)⟩
        rw [← ho2]
        exact blk_rd hB2.out (by omega)
      case measure => simp [intOf]; omega
    · obtain rfl : k = d := by omega
      have hxl : Hid (xs.length = n) := Lib.hid (by have := hR.out.len; rwa [i64n_len] at this)
      have hn2 : 2 * k ≤ n := by have := hn.out; omega
      have hn16 : n ≤ 13 := by have := hn.out; omega
      have hvd := hv.out
      go_wp2
      go_loop [9, 10] (fun q i => ∃ j t : Nat, 2 * k ≤ j ∧ j ≤ n ∧ i = .int .i64 ((j : Int) - 1) ∧ q = .int .i64 t ∧ Hid (t = val (xs.drop j)) ∧ t ≤ p) (fun _ i => ((intOf i) + 1).toNat)
      case atStart => exact ⟨n, 0, hn2, Nat.le_refl _, by go_num, rfl, Lib.hid (by rw [← hxl.out, val_drop_all]), Nat.zero_le _⟩
      case round =>
        obtain ⟨j, t, hj, hjn, rfl, rfl, ht, htp⟩ := hrel
        by_cases hlt : 2 * k < j
        · obtain ⟨b, off, rfl, cX⟩ := rd_int (k := j - 1) hR.out (by omega)
          have hv2 : Hid (val (xs.drop (j - 1)) = xs.getD (j - 1) 0 + 65536 * t) := Lib.hid (by rw [ht.out]; exact val_step (by omega) (by have := hxl.out; omega))
          have hdg := getD_digs hD.out (j - 1)
          have hno : xs.getD (j - 1) 0 + 65536 * t > p → fit m p k = false := fun h => fit_no (j := j - 1) hD.out hvd (by omega) (by have := hxl.out; omega) (by rw [hv2.out]; exact h)
          have hno' := Lib.hid hno
          have w0 : IntKind.i64.wrap ((j : Int) - 1) = (j : Int) - 1 := by rw [IntKind.wrap_i64]; omega
          have t0 : ((j : Int) - 1).toNat = j - 1 := by omega
          have p0 : (0 : Int) ≤ (j : Int) - 1 := by omega
          have q0 : (j : Int) - 1 < (n : Int) := by omega
          clear hno
          generalize xs.getD (j - 1) 0 = y at *
          go_wp2
          · go_ret
            exact ⟨ret_bool (by rw [HF.out, hno'.out (by omega)]), hbel⟩
          · go_round
            case rel => exact ⟨j - 1, 65536 * t + y, by omega, by omega, by go_num, by go_num, Lib.hid (by rw [hv2.out]; omega), by omega⟩
            case measure => simp [intOf]; omega
        · obtain rfl : j = 2 * k := by omega
          have hxl2 : 2 * k ≤ xs.length := by have := hxl.out; omega
          by_cases hlp : t < p
          · have hy := Lib.hid (fit_yes hD.out hvd hxl2 (by rw [← ht.out]; exact hlp))
            go_wp2
            go_ret
            exact ⟨ret_bool (by rw [HF.out, hy.out]), hbel⟩
          · obtain rfl : t = p := by omega
            have he := Lib.hid (fit_even hD.out hvd hxl2 ht.out.symm)
            go_wp2
            go_loop [11] (fun i => ∃ s : Nat, s ≤ 2 * k ∧ i = .int .i64 s ∧ Hid ((xs.take s).all (· == 0) = true)) (fun i => 2 * k - (intOf i).toNat)
            case atStart => exact ⟨0, Nat.zero_le _, rfl, Lib.hid rfl⟩
            case round =>
              obtain ⟨s, hs, rfl, ha⟩ := hrel
              by_cases hlt3 : s < 2 * k
              · obtain ⟨b, off, rfl, cX⟩ := rd_int (k := s) hR.out (by omega)
                have hst := Lib.hid (all_step (xs := xs) (t := s) (by omega) ha.out)
                have hno : xs.getD s 0 ≠ 0 → (xs.take (2 * k)).all (· == 0) = false := all_not hlt3 (by omega)
                have hno' := Lib.hid hno
                have hsn : s < n := by omega
                clear hno
                generalize xs.getD s 0 = y at *
                go_wp2
                · go_ret
                  exact ⟨ret_bool (by rw [HF.out, he.out, hno'.out (by omega)]), hbel⟩
                · go_round
                  case rel => exact ⟨s + 1, by omega, by go_num, Lib.hid (by rw [hst.out]; simp; omega)⟩
                  case measure => simp [intOf]; omega
              · obtain rfl : s = 2 * k := by omega
                go_wp2
                go_ret
                exact ⟨ret_bool (by rw [HF.out, he.out, ha.out]), hbel⟩

end Go.Proofs.YtlghojnlnfkdhaaDoor.RefC
