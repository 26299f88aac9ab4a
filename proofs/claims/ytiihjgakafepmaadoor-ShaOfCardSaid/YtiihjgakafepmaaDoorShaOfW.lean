/- The walk of ShaOf: any bytes have the digest that the reference reckons, and stay as they were. Condition: the rounds' own numbers lie in the variable. -/
import Derived.Test.YtiihjgakafepmaaDoorShaL
import Derived.Test.YtiihjgakafepmaaDoorRefK
import Derived.Test.YtiihjgakafepmaaDoorRefO
namespace Go.Proofs.YtiihjgakafepmaaDoor.ShaOfW
open Go.RowKit Go.Proofs.YtiihjgakafepmaaDoor.Kit Go.Proofs.YtiihjgakafepmaaDoor.Byt Go.Proofs.YtiihjgakafepmaaDoor.ShaM Go.Proofs.YtiihjgakafepmaaDoor.ShaB Go.Proofs.YtiihjgakafepmaaDoor.ShaC Go.Proofs.YtiihjgakafepmaaDoor.ShaK Go.Proofs.YtiihjgakafepmaaDoor.ShaE Go.Proofs.YtiihjgakafepmaaDoor.ShaF Go.Proofs.YtiihjgakafepmaaDoor.ShaJ Go.Proofs.YtiihjgakafepmaaDoor.ShaL Go.Proofs.YtiihjgakafepmaaDoor.Same

set_option maxRecDepth 100000 in
set_option maxHeartbeats 1600000 in
theorem core (A : Option Addr) (n c : Nat) (xs : List Nat) (w : World) (hr : Rd w A n c (u8n xs)) (hx : by256 xs) (hT : Tab w) :
    Calls Tryd.prog 3 #[.slice A n c] w fun e w' => e = .returned (.bool true) ∧ Below w.heap.size w w' := by
  obtain ⟨i0, hi0, hz0, hz1, hz2⟩ := info_parts Go.Proofs.YtiihjgakafepmaaDoor.ShaG.info8
  have HT := Lib.hid hT
  have HR := Lib.hid hr
  have hn63 : n ≤ 9223372036854775807 := by have := hr.le; have := hr.cap; omega
  have HN := Lib.hid (show xs.length = n from by have := hr.1; rwa [u8n_len] at this)
  clear hT hr
  by_cases hl : 1000 < n
  · go_enter Tryd.func3, Tryd.ntmps3
    go_wp2_with (go_at_call 4; refine (wakes_any _ HT.out).mono ?_; rintro e w1 ⟨rfl, hb1⟩)
    go_ret
    exact ⟨rfl, hb1⟩
  · have hz32 := zero32
    obtain ⟨Z2, hZ2⟩ : ∃ Z2 : Array Value, Z2 = (u8n (List.replicate 32 0)).toArray := ⟨_, rfl⟩
    simp only [← hZ2] at hz32
    have HZ2 := Lib.hid hZ2
    obtain ⟨D, hD⟩ : ∃ D : List Nat, D = dig xs := ⟨_, rfl⟩
    have hdl : D.length = 32 := by rw [hD, dig_len]
    have HOF := Lib.hid (fun (w' : World) (A' : Option Addr) (n' c' : Nat) (hb : Below w.heap.size w w') (h : Rd w' A' n' c' (u8n xs)) => of_any A' n' c' xs w' (HT.out.below hb HT.out.1) h hx (by have := HN.out; omega))
    have HRO := Lib.hid (fun (F R : Option Addr) (c1 c2 : Nat) (w' : World) (hF : Rd w' F 8 c1 (RefB.i64n w0.list)) (hR : Rd w' R 64 c2 (RefB.i64n KT)) (h : Rd w' A n c (u8n xs)) => RefO.of_any F R A c1 c2 n c xs w' hF hR h hx (by omega))
    rw [← hD] at HOF HRO
    clear hZ2 hD
    go_enter Tryd.func3, Tryd.ntmps3
    go_wp2_with fail
    refine (wakes_any _ HT.out).mono ?_
    rintro e w1 ⟨rfl, hb1⟩
    have HB1 := Lib.hid hb1
    have HR1 := Lib.hid (HR.out.below hb1)
    clear hb1
    go_wp2_with (at_builtin; refine wpList_add _ rfl (.tmp 10) (.tmp 11) _ rfl w1.heap.size 5 i0 _ 1 Tryd.underlying22 hi0 hz0 hz1 hz2 rfl _ 0 [] rfl (emptied w1 _) A n c (u8n xs) rfl (HR1.out.alloc _) (u8n_one _) (by omega) (by omega) (size_alloc _ _) ?_; intro A3 n3 c3 w3 hn3 hown3 hg3 hat3; have hb3 := below_add ((Below.refl w1.heap.size w1).alloc (Nat.le_refl _) _) (emptied w1 _) (Nat.le_refl _) hg3; clear hat3 hg3)
    obtain rfl : n3 = n := by have := hn3.out; omega
    have HO3 := Lib.hid (Rd.own hown3)
    rw [List.nil_append] at HO3
    have HB3 := Lib.hid (HB1.out.trans (hb3.mono HB1.out.size))
    clear hn3 hown3 hb3
    refine (HOF.out _ _ _ _ HB3.out HO3.out).mono ?_
    rintro e w4 ⟨rfl, hb4⟩
    have HB4 := Lib.hid (HB3.out.trans (hb4.mono HB3.out.size))
    have HO4 := Lib.hid (HO3.out.below hb4)
    clear hb4
    go_wp2_with (refine wpList_store_blk rfl 24 (.tmp 4) (.tmp 14) rfl w4.heap.size rfl (u8n D) rfl (Blk_at HZ2.out rfl) (by rw [u8n_len, u8n_len, hdl, List.length_replicate]) (by rw [u8n_len, hdl]; exact size_w32) (u8n_one _) ?_; intro w5 hB5 ho5)
    have HD5 := Lib.hid (Rd.of_blk (k := 32) hB5 hdl (by omega) (by omega))
    rw [List.take_of_length_le (by omega)] at HD5
    have hb5 := ho5.out.below (HB4.out.alloc HB4.out.size _) HB4.out.size (by simp; have := HB4.out.size; omega)
    have HB5 := Lib.hid hb5
    have HO5 := Lib.hid (HO4.out.below (ho5.out.below ((Below.refl w4.heap.size w4).alloc (Nat.le_refl _) (.cells Z2 24)) (Nat.le_refl _) (by simp)))
    clear hB5 hb5
    refine wp_region_any (by kernel_rfl) ?_
    change wpAny _ _ _ _ _ _ _ (World.drew _)
    refine wpAny_take (i := 0) (v := .slice (some ⟨w4.heap.size, 0, none⟩) 32 32) rfl (by kernel_rfl) (by kernel_rfl) (by kernel_rfl) (fun _ _ _ h => h) (Or.inl ⟨by rfl, fun w => by go_simp⟩) ?_
    try simp only [Act.put, List.getElem_toArray, List.getElem_cons_succ, List.getElem_cons_zero, List.setIfInBounds_toArray, List.set_cons_zero, List.set_cons_succ]
    refine wpAny_take (i := 2) (v := .slice A n3 c) rfl (by kernel_rfl) (by kernel_rfl) (by kernel_rfl) (fun _ _ _ h => h) (Or.inl ⟨by rfl, fun w => by go_simp⟩) ?_
    try simp only [Act.put, List.getElem_toArray, List.getElem_cons_succ, List.getElem_cons_zero, List.setIfInBounds_toArray, List.set_cons_zero, List.set_cons_succ]
    refine wpAny_ready (rs := [1]) (by kernel_rfl) (by simp) ?_
    refine AllReady.cons rfl (fun K hK => ?_) AllReady.nil
    rw [if_pos (by rfl)]
    go_simp
    refine (RefK.know_any _).mono ?_
    rintro e w6 ⟨F, k1, R, k2, rfl, hF, hR, hb6⟩
    have HB6 := Lib.hid (show Below w.heap.size w w6 from HB5.out.drew.trans (hb6.mono HB5.out.size))
    have HF := Lib.hid hF
    have HRR := Lib.hid hR
    have HD6 := Lib.hid (show Rd w6 _ _ _ _ from HD5.out.below (((Below.refl w5.heap.size w5).drew).trans hb6))
    have HO6 := Lib.hid (show Rd w6 _ _ _ _ from HO5.out.below (((Below.refl w5.heap.size w5).drew).trans hb6))
    clear hF hR hb6
    go_wp2_with fail
    try simp only [Act.put, List.getElem_toArray, List.getElem_cons_succ, List.getElem_cons_zero, List.setIfInBounds_toArray, List.set_cons_zero, List.set_cons_succ]
    refine wpAny_ready (rs := [3]) (by kernel_rfl) (by simp) ?_
    refine AllReady.cons rfl (fun K hK => ?_) AllReady.nil
    rw [if_pos (by rfl)]
    go_simp
    refine (HRO.out _ _ _ _ _ HF.out HRR.out (HR.out.below HB6.out)).mono ?_
    rintro e w7 ⟨G, m, rfl, hG, hb7⟩
    have HB7 := Lib.hid (HB6.out.trans (hb7.mono HB6.out.size))
    have HG := Lib.hid hG
    have HD7 := Lib.hid (HD6.out.below hb7)
    have HO7 := Lib.hid (HO6.out.below hb7)
    clear hG hb7
    go_wp2_with fail
    try simp only [Act.put, List.getElem_toArray, List.getElem_cons_succ, List.getElem_cons_zero, List.setIfInBounds_toArray, List.set_cons_zero, List.set_cons_succ]
    refine wpAny_ready (rs := [4]) (by kernel_rfl) (by simp) ?_
    refine AllReady.cons rfl (fun K hK => ?_) AllReady.nil
    rw [if_pos (by rfl)]
    go_simp
    refine (same_n HD7.out HG.out).mono ?_
    rintro e w8 ⟨rfl, nq, rfl⟩
    simp only [decide_true]
    go_wp2_with fail
    try simp only [Act.put, List.getElem_toArray, List.getElem_cons_succ, List.getElem_cons_zero, List.setIfInBounds_toArray, List.set_cons_zero, List.set_cons_succ]
    refine wpAny_take (i := 5) (v := .bool true) rfl (by kernel_rfl) (by kernel_rfl) (by kernel_rfl) (fun _ _ _ h => h) (Or.inl ⟨by rfl, fun w => by go_simp⟩) ?_
    try simp only [Act.put, List.getElem_toArray, List.getElem_cons_succ, List.getElem_cons_zero, List.setIfInBounds_toArray, List.set_cons_zero, List.set_cons_succ]
    refine wpAny_take (i := 6) (v := .slice A3 n3 c3) rfl (by kernel_rfl) (by kernel_rfl) (by kernel_rfl) (fun _ _ _ h => h) (Or.inl ⟨by rfl, fun w => by go_simp⟩) ?_
    try simp only [Act.put, List.getElem_toArray, List.getElem_cons_succ, List.getElem_cons_zero, List.setIfInBounds_toArray, List.set_cons_zero, List.set_cons_succ]
    refine wpAny_take (i := 7) (v := .slice A n3 c) rfl (by kernel_rfl) (by kernel_rfl) (by kernel_rfl) (fun _ _ _ h => h) (Or.inl ⟨by rfl, fun w => by go_simp⟩) ?_
    try simp only [Act.put, List.getElem_toArray, List.getElem_cons_succ, List.getElem_cons_zero, List.setIfInBounds_toArray, List.set_cons_zero, List.set_cons_succ]
    refine wpAny_ready (rs := [8]) (by kernel_rfl) (by simp) ?_
    refine AllReady.cons rfl (fun K hK => ?_) AllReady.nil
    rw [if_pos (by rfl)]
    go_simp
    refine (same_n (HO7.out.drewN nq) ((HR.out.below HB7.out).drewN nq)).mono ?_
    rintro e w9 ⟨rfl, nq2, rfl⟩
    simp only [decide_true]
    go_wp2_with fail
    try simp only [Act.put, List.getElem_toArray, List.getElem_cons_succ, List.getElem_cons_zero, List.setIfInBounds_toArray, List.set_cons_zero, List.set_cons_succ]
    refine wpAny_take (i := 9) (v := .bool true) rfl (by kernel_rfl) (by kernel_rfl) (by kernel_rfl) (fun _ _ _ h => h) (Or.inl ⟨by rfl, fun w => by go_simp⟩) ?_
    try simp only [Act.put, List.getElem_toArray, List.getElem_cons_succ, List.getElem_cons_zero, List.setIfInBounds_toArray, List.set_cons_zero, List.set_cons_succ]
    refine wpAny_ready (rs := [10]) (by kernel_rfl) (by simp) ?_
    refine AllReady.cons rfl (fun K hK => ?_) AllReady.nil
    rw [if_pos (by rfl)]
    go_simp
    refine hK _ _ ?_
    clear hK K
    try simp only [Act.put, List.getElem_toArray, List.getElem_cons_succ, List.getElem_cons_zero, List.setIfInBounds_toArray, List.set_cons_zero, List.set_cons_succ]
    refine wpAny_done (by kernel_rfl) ?_ _
    go_wp2
    go_ret
    exact ⟨rfl, below_drewN HB7.out (nq + nq2)⟩

theorem hole (a0 : Option Addr) (len0 cap0 : Nat) (z0 : List Int) (w : World) (w0 : Row .u8 w a0 len0 cap0 z0) (hT : Tab w) :
    Calls Tryd.prog 3 #[.slice a0 len0 cap0] w fun e w' => e = .returned (.bool true) ∧ Below w.heap.size w w' := by
  obtain ⟨xs, hr, hx⟩ := Row.nats w0
  exact core a0 len0 cap0 xs w hr hx hT
end Go.Proofs.YtiihjgakafepmaaDoor.ShaOfW
