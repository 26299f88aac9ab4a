/- A slot opened, by the program; whether there is room for it. Conditions: the disk lies as the facts say; numbers of 64 bits; what the disk holds is bytes. -/
import Derived.Test.YthgmocipiknfpaaStgN4
namespace Go.Proofs.Ythgmocipiknfpaa.StgN
open Go.RowKit Go.Proofs.Ythgmocipiknfpaa.Kit Go.Proofs.Ythgmocipiknfpaa.Byt Go.Proofs.Ythgmocipiknfpaa.Mem Go.Proofs.Ythgmocipiknfpaa.DskA Go.Proofs.Ythgmocipiknfpaa.DskC Go.Proofs.Ythgmocipiknfpaa.DskD Go.Proofs.Ythgmocipiknfpaa.DskE Go.Proofs.Ythgmocipiknfpaa.DskF Go.Proofs.Ythgmocipiknfpaa.RecM Go.Proofs.Ythgmocipiknfpaa.StgM Go.Proofs.Ythgmocipiknfpaa.PlaM
open Go.Proofs.Ythgmocipiknfpaa.RecA (sval scells sok)

/-- Is there such a slot, and does the disk go as far? -/
def rm (s : St) (p k : Int) : Bool := decide (0 ≤ p ∧ p ≤ 3 ∧ 0 ≤ k ∧ k ≤ 1 ∧ 10 * p + 2 + 4 * k + 4 ≤ s.S.length)
theorem rD_2 (p k : Int) : (rD p k 2 = 10 * p + 2 + 4 * k + 3 ∧ 0 ≤ p ∧ p ≤ 3 ∧ 0 ≤ k ∧ k ≤ 1) ∨ (rD p k 2 = -1 ∧ ¬ (0 ≤ p ∧ p ≤ 3 ∧ 0 ≤ k ∧ k ≤ 1)) := by
  unfold rD rS fnd
  repeat (first | omega | split)
set_option maxRecDepth 100000 in
set_option maxHeartbeats 1600000 in
theorem room_any (F : Nat → Prop) (g : Nat) (s : St) (p k : Int) (w : World) (hD : Dk w F g s) (hp : PlaM.n64 p) (hk : PlaM.n64 k) :
    Calls Try.prog 27 #[.pointer (some ⟨g, 0, none⟩), .int .i64 p, .int .i64 k] w fun e w' => e = .returned (.bool (rm s p k)) ∧ Below w.heap.size w w' := by
  have H1 := Lib.hid (PlaN.block_any 9 w ⟨by omega, by omega⟩)
  rw [show PlaN.bi 9 = 2 from rfl, show PlaN.bf 9 = 16 from rfl, show PlaN.bb 9 = true from rfl] at H1
  have H2 := Lib.hid (fun w' => PlaN.data_any p k 2 w' hp hk ⟨by omega, by omega⟩)
  have H3 := Lib.hid (fun w' (h : Below w.heap.size w w') => len_any F g s w' (hD.below h))
  have hm := hD.ok.most
  rcases rD_2 p k with ⟨e, hr⟩ | ⟨e, hr⟩
  · have hq : rm s p k = decide (10 * p + 2 + 4 * k + 3 < (s.S.length : Int)) := by
      unfold rm
      rw [Bool.eq_iff_iff, decide_eq_true_iff, decide_eq_true_iff]
      omega
    rw [e, PlaN.tv_pos (by omega), PlaN.tb_pos (by omega)] at H2
    rw [hq]
    obtain ⟨q, hqq⟩ : ∃ q, q = 10 * p + 2 + 4 * k + 3 := ⟨_, rfl⟩
    rw [← hqq] at H2 ⊢
    clear e hr hq hqq hD hp hk
    go_enter Try.func27, Try.ntmps27
    go_wp2_with (first
      | (go_at_call 36; refine H1.out.mono ?_; rintro e w1 ⟨rfl, hb1⟩; have L1 := Lib.hid hb1; clear hb1)
      | (go_at_call 47; refine (H2.out _).mono ?_; rintro e w2 ⟨rfl, hb2⟩; have L2 := Lib.hid (L1.out.trans (hb2.mono L1.out.size)); clear hb2)
      | (go_at_call 26; refine (H3.out _ L2.out).mono ?_; rintro e w3 ⟨rfl, rfl⟩))
    go_ret
    exact ⟨rfl, L2.out⟩
  · have hq : rm s p k = false := by
      unfold rm
      rw [decide_eq_false_iff_not]
      omega
    rw [e, PlaN.tv_neg (by omega), PlaN.tb_neg (by omega)] at H2
    rw [hq]
    clear e hr hq hD hp hk
    go_enter Try.func27, Try.ntmps27
    go_wp2_with (first
      | (go_at_call 36; refine H1.out.mono ?_; rintro e w1 ⟨rfl, hb1⟩; have L1 := Lib.hid hb1; clear hb1)
      | (go_at_call 47; refine (H2.out _).mono ?_; rintro e w2 ⟨rfl, hb2⟩; have L2 := Lib.hid (L1.out.trans (hb2.mono L1.out.size)); clear hb2))
    go_ret
    exact ⟨rfl, L2.out⟩
theorem open_nil (p k : Int) (w : World) : Calls Try.prog 9 #[.pointer none, .int .i64 p, .int .i64 k] w fun e w' => e = .returned (.tuple #[.pointer none, .int .i64 7]) ∧ Below w.heap.size w w' := by
  go_enter Try.func9, Try.ntmps9
  go_wp2
  go_ret2
  exact ⟨rfl, Below.refl _ _⟩
theorem open_range (F : Nat → Prop) (g : Nat) (s : St) (p k : Int) (w : World) (hD : Dk w F g s) (hp : RecA.n64 p) (hk : RecA.n64 k) (hr : ¬ (0 ≤ p ∧ p ≤ 3 ∧ 0 ≤ k ∧ k ≤ 1 ∧ 10 * p + 2 + 4 * k + 4 ≤ s.S.length)) :
    Calls Try.prog 9 #[.pointer (some ⟨g, 0, none⟩), .int .i64 p, .int .i64 k] w fun e w' => e = .returned (.tuple #[.pointer none, .int .i64 3]) ∧ Below w.heap.size w w' := by
  have H1 := Lib.hid (room_any F g s p k w hD hp hk)
  have e : rm s p k = false := by unfold rm; exact decide_eq_false_iff_not.2 hr
  rw [e] at H1
  clear hD hp hk hr e
  go_enter Try.func9, Try.ntmps9
  go_wp2_with (go_at_call 27; refine H1.out.mono ?_; rintro e w1 ⟨rfl, hb1⟩; have L1 := Lib.hid hb1; clear hb1)
  go_ret2
  exact ⟨rfl, L1.out⟩
theorem getS_right {xs : List Nat} (h : (getS xs).2 = 0) : (getS xs).1.right := by
  unfold getS at h ⊢
  split
  · rename_i h1; rw [if_pos h1] at h; exact absurd h h1
  · rename_i h1
    rw [if_neg h1] at h
    split
    · rename_i h2; exact h2
    · rename_i h2; rw [if_neg h2] at h; exact absurd h (by show ¬ (3 : Int) = 0; omega)
theorem right_ok {g : Sg} (h : g.right) : sok g := by
  have h1 := h.1
  have h2 := h.2.1
  have h3 := h.2.2
  have hp : (2 : Int) ^ blocks g.z ≤ 1024 := pow_blocks h2.2
  refine ⟨⟨by omega, by omega⟩, ⟨by omega, by omega⟩, ⟨by omega, by omega⟩⟩
theorem pO_is (s : St) (p k : Nat) : (pO s p k).has = true ↔ (pO s p k).g ≠ Sg.none := by
  show decide ((getS (now s (10 * p + 2 + 4 * k))).2 = 0) = true ↔ (getS (now s (10 * p + 2 + 4 * k))).1 ≠ Sg.none
  rw [decide_eq_true_iff]
  constructor
  · intro h; exact right_some (getS_right h)
  · intro h
    by_cases e : (getS (now s (10 * p + 2 + 4 * k))).2 = 0
    · exact e
    · exact absurd (StgP.getS_none e) h
theorem pO_ok (s : St) (p k : Nat) : sok (pO s p k).g := by
  show sok (getS (now s (10 * p + 2 + 4 * k))).1
  by_cases e : (getS (now s (10 * p + 2 + 4 * k))).2 = 0
  · exact right_ok (getS_right e)
  · rw [StgP.getS_none e]; exact ⟨n64_0, n64_0, n64_0⟩
set_option maxRecDepth 100000 in
set_option maxHeartbeats 3200000 in
theorem open_any (F : Nat → Prop) (g : Nat) (s : St) (p k : Nat) (w : World) (hD : Dk w F g s) (hp : p ≤ 3) (hk : k ≤ 1) (hf : 10 * p + 2 + 4 * k + 4 ≤ s.S.length) (hu : s.down = false) (hL : s.L.length ≤ 1000000) (hY : Put2.Byts s) :
    Calls Try.prog 9 #[.pointer (some ⟨g, 0, none⟩), .int .i64 (p : Nat), .int .i64 (k : Nat)] w fun e w' => ∃ a J, e = .returned (.tuple #[.pointer (some ⟨a, 0, none⟩), .int .i64 0]) ∧ Sm w' J a g (pO s p k) ∧ (∀ i, J i → w.heap.size ≤ i) ∧ Below w.heap.size w w' := by
  have H1 := Lib.hid (room_any F g s p k w hD (n64_nat (by omega)) (n64_nat (by omega)))
  have e : rm s p k = true := by unfold rm; exact decide_eq_true_iff.2 (by omega)
  rw [e] at H1
  obtain ⟨q, hq⟩ : ∃ q, q = 10 * p + 2 + 4 * k := ⟨_, rfl⟩
  have HAT := Lib.hid (fun (w' : World) (a : Nat) (h : Sm w' (fun i => i = a) a g ⟨p, k, false, Sg.none⟩) => (show Calls Try.prog 28 #[.pointer (some ⟨a, 0, none⟩)] w' fun e w'' => e = .returned (.int .i64 (q : Nat)) ∧ Below w'.heap.size w' w'' from by rw [hq]; exact stageAt_any h hp hk))
  have HRD := Lib.hid (fun w' (h : Below w.heap.size w w') => read_ok F g s q w' (hD.below h) (by omega) hu (by omega))
  have HO := Lib.hid (show pO s p k = ⟨p, k, decide ((getS (now s q)).2 = 0), (getS (now s q)).1⟩ from by rw [hq]; rfl)
  have HI := Lib.hid (And.intro (pO_is s p k) (pO_ok s p k))
  have HBY := Lib.hid (Put2.now_byt hY q)
  obtain ⟨xs, hxs⟩ : ∃ xs, xs = now s q := ⟨_, rfl⟩
  rw [← hxs] at HRD HO HBY
  obtain ⟨t', ht'⟩ : ∃ t', t' = pO s p k := ⟨_, rfl⟩
  rw [← ht'] at HO HI ⊢
  have HG := Lib.hid (fun (w' : World) (A : Option Addr) (h : Rd w' A 64 64 (u8n xs)) => RecN.sget_any A 64 64 xs w' h HBY.out)
  obtain ⟨gx, hgx⟩ : ∃ gx, gx = getS xs := ⟨_, rfl⟩
  rw [← hgx] at HG HO
  clear e hq hxs ht' hgx hD hp hk hf hu hL hY
  go_enter Try.func9, Try.ntmps9
  go_wp2_with (go_at_call 27; refine H1.out.mono ?_; rintro e w1 ⟨rfl, hb1⟩; have L1 := Lib.hid hb1; clear hb1)
  have hB2 := Blk.new w1 68 (slc g ⟨p, k, false, Sg.none⟩)
  have HS2 := Lib.hid (show Sm (w1.alloc (.cells #[.pointer (some ⟨g, 0, none⟩), .int .i64 (p : Nat), .int .i64 (k : Nat), .int .i64 0, .int .i64 0, .int .i64 0] 68)) (fun i => i = w1.heap.size) w1.heap.size g ⟨p, k, false, Sg.none⟩ from ⟨hB2, fun _ => Iff.rfl, ⟨fun h => (by cases h), fun h => absurd rfl h⟩, ⟨n64_0, n64_0, n64_0⟩⟩)
  have L2 := Lib.hid (show Below w.heap.size w (w1.alloc (.cells #[.pointer (some ⟨g, 0, none⟩), .int .i64 (p : Nat), .int .i64 (k : Nat), .int .i64 0, .int .i64 0, .int .i64 0] 68)) from L1.out.alloc L1.out.size _)
  obtain ⟨w2, hw2⟩ : ∃ w2, w2 = w1.alloc (.cells #[.pointer (some ⟨g, 0, none⟩), .int .i64 (p : Nat), .int .i64 (k : Nat), .int .i64 0, .int .i64 0, .int .i64 0] 68) := ⟨_, rfl⟩
  rw [← hw2] at HS2 L2 ⊢
  obtain ⟨a, ha⟩ : ∃ a, a = w1.heap.size := ⟨_, rfl⟩
  rw [← ha] at HS2 ⊢
  have HA := Lib.hid (show w.heap.size ≤ a from ha ▸ L1.out.size)
  clear hB2 hw2 ha
  refine (HAT.out w2 a HS2.out).mono ?_
  rintro e w3 ⟨rfl, hb3⟩
  have L3 := Lib.hid (L2.out.trans (hb3.mono L2.out.size))
  have HS3 := Lib.hid (HS2.out.below hb3)
  clear hb3 L2 HS2 HAT
  go_wp2_with fail
  refine (HRD.out w3 L3.out).mono ?_
  rintro e w4 ⟨A, rfl, hown, hb4⟩
  have L4 := Lib.hid (L3.out.trans (hb4.mono L3.out.size))
  have HS4 := Lib.hid (HS3.out.below hb4)
  have HR4 := Lib.hid (Rd.own hown)
  clear hb4 hown L3 HS3
  go_wp2_with fail
  refine (HG.out w4 A HR4.out).mono ?_
  rintro e w5 ⟨rfl, hb5⟩
  have L5 := Lib.hid (L4.out.trans (hb5.mono L4.out.size))
  have HS5 := Lib.hid (HS4.out.below hb5)
  clear hb5 L4 HS4
  go_wp2_with (refine wpList_store_part rfl 32 (.tmp 42) (.tmp 39) rfl a 3 rfl (scells gx.1) rfl HS5.out.blk (by simp [slc, scells]) size_stg3 (by intro u hu; simp [scells] at hu; rcases hu with rfl | rfl | rfl <;> rfl) ?_; intro w6 hB6 ho6)
  go_ret2
  refine ⟨a, fun i => i = a, rfl, ⟨?_, fun _ => Iff.rfl, HI.out.1, HI.out.2⟩, fun i hi => by rw [show i = a from hi]; exact HA.out, ho6.out.below L5.out HA.out L5.out.size⟩
  have h6 := hB6.out
  rw [show splice (slc g ⟨p, k, false, Sg.none⟩) 3 (scells gx.1) = slc g t' from by rw [HO.out]; rfl] at h6
  exact h6
end Go.Proofs.Ythgmocipiknfpaa.StgN
