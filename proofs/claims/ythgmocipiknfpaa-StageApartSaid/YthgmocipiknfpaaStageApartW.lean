/- The walk of StageApart. No conditions. -/
import Derived.Test.YthgmocipiknfpaaStgT
namespace Go.Proofs.Ythgmocipiknfpaa.StageApartW
open Go.RowKit Go.Proofs.Ythgmocipiknfpaa.Kit Go.Proofs.Ythgmocipiknfpaa.Byt Go.Proofs.Ythgmocipiknfpaa.Mem Go.Proofs.Ythgmocipiknfpaa.DskA Go.Proofs.Ythgmocipiknfpaa.DskE Go.Proofs.Ythgmocipiknfpaa.DskF Go.Proofs.Ythgmocipiknfpaa.RecM Go.Proofs.Ythgmocipiknfpaa.StgM Go.Proofs.Ythgmocipiknfpaa.StgP Go.Proofs.Ythgmocipiknfpaa.StgQ Go.Proofs.Ythgmocipiknfpaa.StgF Go.Proofs.Ythgmocipiknfpaa.StgI Go.Proofs.Ythgmocipiknfpaa.StgN Go.Proofs.Ythgmocipiknfpaa.StgJ Go.Proofs.Ythgmocipiknfpaa.StgK Go.Proofs.Ythgmocipiknfpaa.StgL Go.Proofs.Ythgmocipiknfpaa.Same Go.Proofs.Ythgmocipiknfpaa.StgT
open Go.Proofs.Ythgmocipiknfpaa.RecA (n64 sval)
open Go.Proofs.Ythgmocipiknfpaa.DskB (newSt cnt zs new_any)
theorem re_fr {w0 w w' : World} {F J J' : Nat → Prop} {g ab a p k : Nat} {S0 : List (List Nat)} {s : St} {x y : Rf} (h : Fr w0 w F J g ab 2 0 S0 s x) (hi : Inv s.S s (pO s p k) y) (hS : Sm w' J' a g (pO s p k)) (hJ : ∀ i, J' i → w.heap.size ≤ i) (hb : Below w.heap.size w w') (hp : p ≤ 3) (hk : k ≤ 1) : Fr w0 w' F J' g a p k s.S s y :=
  ⟨⟨pO s p k, ⟨(Fr.dk h).below hb, hS, fun i h1 h2 => by
      have := h.lt i (.inl h1)
      have := hJ i h2
      omega, by rw [hi.up.none_]; exact Nat.zero_le _, hp, hk, hi.len⟩, hi, rfl, rfl⟩, h.free, fun i h1 => by
    rcases h1 with h1 | h1
    · exact h.low i (.inl h1)
    · have := hJ i h1
      have := h.bel.size
      omega, h.bel.trans (hb.mono h.bel.size)⟩
/-- A slot, and bytes beside it. -/
structure Kept (w0 w : World) (F J : Nat → Prop) (g ab : Nat) (S0 : List (List Nat)) (s : St) (x : Rf) (B : Option Addr) (mb db : Nat) : Prop where
  fr : Fr w0 w F J g ab 2 0 S0 s x
  rd : Rd w B mb db (u8n yb)
  no : ∀ b o, B = some ⟨b, o, none⟩ → ¬ (F b ∨ J b) ∧ b < w.heap.size
section
variable {w0 w w' : World} {F J F' J' : Nat → Prop} {g ab : Nat} {S0 : List (List Nat)} {s s' : St} {x x' : Rf} {B : Option Addr} {mb db : Nat}
theorem Kept.below (h : Kept w0 w F J g ab S0 s x B mb db) (hb : Below w.heap.size w w') : Kept w0 w' F J g ab S0 s x B mb db :=
  ⟨h.fr.below hb, h.rd.below hb, fun b o e => ⟨(h.no b o e).1, Nat.lt_of_lt_of_le (h.no b o e).2 hb.size⟩⟩
theorem Kept.step (h : Kept w0 w F J g ab S0 s x B mb db) (hR : Fr w0 w' F' J' g ab 2 0 S0 s' x') (hk : Keep (fun i => F i ∨ J i) w w') (hg : ∀ i, F' i ∨ J' i → (F i ∨ J i) ∨ w.heap.size ≤ i) : Kept w0 w' F' J' g ab S0 s' x' B mb db :=
  ⟨hR, hk.rd h.rd (fun _ b o e => (h.no b o e).1), fun b o e => ⟨fun hh => by
    rcases hg b hh with h1 | h1
    · exact (h.no b o e).1 h1
    · have := (h.no b o e).2
      omega, Nat.lt_of_lt_of_le (h.no b o e).2 hk.size⟩⟩
theorem Kept.newer (h : Kept w0 w F J g ab S0 s x B mb db) {D : Option Addr} (hD : ∀ q o, D = some ⟨q, o, none⟩ → w.heap.size ≤ q) : ∀ b o, D = some ⟨b, o, none⟩ → ¬ (F b ∨ J b) := StgK.newer h.fr hD
end
set_option maxRecDepth 100000 in
set_option maxHeartbeats 12800000 in
theorem core (A : Option Addr) (n c : Nat) (R : List Ac) (y : Nat) (w : World) (hR : Acts w A n c R) (hy : y < 256) : Calls Try.prog 6 #[.slice A n c, .int .u8 (y : Nat)] w fun e w' => e = .returned (.bool true) ∧ Below w.heap.size w w' := by
  have hn63 : n ≤ 9223372036854775807 := by have := hR.2.1; have := hR.2.2.1; omega
  have HA := Lib.hid hR
  clear hR
  by_cases h40 : 40 < n
  · go_enter Try.func6, Try.ntmps6
    go_wp2_with (go_at_call 7; refine (wakes_any _).mono ?_; rintro e w1 ⟨rfl, hb1⟩; have L1 := Lib.hid hb1; clear hb1)
    go_ret
    exact ⟨rfl, L1.out⟩
  · have h40' : ¬ (40 : Int) < (n : Int) := by omega
    obtain ⟨r, hr⟩ : ∃ r, r = y / 2 := ⟨_, rfl⟩
    obtain ⟨p, hp⟩ : ∃ p, p = r % 4 := ⟨_, rfl⟩
    obtain ⟨k0, hk0⟩ : ∃ k, k = y % 2 := ⟨_, rfl⟩
    have hyr : ((y : Int)).tdiv 2 = (r : Int) := by rw [Int.tdiv_eq_ediv_of_nonneg (by omega)]; omega
    have hrp : ((r : Int)).tmod 4 = (p : Int) := by rw [Int.tmod_eq_emod_of_nonneg (by omega)]; omega
    have hyk : ((y : Int)).tmod 2 = (k0 : Int) := by rw [Int.tmod_eq_emod_of_nonneg (by omega)]; omega
    have hp3 : p ≤ 3 := by omega
    have hr7 : r < 128 := by omega
    have hwr : wrap64 (r : Int) = (r : Int) := by unfold wrap64; omega
    have hk01 : k0 ≤ 1 := by omega
    have HQ1 := Lib.hid q1
    have HQ2 := Lib.hid q2
    have HQ3 := Lib.hid q3
    have HQ4 := Lib.hid q4
    have HQ5 := Lib.hid q5
    have HF9 := Lib.hid (show ∀ w', Calls Try.prog 14 #[.int .u8 9, .bool false] w' fun e w'' => ∃ D m d, e = .returned (.slice D m d) ∧ Rd w'' D m d (u8n (fb 9 16)) ∧ (∀ q o, D = some ⟨q, o, none⟩ → w'.heap.size ≤ q) ∧ Below w'.heap.size w' w'' from fun w' => fill_rd (b := 9) (by omega) false w')
    have HF3 := Lib.hid (show ∀ w', Calls Try.prog 14 #[.int .u8 3, .bool false] w' fun e w'' => ∃ D m d, e = .returned (.slice D m d) ∧ Rd w'' D m d (u8n (fb 3 16)) ∧ (∀ q o, D = some ⟨q, o, none⟩ → w'.heap.size ≤ q) ∧ Below w'.heap.size w' w'' from fun w' => fill_rd (b := 3) (by omega) false w')
    have HF7 := Lib.hid (show ∀ w', Calls Try.prog 14 #[.int .u8 7, .bool false] w' fun e w'' => ∃ D m d, e = .returned (.slice D m d) ∧ Rd w'' D m d (u8n (fb 7 16)) ∧ (∀ q o, D = some ⟨q, o, none⟩ → w'.heap.size ≤ q) ∧ Below w'.heap.size w' w'' from fun w' => fill_rd (b := 7) (by omega) false w')
    obtain ⟨b9, hb9⟩ : ∃ b, b = fb 9 16 := ⟨_, rfl⟩
    obtain ⟨b3, hb3⟩ : ∃ b, b = fb 3 16 := ⟨_, rfl⟩
    obtain ⟨b7, hb7⟩ : ∃ b, b = fb 7 16 := ⟨_, rfl⟩
    have HB9 := Lib.hid (show byt b9 from by rw [hb9]; exact fb_byt 9 16)
    have HB3 := Lib.hid (show byt b3 from by rw [hb3]; exact fb_byt 3 16)
    have HB7 := Lib.hid (show byt b7 from by rw [hb7]; exact fb_byt 7 16)
    simp only [← hb9] at HF9 HQ2
    simp only [← hb3] at HF3 HQ3
    simp only [← hb7] at HF7 HQ4
    clear hb9 hb3 hb7 hr hp hk0
    obtain ⟨k, hk1, hpk, hway⟩ : ∃ k : Nat, k ≤ 1 ∧ ¬ (p = 2 ∧ k = 0) ∧ ((p = 2 ∧ k0 = 0 ∧ k = 1) ∨ (p = 2 ∧ ¬ k0 = 0 ∧ k = k0) ∨ (¬ p = 2 ∧ k = k0)) := by
      by_cases h2 : p = 2
      · by_cases h0 : k0 = 0
        · exact ⟨1, by omega, by omega, .inl ⟨h2, h0, rfl⟩⟩
        · exact ⟨k0, hk01, by omega, .inr (.inl ⟨h2, h0, rfl⟩)⟩
      · exact ⟨k0, hk01, by omega, .inr (.inr ⟨h2, rfl⟩)⟩
    have HPK := Lib.hid hpk
    have hfit : 10 * p + 2 + 4 * k + 4 ≤ 40 := by omega
    go_enter Try.func6, Try.ntmps6
    go_wp2_with (go_at_call 7; refine (wakes_any _).mono ?_; rintro e w1 ⟨rfl, hb1⟩; have L1 := Lib.hid hb1; clear hb1)
    refine (new_any 40 _).mono ?_
    rintro e w2 ⟨g, F2, rfl, hD2, hbl2, hf2⟩
    have HD2 := Lib.hid hD2
    have L2 := Lib.hid (L1.out.trans (hbl2.mono L1.out.size))
    have HF2 := Lib.hid (fun i hi => Nat.le_trans L1.out.size (hf2 i hi))
    clear hD2 hbl2 hf2
    obtain ⟨vb, hvb⟩ : ∃ vb : Bool, vb = decide (p = 2 ∧ k0 = 0) := ⟨_, rfl⟩
    have HVB := Lib.hid (show vb = true ↔ (p = 2 ∧ k0 = 0) from by rw [hvb]; simp)
    clear hvb
    have HW := Lib.hid hway
    clear hway hpk
    go_upto_region 7 with (fail)
    go_cut [36] (fun s36 wx => s36 = .bool vb ∧ w2 = wx)
    case first =>
      by_cases h2 : p = 2
      · by_cases h0 : k0 = 0
        · have hv := Lib.hid (HVB.out.2 ⟨h2, h0⟩)
          have e2 : (p : Int) = 2 := by omega
          have e0 : (k0 : Int) = 0 := by omega
          clear h2 h0
          go_wp2_with fail
          go_meet
          exact ⟨by rw [hv.out], rfl⟩
        · have hv := Lib.hid (show vb = false from by rw [Bool.eq_false_iff]; exact fun h => h0 (HVB.out.1 h).2)
          have e2 : (p : Int) = 2 := by omega
          have e0 : ¬ (k0 : Int) = 0 := by omega
          clear h2 h0
          go_wp2_with fail
          go_meet
          exact ⟨by rw [hv.out]; first | rfl | (simp; omega), rfl⟩
      · have hv := Lib.hid (show vb = false from by rw [Bool.eq_false_iff]; exact fun h => h2 (HVB.out.1 h).1)
        have e2 : ¬ (p : Int) = 2 := by omega
        clear h2
        go_wp2_with fail
        go_meet
        exact ⟨by rw [hv.out], rfl⟩
    case rest =>
    obtain ⟨rfl, rfl⟩ := hcut
    go_upto_if 36 with (fail)
    go_cut [7] (fun s7 wx => s7 = .int .i64 k ∧ w2 = wx)
    case first =>
      cases vb
      · have hv := Lib.hid (show k0 = k from by rcases HW.out with ⟨h1, h2, h3⟩ | ⟨h1, h2, h3⟩ | ⟨h1, h3⟩ <;> first | exact h3.symm | (have := HVB.out.2 ⟨h1, h2⟩; cases this))
        go_wp2_with fail
        go_meet
        exact ⟨by rw [hv.out], rfl⟩
      · have hv := Lib.hid (show 1 = k from by rcases HW.out with ⟨h1, h2, h3⟩ | ⟨h1, h2, h3⟩ | ⟨h1, h3⟩ <;> first | exact h3.symm | (have := HVB.out.1 rfl; omega))
        go_wp2_with fail
        go_meet
        exact ⟨by rw [← hv.out]; rfl, rfl⟩
    case rest =>
    obtain ⟨rfl, rfl⟩ := hcut
    clear HW HVB hrp hyk hyr hwr
    go_wp2_with fail
    refine (open_any F2 g (newSt 40) p k w2 HD2.out (by omega) (by omega) (by rw [new_len, show cnt 40 = 40 from rfl]; exact hfit) rfl (by simp [newSt]) (Put2.new_byts 40)).mono ?_
    rintro e w3 ⟨ao, J3, rfl, hS3, hJ3, hb3⟩
    have R3 := Lib.hid (fr_new (w0 := w) (p := p) (k := k) HD2.out HF2.out L2.out (by omega) (by omega) (by rw [show cnt 40 = 40 from rfl]; exact hfit) hS3 hJ3 hb3)
    clear hS3 hJ3 hb3 HD2 L2 HF2
    go_wp2_with fail
    refine (open_any F2 g (newSt 40) 2 0 w3 (Fr.dk R3.out) (by omega) (by omega) (by decide) rfl (by simp [newSt]) (Put2.new_byts 40)).mono ?_
    rintro e w4 ⟨ab, J4, rfl, hS4, hJ4, hb4⟩
    have T4 := Lib.hid (two_new R3.out hS4 hJ4 hb4)
    clear hS4 hJ4 hb4 R3
    go_wp2_with fail
    refine (fr_begin T4.out.fr 5 33 n5 n33).mono ?_
    intro e w5 hgo
    obtain ⟨rfl, F5, J5, s5, hR5, hk5, hg5⟩ := hgo
    have hv : (rB Rf.none 5 33).2 = 0 := by rw [HQ1.out]
    rw [hv]
    rw [show (rB Rf.none 5 33).1 = y1 from by rw [HQ1.out]] at hR5
    have T5 := Lib.hid (T4.out.step hR5 hk5 hg5)
    clear hR5 hk5 hg5 hv T4
    go_wp2_with fail
    refine (HF9.out _).mono ?_
    rintro e w6 ⟨D6, m6, d6, rfl, hr6, hn6, hb6⟩
    have T6 := Lib.hid (T5.out.below hb6)
    have HN6 := Lib.hid (fun b o (e : D6 = some ⟨b, o, none⟩) => newer T5.out.fr hn6 b o e)
    have HR6 := Lib.hid hr6
    clear hr6 hn6 hb6 T5
    go_wp2_with fail
    refine (fr_put T6.out.fr 5 1 D6 m6 d6 b9 n5 (by unfold n64; omega) HR6.out HB9.out HN6.out).mono ?_
    intro e w7 hgo
    obtain ⟨rfl, F7, J7, s7, hR7, hk7, hg7⟩ := hgo
    have hv : (rP y1 5 1 b9).2 = 0 := by rw [HQ2.out]
    rw [hv]
    rw [show (rP y1 5 1 b9).1 = y2 from by rw [HQ2.out]] at hR7
    have T7 := Lib.hid (T6.out.step hR7 hk7 hg7)
    clear hR7 hk7 hg7 hv T6 HN6 HR6
    go_wp2_with fail
    refine (HF3.out _).mono ?_
    rintro e w8 ⟨D8, m8, d8, rfl, hr8, hn8, hb8⟩
    have T8 := Lib.hid (T7.out.below hb8)
    have HN8 := Lib.hid (fun b o (e : D8 = some ⟨b, o, none⟩) => newer T7.out.fr hn8 b o e)
    have HR8 := Lib.hid hr8
    clear hr8 hn8 hb8 T7
    go_wp2_with fail
    refine (fr_put T8.out.fr 5 0 D8 m8 d8 b3 n5 (by unfold n64; omega) HR8.out HB3.out HN8.out).mono ?_
    intro e w9 hgo
    obtain ⟨rfl, F9, J9, s9, hR9, hk9, hg9⟩ := hgo
    have hv : (rP y2 5 0 b3).2 = 0 := by rw [HQ3.out]
    rw [hv]
    rw [show (rP y2 5 0 b3).1 = y3 from by rw [HQ3.out]] at hR9
    have T9 := Lib.hid (T8.out.step hR9 hk9 hg9)
    clear hR9 hk9 hg9 hv T8 HN8 HR8
    go_wp2_with fail
    refine (HF7.out _).mono ?_
    rintro e w10 ⟨D10, m10, d10, rfl, hr10, hn10, hb10⟩
    have T10 := Lib.hid (T9.out.below hb10)
    have HN10 := Lib.hid (fun b o (e : D10 = some ⟨b, o, none⟩) => newer T9.out.fr hn10 b o e)
    have HR10 := Lib.hid hr10
    clear hr10 hn10 hb10 T9
    go_wp2_with fail
    refine (fr_put T10.out.fr 5 2 D10 m10 d10 b7 n5 (by unfold n64; omega) HR10.out HB7.out HN10.out).mono ?_
    intro e w11 hgo
    obtain ⟨rfl, F11, J11, s11, hR11, hk11, hg11⟩ := hgo
    have hv : (rP y3 5 2 b7).2 = 0 := by rw [HQ4.out]
    rw [hv]
    rw [show (rP y3 5 2 b7).1 = y4 from by rw [HQ4.out]] at hR11
    have T11 := Lib.hid (T10.out.step hR11 hk11 hg11)
    clear hR11 hk11 hg11 hv T10 HN10 HR10
    go_wp2_with fail
    have hby := fr_bytes_new T11.out.fr
    rw [HQ5.out] at hby
    refine hby.mono ?_
    rintro e w12 ⟨B, mb, db, rfl, hr12, hb12, hn12⟩
    have HY := Lib.hid hr12
    have HNY := Lib.hid (show ∀ b o, B = some ⟨b, o, none⟩ → ¬ (J4 b) ∧ ¬ (F11 b) ∧ b < w12.heap.size from fun b o e => by
      have h1 := hn12 b o e
      have h2 := T11.out.fr.lt b
      have h3 := T11.out.sm.lt b
      have h4 : 0 < mb := by
        have := Rd.nats hr12
        rw [yb_len] at this
        omega
      obtain ⟨b', o', e', hlt, _⟩ := hr12.2.2.2 h4
      rw [e] at e'
      injection e' with e'
      injection e' with e1 _
      refine ⟨fun h => ?_, fun h => ?_, by omega⟩
      · have := h3 h; omega
      · have := h2 (.inl h); omega)
    have K0 := Lib.hid (show Kept w w12 F11 J4 g ab s11.S s11 Rf.none B mb db from ⟨(T11.out.below hb12).other hk1 HPK.out, hr12, fun b o e => ⟨fun hh => hh.elim (HNY.out b o e).2.1 (HNY.out b o e).1, (HNY.out b o e).2.2⟩⟩)
    have HOL := Lib.hid (show ∃ t : Slt, Inv (newSt 40).S s11 t y4 ∧ t.p = p ∧ t.k = k from by obtain ⟨t, _, h2⟩ := T11.out.fr.ex; exact ⟨t, h2⟩)
    clear hr12 hb12 hn12 hby T11 HNY HY HQ1 HQ2 HQ3 HQ4
    go_wp2_with fail
    go_loopw [85] (fun i' wr => ∃ (j : Nat) (F J : Nat → Prop) (s : St) (x : Rf), j ≤ n ∧ i' = .int .i64 j ∧ Hid (Kept w wr F J g ab s11.S s x B mb db)) (fun i' _ => n - (intOf i').toNat)
    case atStart => exact ⟨0, F11, J4, s11, Rf.none, by omega, rfl, K0⟩
    case round =>
      clear K0
      obtain ⟨j, F, J, s, x, hj, rfl, KK⟩ := hrel
      by_cases hlt : j < n
      · obtain ⟨r, b, o, hr, hm, hok, hA, hb, q0, q1, q2, q3, q4, q5, q6⟩ := (HA.out.below KK.out.fr.bel).at_ hlt
        subst hA
        obtain ⟨rk, rn, rz, rno, rb, rl, rkp⟩ := r
        dsimp only at q0 q1 q2 q3 q4 q5 q6
        have HC := Lib.hid hok
        have HK := Lib.hid (KK.out.below ((Below.refl _ _).alloc (Nat.le_refl _) (.cells #[.int .i64 rk, .int .i64 rn, .int .i64 rz, .int .i64 rno, .int .u8 (rb : Nat), .bool rl, .int .u64 (rkp : Nat)] 38)))
        clear hr hm hok
        by_cases hk0 : rk = 0
        · subst hk0
          have n1 := HC.out.n
          have n2 := HC.out.z
          go_wp2_with fail
          refine (fr_begin HK.out.fr rn rz n1 n2).mono ?_
          intro e w13 hgo
          obtain ⟨rfl, F13, J13, s13, hR13, hk13, hg13⟩ := hgo
          have K13 := Lib.hid (HK.out.step hR13 hk13 hg13)
          clear hR13 hk13 hg13
          go_wp2
          go_roundw
          case rel => exact ⟨j + 1, F13, J13, s13, _, by omega, by go_num, K13⟩
          case measure => simp [intOf]; omega
        · have e0 : (rk == 0) = false := by simpa using hk0
          by_cases hk1' : rk = 1
          · subst hk1'
            clear e0 hk0
            have n1 := HC.out.n
            have n2 := HC.out.no
            have hFI := fun w' => fill_rd HC.out.b rl w'
            obtain ⟨bs, hbs⟩ : ∃ bs, bs = fb rb (if rl then 17 else 16) := ⟨_, rfl⟩
            have HBY := Lib.hid (show byt bs from by rw [hbs]; exact fb_byt _ _)
            simp only [← hbs] at hFI
            have HFI := Lib.hid hFI
            have hFJ : ¬ (F wr.heap.size ∨ J wr.heap.size) := fun h => by have := KK.out.fr.lt _ h; omega
            have HFJ := Lib.hid hFJ
            have HX := Lib.hid (Blk.new wr 38 [.int .i64 1, .int .i64 rn, .int .i64 rz, .int .i64 rno, .int .u8 (rb : Nat), .bool rl, .int .u64 (rkp : Nat)])
            have HX' : Hid (Blk (wr.alloc (.cells #[.int .i64 1, .int .i64 rn, .int .i64 rz, .int .i64 rno, .int .u8 (rb : Nat), .bool rl, .int .u64 (rkp : Nat)] 38)) wr.heap.size 38 [.int .i64 1, .int .i64 rn, .int .i64 rz, .int .i64 rno, .int .u8 (rb : Nat), .bool rl, .int .u64 (rkp : Nat)]) := HX
            clear hbs hFI HX hFJ
            go_wp2_with fail
            clear q0 q1 q2 q3 q4 q5 q6
            generalize wr.alloc (.cells #[.int .i64 1, .int .i64 rn, .int .i64 rz, .int .i64 rno, .int .u8 (rb : Nat), .bool rl, .int .u64 (rkp : Nat)] 38) = wB at *
            have p1 := HX'.out.cell (i := 1) rfl
            have p3 := HX'.out.cell (i := 3) rfl
            have p4 := HX'.out.cell (i := 4) rfl
            have p5 := HX'.out.cell (i := 5) rfl
            have hgl := HX'.out.lt
            go_region_held3 (fun w' => w'.cell? ⟨wr.heap.size, 1, none⟩ = some (.int .i64 rn) ∧ w'.cell? ⟨wr.heap.size, 3, none⟩ = some (.int .i64 rno) ∧ w'.cell? ⟨wr.heap.size, 4, none⟩ = some (.int .u8 (rb : Nat)) ∧ w'.cell? ⟨wr.heap.size, 5, none⟩ = some (.bool rl))
              (first | go_keep | exact HXp.out | exact HXf.out)
              (first
               | (go_at_call 14; refine (HFI.out _).mono ?_; rintro e wf ⟨D, m, d, rfl, hr, hDD, hbf⟩; have hbw := (((Below.refl wB.heap.size wB).drew).trans hbf); have HXf := Lib.hid (show wf.cell? ⟨wr.heap.size, 1, none⟩ = some (.int .i64 rn) ∧ wf.cell? ⟨wr.heap.size, 3, none⟩ = some (.int .i64 rno) ∧ wf.cell? ⟨wr.heap.size, 4, none⟩ = some (.int .u8 (rb : Nat)) ∧ wf.cell? ⟨wr.heap.size, 5, none⟩ = some (.bool rl) from ⟨(HX'.out.below hbw).cell rfl, (HX'.out.below hbw).cell rfl, (HX'.out.below hbw).cell rfl, (HX'.out.below hbw).cell rfl⟩); have HKf := Lib.hid (HK.out.below hbw); have HNf := Lib.hid (HK.out.newer (D := D) hDD); have HDf := Lib.hid hr; have HBf := Lib.hid (HX'.out.below hbw); clear hr hbw hbf hDD)
               | (go_at_call 13; refine (fr_put HKf.out.fr rn rno _ _ _ bs n1 n2 HDf.out HBY.out HNf.out).mono ?_; intro e wp hgo; obtain ⟨rfl, F13, J13, s13, hR13, hk13, hg13⟩ := hgo; have K13 := Lib.hid (HKf.out.step hR13 hk13 hg13); have hBp := hk13.blk HBf.out HFJ.out; have HXp := Lib.hid (show wp.cell? ⟨wr.heap.size, 1, none⟩ = some (.int .i64 rn) ∧ wp.cell? ⟨wr.heap.size, 3, none⟩ = some (.int .i64 rno) ∧ wp.cell? ⟨wr.heap.size, 4, none⟩ = some (.int .u8 (rb : Nat)) ∧ wp.cell? ⟨wr.heap.size, 5, none⟩ = some (.bool rl) from ⟨hBp.cell rfl, hBp.cell rfl, hBp.cell rfl, hBp.cell rfl⟩); clear hR13 hk13 hg13 hBp))
            all_goals
              clear p1 p3 p4 p5
              go_wp2
              go_roundw
              case rel => exact ⟨j + 1, F13, J13, s13, _, by omega, by go_num, K13⟩
              case measure => simp [intOf]; omega
          · have e1 : (rk == 1) = false := by simpa using hk1'
            by_cases hk2 : rk = 2
            · subst hk2
              clear e0 e1 hk0 hk1'
              go_wp2_with fail
              refine (fr_clear HK.out.fr).mono ?_
              intro e w13 hgo
              obtain ⟨rfl, F13, J13, s13, hR13, hk13, hg13⟩ := hgo
              have K13 := Lib.hid (HK.out.step hR13 hk13 hg13)
              clear hR13 hk13 hg13
              go_wp2
              go_roundw
              case rel => exact ⟨j + 1, F13, J13, s13, _, by omega, by go_num, K13⟩
              case measure => simp [intOf]; omega
            · have e2 : (rk == 2) = false := by simpa using hk2
              clear hk0 hk1' hk2
              go_wp2
              go_roundw
              case rel => exact ⟨j + 1, F, J, s, x, by omega, by go_num, HK⟩
              case measure => simp [intOf]; omega
      · obtain rfl : j = n := by omega
        have hst : Inv s.S s (pO s p k) y4 := by
          obtain ⟨t, ht, htp, htk⟩ := HOL.out
          obtain ⟨t2, hd2, h2, hp2, hk2⟩ := KK.out.fr.ex
          have h := still_inv ht h2 hp2 hk2 (by omega) (by rw [htp, htk]; exact HPK.out)
          rw [htp, htk] at h
          exact h
        have HST := Lib.hid hst
        clear hst
        go_wp2_with fail
        refine (open_any F g s p k wr (Fr.dk KK.out.fr) (by omega) (by omega) HST.out.len HST.out.up.1 (by rw [HST.out.up.none_]; exact Nat.zero_le _) HST.out.byts).mono ?_
        rintro e w13 ⟨an, J13, rfl, hS13, hJ13, hb13⟩
        have R13 := Lib.hid (re_fr KK.out.fr HST.out hS13 hJ13 hb13 (by omega) (by omega))
        have HY13 := Lib.hid (KK.out.rd.below hb13)
        clear hS13 hJ13 hb13 HST KK HOL
        go_wp2_with fail
        have hby := fr_bytes R13.out
        rw [HQ5.out] at hby
        refine hby.mono ?_
        rintro e w14 ⟨B2, m2, d2, rfl, hr14, hb14⟩
        obtain rfl : 33 = m2 := by have := Rd.nats hr14; rw [yb_len] at this; exact this
        have HY14 := Lib.hid (HY13.out.below hb14)
        have HN14 := Lib.hid hr14
        have L14 := Lib.hid (R13.out.bel.trans (hb14.mono R13.out.bel.size))
        clear hr14 hb14 hby HY13 R13
        go_wp2_with fail
        refine (same_n HY14.out HN14.out).mono ?_
        rintro e w15 ⟨rfl, nq, rfl⟩
        rw [show decide (yb = yb) = true from by simp]
        go_wp2
        go_ret
        exact ⟨rfl, below_drewN L14.out _⟩
set_option maxRecDepth 100000 in
theorem hole {H : Type} (enc : TypeId × Value → H) (base : Nat) (v0 : Value) (d0 : DataW H) (p0 : List MemPlace) (a1 : Int) (w : World) (w0 : DataW.Trod enc Try.prog w 0 (fun _ => true) true 22 v0 d0 p0) (o0 : Value.okWide Try.prog w .any base 22 v0) (w1 : (Lit.int .u8 a1).wf = true) :
    Calls Try.prog 6 #[v0, .int .u8 a1] w fun e w' => e = .returned (.bool true) ∧ Below w.heap.size w w' := by
  obtain ⟨A, n, c, R, rfl, hr⟩ := open_acts w0 o0
  obtain ⟨y, hy, rfl⟩ : ∃ y : Nat, y < 256 ∧ a1 = y := by have h := bounds_u8 w1; exact ⟨a1.toNat, by omega, by omega⟩
  exact core A n c R y w hr hy
end Go.Proofs.Ythgmocipiknfpaa.StageApartW
