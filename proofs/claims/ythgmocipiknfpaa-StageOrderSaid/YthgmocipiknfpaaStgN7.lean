/- A block put into a slot, by the program: the way on which the block is written. Conditions: disk and slot lie as the facts say; the data read as the bytes that are named, and are neither the disk's nor the slot's; numbers of 64 bits. -/
import Derived.Test.YthgmocipiknfpaaStgN6
namespace Go.Proofs.Ythgmocipiknfpaa.StgN
open Go.RowKit Go.Proofs.Ythgmocipiknfpaa.Kit Go.Proofs.Ythgmocipiknfpaa.Byt Go.Proofs.Ythgmocipiknfpaa.Mem Go.Proofs.Ythgmocipiknfpaa.DskA Go.Proofs.Ythgmocipiknfpaa.DskC Go.Proofs.Ythgmocipiknfpaa.DskD Go.Proofs.Ythgmocipiknfpaa.DskE Go.Proofs.Ythgmocipiknfpaa.DskF Go.Proofs.Ythgmocipiknfpaa.RecM Go.Proofs.Ythgmocipiknfpaa.StgM
open Go.Proofs.Ythgmocipiknfpaa.RecA (sval scells sok n64)
open Go.Proofs.Ythgmocipiknfpaa.BitM (hb pw)
open Go.Proofs.Ythgmocipiknfpaa.BitB (wv)

theorem block_at {k : Nat} (hk : k ≤ 9) (w : World) : Calls Try.prog 36 #[.int .i64 (k : Nat)] w fun e w' => e = .returned (.tuple #[.int .i64 ((k / 4 : Nat) : Int), .int .i64 ((16 * (k % 4) : Nat) : Int), .bool true]) ∧ Below w.heap.size w w' := by
  have h := PlaN.block_any (k : Int) w (n64_nat (by omega))
  rw [show PlaN.bi (k : Int) = ((k / 4 : Nat) : Int) from by unfold PlaN.bi; rw [if_pos (by omega)]; omega, show PlaN.bf (k : Int) = ((16 * (k % 4) : Nat) : Int) from by unfold PlaN.bf; rw [if_pos (by omega)]; omega, show PlaN.bb (k : Int) = true from by unfold PlaN.bb; exact decide_eq_true_iff.2 (by omega)] at h
  exact h
theorem img_no {w w' : World} {s : St} {i : Nat} {e : Ending} (hd : s.down = true) (h : Img w s i e w') : Below w.heap.size w w' ∧ ∃ A n, e = .returned (.tuple #[.agg #[.int .i64 (i : Int), .slice A n n], .int .i64 8]) := by
  obtain ⟨h1, A, n, h2, _⟩ := h
  rw [if_pos hd] at h2
  exact ⟨h1, A, n, h2⟩
theorem img_yes {w w' : World} {s : St} {i : Nat} {e : Ending} (hd : s.down = false) (h : Img w s i e w') : Below w.heap.size w w' ∧ ∃ b, e = .returned (.tuple #[.agg #[.int .i64 (i : Int), .slice (some ⟨b, 0, none⟩) 64 64], .int .i64 0]) ∧ Blk w' b 5 (u8n (now s i)) ∧ w.heap.size ≤ b ∧ (now s i).length = 64 := by
  obtain ⟨h1, A, n, h2, h3⟩ := h
  rw [if_neg (by rw [hd]; simp)] at h2
  obtain ⟨rfl, h4⟩ := h3.out hd
  obtain ⟨b, rfl, _⟩ := DskB.own_some h4 (by omega)
  have hl := h4.1
  rw [u8n_len] at hl
  exact ⟨h1, b, h2, (blk_of_own h4).1, (blk_of_own h4).2, by omega⟩
/-- What 'tell' is called with. -/
theorem put_tell {w w4 : World} {F J : Nat → Prop} {g a : Nat} {s : St} {t : Slt} (h : DS w F J g a s t) (L4 : Below w.heap.size w w4) {b : Nat} {sb : List Nat} (HB4 : Blk w4 b 5 (u8n sb)) (hb : w.heap.size ≤ b) (hl : sb.length = 64) {u : Nat} (hu : u < s.S.length) {nx : Sg} (hk : sok nx) (hr : nx.right) (o : Obj) :
    Calls Try.prog 32 #[.pointer (some ⟨a, 0, none⟩), sval nx, .slice (some ⟨w4.heap.size + 1, 0, none⟩) 1 1] ((w4.alloc o).alloc (.cells #[.int .i64 (u : Nat), .slice (some ⟨b, 0, none⟩) 64 64] 78)) (Sgo F J g a w (.int .i64 (pQ s [(u, sb), (t.at_, shut nx.bytes)]).2) (pQ s [(u, sb), (t.at_, shut nx.bytes)]).1 (became t true nx (pQ s [(u, sb), (t.at_, shut nx.bytes)]).2)) := by
  have hs4 := L4.size
  have L5 : Below w.heap.size w (w4.alloc o) := L4.alloc L4.size o
  have L6 := L5.alloc L5.size (.cells #[.int .i64 (u : Nat), .slice (some ⟨b, 0, none⟩) 64 64] 78)
  have hB6 := (HB4.alloc o).alloc (.cells #[.int .i64 (u : Nat), .slice (some ⟨b, 0, none⟩) 64 64] 78)
  have hS6 := Blk.new (w4.alloc o) 78 (stepc u (some ⟨b, 0, none⟩) 64 64)
  have hz : (w4.alloc o).heap.size = w4.heap.size + 1 := World.size_alloc _ _
  rw [hz] at hS6
  have hlt := h.lt
  have hbl := HB4.lt
  have hown : ((w4.alloc o).alloc (.cells #[.int .i64 (u : Nat), .slice (some ⟨b, 0, none⟩) 64 64] 78)).ownsRow w.heap.size 78 2 (.slice (some ⟨w4.heap.size + 1, 0, none⟩) 1 1) 1 (stc [⟨u, some ⟨b, 0, none⟩, 64, sb⟩]) :=
    ⟨rfl, .inr ⟨w4.heap.size + 1, 1, _, rfl, by omega, hS6, by omega, by unfold maxLen; omega, rfl, rfl⟩⟩
  exact tell_any L6 h nx hk hr _ 1 1 [⟨u, some ⟨b, 0, none⟩, 64, sb⟩] (by omega) hown (fun e he => by
    rw [List.mem_singleton.1 he]
    refine ⟨⟨blk_rd hB6 hl (by omega), fun q o' hA hF => ?_, hu⟩, fun q o' hA => ⟨fun hJ => ?_, fun e' => ?_⟩⟩
    · have h1 := hlt q (.inl hF)
      injection hA with hA
      injection hA with hA _
      omega
    · have h1 := hlt q (.inr hJ)
      injection hA with hA
      injection hA with hA _
      omega
    · injection hA with hA
      injection hA with hA _
      have e2 : w4.heap.size + 1 = q := by
        have : some (w4.heap.size + 1) = some q := e'
        injection this
      omega)
section
variable {F J : Nat → Prop} {g a : Nat} {s : St} {t : Slt} {D : Option Addr} {d k : Nat} {xs : List Nat} {w : World}
set_option maxRecDepth 100000 in
set_option maxHeartbeats 3200000 in
theorem put_dead (h : DS w F J g a s t) (hg : t.g.right) (hm : xs.length = 16) (h1 : t.has = true) (hk : k < blocks t.g.z) (h5 : hb t.g.h k = false) (hd : s.down = true) :
    Calls Try.prog 13 #[.pointer (some ⟨a, 0, none⟩), .int .i64 t.g.s, .int .i64 (k : Nat), .slice D 16 d] w (Sgo F J g a w (.int .i64 8) s t) := by
  have hk10 : k ≤ 9 := by have := blocks_10 hg.2.1.2; omega
  obtain ⟨_, _, _, c3, c4, c5⟩ := h.sm.cells
  have HS := Lib.hid (show Calls Try.prog 33 #[.pointer (some ⟨a, 0, none⟩)] w fun e w' => e = .returned (.bool true) ∧ w = w' from by have := staged_any h.sm; rw [h1] at this; exact this)
  have HB := Lib.hid (fun w' => RecG.blocks_any t.g.z w' h.sm.ok.z)
  have HH := Lib.hid (show ∀ w', Calls Try.prog 35 #[.int .i64 t.g.h, .int .i64 (k : Nat)] w' fun e w'' => e = .returned (.bool false) ∧ w' = w'' from fun w' => by have := BitO.has_any t.g.h k w'; rw [h5] at this; exact this)
  have HP := Lib.hid (fun w' => block_at hk10 w')
  have HIM := Lib.hid (fun w' (hb : Below w.heap.size w w') => (image_any (h.below hb) (k / 4) (by omega)).mono fun _ _ => img_no hd)
  have H := Lib.hid h
  obtain ⟨gs, hgs⟩ : ∃ gs, gs = t.g.s := ⟨_, rfl⟩
  obtain ⟨gz, hgz⟩ : ∃ gz, gz = t.g.z := ⟨_, rfl⟩
  obtain ⟨gh, hgh⟩ : ∃ gh, gh = t.g.h := ⟨_, rfl⟩
  obtain ⟨B, hB⟩ : ∃ B, B = blocks t.g.z := ⟨_, rfl⟩
  obtain ⟨q, hq⟩ : ∃ q, q = k / 4 := ⟨_, rfl⟩
  obtain ⟨o, ho⟩ : ∃ o, o = 16 * (k % 4) := ⟨_, rfl⟩
  rw [← hq] at HP HIM
  rw [← ho] at HP
  rw [← hB] at HB hk
  rw [← hgz] at HB c4
  rw [← hgs] at c3 ⊢
  rw [← hgh] at c5 HH
  have h30 : ¬ ((k : Int) < 0) := by omega
  have h31 : ¬ ((B : Int) ≤ (k : Int)) := by omega
  clear h hg hm h1 h5 hd hgs hgz hgh hB hq ho hk
  go_enter Try.func13, Try.ntmps13
  go_wp2_with (first
    | (go_at_call 33; refine HS.out.mono ?_; rintro e w1 ⟨rfl, rfl⟩)
    | (go_at_call 34; refine (HB.out _).mono ?_; rintro e w1 ⟨rfl, rfl⟩)
    | (go_at_call 35; refine (HH.out _).mono ?_; rintro e w1 ⟨rfl, rfl⟩)
    | (go_at_call 36; refine (HP.out _).mono ?_; rintro e w1 ⟨rfl, hb1⟩; have L1 := Lib.hid hb1; clear hb1)
    | (go_at_call 37; refine (HIM.out _ L1.out).mono ?_; rintro e w2 ⟨hb2, A, n, rfl⟩; have L2 := Lib.hid (L1.out.trans (hb2.mono L1.out.size)); clear hb2))
  go_ret
  have L3 := L2.out.alloc L2.out.size (.cells #[.int .i64 (t.dat q : Nat), .slice A n n] 78)
  exact Sgo.disk H.out (H.out.dk.below L3) (Keep.of_below L3) fun i hi => .inl hi
set_option maxRecDepth 100000 in
set_option maxHeartbeats 6400000 in
theorem put_live (h : DS w F J g a s t) (hg : t.g.right) (hR : Rd w D 16 d (u8n xs)) (h1 : t.has = true) (hk : k < blocks t.g.z) (h5 : hb t.g.h k = false) (hd : s.down = false) :
    Calls Try.prog 13 #[.pointer (some ⟨a, 0, none⟩), .int .i64 t.g.s, .int .i64 (k : Nat), .slice D 16 d] w (Sgo F J g a w (.int .i64 (pP s t t.g.s k xs).2.2) (pP s t t.g.s k xs).1 (pP s t t.g.s k xs).2.1) := by
  have hm : xs.length = 16 := Rd.nats hR
  have hk10 : k ≤ 9 := by have := blocks_10 hg.2.1.2; omega
  obtain ⟨_, _, _, c3, c4, c5⟩ := h.sm.cells
  have HS := Lib.hid (show Calls Try.prog 33 #[.pointer (some ⟨a, 0, none⟩)] w fun e w' => e = .returned (.bool true) ∧ w = w' from by have := staged_any h.sm; rw [h1] at this; exact this)
  have HB := Lib.hid (fun w' => RecG.blocks_any t.g.z w' h.sm.ok.z)
  have HH := Lib.hid (show ∀ w', Calls Try.prog 35 #[.int .i64 t.g.h, .int .i64 (k : Nat)] w' fun e w'' => e = .returned (.bool false) ∧ w' = w'' from fun w' => by have := BitO.has_any t.g.h k w'; rw [h5] at this; exact this)
  have HP := Lib.hid (fun w' => block_at hk10 w')
  have HIM := Lib.hid (fun w' (hb : Below w.heap.size w w') => (image_any (h.below hb) (k / 4) (by omega)).mono fun _ _ => img_yes hd)
  have HWI := Lib.hid (fun w' => BitO.with_any t.g.h k w' h.sm.ok.h)
  have HRD := Lib.hid hR
  have HXL := Lib.hid hm
  have H := Lib.hid h
  have HPP := Lib.hid (pP_eq (s := s) (t := t) (n := t.g.s) (no := (k : Int)) (d := xs) h1 rfl ⟨by omega, by omega⟩ hm h5)
  have HMR := Lib.hid (more_right hg hk h5)
  obtain ⟨R, hRR⟩ : ∃ R, R = pP s t t.g.s k xs := ⟨_, rfl⟩
  rw [← hRR] at HPP ⊢
  clear hRR
  obtain ⟨mg, hmg⟩ : ∃ mg, mg = more t.g k := ⟨_, rfl⟩
  rw [← hmg] at HPP HMR
  have HMG := Lib.hid (show mg = ⟨t.g.s, t.g.z, wv t.g.h k⟩ from hmg)
  obtain ⟨gs, hgs⟩ : ∃ gs, gs = t.g.s := ⟨_, rfl⟩
  obtain ⟨gz, hgz⟩ : ∃ gz, gz = t.g.z := ⟨_, rfl⟩
  obtain ⟨gh, hgh⟩ : ∃ gh, gh = t.g.h := ⟨_, rfl⟩
  obtain ⟨B, hB⟩ : ∃ B, B = blocks t.g.z := ⟨_, rfl⟩
  obtain ⟨q, hq⟩ : ∃ q, q = k / 4 := ⟨_, rfl⟩
  obtain ⟨o, ho⟩ : ∃ o, o = 16 * (k % 4) := ⟨_, rfl⟩
  rw [← hq] at HP HIM
  rw [← ho] at HP
  rw [← hB] at HB hk
  rw [← hgz] at HB c4 HMG
  rw [← hgs] at c3 HMG ⊢
  rw [← hgh] at c5 HH HWI HMG
  obtain ⟨gv, hgv⟩ : ∃ gv, gv = wv gh k := ⟨_, rfl⟩
  rw [← hgv] at HWI HMG
  have HEQ := Lib.hid (And.intro hgs (And.intro hgz hgh))
  have HQO := Lib.hid (show q = k / 4 ∧ o = 16 * (k % 4) from ⟨hq, ho⟩)
  have ho48 : (o : Int) ≤ 48 := by omega
  have h30 : ¬ ((k : Int) < 0) := by omega
  have h31 : ¬ ((B : Int) ≤ (k : Int)) := by omega
  obtain ⟨u, hu⟩ : ∃ u, u = t.dat q := ⟨_, rfl⟩
  rw [← hu] at HIM
  have HU := Lib.hid hu
  obtain ⟨nb, hnb⟩ : ∃ nb, nb = now s u := ⟨_, rfl⟩
  rw [← hnb] at HIM
  have HNB := Lib.hid hnb
  have HTL := Lib.hid (show ∀ (w4 : World) (b : Nat), Below w.heap.size w w4 → Blk w4 b 5 (u8n (into nb o xs)) → (w.heap.size ≤ b ∧ nb.length = 64) → ∀ ob : Obj, Calls Try.prog 32 #[.pointer (some ⟨a, 0, none⟩), .agg #[.int .i64 gs, .int .i64 gz, .int .i64 gv], .slice (some ⟨w4.heap.size + 1, 0, none⟩) 1 1] ((w4.alloc ob).alloc (.cells #[.int .i64 (u : Nat), .slice (some ⟨b, 0, none⟩) 64 64] 78)) (Sgo F J g a w (.int .i64 R.2.2) R.1 R.2.1) from fun w4 b h4 hB4 hbb ob => by
    have hf := h.fits
    have hT := put_tell h h4 hB4 hbb.1 (StgP.into_len hbb.2 (by omega) hm) (u := u) (by rw [hu, hq]; unfold Slt.dat; omega) (nx := mg) (right_ok HMR.out) HMR.out ob
    have e : sect s t (k : Int).toNat xs = into nb o xs := by
      unfold sect
      rw [show (k : Int).toNat = k from by omega, ← hq, ← ho, hnb, hu]
    rw [HPP.out, e, show (k : Int).toNat = k from by omega, ← hq, ← hu]
    rw [HMG.out] at hT ⊢
    exact hT)
  clear h hg hm hR h1 h5 hd hgs hgz hgh hB hq ho hk hmg hgv hu hnb hk10
  go_enter Try.func13, Try.ntmps13
  go_wp2_with (first
    | (go_at_call 33; refine HS.out.mono ?_; rintro e w1 ⟨rfl, rfl⟩)
    | (go_at_call 34; refine (HB.out _).mono ?_; rintro e w1 ⟨rfl, rfl⟩)
    | (go_at_call 35; refine (HH.out _).mono ?_; rintro e w1 ⟨rfl, rfl⟩)
    | (go_at_call 36; refine (HP.out _).mono ?_; rintro e w1 ⟨rfl, hb1⟩; have L1 := Lib.hid hb1; clear hb1)
    | (go_at_call 37; refine (HIM.out _ L1.out).mono ?_; rintro e w2 ⟨hb2, b, rfl, hB2, hbb, hl2⟩; have L2 := L1.out.trans (hb2.mono L1.out.size); have L3 := Lib.hid (L2.alloc L2.size (.cells #[.int .i64 (u : Nat), .slice (some ⟨b, 0, none⟩) 64 64] 78)); have HB3 := Lib.hid (hB2.alloc (.cells #[.int .i64 (u : Nat), .slice (some ⟨b, 0, none⟩) 64 64] 78)); have HR3 := Lib.hid (HRD.out.below L3.out); have HBB := Lib.hid (show w.heap.size ≤ b ∧ b < w2.heap.size ∧ nb.length = 64 from ⟨Nat.le_trans L1.out.size hbb, hB2.lt, hl2⟩); have HS3 := Lib.hid (Blk.new w2 78 (stepc u (some ⟨b, 0, none⟩) 64 64)); clear hb2 hB2 hbb hl2 L2)
    | (refine wpList_copy_part rfl (.tmp 73) (.tmp 74) 43 43 rfl 5 Try.underlying43 DskB.size8 b o (64 - o) (64 - o) rfl rfl HR3.out (u8n_one _) HB3.out (by rw [u8n_len, HBB.out.2.2]; omega) ?_; intro w4 m hm hB4 ho4; obtain rfl : m = 16 := (by have := hm.out; omega); have L4 := Lib.hid (ho4.out.below L3.out HBB.out.1 L3.out.size); have HB4 := Lib.hid (show Blk w4 b 5 (u8n (into nb o xs)) from into_splice HXL.out ▸ hB4.out); have HS4 := Lib.hid (ho4.out.blk HS3.out (by have := HBB.out.2.1; omega)); obtain ⟨_, _, _, c3', c4', c5'⟩ := (H.out.sm.below L4.out).cells; have hal := (H.out.sm.below L4.out).blk.lt; obtain ⟨e1, e2, e3⟩ := HEQ.out; rw [← e1] at c3'; rw [← e2] at c4'; rw [← e3] at c5'; have s0 : w4.cell? ⟨w2.heap.size, 0, none⟩ = some (.int .i64 (u : Nat)) := HS4.out.cell rfl; have s1 : w4.cell? ⟨w2.heap.size, 1, none⟩ = some (.slice (some ⟨b, 0, none⟩) 64 64) := HS4.out.cell rfl; have h24 := HS4.out.lt; clear e1 e2 e3 c3 c4 c5 hm hB4 ho4 HB3 HR3 HS3)
    | (go_at_call 38; refine (HWI.out _).mono ?_; rintro e w5 ⟨rfl, rfl⟩)
    | (go_at_call 32; refine (HTL.out w4 b L4.out HB4.out ⟨HBB.out.1, HBB.out.2.2⟩ _).mono ?_; rintro e w6 ⟨rfl, hgo⟩; have HGO := Lib.hid hgo; clear hgo))
  go_ret
  exact ⟨rfl, HGO.out⟩
end
theorem put_any (F J : Nat → Prop) (g a : Nat) (s : St) (t : Slt) (n no : Int) (D : Option Addr) (m d : Nat) (xs : List Nat) (w : World) (h : DS w F J g a s t) (_ : n64 n) (hno : n64 no) (hg : t.has = true → t.g.right) (hR : Rd w D m d (u8n xs)) (_ : byt xs) (_ : ∀ b o, D = some ⟨b, o, none⟩ → ¬ F b ∧ ¬ J b) :
    Calls Try.prog 13 #[.pointer (some ⟨a, 0, none⟩), .int .i64 n, .int .i64 no, .slice D m d] w (Sgo F J g a w (.int .i64 (pP s t n no xs).2.2) (pP s t n no xs).1 (pP s t n no xs).2.1) := by
  have hm : xs.length = m := Rd.nats hR
  have early : (t.has = false ∨ (t.has = true ∧ n ≠ t.g.s) ∨ (t.has = true ∧ n = t.g.s ∧ (no < 0 ∨ (blocks t.g.z : Int) ≤ no)) ∨ (t.has = true ∧ n = t.g.s ∧ ¬ (no < 0 ∨ (blocks t.g.z : Int) ≤ no) ∧ m ≠ 16) ∨ (t.has = true ∧ n = t.g.s ∧ ¬ (no < 0 ∨ (blocks t.g.z : Int) ≤ no) ∧ m = 16 ∧ hb t.g.h no = true)) →
      Calls Try.prog 13 #[.pointer (some ⟨a, 0, none⟩), .int .i64 n, .int .i64 no, .slice D m d] w (Sgo F J g a w (.int .i64 (pP s t n no xs).2.2) (pP s t n no xs).1 (pP s t n no xs).2.1) := fun hc =>
    (put_early (D := D) (d := d) h hno hm hc).mono fun e w' he => by
      obtain ⟨rfl, h2, rfl⟩ := he
      have e1 : (pP s t n no xs).1 = s := by rw [h2]
      have e2 : (pP s t n no xs).2.1 = t := by rw [h2]
      rw [e1, e2]
      exact Sgo.disk h h.dk (Keep.refl _ _) fun i hi => .inl hi
  cases h1 : t.has with
  | false => exact early (.inl h1)
  | true =>
    by_cases h2 : n = t.g.s
    · by_cases h3 : no < 0 ∨ (blocks t.g.z : Int) ≤ no
      · exact early (.inr (.inr (.inl ⟨h1, h2, h3⟩)))
      · by_cases h4 : m = 16
        · cases h5 : hb t.g.h no with
          | true => exact early (.inr (.inr (.inr (.inr ⟨h1, h2, h3, h4, h5⟩))))
          | false =>
            obtain ⟨k, rfl⟩ : ∃ k : Nat, no = k := ⟨no.toNat, by omega⟩
            subst h2 h4
            cases hd : s.down with
            | true =>
              rw [pP_down h1 rfl ⟨by omega, by omega⟩ hm h5 hd]
              exact put_dead h (hg h1) hm h1 (by omega) h5 hd
            | false => exact put_live h (hg h1) hR h1 (by omega) h5 hd
        · exact early (.inr (.inr (.inr (.inl ⟨h1, h2, h3, h4⟩))))
    · exact early (.inr (.inl ⟨h1, h2⟩))
end Go.Proofs.Ythgmocipiknfpaa.StgN
