/- The laws' own example: a write that is lost, a write that is kept. No conditions. -/
import Derived.Test.YtdofnoaadkpniaaSame
import Derived.Test.YtdofnoaadkpniaaDskE
namespace Go.Proofs.Ytdofnoaadkpniaa.DskF
open Go.RowKit Go.Proofs.Ytdofnoaadkpniaa.Kit Go.Proofs.Ytdofnoaadkpniaa.Byt Go.Proofs.Ytdofnoaadkpniaa.Mem Go.Proofs.Ytdofnoaadkpniaa.Same Go.Proofs.Ytdofnoaadkpniaa.DskA Go.Proofs.Ytdofnoaadkpniaa.DskB Go.Proofs.Ytdofnoaadkpniaa.DskC Go.Proofs.Ytdofnoaadkpniaa.DskD Go.Proofs.Ytdofnoaadkpniaa.DskE

/-- A disk that is up, with no fuse. -/
theorem spend_free {s : St} (h1 : s.fuse < 0) (h2 : s.down = false) : spend s = (true, s) := by
  rw [spend, if_neg (by omega), h2, if_neg (by simp), if_neg (by omega)]
theorem cnt2 : cnt 2 = 2 := rfl
def wrote (s : St) (i : Nat) (bs : List Nat) : St := { s with L := s.L ++ [(i, bs)] }
theorem power0 : power 0 (wrote (newSt 2) 1 (fl 7 64)) = newSt 2 := by
  simp [power, wrote, lay, laidTo, kb, newSt]
theorem power1 : power 1 (wrote (newSt 2) 1 (fl 7 64)) = { newSt 2 with S := [zs 64, fl 7 64] } := by
  simp [power, wrote, lay, laidTo, kb, newSt, cnt2, List.replicate]
theorem now0 : now (newSt 2) 1 = zs 64 := by simp [now, newSt, cnt2, List.replicate]
theorem now1 : now { newSt 2 with S := [zs 64, fl 7 64] } 1 = fl 7 64 := by simp [now, newSt]

theorem Below.drewN {B : Nat} {w w' : World} (h : Below B w w') (n : Nat) : Below B w (w'.drewN n) := ⟨h.os, h.tape, h.output, h.size, h.block⟩
/-- A disk that is up and has no fuse; its blocks are beyond B; what lay below B lies as it did. -/
structure Up (w0 w : World) (F : Nat → Prop) (g : Nat) (s : St) : Prop where
  dk : Dk w F g s
  low : ∀ k, F k → w0.heap.size ≤ k
  bel : Below w0.heap.size w0 w
theorem Up.step {w0 w w' : World} {F : Nat → Prop} {g : Nat} {s s' : St} {v : Value} {e : Ending} (h : Up w0 w F g s) (hg : Got F g w v s' e w') : e = .returned v ∧ ∃ F', Up w0 w' F' g s' ∧ Keep F w w' ∧ ∀ k, F' k → F k ∨ w.heap.size ≤ k := by
  obtain ⟨he, F', hD, hk, hf⟩ := hg
  have hs := h.bel.size
  refine ⟨he, F', ⟨hD, fun k hk => ?_, h.bel.trans (hk.below h.low hs)⟩, hk, hf⟩
  rcases hf k hk with h1 | h1
  · exact h.low k h1
  · omega
theorem Up.under {w0 w w' : World} {F : Nat → Prop} {g : Nat} {s : St} (h : Up w0 w F g s) (hb : Below w.heap.size w w') : Up w0 w' F g s :=
  ⟨h.dk.below hb, h.low, h.bel.trans (hb.mono h.bel.size)⟩

theorem Up.drew {w0 w : World} {F : Nat → Prop} {g : Nat} {s : St} (h : Up w0 w F g s) : Up w0 w.drew F g s :=
  ⟨h.dk.keep ((Keep.refl (fun _ => False) w).drew) fun _ _ h => h, h.low, h.bel.drew⟩
theorem Up.drewN {w0 w : World} {F : Nat → Prop} {g : Nat} {s : St} (h : Up w0 w F g s) (n : Nat) : Up w0 (w.drewN n) F g s :=
  ⟨h.dk.keep ((Keep.refl (fun _ => False) w).drewN n) fun _ _ h => h, h.low, Below.drewN h.bel n⟩
/-- What a call on such a disk hands back and leaves. -/
def Went (w0 : World) (F : Nat → Prop) (g : Nat) (w : World) (v : Value) (s' : St) (e : Ending) (w' : World) : Prop :=
  e = .returned v ∧ ∃ F', Up w0 w' F' g s' ∧ Keep F w w' ∧ ∀ k, F' k → F k ∨ w.heap.size ≤ k
section
variable {w0 w : World} {F : Nat → Prop} {g : Nat} {s : St}
theorem Up.write (h : Up w0 w F g s) (h1 : s.fuse < 0) (h2 : s.down = false) {i : Nat} (hi : i < s.S.length) {A : Option Addr} {c : Nat} {bs : List Nat} (hR : Rd w A 64 c (u8n bs)) (hA : ∀ b o, A = some ⟨b, o, none⟩ → ¬ F b) (hL : s.L.length ≤ 1000000000) :
    Calls Try.prog 12 #[.pointer (some ⟨g, 0, none⟩), .int .i64 (i : Int), .slice A 64 c] w (Went w0 F g w (.int .i64 0) (wrote s i bs)) := by
  have sp := spend_free h1 h2
  have hw := write_ok F g s i A c bs w h.dk hi hR hA (by rw [sp]) hL
  rw [sp] at hw
  exact hw.mono fun e w' hg => h.step hg
theorem Up.flush (h : Up w0 w F g s) (h1 : s.fuse < 0) (h2 : s.down = false) (hL : s.L.length ≤ 1000000000) :
    Calls Try.prog 14 #[.pointer (some ⟨g, 0, none⟩)] w (Went w0 F g w (.int .i64 0) (lay (fun _ => true) s)) := by
  have sp := spend_free h1 h2
  have hw := flush_ok F g s w h.dk (by rw [sp]) hL
  rw [sp] at hw
  exact hw.mono fun e w' hg => h.step hg
theorem Up.power (h : Up w0 w F g s) (K : Nat) (hL : s.L.length ≤ 1000000000) (hK : K < 18446744073709551616) :
    Calls Try.prog 17 #[.pointer (some ⟨g, 0, none⟩), .int .u64 (K : Int)] w (Went w0 F g w (.tuple #[]) (power K s)) :=
  (power_any F g s K w h.dk hL hK).mono fun e w' hg => h.step hg
theorem Up.fuse (h : Up w0 w F g s) (i : Int) (lo : -9223372036854775808 ≤ i) (hi : i ≤ 9223372036854775807) :
    Calls Try.prog 16 #[.pointer (some ⟨g, 0, none⟩), .int .i64 i] w (Went w0 F g w (.tuple #[]) { s with fuse := i }) :=
  (fuse_any F g s i w h.dk lo hi).mono fun e w' hg => h.step hg
/-- What a read leaves: the disk as it was, and new bytes. -/
def Saw (w0 : World) (F : Nat → Prop) (g : Nat) (s : St) (w : World) (xs : List Nat) (e : Ending) (w' : World) : Prop :=
  ∃ A, e = .returned (.tuple #[.slice A 64 64, .int .i64 0]) ∧ Rd w' A 64 64 (u8n xs) ∧ (∀ b o, A = some ⟨b, o, none⟩ → ¬ F b ∧ w.heap.size ≤ b ∧ b < w'.heap.size) ∧ Up w0 w' F g s ∧ Below w.heap.size w w'
theorem Up.read (h : Up w0 w F g s) (h2 : s.down = false) {i : Nat} (hi : i < s.S.length) (hL : s.L.length ≤ 1000000000) :
    Calls Try.prog 20 #[.pointer (some ⟨g, 0, none⟩), .int .i64 (i : Int)] w (Saw w0 F g s w (now s i)) :=
  (read_ok F g s i w h.dk hi h2 hL).mono fun e w' ⟨A, he, ho, hb⟩ => ⟨A, he, Rd.own ho, fun b o hA => by
    obtain ⟨g', hA', h1, h3⟩ := own_some ho (by omega)
    rw [hA] at hA'
    injection hA' with hA'
    injection hA' with hb' _
    exact ⟨fun hF => by have := h.dk.lt b hF; omega, by omega, by omega⟩, h.under hb, hb⟩
end
theorem fill7 (w : World) : Calls Try.prog 11 #[.int .u8 7, .bool false] w (Fresh w (fl 7 64)) := fill_any 7 (by omega) false w
theorem fresh64 {w w' : World} {xs : List Nat} {e : Ending} (h : Fresh w xs e w') (hx : xs.length = 64) : ∃ A c, e = .returned (.slice A 64 c) ∧ Rd w' A 64 c (u8n xs) ∧ (∀ b o, A = some ⟨b, o, none⟩ → w.heap.size ≤ b ∧ b < w'.heap.size) ∧ Below w.heap.size w w' := by
  obtain ⟨A, n, c, hn, he, ho, hb⟩ := h
  obtain rfl : n = 64 := hn.out.trans hx
  refine ⟨A, c, he, Rd.own ho, fun b o hA => ?_, hb⟩
  obtain ⟨g', hA', h1, h2⟩ := own_some ho (by omega)
  rw [hA] at hA'
  injection hA' with hA'
  injection hA' with hb' _
  omega

theorem blk_rd {w : World} {g : Nat} {t : TypeId} {xs : List Nat} (h : Blk w g t (u8n xs)) {n : Nat} (hn : xs.length = n) (hm : n ≤ 9223372036854775807) : Rd w (some ⟨g, 0, none⟩) n n (u8n xs) :=
  ⟨by rw [u8n_len, hn], Nat.le_refl _, hm, fun _ => ⟨g, 0, rfl, h.lt, fun j u hu => by rw [Nat.zero_add]; exact h.cell hu⟩⟩
theorem mk64 (w : World) : (Instr.makeSlice 31 (.int .i64 64) (.int .i64 64)).run Try.prog w = .ok (.slice (some ⟨w.heap.size, 0, none⟩) 64 64) (w.alloc (.cells (u8n (zs 64)).toArray 5)) := by
  obtain ⟨i0, hi0, hz0, hz1, hz2⟩ := info_parts info8
  have h := run_make (P := Try.prog) w 31 5 i0 _ Try.underlying31 hi0 hz0 .i64 .i64 64 64 (by omega) (by omega) (by rw [hz2]; omega) (by omega)
  have hm : madeCells (Value.int .u8 0).cells ((64 : Int).toNat * i0.size) = (u8n (zs 64)).toArray := by
    rw [hz1]
    apply Array.ext'
    exact toList_madeCells_one (.int .u8 0) 64 |>.trans (by simp [u8n, zs])
  rw [hm] at h
  exact h
set_option maxHeartbeats 1600000 in
theorem wakes_any (w : World) : Calls Try.prog 8 #[] w fun e w' => e = .returned (.bool true) ∧ Below w.heap.size w w' := by
  obtain ⟨Z, hZ⟩ : ∃ Z, Z = (u8n (zs 64)).toArray := ⟨_, rfl⟩
  have hmk := mk64
  simp only [← hZ] at hmk
  have HZ := Lib.hid hZ
  clear hZ
  go_enter Try.func8, Try.ntmps8
  go_wp2_with fail
  refine (new_any 2 _).mono ?_
  rintro e w1 ⟨g, F1, rfl, hD1, hb1, hf1⟩
  have U1 := Lib.hid (show Up w w1 F1 g (newSt 2) from ⟨hD1, hf1, hb1⟩)
  clear hD1 hb1 hf1
  go_wp2_with fail
  refine (fill7 _).mono ?_
  intro e w2 h2
  obtain ⟨A2, c2, rfl, hR2, hA2, hb2⟩ := fresh64 h2 (fl_len _ _)
  have U2 := Lib.hid (U1.out.under hb2)
  have HR2 := Lib.hid hR2
  have HA2 := Lib.hid (show ∀ b o, A2 = some ⟨b, o, none⟩ → ¬ F1 b from fun b o hA hF => by have := (hA2 b o hA).1; have := U1.out.dk.lt b hF; omega)
  clear h2 hR2 hA2 hb2
  go_wp2_with fail
  refine (U2.out.write (i := 1) (by simp [newSt]) rfl (by simp [newSt, cnt2]) HR2.out HA2.out (by simp [newSt])).mono ?_
  rintro e w3 ⟨rfl, F3, hU3, hk3, hf3⟩
  have U3 := Lib.hid hU3
  clear hU3 hk3 hf3 HR2 HA2 U2 U1
  go_wp2_with fail
  refine (U3.out.power 0 (by simp [newSt, wrote]) (by omega)).mono ?_
  rintro e w4 ⟨rfl, F4, hU4, hk4, hf4⟩
  rw [power0] at hU4
  have U4 := Lib.hid hU4
  clear hU4 hk4 hf4 U3
  go_wp2_with fail
  refine (U4.out.read (i := 1) rfl (by simp [newSt, cnt2]) (by simp [newSt])).mono ?_
  rintro e w5 ⟨A5, rfl, hR5, hA5, hU5, hb5⟩
  rw [now0] at hR5
  have U5 := Lib.hid hU5
  have HR5 := Lib.hid hR5
  clear hR5 hU5 hb5 U4
  go_wp2_with fail
  refine (fill7 _).mono ?_
  intro e w6 h6
  obtain ⟨A6, c6, rfl, hR6, hA6, hb6⟩ := fresh64 h6 (fl_len _ _)
  have U6 := Lib.hid (U5.out.under hb6)
  have HR6 := Lib.hid hR6
  have HR56 := Lib.hid (HR5.out.below hb6)
  have HL5 := Lib.hid (show ∀ b o, A5 = some ⟨b, o, none⟩ → b < w6.heap.size from fun b o hA => Nat.lt_of_lt_of_le (hA5 b o hA).2.2 hb6.size)
  have HA5 := Lib.hid (show ∀ b o, A5 = some ⟨b, o, none⟩ → ¬ F4 b from fun b o hA => (hA5 b o hA).1)
  have HA6 := Lib.hid (show ∀ b o, A6 = some ⟨b, o, none⟩ → ¬ F4 b from fun b o hA hF => by have := (hA6 b o hA).1; have := U5.out.dk.lt b hF; omega)
  clear h6 hR6 hA6 hb6 HR5 U5 hA5
  go_wp2_with fail
  refine (U6.out.write (i := 1) (by simp [newSt]) rfl (by simp [newSt, cnt2]) HR6.out HA6.out (by simp [newSt])).mono ?_
  rintro e w7 ⟨rfl, F7, hU7, hk7, hf7⟩
  have U7 := Lib.hid hU7
  have HR7 := Lib.hid (hk7.rd HR56.out fun _ b o hA => HA5.out b o hA)
  clear hU7 hk7 HR6 HA6 HR56 U6
  go_wp2_with fail
  refine (U7.out.power 1 (by simp [newSt, wrote]) (by omega)).mono ?_
  rintro e w8 ⟨rfl, F8, hU8, hk8, hf8⟩
  rw [power1] at hU8
  have HA7 := Lib.hid (show ∀ b o, A5 = some ⟨b, o, none⟩ → ¬ F7 b from fun b o hA hF => by
    rcases hf7 b hF with h | h
    · exact HA5.out b o hA h
    · have := HL5.out b o hA; omega)
  have U8 := Lib.hid hU8
  have HR8 := Lib.hid (hk8.rd HR7.out fun _ b o hA => HA7.out b o hA)
  clear hU8 hk8 hf8 HR7 HA7 U7 HA5 HL5 hf7
  go_wp2_with fail
  refine (U8.out.read (i := 1) rfl (by simp) (by simp [newSt])).mono ?_
  rintro e w9 ⟨A9, rfl, hR9, hA9, hU9, hb9⟩
  rw [now1] at hR9
  have U9 := Lib.hid hU9
  have HR9 := Lib.hid hR9
  have HR89 := Lib.hid (HR8.out.below hb9)
  clear hR9 hU9 hb9 hA9 U8 HR8
  go_wp2_with fail
  have hB10 : Blk (w9.alloc (.cells Z 5)) w9.heap.size 5 (u8n (zs 64)) := by rw [HZ.out]; exact Blk.new w9 _ _
  have hb10 : Below w9.heap.size w9 (w9.alloc (.cells Z 5)) := (Below.refl _ _).alloc (Nat.le_refl _) _
  have HR10 := Lib.hid (blk_rd hB10 (zs_len 64) (by omega))
  have U10 := Lib.hid (U9.out.under hb10)
  have HR910 := Lib.hid (HR9.out.below hb10)
  refine (same_n (HR89.out.below hb10) HR10.out).mono ?_
  rintro e w11 ⟨rfl, q, rfl⟩
  rw [decide_eq_true rfl]
  clear hB10 hb10 HR10 HR9 HR89 U9
  go_wp2_with fail
  refine (fill7 _).mono ?_
  intro e w12 h12
  obtain ⟨A12, c12, rfl, hR12, hA12, hb12⟩ := fresh64 h12 (fl_len _ _)
  have HR12 := Lib.hid hR12
  have U12 := Lib.hid ((Below.drewN U10.out.bel q).trans (hb12.mono (Below.drewN U10.out.bel q).size))
  have HR912 := Lib.hid (Rd.below (Rd.drewN HR910.out q) hb12)
  clear h12 hR12 hA12 hb12 U10 HR910
  go_wp2_with fail
  refine (same_n HR912.out HR12.out).mono ?_
  rintro e w13 ⟨rfl, q2, rfl⟩
  rw [decide_eq_true rfl]
  go_wp2_with fail
  go_ret
  exact ⟨rfl, Below.drewN U12.out q2⟩
end Go.Proofs.Ytdofnoaadkpniaa.DskF
