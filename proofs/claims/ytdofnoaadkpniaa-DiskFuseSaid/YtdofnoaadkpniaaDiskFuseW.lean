/- The walk of DiskFuse. No conditions. -/
import Derived.Test.YtdofnoaadkpniaaDskG
import Derived.Test.YtdofnoaadkpniaaDskI
import Derived.Deep.RegionHeld3
import Derived.Outline
namespace Go.Proofs.Ytdofnoaadkpniaa.DiskFuseW
open Go.RowKit Go.Proofs.Ytdofnoaadkpniaa.Kit Go.Proofs.Ytdofnoaadkpniaa.Byt Go.Proofs.Ytdofnoaadkpniaa.Mem Go.Proofs.Ytdofnoaadkpniaa.Same Go.Proofs.Ytdofnoaadkpniaa.DskA Go.Proofs.Ytdofnoaadkpniaa.DskB Go.Proofs.Ytdofnoaadkpniaa.DskC Go.Proofs.Ytdofnoaadkpniaa.DskD Go.Proofs.Ytdofnoaadkpniaa.DskE Go.Proofs.Ytdofnoaadkpniaa.DskF Go.Proofs.Ytdofnoaadkpniaa.DskG Go.Proofs.Ytdofnoaadkpniaa.DskI

theorem fillS (b : Nat) (hb : b < 256) (w : World) : Calls Try.prog 11 #[.int .u8 (b : Int), .bool false] w (Fresh w (fl b 64)) := fill_any b hb false w
/-- What the loop keeps: how far the fuse is. -/
structure Inv1 (N k : Nat) (s : St) : Prop where
  len : s.S.length = 4
  few : s.L.length ≤ k
  up : k ≤ N → s.fuse = (N : Int) - (k : Int) ∧ s.down = false
  dn : N < k → s.fuse = 0 ∧ s.down = true
def Inv (w0 : World) (g N k : Nat) (wr : World) : Prop := ∃ F s, Up w0 wr F g s ∧ Inv1 N k s
theorem Inv1.wrote {N k : Nat} {s : St} (h : Inv1 N k s) (hk : k < N) (p : Nat × List Nat) : Inv1 N (k + 1) { s with fuse := s.fuse - 1, L := s.L ++ [p] } := by
  have hu := h.up (by omega)
  have := h.few
  exact ⟨h.len, by simp; omega, fun _ => ⟨by show s.fuse - 1 = _; omega, hu.2⟩, fun _ => by omega⟩
theorem Inv1.flushed {N k : Nat} {s : St} (h : Inv1 N k s) (hk : k < N) : Inv1 N (k + 1) (lay (fun _ => true) { s with fuse := s.fuse - 1 }) := by
  have hu := h.up (by omega)
  refine ⟨by show (laidTo _ _ _ _).length = 4; rw [laidTo_len]; exact h.len, by simp [lay], fun _ => ⟨by show s.fuse - 1 = _; omega, hu.2⟩, fun _ => by omega⟩
theorem Inv1.zero {N k : Nat} {s : St} (h : Inv1 N k s) (hk : N ≤ k) : s.fuse = 0 := by
  rcases Nat.lt_or_ge N k with h1 | h1
  · exact (h.dn h1).1
  · have := (h.up h1).1; omega
theorem Inv1.downed {N k : Nat} {s : St} (h : Inv1 N k s) (hk : N ≤ k) : Inv1 N (k + 1) { s with down := true } :=
  ⟨h.len, by have := h.few; show s.L.length ≤ _; omega, fun _ => by omega, fun _ => ⟨h.zero hk, rfl⟩⟩

set_option maxHeartbeats 3200000 in
theorem core (N : Nat) (hN : N < 256) (A : Option Addr) (n c : Nat) (R : List Ac) (w : World) (hR : Acts w A n c R) :
    Calls Try.prog 5 #[.int .u8 (N : Int), .slice A n c] w fun e w' => e = .returned (.bool true) ∧ Below w.heap.size w w' := by
  have hn : n ≤ 9223372036854775807 := by have := hR.2.1; have := hR.2.2.1; omega
  have HR := Lib.hid hR
  clear hR
  by_cases h64 : 100 < n
  · go_enter Try.func5, Try.ntmps5
    go_wp2_with (go_at_call 8; refine (wakes_any _).mono ?_; rintro e w1 ⟨rfl, hb1⟩)
    go_ret
    exact ⟨rfl, hb1⟩
  · go_enter Try.func5, Try.ntmps5
    go_wp2_with (go_at_call 8; refine (wakes_any _).mono ?_; rintro e w1 ⟨rfl, hb1⟩)
    refine (new_any 4 _).mono ?_
    rintro e w2 ⟨g, F1, rfl, hD1, hb2, hf1⟩
    have U2 := Lib.hid (show Up w w2 F1 g (newSt 4) from ⟨hD1, fun k hk => by have := hf1 k hk; have := hb1.size; omega, hb1.trans (hb2.mono hb1.size)⟩)
    clear hD1 hb2 hf1 hb1
    go_wp2_with fail
    refine (U2.out.fuse (N : Int) (by omega) (by omega)).mono ?_
    rintro e w3 ⟨rfl, F3, hU3, _, _⟩
    have HI0 := Lib.hid (show Inv w g N 0 w3 from ⟨F3, _, hU3, rfl, Nat.le_refl _, fun _ => ⟨by simp, rfl⟩, fun h => by omega⟩)
    clear hU3 U2
    go_wp2_with fail
    go_loopw [21] (fun i wr => ∃ k : Nat, k ≤ n ∧ i = .int .i64 k ∧ Hid (Inv w g N k wr)) (fun i _ => n - (intOf i).toNat)
    case atStart => exact ⟨0, Nat.zero_le _, rfl, HI0⟩
    case round =>
      obtain ⟨k, hk, rfl, HI⟩ := hrel
      clear HI0
      by_cases hlt : k < n
      · obtain ⟨F, s, hU, hI⟩ := HI.out
        obtain ⟨r, b, o, hr, hm, hok, hA, hb, q0, q1, q2, q3, q4⟩ := (HR.out.below hU.bel).at_ hlt
        subst hA
        have hand := r.and4
        have hi4 := r.i4_lt
        have hby := hok.b1
        have HII := Lib.hid hI
        have hL9 := Lib.hid (show s.L.length ≤ 1000000000 from by have := hI.few; omega)
        have HU := Lib.hid (hU.under ((Below.refl _ _).alloc (Nat.le_refl _) (.cells #[.int .i64 r.kind, .int .i64 r.at_, .int .u8 (r.by_ : Int), .bool r.long, .int .u64 (r.keep : Int)] 30)))
        have Hlt := Lib.hid (show ∀ k, F k → k < wr.heap.size from hU.dk.lt)
        clear hI hU hr hm hok HI
        by_cases hkN : k < N
        · have HPOS := Lib.hid (show 0 < s.fuse from by have := (HII.out.up (by omega)).1; omega)
          have HDN := Lib.hid (HII.out.up (by omega)).2
          by_cases hk1 : r.kind = 1
          · have hk1t : (r.kind == 1) = true := by rw [hk1]; rfl
            clear hk1
            go_wp2_with (go_at_call 14; refine (Up.flush_f HU.out HPOS.out HDN.out hL9.out).mono ?_; rintro e w3 ⟨rfl, F3, hU3, hk3, hf3⟩; have HU3 := Lib.hid hU3; clear hU3 hk3 hf3)
            go_roundw
            case rel => exact ⟨k + 1, by omega, by go_num, F3, _, HU3.out, HII.out.flushed hkN⟩
            case measure => simp [intOf]; omega
          · have hk1t : (r.kind == 1) = false := by simpa using hk1
            clear hk1
            go_wp2
            have hbx := Blk.new wr 30 r.cells
            have hsz : wr.heap.size < (wr.alloc (.cells #[.int .i64 r.kind, .int .i64 r.at_, .int .u8 (r.by_ : Int), .bool r.long, .int .u64 (r.keep : Int)] 30)).heap.size := by simp
            obtain ⟨wa, hwa⟩ : ∃ wa, wa = wr.alloc (.cells #[.int .i64 r.kind, .int .i64 r.at_, .int .u8 (r.by_ : Int), .bool r.long, .int .u64 (r.keep : Int)] 30) := ⟨_, rfl⟩
            have hbx' : Blk wa wr.heap.size 30 r.cells := by rw [hwa]; exact hbx
            rw [← hwa] at HU hsz ⊢
            clear hwa hbx q0 q1 q2 q3 q4
            obtain ⟨bx, hbx2⟩ : ∃ bx, bx = wr.heap.size := ⟨_, rfl⟩
            rw [← hbx2] at hbx' hsz Hlt ⊢
            clear hbx2
            have p1 : wa.cell? ⟨bx, 1, none⟩ = some (.int .i64 r.at_) := hbx'.cell rfl
            have p2 : wa.cell? ⟨bx, 2, none⟩ = some (.int .u8 (r.by_ : Int)) := hbx'.cell rfl
            clear hbx'
            have HU0 := Lib.hid HU.out.drew
            have hsz' : bx < wa.drew.heap.size := hsz
            go_region_held3 (fun w' => w'.cell? ⟨bx, 1, none⟩ = some (.int .i64 r.at_) ∧ w'.cell? ⟨bx, 2, none⟩ = some (.int .u8 (r.by_ : Int)))
              (first
               | go_keep
               | (go_split_ands; refine ⟨?_, ?_⟩ <;> (rw [hx2]; assumption))
               | (go_split_ands; refine ⟨?_, ?_⟩ <;> (rw [hx3, hx2]; assumption)))
              (first
               | (go_at_call 11; refine (fillS r.by_ hby _).mono ?_; intro e w2 h2; obtain ⟨A2, c2, rfl, hR2, hA2, hb2⟩ := fresh64 h2 (fl_len _ _); have hx2 : ∀ i, w2.cell? ⟨bx, i, none⟩ = wa.drew.cell? ⟨bx, i, none⟩ := fun i => hb2.cell (p := ⟨bx, i, none⟩) hsz'; have HU2 := Lib.hid (HU0.out.under hb2); have HR2 := Lib.hid hR2; have HA2 := Lib.hid (show ∀ b o, A2 = some ⟨b, o, none⟩ → ¬ F b from fun b o hA hF => by have := (hA2 b o hA).1; have := HU0.out.dk.lt b hF; omega); have hs2 := hb2.size; clear h2 hR2 hA2 hb2)
               | (go_at_call 12; refine (Up.write_f HU2.out HPOS.out HDN.out (by rw [HII.out.len]; exact hi4) HR2.out HA2.out hL9.out).mono ?_; rintro e w3 ⟨rfl, F3, hU3, hk3, hf3⟩; have hx3 : ∀ i, w3.cell? ⟨bx, i, none⟩ = w2.cell? ⟨bx, i, none⟩ := fun i => World.cell?_of_block (hk3.block bx (by omega) (fun h => by have := Hlt.out bx h; omega)); have HU3 := Lib.hid hU3; have hs3 := hk3.size; clear hU3 hk3 hf3))
            clear hx3 hx2 p1 p2 HU0 HU2 HR2 HA2 hs2 hs3 hsz hsz' HU
            go_wp2
            go_roundw
            case rel => exact ⟨k + 1, by omega, by go_num, F3, _, HU3.out, HII.out.wrote hkN _⟩
            case measure => simp [intOf]; omega
        · have HZ := Lib.hid (HII.out.zero (by omega))
          by_cases hk1 : r.kind = 1
          · have hk1t : (r.kind == 1) = true := by rw [hk1]; rfl
            clear hk1
            go_wp2_with (first
             | (go_at_call 14; refine (Up.flush_d HU.out HZ.out).mono ?_; rintro e w3 ⟨rfl, F3, hU3, hk3, hf3⟩; have HU3 := Lib.hid hU3; clear hU3 hk3 hf3)
             | (go_at_call 23; refine (down_any F3 g _ _ HU3.out.dk).mono ?_; rintro e w' ⟨rfl, rfl⟩))
            go_roundw
            case rel => exact ⟨k + 1, by omega, by go_num, F3, _, HU3.out, HII.out.downed (by omega)⟩
            case measure => simp [intOf]; omega
          · have hk1t : (r.kind == 1) = false := by simpa using hk1
            clear hk1
            go_wp2
            have hbx := Blk.new wr 30 r.cells
            have hsz : wr.heap.size < (wr.alloc (.cells #[.int .i64 r.kind, .int .i64 r.at_, .int .u8 (r.by_ : Int), .bool r.long, .int .u64 (r.keep : Int)] 30)).heap.size := by simp
            obtain ⟨wa, hwa⟩ : ∃ wa, wa = wr.alloc (.cells #[.int .i64 r.kind, .int .i64 r.at_, .int .u8 (r.by_ : Int), .bool r.long, .int .u64 (r.keep : Int)] 30) := ⟨_, rfl⟩
            have hbx' : Blk wa wr.heap.size 30 r.cells := by rw [hwa]; exact hbx
            rw [← hwa] at HU hsz ⊢
            clear hwa hbx q0 q1 q2 q3 q4
            obtain ⟨bx, hbx2⟩ : ∃ bx, bx = wr.heap.size := ⟨_, rfl⟩
            rw [← hbx2] at hbx' hsz Hlt ⊢
            clear hbx2
            have p1 : wa.cell? ⟨bx, 1, none⟩ = some (.int .i64 r.at_) := hbx'.cell rfl
            have p2 : wa.cell? ⟨bx, 2, none⟩ = some (.int .u8 (r.by_ : Int)) := hbx'.cell rfl
            clear hbx'
            have HU0 := Lib.hid HU.out.drew
            have hsz' : bx < wa.drew.heap.size := hsz
            go_region_held3 (fun w' => w'.cell? ⟨bx, 1, none⟩ = some (.int .i64 r.at_) ∧ w'.cell? ⟨bx, 2, none⟩ = some (.int .u8 (r.by_ : Int)))
              (first
               | go_keep
               | (go_split_ands; refine ⟨?_, ?_⟩ <;> (rw [hx2]; assumption))
               | (go_split_ands; refine ⟨?_, ?_⟩ <;> (rw [hx3, hx2]; assumption)))
              (first
               | (go_at_call 11; refine (fillS r.by_ hby _).mono ?_; intro e w2 h2; obtain ⟨A2, c2, rfl, hR2, hA2, hb2⟩ := fresh64 h2 (fl_len _ _); have hx2 : ∀ i, w2.cell? ⟨bx, i, none⟩ = wa.drew.cell? ⟨bx, i, none⟩ := fun i => hb2.cell (p := ⟨bx, i, none⟩) hsz'; have HU2 := Lib.hid (HU0.out.under hb2); have HR2 := Lib.hid hR2; have HA2 := Lib.hid (show ∀ b o, A2 = some ⟨b, o, none⟩ → ¬ F b from fun b o hA hF => by have := (hA2 b o hA).1; have := HU0.out.dk.lt b hF; omega); have hs2 := hb2.size; clear h2 hR2 hA2 hb2)
               | (go_at_call 12; refine (Up.write_d HU2.out HZ.out (by rw [HII.out.len]; exact hi4)).mono ?_; rintro e w3 ⟨rfl, F3, hU3, hk3, hf3⟩; have hx3 : ∀ i, w3.cell? ⟨bx, i, none⟩ = w2.cell? ⟨bx, i, none⟩ := fun i => World.cell?_of_block (hk3.block bx (by omega) (fun h => by have := Hlt.out bx h; omega)); have HU3 := Lib.hid hU3; have hs3 := hk3.size; clear hU3 hk3 hf3))
            clear hx3 hx2 p1 p2 HU0 HU2 HR2 HA2 hs2 hs3 hsz hsz' HU
            go_wp2_with (go_at_call 23; refine (down_any F3 g _ _ HU3.out.dk).mono ?_; rintro e w' ⟨rfl, rfl⟩)
            go_roundw
            case rel => exact ⟨k + 1, by omega, by go_num, F3, _, HU3.out, HII.out.downed (by omega)⟩
            case measure => simp [intOf]; omega
      · obtain rfl : k = n := by omega
        obtain ⟨F, s, hU, hI⟩ := HI.out
        have HU := Lib.hid hU
        have hL9 := Lib.hid (show s.L.length ≤ 1000000000 from by have := hI.few; omega)
        have hlen := hI.len
        clear hU hI HI
        go_wp2_with fail
        refine (HU.out.power 0 hL9.out (by omega)).mono ?_
        rintro e w4 ⟨rfl, F4, hU4, _, _⟩
        obtain ⟨T, hT⟩ : ∃ T, T = power 0 s := ⟨_, rfl⟩
        have HTS := Lib.hid (show T.S.length = 4 from by rw [hT]; show (laidTo _ _ _ _).length = 4; rw [laidTo_len]; exact hlen)
        have HTL := Lib.hid (show T.L.length ≤ 10 from by rw [hT]; simp [power, lay])
        have HTd := Lib.hid (show T.down = false from by rw [hT]; rfl)
        have HTf := Lib.hid (show T.fuse < 0 from by rw [hT]; show (-1 : Int) < 0; omega)
        rw [← hT] at hU4
        have U4 := Lib.hid hU4
        clear hT hU4 hL9 HU hlen
        have hdw := down_any F4 g T w4 U4.out.dk
        rw [HTd.out] at hdw
        have HDW := Lib.hid hdw
        clear hdw
        go_wp2_with fail
        refine HDW.out.mono ?_
        rintro e w5 ⟨rfl, rfl⟩
        go_wp2_with fail
        refine (fillS 1 (by omega) _).mono ?_
        intro e w6 h6
        obtain ⟨A6, c6, rfl, hR6, hA6, hb6⟩ := fresh64 h6 (fl_len _ _)
        have U6 := Lib.hid (U4.out.under hb6)
        have HR6 := Lib.hid hR6
        have HA6 := Lib.hid (show ∀ b o, A6 = some ⟨b, o, none⟩ → ¬ F4 b from fun b o hA hF => by have := (hA6 b o hA).1; have := U4.out.dk.lt b hF; omega)
        clear h6 hR6 hA6 hb6 U4 HDW
        go_wp2_with fail
        refine (U6.out.write (i := 0) HTf.out HTd.out (by rw [HTS.out]; omega) HR6.out HA6.out (by have := HTL.out; omega)).mono ?_
        rintro e w7 ⟨rfl, F7, hU7, _, _⟩
        have U7 := Lib.hid hU7
        clear hU7 U6 HR6 HA6
        go_wp2_with fail
        refine (U7.out.flush HTf.out HTd.out (by show (T.L ++ [_]).length ≤ _; have := HTL.out; simp; omega)).mono ?_
        rintro e w8 ⟨rfl, F8, hU8, _, _⟩
        have HB := Lib.hid hU8.bel
        clear hU8
        go_wp2_with fail
        go_ret
        exact ⟨rfl, HB.out⟩

theorem hole {H : Type} (enc : TypeId × Value → H) (base : Nat) (a0 : Int) (v1 : Value) (d1 : DataW H) (p1 : List MemPlace) (w : World) (w0 : (Lit.int .u8 a0).wf = true) (w1 : DataW.Trod enc Try.prog w 0 (fun _ => true) true 22 v1 d1 p1) (o1 : Value.okWide Try.prog w .any base 22 v1) :
    Calls Try.prog 5 #[.int .u8 a0, v1] w fun e w' => e = .returned (.bool true) ∧ Below w.heap.size w w' := by
  have hb := bounds_u8 w0
  obtain ⟨N, rfl⟩ : ∃ N : Nat, a0 = N := ⟨a0.toNat, by omega⟩
  obtain ⟨A, n, c, R, rfl, hr⟩ := open_acts w1 o1
  exact core N (by omega) A n c R w hr
end Go.Proofs.Ytdofnoaadkpniaa.DiskFuseW
