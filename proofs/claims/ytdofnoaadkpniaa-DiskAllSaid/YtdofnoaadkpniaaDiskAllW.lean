/- The walk of DiskAll. No conditions. -/
import Derived.Test.YtdofnoaadkpniaaDskG
import Derived.Test.YtdofnoaadkpniaaDskH
import Derived.Deep.RegionHeld3
import Derived.Outline
namespace Go.Proofs.Ytdofnoaadkpniaa.DiskAllW
open Go.RowKit Go.Proofs.Ytdofnoaadkpniaa.Kit Go.Proofs.Ytdofnoaadkpniaa.Byt Go.Proofs.Ytdofnoaadkpniaa.Mem Go.Proofs.Ytdofnoaadkpniaa.Same Go.Proofs.Ytdofnoaadkpniaa.DskA Go.Proofs.Ytdofnoaadkpniaa.DskB Go.Proofs.Ytdofnoaadkpniaa.DskC Go.Proofs.Ytdofnoaadkpniaa.DskD Go.Proofs.Ytdofnoaadkpniaa.DskE Go.Proofs.Ytdofnoaadkpniaa.DskF Go.Proofs.Ytdofnoaadkpniaa.DskG Go.Proofs.Ytdofnoaadkpniaa.DskH

/-- A new disk of four sectors, and what waits. -/
def s4 (L : List (Nat × List Nat)) : St := { newSt 4 with L := L }
theorem s4_len (L : List (Nat × List Nat)) : (s4 L).S.length = 4 := rfl
/-- Two new disks. -/
theorem two_made {w0 w1 w2 w3 : World} {n : Int} {e1 e2 : Ending} (hb : Below w0.heap.size w0 w1) (h1 : Made w1 (newSt n) e1 w2) (h2 : Made w2 (newSt n) e2 w3) :
    ∃ g1 g2 F1 F2, e1 = .returned (.pointer (some ⟨g1, 0, none⟩)) ∧ e2 = .returned (.pointer (some ⟨g2, 0, none⟩)) ∧ Two w0 w3 F1 F2 g1 g2 (newSt n) (newSt n) := by
  obtain ⟨g1, F1, he1, hD1, hb1, hf1⟩ := h1
  obtain ⟨g2, F2, he2, hD2, hb2, hf2⟩ := h2
  have := hb.size
  have := hb1.size
  have hB : Below w0.heap.size w0 w3 := (hb.trans (hb1.mono hb.size)).trans (hb2.mono (by omega))
  exact ⟨g1, g2, F1, F2, he1, he2, ⟨hD1.below hb2, fun k hk => by have := hf1 k hk; omega, hB⟩, ⟨hD2, fun k hk => by have := hf2 k hk; omega, hB⟩, fun k h1 h2 => by have := hD1.lt k h1; have := hf2 k h2; omega⟩

theorem fillS (b : Nat) (hb : b < 256) (w : World) : Calls Try.prog 11 #[.int .u8 (b : Int), .bool false] w (Fresh w (fl b 64)) := fill_any b hb false w
/-- What the first loop keeps. -/
def Inv (w0 : World) (g1 g2 : Nat) (k : Nat) (wr : World) : Prop := ∃ F1 F2 L, L.length = k ∧ Two w0 wr F1 F2 g1 g2 (s4 L) (s4 L)

set_option maxHeartbeats 1600000 in
theorem core (A : Option Addr) (n c : Nat) (R : List Ac) (w : World) (hR : Acts w A n c R) :
    Calls Try.prog 7 #[.slice A n c] w fun e w' => e = .returned (.bool true) ∧ Below w.heap.size w w' := by
  have hn : n ≤ 9223372036854775807 := by have := hR.2.1; have := hR.2.2.1; omega
  have HR := Lib.hid hR
  clear hR
  by_cases h64 : 64 < n
  · go_enter Try.func7, Try.ntmps7
    go_wp2_with (go_at_call 8; refine (wakes_any _).mono ?_; rintro e w1 ⟨rfl, hb1⟩)
    go_ret
    exact ⟨rfl, hb1⟩
  · go_enter Try.func7, Try.ntmps7
    go_wp2_with (go_at_call 8; refine (wakes_any _).mono ?_; rintro e w1 ⟨rfl, hb1⟩)
    refine (new_any 4 _).mono ?_
    intro e1 w2 hm1
    obtain ⟨g1, F1, rfl, hm1'⟩ := hm1
    have HM1 := Lib.hid (show Made w1 (newSt 4) _ w2 from ⟨g1, F1, rfl, hm1'⟩)
    clear hm1'
    go_wp2_with fail
    refine (new_any 4 _).mono ?_
    intro e1 w3 hm2
    obtain ⟨g2, F2, rfl, hm2'⟩ := hm2
    have hT := two_made hb1 HM1.out (show Made w2 (newSt 4) _ w3 from ⟨g2, F2, rfl, hm2'⟩)
    clear hm2' HM1 F1 F2
    obtain ⟨g1', g2', F1, F2, he1, he2, hT⟩ := hT
    injection he1 with he1; injection he1 with he1; injection he1 with he1; injection he1 with he1 _
    injection he2 with he2; injection he2 with he2; injection he2 with he2; injection he2 with he2 _
    subst he1 he2
    have HT := Lib.hid hT
    clear hT
    go_wp2_with fail
    go_loopw [21] (fun i wr => ∃ k : Nat, k ≤ n ∧ i = .int .i64 k ∧ Hid (Inv w g1 g2 k wr)) (fun i _ => n - (intOf i).toNat)
    case atStart => exact ⟨0, Nat.zero_le _, rfl, F1, F2, [], rfl, HT.out⟩
    case round =>
      obtain ⟨k, hk, rfl, HI⟩ := hrel
      clear HT
      by_cases hlt : k < n
      · obtain ⟨F1, F2, L, hL, hT⟩ := HI.out
        obtain ⟨r, b, o, hr, hm, hok, hA, hb, q0, q1, q2, q3, q4⟩ := (HR.out.below hT.a.bel).at_ hlt
        subst hA
        have hand := r.and4
        have hi4 := r.i4_lt
        have hby := hok.b1
        have HL := Lib.hid hL
        have HT := Lib.hid (hT.under ((Below.refl _ _).alloc (Nat.le_refl _) (.cells #[.int .i64 r.kind, .int .i64 r.at_, .int .u8 (r.by_ : Int), .bool r.long, .int .u64 (r.keep : Int)] 30)))
        have hlt1 : ∀ k, F1 k → k < wr.heap.size := hT.a.dk.lt
        have hlt2 : ∀ k, F2 k → k < wr.heap.size := hT.b.dk.lt
        have Hlt1 := Lib.hid hlt1
        have Hlt2 := Lib.hid hlt2
        clear hL hT hr hm hok hlt1 hlt2
        go_wp2
        have hbx := Blk.new wr 30 r.cells
        have hsz : wr.heap.size < (wr.alloc (.cells #[.int .i64 r.kind, .int .i64 r.at_, .int .u8 (r.by_ : Int), .bool r.long, .int .u64 (r.keep : Int)] 30)).heap.size := by simp
        obtain ⟨wa, hwa⟩ : ∃ wa, wa = wr.alloc (.cells #[.int .i64 r.kind, .int .i64 r.at_, .int .u8 (r.by_ : Int), .bool r.long, .int .u64 (r.keep : Int)] 30) := ⟨_, rfl⟩
        have hbx' : Blk wa wr.heap.size 30 r.cells := by rw [hwa]; exact hbx
        rw [← hwa] at HT hsz ⊢
        clear hwa hbx q0 q1 q2 q3 q4
        obtain ⟨bx, hbx2⟩ : ∃ bx, bx = wr.heap.size := ⟨_, rfl⟩
        rw [← hbx2] at hbx' hsz Hlt1 Hlt2 ⊢
        clear hbx2
        have p1 : wa.cell? ⟨bx, 1, none⟩ = some (.int .i64 r.at_) := hbx'.cell rfl
        have p2 : wa.cell? ⟨bx, 2, none⟩ = some (.int .u8 (r.by_ : Int)) := hbx'.cell rfl
        clear hbx'
        have HT0 := Lib.hid (show Two w wa.drew F1 F2 g1 g2 (s4 L) (s4 L) from ⟨HT.out.a.drew, HT.out.b.drew, HT.out.ap⟩)
        have hsz' : bx < wa.drew.heap.size := hsz
        have hL9 : L.length ≤ 1000000000 := by rw [HL.out]; omega
        go_region_held3 (fun w' => w'.cell? ⟨bx, 1, none⟩ = some (.int .i64 r.at_) ∧ w'.cell? ⟨bx, 2, none⟩ = some (.int .u8 (r.by_ : Int)))
          (first
           | go_keep
           | (go_split_ands; refine ⟨?_, ?_⟩ <;> (rw [hx2]; assumption))
           | (go_split_ands; refine ⟨?_, ?_⟩ <;> (rw [hx3, hx2]; assumption)))
          (first
           | (go_at_call 11; refine (fillS r.by_ hby _).mono ?_; intro e w2 h2; obtain ⟨A2, c2, rfl, hR2, hA2, hb2⟩ := fresh64 h2 (fl_len _ _); have hx2 : ∀ i, w2.cell? ⟨bx, i, none⟩ = wa.drew.cell? ⟨bx, i, none⟩ := fun i => hb2.cell (p := ⟨bx, i, none⟩) hsz'; have HT2 := Lib.hid (HT0.out.under hb2); have HR2 := Lib.hid hR2; have HA2 := Lib.hid (show ∀ b o, A2 = some ⟨b, o, none⟩ → ¬ F1 b from fun b o hA hF => by have := (hA2 b o hA).1; have := HT0.out.a.dk.lt b hF; omega); have hs2 := hb2.size; clear h2 hR2 hA2 hb2)
           | (go_at_call 12; refine (HT2.out.a.write (by simp [s4, newSt]) rfl (by rw [s4_len]; exact hi4) HR2.out HA2.out hL9).mono ?_; intro e w3 h3; obtain ⟨rfl, F3, hT3, hk3, hf3⟩ := HT2.out.left h3; have hx3 : ∀ i, w3.cell? ⟨bx, i, none⟩ = w2.cell? ⟨bx, i, none⟩ := fun i => World.cell?_of_block (hk3.block bx (by omega) (fun h => by have := Hlt1.out bx h; omega)); have HT3 := Lib.hid hT3; have hs3 := hk3.size; clear h3 hT3 hk3))
        go_wp2
        have p3 : w3.cell? ⟨bx, 1, none⟩ = some (.int .i64 r.at_) := by rw [hx3, hx2]; exact p1
        have p4 : w3.cell? ⟨bx, 2, none⟩ = some (.int .u8 (r.by_ : Int)) := by rw [hx3, hx2]; exact p2
        have hbl3 : bx < w3.heap.size := by omega
        have Hlt3 := Lib.hid (show ∀ k, F2 k → k < bx from Hlt2.out)
        have HT4 := Lib.hid (show Two w w3.drew F3 F2 g1 g2 (wrote (s4 L) r.i4 (fl r.by_ 64)) (s4 L) from ⟨HT3.out.a.drew, HT3.out.b.drew, HT3.out.ap⟩)
        clear hx3 hx2 p1 p2 HT HT0 HT2 HT3 HR2 HA2 hs2 hs3 Hlt1 Hlt2 hf3 hsz hsz'
        have hsz4 : bx < w3.drew.heap.size := hbl3
        go_region_held3 (fun w' => w'.cell? ⟨bx, 1, none⟩ = some (.int .i64 r.at_) ∧ w'.cell? ⟨bx, 2, none⟩ = some (.int .u8 (r.by_ : Int)))
          (first
           | go_keep
           | (go_split_ands; refine ⟨?_, ?_⟩ <;> (rw [hx4]; assumption))
           | (go_split_ands; refine ⟨?_, ?_⟩ <;> (rw [hx5, hx4]; assumption)))
          (first
           | (go_at_call 11; refine (fillS r.by_ hby _).mono ?_; intro e w4 h4; obtain ⟨A4, c4, rfl, hR4, hA4, hb4⟩ := fresh64 h4 (fl_len _ _); have hx4 : ∀ i, w4.cell? ⟨bx, i, none⟩ = w3.drew.cell? ⟨bx, i, none⟩ := fun i => hb4.cell (p := ⟨bx, i, none⟩) hsz4; have HT5 := Lib.hid (HT4.out.under hb4); have HR4 := Lib.hid hR4; have HA4 := Lib.hid (show ∀ b o, A4 = some ⟨b, o, none⟩ → ¬ F2 b from fun b o hA hF => by have := (hA4 b o hA).1; have := HT4.out.b.dk.lt b hF; omega); have hs4 := hb4.size; clear h4 hR4 hA4 hb4)
           | (go_at_call 12; refine (HT5.out.b.write (by simp [s4, newSt]) rfl (by rw [s4_len]; exact hi4) HR4.out HA4.out hL9).mono ?_; intro e w5 h5; obtain ⟨rfl, F5, hT5, hk5, hf5⟩ := HT5.out.right h5; have hx5 : ∀ i, w5.cell? ⟨bx, i, none⟩ = w4.cell? ⟨bx, i, none⟩ := fun i => World.cell?_of_block (hk5.block bx (by omega) (fun h => by have := Hlt3.out bx h; omega)); have HT6 := Lib.hid hT5; have hs5 := hk5.size; clear h5 hT5 hk5))
        go_wp2
        clear hx4 hx5 p3 p4
        go_roundw
        case rel => exact ⟨k + 1, by omega, by go_num, F3, F5, L ++ [(r.i4, fl r.by_ 64)], by rw [List.length_append, HL.out]; rfl, HT6.out⟩
        case measure => simp [intOf]; omega
      · obtain rfl : k = n := by omega
        obtain ⟨F1, F2, L, hL, hT⟩ := HI.out
        have hL9 : L.length ≤ 1000000000 := by rw [hL]; omega
        have HL := Lib.hid hL
        have HT := Lib.hid hT
        clear hL hT HI
        go_wp2_with fail
        refine (HT.out.a.power 18446744073709551615 hL9 (by omega)).mono ?_
        intro e w4 h4
        obtain ⟨rfl, F3, hT4, hk4, hf4⟩ := HT.out.left h4
        rw [power_all (by show L.length ≤ 64; rw [HL.out]; omega)] at hT4
        have HT4 := Lib.hid hT4
        clear h4 hT4 hk4 hf4 HT
        go_wp2_with fail
        refine (HT4.out.b.flush (by simp [s4, newSt]) rfl hL9).mono ?_
        intro e w5 h5
        obtain ⟨rfl, F4, hT5, hk5, hf5⟩ := HT4.out.right h5
        clear h5 hk5 hf5 HT4
        obtain ⟨T, hT⟩ : ∃ T, T = lay (fun _ => true) (s4 L) := ⟨_, rfl⟩
        have HTS := Lib.hid (show T.S.length = 4 from by rw [hT]; show (laidTo _ _ _ _).length = 4; rw [laidTo_len]; rfl)
        have HTL := Lib.hid (show T.L = [] from by rw [hT]; rfl)
        have HTd := Lib.hid (show T.down = false from by rw [hT]; rfl)
        rw [← hT] at hT5
        have HT5 := Lib.hid hT5
        clear hT hT5 hL9 HL
        go_wp2_with fail
        go_loopw [46] (fun i wr => ∃ k : Nat, k ≤ 4 ∧ i = .int .i64 k ∧ Hid (Two w wr F3 F4 g1 g2 { T with fuse := -1, down := false } T)) (fun i _ => 4 - (intOf i).toNat)
        case atStart => exact ⟨0, by omega, rfl, HT5⟩
        case round =>
          obtain ⟨j, hj, rfl, HJ⟩ := hrel
          clear HT5
          by_cases hlt : j < 4
          · have Hj := Lib.hid hlt
            go_wp2_with fail
            refine (HJ.out.a.read (i := j) rfl (by show j < T.S.length; rw [HTS.out]; exact hlt) (by show T.L.length ≤ _; rw [HTL.out]; simp)).mono ?_
            rintro e w6 ⟨A6, rfl, hR6, _, _, hb6⟩
            rw [now_laid (s := { T with fuse := -1, down := false }) HTL.out] at hR6
            have HJ6 := Lib.hid (HJ.out.under hb6)
            have HR6 := Lib.hid hR6
            clear hR6 hb6 HJ
            go_wp2_with fail
            refine (HJ6.out.b.read (i := j) HTd.out (by rw [HTS.out]; exact hlt) (by rw [HTL.out]; simp)).mono ?_
            rintro e w7 ⟨A7, rfl, hR7, _, _, hb7⟩
            rw [now_laid HTL.out] at hR7
            have HJ7 := Lib.hid (HJ6.out.under hb7)
            have HR67 := Lib.hid (HR6.out.below hb7)
            have HR7 := Lib.hid hR7
            clear hR7 hb7 HJ6 HR6
            go_wp2_with fail
            refine (same_n HR67.out HR7.out).mono ?_
            rintro e w8 ⟨rfl, q, rfl⟩
            rw [decide_eq_true rfl]
            go_wp2_with fail
            go_roundw
            case rel => exact ⟨j + 1, by omega, by go_num, HJ7.out.a.drewN q, HJ7.out.b.drewN q, HJ7.out.ap⟩
            case measure => simp [intOf]; omega
          · obtain rfl : j = 4 := by omega
            have hw1 := waits_any F3 g1 _ wr HJ.out.a.dk
            have hw2 := waits_any F4 g2 _ wr HJ.out.b.dk
            rw [show ({ T with fuse := -1, down := false } : St).L = [] from HTL.out] at hw1
            rw [HTL.out] at hw2
            have HW1 := Lib.hid hw1
            have HW2 := Lib.hid hw2
            clear hw1 hw2
            go_wp2_with fail
            refine HW1.out.mono ?_
            rintro e w6 ⟨rfl, rfl⟩
            go_wp2_with fail
            refine HW2.out.mono ?_
            rintro e w6 ⟨rfl, rfl⟩
            go_wp2_with fail
            go_ret
            exact ⟨rfl, HJ.out.a.bel⟩

theorem hole {H : Type} (enc : TypeId × Value → H) (base : Nat) (v0 : Value) (d0 : DataW H) (p0 : List MemPlace) (w : World) (w0 : DataW.Trod enc Try.prog w 0 (fun _ => true) true 22 v0 d0 p0) (o0 : Value.okWide Try.prog w .any base 22 v0) :
    Calls Try.prog 7 #[v0] w fun e w' => e = .returned (.bool true) ∧ Below w.heap.size w w' := by
  obtain ⟨A, n, c, R, rfl, hr⟩ := open_acts w0 o0
  exact core A n c R w hr
end Go.Proofs.Ytdofnoaadkpniaa.DiskAllW
