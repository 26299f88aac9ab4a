/- The walk of DiskLasts. No conditions. -/
import Derived.StillTailTactics
import Derived.Deep.RegionLaw
import Derived.Test.YtdofnoaadkpniaaDskG
import Derived.Test.YtdofnoaadkpniaaMayD
import Derived.Outline
namespace Go.Proofs.Ytdofnoaadkpniaa.DiskLastsW
open Go.RowKit Go.Proofs.Ytdofnoaadkpniaa.Kit Go.Proofs.Ytdofnoaadkpniaa.Byt Go.Proofs.Ytdofnoaadkpniaa.Mem Go.Proofs.Ytdofnoaadkpniaa.Same Go.Proofs.Ytdofnoaadkpniaa.DskA Go.Proofs.Ytdofnoaadkpniaa.DskB Go.Proofs.Ytdofnoaadkpniaa.DskC Go.Proofs.Ytdofnoaadkpniaa.DskD Go.Proofs.Ytdofnoaadkpniaa.DskE Go.Proofs.Ytdofnoaadkpniaa.DskF Go.Proofs.Ytdofnoaadkpniaa.DskG Go.Proofs.Ytdofnoaadkpniaa.RdkA Go.Proofs.Ytdofnoaadkpniaa.MayA Go.Proofs.Ytdofnoaadkpniaa.MayB Go.Proofs.Ytdofnoaadkpniaa.MayC Go.Proofs.Ytdofnoaadkpniaa.MayD

theorem fillS (b : Nat) (hb : b < 256) (w : World) : Calls Try.prog 11 #[.int .u8 (b : Int), .bool false] w (Fresh w (fl b 64)) := fill_any b hb false w
/-- The array's beginning. -/
def Inv1 (w0 : World) (F : Nat → Prop) (g gm k : Nat) (wr : World) : Prop := ∃ G rv E, Both w0 wr F G g gm (newSt 8) rv E k ∧ ∀ i, i < k → (E i).map Sl.xs = [zs 64]
theorem Inv1.next {w0 wr w3 : World} {F : Nat → Prop} {g gm k : Nat} (h : Inv1 w0 F g gm k wr) (hk : k < 8) (hw3 : w3 = ((wr.alloc (.cells (u8n (zs 64)).toArray 5)).alloc (.cells #[.slice (some ⟨wr.heap.size, 0, none⟩) 64 64] 31)).setCell ⟨gm, k, none⟩ (.slice (some ⟨wr.heap.size + 1, 0, none⟩) 1 1)) : Inv1 w0 F g gm (k + 1) w3 := by
  obtain ⟨G, rv, E, hB, hE⟩ := h
  have hb2 : Below wr.heap.size wr ((wr.alloc (.cells (u8n (zs 64)).toArray 5)).alloc (.cells #[.slice (some ⟨wr.heap.size, 0, none⟩) 64 64] 31)) := ((Below.refl _ _).alloc (Nat.le_refl _) _).alloc (by simp) _
  have h1 := (Blk.new wr 5 (u8n (zs 64))).alloc (.cells #[.slice (some ⟨wr.heap.size, 0, none⟩) 64 64] 31)
  have h2 := Blk.new (wr.alloc (.cells (u8n (zs 64)).toArray 5)) 31 [.slice (some ⟨wr.heap.size, 0, none⟩) 64 64]
  rw [World.size_alloc] at h2
  have hm := hB.m.put (w3 := w3) (j := k) hk (q := ⟨some ⟨wr.heap.size + 1, 0, none⟩, 1, 1⟩) (e' := [⟨some ⟨wr.heap.size, 0, none⟩, 64, 64, zs 64⟩]) (Keep.of_below hb2) (.inr fun k hk => by injection hk with hk; have hk : wr.heap.size + 1 = k := hk; omega)
    ⟨wr.heap.size + 1, 0, _, rfl, h2, rfl, Nat.le_refl _, by show 1 ≤ _; omega, by simp, fun j u hj => by simpa [Sl.val] using hj⟩
    (fun v hv => by
      obtain rfl := List.mem_singleton.1 hv
      refine .inr ⟨blk_rd h1 (zs_len 64) (show (64 : Nat) ≤ 9223372036854775807 by omega), rfl, fun b o hA => ?_⟩
      injection hA with hA
      injection hA with hA _
      have hA : wr.heap.size = b := hA
      refine ⟨by omega, by simp; omega, fun hk => ?_⟩
      injection hk with hk
      have hk : wr.heap.size + 1 = b := hk
      omega) (K' := k + 1) (fun i hi => by omega) (by omega) hw3
  refine ⟨_, _, _, hB.laid hm, fun i hi => ?_⟩
  by_cases hik : i = k
  · subst hik; rw [up_same]; rfl
  · rw [up_ne _ _ hik]; exact hE i (by omega)
/-- What the loop over the acts keeps. -/
def Inv2 (w0 : World) (g gm k : Nat) (wr : World) : Prop := ∃ F G s rv E, Both w0 wr F G g gm s rv E 8 ∧ Acc s E k

/-- What the loop behind a flush keeps. -/
def Inv3 (w0 : World) (F : Nat → Prop) (g gm : Nat) (s : St) (E : Nat → List Sl) (j : Nat) (wr : World) : Prop :=
  ∃ G rv E', Both w0 wr F G g gm s rv E' 8 ∧ (∀ i, i < j → ∃ x, (E i).getLast? = some x ∧ E' i = [x]) ∧ ∀ i, j ≤ i → i < 8 → E' i = E i
theorem inv3_next {w0 wr : World} {F G : Nat → Prop} {g gm j b o nn cc : Nat} {s : St} {E E' : Nat → List Sl} {rv : Nat → Sv} {x : Sl} {u : Value} (hj : j < 8) (hB : Both w0 wr F G g gm s rv E' 8) (h1 : ∀ i, i < j → ∃ x, (E i).getLast? = some x ∧ E' i = [x]) (h2 : ∀ i, j ≤ i → i < 8 → E' i = E i)
    (hx : (E j).getLast? = some x) (hu : ((E' j).map Sl.val).getLast? = some u) (hlast : Rm wr ⟨some ⟨b, o + ((rv j).n - 1), none⟩, 1, (rv j).c - ((rv j).n - 1)⟩ [u]) (hA : (rv j).A = some ⟨b, o, none⟩) (hnn : nn = (rv j).n) (hcc : cc = (rv j).c) (hnp : 0 < nn) :
    Inv3 w0 F g gm s E (j + 1) (wr.setCell ⟨gm, j, none⟩ (.slice (some ⟨b, o + (nn - 1), none⟩) (nn - (nn - 1)) (cc - (nn - 1)))).drew := by
  have hux : u = Sl.val x := by
    rw [h2 j (Nat.le_refl _) hj, List.getLast?_map, hx] at hu
    injection hu with hu
    exact hu.symm
  have hxm : x ∈ E' j := by
    rw [h2 j (Nat.le_refl _) hj]
    exact List.mem_of_getLast? hx
  have hn1 : nn - (nn - 1) = 1 := by omega
  rw [hux, ← hnn, ← hcc] at hlast
  have hm := hB.m.put (w2 := wr) (w3 := wr.setCell ⟨gm, j, none⟩ (.slice (some ⟨b, o + (nn - 1), none⟩) 1 (cc - (nn - 1)))) (j := j) hj (q := ⟨some ⟨b, o + (nn - 1), none⟩, 1, cc - (nn - 1)⟩) (e' := [x]) (Keep.refl _ _) (.inl (by simp [Sv.v, hA, Value.ownBlock])) hlast
    (fun v hv => by obtain rfl := List.mem_singleton.1 hv; exact .inl ⟨hxm, hj⟩) (K' := 8) (fun i hi => .inr hi) (Nat.le_refl _) rfl
  rw [hn1]
  refine ⟨_, _, _, (hB.laid hm).drew, fun i hi => ?_, fun i h3 h4 => ?_⟩
  · by_cases hij : i = j
    · subst hij
      rw [up_same]
      exact ⟨x, hx, rfl⟩
    · rw [up_ne _ _ hij]
      exact h1 i (by omega)
  · rw [up_ne _ _ (by omega)]
    exact h2 i (by omega) h4
set_option maxRecDepth 100000 in
set_option maxHeartbeats 12800000 in
theorem core (A : Option Addr) (n c : Nat) (R : List Ac) (kp : Nat) (hkp : kp < 18446744073709551616) (w : World) (hR : Acts w A n c R) (h100 : n ≤ 100) :
    Calls Try.prog 4 #[.slice A n c, .int .u64 (kp : Int)] w fun e w' => e = .returned (.bool true) ∧ Below w.heap.size w w' := by
  have HR := Lib.hid hR
  have hd0 : decide (100 < (n : Int)) = false := by simp; omega
  clear hR
  obtain ⟨Z, hZ⟩ : ∃ Z, Z = (u8n (zs 64)).toArray := ⟨_, rfl⟩
  have hmk := mk64
  simp only [← hZ] at hmk
  have HZ := Lib.hid hZ
  clear hZ
  go_enter Try.func4, Try.ntmps4
  go_wp2_with (go_at_call 8; refine (wakes_any _).mono ?_; rintro e w1 ⟨rfl, hb1⟩)
  refine (new_any 8 _).mono ?_
  rintro e w2 ⟨g, F1, rfl, hD1, hb2, hf1⟩
  have HB0 := Lib.hid (Both.first hb1 hD1 hb2 hf1)
  clear hD1 hb1 hb2 hf1
  go_wp2_with fail
  obtain ⟨gm, hgm⟩ : ∃ gm, gm = w2.heap.size := ⟨_, rfl⟩
  rw [← hgm] at HB0 ⊢
  clear hgm
  go_loopw [24] (fun i wr => ∃ k : Nat, k ≤ 8 ∧ i = .int .i64 k ∧ Hid (Inv1 w F1 g gm k wr)) (fun i _ => 8 - (intOf i).toNat)
  case atStart => exact ⟨0, by omega, rfl, _, _, _, HB0.out, fun i hi => by omega⟩
  case round =>
    obtain ⟨k, hk, rfl, HI⟩ := hrel
    clear HB0
    by_cases hlt : k < 8
    · obtain ⟨G, rv, E, hB, hE⟩ := HI.out
      have hgl := hB.m.lt gm hB.m.fg
      have hb2 : Below wr.heap.size wr ((wr.alloc (.cells Z 5)).alloc (.cells #[.slice (some ⟨wr.heap.size, 0, none⟩) 64 64] 31)) := ((Below.refl _ _).alloc (Nat.le_refl _) _).alloc (by simp) _
      have kc := (hb2.cell (p := ⟨gm, k, none⟩) hgl).trans (hB.m.head.cell (hd8_at hlt))
      have kf := (hb2.frozen (p := ⟨gm, k, none⟩) hgl).trans (hB.m.head.frozen k)
      clear hB hE hb2
      go_wp2
      go_roundw
      case rel => exact ⟨k + 1, by omega, by go_num, HI.out.next hlt (by rw [HZ.out, World.setCell_alloc_past (hn := by rw [World.size_alloc]; omega), World.setCell_alloc_past (hn := hgl)])⟩
      case measure => simp [intOf]; omega
    · obtain rfl : k = 8 := by omega
      obtain ⟨G, rv, E, hB, hE⟩ := HI.out
      have HI2 := Lib.hid (show Inv2 w g gm 0 wr from ⟨F1, G, newSt 8, rv, E, hB, Acc.first hE⟩)
      clear hB hE HI
      go_wp2
      go_loopw [34] (fun i wr => ∃ k : Nat, k ≤ n ∧ i = .int .i64 k ∧ Hid (Inv2 w g gm k wr)) (fun i _ => n - (intOf i).toNat)
      case atStart => exact ⟨0, Nat.zero_le _, rfl, HI2⟩
      case round =>
        obtain ⟨k, hk, rfl, HI⟩ := hrel
        clear HI2
        by_cases hlt : k < n
        · obtain ⟨F, G, s, rv, E, hB, hA⟩ := HI.out
          obtain ⟨r, b, o, hr, hm, hok, hA', hb, q0, q1, q2, q3, q4⟩ := (HR.out.below hB.u.bel).at_ hlt
          subst hA'
          have hby := hok.b1
          have hand := r.and8
          have hi8 := r.i8_lt
          have HAc := Lib.hid hA
          have hLs := Lib.hid (show s.L.length ≤ 1000000000 from by have := hA.few; omega)
          have HB := Lib.hid (hB.under ((Below.refl _ _).alloc (Nat.le_refl _) (.cells #[.int .i64 r.kind, .int .i64 r.at_, .int .u8 (r.by_ : Int), .bool r.long, .int .u64 (r.keep : Int)] 30)))
          have Hlt1 := Lib.hid (show ∀ k, F k → k < wr.heap.size from hB.u.dk.lt)
          have Hlt2 := Lib.hid (show ∀ k, G k → k < wr.heap.size from hB.m.lt)
          have Hsw := Lib.hid hB.u.bel.size
          clear hB hA hr hm hok HI
          by_cases hk1 : r.kind = 1
          · have e1 : (r.kind == 1) = true := by rw [hk1]; rfl
            clear hk1
            go_wp2_with (go_at_call 14; refine (HB.out.u.flush HAc.out.fuse HAc.out.down hLs.out).mono ?_; intro e w3 h3; obtain ⟨rfl, F3, hB3, _, _⟩ := HB.out.left h3; have HB3 := Lib.hid hB3; clear h3 hB3)
            obtain ⟨wo, rfl⟩ : ∃ wo : World, wo = wr := ⟨_, rfl⟩
            go_loopw [46] (fun i wr => ∃ j : Nat, j ≤ 8 ∧ i = .int .i64 j ∧ Hid (Inv3 w F3 g gm (lay (fun _ => true) s) E j wr)) (fun i _ => 8 - (intOf i).toNat)
            case atStart => exact ⟨0, by omega, rfl, G, rv, E, HB3.out, (fun i hi => by omega), fun i _ _ => rfl⟩
            case round =>
              obtain ⟨j, hj, rfl, HJ⟩ := hrel
              clear HB3
              by_cases hjt : j < 8
              · obtain ⟨G', rv', E', hB, h1, h2⟩ := HJ.out
                have hE' := h2 j (Nat.le_refl _) hjt
                obtain ⟨x, hx⟩ : ∃ x, (E j).getLast? = some x := by
                  have := (HAc.out.may j hjt).2
                  rw [List.getLast?_map] at this
                  cases hl : (E j).getLast? with
                  | none => rw [hl] at this; cases this
                  | some x => exact ⟨x, rfl⟩
                have hrow := hB.m.row j hjt
                have hnp : 0 < (rv' j).n := by
                  have h3 := hrow.rd.1
                  rw [hE', List.length_map] at h3
                  rcases Nat.eq_zero_or_pos (rv' j).n with h0 | h0
                  · rw [h0] at h3
                    rw [List.eq_nil_of_length_eq_zero h3] at hx
                    cases hx
                  · exact h0
                obtain ⟨bj, oj, u, hAj, hu, hlast, _⟩ := Rm.last hrow hnp
                have hnc := hrow.rd.2.1
                have hcm := hrow.rd.2.2.1
                have kc := hB.m.head.cell (hd8_at hjt)
                have kf := hB.m.head.frozen j
                rw [Sv.v, hAj] at kc
                have HBq := Lib.hid hB
                have HH1 := Lib.hid h1
                have HH2 := Lib.hid h2
                have HX := Lib.hid hx
                have HU := Lib.hid hu
                have HEq := Lib.hid hE'
                have HLast := Lib.hid hlast
                have HAj := Lib.hid hAj
                obtain ⟨nn, hnn⟩ : ∃ nn, nn = (rv' j).n := ⟨_, rfl⟩
                obtain ⟨cc, hcc⟩ : ∃ cc, cc = (rv' j).c := ⟨_, rfl⟩
                rw [← hnn, ← hcc] at kc hnc
                rw [← hcc] at hcm
                rw [← hnn] at hnp
                have HNN := Lib.hid hnn
                have HCC := Lib.hid hcc
                clear hB hE' hx hu hlast hrow h1 h2 hAj hnn hcc
                have hw1 : IntKind.i64.wrap ((nn : Int) - 1) = (nn : Int) - 1 := by rw [IntKind.wrap_i64]; omega
                have hp0 : (0 : Int) ≤ (nn : Int) - 1 := by omega
                have hp1 : (1 : Int) ≤ (nn : Int) := by omega
                have hp2 : (nn : Int) - 1 ≤ (nn : Int) := by omega
                have hp3 : ((nn : Int) - 1).toNat = nn - 1 := by omega
                have hp4 : (j : Int) < 8 := by omega
                have hp5 : ¬ (cc = nn - 1) := by omega
                go_wp2
                go_still_tail 11, (by kernel_rfl)
                change wpList _ _ _ _ _ wr.drew
                clear hw1 hp0 hp1 hp2 hp3
                go_wp2
                go_roundw
                case rel => exact ⟨j + 1, by omega, by go_num, inv3_next hjt HBq.out HH1.out HH2.out HX.out HU.out HLast.out HAj.out HNN.out HCC.out hnp⟩
                case measure => simp [intOf]; omega
              · obtain rfl : j = 8 := by omega
                obtain ⟨G', rv', E', hB, h1, _⟩ := HJ.out
                have HF := Lib.hid (show Inv2 w g gm (k + 1) wr from ⟨F3, G', _, rv', E', hB, HAc.out.flushed h1⟩)
                clear hB h1 HJ
                go_wp2
                go_roundw
                case rel => (repeat apply Exists.intro); exact ⟨⟨k + 1, by omega, by go_num, HF⟩, rfl⟩
                case measure => simp [intOf]; omega
          · have e1 : (r.kind == 1) = false := by simpa using hk1
            clear hk1
            go_wp2_with fail
            have hbx := Blk.new wr 30 r.cells
            have hsz : wr.heap.size < (wr.alloc (.cells #[.int .i64 r.kind, .int .i64 r.at_, .int .u8 (r.by_ : Int), .bool r.long, .int .u64 (r.keep : Int)] 30)).heap.size := by simp
            obtain ⟨wa, hwa⟩ : ∃ wa, wa = wr.alloc (.cells #[.int .i64 r.kind, .int .i64 r.at_, .int .u8 (r.by_ : Int), .bool r.long, .int .u64 (r.keep : Int)] 30) := ⟨_, rfl⟩
            have hbx' : Blk wa wr.heap.size 30 r.cells := by rw [hwa]; exact hbx
            rw [← hwa] at HB hsz ⊢
            clear hwa hbx q0 q1 q2 q3 q4
            obtain ⟨bx, hbx2⟩ : ∃ bx, bx = wr.heap.size := ⟨_, rfl⟩
            rw [← hbx2] at hbx' hsz Hlt1 Hlt2 Hsw ⊢
            clear hbx2
            have HBX := Lib.hid hbx'
            clear hbx'
            refine (fillS r.by_ hby _).mono ?_
            rintro e w2 h2
            obtain ⟨A2, c2, rfl, hR2, hA2, hb2⟩ := fresh64 h2 (fl_len _ _)
            have HR2 := Lib.hid hR2
            have HB2 := Lib.hid (HB.out.under hb2)
            have p1 : w2.cell? ⟨bx, 2, none⟩ = some (.int .u8 (r.by_ : Int)) := (HBX.out.below hb2).cell rfl
            have hbl2 : bx < w2.heap.size := Nat.lt_of_lt_of_le hsz hb2.size
            have HA2 := Lib.hid (show ∀ b o, A2 = some ⟨b, o, none⟩ → ¬ F b from fun b o hA hF => by have := hA2 b o hA; have := Hlt1.out b hF; omega)
            have Hlen := Lib.hid (show r.i8 < s.S.length by rw [HAc.out.len]; exact hi8)
            clear h2 hR2 hA2 hb2
            go_wp2_with (go_at_call 12; refine (Up.write HB2.out.u HAc.out.fuse HAc.out.down Hlen.out HR2.out HA2.out hLs.out).mono ?_; intro e w3 h3; obtain ⟨rfl, F3, hB3, hk3, _⟩ := HB2.out.left h3; have p3 := (World.cell?_of_block (a := ⟨bx, 2, none⟩) (hk3.block bx hbl2 (fun h => by have := Hlt1.out bx h; omega))).trans p1; have hbl3 := Nat.lt_of_lt_of_le hbl2 hk3.size; have HB3 := Lib.hid hB3; have k3 := hB3.m.head.cell (hd8_at hi8); have hgl3 := hB3.m.lt gm hB3.m.fg; clear h3 hB3 hk3)
            rw [Sv.v] at k3
            have hrn := Both.lowRow HB3.out HAc.out hi8
            have hgl3' : gm < w3.drew.heap.size := hgl3
            have hi8i : (r.i8 : Int) < 8 := by omega
            have HB4 := Lib.hid HB3.out.drew
            obtain ⟨iS, hiS, hzS0, hzS1, hzS2⟩ := info_parts Go.Proofs.Ytdofnoaadkpniaa.RdkB.info_sl
            clear p1 HB3 HB2 HB HA2 HR2
            go_region_law (first
              | (rw [if_pos (by rfl)]; go_simp; refine (fillS r.by_ hby _).mono ?_; rintro e w5 h5; obtain ⟨A5, c5, rfl, hR5, hA5, hb5⟩ := fresh64 h5 (fl_len _ _); have k5 := (hb5.cell (p := ⟨gm, r.i8, none⟩) hgl3').trans k3; have k5a := ((Below.refl w5.heap.size w5).alloc (Nat.le_refl _) (.cells #[.slice A5 64 c5] 31)).cell (p := ⟨gm, r.i8, none⟩) (by have := hb5.size; simp; omega) |>.trans k5; have HR5 := Lib.hid hR5; have HA5 := Lib.hid hA5; have HB5 := Lib.hid hb5; clear hR5 hA5 hb5 h5; go_wp2_with fail)
              | (rw [if_pos (by rfl)]; refine wp_append_rm (.tmp 71) (.tmp 75) 39 rfl iS Try.underlying39 hiS hzS0 hzS1 hzS2 (s := rv r.i8) (xs := (E r.i8).map Sl.val) rfl (Both.rowAt HB4.out hi8 HB5.out _) (by omega) (.slice A5 64 c5) rfl ⟨w5.heap.size, 0, none⟩ 1 1 rfl rfl (new_cells w5 [.slice A5 64 c5] _) ?_; intro A6 n6 c6 w6 h6 hg6 ho6; obtain ⟨k6, f6⟩ := Both.mid HB4.out hi8 HB5.out hg6.out))
            all_goals
              go_wp2
              go_roundw
              case rel =>
                obtain ⟨G', hB7⟩ := Both.appended HB4.out hi8 HB5.out HR5.out HA5.out h6.out hg6.out ho6.out rfl
                (repeat apply Exists.intro)
                exact ⟨⟨k + 1, by omega, by go_num, Lib.hid ⟨F3, G', _, _, _, hB7, HAc.out.wrote hi8 rfl⟩⟩, rfl⟩
              case measure => simp [intOf]; omega
        · obtain rfl : k = n := by omega
          obtain ⟨F, G, s, rv, E, hB, hA⟩ := HI.out
          have HB := Lib.hid hB
          have hLs := Lib.hid (show s.L.length ≤ 1000000000 from by have := hA.few; omega)
          have HIn := Lib.hid (hA.powered kp)
          have HPF := Lib.hid (powered_facts s kp hA.len)
          clear hB hA HI
          go_wp2_with (go_at_call 17; refine (HB.out.u.power kp hLs.out hkp).mono ?_; intro e w3 h3; obtain ⟨rfl, F3, hB3, _, _⟩ := HB.out.left h3; have HB3 := Lib.hid hB3; clear h3 hB3)
          obtain ⟨sp, hsp⟩ : ∃ sp, sp = power kp s := ⟨_, rfl⟩
          rw [← hsp] at HB3 HIn HPF
          clear hsp HB hLs
          go_loopw [82] (fun i wr => ∃ j : Nat, j ≤ 8 ∧ i = .int .i64 j ∧ Hid (Both w wr F3 G g gm sp rv E 8)) (fun i _ => 8 - (intOf i).toNat)
          case atStart => exact ⟨0, by omega, rfl, HB3⟩
          case round =>
            obtain ⟨j, hj, rfl, HJ⟩ := hrel
            clear HB3
            by_cases hjt : j < 8
            · have hp4 : (j : Int) < 8 := by omega
              obtain ⟨bj, oj, hAj⟩ := Both.start HJ.out hjt
              have hwd := Both.wide HJ.out hjt
              have HAj := Lib.hid hAj
              obtain ⟨nn, hnn⟩ : ∃ nn, nn = (rv j).n := ⟨_, rfl⟩
              obtain ⟨cc, hcc⟩ : ∃ cc, cc = (rv j).c := ⟨_, rfl⟩
              rw [← hnn, ← hcc] at hwd
              have HNN := Lib.hid hnn
              have HCC := Lib.hid hcc
              clear hnn hcc
              go_wp2_with (go_at_call 20; refine (Up.read HJ.out.u HPF.out.1 (i := j) (by rw [HPF.out.2.2]; exact hjt) (by rw [HPF.out.2.1]; exact Nat.zero_le _)).mono ?_; rintro e w4 ⟨A4, rfl, hR4, _, _, hb4⟩; have HR4 := Lib.hid hR4; have HB4 := Lib.hid (HJ.out.under hb4); have k4 := HB4.out.m.head.cell (hd8_at hjt); rw [Sv.v, HAj.out, ← HNN.out, ← HCC.out] at k4; clear hR4 hb4)
              have HMem := Lib.hid (HIn.out j hjt)
              obtain ⟨xs, hxs⟩ : ∃ xs, xs = (E j).map Sl.xs := ⟨_, rfl⟩
              obtain ⟨bs, hbs⟩ : ∃ bs, bs = now sp j := ⟨_, rfl⟩
              rw [← hxs] at hwd
              rw [← hbs] at HR4
              rw [← hxs, ← hbs] at HMem
              obtain ⟨hxl, hnc, hcm⟩ := hwd
              have HXL := Lib.hid hxl
              have HXS := Lib.hid hxs
              clear hAj hxl hxs hbs HIn
              obtain ⟨wo, rfl⟩ : ∃ wo : World, wo = wr := ⟨_, rfl⟩
              go_wp2
              go_loopw [15, 95] (fun m i wr => ∃ (q : Nat) (mb : Bool), q ≤ nn ∧ i = .int .i64 q ∧ m = .bool mb ∧ Hid (mb = true ↔ bs ∈ xs.take q) ∧ ∃ n, wr = w4.drewN n) (fun _ i _ => nn - (intOf i).toNat)
              case atStart => exact ⟨0, false, Nat.zero_le _, rfl, rfl, Lib.hid (by simp), 0, rfl⟩
              case round =>
                obtain ⟨q, mb, hq, rfl, rfl, HM, nd, rfl⟩ := hrel
                by_cases hqt : q < nn
                · obtain ⟨v, hv1, hv2, hv3⟩ := Both.elem HB4.out hjt HAj.out (q := q) (by rw [← HNN.out]; exact hqt)
                  have hqi : (q : Int) < (nn : Int) := by omega
                  rw [← HXS.out] at hv3
                  have HV2 := Lib.hid hv2
                  have HV3 := Lib.hid hv3
                  clear hv2 hv3
                  cases mb with
                  | true =>
                    go_wp2
                    go_roundw
                    case rel => exact ⟨q + 1, true, by omega, by go_num, rfl, Lib.hid ⟨fun _ => by rw [HV3.out]; exact List.mem_append_left _ (HM.out.1 rfl), fun _ => rfl⟩, nd, rfl⟩
                    case measure => simp [intOf]; omega
                  | false =>
                    go_wp2_with (go_at_call 21; refine (same_n (rd_drewN HR4.out nd) (rd_drewN HV2.out nd)).mono ?_; rintro e w6 ⟨rfl, m6, rfl⟩)
                    go_roundw
                    case rel => exact ⟨q + 1, decide (bs = v.xs), by omega, by go_num, rfl, Lib.hid (by
                      rw [HV3.out, List.mem_append, List.mem_singleton, decide_eq_true_eq]
                      exact ⟨.inr, fun h => h.elim (fun h => absurd (HM.out.2 h) (by simp)) id⟩), nd + m6, rfl⟩
                    case measure => simp [intOf]; omega
                · obtain rfl : q = nn := by omega
                  have hmb : mb = true := HM.out.2 (by rw [List.take_of_length_le (by rw [HXL.out]; exact Nat.le_refl _)]; exact HMem.out)
                  subst hmb
                  have HB5 := Lib.hid (Both.drewN HB4.out nd)
                  go_wp2
                  go_roundw
                  case rel => exact ⟨j + 1, by omega, by go_num, HB5⟩
                  case measure => simp [intOf]; omega
            · obtain rfl : j = 8 := by omega
              have hwt := waits_any F3 g sp wr HJ.out.u.dk
              rw [HPF.out.2.1] at hwt
              have HW := Lib.hid hwt
              have HBW := Lib.hid HJ.out.u.bel
              clear hwt HJ
              go_wp2_with (go_at_call 22; refine HW.out.mono ?_; rintro e w' ⟨rfl, rfl⟩)
              go_ret
              exact ⟨rfl, HBW.out⟩

theorem early (A : Option Addr) (n c : Nat) (K : Int) (w : World) (hn : n ≤ 9223372036854775807) (h : 100 < n) :
    Calls Try.prog 4 #[.slice A n c, .int .u64 K] w fun e w' => e = .returned (.bool true) ∧ Below w.heap.size w w' := by
  have hd : decide (100 < (n : Int)) = true := by simp; omega
  go_enter Try.func4, Try.ntmps4
  go_wp2_with (go_at_call 8; refine (wakes_any _).mono ?_; rintro e w1 ⟨rfl, hb1⟩)
  go_ret
  exact ⟨rfl, hb1⟩

theorem hole {H : Type} (enc : TypeId × Value → H) (base : Nat) (v0 : Value) (d0 : DataW H) (p0 : List MemPlace) (a1 : Int) (w : World) (w0 : DataW.Trod enc Try.prog w 0 (fun _ => true) true 22 v0 d0 p0) (o0 : Value.okWide Try.prog w .any base 22 v0) (w1 : (Lit.int .u64 a1).wf = true) :
    Calls Try.prog 4 #[v0, .int .u64 a1] w fun e w' => e = .returned (.bool true) ∧ Below w.heap.size w w' := by
  have hb := bounds_u64 w1
  obtain ⟨A, n, c, R, rfl, hr⟩ := open_acts w0 o0
  have hn : n ≤ 9223372036854775807 := by have := hr.2.1; have := hr.2.2.1; omega
  obtain ⟨K, rfl⟩ : ∃ K : Nat, a1 = (K : Int) := ⟨a1.toNat, by omega⟩
  by_cases h : 100 < n
  · exact early A n c K w hn h
  · exact core A n c R K (by omega) w hr (by omega)
end Go.Proofs.Ytdofnoaadkpniaa.DiskLastsW
