/- The walk of CommitReads. No conditions. -/
import Derived.Test.YtdmfgffjplbloaaJ10
import Derived.Test.YtdmfgffjplbloaaJ09
import Derived.Test.YtdmfgffjplbloaaJ07
import Derived.Deep.RegionHeld3
import Derived.Deep.DeepCutAuto
namespace Go.Proofs.Ytdmfgffjplbloaa.CommitReadsW
open Go.RowKit Go.Proofs.Ytdmfgffjplbloaa.Kit Go.Proofs.Ytdmfgffjplbloaa.Byt Go.Proofs.Ytdmfgffjplbloaa.Mem Go.Proofs.Ytdmfgffjplbloaa.DskA Go.Proofs.Ytdmfgffjplbloaa.DskE Go.Proofs.Ytdmfgffjplbloaa.DskF Go.Proofs.Ytdmfgffjplbloaa.RecM Go.Proofs.Ytdmfgffjplbloaa.RecA Go.Proofs.Ytdmfgffjplbloaa.CmtM Go.Proofs.Ytdmfgffjplbloaa.CmtN Go.Proofs.Ytdmfgffjplbloaa.CmtA Go.Proofs.Ytdmfgffjplbloaa.CmtC Go.Proofs.Ytdmfgffjplbloaa.CmtK Go.Proofs.Ytdmfgffjplbloaa.CmtR Go.Proofs.Ytdmfgffjplbloaa.StgM Go.Proofs.Ytdmfgffjplbloaa.StgJ Go.Proofs.Ytdmfgffjplbloaa.Put2 Go.Proofs.Ytdmfgffjplbloaa.Same
open Go.Proofs.Ytdmfgffjplbloaa.DskB (newSt cnt new_any zs)
open Go.Proofs.Ytdmfgffjplbloaa.DskD (now)
open Go.Proofs.Ytdmfgffjplbloaa.RecF (size_rec one_r)
open Go.Proofs.Ytdmfgffjplbloaa.PlaM (rC fnd rcommit_any)
theorem box (w : World) (r : Rc) : Blk (w.alloc (.cells #[.int .i64 r.p, .int .i64 r.q, .int .i64 r.a, .int .i64 r.c, .int .i64 r.l, .int .i64 r.b] 31)) w.heap.size 31 (rcells r) ∧ Below w.heap.size w (w.alloc (.cells #[.int .i64 r.p, .int .i64 r.q, .int .i64 r.a, .int .i64 r.c, .int .i64 r.l, .int .i64 r.b] 31)) :=
  ⟨Blk.new w 31 (rcells r), (Below.refl _ _).alloc (Nat.le_refl _) _⟩
theorem make64 (w : World) : (Instr.makeSlice 42 (.int .i64 64) (.int .i64 64)).run Try.prog w = .ok (.slice (some ⟨w.heap.size, 0, none⟩) 64 64) (w.alloc (.cells (u8n (zs 64)).toArray 5)) := by
  obtain ⟨i0, hi0, hz0, hz1, hz2⟩ := info_parts NumA.info8
  have h := run_make (P := Try.prog) w 42 5 i0 _ Try.underlying42 hi0 hz0 .i64 .i64 64 64 (by omega) (by omega) (by rw [hz2]; omega) (by omega)
  have hm : madeCells (Value.int .u8 0).cells ((64 : Int).toNat * i0.size) = (u8n (zs 64)).toArray := by
    rw [hz1]
    apply Array.ext'
    show (madeCells #[Value.int .u8 0] 64).toList = _
    rw [toList_madeCells_one]
    simp [u8n, zs]
  rw [hm] at h
  exact h
theorem zeros_rd (w : World) : Rd (w.alloc (.cells (u8n (zs 64)).toArray 5)) (some ⟨w.heap.size, 0, none⟩) 64 64 (u8n (zs 64)) :=
  ⟨by simp [u8n, zs], by omega, by omega, fun _ => ⟨w.heap.size, 0, rfl, by simp, fun j u hu => by
    rw [Nat.zero_add]
    exact (Blk.new w 5 (u8n (zs 64))).cell hu⟩⟩
theorem rd_lt {w : World} {A : Option Addr} {c : Nat} {xs : List Value} (h : Rd w A 64 c xs) : ∀ b o, A = some ⟨b, o, none⟩ → b < w.heap.size := fun b o e => by
  obtain ⟨b', o', hA, hl, _⟩ := h.2.2.2 (by omega)
  rw [e] at hA
  injection hA with hA
  injection hA with h1 _
  omega
set_option maxRecDepth 100000 in
set_option maxHeartbeats 12800000 in
theorem core (A B : Option Addr) (n c m d : Nat) (xs ys : List Nat) (r : Rc) (w : World) (hA : Rd w A n c (u8n xs)) (hx : byt xs) (hB : Rd w B m d (u8n ys)) (hy : byt ys) (hr : rok r) : Calls Try.prog 4 #[.slice A n c, .slice B m d, rval r] w fun e w' => e = .returned (.bool true) ∧ Below w.heap.size w w' := by
  obtain ⟨hx0, hb0⟩ := box w r
  have HB0 := Lib.hid hb0
  have HX0 := Lib.hid hx0
  have hn63 : n ≤ 9223372036854775807 := by have := hA.le; have := hA.cap; omega
  have hm63 : m ≤ 9223372036854775807 := by have := hB.le; have := hB.cap; omega
  clear hb0 hx0
  by_cases hn : n = 64
  · by_cases hm : m = 64
    · subst hn hm
      have HA := Lib.hid hA
      have HB := Lib.hid hB
      have HXB := Lib.hid hx
      have HYB := Lib.hid hy
      have HR := Lib.hid hr
      clear hA hB hx hy hr hn63 hm63
      go_enter Try.func4, Try.ntmps4
      go_wp2_with fail
      refine (wakes_any _).mono ?_
      rintro e w1 ⟨rfl, hb1⟩
      have HB1 := Lib.hid (HB0.out.trans (hb1.mono HB0.out.size))
      have HX1 := Lib.hid (HX0.out.below hb1)
      have HA1 := Lib.hid (HA.out.below HB1.out)
      have HBB1 := Lib.hid (HB.out.below HB1.out)
      obtain ⟨rb, hrb⟩ : ∃ rb, rb = w.heap.size := ⟨_, rfl⟩
      rw [← hrb] at HX1
      have HRB := Lib.hid hrb
      clear hb1 HB0 HX0 HA HB hrb
      go_wp2_with fail
      refine (new_any 20 _).mono ?_
      rintro e w2 ⟨g, F2, rfl, hD2, hb2, hf2⟩
      have U2 := Lib.hid (show Up w1 w2 F2 g (newSt 20) from ⟨hD2, hf2, hb2⟩)
      clear hD2 hb2 hf2
      have HC0 := Lib.hid (fun w' => rcommit_any 1 0 w')
      have HC1 := Lib.hid (fun w' => rcommit_any 1 1 w')
      rw [show rC 1 0 = ((10 : Nat) : Int) from by decide] at HC0
      rw [show rC 1 1 = ((11 : Nat) : Int) from by decide] at HC1
      obtain ⟨c0, hc0⟩ : ∃ c : Nat, c = 10 := ⟨_, rfl⟩
      obtain ⟨c1, hc1⟩ : ∃ c : Nat, c = 11 := ⟨_, rfl⟩
      rw [← hc0] at HC0
      rw [← hc1] at HC1
      have HE0 := Lib.hid hc0
      have HE1 := Lib.hid hc1
      clear hc0 hc1
      go_wp2_with (go_at_call 17; refine (HC0.out _).mono ?_; rintro e w' ⟨rfl, rfl⟩)
      refine (U2.out.write (i := c0) (bs := xs) (by show (-1 : Int) < 0; omega) rfl (by rw [HE0.out]; simp [newSt, cnt20]) (HA1.out.below U2.out.bel) (fun b o e hF => by have := rd_lt HA1.out b o e; have := U2.out.low b hF; omega) (Nat.zero_le _)).mono ?_
      rintro e w3 ⟨rfl, F3, hU3, hk3, hf3⟩
      have U3 := Lib.hid hU3
      clear hU3 hk3 hf3 U2
      go_wp2_with (go_at_call 17; refine (HC1.out _).mono ?_; rintro e w' ⟨rfl, rfl⟩)
      refine (U3.out.write (i := c1) (bs := ys) (by show (-1 : Int) < 0; omega) rfl (by rw [HE1.out]; simp [wrote, newSt, cnt20]) (HBB1.out.below U3.out.bel) (fun b o e hF => by have := rd_lt HBB1.out b o e; have := U3.out.low b hF; omega) (by simp [wrote, newSt])).mono ?_
      rintro e w4 ⟨rfl, F4, hU4, hk4, hf4⟩
      rw [show wrote (wrote (newSt 20) c0 xs) c1 ys = s0 xs ys from by rw [HE0.out, HE1.out]; rfl] at hU4
      have U4 := Lib.hid hU4
      clear hU4 hk4 hf4 U3
      go_wp2_with fail
      refine (rlatest_any A B 64 c 64 d xs ys 1 _ (HA1.out.below U4.out.bel) HXB.out (HBB1.out.below U4.out.bel) HYB.out).mono ?_
      rintro e w5 ⟨rfl, hb5⟩
      obtain ⟨⟨wr, wi⟩, hq⟩ : ∃ q, q = late 1 xs ys := ⟨_, rfl⟩
      rw [← hq]
      dsimp only
      obtain ⟨hx6, hb6⟩ := box w5 wr
      have U6 := Lib.hid (U4.out.under (hb5.trans (hb6.mono hb5.size)))
      have HW6 := Lib.hid (show Bo (w5.alloc (.cells #[.int .i64 wr.p, .int .i64 wr.q, .int .i64 wr.a, .int .i64 wr.c, .int .i64 wr.l, .int .i64 wr.b] 31)) F4 (fun _ => False) w5.heap.size wr from ⟨hx6, fun h => by
        rcases h with h | h
        · have := U4.out.dk.lt _ h; have := hb5.size; omega
        · exact h⟩)
      have HQ := Lib.hid hq
      have HWB := Lib.hid (show w1.heap.size ≤ w5.heap.size from by have := U4.out.bel.size; have := hb5.size; omega)
      clear hx6 hb5 hb6 hq U4
      go_upto_region 9 with (fail)
      obtain ⟨w6, hw6⟩ : ∃ w6, w6 = w5.alloc (.cells #[.int .i64 wr.p, .int .i64 wr.q, .int .i64 wr.a, .int .i64 wr.c, .int .i64 wr.l, .int .i64 wr.b] 31) := ⟨_, rfl⟩
      rw [← hw6] at U6 HW6 ⊢
      obtain ⟨wb, hwb⟩ : ∃ wb, wb = w5.heap.size := ⟨_, rfl⟩
      rw [← hwb] at HW6 HWB ⊢
      clear hw6 hwb
      have hop := open_any F4 g (s0 xs ys) 1 w6 U6.out.dk (by omega) (by rw [s0_len]; omega) rfl (by simp [s0, wrote, newSt]) (now_byt (s0_byts HXB.out HYB.out))
      rw [s0_lO, ← HQ.out] at hop
      have HOP := Lib.hid hop
      have hlq := late_q 1 xs ys
      rw [← HQ.out] at hlq
      clear hop
      go_wp2_with fail
      refine HOP.out.mono ?_
      rintro e w7 ⟨hb7, ⟨hq1, a, J7, rfl, hm7, hJ7⟩ | ⟨hq1, rfl⟩⟩
      · have hq1 : 1 ≤ wr.q := hq1
        have hwq : (wr.q == 0) = false := by simp; omega
        have hrt := late_right (p := 1) (a := xs) (b := ys) (by rw [← HQ.out]; exact hq1)
        rw [← HQ.out] at hrt
        have hi1 : wi ≤ 1 := by have := late_i 1 xs ys; rw [← HQ.out] at this; exact this
        have HO7 := Lib.hid (show Lo w1 w7 F4 J7 g a (s0 xs ys) ⟨1, wr, wi⟩ from ⟨⟨U6.out.dk.below hb7, hm7, fun i h1 h2 => (by have := U6.out.dk.lt i h1; have := hJ7 i h2; omega), by simp [s0, wrote, newSt], ⟨by show 1 ≤ 3; omega, by rw [s0_len]; show 10 * 1 + 2 ≤ 20; omega⟩, hrt.1, hrt.2, hi1⟩, fun i h => (by
          rcases h with h | h
          · exact U6.out.low i h
          · have := hJ7 i h; have := U6.out.bel.size; omega), U6.out.bel.trans (hb7.mono U6.out.bel.size)⟩)
        have HW7 := Lib.hid (show Bo w7 F4 J7 wb wr from ⟨HW6.out.1.below hb7, fun h => by
          rcases h with h | h
          · exact HW6.out.2 (.inl h)
          · have := hJ7 _ h; have := HW6.out.1.lt; omega⟩)
        have HRT := Lib.hid hrt
        have HI1 := Lib.hid hi1
        have HQ1 := Lib.hid hq1
        clear hb7 hm7 hJ7 HW6 U6 HOP hrt hlq hi1 hq1
        have q1 : w7.cell? ⟨wb, 1, none⟩ = some (.int .i64 wr.q) := HW7.out.six.2.1
        go_upto_region 12 with (fail)
        clear q1
        go_cut [65] (fun s65 wx => s65 = .bool false ∧ Hid (Lo w1 wx F4 J7 g a (s0 xs ys) ⟨1, wr, wi⟩) ∧ Hid (Bo wx F4 J7 wb wr))
        case first =>
          obtain ⟨n0, n1, n2, n3, n4, n5⟩ := HW7.out.six
          have hE := fun (w : World) => req wr wr true ⟨fun _ => rfl, fun _ => rfl⟩ w
          dsimp only [rval] at hE
          have HOd := Lib.hid (HO7.out.below ((Below.refl w7.heap.size w7).drew))
          have HNd := Lib.hid (HW7.out.below ((Below.refl w7.heap.size w7).drew))
          go_region_held3 (fun w' => w'.cell? ⟨wb, 0, none⟩ = some (.int .i64 wr.p) ∧ w'.cell? ⟨wb, 1, none⟩ = some (.int .i64 wr.q) ∧ w'.cell? ⟨wb, 2, none⟩ = some (.int .i64 wr.a) ∧ w'.cell? ⟨wb, 3, none⟩ = some (.int .i64 wr.c) ∧ w'.cell? ⟨wb, 4, none⟩ = some (.int .i64 wr.l) ∧ w'.cell? ⟨wb, 5, none⟩ = some (.int .i64 wr.b))
            (first | go_keep | exact HXe.out)
            (first
             | (go_at_call 15; refine (latest_any J7 g a ⟨1, wr, wi⟩ _ HOd.out.ls.lm).mono ?_; rintro e we ⟨rfl, hbe⟩; have HOe := Lib.hid (HOd.out.below hbe); have HNe := Lib.hid (HNd.out.below hbe); have HXe := Lib.hid HNe.out.six; clear hbe))
          all_goals
            go_wp2_with fail
            go_meet
            exact ⟨rfl, HOe, HNe⟩
        case rest =>
        obtain ⟨rfl, HO8, HW8⟩ := hcut
        clear HO7 HW7
        have HX8 := Lib.hid (HX1.out.below HO8.out.bel)
        obtain ⟨⟨y, f⟩, hyf⟩ : ∃ z, z = nx wr r := ⟨_, rfl⟩
        have HNX := Lib.hid (fun w' => rnext_any wr r w' (rok_of HRT.out.1) HR.out)
        have HSV := Lib.hid (fun w' (hh : LS w' F4 J7 g a (s0 xs ys) ⟨1, wr, wi⟩) => save_any F4 J7 g a (s0 xs ys) ⟨1, wr, wi⟩ r w' hh HR.out)
        rw [← hyf] at HNX
        have HYF := Lib.hid hyf
        dsimp only at HNX
        clear hyf
        go_wp2_with (first
          | (refine wpList_load_blk rfl 31 _ rfl wb rfl HW8.out.1 Try.underlying31 rfl size_rec ?_)
          | (refine wpList_load_blk rfl 31 _ rfl rb rfl HX8.out Try.underlying31 rfl size_rec ?_)
          | (rw [← HRB.out]; refine wpList_load_blk rfl 31 _ rfl rb rfl HX8.out Try.underlying31 rfl size_rec ?_))
        refine (HNX.out _).mono ?_
        rintro e w9 ⟨rfl, hb9⟩
        obtain ⟨hx10, hb10⟩ := box w9 y
        have hb910 := hb9.trans (hb10.mono hb9.size)
        have HO10 := Lib.hid (HO8.out.below hb910)
        have HW10 := Lib.hid (HW8.out.below hb910)
        have HY10 := Lib.hid (show Bo (w9.alloc (.cells #[.int .i64 y.p, .int .i64 y.q, .int .i64 y.a, .int .i64 y.c, .int .i64 y.l, .int .i64 y.b] 31)) F4 J7 w9.heap.size y from ⟨hx10, fun h => by have := HO8.out.lt _ h; have := hb9.size; omega⟩)
        clear hb9 hb10 hb910 hx10 HO8 HW8 HX8 HNX
        go_upto_region 15 with (fail)
        obtain ⟨w10, hw10⟩ : ∃ z, z = w9.alloc (.cells #[.int .i64 y.p, .int .i64 y.q, .int .i64 y.a, .int .i64 y.c, .int .i64 y.l, .int .i64 y.b] 31) := ⟨_, rfl⟩
        rw [← hw10] at HO10 HW10 HY10 ⊢
        obtain ⟨yb, hyb⟩ : ∃ z, z = w9.heap.size := ⟨_, rfl⟩
        rw [← hyb] at HY10 ⊢
        clear hw10 hyb
        obtain ⟨⟨s', l', h⟩, hs'⟩ : ∃ z, z = lS (s0 xs ys) ⟨1, wr, wi⟩ r := ⟨_, rfl⟩
        rw [← hs'] at HSV
        dsimp only at HSV
        have HLS : Hid (h = f ∧ l'.r = y ∧ (s'.L.length ≤ 1000000 ∧ (l'.p ≤ 3 ∧ 10 * l'.p + 2 ≤ s'.S.length) ∧ (l'.r.right ∧ l'.r.p = l'.p ∧ l'.i ≤ 1)) ∧ s'.S.length = 20 ∧ s'.down = false ∧
            ((f ≠ 0 ∧ now s' 10 = xs ∧ now s' 11 = ys) ∨ (f = 0 ∧ wi = 0 ∧ now s' 10 = xs ∧ now s' 11 = shut y.bytes ∧ (late 1 xs (shut y.bytes)).1 = y) ∨ (f = 0 ∧ wi = 1 ∧ now s' 10 = shut y.bytes ∧ now s' 11 = ys ∧ (late 1 (shut y.bytes) ys).1 = y))) := Lib.hid (by
          have e1 : wr = (late 1 xs ys).1 := by rw [← HQ.out]
          have e2 : wi = (late 1 xs ys).2 := by rw [← HQ.out]
          have hyf := HYF.out
          by_cases h0 : (nx wr r).2 = 0
          · have hn : (nx wr r).1 = nextR wr r ∧ (nextR wr r).right := by
              rcases nx_cases wr r with ⟨_, e, h⟩ | ⟨h, _⟩
              · exact ⟨e, h⟩
              · omega
            have hs := s0_save (a := xs) (b := ys) (r := r) (by rw [← e1]; exact h0)
            rw [← e1, ← e2, ← hs'] at hs
            obtain ⟨k1, k2, k3, k4, k5, k6, k7⟩ := hs
            dsimp only at k1 k2 k3 k4 k5 k6 k7
            have ey : y = nextR wr r := by rw [← hn.1, ← hyf]
            have ef : f = 0 := by rw [← hyf] at h0; exact h0
            have hln := late_next (p := 1) (a := xs) (b := ys) (r := wr) (y := y) (i := wi) HQ.out.symm (by rw [ey]; exact hn.2) (by rw [ey]; exact HRT.out.2) (by rw [ey]; show wr.q < wr.q + 1; omega)
            refine ⟨by rw [k1, ef], by rw [k2, ey], ⟨by rw [k3]; exact Nat.zero_le _, ⟨by rw [k2]; show 1 ≤ 3; omega, by rw [k2, k5]; show 10 * 1 + 2 ≤ 20; omega⟩, by rw [k2]; exact hn.2, by rw [k2]; exact HRT.out.2, by rw [k2]; show 1 - wi ≤ 1; omega⟩, k5, k4, .inr ?_⟩
            rcases (show wi = 0 ∨ wi = 1 by have := HI1.out; omega) with e | e
            · exact .inl ⟨ef, e, (k6 e).1, by rw [ey]; exact (k6 e).2, by rw [hln.1 e]⟩
            · exact .inr ⟨ef, e, by rw [ey]; exact (k7 e).1, (k7 e).2, by rw [hln.2 e]⟩
          · have hn : (nx wr r).1 = wr := by
              rcases nx_cases wr r with ⟨h, _⟩ | ⟨_, e⟩
              · exact absurd h h0
              · exact e
            have hs := s0_no (a := xs) (b := ys) (r := r) (by rw [← e1]; exact h0)
            rw [← e1, ← e2, ← hs'] at hs
            injection hs with k1 k2
            injection k2 with k2 k3
            have ey : y = wr := by rw [← hn, ← hyf]
            have ef : f = (nx wr r).2 := by rw [← hyf]
            refine ⟨by rw [k3, ef], by rw [k2, ey], ⟨by rw [k1]; simp [s0, wrote, newSt], ⟨by rw [k2]; show 1 ≤ 3; omega, by rw [k1, k2, s0_len]; show 10 * 1 + 2 ≤ 20; omega⟩, by rw [k2]; exact HRT.out.1, by rw [k2]; exact HRT.out.2, by rw [k2]; exact HI1.out⟩, by rw [k1]; exact s0_len _ _, by rw [k1]; rfl, .inl ⟨by rw [ef]; exact h0, by rw [k1]; exact (s0_now xs ys).1, by rw [k1]; exact (s0_now xs ys).2⟩⟩)
        have HYR : Hid y.right := Lib.hid (by rw [← HLS.out.2.1]; exact HLS.out.2.2.1.2.2.1)
        obtain rfl : h = f := HLS.out.1
        clear hs'
        go_cut [82] (fun s82 wx => s82 = .bool false ∧ ∃ F J, Hid (Lo w1 wx F J g a s' l') ∧ Hid (Bo wx F J wb wr) ∧ Hid (Bo wx F J yb y))
        case first =>
          have hrx := HX1.out.below HO10.out.bel
          obtain ⟨k0, k1, k2, k3, k4, k5⟩ : w10.cell? ⟨rb, 0, none⟩ = some (.int .i64 r.p) ∧ w10.cell? ⟨rb, 1, none⟩ = some (.int .i64 r.q) ∧ w10.cell? ⟨rb, 2, none⟩ = some (.int .i64 r.a) ∧ w10.cell? ⟨rb, 3, none⟩ = some (.int .i64 r.c) ∧ w10.cell? ⟨rb, 4, none⟩ = some (.int .i64 r.l) ∧ w10.cell? ⟨rb, 5, none⟩ = some (.int .i64 r.b) := ⟨hrx.cell rfl, hrx.cell rfl, hrx.cell rfl, hrx.cell rfl, hrx.cell rfl, hrx.cell rfl⟩
          obtain ⟨n0, n1, n2, n3, n4, n5⟩ := HY10.out.six
          have hE := fun (w : World) => req y y true ⟨fun _ => rfl, fun _ => rfl⟩ w
          dsimp only [rval] at hE
          have HOd := Lib.hid (HO10.out.below ((Below.refl w10.heap.size w10).drew))
          have HWd := Lib.hid (HW10.out.below ((Below.refl w10.heap.size w10).drew))
          have HYd := Lib.hid (HY10.out.below ((Below.refl w10.heap.size w10).drew))
          clear hrx
          go_region_held3 (fun w' => (w'.cell? ⟨rb, 0, none⟩ = some (.int .i64 r.p) ∧ w'.cell? ⟨rb, 1, none⟩ = some (.int .i64 r.q) ∧ w'.cell? ⟨rb, 2, none⟩ = some (.int .i64 r.a) ∧ w'.cell? ⟨rb, 3, none⟩ = some (.int .i64 r.c) ∧ w'.cell? ⟨rb, 4, none⟩ = some (.int .i64 r.l) ∧ w'.cell? ⟨rb, 5, none⟩ = some (.int .i64 r.b)) ∧ w'.cell? ⟨yb, 0, none⟩ = some (.int .i64 y.p) ∧ w'.cell? ⟨yb, 1, none⟩ = some (.int .i64 y.q) ∧ w'.cell? ⟨yb, 2, none⟩ = some (.int .i64 y.a) ∧ w'.cell? ⟨yb, 3, none⟩ = some (.int .i64 y.c) ∧ w'.cell? ⟨yb, 4, none⟩ = some (.int .i64 y.l) ∧ w'.cell? ⟨yb, 5, none⟩ = some (.int .i64 y.b))
            (first | go_keep | exact HXs.out | exact HXe.out)
            (first
             | (go_at_call 15; refine (latest_any J6 g a l' _ HOs.out.ls.lm).mono ?_; rintro e we ⟨rfl, hbe⟩; rw [HLS.out.2.1]; have HOe := Lib.hid (HOs.out.below hbe); have HWe := Lib.hid (HWs.out.below hbe); have HYe := Lib.hid (HYs.out.below hbe); have HXr := Lib.hid (HX1.out.below HOe.out.bel); have HXe := Lib.hid (show (we.cell? ⟨rb, 0, none⟩ = some (.int .i64 r.p) ∧ we.cell? ⟨rb, 1, none⟩ = some (.int .i64 r.q) ∧ we.cell? ⟨rb, 2, none⟩ = some (.int .i64 r.a) ∧ we.cell? ⟨rb, 3, none⟩ = some (.int .i64 r.c) ∧ we.cell? ⟨rb, 4, none⟩ = some (.int .i64 r.l) ∧ we.cell? ⟨rb, 5, none⟩ = some (.int .i64 r.b)) ∧ we.cell? ⟨yb, 0, none⟩ = some (.int .i64 y.p) ∧ we.cell? ⟨yb, 1, none⟩ = some (.int .i64 y.q) ∧ we.cell? ⟨yb, 2, none⟩ = some (.int .i64 y.a) ∧ we.cell? ⟨yb, 3, none⟩ = some (.int .i64 y.c) ∧ we.cell? ⟨yb, 4, none⟩ = some (.int .i64 y.l) ∧ we.cell? ⟨yb, 5, none⟩ = some (.int .i64 y.b) from ⟨⟨HXr.out.cell rfl, HXr.out.cell rfl, HXr.out.cell rfl, HXr.out.cell rfl, HXr.out.cell rfl, HXr.out.cell rfl⟩, HYe.out.six⟩); clear hbe)
             | (go_at_call 11; refine (HSV.out _ HOd.out.ls).mono ?_; intro e ws hgs; obtain ⟨rfl, F6, J6, hO6, hk6, hgo6⟩ := HOd.out.step hgs HLS.out.2.2.1.1 HLS.out.2.2.1.2.1 HLS.out.2.2.1.2.2; have HOs := Lib.hid hO6; have HWs := Lib.hid (HWd.out.step hk6 hgo6); have HYs := Lib.hid (HYd.out.step hk6 hgo6); have HXq := Lib.hid (HX1.out.below HOs.out.bel); have HXs := Lib.hid (show (ws.cell? ⟨rb, 0, none⟩ = some (.int .i64 r.p) ∧ ws.cell? ⟨rb, 1, none⟩ = some (.int .i64 r.q) ∧ ws.cell? ⟨rb, 2, none⟩ = some (.int .i64 r.a) ∧ ws.cell? ⟨rb, 3, none⟩ = some (.int .i64 r.c) ∧ ws.cell? ⟨rb, 4, none⟩ = some (.int .i64 r.l) ∧ ws.cell? ⟨rb, 5, none⟩ = some (.int .i64 r.b)) ∧ ws.cell? ⟨yb, 0, none⟩ = some (.int .i64 y.p) ∧ ws.cell? ⟨yb, 1, none⟩ = some (.int .i64 y.q) ∧ ws.cell? ⟨yb, 2, none⟩ = some (.int .i64 y.a) ∧ ws.cell? ⟨yb, 3, none⟩ = some (.int .i64 y.c) ∧ ws.cell? ⟨yb, 4, none⟩ = some (.int .i64 y.l) ∧ ws.cell? ⟨yb, 5, none⟩ = some (.int .i64 y.b) from ⟨⟨HXq.out.cell rfl, HXq.out.cell rfl, HXq.out.cell rfl, HXq.out.cell rfl, HXq.out.cell rfl, HXq.out.cell rfl⟩, HYs.out.six⟩); clear hgs hO6 hk6 hgo6))
          all_goals
            go_wp2_with fail
            go_meet
            exact ⟨rfl, F6, J6, HOe, HWe, HYe⟩
        case rest =>
        obtain ⟨rfl, F, J, HO11, HW11, HY11⟩ := hcut
        clear HO10 HW10 HY10 HSV
        have HD := Lib.hid (show s'.down = false from HLS.out.2.2.2.2.1)
        have HRD := Lib.hid (fun (i : Nat) (h : i < 20) w' (hd : Dk w' F g s') => Go.Proofs.Ytdmfgffjplbloaa.DskD.read_ok F g s' i w' hd (by rw [HLS.out.2.2.2.1]; exact h) HD.out (by have := HLS.out.2.2.1.1; omega))
        obtain ⟨X0, hX0⟩ : ∃ z, z = now s' 10 := ⟨_, rfl⟩
        obtain ⟨X1, hX1⟩ : ∃ z, z = now s' 11 := ⟨_, rfl⟩
        have HCS := HLS.out.2.2.2.2.2
        rw [← hX0, ← hX1] at HCS
        have HCS := Lib.hid HCS
        rw [← HE0.out] at hX0
        rw [← HE1.out] at hX1
        have HX0' := Lib.hid hX0
        have HX1' := Lib.hid hX1
        clear hX0 hX1
        have HL1 := HRB
        clear HYF HLS HX1
        go_wp2_with (go_at_call 17; refine (HC0.out _).mono ?_; rintro e w' ⟨rfl, rfl⟩)
        refine (HRD.out c0 (by rw [HE0.out]; omega) _ HO11.out.ls.dk).mono ?_
        rintro e w12 ⟨A5, rfl, ho5, hb5⟩
        rw [← HX0'.out] at ho5
        have HO12 := Lib.hid (HO11.out.below hb5)
        have HW12 := Lib.hid (HW11.out.below hb5)
        have HY12 := Lib.hid (HY11.out.below hb5)
        have HA5 := Lib.hid (Rd.own ho5)
        clear ho5 hb5 HO11 HW11 HY11
        go_wp2_with (go_at_call 17; refine (HC1.out _).mono ?_; rintro e w' ⟨rfl, rfl⟩)
        refine (HRD.out c1 (by rw [HE1.out]; omega) _ HO12.out.ls.dk).mono ?_
        rintro e w13 ⟨A6, rfl, ho6, hb6⟩
        rw [← HX1'.out] at ho6
        have HO13 := Lib.hid (HO12.out.below hb6)
        have HW13 := Lib.hid (HW12.out.below hb6)
        have HY13 := Lib.hid (HY12.out.below hb6)
        have HA13 := Lib.hid (HA5.out.below hb6)
        have HB13 := Lib.hid (Rd.own ho6)
        have HP13 := Lib.hid (HA1.out.below HO13.out.bel)
        have HQ13 := Lib.hid (HBB1.out.below HO13.out.bel)
        have HL13 := Lib.hid (HB1.out.trans (HO13.out.bel.mono HB1.out.size))
        clear ho6 hb6 HO12 HW12 HY12 HA5 HRD HX0' HX1' HA1 HBB1 HB1
        go_upto_region 19 with (fail)
        by_cases hf : h = 0
        · subst hf
          have HCS : Hid ((wi = 0 ∧ X0 = xs ∧ X1 = shut y.bytes ∧ (late 1 xs (shut y.bytes)).1 = y) ∨ (wi = 1 ∧ X0 = shut y.bytes ∧ X1 = ys ∧ (late 1 (shut y.bytes) ys).1 = y)) := Lib.hid (by
            rcases HCS.out with ⟨h, _⟩ | ⟨_, h⟩ | ⟨_, h⟩
            · exact absurd rfl h
            · exact .inl h
            · exact .inr h)
          have hfi := first_iff (a := xs) (b := ys) (by rw [← HQ.out]; exact HQ1.out)
          rw [← HQ.out] at hfi
          dsimp only at hfi
          have HFI := Lib.hid hfi
          obtain ⟨fb, hfb⟩ := bool_of ((late 1 xs (zs 64)).1 = wr)
          have HFB := Lib.hid hfb
          have HLT := Lib.hid (fun (P Q : Option Addr) (k k' : Nat) (w' : World) (h1 : Rd w' P 64 k (u8n xs)) (h2 : Rd w' Q 64 k' (u8n (zs 64))) => rlatest_any P Q 64 k 64 k' xs (zs 64) 1 w' h1 HXB.out h2 (zs_byt 64))
          obtain ⟨lz, hlz⟩ : ∃ z, z = (late 1 xs (zs 64)).1 := ⟨_, rfl⟩
          rw [← hlz] at HLT HFI HFB hfb
          have hE := fun (w : World) => req lz wr fb hfb w
          dsimp only [rval] at hE
          clear hfi hfb hlz
          have hmk := make64
          obtain ⟨Z, hZ⟩ : ∃ Z, Z = (u8n (zs 64)).toArray := ⟨_, rfl⟩
          simp only [← hZ] at hmk
          have HZR := Lib.hid (fun w : World => zeros_rd w)
          rw [← hZ] at HZR
          clear hZ
          go_upto_region 21 with (fail)
          go_cut [17] (fun s17 wx => s17 = .bool fb ∧ Hid (Below w13.heap.size w13 wx))
          case first =>
            obtain ⟨n0, n1, n2, n3, n4, n5⟩ := HW13.out.six
            have HPd := Lib.hid (fun Z' => (HP13.out.below ((Below.refl w13.heap.size w13).drew)).alloc Z')
            have HZd := Lib.hid (HZR.out w13.drew)
            have HWd := Lib.hid (HW13.out.below (((Below.refl w13.heap.size w13).drew).alloc (Nat.le_refl _) (.cells Z 5)))
            have HBd := Lib.hid (((Below.refl w13.heap.size w13).drew).alloc (Nat.le_refl _) (.cells Z 5))
            go_region_held3 (fun w' => w'.cell? ⟨wb, 0, none⟩ = some (.int .i64 wr.p) ∧ w'.cell? ⟨wb, 1, none⟩ = some (.int .i64 wr.q) ∧ w'.cell? ⟨wb, 2, none⟩ = some (.int .i64 wr.a) ∧ w'.cell? ⟨wb, 3, none⟩ = some (.int .i64 wr.c) ∧ w'.cell? ⟨wb, 4, none⟩ = some (.int .i64 wr.l) ∧ w'.cell? ⟨wb, 5, none⟩ = some (.int .i64 wr.b))
              (first | go_keep | exact HXe.out)
              (first
               | (go_at_call 18; refine (HLT.out _ _ _ _ _ (HPd.out _) HZd.out).mono ?_; rintro e we ⟨rfl, hbe⟩; have HXe := Lib.hid (HWd.out.below hbe).six; have HBe := Lib.hid (HBd.out.trans (hbe.mono HBd.out.size)); clear hbe))
            all_goals
              go_wp2_with fail
              go_meet
              exact ⟨rfl, HBe⟩
          case rest =>
          obtain ⟨rfl, HBC⟩ := hcut
          have HY14 := Lib.hid (HY13.out.below HBC.out)
          have HA14 := Lib.hid (HA13.out.below HBC.out)
          have HB14 := Lib.hid (HB13.out.below HBC.out)
          have HP14 := Lib.hid (HP13.out.below HBC.out)
          have HQ14 := Lib.hid (HQ13.out.below HBC.out)
          have HL14 := Lib.hid (HL13.out.trans (HBC.out.mono HL13.out.size))
          clear HY13 HA13 HB13 HP13 HQ13 HL13 HW13 HO13 HBC hE HLT HZR hmk
          have hE := fun (w : World) => req y y true ⟨fun _ => rfl, fun _ => rfl⟩ w
          dsimp only [rval] at hE
          obtain ⟨n0, n1, n2, n3, n4, n5⟩ := HY14.out.six
          have HAd := Lib.hid (HA14.out.below ((Below.refl wc.heap.size wc).drew))
          have HBd := Lib.hid (HB14.out.below ((Below.refl wc.heap.size wc).drew))
          have HPd := Lib.hid (HP14.out.below ((Below.refl wc.heap.size wc).drew))
          have HQd := Lib.hid (HQ14.out.below ((Below.refl wc.heap.size wc).drew))
          have HYd := Lib.hid (HY14.out.below ((Below.refl wc.heap.size wc).drew))
          have HLd := Lib.hid (HL14.out.drew)
          rcases HCS.out with ⟨hw, rfl, rfl, hlt⟩ | ⟨hw, rfl, rfl, hlt⟩
          · obtain rfl : fb = true := HFB.out.2 (HFI.out.1 hw)
            have HLQ := Lib.hid (fun (w' : World) (h1 : Rd w' A5 64 64 (u8n X0)) (h2 : Rd w' A6 64 64 (u8n (shut y.bytes))) => rlatest_any A5 A6 64 64 64 64 X0 (shut y.bytes) 1 w' h1 HXB.out h2 (shut_lt (Rc.bytes_lt _)))
            rw [hlt] at HLQ
            clear hw hlt HCS HFI HFB
            go_upto_region 22 with (fail)
            refine wp_region_any (by kernel_rfl) ?_
            change wpAny _ _ _ _ _ _ _ (World.drew _)
            refine wpAny_take (i := 0) (v := .bool true) rfl (by kernel_rfl) (by kernel_rfl) (by kernel_rfl) (fun _ _ _ h => h) (Or.inl ⟨by rfl, fun w => (by first | rfl | (go_simp; done))⟩) ?_
            try simp only [Act.put, List.getElem_toArray, List.getElem_cons_zero, List.setIfInBounds_toArray, List.set_cons_zero, List.set_cons_succ]
            refine wpAny_take (i := 1) (v := .bool true) rfl (by kernel_rfl) (by kernel_rfl) (by kernel_rfl) (fun _ _ _ h => h) (Or.inl ⟨by rfl, fun w => (by first | rfl | (go_simp; done))⟩) ?_
            try simp only [Act.put, List.getElem_toArray, List.getElem_cons_succ, List.getElem_cons_zero, List.setIfInBounds_toArray, List.set_cons_zero, List.set_cons_succ]
            refine wpAny_take (i := 2) (v := .slice A5 64 64) rfl (by kernel_rfl) (by kernel_rfl) (by kernel_rfl) (fun _ _ _ h => h) (Or.inl ⟨by rfl, fun w => (by first | rfl | (go_simp; done))⟩) ?_
            try simp only [Act.put, List.getElem_toArray, List.getElem_cons_succ, List.getElem_cons_zero, List.setIfInBounds_toArray, List.set_cons_zero, List.set_cons_succ]
            refine wpAny_take (i := 3) (v := .slice A 64 c) rfl (by kernel_rfl) (by kernel_rfl) (by kernel_rfl) (fun _ _ _ h => h) (Or.inl ⟨by rfl, fun w => (by first | rfl | (go_simp; done))⟩) ?_
            try simp only [Act.put, List.getElem_toArray, List.getElem_cons_succ, List.getElem_cons_zero, List.setIfInBounds_toArray, List.set_cons_zero, List.set_cons_succ]
            refine wpAny_ready (rs := [4]) (by kernel_rfl) (by simp) ?_
            refine AllReady.cons rfl (fun K hK => ?_) (AllReady.nil)
            rw [if_pos (by rfl)]
            go_simp
            refine (same_n HAd.out HPd.out).mono ?_
            rintro e ws ⟨rfl, nq, rfl⟩
            rw [decide_eq_true rfl]
            have HAs := Lib.hid (HAd.out.drewN nq)
            have HBs := Lib.hid (HBd.out.drewN nq)
            have HYs := Lib.hid (HYd.out.below (Go.Proofs.Ytdmfgffjplbloaa.DskF.Below.drewN (Below.refl _ _) nq))
            have HLs := Lib.hid (Go.Proofs.Ytdmfgffjplbloaa.DskF.Below.drewN HLd.out nq)
            go_wp2_with fail
            try simp only [Act.put, List.getElem_toArray, List.getElem_cons_succ, List.getElem_cons_zero, List.setIfInBounds_toArray, List.set_cons_zero, List.set_cons_succ]
            refine wpAny_take (i := 5) (v := .bool true) rfl (by kernel_rfl) (by kernel_rfl) (by kernel_rfl) (fun _ _ _ h => h) (Or.inl ⟨by rfl, fun w => (by first | rfl | (go_simp; done))⟩) ?_
            try simp only [Act.put, List.getElem_toArray, List.getElem_cons_succ, List.getElem_cons_zero, List.setIfInBounds_toArray, List.set_cons_zero, List.set_cons_succ]
            refine wpAny_take (i := 6) (v := .bool true) rfl (by kernel_rfl) (by kernel_rfl) (by kernel_rfl) (fun _ _ _ h => h) (Or.inl ⟨by rfl, fun w => (by first | rfl | (go_simp; done))⟩) ?_
            try simp only [Act.put, List.getElem_toArray, List.getElem_cons_succ, List.getElem_cons_zero, List.setIfInBounds_toArray, List.set_cons_zero, List.set_cons_succ]
            refine wpAny_take (i := 7) (v := undef) rfl (by kernel_rfl) (by kernel_rfl) (by kernel_rfl) (fun _ _ _ h => h) (Or.inr ⟨by rfl, rfl⟩) ?_
            try simp only [Act.put, List.getElem_toArray, List.getElem_cons_succ, List.getElem_cons_zero, List.setIfInBounds_toArray, List.set_cons_zero, List.set_cons_succ]
            refine wpAny_take (i := 8) (v := undef) rfl (by kernel_rfl) (by kernel_rfl) (by kernel_rfl) (fun _ _ _ h => h) (Or.inr ⟨by rfl, rfl⟩) ?_
            try simp only [Act.put, List.getElem_toArray, List.getElem_cons_succ, List.getElem_cons_zero, List.setIfInBounds_toArray, List.set_cons_zero, List.set_cons_succ]
            refine wpAny_take (i := 9) (v := undef) rfl (by kernel_rfl) (by kernel_rfl) (by kernel_rfl) (fun _ _ _ h => h) (Or.inr ⟨by rfl, rfl⟩) ?_
            try simp only [Act.put, List.getElem_toArray, List.getElem_cons_succ, List.getElem_cons_zero, List.setIfInBounds_toArray, List.set_cons_zero, List.set_cons_succ]
            refine wpAny_take (i := 10) (v := undef) rfl (by kernel_rfl) (by kernel_rfl) (by kernel_rfl) (fun _ _ _ h => h) (Or.inr ⟨by rfl, rfl⟩) ?_
            try simp only [Act.put, List.getElem_toArray, List.getElem_cons_succ, List.getElem_cons_zero, List.setIfInBounds_toArray, List.set_cons_zero, List.set_cons_succ]
            refine wpAny_take (i := 11) (v := undef) rfl (by kernel_rfl) (by kernel_rfl) (by kernel_rfl) (fun _ _ _ h => h) (Or.inr ⟨by rfl, rfl⟩) ?_
            try simp only [Act.put, List.getElem_toArray, List.getElem_cons_succ, List.getElem_cons_zero, List.setIfInBounds_toArray, List.set_cons_zero, List.set_cons_succ]
            refine wpAny_take (i := 12) (v := undef) rfl (by kernel_rfl) (by kernel_rfl) (by kernel_rfl) (fun _ _ _ h => h) (Or.inr ⟨by rfl, rfl⟩) ?_
            try simp only [Act.put, List.getElem_toArray, List.getElem_cons_succ, List.getElem_cons_zero, List.setIfInBounds_toArray, List.set_cons_zero, List.set_cons_succ]
            refine wpAny_take (i := 13) (v := undef) rfl (by kernel_rfl) (by kernel_rfl) (by kernel_rfl) (fun _ _ _ h => h) (Or.inr ⟨by rfl, rfl⟩) ?_
            try simp only [Act.put, List.getElem_toArray, List.getElem_cons_succ, List.getElem_cons_zero, List.setIfInBounds_toArray, List.set_cons_zero, List.set_cons_succ]
            refine wpAny_take (i := 14) (v := .bool true) rfl (by kernel_rfl) (by kernel_rfl) (by kernel_rfl) (fun _ _ _ h => h) (Or.inl ⟨by rfl, fun w => (by first | rfl | (go_simp; done))⟩) ?_
            try simp only [Act.put, List.getElem_toArray, List.getElem_cons_succ, List.getElem_cons_zero, List.setIfInBounds_toArray, List.set_cons_zero, List.set_cons_succ]
            refine wpAny_take (i := 15) (v := .bool true) rfl (by kernel_rfl) (by kernel_rfl) (by kernel_rfl) (fun _ _ _ h => h) (Or.inl ⟨by rfl, fun w => (by first | rfl | (go_simp; done))⟩) ?_
            try simp only [Act.put, List.getElem_toArray, List.getElem_cons_succ, List.getElem_cons_zero, List.setIfInBounds_toArray, List.set_cons_zero, List.set_cons_succ]
            refine wpAny_take (i := 16) (v := .slice A5 64 64) rfl (by kernel_rfl) (by kernel_rfl) (by kernel_rfl) (fun _ _ _ h => h) (Or.inl ⟨by rfl, fun w => (by first | rfl | (go_simp; done))⟩) ?_
            try simp only [Act.put, List.getElem_toArray, List.getElem_cons_succ, List.getElem_cons_zero, List.setIfInBounds_toArray, List.set_cons_zero, List.set_cons_succ]
            refine wpAny_take (i := 17) (v := .slice A6 64 64) rfl (by kernel_rfl) (by kernel_rfl) (by kernel_rfl) (fun _ _ _ h => h) (Or.inl ⟨by rfl, fun w => (by first | rfl | (go_simp; done))⟩) ?_
            try simp only [Act.put, List.getElem_toArray, List.getElem_cons_succ, List.getElem_cons_zero, List.setIfInBounds_toArray, List.set_cons_zero, List.set_cons_succ]
            refine wpAny_ready (rs := [18, 19]) (by kernel_rfl) (by simp) ?_
            refine AllReady.cons rfl (fun K hK => ?_) (AllReady.cons rfl (fun K hK => ?_) (AllReady.nil))
            focus
              rw [if_pos (by rfl)]
              go_simp
              (first | refine (HLQ.out _ HAs.out HBs.out).mono ?_ | refine (HLQ.out _ (HA14.out.drewN _) (HB14.out.drewN _)).mono ?_)
              rintro e we ⟨rfl, hbe⟩
              have HLe : Hid (Below w.heap.size w we) := Lib.hid (by first | exact HLs.out.trans (hbe.mono HLs.out.size) | exact (Go.Proofs.Ytdmfgffjplbloaa.DskF.Below.drewN HL14.out _).trans (hbe.mono HL14.out.size))
              have HYe : Bo we F J yb y := by first | exact HYs.out.below hbe | exact (HY14.out.below (Go.Proofs.Ytdmfgffjplbloaa.DskF.Below.drewN (Below.refl _ _) _)).below hbe
              obtain ⟨m0, m1, m2, m3, m4, m5⟩ := HYe.six
              clear HYe
              clear hbe
              go_wp2_with fail
              try simp only [Act.put, List.getElem_toArray, List.getElem_cons_succ, List.getElem_cons_zero, List.setIfInBounds_toArray, List.set_cons_zero, List.set_cons_succ]
              refine wpAny_ready (rs := [19]) (by kernel_rfl) (by simp) ?_
              refine AllReady.cons rfl (fun K hK => ?_) (AllReady.nil)
              rw [if_pos (by rfl)]
              go_simp
              refine hK _ _ ?_
              clear hK K
              try simp only [Act.put, List.getElem_toArray, List.getElem_cons_succ, List.getElem_cons_zero, List.setIfInBounds_toArray, List.set_cons_zero, List.set_cons_succ]
              refine wpAny_take (i := 20) (v := .bool true) rfl (by kernel_rfl) (by kernel_rfl) (by kernel_rfl) (fun _ _ _ h => h) (Or.inl ⟨by rfl, fun w => (by first | rfl | (go_simp; done))⟩) ?_
              try simp only [Act.put, List.getElem_toArray, List.getElem_cons_succ, List.getElem_cons_zero, List.setIfInBounds_toArray, List.set_cons_zero, List.set_cons_succ]
              refine wpAny_take (i := 21) (v := .bool true) rfl (by kernel_rfl) (by kernel_rfl) (by kernel_rfl) (fun _ _ _ h => h) (Or.inl ⟨by rfl, fun w => (by first | rfl | (go_simp; done))⟩) ?_
              try simp only [Act.put, List.getElem_toArray, List.getElem_cons_succ, List.getElem_cons_zero, List.setIfInBounds_toArray, List.set_cons_zero, List.set_cons_succ]
              refine wpAny_take (i := 22) (v := .bool true) rfl (by kernel_rfl) (by kernel_rfl) (by kernel_rfl) (fun _ _ _ h => h) (Or.inl ⟨by rfl, fun w => (by first | rfl | (go_simp; done))⟩) ?_
              try simp only [Act.put, List.getElem_toArray, List.getElem_cons_succ, List.getElem_cons_zero, List.setIfInBounds_toArray, List.set_cons_zero, List.set_cons_succ]
              refine wpAny_done (by kernel_rfl) ?_ _
              go_wp2_with fail
              go_ret
              exact ⟨rfl, HLe.out⟩
            focus
              rw [if_pos (by rfl)]
              go_simp
              refine hK _ _ ?_
              clear hK K
              try simp only [Act.put, List.getElem_toArray, List.getElem_cons_succ, List.getElem_cons_zero, List.setIfInBounds_toArray, List.set_cons_zero, List.set_cons_succ]
              refine wpAny_ready (rs := [18]) (by kernel_rfl) (by simp) ?_
              refine AllReady.cons rfl (fun K hK => ?_) (AllReady.nil)
              rw [if_pos (by rfl)]
              go_simp
              (first | refine (HLQ.out _ HAs.out HBs.out).mono ?_ | refine (HLQ.out _ (HA14.out.drewN _) (HB14.out.drewN _)).mono ?_)
              rintro e we ⟨rfl, hbe⟩
              have HLe : Hid (Below w.heap.size w we) := Lib.hid (by first | exact HLs.out.trans (hbe.mono HLs.out.size) | exact (Go.Proofs.Ytdmfgffjplbloaa.DskF.Below.drewN HL14.out _).trans (hbe.mono HL14.out.size))
              have HYe : Bo we F J yb y := by first | exact HYs.out.below hbe | exact (HY14.out.below (Go.Proofs.Ytdmfgffjplbloaa.DskF.Below.drewN (Below.refl _ _) _)).below hbe
              obtain ⟨m0, m1, m2, m3, m4, m5⟩ := HYe.six
              clear HYe
              clear hbe
              go_wp2_with fail
              try simp only [Act.put, List.getElem_toArray, List.getElem_cons_succ, List.getElem_cons_zero, List.setIfInBounds_toArray, List.set_cons_zero, List.set_cons_succ]
              refine wpAny_take (i := 20) (v := .bool true) rfl (by kernel_rfl) (by kernel_rfl) (by kernel_rfl) (fun _ _ _ h => h) (Or.inl ⟨by rfl, fun w => (by first | rfl | (go_simp; done))⟩) ?_
              try simp only [Act.put, List.getElem_toArray, List.getElem_cons_succ, List.getElem_cons_zero, List.setIfInBounds_toArray, List.set_cons_zero, List.set_cons_succ]
              refine wpAny_take (i := 21) (v := .bool true) rfl (by kernel_rfl) (by kernel_rfl) (by kernel_rfl) (fun _ _ _ h => h) (Or.inl ⟨by rfl, fun w => (by first | rfl | (go_simp; done))⟩) ?_
              try simp only [Act.put, List.getElem_toArray, List.getElem_cons_succ, List.getElem_cons_zero, List.setIfInBounds_toArray, List.set_cons_zero, List.set_cons_succ]
              refine wpAny_take (i := 22) (v := .bool true) rfl (by kernel_rfl) (by kernel_rfl) (by kernel_rfl) (fun _ _ _ h => h) (Or.inl ⟨by rfl, fun w => (by first | rfl | (go_simp; done))⟩) ?_
              try simp only [Act.put, List.getElem_toArray, List.getElem_cons_succ, List.getElem_cons_zero, List.setIfInBounds_toArray, List.set_cons_zero, List.set_cons_succ]
              refine wpAny_done (by kernel_rfl) ?_ _
              go_wp2_with fail
              go_ret
              exact ⟨rfl, HLe.out⟩
          · obtain rfl : fb = false := by
              rw [Bool.eq_false_iff]
              exact fun h => HFI.out.2 hw (HFB.out.1 h)
            have HLQ := Lib.hid (fun (w' : World) (h1 : Rd w' A5 64 64 (u8n (shut y.bytes))) (h2 : Rd w' A6 64 64 (u8n X1)) => rlatest_any A5 A6 64 64 64 64 (shut y.bytes) X1 1 w' h1 (shut_lt (Rc.bytes_lt _)) h2 HYB.out)
            rw [hlt] at HLQ
            clear hw hlt HCS HFI HFB
            go_upto_region 22 with (fail)
            refine wp_region_any (by kernel_rfl) ?_
            change wpAny _ _ _ _ _ _ _ (World.drew _)
            refine wpAny_take (i := 0) (v := .bool false) rfl (by kernel_rfl) (by kernel_rfl) (by kernel_rfl) (fun _ _ _ h => h) (Or.inl ⟨by rfl, fun w => (by first | rfl | (go_simp; done))⟩) ?_
            try simp only [Act.put, List.getElem_toArray, List.getElem_cons_zero, List.setIfInBounds_toArray, List.set_cons_zero, List.set_cons_succ]
            refine wpAny_take (i := 1) (v := .bool false) rfl (by kernel_rfl) (by kernel_rfl) (by kernel_rfl) (fun _ _ _ h => h) (Or.inl ⟨by rfl, fun w => (by first | rfl | (go_simp; done))⟩) ?_
            try simp only [Act.put, List.getElem_toArray, List.getElem_cons_succ, List.getElem_cons_zero, List.setIfInBounds_toArray, List.set_cons_zero, List.set_cons_succ]
            refine wpAny_take (i := 2) (v := undef) rfl (by kernel_rfl) (by kernel_rfl) (by kernel_rfl) (fun _ _ _ h => h) (Or.inr ⟨by rfl, rfl⟩) ?_
            try simp only [Act.put, List.getElem_toArray, List.getElem_cons_succ, List.getElem_cons_zero, List.setIfInBounds_toArray, List.set_cons_zero, List.set_cons_succ]
            refine wpAny_take (i := 3) (v := undef) rfl (by kernel_rfl) (by kernel_rfl) (by kernel_rfl) (fun _ _ _ h => h) (Or.inr ⟨by rfl, rfl⟩) ?_
            try simp only [Act.put, List.getElem_toArray, List.getElem_cons_succ, List.getElem_cons_zero, List.setIfInBounds_toArray, List.set_cons_zero, List.set_cons_succ]
            refine wpAny_take (i := 4) (v := undef) rfl (by kernel_rfl) (by kernel_rfl) (by kernel_rfl) (fun _ _ _ h => h) (Or.inr ⟨by rfl, rfl⟩) ?_
            try simp only [Act.put, List.getElem_toArray, List.getElem_cons_succ, List.getElem_cons_zero, List.setIfInBounds_toArray, List.set_cons_zero, List.set_cons_succ]
            refine wpAny_take (i := 5) (v := .bool false) rfl (by kernel_rfl) (by kernel_rfl) (by kernel_rfl) (fun _ _ _ h => h) (Or.inl ⟨by rfl, fun w => (by first | rfl | (go_simp; done))⟩) ?_
            try simp only [Act.put, List.getElem_toArray, List.getElem_cons_succ, List.getElem_cons_zero, List.setIfInBounds_toArray, List.set_cons_zero, List.set_cons_succ]
            refine wpAny_take (i := 6) (v := .bool false) rfl (by kernel_rfl) (by kernel_rfl) (by kernel_rfl) (fun _ _ _ h => h) (Or.inl ⟨by rfl, fun w => (by first | rfl | (go_simp; done))⟩) ?_
            try simp only [Act.put, List.getElem_toArray, List.getElem_cons_succ, List.getElem_cons_zero, List.setIfInBounds_toArray, List.set_cons_zero, List.set_cons_succ]
            refine wpAny_take (i := 7) (v := .bool false) rfl (by kernel_rfl) (by kernel_rfl) (by kernel_rfl) (fun _ _ _ h => h) (Or.inl ⟨by rfl, fun w => (by first | rfl | (go_simp; done))⟩) ?_
            try simp only [Act.put, List.getElem_toArray, List.getElem_cons_succ, List.getElem_cons_zero, List.setIfInBounds_toArray, List.set_cons_zero, List.set_cons_succ]
            refine wpAny_take (i := 8) (v := .bool true) rfl (by kernel_rfl) (by kernel_rfl) (by kernel_rfl) (fun _ _ _ h => h) (Or.inl ⟨by rfl, fun w => (by first | rfl | (go_simp; done))⟩) ?_
            try simp only [Act.put, List.getElem_toArray, List.getElem_cons_succ, List.getElem_cons_zero, List.setIfInBounds_toArray, List.set_cons_zero, List.set_cons_succ]
            refine wpAny_take (i := 9) (v := .bool true) rfl (by kernel_rfl) (by kernel_rfl) (by kernel_rfl) (fun _ _ _ h => h) (Or.inl ⟨by rfl, fun w => (by first | rfl | (go_simp; done))⟩) ?_
            try simp only [Act.put, List.getElem_toArray, List.getElem_cons_succ, List.getElem_cons_zero, List.setIfInBounds_toArray, List.set_cons_zero, List.set_cons_succ]
            refine wpAny_take (i := 10) (v := .slice A6 64 64) rfl (by kernel_rfl) (by kernel_rfl) (by kernel_rfl) (fun _ _ _ h => h) (Or.inl ⟨by rfl, fun w => (by first | rfl | (go_simp; done))⟩) ?_
            try simp only [Act.put, List.getElem_toArray, List.getElem_cons_succ, List.getElem_cons_zero, List.setIfInBounds_toArray, List.set_cons_zero, List.set_cons_succ]
            refine wpAny_take (i := 11) (v := .slice B 64 d) rfl (by kernel_rfl) (by kernel_rfl) (by kernel_rfl) (fun _ _ _ h => h) (Or.inl ⟨by rfl, fun w => (by first | rfl | (go_simp; done))⟩) ?_
            try simp only [Act.put, List.getElem_toArray, List.getElem_cons_succ, List.getElem_cons_zero, List.setIfInBounds_toArray, List.set_cons_zero, List.set_cons_succ]
            refine wpAny_ready (rs := [12]) (by kernel_rfl) (by simp) ?_
            refine AllReady.cons rfl (fun K hK => ?_) (AllReady.nil)
            rw [if_pos (by rfl)]
            go_simp
            refine (same_n HBd.out HQd.out).mono ?_
            rintro e ws ⟨rfl, nq, rfl⟩
            rw [decide_eq_true rfl]
            have HAs := Lib.hid (HAd.out.drewN nq)
            have HBs := Lib.hid (HBd.out.drewN nq)
            have HYs := Lib.hid (HYd.out.below (Go.Proofs.Ytdmfgffjplbloaa.DskF.Below.drewN (Below.refl _ _) nq))
            have HLs := Lib.hid (Go.Proofs.Ytdmfgffjplbloaa.DskF.Below.drewN HLd.out nq)
            go_wp2_with fail
            try simp only [Act.put, List.getElem_toArray, List.getElem_cons_succ, List.getElem_cons_zero, List.setIfInBounds_toArray, List.set_cons_zero, List.set_cons_succ]
            refine wpAny_take (i := 13) (v := .bool true) rfl (by kernel_rfl) (by kernel_rfl) (by kernel_rfl) (fun _ _ _ h => h) (Or.inl ⟨by rfl, fun w => (by first | rfl | (go_simp; done))⟩) ?_
            try simp only [Act.put, List.getElem_toArray, List.getElem_cons_succ, List.getElem_cons_zero, List.setIfInBounds_toArray, List.set_cons_zero, List.set_cons_succ]
            refine wpAny_take (i := 14) (v := .bool true) rfl (by kernel_rfl) (by kernel_rfl) (by kernel_rfl) (fun _ _ _ h => h) (Or.inl ⟨by rfl, fun w => (by first | rfl | (go_simp; done))⟩) ?_
            try simp only [Act.put, List.getElem_toArray, List.getElem_cons_succ, List.getElem_cons_zero, List.setIfInBounds_toArray, List.set_cons_zero, List.set_cons_succ]
            refine wpAny_take (i := 15) (v := .bool true) rfl (by kernel_rfl) (by kernel_rfl) (by kernel_rfl) (fun _ _ _ h => h) (Or.inl ⟨by rfl, fun w => (by first | rfl | (go_simp; done))⟩) ?_
            try simp only [Act.put, List.getElem_toArray, List.getElem_cons_succ, List.getElem_cons_zero, List.setIfInBounds_toArray, List.set_cons_zero, List.set_cons_succ]
            refine wpAny_take (i := 16) (v := .slice A5 64 64) rfl (by kernel_rfl) (by kernel_rfl) (by kernel_rfl) (fun _ _ _ h => h) (Or.inl ⟨by rfl, fun w => (by first | rfl | (go_simp; done))⟩) ?_
            try simp only [Act.put, List.getElem_toArray, List.getElem_cons_succ, List.getElem_cons_zero, List.setIfInBounds_toArray, List.set_cons_zero, List.set_cons_succ]
            refine wpAny_take (i := 17) (v := .slice A6 64 64) rfl (by kernel_rfl) (by kernel_rfl) (by kernel_rfl) (fun _ _ _ h => h) (Or.inl ⟨by rfl, fun w => (by first | rfl | (go_simp; done))⟩) ?_
            try simp only [Act.put, List.getElem_toArray, List.getElem_cons_succ, List.getElem_cons_zero, List.setIfInBounds_toArray, List.set_cons_zero, List.set_cons_succ]
            refine wpAny_ready (rs := [18, 19]) (by kernel_rfl) (by simp) ?_
            refine AllReady.cons rfl (fun K hK => ?_) (AllReady.cons rfl (fun K hK => ?_) (AllReady.nil))
            focus
              rw [if_pos (by rfl)]
              go_simp
              (first | refine (HLQ.out _ HAs.out HBs.out).mono ?_ | refine (HLQ.out _ (HA14.out.drewN _) (HB14.out.drewN _)).mono ?_)
              rintro e we ⟨rfl, hbe⟩
              have HLe : Hid (Below w.heap.size w we) := Lib.hid (by first | exact HLs.out.trans (hbe.mono HLs.out.size) | exact (Go.Proofs.Ytdmfgffjplbloaa.DskF.Below.drewN HL14.out _).trans (hbe.mono HL14.out.size))
              have HYe : Bo we F J yb y := by first | exact HYs.out.below hbe | exact (HY14.out.below (Go.Proofs.Ytdmfgffjplbloaa.DskF.Below.drewN (Below.refl _ _) _)).below hbe
              obtain ⟨m0, m1, m2, m3, m4, m5⟩ := HYe.six
              clear HYe
              clear hbe
              go_wp2_with fail
              try simp only [Act.put, List.getElem_toArray, List.getElem_cons_succ, List.getElem_cons_zero, List.setIfInBounds_toArray, List.set_cons_zero, List.set_cons_succ]
              refine wpAny_ready (rs := [19]) (by kernel_rfl) (by simp) ?_
              refine AllReady.cons rfl (fun K hK => ?_) (AllReady.nil)
              rw [if_pos (by rfl)]
              go_simp
              refine hK _ _ ?_
              clear hK K
              try simp only [Act.put, List.getElem_toArray, List.getElem_cons_succ, List.getElem_cons_zero, List.setIfInBounds_toArray, List.set_cons_zero, List.set_cons_succ]
              refine wpAny_take (i := 20) (v := .bool true) rfl (by kernel_rfl) (by kernel_rfl) (by kernel_rfl) (fun _ _ _ h => h) (Or.inl ⟨by rfl, fun w => (by first | rfl | (go_simp; done))⟩) ?_
              try simp only [Act.put, List.getElem_toArray, List.getElem_cons_succ, List.getElem_cons_zero, List.setIfInBounds_toArray, List.set_cons_zero, List.set_cons_succ]
              refine wpAny_take (i := 21) (v := .bool true) rfl (by kernel_rfl) (by kernel_rfl) (by kernel_rfl) (fun _ _ _ h => h) (Or.inl ⟨by rfl, fun w => (by first | rfl | (go_simp; done))⟩) ?_
              try simp only [Act.put, List.getElem_toArray, List.getElem_cons_succ, List.getElem_cons_zero, List.setIfInBounds_toArray, List.set_cons_zero, List.set_cons_succ]
              refine wpAny_take (i := 22) (v := .bool true) rfl (by kernel_rfl) (by kernel_rfl) (by kernel_rfl) (fun _ _ _ h => h) (Or.inl ⟨by rfl, fun w => (by first | rfl | (go_simp; done))⟩) ?_
              try simp only [Act.put, List.getElem_toArray, List.getElem_cons_succ, List.getElem_cons_zero, List.setIfInBounds_toArray, List.set_cons_zero, List.set_cons_succ]
              refine wpAny_done (by kernel_rfl) ?_ _
              go_wp2_with fail
              go_ret
              exact ⟨rfl, HLe.out⟩
            focus
              rw [if_pos (by rfl)]
              go_simp
              refine hK _ _ ?_
              clear hK K
              try simp only [Act.put, List.getElem_toArray, List.getElem_cons_succ, List.getElem_cons_zero, List.setIfInBounds_toArray, List.set_cons_zero, List.set_cons_succ]
              refine wpAny_ready (rs := [18]) (by kernel_rfl) (by simp) ?_
              refine AllReady.cons rfl (fun K hK => ?_) (AllReady.nil)
              rw [if_pos (by rfl)]
              go_simp
              (first | refine (HLQ.out _ HAs.out HBs.out).mono ?_ | refine (HLQ.out _ (HA14.out.drewN _) (HB14.out.drewN _)).mono ?_)
              rintro e we ⟨rfl, hbe⟩
              have HLe : Hid (Below w.heap.size w we) := Lib.hid (by first | exact HLs.out.trans (hbe.mono HLs.out.size) | exact (Go.Proofs.Ytdmfgffjplbloaa.DskF.Below.drewN HL14.out _).trans (hbe.mono HL14.out.size))
              have HYe : Bo we F J yb y := by first | exact HYs.out.below hbe | exact (HY14.out.below (Go.Proofs.Ytdmfgffjplbloaa.DskF.Below.drewN (Below.refl _ _) _)).below hbe
              obtain ⟨m0, m1, m2, m3, m4, m5⟩ := HYe.six
              clear HYe
              clear hbe
              go_wp2_with fail
              try simp only [Act.put, List.getElem_toArray, List.getElem_cons_succ, List.getElem_cons_zero, List.setIfInBounds_toArray, List.set_cons_zero, List.set_cons_succ]
              refine wpAny_take (i := 20) (v := .bool true) rfl (by kernel_rfl) (by kernel_rfl) (by kernel_rfl) (fun _ _ _ h => h) (Or.inl ⟨by rfl, fun w => (by first | rfl | (go_simp; done))⟩) ?_
              try simp only [Act.put, List.getElem_toArray, List.getElem_cons_succ, List.getElem_cons_zero, List.setIfInBounds_toArray, List.set_cons_zero, List.set_cons_succ]
              refine wpAny_take (i := 21) (v := .bool true) rfl (by kernel_rfl) (by kernel_rfl) (by kernel_rfl) (fun _ _ _ h => h) (Or.inl ⟨by rfl, fun w => (by first | rfl | (go_simp; done))⟩) ?_
              try simp only [Act.put, List.getElem_toArray, List.getElem_cons_succ, List.getElem_cons_zero, List.setIfInBounds_toArray, List.set_cons_zero, List.set_cons_succ]
              refine wpAny_take (i := 22) (v := .bool true) rfl (by kernel_rfl) (by kernel_rfl) (by kernel_rfl) (fun _ _ _ h => h) (Or.inl ⟨by rfl, fun w => (by first | rfl | (go_simp; done))⟩) ?_
              try simp only [Act.put, List.getElem_toArray, List.getElem_cons_succ, List.getElem_cons_zero, List.setIfInBounds_toArray, List.set_cons_zero, List.set_cons_succ]
              refine wpAny_done (by kernel_rfl) ?_ _
              go_wp2_with fail
              go_ret
              exact ⟨rfl, HLe.out⟩
        · have hf' : (h != 0) = true := by simpa using hf
          obtain ⟨rfl, rfl⟩ : X0 = xs ∧ X1 = ys := by
            rcases HCS.out with ⟨_, h1, h2⟩ | ⟨h, _⟩ | ⟨h, _⟩
            · exact ⟨h1, h2⟩
            · exact absurd h hf
            · exact absurd h hf
          clear hf
          go_wp2_with fail
          refine (same_n HA13.out HP13.out).mono ?_
          rintro e w14 ⟨rfl, nq, rfl⟩
          rw [decide_eq_true rfl]
          go_wp2_with fail
          refine (same_n (HB13.out.drewN nq) (HQ13.out.drewN nq)).mono ?_
          rintro e w15 ⟨rfl, nq2, rfl⟩
          rw [decide_eq_true rfl]
          go_wp2
          go_ret
          exact ⟨rfl, Go.Proofs.Ytdmfgffjplbloaa.DskF.Below.drewN HL13.out _⟩
      · have hq1 : wr.q < 1 := hq1
        obtain hq0 : wr.q = 0 := by omega
        have q1 : w7.cell? ⟨wb, 1, none⟩ = some (.int .i64 0) := by
          have h := (HW6.out.below hb7).six.2.1
          rw [hq0] at h
          exact h
        have HL := Lib.hid (HB1.out.trans ((U6.out.bel.trans (hb7.mono U6.out.bel.size)).mono HB1.out.size))
        clear hq0 hq1 hlq
        go_wp2
        go_ret
        exact ⟨rfl, HL.out⟩
    · have hm' : ((m : Int) != 64) = true := by simp; omega
      subst hn
      go_enter Try.func4, Try.ntmps4
      go_wp2_with fail
      refine (wakes_any _).mono ?_
      rintro e w1 ⟨rfl, hb1⟩
      have HB1 := Lib.hid (HB0.out.trans (hb1.mono HB0.out.size))
      clear hb1
      go_wp2
      go_ret
      exact ⟨rfl, HB1.out⟩
  · have hn' : ((n : Int) != 64) = true := by simp; omega
    go_enter Try.func4, Try.ntmps4
    go_wp2_with fail
    refine (wakes_any _).mono ?_
    rintro e w1 ⟨rfl, hb1⟩
    have HB1 := Lib.hid (HB0.out.trans (hb1.mono HB0.out.size))
    clear hb1
    go_wp2
    go_ret
    exact ⟨rfl, HB1.out⟩
set_option maxRecDepth 100000 in
theorem hole {H : Type} (enc : TypeId × Value → H) (base : Nat) (a0 : Option Addr) (len0 cap0 : Nat) (z0 : List Int) (a1 : Option Addr) (len1 cap1 : Nat) (z1 : List Int) (v2 : Value) (d2 : DataW H) (p2 : List MemPlace) (w : World) (w0 : Row .u8 w a0 len0 cap0 z0) (w1 : Row .u8 w a1 len1 cap1 z1) (w2 : DataW.Trod enc Try.prog w 0 (fun _ => true) true 31 v2 d2 p2) (o2 : Value.okWide Try.prog w .any base 31 v2) :
    Calls Try.prog 4 #[.slice a0 len0 cap0, .slice a1 len1 cap1, v2] w fun e w' => e = .returned (.bool true) ∧ Below w.heap.size w w' := by
  obtain ⟨xs, hx, hb⟩ := Row.nats w0
  obtain ⟨ys, hy, hc⟩ := Row.nats w1
  obtain ⟨r, rfl, hr⟩ := open_record w2 o2
  exact core a0 a1 len0 cap0 len1 cap1 xs ys r w hx hb hy hc hr
end Go.Proofs.Ytdmfgffjplbloaa.CommitReadsW
