/- The walk of DiskActs. No conditions. -/
import Derived.Test.YtdofnoaadkpniaaDskG
import Derived.Test.YtdofnoaadkpniaaRdkF
import Derived.Deep.RegionHeld3
namespace Go.Proofs.Ytdofnoaadkpniaa.DiskActsW
open Go.RowKit Go.Proofs.Ytdofnoaadkpniaa.Kit Go.Proofs.Ytdofnoaadkpniaa.Byt Go.Proofs.Ytdofnoaadkpniaa.Mem Go.Proofs.Ytdofnoaadkpniaa.Same Go.Proofs.Ytdofnoaadkpniaa.DskA Go.Proofs.Ytdofnoaadkpniaa.DskB Go.Proofs.Ytdofnoaadkpniaa.DskC Go.Proofs.Ytdofnoaadkpniaa.DskD Go.Proofs.Ytdofnoaadkpniaa.DskE Go.Proofs.Ytdofnoaadkpniaa.DskF Go.Proofs.Ytdofnoaadkpniaa.DskG Go.Proofs.Ytdofnoaadkpniaa.RdkA Go.Proofs.Ytdofnoaadkpniaa.RdkB Go.Proofs.Ytdofnoaadkpniaa.RdkC Go.Proofs.Ytdofnoaadkpniaa.RdkD Go.Proofs.Ytdofnoaadkpniaa.RdkE Go.Proofs.Ytdofnoaadkpniaa.RdkF

set_option maxRecDepth 100000 in
set_option maxHeartbeats 12800000 in
theorem core (m : Int) (hm0 : -9223372036854775808 ≤ m) (hm1 : m ≤ 9223372036854775807) (A : Option Addr) (n c : Nat) (R : List Ac) (w : World) (hR : Acts w A n c R) (h100 : n ≤ 100) (h10 : m ≤ 10 ∨ 128 < m) :
    Calls Try.prog 3 #[.int .i64 m, .slice A n c] w fun e w' => e = .returned (.bool true) ∧ Below w.heap.size w w' := by
  have HR := Lib.hid hR
  have hd0 : decide (100 < (n : Int)) = false := by simp; omega
  clear hR
  rcases h10 with h10 | h10
  case' inl => have hd1 : decide (10 < m) = false := by simp; omega
  case' inr =>
    have hd1 : decide (10 < m) = true := by simp; omega
    have hd2 : decide (m ≤ 128) = false := by simp; omega
  all_goals
    go_enter Try.func3, Try.ntmps3
    go_wp2_with (go_at_call 8; refine (wakes_any _).mono ?_; rintro e w1 ⟨rfl, hb1⟩)
    refine (new_any m _).mono ?_
    rintro e w2 ⟨g1, F1, rfl, hD1, hb2, hf1⟩
    have H1 := Lib.hid hD1
    have HB1 := Lib.hid hb1
    have HB2 := Lib.hid hb2
    clear hD1 hb1 hb2
    go_wp2_with fail
    refine (rnew_any m _).mono ?_
    rintro e w3 ⟨g2, F2, rfl, hE, hb3, hf2⟩
    have HI0 := Lib.hid (two_new HB1.out H1.out HB2.out hf1 hE hb3 hf2)
    clear hE hb3 hf2 hf1 H1 HB1 HB2
    go_wp2_with fail
    go_loopw [31] (fun i wr => ∃ k : Nat, k ≤ n ∧ i = .int .i64 k ∧ Hid (AInv w g1 g2 k (cnt m) wr)) (fun i _ => n - (intOf i).toNat)
    case atStart => exact ⟨0, Nat.zero_le _, rfl, HI0⟩
    case round =>
      obtain ⟨k, hk, rfl, HI⟩ := hrel
      clear HI0
      by_cases hlt : k < n
      · obtain ⟨F1, F2, s, t, hP, hS, hfew, hlen⟩ := HI.out
        obtain ⟨r, b, o, hr, hm, hok, hA, hb, q0, q1, q2, q3, q4⟩ := (HR.out.below hP.bel).at_ hlt
        subst hA
        have hby := hok.b1
        have HOK := Lib.hid hok
        have HS := Lib.hid hS
        have HF := Lib.hid hfew
        have HN := Lib.hid hlen
        have hLs := Lib.hid (show s.L.length ≤ 1000000000 from by omega)
        have hLt := Lib.hid (show t.L.length ≤ 1000000000 from by rw [← hS.L]; omega)
        have HP := Lib.hid (hP.under ((Below.refl _ _).alloc (Nat.le_refl _) (.cells #[.int .i64 r.kind, .int .i64 r.at_, .int .u8 (r.by_ : Int), .bool r.long, .int .u64 (r.keep : Int)] 30)))
        have Hlt1 := Lib.hid (show ∀ k, F1 k → k < wr.heap.size from hP.a.lt)
        have Hlt2 := Lib.hid (show ∀ k, F2 k → k < wr.heap.size from hP.b.lt)
        have Hsw := Lib.hid hP.bel.size
        clear hP hS hfew hlen hr hm hok HI
        by_cases hk0 : r.kind = 0
        · have e0 : (r.kind == 0) = true := by rw [hk0]; rfl
          clear hk0
          go_wp2_with fail
          have hbx := Blk.new wr 30 r.cells
          have hsz : wr.heap.size < (wr.alloc (.cells #[.int .i64 r.kind, .int .i64 r.at_, .int .u8 (r.by_ : Int), .bool r.long, .int .u64 (r.keep : Int)] 30)).heap.size := by simp
          obtain ⟨wa, hwa⟩ : ∃ wa, wa = wr.alloc (.cells #[.int .i64 r.kind, .int .i64 r.at_, .int .u8 (r.by_ : Int), .bool r.long, .int .u64 (r.keep : Int)] 30) := ⟨_, rfl⟩
          have hbx' : Blk wa wr.heap.size 30 r.cells := by rw [hwa]; exact hbx
          rw [← hwa] at HP hsz ⊢
          clear hwa hbx q0 q1 q2 q3 q4
          obtain ⟨bx, hbx2⟩ : ∃ bx, bx = wr.heap.size := ⟨_, rfl⟩
          rw [← hbx2] at hbx' hsz Hlt1 Hlt2 Hsw ⊢
          clear hbx2
          have HBX := Lib.hid hbx'
          clear hbx'
          refine (fill_any r.by_ hby r.long _).mono ?_
          rintro e w2 ⟨A2, n2, c2, hn2, rfl, hown2, hb2⟩
          have hL : (fl r.by_ (if r.long = true then 65 else 64)).length = n2 := hn2.out.symm
          obtain ⟨xs, hxs⟩ : ∃ xs, xs = fl r.by_ (if r.long = true then 65 else 64) := ⟨_, rfl⟩
          rw [← hxs] at hL hown2
          have hn2a : 64 ≤ n2 ∧ n2 ≤ 65 := by
            rw [← hL, hxs, fl_len]
            split <;> omega
          obtain ⟨n2a, n2b⟩ := hn2a
          obtain ⟨bb, rfl, hbb1, hbb2⟩ := own_some hown2 (by omega)
          have hx0 := hown2.cellAt 0 (by omega)
          obtain ⟨x0, hx0e⟩ : ∃ x0, (u8n xs)[0]? = some (.int .u8 (x0 : Int)) := by
            obtain ⟨y, ys, rfl⟩ : ∃ y ys, xs = y :: ys := by
              cases xs with
              | nil => simp at hL; omega
              | cons y ys => exact ⟨y, ys, rfl⟩
            exact ⟨(y : Int), rfl⟩
          rw [hx0e] at hx0
          have HX0 := Lib.hid hx0e
          have HO2 := Lib.hid hown2
          have HP2 := Lib.hid ((HP.out.under hb2).drew)
          have hbl2 : bx < w2.drew.heap.size := Nat.lt_of_lt_of_le hsz hb2.size
          have p1 : w2.cell? ⟨bx, 1, none⟩ = some (.int .i64 r.at_) := (HBX.out.below hb2).cell rfl
          have hn1 : ¬ F1 bb := fun h => by have := Hlt1.out bb h; omega
          have hn2' : ¬ F2 bb := fun h => by have := Hlt2.out bb h; omega
          have HN1 := Lib.hid hn1
          have HN2 := Lib.hid hn2'
          have HL2 := Lib.hid hL
          have hbw0 : w.heap.size ≤ bb := by have := Hsw.out; omega
          clear hn2 hL hxs hown2 hb2 hx0e hn1 hn2' hx0
          go_wp2_with fail
          go_region_held3 (fun w' => w'.cell? ⟨bx, 1, none⟩ = some (.int .i64 r.at_))
            (first
             | go_keep
             | (rw [hx3]; assumption)
             | (rw [hx4, hx3]; assumption))
            (first
             | (go_at_call 12; refine (dwrite r.at_ (bs := xs) HP2.out.a (show Rd w2 (some ⟨bb, 0, none⟩) n2 c2 (u8n xs) from Rd.own HO2.out) (fun b o h hF => by injection h with h; injection h with h _; exact HN1.out (h ▸ hF)) hLs.out).mono ?_; intro e w3 h3; obtain ⟨rfl, F3, hP3, hk3, hf3⟩ := HP2.out.left h3; have hx3 : ∀ i, w3.cell? ⟨bx, i, none⟩ = w2.drew.cell? ⟨bx, i, none⟩ := fun i => World.cell?_of_block (hk3.block bx hbl2 (fun h => by have := Hlt1.out bx h; omega)); have HP3 := Lib.hid hP3; have hs3 : w2.heap.size ≤ w3.heap.size := hk3.size; have HF3 := Lib.hid (show ¬ F3 bb from fun h => by rcases hf3 bb h with h | h; exact HN1.out h; (have h : w2.heap.size ≤ bb := h); omega); have HO3 := Lib.hid (hk3.own (show w2.drew.ownsRow wa.heap.size 5 1 (.slice (some ⟨bb, 0, none⟩) n2 c2) n2 (u8n xs) from HO2.out) (fun k hk => by injection hk with hk; exact hk ▸ HN1.out)); clear h3 hP3 hk3 hf3)
             | (go_at_call 13; refine (rwrite r.at_ (bs := xs) HP3.out.b (show Rd w3 (some ⟨bb, 0, none⟩) n2 c2 (u8n xs) from Rd.own HO3.out) (fun b o h hF => by injection h with h; injection h with h _; exact HN2.out (h ▸ hF)) hLt.out).mono ?_; intro e w4 h4; rw [← HS.out.wcode] at h4; obtain ⟨rfl, F4, hP4, hk4, hf4⟩ := HP3.out.right h4; have hx4 : ∀ i, w4.cell? ⟨bx, i, none⟩ = w3.cell? ⟨bx, i, none⟩ := fun i => World.cell?_of_block (hk4.block bx (by have hbl2' : bx < w2.heap.size := hbl2; omega) (fun h => by have := Hlt2.out bx h; omega)); have HP4 := Lib.hid hP4; have HF4 := Lib.hid (show ¬ F4 bb from fun h => by rcases hf4 bb h with h | h; exact HN2.out h; omega); have HO4 := Lib.hid (hk4.own HO3.out (fun k hk => by injection hk with hk; exact hk ▸ HN2.out)); clear h4 hP4 hk4 hf4))
          have y0 : w4.cell? ⟨bb, 0, none⟩ = some (.int .u8 x0) := by rw [HO4.out.cellAt 0 (by omega)]; exact HX0.out
          have yf := HO4.out.frozenAt 0
          have HP5 := Lib.hid (show ∀ v, Pr w (w4.setCell ⟨bb, 0, none⟩ v) F3 F4 g1 g2 (wst s r.at_ n2 xs) (wst t r.at_ n2 xs) from fun v => HP4.out.keep (Keep.set (F := fun k => k = bb) w4 0 v rfl) (fun k hk h => HF3.out (h ▸ hk)) (fun k hk h => HF4.out (h ▸ hk)) fun k hk => hk ▸ hbw0)
          clear hx3 hx4 p1
          go_wp2_with (go_at_call 19; refine (alike_any F3 F4 g1 g2 _ _ _ (HP5.out _).a (HP5.out _).b (HS.out.wst _ _ _) (by have := wst_few s r.at_ n2 xs; have := hLs.out; have := HF.out; omega)).mono ?_; rintro e w9 ⟨rfl, hb9⟩)
          go_roundw
          case rel => exact ⟨k + 1, by omega, by go_num, F3, F4, _, _, (HP5.out _).under hb9, HS.out.wst _ _ _, by have := wst_few s r.at_ n2 xs; have := HF.out; omega, by rw [wst_len]; exact HN.out⟩
          case measure => simp [intOf]; omega
        · have e0 : (r.kind == 0) = false := by simpa using hk0
          clear hk0
          by_cases hk1 : r.kind = 1
          · have e1 : (r.kind == 1) = true := by rw [hk1]; rfl
            clear hk1
            go_wp2_with (first
              | (go_at_call 14; refine (dflush HP.out.a hLs.out).mono ?_; intro e w3 h3; obtain ⟨rfl, F3, hP3, _, _⟩ := HP.out.left h3; have HP3 := Lib.hid hP3; clear h3 hP3)
              | (go_at_call 15; refine (rflush HP3.out.b hLt.out).mono ?_; intro e w4 h4; rw [← HS.out.fcode] at h4; obtain ⟨rfl, F4, hP4, _, _⟩ := HP3.out.right h4; have HP4 := Lib.hid hP4; clear h4 hP4)
              | (go_at_call 19; refine (alike_any F3 F4 g1 g2 _ _ _ (HP4.out).a (HP4.out).b HS.out.fst (Nat.le_trans (fst_few _) hLs.out)).mono ?_; rintro e w9 ⟨rfl, hb9⟩))
            go_roundw
            case rel => exact ⟨k + 1, by omega, by go_num, F3, F4, _, _, HP4.out.under hb9, HS.out.fst, by have := fst_few s; have := HF.out; omega, by rw [fst_len]; exact HN.out⟩
            case measure => simp [intOf]; omega
          · have e1 : (r.kind == 1) = false := by simpa using hk1
            clear hk1
            by_cases hk2 : r.kind = 2
            · have e2 : (r.kind == 2) = true := by rw [hk2]; rfl
              clear hk2
              have a0 := HOK.out.a0
              have a1 := HOK.out.a1
              cases hd : t.down with
              | true =>
                have Hd := Lib.hid hd
                clear hd
                go_wp2_with (first
                  | (go_at_call 16; refine (fuse_any F1 g1 s r.at_ _ HP.out.a a0 a1).mono ?_; intro e w3 h3; obtain ⟨rfl, F3, hP3, _, _⟩ := HP.out.left h3; have HP3 := Lib.hid hP3; have d4 := (rd_cells hP3.b).2.2.1; rw [Hd.out] at d4; clear h3 hP3)
                  | (go_at_call 19; refine (alike_any F3 F2 g1 g2 _ _ _ (HP3.out).a (HP3.out).b (HS.out.fused_d Hd.out _) hLs.out).mono ?_; rintro e w9 ⟨rfl, hb9⟩))
                go_roundw
                case rel => exact ⟨k + 1, by omega, by go_num, F3, F2, _, _, HP3.out.under hb9, HS.out.fused_d Hd.out _, by have := HF.out; show s.L.length ≤ _; omega, HN.out⟩
                case measure => simp [intOf]; omega
              | false =>
                have Hd := Lib.hid hd
                clear hd
                by_cases ha : -1 ≤ r.at_
                · have hsm : Sim { s with fuse := r.at_ } { t with fuse := r.at_ } := by
                    have h := HS.out.fused Hd.out r.at_
                    have hmx : max r.at_ (-1) = r.at_ := by omega
                    rwa [hmx] at h
                  have HSM := Lib.hid hsm
                  clear hsm
                  go_wp2_with (first
                    | (go_at_call 16; refine (fuse_any F1 g1 s r.at_ _ HP.out.a a0 a1).mono ?_; intro e w3 h3; obtain ⟨rfl, F3, hP3, hk3, _⟩ := HP.out.left h3; have z1 := (World.cell?_of_block (a := ⟨wr.heap.size, 1, none⟩) (hk3.block wr.heap.size (by simp) (fun h => by have := Hlt1.out _ h; omega))).trans ((Blk.new wr 30 r.cells).cell (i := 1) rfl); obtain ⟨_, d3, d4, ff3, _⟩ := rd_cells hP3.b; rw [Hd.out] at d4; have hr1 := rd_fuse hP3.b r.at_ (by omega) (by omega); obtain ⟨_, F4, hQ, _, _⟩ := hP3.right (v := .tuple #[]) (e := .returned (.tuple #[])) ⟨rfl, F2, hr1.1, hr1.2, fun k hk => .inl hk⟩; have HQ := Lib.hid hQ; clear h3 hP3 hk3 hr1 hQ)
                    | (go_at_call 19; refine (alike_any F3 F4 g1 g2 _ _ _ HQ.out.a HQ.out.b HSM.out hLs.out).mono ?_; rintro e w9 ⟨rfl, hb9⟩))
                  go_roundw
                  case rel => exact ⟨k + 1, by omega, by go_num, F3, F4, _, _, HQ.out.under hb9, HSM.out, by have := HF.out; show s.L.length ≤ _; omega, HN.out⟩
                  case measure => simp [intOf]; omega
                · have hsm : Sim { s with fuse := r.at_ } { t with fuse := (-1) } := by
                    have h := HS.out.fused Hd.out r.at_
                    have hmx : max r.at_ (-1) = (-1) := by omega
                    rwa [hmx] at h
                  have HSM := Lib.hid hsm
                  clear hsm
                  go_wp2_with (first
                    | (go_at_call 16; refine (fuse_any F1 g1 s r.at_ _ HP.out.a a0 a1).mono ?_; intro e w3 h3; obtain ⟨rfl, F3, hP3, hk3, _⟩ := HP.out.left h3; have z1 := (World.cell?_of_block (a := ⟨wr.heap.size, 1, none⟩) (hk3.block wr.heap.size (by simp) (fun h => by have := Hlt1.out _ h; omega))).trans ((Blk.new wr 30 r.cells).cell (i := 1) rfl); obtain ⟨_, d3, d4, ff3, _⟩ := rd_cells hP3.b; rw [Hd.out] at d4; have hr1 := rd_fuse hP3.b (-1) (by omega) (by omega); obtain ⟨_, F4, hQ, _, _⟩ := hP3.right (v := .tuple #[]) (e := .returned (.tuple #[])) ⟨rfl, F2, hr1.1, hr1.2, fun k hk => .inl hk⟩; have HQ := Lib.hid hQ; clear h3 hP3 hk3 hr1 hQ)
                    | (go_at_call 19; refine (alike_any F3 F4 g1 g2 _ _ _ HQ.out.a HQ.out.b HSM.out hLs.out).mono ?_; rintro e w9 ⟨rfl, hb9⟩))
                  go_roundw
                  case rel => exact ⟨k + 1, by omega, by go_num, F3, F4, _, _, HQ.out.under hb9, HSM.out, by have := HF.out; show s.L.length ≤ _; omega, HN.out⟩
                  case measure => simp [intOf]; omega
            · have e2 : (r.kind == 2) = false := by simpa using hk2
              clear hk2
              by_cases hk3 : r.kind = 3
              · have e3 : (r.kind == 3) = true := by rw [hk3]; rfl
                clear hk3
                have hkp := HOK.out.q1
                go_wp2_with (first
                  | (go_at_call 17; refine (power_any F1 g1 s r.keep _ HP.out.a hLs.out hkp).mono ?_; intro e w3 h3; obtain ⟨rfl, F3, hP3, hk3, _⟩ := HP.out.left h3; have HP3 := Lib.hid hP3; have z4 := (World.cell?_of_block (a := ⟨wr.heap.size, 4, none⟩) (hk3.block wr.heap.size (by simp) (fun h => by have := Hlt1.out _ h; omega))).trans ((Blk.new wr 30 r.cells).cell (i := 4) rfl); clear hk3; clear h3 hP3)
                  | (go_at_call 18; refine (rlay_keep F2 g2 t r.keep _ HP3.out.b hLt.out hkp).mono ?_; intro e w4 h4; obtain ⟨rfl, F4, hP4, _, _⟩ := HP3.out.right h4; have HP4 := Lib.hid hP4; obtain ⟨_, d3, d4, ff3, ff4⟩ := rd_cells hP4.b; have hr1 := rd_down hP4.b false; have hr2 := rd_fuse hr1.1 (-1) (by omega) (by omega); obtain ⟨_, F5, hP5, _, _⟩ := HP4.out.right (v := .tuple #[]) (e := .returned (.tuple #[])) ⟨rfl, F4, hr2.1, hr1.2.trans hr2.2 fun _ h => .inl h, fun k hk => .inl hk⟩; have HP5 := Lib.hid hP5; clear h4 hP4 hr1 hr2 hP5)
                  | (go_at_call 19; refine (alike_any F3 F5 g1 g2 _ _ _ (HP5.out).a (HP5.out).b (HS.out.power r.keep) (Nat.zero_le _)).mono ?_; rintro e w9 ⟨rfl, hb9⟩))
                go_roundw
                case rel => exact ⟨k + 1, by omega, by go_num, F3, F5, _, _, HP5.out.under hb9, HS.out.power r.keep, Nat.zero_le _, by show (laidTo _ _ _ _).length = _; rw [laidTo_len]; exact HN.out⟩
                case measure => simp [intOf]; omega
              · have e3 : (r.kind == 3) = false := by simpa using hk3
                clear hk3
                go_wp2_with (go_at_call 19; refine (alike_any F1 F2 g1 g2 _ _ _ (HP.out).a (HP.out).b HS.out hLs.out).mono ?_; rintro e w9 ⟨rfl, hb9⟩)
                go_roundw
                case rel => exact ⟨k + 1, by omega, by go_num, F1, F2, s, t, HP.out.under hb9, HS.out, by have := HF.out; omega, HN.out⟩
                case measure => simp [intOf]; omega
      · obtain rfl : k = n := by omega
        obtain ⟨F1, F2, s, t, hP, hS, hfew, hlen⟩ := HI.out
        obtain ⟨⟨A0, cc, k0⟩, _, _, _, _⟩ := rd_cells hP.b
        have hrd := read_range F1 g1 s (t.S.length : Int) wr hP.a (by rw [← hS.S]; simp [inB])
        have HRD := Lib.hid hrd
        have HBW := Lib.hid hP.bel
        clear hrd hP hS hfew hlen HI
        obtain ⟨N, hN⟩ : ∃ N, N = t.S.length := ⟨_, rfl⟩
        rw [← hN] at k0 HRD
        clear hN
        go_wp2_with (go_at_call 20; refine HRD.out.mono ?_; rintro e w' ⟨rfl, rfl⟩)
        go_ret
        exact ⟨rfl, HBW.out⟩

theorem early (m : Int) (A : Option Addr) (n c : Nat) (w : World) (hn : n ≤ 9223372036854775807) (h : 100 < n ∨ (n ≤ 100 ∧ 10 < m ∧ m ≤ 128)) :
    Calls Try.prog 3 #[.int .i64 m, .slice A n c] w fun e w' => e = .returned (.bool true) ∧ Below w.heap.size w w' := by
  rcases h with h | ⟨h, h1, h2⟩
  · have hd : decide (100 < (n : Int)) = true := by simp; omega
    go_enter Try.func3, Try.ntmps3
    go_wp2_with (go_at_call 8; refine (wakes_any _).mono ?_; rintro e w1 ⟨rfl, hb1⟩)
    go_ret
    exact ⟨rfl, hb1⟩
  · have hd : decide (100 < (n : Int)) = false := by simp; omega
    have hd1 : decide (10 < m) = true := by simp; omega
    have hd2 : decide (m ≤ 128) = true := by simp; omega
    go_enter Try.func3, Try.ntmps3
    go_wp2_with (go_at_call 8; refine (wakes_any _).mono ?_; rintro e w1 ⟨rfl, hb1⟩)
    go_ret
    exact ⟨rfl, hb1⟩

theorem hole {H : Type} (enc : TypeId × Value → H) (base : Nat) (a0 : Int) (v1 : Value) (d1 : DataW H) (p1 : List MemPlace) (w : World) (w0 : (Lit.int .i64 a0).wf = true) (w1 : DataW.Trod enc Try.prog w 0 (fun _ => true) true 22 v1 d1 p1) (o1 : Value.okWide Try.prog w .any base 22 v1) :
    Calls Try.prog 3 #[.int .i64 a0, v1] w fun e w' => e = .returned (.bool true) ∧ Below w.heap.size w w' := by
  have hb := bounds_i64 w0
  obtain ⟨A, n, c, R, rfl, hr⟩ := open_acts w1 o1
  have hn : n ≤ 9223372036854775807 := by have := hr.2.1; have := hr.2.2.1; omega
  by_cases h : 100 < n ∨ (n ≤ 100 ∧ 10 < a0 ∧ a0 ≤ 128)
  · exact early a0 A n c w hn h
  · exact core a0 hb.1 hb.2 A n c R w hr (by omega) (by omega)
end Go.Proofs.Ytdofnoaadkpniaa.DiskActsW
