/- The program's send, get and confirm. Conditions: what is worked on lies as the facts say. -/
import Derived.Test.YtegnehdfedfphaaJ04
import Derived.Deep.RegionLaw
namespace Go.Proofs.Ytegnehdfedfphaa.VmcH
open Go.RowKit Go.Proofs.Ytegnehdfedfphaa.Kit Go.Proofs.Ytegnehdfedfphaa.Byt Go.Proofs.Ytegnehdfedfphaa.Mem Go.Proofs.Ytegnehdfedfphaa.VmcM Go.Proofs.Ytegnehdfedfphaa.VmcA Go.Proofs.Ytegnehdfedfphaa.VmcB Go.Proofs.Ytegnehdfedfphaa.VmcD Go.Proofs.Ytegnehdfedfphaa.VmcE Go.Proofs.Ytegnehdfedfphaa.VmcF Go.Proofs.Ytegnehdfedfphaa.VmcG Go.Proofs.Ytegnehdfedfphaa.PrtM Go.Proofs.Ytegnehdfedfphaa.PrtA Go.Proofs.Ytegnehdfedfphaa.PrtD Go.Proofs.Ytegnehdfedfphaa.PrtE
open Go.Proofs.Ytegnehdfedfphaa.ImgA (Im)
open Go.Proofs.Ytegnehdfedfphaa.TabA (Tri)
open Go.Proofs.Ytegnehdfedfphaa.BitM (hb)
open Go.Proofs.Ytegnehdfedfphaa.TabI (info_of)

section
variable {B S n c b ob : Nat} {w : World} {ρ : Nat → Lab} {A : Option Addr} {Q : Nat → Nat} {C : List Tri} {i : Im} {r : R}
set_option maxRecDepth 100000 in
theorem confirm_any (h : Wk B w ρ b i ob S A n c Q C r) (a : Int) : Calls Try.prog 71 #[.pointer (some ⟨b, 0, none⟩), .int .i64 a] w (Deeds B w ρ b i ob S A n c Q C { r with cf := true }) := by
  have c37 : w.cell? ⟨b, 37, none⟩ = some (.pointer (some ⟨ob, 0, none⟩)) := h.wb.tail h.ok (k := 9) rfl
  obtain ⟨A1, n1, c1, ho⟩ := h.out
  have o1 := ho.blk.cell (i := 1) rfl
  have f1 := ho.blk.frozen 1
  have H := Lib.hid h
  have HO := Lib.hid ho
  clear h ho
  go_enter Try.func71, Try.ntmps71
  go_wp2
  first | go_end0 | refine bodyPost_ret (results_none rfl _ _ _) rfl ?_
  have hs : Stp (fun l => l = .own 2) w ρ (w.setCell ⟨ob, 1, none⟩ (.bool true)) ρ := stp_set H.out.chs.bd (Keep.set w 1 _ HO.out.lo)
  exact ⟨rfl, ρ, ⟨H.out.chs.carry hs (fun e => by cases e) (fun e => by cases e) (fun k e => by cases e) (fun k e => by cases e), hs.keep.blk H.out.wb (by rw [H.out.lb]; intro e; injection e with e; omega), H.out.lb, H.out.ok, A1, n1, c1, Blk.set HO.out.blk 1 _, HO.out.lo,
    hs.keep.own HO.out.own (fun g hg he => by rw [HO.out.row g hg] at he; injection he with he; omega), HO.out.row⟩, hs.mono fun l hl => .inr (.inl hl)⟩
set_option maxRecDepth 100000 in
set_option maxHeartbeats 3200000 in
theorem send_any (h : Wk B w ρ b i ob S A n c Q C r) (a : Nat) (ha : a ≤ 255) (hs : 0 ≤ i.s ∧ i.s ≤ 15) (hsn : r.sn.length ≤ 100000) : Calls Try.prog 69 #[.pointer (some ⟨b, 0, none⟩), .int .i64 a] w (Deeds B w ρ b i ob S A n c Q C (sndR i C a r)) := by
  have c33 : w.cell? ⟨b, 33, none⟩ = some (.int .i64 i.s) := h.wb.tail h.ok (k := 5) rfl
  obtain ⟨s, hs0⟩ : ∃ s, s = i.s := ⟨_, rfl⟩
  obtain ⟨q, hq⟩ : ∃ q, q = hb i.s (a : Int) := ⟨_, rfl⟩
  have HON := Lib.hid (on_any i.s a w ha hs.1 hs.2)
  obtain ⟨u, hu⟩ : ∃ u, u = need (hb i.s a) 15 r.v := ⟨_, rfl⟩
  have ku : u.ok := hu ▸ h.ok.need _ _
  have HN := Lib.hid (need_any h.ok h.wb (hb i.s a) 15)
  obtain ⟨x, hx⟩ : ∃ x, x = takeN u := ⟨_, rfl⟩
  obtain ⟨u2, hu2⟩ : ∃ u2, u2 = takeV u := ⟨_, rfl⟩
  have ku2 : u2.ok := hu2 ▸ ku.takeV
  have nx : num x := hx ▸ ku.takeN
  have HT := Lib.hid (show ∀ w', Wb w' b u i (pv S) ob r.e → Calls Try.prog 76 #[.pointer (some ⟨b, 0, none⟩)] w' (Did b i (pv S) ob w' (.int .i64 x) u2 r.e) from fun w' hw => by have T2 := take_any ku hw; rwa [← hx, ← hu2] at T2)
  rw [← hu] at HN
  rw [← hq] at HN HON
  rw [← hs0] at c33 HON
  obtain ⟨RR, hRR⟩ : ∃ RR, RR = sndR i C a r := ⟨_, rfl⟩
  rw [← hRR]
  have HR : Hid (RR = if u2.ft = 0 then { r with v := need (decide ((snds C r.L i.p a x).1.2 = 0)) 15 u2, L := (snds C r.L i.p a x).2, sn := if (snds C r.L i.p a x).1.2 = 0 then r.sn ++ [((a : Int), x)] else r.sn } else { r with v := u2 }) := Lib.hid (by rw [hRR, hu2, hx, hu]; rfl)
  have H := Lib.hid h
  have HU := Lib.hid ku
  have HU2 := Lib.hid ku2
  have HNX := Lib.hid nx
  have HSN := Lib.hid hsn
  clear h hs hs0 hq hu hx hu2 ku ku2 nx hsn hRR
  go_enter Try.func69, Try.ntmps69
  go_wp2_with fail
  refine HON.out.mono ?_
  rintro e w1 ⟨rfl, rfl⟩
  go_wp2_with fail
  refine HN.out.mono ?_
  intro e w2 hd
  obtain ⟨rfl, h2, s2⟩ := H.out.did hd HU.out
  have H2 := Lib.hid h2
  have S2 := Lib.hid s2
  clear hd h2 s2
  go_wp2_with fail
  refine (HT.out _ H2.out.wb).mono ?_
  intro e w3 hd
  obtain ⟨rfl, h3, s3⟩ := H2.out.did hd HU2.out
  have H3 := Lib.hid (show Wk B w3 ρ b i ob S A n c Q C { r with v := u2 } from h3)
  have S3 := Lib.hid (S2.out.trans s3)
  clear hd h3 s3 H2 S2
  have c27 := H3.out.wb.at_ HU2.out (sc_ft HU2.out)
  by_cases hf : u2.ft = 0
  rotate_left 1
  · rw [if_neg hf] at HR
    obtain ⟨y, hy⟩ : ∃ y, y = u2.ft := ⟨_, rfl⟩
    rw [← hy] at c27 hf
    clear hy
    go_wp2
    first | go_end0 | refine bodyPost_ret (results_none rfl _ _ _) rfl ?_
    rw [HR.out]
    exact ⟨rfl, ρ, H3.out, S3.out⟩
  · rw [if_pos hf] at HR
    rw [hf] at c27
    have HSD := Lib.hid (sends_any H3.out.chs HU2.out H3.out.wb (by rw [H3.out.lb]; exact id) a x)
    obtain ⟨t, ht⟩ : ∃ t, t = snds C r.L i.p a x := ⟨_, rfl⟩
    rw [← ht] at HR HSD
    obtain ⟨⟨tb, te⟩, L2⟩ := t
    have HF := Lib.hid hf
    clear ht hf
    dsimp only at HSD HR
    go_wp2_with fail
    refine HSD.out.mono ?_
    intro e w4 hl
    obtain ⟨rfl, ρ4, h4, s4⟩ := H3.out.port hl
    have H4 := Lib.hid (show Wk B w4 ρ4 b i ob S A n c Q C { r with v := u2, L := L2 } from h4)
    have S4 := Lib.hid (S3.out.trans s4)
    clear hl h4 s4 c27
    by_cases h0 : te = 0
    rotate_left 1
    · rw [if_neg h0, decide_eq_false h0] at HR
      have hq0 : (te == 0) = false := by simpa using h0
      have HN4 := Lib.hid (need_any HU2.out H4.out.wb false 15)
      go_wp2_with fail
      refine HN4.out.mono ?_
      intro e w5 hd
      obtain ⟨rfl, h5, s5⟩ := H4.out.did hd (HU2.out.need _ _)
      have H5 := Lib.hid h5
      have S5 := Lib.hid (S4.out.trans s5)
      clear hd h5 s5
      go_wp2
      first | go_end0 | refine bodyPost_ret (results_none rfl _ _ _) rfl ?_
      rw [HR.out]
      exact ⟨rfl, ρ4, H5.out, S5.out⟩
    · subst h0
      rw [if_pos rfl, decide_eq_true rfl, need_true] at HR
      go_wp2_with fail
      refine (need_yes _ _ _).mono ?_
      rintro e w5 ⟨rfl, rfl⟩
      have c37 : w5.cell? ⟨b, 37, none⟩ = some (.pointer (some ⟨ob, 0, none⟩)) := H4.out.wb.tail HU2.out (k := 9) rfl
      obtain ⟨A1, n1, c1, ho⟩ := H4.out.out
      have o0 : w5.cell? ⟨ob, 0, none⟩ = some (.slice A1 n1 c1) := ho.blk.cell (i := 0) rfl
      have hbl : b < w5.heap.size := Blk.lt H4.out.wb
      have hol : ob < w5.heap.size := ho.blk.lt
      have hn1 : n1 ≤ 100000 := by
        have h1 := ho.own.1
        rw [OpsN.pcs_len] at h1
        have h2 := HSN.out
        dsimp only at h1
        omega
      have HO := Lib.hid ho
      obtain ⟨i0, hi0, hz0, hz1, hz2⟩ := info_of info_sent
      have hal : B ≤ (w5.alloc (.cells #[.int .i64 (a : Int), .int .i64 x] 78)).drew.heap.size := by
        have h1 := H4.out.chs.base
        have h2 : (w5.alloc (.cells #[.int .i64 (a : Int), .int .i64 x] 78)).drew.heap.size = w5.heap.size + 1 := World.size_alloc _ _
        omega
      have hfar : ∀ w6, (w5.alloc (.cells #[.int .i64 (a : Int), .int .i64 x] 78)).drew.grownBy w6 (Value.slice A1 n1 c1).ownBlock → Blk w6 ob 51 [.slice A1 n1 c1, .bool r.cf] := fun w6 hg => (hg.block ob (by show ob < (w5.alloc _).heap.size; rw [World.size_alloc]; omega) (fun he => by have := HO.out.row ob he.symm; rw [HO.out.lo] at this; injection this with this; omega)).trans (Blk.alloc HO.out.blk _)
      have HFAR := Lib.hid hfar
      have HFB := Lib.hid (show ∀ w6, (w5.alloc (.cells #[.int .i64 (a : Int), .int .i64 x] 78)).drew.grownBy w6 (Value.slice A1 n1 c1).ownBlock → w6.cell? ⟨b, 37, none⟩ = some (.pointer (some ⟨ob, 0, none⟩)) from fun w6 hg => Wb.tail (w := w6) ((hg.block b (by show b < (w5.alloc _).heap.size; rw [World.size_alloc]; omega) (fun he => by have := HO.out.row b he.symm; rw [H4.out.lb] at this; injection this with this; omega)).trans (Blk.alloc H4.out.wb _)) HU2.out (k := 9) rfl)
      have HOW := Lib.hid (show (w5.alloc (.cells #[.int .i64 (a : Int), .int .i64 x] 78)).drew.ownsRow B 78 2 (.slice A1 n1 c1) n1 (r.sn.flatMap OpsN.pcs) from OpsN.own_belowW ho.own (below_ad w5 _))
      have HNP := Lib.hid (show ∀ j u, (OpsN.pcs ((a : Int), x))[j]? = some u → (w5.alloc (.cells #[.int .i64 (a : Int), .int .i64 x] 78)).drew.cell? ((⟨w5.heap.size, 0, none⟩ : Addr).add j) = some u from OpsN.new_pcs w5 _ (a, x))
      clear ho hfar
      go_wp2_with fail
      go_region_law (first
        | (rw [if_pos (by rfl)]; refine wp_append_at (.tmp 41) (.tmp 45) 49 rfl B 78 i0 _ 2 16 Try.underlying49 hi0 hz0 hz1 hz2 rfl (by omega) (.slice A1 n1 c1) n1 (r.sn.flatMap OpsN.pcs) rfl HOW.out ⟨w5.heap.size, 0, none⟩ 1 1 (OpsN.pcs (a, x)) rfl rfl HNP.out (OpsN.one_pcs _) (by unfold maxLen; omega) (by omega) hal ?_; intro A2 n2 c2 w6 hn2 hown2 hg2 hat2; have HG2 := Lib.hid hg2; have k3 := (HFAR.out _ hg2).cell (i := 0) rfl; have f3 := (HFAR.out _ hg2).frozen 0; have k37 := HFB.out _ hg2; clear hg2))
      all_goals
        go_wp2
        first | go_end0 | refine bodyPost_ret (results_none rfl _ _ _) rfl ?_
        rw [HR.out]
        obtain ⟨ρ5, h5, s5⟩ := Wk.sent (p := ((a : Int), x)) (T := 78) H4.out HO.out hn2.out hown2.out ⟨HG2.out.os, HG2.out.tape, HG2.out.output, HG2.out.size, HG2.out.block⟩ hat2.out
        exact ⟨rfl, ρ5, h5, S4.out.trans s5⟩
set_option maxRecDepth 100000 in
set_option maxHeartbeats 1600000 in
theorem get_any (h : Wk B w ρ b i ob S A n c Q C r) (a : Nat) (ha : a ≤ 255) (hs : 0 ≤ i.r ∧ i.r ≤ 15) : Calls Try.prog 70 #[.pointer (some ⟨b, 0, none⟩), .int .i64 a] w (Deeds B w ρ b i ob S A n c Q C (getR i C a r)) := by
  have c34 : w.cell? ⟨b, 34, none⟩ = some (.int .i64 i.r) := h.wb.tail h.ok (k := 6) rfl
  obtain ⟨s, hs0⟩ : ∃ s, s = i.r := ⟨_, rfl⟩
  obtain ⟨q, hq⟩ : ∃ q, q = hb i.r (a : Int) := ⟨_, rfl⟩
  have HON := Lib.hid (on_any i.r a w ha hs.1 hs.2)
  obtain ⟨u, hu⟩ : ∃ u, u = need (hb i.r a) 15 r.v := ⟨_, rfl⟩
  have ku : u.ok := hu ▸ h.ok.need _ _
  have HN := Lib.hid (need_any h.ok h.wb (hb i.r a) 15)
  rw [← hu] at HN
  obtain ⟨u2, hu2⟩ : ∃ u2, u2 = need (decide (r.v.h + 2 ≤ 8)) 14 u := ⟨_, rfl⟩
  have ku2 : u2.ok := hu2 ▸ ku.need _ _
  have huh : u.h = r.v.h := by rw [hu]; exact (need_h _ _ _).1
  obtain ⟨hh, hhh⟩ : ∃ hh, hh = r.v.h := ⟨_, rfl⟩
  have h8 : hh ≤ 8 := by have := h.ok.h8; omega
  have HN2 := Lib.hid (show ∀ w' t, Wb w' b u i (pv S) ob r.e → t = decide (r.v.h + 2 ≤ 8) → Calls Try.prog 75 #[.pointer (some ⟨b, 0, none⟩), .bool t, .int .i64 14] w' (Did b i (pv S) ob w' (.bool t) u2 r.e) from fun w' t hw ht => by rw [hu2, ← ht]; exact need_any ku hw t 14)
  have HC9 := Lib.hid (show ∀ w', Wb w' b u i (pv S) ob r.e → w'.cell? ⟨b, 9, none⟩ = some (.int .i64 hh) from fun w' hw => by rw [hhh, ← huh]; exact hw.at_ ku (sc_h ku))
  rw [← hq] at HN HON
  rw [← hs0] at c34 HON
  obtain ⟨RR, hRR⟩ : ∃ RR, RR = getR i C a r := ⟨_, rfl⟩
  rw [← hRR]
  obtain ⟨t, ht⟩ : ∃ t, t = gets C r.L i.p a := ⟨_, rfl⟩
  have HGT := Lib.hid (show ∀ w' ρ', Wk B w' ρ' b i ob S A n c Q C { r with v := u2 } → Calls Try.prog 80 #[.pointer (some ⟨b, 0, none⟩), .int .i64 a] w' (Lft B w' ρ' S A n c Q C t.2 (.tuple #[.int .i64 t.1.1, .bool t.1.2.1, .int .i64 t.1.2.2])) from fun w' ρ' hw => by rw [ht]; exact gets_any hw.chs ku2 hw.wb (by rw [hw.lb]; exact id) a)
  have HR : Hid (RR = if u2.ft = 0 then { r with v := lay (tru t.1.2.1) (if t.1.2.1 = true then lay t.1.1 (need (decide (t.1.2.2 = 0)) 15 u2) else need (decide (t.1.2.2 = 0)) 15 u2), L := t.2 } else { r with v := u2 }) := Lib.hid (by rw [hRR, hu2, hu, ht]; rfl)
  rw [← hhh] at HN2
  have H := Lib.hid h
  have HU := Lib.hid ku
  have HU2 := Lib.hid ku2
  obtain ⟨⟨tn, tb, te⟩, L2⟩ := t
  dsimp only at HR HGT
  clear h hs hs0 hq hu hu2 ku ku2 hRR ht huh hhh
  go_enter Try.func70, Try.ntmps70
  go_wp2_with fail
  refine HON.out.mono ?_
  rintro e w1 ⟨rfl, rfl⟩
  go_wp2_with fail
  refine HN.out.mono ?_
  intro e w2 hd
  obtain ⟨rfl, h2, s2⟩ := H.out.did hd HU.out
  have H2 := Lib.hid h2
  have S2 := Lib.hid s2
  have c9 := HC9.out _ h2.wb
  clear hd h2 s2
  go_wp2_with fail
  refine (HN2.out _ _ H2.out.wb (by by_cases hq : hh + 2 ≤ 8 <;> simp <;> omega)).mono ?_
  intro e w3 hd
  obtain ⟨rfl, h3, s3⟩ := H2.out.did hd HU2.out
  have H3 := Lib.hid (show Wk B w3 ρ b i ob S A n c Q C { r with v := u2 } from h3)
  have S3 := Lib.hid (S2.out.trans s3)
  clear hd h3 s3 H2 S2 c9
  have c27 := H3.out.wb.at_ HU2.out (sc_ft HU2.out)
  by_cases hf : u2.ft = 0
  rotate_left 1
  · rw [if_neg hf] at HR
    obtain ⟨y, hy⟩ : ∃ y, y = u2.ft := ⟨_, rfl⟩
    rw [← hy] at c27 hf
    clear hy
    go_wp2
    first | go_end0 | refine bodyPost_ret (results_none rfl _ _ _) rfl ?_
    rw [HR.out]
    exact ⟨rfl, ρ, H3.out, S3.out⟩
  · rw [if_pos hf] at HR
    rw [hf] at c27
    have HF := Lib.hid hf
    clear hf
    go_wp2_with fail
    refine (HGT.out _ _ H3.out).mono ?_
    intro e w4 hl
    obtain ⟨rfl, ρ4, h4, s4⟩ := H3.out.port hl
    have H4 := Lib.hid (show Wk B w4 ρ4 b i ob S A n c Q C { r with v := u2, L := L2 } from h4)
    have S4 := Lib.hid (S3.out.trans s4)
    clear hl h4 s4 c27
    obtain ⟨u3, hu3⟩ : ∃ u3, u3 = need (decide (te = 0)) 15 u2 := ⟨_, rfl⟩
    have HU3 := Lib.hid (show u3.ok from hu3 ▸ HU2.out.need _ _)
    have HN4 := Lib.hid (show ∀ t, t = decide (te = 0) → Calls Try.prog 75 #[.pointer (some ⟨b, 0, none⟩), .bool t, .int .i64 15] w4 (Did b i (pv S) ob w4 (.bool t) u3 r.e) from fun t ht => by rw [hu3, ← ht]; exact need_any HU2.out H4.out.wb t 15)
    rw [← hu3] at HR
    clear hu3
    go_wp2_with fail
    refine (HN4.out _ (by by_cases hq : te = 0 <;> simp [hq])).mono ?_
    intro e w5 hd
    obtain ⟨rfl, h5, s5⟩ := H4.out.did hd HU3.out
    have H5 := Lib.hid (show Wk B w5 ρ4 b i ob S A n c Q C { r with v := u3, L := L2 } from h5)
    have S5 := Lib.hid (S4.out.trans s5)
    clear hd h5 s5 H4 S4 HN4
    cases tb
    · have HT := Lib.hid (truth_any HU3.out H5.out.wb false)
      rw [if_neg (by simp)] at HR
      go_wp2_with fail
      refine HT.out.mono ?_
      intro e w6 hd
      obtain ⟨rfl, h6, s6⟩ := H5.out.did hd (HU3.out.lay _)
      have H6 := Lib.hid h6
      have S6 := Lib.hid (S5.out.trans s6)
      clear hd h6 s6
      go_wp2
      first | go_end0 | refine bodyPost_ret (results_none rfl _ _ _) rfl ?_
      rw [HR.out]
      exact ⟨rfl, ρ4, H6.out, S6.out⟩
    · have HL := Lib.hid (lay_any HU3.out H5.out.wb tn)
      rw [if_pos rfl] at HR
      go_wp2_with fail
      refine HL.out.mono ?_
      intro e w6 hd
      obtain ⟨rfl, h6, s6⟩ := H5.out.did hd (HU3.out.lay _)
      have H6 := Lib.hid h6
      have S6 := Lib.hid (S5.out.trans s6)
      clear hd h6 s6
      have HT := Lib.hid (truth_any (HU3.out.lay tn) H6.out.wb true)
      go_wp2_with fail
      refine HT.out.mono ?_
      intro e w7 hd
      obtain ⟨rfl, h7, s7⟩ := H6.out.did hd ((HU3.out.lay _).lay _)
      have H7 := Lib.hid h7
      have S7 := Lib.hid (S6.out.trans s7)
      clear hd h7 s7
      go_wp2
      first | go_end0 | refine bodyPost_ret (results_none rfl _ _ _) rfl ?_
      rw [HR.out]
      exact ⟨rfl, ρ4, H7.out, S7.out⟩
end
end Go.Proofs.Ytegnehdfedfphaa.VmcH
