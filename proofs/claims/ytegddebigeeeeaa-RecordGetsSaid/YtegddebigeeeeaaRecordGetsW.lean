/- The walk of RecordGets. No conditions. -/
import Derived.Test.YtegddebigeeeeaaRecP
import Derived.Test.YtegddebigeeeeaaRecF
namespace Go.Proofs.Ytegddebigeeeeaa.RecordGetsW
open Go.RowKit Go.Proofs.Ytegddebigeeeeaa.Kit Go.Proofs.Ytegddebigeeeeaa.Byt Go.Proofs.Ytegddebigeeeeaa.Mem Go.Proofs.Ytegddebigeeeeaa.RecM Go.Proofs.Ytegddebigeeeeaa.RecA Go.Proofs.Ytegddebigeeeeaa.RecC Go.Proofs.Ytegddebigeeeeaa.RecG Go.Proofs.Ytegddebigeeeeaa.RecN Go.Proofs.Ytegddebigeeeeaa.RecW Go.Proofs.Ytegddebigeeeeaa.RecP

theorem infoS : ∃ i, Try.prog.info? 25 = some i ∧ i.zero = some (.slice none 0 0) ∧ i.size = 1 ∧ i.bytes = 24 := by
  have h : (Try.prog.info? 25).map (fun i => (i.zero, i.size, i.bytes)) = some (some (.slice none 0 0), 1, 24) := by kernel_rfl
  cases hq : Try.prog.info? 25 with
  | none => rw [hq] at h; cases h
  | some i =>
    rw [hq] at h
    simp only [Option.map_some, Option.some.injEq, Prod.mk.injEq] at h
    exact ⟨i, rfl, h.1, h.2.1, h.2.2⟩
section
variable {P : Program} {o : Oper} {a : Act} {Q : Exit → Act → World → Prop}
theorem wp_addK {K : Act → World → Prop} (w : World) (s x : Operand) (t : TypeId)
    (ho : o.op = .call { callee := .builtin .append, args := #[s, x], argTypes := #[t, t] })
    (base : Nat) (e : TypeId) (i : TypeInfo) (z : Value) (bytes : Nat) (ht : P.underlying t = some (.slice e)) (hi : P.info? e = some i) (hz : i.zero = some z)
    (hsize : i.size = 1) (hby : i.bytes = bytes) (hzs : z.cells = #[z])
    (v : Value) (n : Nat) (xs : List Value) (hs : a.eval s = v) (hown : w.ownsRow base e 1 v n xs)
    (A : Option Addr) (m c : Nat) (news : List Value) (hx : a.eval x = .slice A m c) (hr : Rd w A m c news) (h1 : ∀ u ∈ news, u.oneCell' = true)
    (h63 : n + m ≤ 9223372036854775807) (hbytes : (n + m) * bytes ≤ 140737488355328) (hbase : base ≤ w.heap.size)
    (h : ∀ A' n' c' w', Hid (n' = n + m) → w'.ownsRow base e 1 (.slice A' n' c') n' (xs ++ news) → w.grownBy w' v.ownBlock → K (a.put o.dst (.slice A' n' c')) w') : o.wp P a w K Q :=
  wp_add w s x t ho base e i z bytes ht hi hz hsize hby hzs v n xs hs hown A m c news hx hr h1 h63 hbytes hbase fun v' w' h2 h3 _ => by
    have h5 := h2
    rcases h5.2 with ⟨rfl, h0⟩ | ⟨g, cap, cur, rfl, _⟩
    · exact h none 0 0 w' h0.symm (by rw [h0] at h2; exact h2) h3
    · exact h _ _ _ w' rfl h2 h3
end
theorem rd_two (w : World) (u v : Value) (e : TypeId) : Rd (w.alloc (.cells #[u, v] e)) (some ⟨w.heap.size, 0, none⟩) 2 2 [u, v] :=
  ⟨rfl, by omega, by omega, fun _ => ⟨_, _, rfl, by simp, fun j x hx => by rw [Nat.zero_add]; exact (Blk.new w e [u, v]).cell hx⟩⟩
theorem six {w : World} {g : Nat} {t' : TypeId} {p q a c l t : Int} (h : Blk w g t' (rcells ⟨p, q, a, c, l, t⟩)) : w.cell? ⟨g, 0, none⟩ = some (.int .i64 p) ∧ w.cell? ⟨g, 1, none⟩ = some (.int .i64 q) ∧ w.cell? ⟨g, 2, none⟩ = some (.int .i64 a) ∧ w.cell? ⟨g, 3, none⟩ = some (.int .i64 c) ∧ w.cell? ⟨g, 4, none⟩ = some (.int .i64 l) ∧ w.cell? ⟨g, 5, none⟩ = some (.int .i64 t) := ⟨h.cell (i := 0) rfl, h.cell (i := 1) rfl, h.cell (i := 2) rfl, h.cell (i := 3) rfl, h.cell (i := 4) rfl, h.cell (i := 5) rfl⟩
theorem three {w : World} {g : Nat} {t' : TypeId} {s z h : Int} (hb : Blk w g t' (scells ⟨s, z, h⟩)) : w.cell? ⟨g, 0, none⟩ = some (.int .i64 s) ∧ w.cell? ⟨g, 1, none⟩ = some (.int .i64 z) ∧ w.cell? ⟨g, 2, none⟩ = some (.int .i64 h) := ⟨hb.cell (i := 0) rfl, hb.cell (i := 1) rfl, hb.cell (i := 2) rfl⟩

set_option maxRecDepth 100000 in
set_option maxHeartbeats 3200000 in
theorem core (A : Option Addr) (n c : Nat) (xs : List Nat) (w : World) (hR : Rd w A n c (u8n xs)) (hx : byt xs) : Calls Try.prog 5 #[.slice A n c] w (Yes w true) := by
  have hn : xs.length = n := Rd.nats hR
  have hle := hR.le
  have hcap := hR.cap
  obtain ⟨i0, hi0, hz0, hz1, hz2⟩ := info_parts NumA.info8
  obtain ⟨iS, hiS, hzS, hs1, hs2⟩ := infoS
  have HR := Lib.hid hR
  have HX := Lib.hid hx
  clear hR hx
  by_cases h200 : 200 < n
  · have h3 : decide ((200 : Int) < (n : Int)) = true := by simp; omega
    go_enter Try.func5, Try.ntmps5
    go_wp2_with (go_at_call 8; refine (wakes_any _).mono ?_; rintro e w1 ⟨rfl, hb1⟩)
    go_ret
    exact ⟨rfl, hb1⟩
  · have h3 : decide ((200 : Int) < (n : Int)) = false := by simp; omega
    by_cases h11 : 11 ≤ n
    · have h4 : (11 : Int) ≤ (n : Int) := by omega
      obtain ⟨b, o, rfl, _, _⟩ := HR.out.2.2.2 (by omega)
      have k1 : (11 : Int) ≤ (c : Int) := by omega
      have k2 : (8 : Int) ≤ (c : Int) := by omega
      have k3 : 11 ≤ c := by omega
      have k4 : 8 ≤ c := by omega
      go_enter Try.func5, Try.ntmps5
      go_wp2_with (go_at_call 8; refine (wakes_any _).mono ?_; rintro e w1 ⟨rfl, hb1⟩)
      have HL2 := Lib.hid (hb1.alloc hb1.size (.cells #[.slice (some ⟨b, o, none⟩) n c] 25))
      have hs2' := HL2.out.size
      have HO2 := Lib.hid (show (w1.alloc (.cells #[.slice (some ⟨b, o, none⟩) n c] 25)).ownsRow w.heap.size 25 1 (.slice (some ⟨w1.heap.size, 0, none⟩) 1 1) 1 [.slice (some ⟨b, o, none⟩) n c] from by
        have h := own_of_block (w := w1.alloc (.cells #[.slice (some ⟨b, o, none⟩) n c] 25)) (g := w1.heap.size) (cur := [.slice (some ⟨b, o, none⟩) n c]) (e := 25) (base := w.heap.size) (n := 1) (heap_alloc_new w1 _) hb1.size (by simp) (by simp)
        simpa using h)
      have HR2 := Lib.hid (HR.out.below HL2.out)
      have hs12 : w1.heap.size < (w1.alloc (.cells #[.slice (some ⟨b, o, none⟩) n c] 25)).heap.size := by simp
      clear hb1
      generalize w1.alloc (.cells #[.slice (some ⟨b, o, none⟩) n c] 25) = w2 at *
      have HS11 := Lib.hid (fun w' (h : Below w2.heap.size w2 w') => rsealed_any (some ⟨b, o, none⟩) 11 c (xs.take 11) w' (by have h1 := (HR2.out.below h).take (k := 11) h11; simpa [u8n, List.map_take] using h1) (byt_take HX.out 11) (by simp; omega))
      have HS8 := Lib.hid (fun w' (h : Below w2.heap.size w2 w') => rsealed_any (some ⟨b, o, none⟩) 8 c (xs.take 8) w' (by have h1 := (HR2.out.below h).take (k := 8) (by omega); simpa [u8n, List.map_take] using h1) (byt_take HX.out 8) (by simp; omega))
      go_wp2_with fail
      go_region_held3 (fun _ => True)
        (first | trivial)
        (first
         | (have hq := HB4; clear hq; rw [if_pos (by rfl)]; refine wp_addK _ (.tmp 24) (.tmp 31) 42 rfl w.heap.size 25 iS _ 24 Try.underlying42 hiS hzS hs1 hs2 rfl _ 1 [.slice (some ⟨b, o, none⟩) n c] rfl (own_below (own_below HO2.out HB4.out) ((Below.refl w4.heap.size w4).alloc (Nat.le_refl _) (.cells #[.slice B3 n3 c3, .slice B4 n4 c4] 25))) (some ⟨w4.heap.size, 0, none⟩) 2 2 [.slice B3 n3 c3, .slice B4 n4 c4] rfl (rd_two w4 _ _ _) (by intro u hu; simp at hu; rcases hu with rfl | rfl <;> rfl) (by omega) (by omega) (by have := HB4.out.size; simp; omega) ?_; intro A5 n5 c5 w5 hn5 hown5 hg5)
         | (have hq := HB3; clear hq; go_at_call 22; refine (HS8.out _ HB3.out).mono ?_; rintro e w4 ⟨B4, n4, c4, rfl, ho4, hb4⟩; have HB4 := Lib.hid (HB3.out.trans (hb4.mono HB3.out.size)); have HR4 := Lib.hid (Rd.own ho4); have HN4 := Lib.hid (show ∀ b' o', B4 = some ⟨b', o', none⟩ → w2.heap.size ≤ b' from fun b' o' h => Nat.le_trans HB3.out.size (ho4.lt b' (by rw [h]; rfl)).1); have HR34 := Lib.hid (HR3.out.below hb4); clear ho4 hb4)
         | (go_at_call 22; refine (HS11.out _ ((Below.refl w2.heap.size w2).drew)).mono ?_; rintro e w3 ⟨B3, n3, c3, rfl, ho3, hb3⟩; have HB3 := Lib.hid (((Below.refl w2.heap.size w2).drew).trans hb3); have HR3 := Lib.hid (Rd.own ho3); have HN3 := Lib.hid (show ∀ b' o', B3 = some ⟨b', o', none⟩ → w2.heap.size ≤ b' from fun b' o' h => (ho3.lt b' (by rw [h]; rfl)).1); clear ho3 hb3))
      have HL := Lib.hid (show Below w.heap.size w w5 from below_add (v := .slice (some ⟨w1.heap.size, 0, none⟩) 1 1) ((HL2.out.trans (HB4.out.mono hs2')).alloc (by have := HB4.out.size; omega) _) (own_below (own_below HO2.out HB4.out) ((Below.refl w4.heap.size w4).alloc (Nat.le_refl _) (.cells #[.slice B3 n3 c3, .slice B4 n4 c4] 25))) (Nat.le_refl _) hg5)
      have hg5' : (w4.alloc (.cells #[.slice B3 n3 c3, .slice B4 n4 c4] 25)).grownBy w5 (some w1.heap.size) := hg5
      have hown5' : w5.ownsRow w.heap.size 25 1 (.slice A5 n5 c5) n5 [.slice (some ⟨b, o, none⟩) n c, .slice B3 n3 c3, .slice B4 n4 c4] := hown5
      obtain rfl : n5 = 3 := hn5.out
      have h3l : (shut (xs.take 11)).length = n3 := Rd.nats HR3.out
      have h4l : (shut (xs.take 8)).length = n4 := Rd.nats HR4.out
      rw [shut_len (by simp; omega)] at h3l h4l
      subst h3l h4l
      obtain ⟨R, hR⟩ : ∃ R : List Sl, R = [⟨some ⟨b, o, none⟩, n, c, xs⟩, ⟨B3, 64, c3, shut (xs.take 11)⟩, ⟨B4, 64, c4, shut (xs.take 8)⟩] := ⟨_, rfl⟩
      have HSZ := Lib.hid (show ∀ s ∈ R, s.n ≤ 200 from by rw [hR]; intro s hs; simp at hs; rcases hs with rfl | rfl | rfl <;> simp <;> omega)
      have HRS := Lib.hid (show Rds w5 A5 3 c5 R from by
        refine ⟨by rw [hR]; exact Rd.own hown5', ?_⟩
        rw [hR]
        intro s hs
        simp at hs
        rcases hs with rfl | rfl | rfl
        · exact ⟨HR.out.below HL.out, HX.out⟩
        · exact ⟨(HR34.out.alloc _).grown hg5' (fun g hg b' o' hA => by injection hg with hg; have := HN3.out b' o' hA; omega), shut_lt (byt_take HX.out 11)⟩
        · exact ⟨(HR4.out.alloc _).grown hg5' (fun g hg b' o' hA => by injection hg with hg; have := HN4.out b' o' hA; omega), shut_lt (byt_take HX.out 8)⟩)
      obtain ⟨LA, hLA⟩ : ∃ LA, LA = A5 := ⟨_, rfl⟩
      obtain ⟨LC, hLC⟩ : ∃ LC, LC = c5 := ⟨_, rfl⟩
      rw [← hLA, ← hLC] at HRS
      rw [← hLA, ← hLC]
      clear hg5 hg5' hown5 hown5' hn5 hR HR HR2 HR3 HR4 HR34 HN3 HN4 HB3 HB4 HS11 HS8 HL2 HO2 hLA hLC
      go_wp2_with fail
      go_loopw [35] (fun i wr => ∃ k : Nat, k ≤ 3 ∧ i = .int .i64 k ∧ Hid (Below w.heap.size w wr) ∧ Hid (Rds wr LA 3 LC R)) (fun i _ => 3 - (intOf i).toNat)
      case atStart => exact ⟨0, by omega, rfl, HL, HRS⟩
      case round =>
        obtain ⟨k, hk, rfl, hL, hR⟩ := hrel
        have hLs := hL.out.size
        by_cases hkn : k < 3
        · have hkR : k < R.length := by have := Rds.len hR.out; omega
          obtain ⟨b', o', hA', hq⟩ := Rds.at_ hR.out hkR
          subst hA'
          have hok := hR.out.2 _ (List.getElem_mem hkR)
          have ht1 := HSZ.out _ (List.getElem_mem hkR)
          obtain ⟨⟨TA, tn, tc, X⟩, hT⟩ : ∃ T : Sl, T = R[k] := ⟨_, rfl⟩
          rw [← hT] at hq hok ht1
          have ht1 : tn ≤ 200 := ht1
          have HTr := Lib.hid (show Rd wr TA tn tc (u8n X) from hok.1)
          have HTB := Lib.hid (show byt X from hok.2)
          clear hok hT
          rcases hgr : getR X with ⟨⟨p, q, a, c', l, t⟩, x⟩
          rcases hgs : getS X with ⟨⟨s, z, h⟩, y⟩
          have HC1 := Lib.hid (fun A m d w' (h : Rd w' A m d (u8n X)) => (by have h1 := rget_any A m d X w' h HTB.out; rw [hgr] at h1; exact h1 : Calls Try.prog 12 #[.slice A m d] w' (Gets w' (.agg #[.int .i64 p, .int .i64 q, .int .i64 a, .int .i64 c', .int .i64 l, .int .i64 t]) x)))
          have HC2 := Lib.hid (fun A m d w' (h : Rd w' A m d (u8n X)) => (by have h1 := RecF.rget_any A m d X w' h HTB.out; rw [hgr] at h1; exact h1 : Calls Try.prog 23 #[.slice A m d] w' (Gets w' (.agg #[.int .i64 p, .int .i64 q, .int .i64 a, .int .i64 c', .int .i64 l, .int .i64 t]) x)))
          have HC3 := Lib.hid (fun A m d w' (h' : Rd w' A m d (u8n X)) => (by have h1 := sget_any A m d X w' h' HTB.out; rw [hgs] at h1; exact h1 : Calls Try.prog 20 #[.slice A m d] w' (Gets w' (.agg #[.int .i64 s, .int .i64 z, .int .i64 h]) y)))
          have HC4 := Lib.hid (fun A m d w' (h' : Rd w' A m d (u8n X)) => (by have h1 := RecF.rgets_any A m d X w' h' HTB.out; rw [hgs] at h1; exact h1 : Calls Try.prog 24 #[.slice A m d] w' (Gets w' (.agg #[.int .i64 s, .int .i64 z, .int .i64 h]) y)))
          have heq := req p q a c' l t
          have heq2 := seq s z h
          clear hgr hgs
          go_wp2_with (at_builtin; refine wpList_add _ rfl (.tmp 40) (.tmp 41) _ rfl wr.heap.size 5 i0 _ 1 Try.underlying25 hi0 hz0 hz1 hz2 rfl _ 0 [] rfl (emptied wr _) TA tn tc (u8n X) rfl (HTr.out.alloc _) (u8n_one _) (by omega) (by omega) (size_alloc _ _) ?_; intro Awa nwa cwa wa hnwa hownwa hgwa hatwa)
          have hbwa : Below wr.heap.size wr wa := below_add ((Below.refl _ _).alloc (Nat.le_refl _) _) (emptied wr _) (Nat.le_refl _) hgwa
          have HAwa := Lib.hid (show Rd wa Awa nwa cwa (u8n X) from by have h := Rd.own hownwa; rwa [List.nil_append] at h)
          have HLa := Lib.hid (hL.out.trans (hbwa.mono hLs))
          have HTa := Lib.hid (HTr.out.below hbwa)
          have HRa := Lib.hid (hR.out.below hbwa)
          clear hnwa hownwa hgwa hatwa hbwa hq
          refine (HC1.out _ _ _ _ HAwa.out).mono ?_
          rintro e wb ⟨rfl, hbb⟩
          have hb1 := hbb.alloc hbb.size (.cells #[.int .i64 p, .int .i64 q, .int .i64 a, .int .i64 c', .int .i64 l, .int .i64 t] 23)
          have HB1 := Lib.hid (show Blk (wb.alloc (.cells #[.int .i64 p, .int .i64 q, .int .i64 a, .int .i64 c', .int .i64 l, .int .i64 t] 23)) wb.heap.size 23 (rcells ⟨p, q, a, c', l, t⟩) from Blk.new wb _ (rcells ⟨p, q, a, c', l, t⟩))
          have HLb := Lib.hid (HLa.out.trans (hb1.mono HLa.out.size))
          have HTb := Lib.hid (HTa.out.below hb1)
          have HRb := Lib.hid (HRa.out.below hb1)
          clear hbb hb1 HLa HTa HRa HAwa
          go_wp2_with fail
          obtain ⟨g1, hg1⟩ : ∃ g, g = wb.heap.size := ⟨_, rfl⟩
          rw [← hg1] at HB1
          rw [← hg1]
          clear hg1
          generalize wb.alloc (.cells #[.int .i64 p, .int .i64 q, .int .i64 a, .int .i64 c', .int .i64 l, .int .i64 t] 23) = wc at *
          refine (HC2.out _ _ _ _ HTb.out).mono ?_
          rintro e wd ⟨rfl, hbd⟩
          have hb1 := hbd.alloc hbd.size (.cells #[.int .i64 p, .int .i64 q, .int .i64 a, .int .i64 c', .int .i64 l, .int .i64 t] 23)
          have HB2 := Lib.hid (show Blk (wd.alloc (.cells #[.int .i64 p, .int .i64 q, .int .i64 a, .int .i64 c', .int .i64 l, .int .i64 t] 23)) wd.heap.size 23 (rcells ⟨p, q, a, c', l, t⟩) from Blk.new wd _ (rcells ⟨p, q, a, c', l, t⟩))
          have HB1d := Lib.hid (HB1.out.below hb1)
          have HLd := Lib.hid (HLb.out.trans (hb1.mono HLb.out.size))
          have HTwe := Lib.hid (HTb.out.below hb1)
          have HRd := Lib.hid (HRb.out.below hb1)
          clear hbd hb1 HLb HTb HRb HB1
          obtain ⟨we, hwe⟩ : ∃ we, we = wd.alloc (.cells #[.int .i64 p, .int .i64 q, .int .i64 a, .int .i64 c', .int .i64 l, .int .i64 t] 23) := ⟨_, rfl⟩
          obtain ⟨g2, hg2⟩ : ∃ g, g = wd.heap.size := ⟨_, rfl⟩
          rw [← hg2, ← hwe] at HB2
          rw [← hwe] at HB1d HLd HTwe HRd
          have hwe' := hwe.symm
          have hg2' := hg2.symm
          clear hwe hg2
          go_wp2_with (at_builtin; refine wpList_add _ rfl (.tmp 52) (.tmp 53) _ rfl we.heap.size 5 i0 _ 1 Try.underlying25 hi0 hz0 hz1 hz2 rfl _ 0 [] rfl (emptied we _) TA tn tc (u8n X) rfl (HTwe.out.alloc _) (u8n_one _) (by omega) (by omega) (size_alloc _ _) ?_; intro Awf nwf cwf wf hnwf hownwf hgwf hatwf)
          have hbwf : Below we.heap.size we wf := below_add ((Below.refl _ _).alloc (Nat.le_refl _) _) (emptied we _) (Nat.le_refl _) hgwf
          have HAwf := Lib.hid (show Rd wf Awf nwf cwf (u8n X) from by have h := Rd.own hownwf; rwa [List.nil_append] at h)
          clear hwe' hg2'
          have HLf := Lib.hid (HLd.out.trans (hbwf.mono HLd.out.size))
          have HTf := Lib.hid (HTwe.out.below hbwf)
          have HRf := Lib.hid (HRd.out.below hbwf)
          have HB1f := Lib.hid (HB1d.out.below hbwf)
          have HB2f := Lib.hid (HB2.out.below hbwf)
          clear hnwf hownwf hgwf hatwf hbwf HLd HTwe HRd HB1d HB2
          refine (HC3.out _ _ _ _ HAwf.out).mono ?_
          rintro e wg ⟨rfl, hbg⟩
          have hb1 := hbg.alloc hbg.size (.cells #[.int .i64 s, .int .i64 z, .int .i64 h] 35)
          have HB3 := Lib.hid (show Blk (wg.alloc (.cells #[.int .i64 s, .int .i64 z, .int .i64 h] 35)) wg.heap.size 35 (scells ⟨s, z, h⟩) from Blk.new wg _ (scells ⟨s, z, h⟩))
          have HLg := Lib.hid (HLf.out.trans (hb1.mono HLf.out.size))
          have HTg := Lib.hid (HTf.out.below hb1)
          have HRg := Lib.hid (HRf.out.below hb1)
          have HB1g := Lib.hid (HB1f.out.below hb1)
          have HB2g := Lib.hid (HB2f.out.below hb1)
          clear hbg hb1 HLf HTf HRf HAwf HB1f HB2f
          go_wp2_with fail
          obtain ⟨g3, hg3⟩ : ∃ g, g = wg.heap.size := ⟨_, rfl⟩
          rw [← hg3] at HB3
          rw [← hg3]
          clear hg3
          generalize wg.alloc (.cells #[.int .i64 s, .int .i64 z, .int .i64 h] 35) = wh at *
          refine (HC4.out _ _ _ _ HTg.out).mono ?_
          rintro e wi ⟨rfl, hbi⟩
          have hb1 := hbi.alloc hbi.size (.cells #[.int .i64 s, .int .i64 z, .int .i64 h] 35)
          have HB4 := Lib.hid (show Blk (wi.alloc (.cells #[.int .i64 s, .int .i64 z, .int .i64 h] 35)) wi.heap.size 35 (scells ⟨s, z, h⟩) from Blk.new wi _ (scells ⟨s, z, h⟩))
          have HLi := Lib.hid (HLg.out.trans (hb1.mono HLg.out.size))
          have HRi := Lib.hid (HRg.out.below hb1)
          have HB1i := Lib.hid (HB1g.out.below hb1)
          have HB2i := Lib.hid (HB2g.out.below hb1)
          have HB3i := Lib.hid (HB3.out.below hb1)
          clear hbi hb1 HLg HTg HRg HB1g HB2g HB3 HTB
          obtain ⟨wj, hwj⟩ : ∃ wj, wj = wi.alloc (.cells #[.int .i64 s, .int .i64 z, .int .i64 h] 35) := ⟨_, rfl⟩
          obtain ⟨g4, hg4⟩ : ∃ g, g = wi.heap.size := ⟨_, rfl⟩
          rw [← hg4, ← hwj] at HB4
          rw [← hwj] at HLi HRi HB1i HB2i HB3i
          have hwj' := hwj.symm
          have hg4' := hg4.symm
          clear hwj hg4
          obtain ⟨y0, y1, y2, y3, y4, y5⟩ := six HB1i.out
          obtain ⟨z0, z1, z2, z3, z4, z5⟩ := six HB2i.out
          obtain ⟨v0, v1, v2⟩ := three HB3i.out
          obtain ⟨x0, x1, x2⟩ := three HB4.out
          go_wp2
          clear hwj' hg4' y0 y1 y2 y3 y4 y5 z0 z1 z2 z3 z4 z5 v0 v1 v2 x0 x1 x2
          go_roundw
          case rel => exact ⟨k + 1, by omega, by go_num, HLi, HRi⟩
          case measure => simp [intOf]; omega
        · obtain rfl : k = 3 := by omega
          go_wp2
          go_ret
          exact ⟨rfl, hL.out⟩
    · have h4 : ¬ (11 : Int) ≤ (n : Int) := by omega
      have h5 : decide ((11 : Int) ≤ (n : Int)) = false := by simp; omega
      go_enter Try.func5, Try.ntmps5
      go_wp2_with (go_at_call 8; refine (wakes_any _).mono ?_; rintro e w1 ⟨rfl, hb1⟩)
      have HL := Lib.hid (hb1.alloc hb1.size (.cells #[.slice A n c] 25))
      obtain ⟨R, hR⟩ : ∃ R : List Sl, R = [⟨A, n, c, xs⟩] := ⟨_, rfl⟩
      have HSZ := Lib.hid (show ∀ s ∈ R, s.n ≤ 200 from by rw [hR]; intro s hs; simp at hs; rcases hs with rfl; simp; omega)
      have HRS := Lib.hid (show Rds (w1.alloc (.cells #[.slice A n c] 25)) (some ⟨w1.heap.size, 0, none⟩) 1 1 R from by
        rw [hR]
        refine ⟨⟨rfl, by omega, by omega, fun _ => ⟨_, _, rfl, by simp, fun j x hx => by rw [Nat.zero_add]; exact (Blk.new w1 25 [.slice A n c]).cell hx⟩⟩, ?_⟩
        intro s hs
        simp at hs
        rcases hs with rfl
        exact ⟨HR.out.below HL.out, HX.out⟩)
      obtain ⟨LA, hLA⟩ : ∃ LA : Option Addr, LA = some ⟨w1.heap.size, 0, none⟩ := ⟨_, rfl⟩
      rw [← hLA] at HRS
      rw [← hLA]
      generalize w1.alloc (.cells #[.slice A n c] 25) = w5 at *
      clear hR hLA hb1 HR HX
      go_loopw [35] (fun i wr => ∃ k : Nat, k ≤ 1 ∧ i = .int .i64 k ∧ Hid (Below w.heap.size w wr) ∧ Hid (Rds wr LA 1 1 R)) (fun i _ => 1 - (intOf i).toNat)
      case atStart => exact ⟨0, by omega, rfl, HL, HRS⟩
      case round =>
        obtain ⟨k, hk, rfl, hL, hR⟩ := hrel
        have hLs := hL.out.size
        by_cases hkn : k < 1
        · have hkR : k < R.length := by have := Rds.len hR.out; omega
          obtain ⟨b', o', hA', hq⟩ := Rds.at_ hR.out hkR
          subst hA'
          have hok := hR.out.2 _ (List.getElem_mem hkR)
          have ht1 := HSZ.out _ (List.getElem_mem hkR)
          obtain ⟨⟨TA, tn, tc, X⟩, hT⟩ : ∃ T : Sl, T = R[k] := ⟨_, rfl⟩
          rw [← hT] at hq hok ht1
          have ht1 : tn ≤ 200 := ht1
          have HTr := Lib.hid (show Rd wr TA tn tc (u8n X) from hok.1)
          have HTB := Lib.hid (show byt X from hok.2)
          clear hok hT
          rcases hgr : getR X with ⟨⟨p, q, a, c', l, t⟩, x⟩
          rcases hgs : getS X with ⟨⟨s, z, h⟩, y⟩
          have HC1 := Lib.hid (fun A m d w' (h : Rd w' A m d (u8n X)) => (by have h1 := rget_any A m d X w' h HTB.out; rw [hgr] at h1; exact h1 : Calls Try.prog 12 #[.slice A m d] w' (Gets w' (.agg #[.int .i64 p, .int .i64 q, .int .i64 a, .int .i64 c', .int .i64 l, .int .i64 t]) x)))
          have HC2 := Lib.hid (fun A m d w' (h : Rd w' A m d (u8n X)) => (by have h1 := RecF.rget_any A m d X w' h HTB.out; rw [hgr] at h1; exact h1 : Calls Try.prog 23 #[.slice A m d] w' (Gets w' (.agg #[.int .i64 p, .int .i64 q, .int .i64 a, .int .i64 c', .int .i64 l, .int .i64 t]) x)))
          have HC3 := Lib.hid (fun A m d w' (h' : Rd w' A m d (u8n X)) => (by have h1 := sget_any A m d X w' h' HTB.out; rw [hgs] at h1; exact h1 : Calls Try.prog 20 #[.slice A m d] w' (Gets w' (.agg #[.int .i64 s, .int .i64 z, .int .i64 h]) y)))
          have HC4 := Lib.hid (fun A m d w' (h' : Rd w' A m d (u8n X)) => (by have h1 := RecF.rgets_any A m d X w' h' HTB.out; rw [hgs] at h1; exact h1 : Calls Try.prog 24 #[.slice A m d] w' (Gets w' (.agg #[.int .i64 s, .int .i64 z, .int .i64 h]) y)))
          have heq := req p q a c' l t
          have heq2 := seq s z h
          clear hgr hgs
          go_wp2_with (at_builtin; refine wpList_add _ rfl (.tmp 40) (.tmp 41) _ rfl wr.heap.size 5 i0 _ 1 Try.underlying25 hi0 hz0 hz1 hz2 rfl _ 0 [] rfl (emptied wr _) TA tn tc (u8n X) rfl (HTr.out.alloc _) (u8n_one _) (by omega) (by omega) (size_alloc _ _) ?_; intro Awa nwa cwa wa hnwa hownwa hgwa hatwa)
          have hbwa : Below wr.heap.size wr wa := below_add ((Below.refl _ _).alloc (Nat.le_refl _) _) (emptied wr _) (Nat.le_refl _) hgwa
          have HAwa := Lib.hid (show Rd wa Awa nwa cwa (u8n X) from by have h := Rd.own hownwa; rwa [List.nil_append] at h)
          have HLa := Lib.hid (hL.out.trans (hbwa.mono hLs))
          have HTa := Lib.hid (HTr.out.below hbwa)
          have HRa := Lib.hid (hR.out.below hbwa)
          clear hnwa hownwa hgwa hatwa hbwa hq
          refine (HC1.out _ _ _ _ HAwa.out).mono ?_
          rintro e wb ⟨rfl, hbb⟩
          have hb1 := hbb.alloc hbb.size (.cells #[.int .i64 p, .int .i64 q, .int .i64 a, .int .i64 c', .int .i64 l, .int .i64 t] 23)
          have HB1 := Lib.hid (show Blk (wb.alloc (.cells #[.int .i64 p, .int .i64 q, .int .i64 a, .int .i64 c', .int .i64 l, .int .i64 t] 23)) wb.heap.size 23 (rcells ⟨p, q, a, c', l, t⟩) from Blk.new wb _ (rcells ⟨p, q, a, c', l, t⟩))
          have HLb := Lib.hid (HLa.out.trans (hb1.mono HLa.out.size))
          have HTb := Lib.hid (HTa.out.below hb1)
          have HRb := Lib.hid (HRa.out.below hb1)
          clear hbb hb1 HLa HTa HRa HAwa
          go_wp2_with fail
          obtain ⟨g1, hg1⟩ : ∃ g, g = wb.heap.size := ⟨_, rfl⟩
          rw [← hg1] at HB1
          rw [← hg1]
          clear hg1
          generalize wb.alloc (.cells #[.int .i64 p, .int .i64 q, .int .i64 a, .int .i64 c', .int .i64 l, .int .i64 t] 23) = wc at *
          refine (HC2.out _ _ _ _ HTb.out).mono ?_
          rintro e wd ⟨rfl, hbd⟩
          have hb1 := hbd.alloc hbd.size (.cells #[.int .i64 p, .int .i64 q, .int .i64 a, .int .i64 c', .int .i64 l, .int .i64 t] 23)
          have HB2 := Lib.hid (show Blk (wd.alloc (.cells #[.int .i64 p, .int .i64 q, .int .i64 a, .int .i64 c', .int .i64 l, .int .i64 t] 23)) wd.heap.size 23 (rcells ⟨p, q, a, c', l, t⟩) from Blk.new wd _ (rcells ⟨p, q, a, c', l, t⟩))
          have HB1d := Lib.hid (HB1.out.below hb1)
          have HLd := Lib.hid (HLb.out.trans (hb1.mono HLb.out.size))
          have HTwe := Lib.hid (HTb.out.below hb1)
          have HRd := Lib.hid (HRb.out.below hb1)
          clear hbd hb1 HLb HTb HRb HB1
          obtain ⟨we, hwe⟩ : ∃ we, we = wd.alloc (.cells #[.int .i64 p, .int .i64 q, .int .i64 a, .int .i64 c', .int .i64 l, .int .i64 t] 23) := ⟨_, rfl⟩
          obtain ⟨g2, hg2⟩ : ∃ g, g = wd.heap.size := ⟨_, rfl⟩
          rw [← hg2, ← hwe] at HB2
          rw [← hwe] at HB1d HLd HTwe HRd
          have hwe' := hwe.symm
          have hg2' := hg2.symm
          clear hwe hg2
          go_wp2_with (at_builtin; refine wpList_add _ rfl (.tmp 52) (.tmp 53) _ rfl we.heap.size 5 i0 _ 1 Try.underlying25 hi0 hz0 hz1 hz2 rfl _ 0 [] rfl (emptied we _) TA tn tc (u8n X) rfl (HTwe.out.alloc _) (u8n_one _) (by omega) (by omega) (size_alloc _ _) ?_; intro Awf nwf cwf wf hnwf hownwf hgwf hatwf)
          have hbwf : Below we.heap.size we wf := below_add ((Below.refl _ _).alloc (Nat.le_refl _) _) (emptied we _) (Nat.le_refl _) hgwf
          have HAwf := Lib.hid (show Rd wf Awf nwf cwf (u8n X) from by have h := Rd.own hownwf; rwa [List.nil_append] at h)
          clear hwe' hg2'
          have HLf := Lib.hid (HLd.out.trans (hbwf.mono HLd.out.size))
          have HTf := Lib.hid (HTwe.out.below hbwf)
          have HRf := Lib.hid (HRd.out.below hbwf)
          have HB1f := Lib.hid (HB1d.out.below hbwf)
          have HB2f := Lib.hid (HB2.out.below hbwf)
          clear hnwf hownwf hgwf hatwf hbwf HLd HTwe HRd HB1d HB2
          refine (HC3.out _ _ _ _ HAwf.out).mono ?_
          rintro e wg ⟨rfl, hbg⟩
          have hb1 := hbg.alloc hbg.size (.cells #[.int .i64 s, .int .i64 z, .int .i64 h] 35)
          have HB3 := Lib.hid (show Blk (wg.alloc (.cells #[.int .i64 s, .int .i64 z, .int .i64 h] 35)) wg.heap.size 35 (scells ⟨s, z, h⟩) from Blk.new wg _ (scells ⟨s, z, h⟩))
          have HLg := Lib.hid (HLf.out.trans (hb1.mono HLf.out.size))
          have HTg := Lib.hid (HTf.out.below hb1)
          have HRg := Lib.hid (HRf.out.below hb1)
          have HB1g := Lib.hid (HB1f.out.below hb1)
          have HB2g := Lib.hid (HB2f.out.below hb1)
          clear hbg hb1 HLf HTf HRf HAwf HB1f HB2f
          go_wp2_with fail
          obtain ⟨g3, hg3⟩ : ∃ g, g = wg.heap.size := ⟨_, rfl⟩
          rw [← hg3] at HB3
          rw [← hg3]
          clear hg3
          generalize wg.alloc (.cells #[.int .i64 s, .int .i64 z, .int .i64 h] 35) = wh at *
          refine (HC4.out _ _ _ _ HTg.out).mono ?_
          rintro e wi ⟨rfl, hbi⟩
          have hb1 := hbi.alloc hbi.size (.cells #[.int .i64 s, .int .i64 z, .int .i64 h] 35)
          have HB4 := Lib.hid (show Blk (wi.alloc (.cells #[.int .i64 s, .int .i64 z, .int .i64 h] 35)) wi.heap.size 35 (scells ⟨s, z, h⟩) from Blk.new wi _ (scells ⟨s, z, h⟩))
          have HLi := Lib.hid (HLg.out.trans (hb1.mono HLg.out.size))
          have HRi := Lib.hid (HRg.out.below hb1)
          have HB1i := Lib.hid (HB1g.out.below hb1)
          have HB2i := Lib.hid (HB2g.out.below hb1)
          have HB3i := Lib.hid (HB3.out.below hb1)
          clear hbi hb1 HLg HTg HRg HB1g HB2g HB3 HTB
          obtain ⟨wj, hwj⟩ : ∃ wj, wj = wi.alloc (.cells #[.int .i64 s, .int .i64 z, .int .i64 h] 35) := ⟨_, rfl⟩
          obtain ⟨g4, hg4⟩ : ∃ g, g = wi.heap.size := ⟨_, rfl⟩
          rw [← hg4, ← hwj] at HB4
          rw [← hwj] at HLi HRi HB1i HB2i HB3i
          have hwj' := hwj.symm
          have hg4' := hg4.symm
          clear hwj hg4
          obtain ⟨y0, y1, y2, y3, y4, y5⟩ := six HB1i.out
          obtain ⟨z0, z1, z2, z3, z4, z5⟩ := six HB2i.out
          obtain ⟨v0, v1, v2⟩ := three HB3i.out
          obtain ⟨x0, x1, x2⟩ := three HB4.out
          go_wp2
          clear hwj' hg4' y0 y1 y2 y3 y4 y5 z0 z1 z2 z3 z4 z5 v0 v1 v2 x0 x1 x2
          go_roundw
          case rel => exact ⟨k + 1, by omega, by go_num, HLi, HRi⟩
          case measure => simp [intOf]; omega
        · obtain rfl : k = 1 := by omega
          go_wp2
          go_ret
          exact ⟨rfl, hL.out⟩

theorem hole (a0 : Option Addr) (len0 cap0 : Nat) (z0 : List Int) (w : World) (w0 : Row .u8 w a0 len0 cap0 z0) :
    Calls Try.prog 5 #[.slice a0 len0 cap0] w fun e w' => e = .returned (.bool true) ∧ Below w.heap.size w w' := by
  obtain ⟨xs, hx, hb⟩ := Row.nats w0
  exact core a0 len0 cap0 xs w hx hb
end Go.Proofs.Ytegddebigeeeeaa.RecordGetsW
