/- A block put by the reference. Conditions: what lies lies as the facts say; numbers of 64 bits. -/
import Derived.Test.YthgmocipiknfpaaJ12
import Derived.StillTail
import Derived.StillTailTactics
namespace Go.Proofs.Ythgmocipiknfpaa.StgC
open Go.RowKit Go.Proofs.Ythgmocipiknfpaa.Kit Go.Proofs.Ythgmocipiknfpaa.Byt Go.Proofs.Ythgmocipiknfpaa.Mem Go.Proofs.Ythgmocipiknfpaa.RecM Go.Proofs.Ythgmocipiknfpaa.BitM Go.Proofs.Ythgmocipiknfpaa.BitB Go.Proofs.Ythgmocipiknfpaa.BitC Go.Proofs.Ythgmocipiknfpaa.StgM Go.Proofs.Ythgmocipiknfpaa.StgA Go.Proofs.Ythgmocipiknfpaa.StgB
open Go.Proofs.Ythgmocipiknfpaa.RecA (n64)
open Go.Proofs.Ythgmocipiknfpaa.RecM (pow_blocks)

theorem bl_len {x : Rf} (h : x.wf) (hh : x.has = true) : x.bl.length ≤ 10 := by rw [h.len hh]; exact blocks_10 (h.right hh).2.1.2
/-- An element of a row of one's own: where it lies, and what a store there leaves. -/
theorem own_set {w : World} {base n c i : Nat} {e : TypeId} {A : Option Addr} {xs : List Value} (h : w.ownsRow base e 1 (.slice A n c) n xs) (hi : i < n) :
    ∃ g, A = some ⟨g, 0, none⟩ ∧ g < w.heap.size ∧ w.cell? ⟨g, i, none⟩ = xs[i]? ∧ w.frozen? ⟨g, i, none⟩ = false ∧ ∀ v, (w.setCell ⟨g, i, none⟩ v).ownsRow base e 1 (.slice A n c) n (xs.set i v) := by
  rcases h.2 with ⟨hv0, h0⟩ | ⟨g, cap, cur, hv0, hb, hh, hnc, hcm, hcs, hx⟩
  · simp only [Value.slice.injEq] at hv0
    omega
  · simp only [Value.slice.injEq] at hv0
    obtain ⟨rfl, _, rfl⟩ := hv0
    refine ⟨g, rfl, lt_of_block hh, ?_, frozen_of_row _ _ i _ _ hh, fun v => ?_⟩
    · rw [cell_of_row w g i _ _ _ hh, ← hx]
      simp [hi]
    · refine ⟨by rw [List.length_set]; exact h.1, .inr ⟨g, c, cur.setIfInBounds i v, rfl, hb, heap_setCell_same w g i _ _ _ hh, hnc, hcm, by simp [hcs], ?_⟩⟩
      rw [← hx]
      simp [List.take_set]
theorem rP_same {x : Rf} {n no : Int} {d : List Nat} (h : rW x n no d.length = 0) : rP x n no d = if x.bl.getD no.toNat [] ≠ [] then (x, 0) else (⟨true, { x.g with h := x.g.h + pw no }, x.bl.set no.toNat d⟩, 0) := by
  unfold rW at h
  unfold rP
  by_cases h1 : x.has = false
  · rw [if_pos h1] at h; exact absurd h (by decide)
  rw [if_neg h1] at h ⊢
  by_cases h2 : n ≠ x.g.s
  · rw [if_pos h2] at h; exact absurd h (by decide)
  rw [if_neg h2] at h ⊢
  by_cases h3 : no < 0 ∨ (x.bl.length : Int) ≤ no
  · rw [if_pos h3] at h; exact absurd h (by decide)
  rw [if_neg h3] at h ⊢
  by_cases h4 : d.length ≠ 16
  · rw [if_pos h4] at h; exact absurd h (by decide)
  rw [if_neg h4]
theorem rW_zero {x : Rf} {n no : Int} {d : Nat} (h : rW x n no d = 0) : x.has = true ∧ 0 ≤ no ∧ no < x.bl.length ∧ d = 16 := by
  unfold rW at h
  by_cases h1 : x.has = false
  · rw [if_pos h1] at h; exact absurd h (by decide)
  rw [if_neg h1] at h
  by_cases h2 : n ≠ x.g.s
  · rw [if_pos h2] at h; exact absurd h (by decide)
  rw [if_neg h2] at h
  by_cases h3 : no < 0 ∨ (x.bl.length : Int) ≤ no
  · rw [if_pos h3] at h; exact absurd h (by decide)
  rw [if_neg h3] at h
  by_cases h4 : d ≠ 16
  · rw [if_pos h4] at h; exact absurd h (by decide)
  exact ⟨by simpa using h1, by omega, by omega, by omega⟩
set_option maxRecDepth 100000 in
set_option maxHeartbeats 3200000 in
theorem rput_any (H N : Nat → Prop) (a : Nat) (x : Rf) (n no : Int) (D : Option Addr) (m d : Nat) (xs : List Nat) (w : World) (h : RSl w H N a x) (hwf : x.wf) (hR : Rd w D m d (u8n xs)) :
    Calls Try.prog 31 #[.pointer (some ⟨a, 0, none⟩), .int .i64 n, .int .i64 no, .slice D m d] w (Rgo H N a w (.int .i64 (rP x n no xs).2) (rP x n no xs).1) := by
  obtain ⟨i0, hi0, hz0, hz1, hz2⟩ := info_parts NumA.info8
  have hm : xs.length = m := Rd.nats hR
  have hcap := hR.cap
  have hle := hR.le
  have HW := Lib.hid (fun (w' : World) (h' : RSl w' H N a x) => wrong_any H N a x n no D m d w' h' (by omega))
  by_cases hr : rW x n no m = 0
  · obtain ⟨hh, hno0, hnol, hm16⟩ := rW_zero hr
    have HP := Lib.hid (rP_same (x := x) (n := n) (no := no) (d := xs) (by rw [hm]; exact hr))
    rw [hr] at HW
    obtain ⟨k, rfl⟩ : ∃ k : Nat, no = k := ⟨no.toNat, by omega⟩
    have hkl : k < x.bl.length := by omega
    rw [show ((k : Int)).toNat = k from by omega] at HP
    obtain ⟨E, A, q, c, hS⟩ := h
    have hlen := hS.len
    have hq : k < q := by omega
    have hEl : E.length = q := by rw [← hlen, hS.bl, List.length_map]
    obtain ⟨g, hA, hgl, hgc, hgf, hgs⟩ := own_set hS.own hq
    have hEk : (E.map Sl.val)[k]? = some (.slice E[k].A E[k].n E[k].c) := by rw [List.getElem?_map, List.getElem?_eq_getElem (by omega)]; rfl
    have hxk : x.bl.getD k [] = E[k].xs := by rw [hS.bl, List.getD_eq_getElem?_getD, List.getElem?_map, List.getElem?_eq_getElem (by omega)]; rfl
    have hent := hS.ent E[k] (List.getElem_mem _)
    have hEn : E[k].xs.length = E[k].n := Rd.nats hent.1
    rw [hEk] at hgc
    rw [hxk] at HP
    subst hA
    obtain ⟨c0, c1, c2, c3, c4⟩ := hS.cells
    have hcp := hS.cap
    have hq63 : q ≤ 9223372036854775807 := by omega
    have hr63 := hent.1.le
    have hr64 := hent.1.cap
    by_cases hn0 : 0 < E[k].n
    · have HX := Lib.hid (show rP x n k xs = (x, 0) from by rw [HP.out, if_pos (fun e => by rw [e] at hEn; simp at hEn; omega)])
      have hni : (0 : Int) < (E[k].n : Int) := by omega
      have HS := Lib.hid (⟨E, some ⟨g, 0, none⟩, q, c, hS⟩ : RSl w H N a x)
      obtain ⟨en, hen⟩ : ∃ en, en = E[k].n := ⟨_, rfl⟩
      obtain ⟨eA, heA⟩ : ∃ eA, eA = E[k].A := ⟨_, rfl⟩
      obtain ⟨ec, hec⟩ : ∃ ec, ec = E[k].c := ⟨_, rfl⟩
      rw [← hen, ← heA, ← hec] at hgc
      rw [← hen] at hni hn0
      clear hen heA hec HP hS hEk hxk hent hEn hgs hlen hEl hr hwf hR hh hr63 hr64 hm hm16
      go_enter Try.func31, Try.ntmps31
      go_wp2_with (go_at_call 54; refine (HW.out _ HS.out).mono ?_; rintro e w' ⟨rfl, rfl⟩)
      go_ret
      refine ⟨by rw [HX.out]; rfl, H, N, by rw [HX.out]; exact HS.out, Keep.refl _ _, fun k hk => .inl hk, fun k hk => .inl hk⟩
    · have hx0 : E[k].xs = [] := List.eq_nil_of_length_eq_zero (by omega)
      have hb0 := (rP_yes hwf hh hkl (by omega : xs.length = 16) (by rw [hxk]; exact hx0)).1
      have HX := Lib.hid (show rP x n k xs = (⟨true, { x.g with h := x.g.h + pw k }, x.bl.set k xs⟩, 0) from by rw [HP.out, if_neg (fun e => e hx0)])
      have hrt := hwf.right hh
      have hk9 : k ≤ 15 := by have := bl_len hwf hh; omega
      have hh0 := hrt.2.2.1
      have hh1 : x.g.h < 1024 := by have := hrt.2.2.2; have := pow_blocks hrt.2.1.2; omega
      have hp0 := pw_pos k
      have hp1 := (pw_bd k (by omega)).2
      have HPW := Lib.hid (fun w' => rpower_any k w' (by omega))
      have HS := Lib.hid hS
      have HSL := Lib.hid (⟨E, some ⟨g, 0, none⟩, q, c, hS⟩ : RSl w H N a x)
      have hen0 : E[k].n = 0 := by omega
      rw [hen0] at hgc
      obtain ⟨eA, heA⟩ : ∃ eA, eA = E[k].A := ⟨_, rfl⟩
      obtain ⟨ec, hec⟩ : ∃ ec, ec = E[k].c := ⟨_, rfl⟩
      rw [← heA, ← hec] at hgc
      have HR := Lib.hid hR
      have HGS := Lib.hid hgs
      have HEL := Lib.hid hEl
      have hga : g ≠ a := (hS.ho g rfl).2
      have hal := hS.hlt a hS.ha
      have HHT := Lib.hid hh
      obtain ⟨P, hP⟩ : ∃ P, P = pw k := ⟨_, rfl⟩
      rw [← hP] at HX hp0 hp1 HPW
      clear heA hec HP hS hEk hxk hent hEn hgs hlen hEl hr hwf hR hh hr63 hr64 hn0 hx0 hrt hm hen0 hb0 hP
      have hm16' : m ≤ 16 := by omega
      clear hm16
      go_enter Try.func31, Try.ntmps31
      go_wp2_with (first
        | (go_at_call 54; refine (HW.out _ HSL.out).mono ?_; rintro e w' ⟨rfl, rfl⟩)
        | (at_builtin; refine wpList_add _ rfl (.tmp 30) (.tmp 31) _ rfl w.heap.size 5 i0 _ 1 Try.underlying43 hi0 hz0 hz1 hz2 rfl _ 0 [] rfl (World.ownsRow_nil _ _ _ _) D m d (u8n xs) rfl HR.out (u8n_one _) (by omega) (by omega) (Nat.le_refl _) ?_; intro A1 n1 d1 w1 hn1 hown1 hg1 hat1; have hb1 : Below w.heap.size w w1 := below_add (Below.refl _ _) (World.ownsRow_nil w w.heap.size 5 1) (Nat.le_refl _) hg1; have hgc1 := (hb1.cell (p := ⟨g, k, none⟩) hgl).trans hgc; have hgf1 := (hb1.frozen (p := ⟨g, k, none⟩) hgl).trans hgf; have c4' := (hb1.cell (p := ⟨a, 4, none⟩) hal).trans c4))
      have hkb : Keep (fun i => i = g) w1 (w1.setCell ⟨g, k, none⟩ (.slice A1 n1 d1)) := Keep.set (F := fun i => i = g) w1 k _ rfl
      have hS1 := HS.out.below hb1
      have hH2 := hkb.blk hS1.head (by show ¬ a = g; omega)
      have hO2 : (w1.setCell ⟨g, k, none⟩ (.slice A1 n1 d1)).ownsRow 0 43 1 (.slice (some ⟨g, 0, none⟩) q c) q ((E.map Sl.val).set k (.slice A1 n1 d1)) := by
        obtain ⟨g', hg', _, _, _, hs⟩ := own_set hS1.own hq
        injection hg' with hg'
        injection hg' with hg'
        subst hg'
        exact hs _
      have hN2 := hkb.own hown1 fun i hi => by
        have := (hown1.lt i hi).1
        show ¬ i = g
        omega
      have HH2 := Lib.hid hH2
      have HO2 := Lib.hid hO2
      have HN2 := Lib.hid hN2
      have HK2 := Lib.hid hkb
      have HB1 := Lib.hid hb1
      have c3' := hH2.cell (i := 3) rfl
      have f3' := hH2.frozen 3
      have hwr : IntKind.i64.wrap (x.g.h + P) = x.g.h + P := by rw [IntKind.wrap_i64]; omega
      obtain ⟨w2, hw2⟩ : ∃ w2, w2 = w1.setCell ⟨g, k, none⟩ (.slice A1 n1 d1) := ⟨_, rfl⟩
      rw [← hw2] at HH2 HO2 HN2 HK2 c3' f3' ⊢
      clear hw2 hkb hS1 hH2 hO2 hN2 hb1 hown1 hgc1 hgf1 c4' hg1 hat1 c0 c1 c2 c3 c4 hgc hgf
      go_still_tail 8, (by kernel_rfl)
      repeat still_step
      refine wpStill_step (fun K hK => ?_)
      go_simp
      refine ⟨_, (HPW.out _).mono (fun e w' h => ⟨h.1, h.2.symm⟩), hK _ ?_⟩
      clear hK K
      repeat still_step
      refine wpStill_nil ?_
      change wpList _ _ _ _ _ w2.drew
      go_wp2
      go_ret
      have ha := HS.out.ha
      have hg := (HS.out.ho g rfl).1
      have kA : Keep H w w2 := (Keep.of_below (F := H) HB1.out).trans HK2.out (fun i hi => .inl (by rw [show i = g from hi]; exact hg))
      have kB : Keep (fun i => i = a) w2 (w2.drew.setCell ⟨a, 3, none⟩ (.int .i64 (x.g.h + P))) := (Keep.refl (fun i => i = a) w2).drew.trans (Keep.set (F := fun i => i = a) w2.drew 3 _ rfl) (fun i hi => .inl hi)
      have kC : Keep H w (w2.drew.setCell ⟨a, 3, none⟩ (.int .i64 (x.g.h + P))) := kA.trans kB (fun i hi => .inl (by rw [show i = a from hi]; exact ha))
      have hN3 := kB.own HN2.out fun i hi => by
        have := (HN2.out.lt i hi).1
        show ¬ i = a
        omega
      have hA1 : ∀ i, (Value.slice A1 n1 d1).ownBlock = some i → w.heap.size ≤ i := fun i hi => (HN2.out.lt i hi).1
      refine ⟨by rw [HX.out]; rfl, H, fun i => N i ∨ (Value.slice A1 n1 d1).ownBlock = some i, ⟨E.set k ⟨A1, n1, d1, xs⟩, some ⟨g, 0, none⟩, q, c, ?_, ?_, ?_, ?_, ha, HS.out.ho, fun i hi => ?_, fun i hi => ?_, fun i hi hn => ?_⟩, kC, fun i hi => .inl hi, fun i hi => ?_⟩
      · rw [HX.out]
        have h1 := (show Blk w2.drew a 35 (hd x (some ⟨g, 0, none⟩) q c) from HH2.out).set 3 (.int .i64 (x.g.h + P))
        rw [show (hd x (some ⟨g, 0, none⟩) q c).set 3 (.int .i64 (x.g.h + P)) = hd ⟨true, { x.g with h := x.g.h + P }, x.bl.set k xs⟩ (some ⟨g, 0, none⟩) q c from by unfold hd; rw [HHT.out]; rfl] at h1
        exact h1
      · have h1 := kB.own HO2.out fun i hi => by
          have hi' : g = i := Option.some.inj hi
          show ¬ i = a
          omega
        rw [List.map_set]
        exact h1
      · rw [HX.out]
        show x.bl.set k xs = _
        rw [HS.out.bl, List.map_set]
      · intro e he
        rcases List.mem_or_eq_of_mem_set he with h1 | h1
        · have h2 := HS.out.ent e h1
          exact ⟨kC.rd h2.1 fun _ b o hA hH => HS.out.dis b hH (h2.2 b o hA), fun b o hA => .inl (h2.2 b o hA)⟩
        · subst h1
          refine ⟨Rd.own hN3, fun b o hA => .inr ?_⟩
          have hA' : A1 = some ⟨b, o, none⟩ := hA
          rw [hA']
          rfl
      · exact Nat.lt_of_lt_of_le (HS.out.hlt i hi) kC.size
      · rcases hi with hi | hi
        · exact Nat.lt_of_lt_of_le (HS.out.nlt i hi) kC.size
        · exact (hN3.lt i hi).2
      · rcases hn with hn | hn
        · exact HS.out.dis i hi hn
        · have := hA1 i hn
          have := HS.out.hlt i hi
          omega
      · rcases hi with hi | hi
        · exact .inl hi
        · exact .inr (hA1 i hi)
  · have HX := Lib.hid (show rP x n no xs = (x, rW x n no m) from by rw [← hm]; exact rP_wrong (by rw [hm]; exact hr))
    have HS := Lib.hid h
    obtain ⟨r, hr'⟩ : ∃ r, r = rW x n no m := ⟨_, rfl⟩
    rw [← hr'] at HX HW hr
    have hrb : (r != 0) = true := by simpa using hr
    clear hr' hr h hwf hR hm
    go_enter Try.func31, Try.ntmps31
    go_wp2_with (go_at_call 54; refine (HW.out _ HS.out).mono ?_; rintro e w' ⟨rfl, rfl⟩)
    go_ret
    refine ⟨by rw [HX.out]; rfl, H, N, by rw [HX.out]; exact HS.out, Keep.refl _ _, fun k hk => .inl hk, fun k hk => .inl hk⟩
end Go.Proofs.Ythgmocipiknfpaa.StgC
