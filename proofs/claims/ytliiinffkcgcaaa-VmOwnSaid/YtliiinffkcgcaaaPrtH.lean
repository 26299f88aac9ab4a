/- New, by the program. Conditions: the table lies as the facts say. -/
import Derived.Test.YtliiinffkcgcaaaPrtG
import Derived.Deep.RegionHeld3
namespace Go.Proofs.Ytliiinffkcgcaaa.PrtH
open Go.RowKit Go.Proofs.Ytliiinffkcgcaaa.Kit Go.Proofs.Ytliiinffkcgcaaa.Byt Go.Proofs.Ytliiinffkcgcaaa.Mem Go.Proofs.Ytliiinffkcgcaaa.TabI Go.Proofs.Ytliiinffkcgcaaa.PrtM Go.Proofs.Ytliiinffkcgcaaa.PrtA Go.Proofs.Ytliiinffkcgcaaa.PrtB Go.Proofs.Ytliiinffkcgcaaa.PrtC Go.Proofs.Ytliiinffkcgcaaa.PrtD Go.Proofs.Ytliiinffkcgcaaa.PrtE Go.Proofs.Ytliiinffkcgcaaa.PrtF Go.Proofs.Ytliiinffkcgcaaa.PrtG
open Go.Proofs.Ytliiinffkcgcaaa.TabA (Tri Tris Ta)
open Go.Proofs.Ytliiinffkcgcaaa.TabB (Bx Yes)
open Go.Proofs.Ytliiinffkcgcaaa.TabD (right right_any bool_of)

theorem info_conn : (Try.prog.info? 100).map (fun i => (i.zero, i.size, i.bytes)) = some (some (.agg #[.int .i64 0, .int .i64 0, .nilIface]), 3, 32) := by kernel_rfl
theorem new_cells3 (w : World) (xs : List Value) (e : TypeId) : ∀ j u, xs[j]? = some u → (w.alloc (.cells xs.toArray e)).cell? ((⟨w.heap.size, 0, none⟩ : Addr).add j) = some u := fun j u hu => by
  rw [Addr.add_lit]
  exact (Blk.new w e xs).cell (by simpa using hu)
theorem ccells_one (r : Tri) (q : Nat) : ∀ u ∈ ccells r q, u.oneCell' = true := by
  intro u hu
  simp only [ccells, List.mem_cons, List.not_mem_nil, or_false] at hu
  rcases hu with rfl | rfl | rfl <;> rfl
theorem Chs.start {B S : Nat} {w : World} (h : Blk w S 95 [.slice none 0 0]) (hb : B ≤ S) : Chs B w (fun i => if i = S then .set else .out) S none 0 0 (fun _ => 0) [] none_ where
  bd := fun i hi => by
    by_cases h1 : i = S
    · subst h1; exact ⟨hb, h.lt⟩
    · simp [h1] at hi
  base := by have := h.lt; omega
  set := h
  lset := if_pos rfl
  list := World.ownsRow_nil _ _ _ _
  llist := fun g hg => by cases hg
  len := rfl
  most := by omega
  ok := by simp
  head := fun k r hr => by simp at hr
theorem wblks {B S k c gb : Nat} {W : World} {ρ : Nat → Lab} {A : Option Addr} {Q : Nat → Nat} {C : List Tri} {L : Nat → List Int} {x y z : Value} {t : TypeId} (h : Chs B W.drew ρ S A k c Q C L) (hb : Blk W gb t [x, y, z]) (d : Int) :
    (W.alloc (.cells (ecells d).toArray (etype d))).cell? ⟨S, 0, none⟩ = some (.slice A k c) ∧ (W.alloc (.cells (ecells d).toArray (etype d))).cell? ⟨gb, 0, none⟩ = some x ∧ (W.alloc (.cells (ecells d).toArray (etype d))).cell? ⟨gb, 1, none⟩ = some y ∧ (W.alloc (.cells (ecells d).toArray (etype d))).cell? ⟨gb, 2, none⟩ = some z :=
  have h2 : Blk W.drew gb t [x, y, z] := hb
  ⟨(h.set.alloc _).cell rfl, (h2.alloc _).cell rfl, (h2.alloc _).cell rfl, (h2.alloc _).cell rfl⟩
theorem new_conn (W : World) (r : Tri) : ∀ (j : Nat) (u : Value), (ccells r W.heap.size)[j]? = some u → ((W.drew.alloc (.cells (ecells r.c).toArray (etype r.c))).alloc (.cells (ccells r W.heap.size).toArray 100)).cell? ((⟨W.heap.size + 1, 0, none⟩ : Addr).add j) = some u := by
  have h := new_cells3 (W.drew.alloc (.cells (ecells r.c).toArray (etype r.c))) (ccells r W.heap.size) 100
  rw [World.size_alloc] at h
  exact h
theorem own_ee {B S k c : Nat} {W : World} {ρ : Nat → Lab} {A : Option Addr} {Q : Nat → Nat} {C : List Tri} {L : Nat → List Int} (h : Chs B W.drew ρ S A k c Q C L) (r : Tri) :
    ((W.drew.alloc (.cells (ecells r.c).toArray (etype r.c))).alloc (.cells (ccells r W.heap.size).toArray 100)).ownsRow B 100 3 (.slice A k c) k (lcells Q 0 C) := (h.list.alloc _).alloc _
theorem conn_after {B S k c : Nat} {W w5 : World} {ρ : Nat → Lab} {A : Option Addr} {Q : Nat → Nat} {C : List Tri} {L : Nat → List Int} {x y z : Value} {t : TypeId} {gb : Nat} (h : Chs B W.drew ρ S A k c Q C L) (hb : Blk W gb t [x, y, z]) (hgb : (Value.slice A k c).ownBlock ≠ some gb) (r : Tri)
    (hg : ((W.drew.alloc (.cells (ecells r.c).toArray (etype r.c))).alloc (.cells (ccells r W.heap.size).toArray 100)).grownBy w5 (Value.slice A k c).ownBlock) :
    w5.cell? ⟨S, 0, none⟩ = some (.slice A k c) ∧ w5.frozen? ⟨S, 0, none⟩ = false ∧ w5.cell? ⟨gb, 0, none⟩ = some x ∧ w5.cell? ⟨gb, 1, none⟩ = some y ∧ w5.cell? ⟨gb, 2, none⟩ = some z := by
  have h1 := (h.set.alloc (.cells (ecells r.c).toArray (etype r.c))).alloc (.cells (ccells r W.heap.size).toArray 100)
  have h2 : Blk w5 S 95 [.slice A k c] := (hg.block S h1.lt fun e => by
    have := h.llist S e.symm
    rw [h.lset] at this
    cases this).trans h1
  have h3 : Blk W.drew gb t [x, y, z] := hb
  have h4 := (h3.alloc (.cells (ecells r.c).toArray (etype r.c))).alloc (.cells (ccells r W.heap.size).toArray 100)
  have h5 : Blk w5 gb t [x, y, z] := (hg.block gb h4.lt fun e => hgb e.symm).trans h4
  exact ⟨h2.cell rfl, h2.frozen 0, h5.cell rfl, h5.cell rfl, h5.cell rfl⟩
set_option maxRecDepth 100000 in
theorem new_bad (t : Ta) (w : World) (h : t.ok w) (hb : ¬ right t) : Calls Try.prog 13 #[t.val] w fun e w' => e = .returned (.tuple #[.pointer none, .int .i64 9]) ∧ Below w.heap.size w w' := by
  have HR := Lib.hid (fun w' (hb' : Below w.heap.size w w') => right_any t w' (h.below hb') false (by simp [hb]))
  have HX := Lib.hid (Bx.new w t)
  obtain ⟨y0, y1, y2, y3, y4⟩ := HX.out.cell
  clear h hb
  obtain ⟨fr, A1, n1, c1, P, A2, n2, c2, W, A3, n3, c3, C, tr⟩ := t
  dsimp only at y0 y1 y2 y3 y4
  show Calls _ _ #[.agg #[.int .i64 fr, .slice A1 n1 c1, .slice A2 n2 c2, .slice A3 n3 c3, .int .i64 tr]] w _
  go_enter Try.func13, Try.ntmps13
  go_wp2_with fail
  refine (HR.out _ HX.out.bel).mono ?_
  rintro e w1 ⟨rfl, hb1⟩
  have HX1 := Lib.hid (HX.out.step hb1)
  clear hb1
  go_wp2_with fail
  go_ret2
  exact ⟨rfl, HX1.out.bel⟩
set_option maxRecDepth 100000 in
set_option maxHeartbeats 3200000 in
theorem new_yes (t : Ta) (w : World) (h : t.ok w) (hr : right t) : Calls Try.prog 13 #[t.val] w fun e w' => ∃ S ρ A c Q, e = .returned (.tuple #[.pointer (some ⟨S, 0, none⟩), .int .i64 0]) ∧ Chs w.heap.size w' ρ S A t.n3 c Q t.C none_ ∧ Below w.heap.size w w' := by
  obtain ⟨i0, hi0, hz0, hz1, hz2⟩ := info_of info_conn
  have HR := Lib.hid (fun w' (hb' : Below w.heap.size w w') => right_any t w' (h.below hb') true (by simp [hr]))
  have HX := Lib.hid (Bx.new w t)
  have HCT := Lib.hid h.C
  have HN4 := Lib.hid hr.2.2.2.2
  obtain ⟨y0, y1, y2, y3, y4⟩ := HX.out.cell
  clear h hr
  obtain ⟨fr, A1, n1, c1, P, A2, n2, c2, W, A3, n3, c3, C, tr⟩ := t
  dsimp only at y0 y1 y2 y3 y4 HCT HN4
  have hn3 : n3 ≤ 4 := by have := HCT.out.1; have := HN4.out.1; omega
  show Calls _ _ #[.agg #[.int .i64 fr, .slice A1 n1 c1, .slice A2 n2 c2, .slice A3 n3 c3, .int .i64 tr]] w fun e w' => ∃ S ρ A c Q, e = .returned (.tuple #[.pointer (some ⟨S, 0, none⟩), .int .i64 0]) ∧ Chs w.heap.size w' ρ S A n3 c Q C none_ ∧ Below w.heap.size w w'
  go_enter Try.func13, Try.ntmps13
  go_wp2_with fail
  refine (HR.out _ HX.out.bel).mono ?_
  rintro e w1 ⟨rfl, hb1⟩
  have HX1 := Lib.hid (HX.out.step hb1)
  clear hb1 y0 y1 y2 y3 y4 HX
  obtain ⟨y0, y1, y2, y3, y4⟩ := HX1.out.cell
  dsimp only at y0 y1 y2 y3 y4
  have H0 := Lib.hid (Chs.start (B := w.heap.size) (Blk.new w1 95 [.slice none 0 0]) (by have := HX1.out.sz; omega))
  have HB0 := Lib.hid (HX1.out.bel.alloc HX1.out.bel.size (.cells #[.slice none 0 0] 95))
  have z3 : (w1.alloc (.cells #[.slice none 0 0] 95)).cell? ⟨w.heap.size, 3, none⟩ = some (.slice A3 n3 c3) := (HX1.out.alloc _).cell.2.2.2.1
  go_wp2_with fail
  clear y0 y1 y2 y3 y4 z3
  go_loopw [15] (fun i wr => ∃ (k : Nat) (ρ1 : Nat → Lab) (A : Option Addr) (c : Nat) (Q : Nat → Nat), k ≤ n3 ∧ i = .int .i64 k ∧ Hid (Chs w.heap.size wr ρ1 w1.heap.size A k c Q (C.take k) none_) ∧ Hid (Below w.heap.size w wr)) (fun i _ => n3 - (intOf i).toNat)
  case atStart => exact ⟨0, _, none, 0, _, Nat.zero_le _, rfl, H0, HB0⟩
  case round =>
    obtain ⟨k, ρ1, A, c, Q, hk, rfl, H1, HB⟩ := hrel
    by_cases hlt : k < n3
    · obtain ⟨r, b, o, hr, hrk, rfl, hbl, k0, k1, k2⟩ := (HCT.out.below HB.out).at_ hlt
      have HR1 := Lib.hid hr
      have HOK := Lib.hid (show r.ok ∧ 0 ≤ r.c ∧ r.c ≤ 4 from ⟨hrk, (HN4.out.2 k r hr).2.2.2⟩)
      clear hr hrk
      obtain ⟨wa, hwa⟩ : ∃ wa, wa = wr.alloc (.cells #[.int .i64 r.a, .int .i64 r.b, .int .i64 r.c] 59) := ⟨_, rfl⟩
      have hba : Below wr.heap.size wr wa := by rw [hwa]; exact (Below.refl _ _).alloc (Nat.le_refl _) _
      have HA := Lib.hid (H1.out.below (w' := wa.drew) hba.drew)
      have HBa := Lib.hid (HB.out.trans (hba.mono HB.out.size))
      have hbx : Blk wa wr.heap.size 59 [.int .i64 r.a, .int .i64 r.b, .int .i64 r.c] := by rw [hwa]; exact Blk.new wr _ _
      have b0 := hbx.cell (i := 0) rfl
      have b1 := hbx.cell (i := 1) rfl
      have b2 := hbx.cell (i := 2) rfl
      have s0 : wa.cell? ⟨w1.heap.size, 0, none⟩ = some (.slice A k c) := HA.out.set.cell rfl
      have hgb : (Value.slice A k c).ownBlock ≠ some wr.heap.size := fun e => by have := (H1.out.list.lt _ e).2; omega
      have hne : w1.heap.size ≠ wr.heap.size := by have := H1.out.set.lt; omega
      obtain ⟨e0, d0, d1, d2⟩ := wblks HA.out hbx r.c
      have HD := Lib.hid (show (wa.drew.alloc (.cells (ecells r.c).toArray (etype r.c))).cell? ⟨wr.heap.size, 0, none⟩ = some (.int .i64 r.a) ∧ (wa.drew.alloc (.cells (ecells r.c).toArray (etype r.c))).cell? ⟨wr.heap.size, 1, none⟩ = some (.int .i64 r.b) ∧ (wa.drew.alloc (.cells (ecells r.c).toArray (etype r.c))).cell? ⟨wr.heap.size, 2, none⟩ = some (.int .i64 r.c) from ⟨d0, d1, d2⟩)
      have hbE := (hbx.alloc (.cells (ecells r.c).toArray (etype r.c))).alloc (.cells (ccells r wa.heap.size).toArray 100)
      have e1 : ((wa.alloc (.cells (ecells r.c).toArray (etype r.c))).alloc (.cells #[.int .i64 r.a, .int .i64 r.b, .iface (kind r.c) (.pointer (some ⟨wa.heap.size, 0, none⟩))] 100)).cell? ⟨w1.heap.size, 0, none⟩ = some (.slice A k c) := ((HA.out.set.alloc (.cells (ecells r.c).toArray (etype r.c))).alloc (.cells (ccells r wa.heap.size).toArray 100)).cell rfl
      have HE := Lib.hid (show ((wa.drew.alloc (.cells (ecells r.c).toArray (etype r.c))).alloc (.cells (ccells r wa.heap.size).toArray 100)).cell? ⟨wr.heap.size, 0, none⟩ = some (.int .i64 r.a) ∧ ((wa.drew.alloc (.cells (ecells r.c).toArray (etype r.c))).alloc (.cells (ccells r wa.heap.size).toArray 100)).cell? ⟨wr.heap.size, 1, none⟩ = some (.int .i64 r.b) ∧ ((wa.drew.alloc (.cells (ecells r.c).toArray (etype r.c))).alloc (.cells (ccells r wa.heap.size).toArray 100)).cell? ⟨wr.heap.size, 2, none⟩ = some (.int .i64 r.c) from ⟨hbE.cell rfl, hbE.cell rfl, hbE.cell rfl⟩)
      clear hbE d0 d1 d2
      go_upto_region 7 with (fail)
      rw [← hwa]
      clear hwa k0 k1 k2 hba
      refine wp_region_held_drew (S := (fun w' => w'.cell? ⟨wr.heap.size, 0, none⟩ = some (.int .i64 r.a) ∧ w'.cell? ⟨wr.heap.size, 1, none⟩ = some (.int .i64 r.b) ∧ w'.cell? ⟨wr.heap.size, 2, none⟩ = some (.int .i64 r.c))) (by kernel_rfl) ⟨b0, b1, b2⟩ (fun hS => ?_)
      refine wpAnyH_take (i := 0) (v := .pointer (some ⟨w1.heap.size, 0, none⟩)) rfl (by kernel_rfl) (by kernel_rfl) (by kernel_rfl) (fun _ _ _ h => h) (Or.inl ⟨by rfl, fun w hS => (by first | rfl | (obtain ⟨h0, h1, h2⟩ := hS; go_simp; done))⟩) (by assumption) ?_
      try simp only [Act.put, List.getElem_toArray, List.getElem_cons_zero, List.setIfInBounds_toArray, List.set_cons_zero, List.set_cons_succ]
      refine wpAnyH_take (i := 1) (v := .pointer (some ⟨w1.heap.size, 0, none⟩)) rfl (by kernel_rfl) (by kernel_rfl) (by kernel_rfl) (fun _ _ _ h => h) (Or.inl ⟨by rfl, fun w hS => (by first | rfl | (obtain ⟨h0, h1, h2⟩ := hS; go_simp; done))⟩) (by assumption) ?_
      try simp only [Act.put, List.getElem_toArray, List.getElem_cons_succ, List.getElem_cons_zero, List.setIfInBounds_toArray, List.set_cons_zero, List.set_cons_succ]
      refine wpAnyH_take (i := 2) (v := .pointer (some ⟨w1.heap.size, 0, none⟩)) rfl (by kernel_rfl) (by kernel_rfl) (by kernel_rfl) (fun _ _ _ h => h) (Or.inl ⟨by rfl, fun w hS => (by first | rfl | (obtain ⟨h0, h1, h2⟩ := hS; go_simp; done))⟩) (by assumption) ?_
      try simp only [Act.put, List.getElem_toArray, List.getElem_cons_succ, List.getElem_cons_zero, List.setIfInBounds_toArray, List.set_cons_zero, List.set_cons_succ]
      refine wpAnyH_take (i := 3) (v := .pointer (some ⟨w1.heap.size, 0, none⟩)) rfl (by kernel_rfl) (by kernel_rfl) (by kernel_rfl) (fun _ _ _ h => h) (Or.inl ⟨by rfl, fun w hS => (by first | rfl | (obtain ⟨h0, h1, h2⟩ := hS; go_simp; done))⟩) (by assumption) ?_
      try simp only [Act.put, List.getElem_toArray, List.getElem_cons_succ, List.getElem_cons_zero, List.setIfInBounds_toArray, List.set_cons_zero, List.set_cons_succ]
      refine wpAnyH_take (i := 5) (v := .pointer (some ⟨wr.heap.size, 0, none⟩)) rfl (by kernel_rfl) (by kernel_rfl) (by kernel_rfl) (fun _ _ _ h => h) (Or.inl ⟨by rfl, fun w hS => (by first | rfl | (obtain ⟨h0, h1, h2⟩ := hS; go_simp; done))⟩) (by assumption) ?_
      try simp only [Act.put, List.getElem_toArray, List.getElem_cons_succ, List.getElem_cons_zero, List.setIfInBounds_toArray, List.set_cons_zero, List.set_cons_succ]
      refine wpAnyH_take (i := 6) (v := .int .i64 r.a) rfl (by kernel_rfl) (by kernel_rfl) (by kernel_rfl) (fun _ _ _ h => h) (Or.inl ⟨by rfl, fun w hS => (by first | rfl | (obtain ⟨h0, h1, h2⟩ := hS; go_simp; done))⟩) (by assumption) ?_
      try simp only [Act.put, List.getElem_toArray, List.getElem_cons_succ, List.getElem_cons_zero, List.setIfInBounds_toArray, List.set_cons_zero, List.set_cons_succ]
      refine wpAnyH_take (i := 7) (v := .pointer (some ⟨wr.heap.size, 1, none⟩)) rfl (by kernel_rfl) (by kernel_rfl) (by kernel_rfl) (fun _ _ _ h => h) (Or.inl ⟨by rfl, fun w hS => (by first | rfl | (obtain ⟨h0, h1, h2⟩ := hS; go_simp; done))⟩) (by assumption) ?_
      try simp only [Act.put, List.getElem_toArray, List.getElem_cons_succ, List.getElem_cons_zero, List.setIfInBounds_toArray, List.set_cons_zero, List.set_cons_succ]
      refine wpAnyH_take (i := 8) (v := .int .i64 r.b) rfl (by kernel_rfl) (by kernel_rfl) (by kernel_rfl) (fun _ _ _ h => h) (Or.inl ⟨by rfl, fun w hS => (by first | rfl | (obtain ⟨h0, h1, h2⟩ := hS; go_simp; done))⟩) (by assumption) ?_
      try simp only [Act.put, List.getElem_toArray, List.getElem_cons_succ, List.getElem_cons_zero, List.setIfInBounds_toArray, List.set_cons_zero, List.set_cons_succ]
      refine wpAnyH_take (i := 9) (v := .pointer (some ⟨wr.heap.size, 2, none⟩)) rfl (by kernel_rfl) (by kernel_rfl) (by kernel_rfl) (fun _ _ _ h => h) (Or.inl ⟨by rfl, fun w hS => (by first | rfl | (obtain ⟨h0, h1, h2⟩ := hS; go_simp; done))⟩) (by assumption) ?_
      try simp only [Act.put, List.getElem_toArray, List.getElem_cons_succ, List.getElem_cons_zero, List.setIfInBounds_toArray, List.set_cons_zero, List.set_cons_succ]
      refine wpAnyH_take (i := 10) (v := .int .i64 r.c) rfl (by kernel_rfl) (by kernel_rfl) (by kernel_rfl) (fun _ _ _ h => h) (Or.inl ⟨by rfl, fun w hS => (by first | rfl | (obtain ⟨h0, h1, h2⟩ := hS; go_simp; done))⟩) (by assumption) ?_
      try simp only [Act.put, List.getElem_toArray, List.getElem_cons_succ, List.getElem_cons_zero, List.setIfInBounds_toArray, List.set_cons_zero, List.set_cons_succ]
      refine wpAnyH_ready (rs := [4, 11]) (by kernel_rfl) (by simp) ?_
      refine AllReadyH.cons rfl (fun K hK => ?_) (AllReadyH.cons rfl (fun K hK => ?_) (AllReadyH.nil))
      focus
        rw [if_pos (by rfl)]
        go_simp
        refine hK.out _ _ (by assumption) (fun hS => ?_)
        clear hK K
        try simp only [Act.put, List.getElem_toArray, List.getElem_cons_succ, List.getElem_cons_zero, List.setIfInBounds_toArray, List.set_cons_zero, List.set_cons_succ]
        refine wpAnyH_ready (rs := [11]) (by kernel_rfl) (by simp) ?_
        refine AllReadyH.cons rfl (fun K hK => ?_) (AllReadyH.nil)
        rw [if_pos (by rfl)]
        go_simp
        refine (empty_any r.c _).mono ?_
        rintro e w2 ⟨rfl, rfl⟩
        dsimp only
        refine hK.out _ _ HD.out (fun hS => ?_)
        clear hK K
        try simp only [Act.put, List.getElem_toArray, List.getElem_cons_succ, List.getElem_cons_zero, List.setIfInBounds_toArray, List.set_cons_zero, List.set_cons_succ]
        refine wpAnyH_take (i := 12) (v := .agg #[.int .i64 r.a, .int .i64 r.b, .iface (kind r.c) (.pointer (some ⟨wa.heap.size, 0, none⟩))]) rfl (by kernel_rfl) (by kernel_rfl) (by kernel_rfl) (fun _ _ _ h => h) (Or.inl ⟨by rfl, fun w hS => (by first | rfl | (obtain ⟨h0, h1, h2⟩ := hS; go_simp; done))⟩) (by assumption) ?_
        try simp only [Act.put, List.getElem_toArray, List.getElem_cons_succ, List.getElem_cons_zero, List.setIfInBounds_toArray, List.set_cons_zero, List.set_cons_succ]
        refine wpAnyH_ready (rs := [13]) (by kernel_rfl) (by simp) ?_
        refine AllReadyH.cons rfl (fun K hK => ?_) (AllReadyH.nil)
        rw [if_pos (by rfl)]
        go_simp
        refine hK.out _ _ HE.out (fun hS => ?_)
        clear hK K
        try simp only [Act.put, List.getElem_toArray, List.getElem_cons_succ, List.getElem_cons_zero, List.setIfInBounds_toArray, List.set_cons_zero, List.set_cons_succ]
        refine wpAnyH_ready (rs := [14]) (by kernel_rfl) (by simp) ?_
        refine AllReadyH.cons rfl (fun K hK => ?_) (AllReadyH.nil)
        rw [if_pos (by rfl)]
        refine wp_append_at (.tmp 23) (.tmp 32) 93 rfl w.heap.size 100 i0 _ 3 32 Try.underlying93 hi0 hz0 hz1 hz2 rfl (by omega) (.slice A k c) k (lcells Q 0 (C.take k)) rfl (own_ee HA.out r) ⟨wa.heap.size + 1, 0, none⟩ 1 1 (ccells r wa.heap.size) rfl rfl (new_conn wa r) (ccells_one _ _) (by unfold maxLen; omega) (by omega) (by have := HBa.out.size; simp; omega) ?_
        intro A5 n5 c5 w5 hn5 hown5 hg5 hat5
        obtain ⟨e5, f5, g5⟩ := conn_after HA.out hbx hgb r hg5
        have Hg5 := Lib.hid hg5
        clear hg5
        refine hK.out _ _ g5 (fun hS => ?_)
        clear hK K
        try simp only [Act.put, List.getElem_toArray, List.getElem_cons_succ, List.getElem_cons_zero, List.setIfInBounds_toArray, List.set_cons_zero, List.set_cons_succ]
        refine wpAnyH_take (i := 15) (v := .pointer (some ⟨w1.heap.size, 0, none⟩)) rfl (by kernel_rfl) (by kernel_rfl) (by kernel_rfl) (fun _ _ _ h => h) (Or.inl ⟨by rfl, fun w hS => (by first | rfl | (obtain ⟨h0, h1, h2⟩ := hS; go_simp; done))⟩) (by assumption) ?_
        try simp only [Act.put, List.getElem_toArray, List.getElem_cons_succ, List.getElem_cons_zero, List.setIfInBounds_toArray, List.set_cons_zero, List.set_cons_succ]
        refine wpAnyH_take (i := 16) (v := .pointer (some ⟨w1.heap.size, 0, none⟩)) rfl (by kernel_rfl) (by kernel_rfl) (by kernel_rfl) (fun _ _ _ h => h) (Or.inl ⟨by rfl, fun w hS => (by first | rfl | (obtain ⟨h0, h1, h2⟩ := hS; go_simp; done))⟩) (by assumption) ?_
        try simp only [Act.put, List.getElem_toArray, List.getElem_cons_succ, List.getElem_cons_zero, List.setIfInBounds_toArray, List.set_cons_zero, List.set_cons_succ]
        refine wpAnyH_ready (rs := [17]) (by kernel_rfl) (by simp) ?_
        refine AllReadyH.cons rfl (fun K hK => ?_) (AllReadyH.nil)
        rw [if_pos (by rfl)]
        go_simp
        refine hK.out _ _ (by rw [World.cell?_setCell_far _ _ _ _ hne, World.cell?_setCell_far _ _ _ _ hne, World.cell?_setCell_far _ _ _ _ hne]; exact g5) (fun hS => ?_)
        clear hK K
        try simp only [Act.put, List.getElem_toArray, List.getElem_cons_succ, List.getElem_cons_zero, List.setIfInBounds_toArray, List.set_cons_zero, List.set_cons_succ]
        refine wpAnyH_done (by kernel_rfl) ?_ _
      rotate_left 1
      focus
        rw [if_pos (by rfl)]
        go_simp
        refine (empty_any r.c _).mono ?_
        rintro e w2 ⟨rfl, rfl⟩
        dsimp only
        refine hK.out _ _ HD.out (fun hS => ?_)
        clear hK K
        try simp only [Act.put, List.getElem_toArray, List.getElem_cons_succ, List.getElem_cons_zero, List.setIfInBounds_toArray, List.set_cons_zero, List.set_cons_succ]
        refine wpAnyH_take (i := 12) (v := .agg #[.int .i64 r.a, .int .i64 r.b, .iface (kind r.c) (.pointer (some ⟨wa.heap.size, 0, none⟩))]) rfl (by kernel_rfl) (by kernel_rfl) (by kernel_rfl) (fun _ _ _ h => h) (Or.inl ⟨by rfl, fun w hS => (by first | rfl | (obtain ⟨h0, h1, h2⟩ := hS; go_simp; done))⟩) (by assumption) ?_
        try simp only [Act.put, List.getElem_toArray, List.getElem_cons_succ, List.getElem_cons_zero, List.setIfInBounds_toArray, List.set_cons_zero, List.set_cons_succ]
        refine wpAnyH_ready (rs := [4, 13]) (by kernel_rfl) (by simp) ?_
        refine AllReadyH.cons rfl (fun K hK => ?_) (AllReadyH.cons rfl (fun K hK => ?_) (AllReadyH.nil))
        focus
          rw [if_pos (by rfl)]
          go_simp
          refine hK.out _ _ (by assumption) (fun hS => ?_)
          clear hK K
          try simp only [Act.put, List.getElem_toArray, List.getElem_cons_succ, List.getElem_cons_zero, List.setIfInBounds_toArray, List.set_cons_zero, List.set_cons_succ]
          refine wpAnyH_ready (rs := [13]) (by kernel_rfl) (by simp) ?_
          refine AllReadyH.cons rfl (fun K hK => ?_) (AllReadyH.nil)
          rw [if_pos (by rfl)]
          go_simp
          refine hK.out _ _ HE.out (fun hS => ?_)
          clear hK K
          try simp only [Act.put, List.getElem_toArray, List.getElem_cons_succ, List.getElem_cons_zero, List.setIfInBounds_toArray, List.set_cons_zero, List.set_cons_succ]
          refine wpAnyH_ready (rs := [14]) (by kernel_rfl) (by simp) ?_
          refine AllReadyH.cons rfl (fun K hK => ?_) (AllReadyH.nil)
          rw [if_pos (by rfl)]
          refine wp_append_at (.tmp 23) (.tmp 32) 93 rfl w.heap.size 100 i0 _ 3 32 Try.underlying93 hi0 hz0 hz1 hz2 rfl (by omega) (.slice A k c) k (lcells Q 0 (C.take k)) rfl (own_ee HA.out r) ⟨wa.heap.size + 1, 0, none⟩ 1 1 (ccells r wa.heap.size) rfl rfl (new_conn wa r) (ccells_one _ _) (by unfold maxLen; omega) (by omega) (by have := HBa.out.size; simp; omega) ?_
          intro A5 n5 c5 w5 hn5 hown5 hg5 hat5
          obtain ⟨e5, f5, g5⟩ := conn_after HA.out hbx hgb r hg5
          have Hg5 := Lib.hid hg5
          clear hg5
          refine hK.out _ _ g5 (fun hS => ?_)
          clear hK K
          try simp only [Act.put, List.getElem_toArray, List.getElem_cons_succ, List.getElem_cons_zero, List.setIfInBounds_toArray, List.set_cons_zero, List.set_cons_succ]
          refine wpAnyH_take (i := 15) (v := .pointer (some ⟨w1.heap.size, 0, none⟩)) rfl (by kernel_rfl) (by kernel_rfl) (by kernel_rfl) (fun _ _ _ h => h) (Or.inl ⟨by rfl, fun w hS => (by first | rfl | (obtain ⟨h0, h1, h2⟩ := hS; go_simp; done))⟩) (by assumption) ?_
          try simp only [Act.put, List.getElem_toArray, List.getElem_cons_succ, List.getElem_cons_zero, List.setIfInBounds_toArray, List.set_cons_zero, List.set_cons_succ]
          refine wpAnyH_take (i := 16) (v := .pointer (some ⟨w1.heap.size, 0, none⟩)) rfl (by kernel_rfl) (by kernel_rfl) (by kernel_rfl) (fun _ _ _ h => h) (Or.inl ⟨by rfl, fun w hS => (by first | rfl | (obtain ⟨h0, h1, h2⟩ := hS; go_simp; done))⟩) (by assumption) ?_
          try simp only [Act.put, List.getElem_toArray, List.getElem_cons_succ, List.getElem_cons_zero, List.setIfInBounds_toArray, List.set_cons_zero, List.set_cons_succ]
          refine wpAnyH_ready (rs := [17]) (by kernel_rfl) (by simp) ?_
          refine AllReadyH.cons rfl (fun K hK => ?_) (AllReadyH.nil)
          rw [if_pos (by rfl)]
          go_simp
          refine hK.out _ _ (by rw [World.cell?_setCell_far _ _ _ _ hne, World.cell?_setCell_far _ _ _ _ hne, World.cell?_setCell_far _ _ _ _ hne]; exact g5) (fun hS => ?_)
          clear hK K
          try simp only [Act.put, List.getElem_toArray, List.getElem_cons_succ, List.getElem_cons_zero, List.setIfInBounds_toArray, List.set_cons_zero, List.set_cons_succ]
          refine wpAnyH_done (by kernel_rfl) ?_ _
        rotate_left 1
        focus
          rw [if_pos (by rfl)]
          go_simp
          refine hK.out _ _ HE.out (fun hS => ?_)
          clear hK K
          try simp only [Act.put, List.getElem_toArray, List.getElem_cons_succ, List.getElem_cons_zero, List.setIfInBounds_toArray, List.set_cons_zero, List.set_cons_succ]
          refine wpAnyH_ready (rs := [4]) (by kernel_rfl) (by simp) ?_
          refine AllReadyH.cons rfl (fun K hK => ?_) (AllReadyH.nil)
          rw [if_pos (by rfl)]
          go_simp
          refine hK.out _ _ (by assumption) (fun hS => ?_)
          clear hK K
          try simp only [Act.put, List.getElem_toArray, List.getElem_cons_succ, List.getElem_cons_zero, List.setIfInBounds_toArray, List.set_cons_zero, List.set_cons_succ]
          refine wpAnyH_ready (rs := [14]) (by kernel_rfl) (by simp) ?_
          refine AllReadyH.cons rfl (fun K hK => ?_) (AllReadyH.nil)
          rw [if_pos (by rfl)]
          refine wp_append_at (.tmp 23) (.tmp 32) 93 rfl w.heap.size 100 i0 _ 3 32 Try.underlying93 hi0 hz0 hz1 hz2 rfl (by omega) (.slice A k c) k (lcells Q 0 (C.take k)) rfl (own_ee HA.out r) ⟨wa.heap.size + 1, 0, none⟩ 1 1 (ccells r wa.heap.size) rfl rfl (new_conn wa r) (ccells_one _ _) (by unfold maxLen; omega) (by omega) (by have := HBa.out.size; simp; omega) ?_
          intro A5 n5 c5 w5 hn5 hown5 hg5 hat5
          obtain ⟨e5, f5, g5⟩ := conn_after HA.out hbx hgb r hg5
          have Hg5 := Lib.hid hg5
          clear hg5
          refine hK.out _ _ g5 (fun hS => ?_)
          clear hK K
          try simp only [Act.put, List.getElem_toArray, List.getElem_cons_succ, List.getElem_cons_zero, List.setIfInBounds_toArray, List.set_cons_zero, List.set_cons_succ]
          refine wpAnyH_take (i := 15) (v := .pointer (some ⟨w1.heap.size, 0, none⟩)) rfl (by kernel_rfl) (by kernel_rfl) (by kernel_rfl) (fun _ _ _ h => h) (Or.inl ⟨by rfl, fun w hS => (by first | rfl | (obtain ⟨h0, h1, h2⟩ := hS; go_simp; done))⟩) (by assumption) ?_
          try simp only [Act.put, List.getElem_toArray, List.getElem_cons_succ, List.getElem_cons_zero, List.setIfInBounds_toArray, List.set_cons_zero, List.set_cons_succ]
          refine wpAnyH_take (i := 16) (v := .pointer (some ⟨w1.heap.size, 0, none⟩)) rfl (by kernel_rfl) (by kernel_rfl) (by kernel_rfl) (fun _ _ _ h => h) (Or.inl ⟨by rfl, fun w hS => (by first | rfl | (obtain ⟨h0, h1, h2⟩ := hS; go_simp; done))⟩) (by assumption) ?_
          try simp only [Act.put, List.getElem_toArray, List.getElem_cons_succ, List.getElem_cons_zero, List.setIfInBounds_toArray, List.set_cons_zero, List.set_cons_succ]
          refine wpAnyH_ready (rs := [17]) (by kernel_rfl) (by simp) ?_
          refine AllReadyH.cons rfl (fun K hK => ?_) (AllReadyH.nil)
          rw [if_pos (by rfl)]
          go_simp
          refine hK.out _ _ (by rw [World.cell?_setCell_far _ _ _ _ hne, World.cell?_setCell_far _ _ _ _ hne, World.cell?_setCell_far _ _ _ _ hne]; exact g5) (fun hS => ?_)
          clear hK K
          try simp only [Act.put, List.getElem_toArray, List.getElem_cons_succ, List.getElem_cons_zero, List.setIfInBounds_toArray, List.set_cons_zero, List.set_cons_succ]
          refine wpAnyH_done (by kernel_rfl) ?_ _
      all_goals
        go_wp2_with fail
        obtain ⟨ρ2, Q2, h2, hb2⟩ := Chs.more HA.out HR1.out HOK.out (by omega) (wb := (wa.drew.alloc (.cells (ecells r.c).toArray (etype r.c))).alloc (.cells (ccells r wa.heap.size).toArray 100)) ((Below.refl _ _).alloc (by simp) _) (by simp) hown5.out Hg5.out hat5.out hn5.out
        have H2 := Lib.hid h2
        have HB2 := Lib.hid (show Below w.heap.size w (w5.setCell ⟨w1.heap.size, 0, none⟩ (.slice A5 n5 c5)) from HBa.out.drew.trans hb2)
        obtain rfl : n5 = k + 1 := hn5.out
        clear h2 hb2
        go_roundw
        case rel => exact ⟨k + 1, ρ2, A5, c5, Q2, by omega, by go_num, H2, HB2⟩
        case measure => simp [intOf]; omega
    · obtain rfl : k = n3 := by omega
      go_wp2_with fail
      go_ret2
      exact ⟨_, ρ1, A, c, Q, rfl, by have := H1.out; rwa [List.take_of_length_le (by have := HCT.out.1; omega)] at this, HB.out⟩
end Go.Proofs.Ytliiinffkcgcaaa.PrtH
