/- The stage that is to be told, behind the steps that go ahead: the program's 'tell'. Conditions: disk and slot lie as the facts say; numbers of 64 bits. -/
import Derived.Test.YthgmocipiknfpaaStgN2
namespace Go.Proofs.Ythgmocipiknfpaa.StgN
open Go.RowKit Go.Proofs.Ythgmocipiknfpaa.Kit Go.Proofs.Ythgmocipiknfpaa.Byt Go.Proofs.Ythgmocipiknfpaa.Mem Go.Proofs.Ythgmocipiknfpaa.DskA Go.Proofs.Ythgmocipiknfpaa.DskC Go.Proofs.Ythgmocipiknfpaa.DskD Go.Proofs.Ythgmocipiknfpaa.DskE Go.Proofs.Ythgmocipiknfpaa.DskF Go.Proofs.Ythgmocipiknfpaa.RecM Go.Proofs.Ythgmocipiknfpaa.StgM
open Go.Proofs.Ythgmocipiknfpaa.RecA (sval scells sok)

theorem info_step : (Try.prog.info? 78).map (fun i => (i.zero, i.size, i.bytes)) = some (some (.agg #[.int .i64 0, .slice none 0 0]), 2, 32) := by kernel_rfl
theorem Stp.one (e : Stp) : ∀ u ∈ e.cells, u.oneCell' = true := stepc_one _ _ _ _
theorem stc_app (Q R : List Stp) : stc (Q ++ R) = stc Q ++ stc R := by simp [stc]
theorem stc_single (e : Stp) : stc [e] = e.cells := by simp [stc]
section
variable {w wP w' : World} {F J : Nat → Prop} {g a : Nat} {s s' : St} {t t' : Slt}
/-- What a call leaves, told of a world ahead of it. -/
theorem Sgo.from {v : Value} {e : Ending} (hb : Below wP.heap.size wP w) (h : Sgo F J g a w v s' t' e w') : Sgo F J g a wP v s' t' e w' := by
  obtain ⟨he, F', J', h1, h2, h3, h4, h5, h6⟩ := h
  have hs := hb.size
  refine ⟨he, F', J', h1, h2, h3, (Keep.of_below hb).trans h4 fun i hi => .inl hi, fun i hi => ?_, fun i hi => ?_⟩
  · rcases h5 i hi with h | h
    · exact .inl h
    · exact .inr (by omega)
  · rcases h6 i hi with h | h
    · exact .inl h
    · exact .inr (by omega)
theorem DS.below (h : DS w F J g a s t) (hb : Below w.heap.size w w') : DS w' F J g a s t := ⟨h.dk.below hb, h.sm.below hb, h.dis, h.most, h.fits⟩
theorem DS.keep {G : Nat → Prop} (h : DS w F J g a s t) (k : Keep G w w') (hG : ∀ i, F i ∨ J i → ¬ G i) : DS w' F J g a s t :=
  ⟨h.dk.keep k fun i hi => hG i (.inl hi), h.sm.keep k fun i hi => hG i (.inr hi), h.dis, h.most, h.fits⟩
theorem DS.lt (h : DS w F J g a s t) : ∀ i, F i ∨ J i → i < w.heap.size := fun i hi => by
  rcases hi with hi | hi
  · exact h.dk.lt i hi
  · exact h.sm.lt i hi
/-- A slice of steps in a block of its own. -/
theorem sts_of {base n c N : Nat} {A : Option Addr} {Q : List Stp} (ho : w.ownsRow base 78 2 (.slice A n c) n (stc Q)) (hn : 0 < n) (hF : ∀ i, F i ∨ J i → i < base) (hk : ∀ e ∈ Q, e.ok w F N) : ∃ b, A = some ⟨b, 0, none⟩ ∧ Sts w F b n Q N ∧ ¬ J b := by
  obtain ⟨b, hA, h1, h2⟩ := DskB.own_some ho hn
  subst hA
  have hl := ho.1
  rw [stc_len] at hl
  refine ⟨b, rfl, ⟨by omega, fun j u hu => ?_, fun h => ?_, h2, hk⟩, fun h => ?_⟩
  · have hj : j < (stc Q).length := by
      rcases Nat.lt_or_ge j (stc Q).length with h | h
      · exact h
      · rw [List.getElem?_eq_none h] at hu; cases hu
    rw [ho.cellAt j (by rw [stc_len] at hj; omega)]
    exact hu
  · have := hF b (.inl h); omega
  · have := hF b (.inr h); omega

theorem Below.cellw {B : Nat} {w0 w1 : World} (h : Below B w0 w1) {q i : Nat} (hq : q < B) (hs : B ≤ w0.heap.size) : w1.cell? ⟨q, i, none⟩ = w0.cell? ⟨q, i, none⟩ := World.cell?_of_block (h.block q hq)
theorem right_some {g : Sg} (h : g.right) : g ≠ Sg.none := fun e => by rw [e] at h; have := h.1.1; simp [Sg.none] at this
/-- What 'become' is called with. -/
theorem tell_on {w1 w2 w3 : World} {L B A3 : Option Addr} {n c d n3 c3 X : Nat} {Q : List Stp} {nb : List Nat} {o : Obj} {ta : Nat} (hta : ta = t.at_) (hP : Below wP.heap.size wP w1) (H : DS wP F J g a s t) (HO : w1.ownsRow wP.heap.size 78 2 (.slice L n c) n (stc Q))
    (HQ : ∀ e ∈ Q, e.ok w1 F s.S.length ∧ ∀ q o, e.A = some ⟨q, o, none⟩ → ¬ J q ∧ (Value.slice L n c).ownBlock ≠ some q) (HOB : w1.ownsRow X 5 1 (.slice B 64 d) 64 (u8n nb)) (hX : wP.heap.size ≤ X) (hXo : ∀ k, (Value.slice L n c).ownBlock = some k → k < X)
    (hb2 : Below w1.heap.size w1 w2) (hg : (w2.alloc o).grownBy w3 (Value.slice L n c).ownBlock) (hown3 : w3.ownsRow wP.heap.size 78 2 (.slice A3 n3 c3) n3 (stc Q ++ stepc ta B 64 d)) (hn3 : n3 = n + 1) :
    DS w3 F J g a s t ∧ Below wP.heap.size wP w3 ∧ ∃ b3, A3 = some ⟨b3, 0, none⟩ ∧ Sts w3 F b3 n3 (Q ++ [⟨ta, B, d, nb⟩]) s.S.length ∧ ¬ J b3 ∧ ∀ e ∈ Q ++ [⟨ta, B, d, nb⟩], ∀ q o, e.A = some ⟨q, o, none⟩ → ¬ J q := by
  have hk3 : Keep (fun k => (Value.slice L n c).ownBlock = some k) w1 w3 := grow_keep hb2 hg
  have hown : ∀ k, (Value.slice L n c).ownBlock = some k → wP.heap.size ≤ k := fun k hk => (HO.lt k hk).1
  have hL3 : Below wP.heap.size wP w3 := hP.trans (hk3.below hown hP.size)
  have hlt := H.lt
  have hDS : DS w3 F J g a s t := (H.below hP).keep hk3 fun i hi hk => by
    have h1 := hlt i hi
    have h2 := hown i hk
    omega
  have hnew : (⟨ta, B, d, nb⟩ : Stp).ok w3 F s.S.length := by
    refine ⟨Rd.own (hk3.own HOB fun k hk hk2 => ?_), fun q o hA hF => ?_, ?_⟩
    · have := (HOB.lt k hk).1
      have := hXo k hk2
      omega
    · have h1 := (HOB.lt q (by rw [show B = some ⟨q, o, none⟩ from hA]; rfl)).1
      have h2 := hlt q (.inl hF)
      omega
    · have := H.fits.2.2
      show ta < _
      omega
  have hold : ∀ e ∈ Q, e.ok w3 F s.S.length := fun e he => by
    obtain ⟨⟨h1, h2, h3⟩, h4⟩ := HQ e he
    exact ⟨hk3.rd h1 fun _ b o hA hk => (h4 b o hA).2 hk, h2, h3⟩
  have hall : ∀ e ∈ Q ++ [⟨ta, B, d, nb⟩], e.ok w3 F s.S.length := fun e he => by
    rcases List.mem_append.1 he with h1 | h1
    · exact hold e h1
    · rw [List.mem_singleton.1 h1]; exact hnew
  obtain ⟨b3, hA3, hS, hJ⟩ := sts_of (J := J) (Q := Q ++ [⟨ta, B, d, nb⟩]) (N := s.S.length) (by rw [stc_app, stc_single]; exact hown3) (by omega) hlt hall
  refine ⟨hDS, hL3, b3, hA3, hS, hJ, fun e he q o hA => ?_⟩
  rcases List.mem_append.1 he with h1 | h1
  · exact ((HQ e h1).2 q o hA).1
  · rw [List.mem_singleton.1 h1] at hA
    intro hj
    have h2 := (HOB.lt q (by rw [show B = some ⟨q, o, none⟩ from hA]; rfl)).1
    have h3 := hlt q (.inr hj)
    omega
theorem tell_call {w1 w2 w3 : World} {L B A3 : Option Addr} {n c d n3 c3 X : Nat} {Q : List Stp} {nb : List Nat} {o : Obj} {ta : Nat} (hta : ta = t.at_) (hP : Below wP.heap.size wP w1) (H : DS wP F J g a s t) (HO : w1.ownsRow wP.heap.size 78 2 (.slice L n c) n (stc Q))
    (HQ : ∀ e ∈ Q, e.ok w1 F s.S.length ∧ ∀ q o, e.A = some ⟨q, o, none⟩ → ¬ J q ∧ (Value.slice L n c).ownBlock ≠ some q) (HOB : w1.ownsRow X 5 1 (.slice B 64 d) 64 (u8n nb)) (hX : wP.heap.size ≤ X) (hXo : ∀ k, (Value.slice L n c).ownBlock = some k → k < X)
    (hb2 : Below w1.heap.size w1 w2) (hg : (w2.alloc o).grownBy w3 (Value.slice L n c).ownBlock) (hown3 : w3.ownsRow wP.heap.size 78 2 (.slice A3 n3 c3) n3 (stc Q ++ stepc ta B 64 d)) (hn3 : n3 = n + 1) (hn : n ≤ 1) (nx : Sg) (hnx : sok nx ∧ nx ≠ Sg.none) (R : St × Int) (hR : R = pQ s (Q.map Stp.pair ++ [(t.at_, nb)])) :
    ∃ b3, A3 = some ⟨b3, 0, none⟩ ∧ Calls Try.prog 39 #[.pointer (some ⟨a, 0, none⟩), sval nx, .slice (some ⟨b3, 0, none⟩) n3 c3] w3 (Sgo F J g a wP (.int .i64 R.2) R.1 (became t true nx R.2)) := by
  obtain ⟨hDS3, hL3, b3, rfl, hST3, hJ3, hJQ3⟩ := tell_on hta hP H HO HQ HOB hX hXo hb2 hg hown3 hn3
  have h := become_any hDS3 nx true hnx.1 ⟨fun _ => hnx.2, fun _ => rfl⟩ b3 n3 c3 _ (by omega) hST3 hJ3 hJQ3
  rw [List.map_append, show List.map Stp.pair [⟨ta, B, d, nb⟩] = [(ta, nb)] from rfl, hta, ← hR] at h
  exact ⟨b3, rfl, h.mono fun _ _ hg => Sgo.from hL3 hg⟩
set_option maxRecDepth 100000 in
set_option maxHeartbeats 1600000 in
theorem tell_no (h : DS w F J g a s t) (nx : Sg) (hk : sok nx) (hr : ¬ nx.right) (v : Value) : Calls Try.prog 32 #[.pointer (some ⟨a, 0, none⟩), sval nx, v] w (Sgo F J g a w (.int .i64 3) s t) := by
  have H := Lib.hid h
  have HP := Lib.hid (fun w' => RecN.sput_no nx w' hk hr)
  clear h hk hr
  obtain ⟨n, z, hv⟩ := nx
  show Calls _ _ #[_, .agg #[.int .i64 n, .int .i64 z, .int .i64 hv], _] w _
  have L0 := Lib.hid (show Below w.heap.size w (w.alloc (.cells #[.int .i64 n, .int .i64 z, .int .i64 hv] 32)) from (Below.refl _ _).alloc (Nat.le_refl _) _)
  go_enter Try.func32, Try.ntmps32
  go_wp2_with (go_at_call 56; refine (HP.out _).mono ?_; rintro e w1 ⟨rfl, hb1⟩; have L1 := Lib.hid (L0.out.trans (hb1.mono L0.out.size)); clear hb1)
  go_ret
  exact Sgo.disk H.out (H.out.dk.below L1.out) (Keep.of_below L1.out) fun i hi => .inl hi
set_option maxRecDepth 100000 in
set_option maxHeartbeats 6400000 in
theorem tell_any (hb : Below wP.heap.size wP w) (h : DS wP F J g a s t) (nx : Sg) (hk : sok nx) (hr : nx.right) (L : Option Addr) (n c : Nat) (Q : List Stp) (hn : n ≤ 1) (hown : w.ownsRow wP.heap.size 78 2 (.slice L n c) n (stc Q)) (hQ : ∀ e ∈ Q, e.ok w F s.S.length ∧ ∀ q o, e.A = some ⟨q, o, none⟩ → ¬ J q ∧ (Value.slice L n c).ownBlock ≠ some q) :
    Calls Try.prog 32 #[.pointer (some ⟨a, 0, none⟩), sval nx, .slice L n c] w (Sgo F J g a wP (.int .i64 (pQ s (Q.map Stp.pair ++ [(t.at_, shut nx.bytes)])).2) (pQ s (Q.map Stp.pair ++ [(t.at_, shut nx.bytes)])).1 (became t true nx (pQ s (Q.map Stp.pair ++ [(t.at_, shut nx.bytes)])).2)) := by
  obtain ⟨i0, hi0, hz0, hz1, hz2⟩ := info_parts info_step
  have HP := Lib.hid (fun w' => RecN.sput_yes nx w' hk hr)
  have HX0 := Lib.hid (show Blk (w.alloc (.cells #[.int .i64 nx.s, .int .i64 nx.z, .int .i64 nx.h] 32)) w.heap.size 32 (scells nx) from Blk.new w _ _)
  have L0 := Lib.hid (show Below w.heap.size w (w.alloc (.cells #[.int .i64 nx.s, .int .i64 nx.z, .int .i64 nx.h] 32)) from (Below.refl _ _).alloc (Nat.le_refl _) _)
  have hbl : (shut nx.bytes).length = 64 := shut_len (by rw [Sg.bytes_len]; omega)
  have HNK := Lib.hid (show sok nx ∧ nx ≠ Sg.none from ⟨hk, right_some hr⟩)
  have HB := Lib.hid hb
  have H := Lib.hid h
  have HO := Lib.hid hown
  have HQ := Lib.hid hQ
  have HBL := Lib.hid hbl
  clear hb h hown hQ hbl hk hr
  obtain ⟨nb, hnb⟩ : ∃ nb, nb = shut nx.bytes := ⟨_, rfl⟩
  rw [← hnb] at HP HBL ⊢
  clear hnb
  obtain ⟨R, hR⟩ : ∃ R, R = pQ s (Q.map Stp.pair ++ [(t.at_, nb)]) := ⟨_, rfl⟩
  rw [← hR]
  have HRR := Lib.hid hR
  clear hR
  obtain ⟨ta, hta⟩ : ∃ ta, ta = t.at_ := ⟨_, rfl⟩
  have HTA := Lib.hid hta
  clear hta
  go_enter Try.func32, Try.ntmps32
  go_wp2_with (go_at_call 56; refine (HP.out _).mono ?_; rintro e w1 ⟨B, m, d, rfl, hownB, hb1⟩; obtain rfl : m = 64 := by { have h1 := hownB.1; rw [u8n_len, HBL.out] at h1; omega }; have L1 := Lib.hid (L0.out.trans (hb1.mono L0.out.size)); have HX1 := Lib.hid (HX0.out.below hb1); have HOB := Lib.hid hownB; have hs0 := L0.out.size; have hs1 := hb1.size; clear hownB hb1)
  have LP1 := Lib.hid (HB.out.trans (L1.out.mono HB.out.size))
  have hbx := HX1.out.lt
  have hbx' : w.heap.size < w1.drew.heap.size := hbx
  have hsz1 : wP.heap.size ≤ w.heap.size := HB.out.size
  have x0 : w1.drew.cell? ⟨w.heap.size, 0, none⟩ = some (.int .i64 nx.s) := HX1.out.cell rfl
  have x1 : w1.drew.cell? ⟨w.heap.size, 1, none⟩ = some (.int .i64 nx.z) := HX1.out.cell rfl
  have x2 : w1.drew.cell? ⟨w.heap.size, 2, none⟩ = some (.int .i64 nx.h) := HX1.out.cell rfl
  have HSM1 := Lib.hid (show Sm w1.drew J a g t from (H.out.sm.below LP1.out).keep (Keep.drew (Keep.refl (fun _ => False) w1)) fun _ _ h => h)
  have HAT := Lib.hid (show Calls Try.prog 28 #[.pointer (some ⟨a, 0, none⟩)] w1.drew fun e w' => e = .returned (.int .i64 (ta : Nat)) ∧ Below w1.drew.heap.size w1.drew w' from HTA.out ▸ stageAt_any HSM1.out H.out.fits.1 H.out.fits.2.1)
  have HO1 := Lib.hid ((Keep.of_below (F := fun _ => False) L1.out).own HO.out fun _ _ h => h)
  have HQ1 := Lib.hid (show ∀ e ∈ Q, e.ok w1 F s.S.length ∧ ∀ q o, e.A = some ⟨q, o, none⟩ → ¬ J q ∧ (Value.slice L n c).ownBlock ≠ some q from fun e he => ⟨(HQ.out e he).1.step (Keep.of_below L1.out) fun i hi => .inl hi, (HQ.out e he).2⟩)
  have HXX := Lib.hid (show wP.heap.size ≤ (w.alloc (.cells #[.int .i64 nx.s, .int .i64 nx.z, .int .i64 nx.h] 32)).heap.size ∧ ∀ k, (Value.slice L n c).ownBlock = some k → k < (w.alloc (.cells #[.int .i64 nx.s, .int .i64 nx.z, .int .i64 nx.h] 32)).heap.size from ⟨by rw [World.size_alloc]; omega, fun k hk => by have := (HO.out.lt k hk).2; rw [World.size_alloc]; omega⟩)
  have HXK := Lib.hid (show ∀ (w2 w3 : World) (o : Obj), Below w1.heap.size w1 w2 → (w2.alloc o).grownBy w3 (Value.slice L n c).ownBlock → ∀ i, w3.cell? ⟨w.heap.size, i, none⟩ = w1.drew.cell? ⟨w.heap.size, i, none⟩ from fun w2 w3 o h1 h2 i => World.cell?_of_block ((grow_keep h1 h2).block _ hbx fun e => by have := (HO.out.lt w.heap.size e).2; omega))
  have X0 := Lib.hid x0
  have X1 := Lib.hid x1
  have X2 := Lib.hid x2
  clear hbx
  go_region_law
    (first
     | (rw [if_pos (by rfl)]; have hq := HBC; clear hq; go_simp; refine HBC.out.mono ?_; rintro e w4 ⟨rfl, hgo⟩; have HGO := Lib.hid hgo; clear hgo; go_wp2_with fail)
     | (rw [if_pos (by rfl)]; have hq := HO2; clear hq; refine wp_append_at (.tmp 19) (.tmp 24) 98 rfl wP.heap.size 78 i0 _ 2 32 Try.underlying98 hi0 hz0 hz1 hz2 rfl (by omega) (.slice L n c) n (stc Q) rfl (HO2.out.alloc _) ⟨w2.heap.size, 0, none⟩ 1 1 (stepc ta B 64 d) rfl rfl (new_cells w2 (stepc ta B 64 d) _) (stepc_one _ _ _ _) (by unfold maxLen; omega) (by omega) (by have := L2.out.size; rw [World.size_alloc]; omega) ?_; intro A3 n3 c3 w3 hn3 hown3 hg3 hat3; obtain ⟨b3, rfl, hBC⟩ := tell_call HTA.out LP1.out H.out HO1.out HQ1.out HOB.out HXX.out.1 HXX.out.2 L12.out hg3 hown3.out hn3.out hn nx HNK.out R HRR.out; have HBC := Lib.hid hBC; have v0 := (HXK.out w2 w3 _ L12.out hg3 0).trans X0.out; have v1 := (HXK.out w2 w3 _ L12.out hg3 1).trans X1.out; have v2 := (HXK.out w2 w3 _ L12.out hg3 2).trans X2.out; clear hBC hn3 hown3 hg3 hat3; go_wp2_with fail)
     | (rw [if_pos (by rfl)]; go_simp; refine HAT.out.mono ?_; rintro e w2 ⟨rfl, hb2⟩; have L12 := Lib.hid (show Below w1.heap.size w1 w2 from ((Below.refl w1.heap.size w1).drew).trans hb2); have L2 := Lib.hid (show Below wP.heap.size wP w2 from LP1.out.trans (L12.out.mono LP1.out.size)); have HO2 := Lib.hid ((Keep.of_below (F := fun _ => False) L12.out).own HO1.out fun _ _ h => h); have hbx2 : w.heap.size < w2.heap.size := Nat.lt_of_lt_of_le hbx' hb2.size; have y0 := (hb2.cell (p := ⟨w.heap.size, 0, none⟩) hbx').trans x0; have y1 := (hb2.cell (p := ⟨w.heap.size, 1, none⟩) hbx').trans x1; have y2 := (hb2.cell (p := ⟨w.heap.size, 2, none⟩) hbx').trans x2; have z0 := (((Below.refl w2.heap.size w2).alloc (Nat.le_refl _) (.cells #[.int .i64 (ta : Nat), .slice B 64 d] 78)).cell (p := ⟨w.heap.size, 0, none⟩) hbx2).trans y0; have z1 := (((Below.refl w2.heap.size w2).alloc (Nat.le_refl _) (.cells #[.int .i64 (ta : Nat), .slice B 64 d] 78)).cell (p := ⟨w.heap.size, 1, none⟩) hbx2).trans y1; have z2 := (((Below.refl w2.heap.size w2).alloc (Nat.le_refl _) (.cells #[.int .i64 (ta : Nat), .slice B 64 d] 78)).cell (p := ⟨w.heap.size, 2, none⟩) hbx2).trans y2; clear hb2; go_wp2_with fail))
  all_goals
    go_wp2
    go_ret
    exact ⟨rfl, HGO.out⟩
end
end Go.Proofs.Ythgmocipiknfpaa.StgN
