/- Steps written one behind the other, each flushed, and the slot's stage then: the program's 'become' and 'tell'. Conditions: disk and slot lie as the facts say; what is written reads as the bytes that are named, and isn't the disk's. -/
import Derived.Test.YthgmocipiknfpaaJ10
namespace Go.Proofs.Ythgmocipiknfpaa.StgN
open Go.RowKit Go.Proofs.Ythgmocipiknfpaa.Kit Go.Proofs.Ythgmocipiknfpaa.Byt Go.Proofs.Ythgmocipiknfpaa.Mem Go.Proofs.Ythgmocipiknfpaa.DskA Go.Proofs.Ythgmocipiknfpaa.DskC Go.Proofs.Ythgmocipiknfpaa.DskD Go.Proofs.Ythgmocipiknfpaa.DskE Go.Proofs.Ythgmocipiknfpaa.DskF Go.Proofs.Ythgmocipiknfpaa.RecM Go.Proofs.Ythgmocipiknfpaa.StgM
open Go.Proofs.Ythgmocipiknfpaa.RecA (sval scells sok)

/-- Steps in a block of their own that nothing touches. -/
structure Sts (w : World) (F : Nat → Prop) (b : Nat) (n : Nat) (Q : List Stp) (N : Nat) : Prop where
  len : Q.length = n
  blk : ∀ j u, (stc Q)[j]? = some u → w.cell? ⟨b, j, none⟩ = some u
  nf : ¬ F b
  lt : b < w.heap.size
  ok : ∀ e ∈ Q, e.ok w F N
theorem Sts.step {w w' : World} {F F' : Nat → Prop} {b n N : Nat} {Q : List Stp} (h : Sts w F b n Q N) (k : Keep F w w') (hf : ∀ i, F' i → F i ∨ w.heap.size ≤ i) : Sts w' F' b n Q N :=
  ⟨h.len, fun j u hu => (World.cell?_of_block (k.block b h.lt h.nf)).trans (h.blk j u hu), fun hF => by
    rcases hf b hF with h1 | h1
    · exact h.nf h1
    · have := h.lt; omega, Nat.lt_of_lt_of_le h.lt k.size, fun e he => (h.ok e he).step k hf⟩
theorem Sts.at_ {w : World} {F : Nat → Prop} {b n N : Nat} {Q : List Stp} (h : Sts w F b n Q N) {k : Nat} (hk : k < n) : ∃ e, e ∈ Q ∧ Q.drop k = e :: Q.drop (k + 1) ∧ w.cell? ⟨b, k * 2, none⟩ = some (.int .i64 (e.i : Int)) ∧ w.cell? ⟨b, k * 2 + 1, none⟩ = some (.slice e.A 64 e.c) := by
  have hkl : k < Q.length := by rw [h.len]; exact hk
  have ha := stc_at hkl
  refine ⟨Q[k], List.getElem_mem _, (List.drop_eq_getElem_cons hkl), ?_, ?_⟩
  · rw [Nat.mul_comm]; exact h.blk _ _ ha.1
  · rw [Nat.mul_comm]; exact h.blk _ _ ha.2
/-- Where the loop stands: what is left does the rest. -/
structure Bec (w wr : World) (F : Nat → Prop) (g b n : Nat) (Q : List Stp) (s : St) (k : Nat) (F' : Nat → Prop) (s' : St) : Prop where
  rest : pQ s (Q.map Stp.pair) = pQ s' ((Q.drop k).map Stp.pair)
  dk : Dk wr F' g s'
  keep : Keep F w wr
  grow : ∀ i, F' i → F i ∨ w.heap.size ≤ i
  few : s'.L.length ≤ 1000000
  long : s'.S.length = s.S.length
  sts : Sts wr F' b n Q s.S.length
theorem pQ_cons_no {s : St} {e : Stp} {Q : List (Nat × List Nat)} (h : (put1 s e.i e.bs).2 ≠ 0) : pQ s (e.pair :: Q) = ((put1 s e.i e.bs).1, 8) := by
  show (if (put1 s e.i e.bs).2 = 0 then pQ (put1 s e.i e.bs).1 Q else ((put1 s e.i e.bs).1, 8)) = _
  rw [if_neg h]
theorem pQ_cons_yes {s : St} {e : Stp} {Q : List (Nat × List Nat)} (h : (put1 s e.i e.bs).2 = 0) : pQ s (e.pair :: Q) = pQ (put1 s e.i e.bs).1 Q := by
  show (if (put1 s e.i e.bs).2 = 0 then pQ (put1 s e.i e.bs).1 Q else ((put1 s e.i e.bs).1, 8)) = _
  rw [if_pos h]
theorem put1_a {s : St} (i : Nat) (bs : List Nat) (h : (spend s).1 = false) : put1 s i bs = ((spend s).2, 8) := by
  unfold put1
  rw [if_pos h]
theorem put1_b {s : St} (i : Nat) (bs : List Nat) (h : (spend s).1 = true) (h2 : (spend (wrote (spend s).2 i bs)).1 = false) : put1 s i bs = ((spend (wrote (spend s).2 i bs)).2, 8) := by
  unfold put1
  rw [if_neg (by rw [h]; simp), if_pos h2]
theorem put1_c {s : St} (i : Nat) (bs : List Nat) (h : (spend s).1 = true) (h2 : (spend (wrote (spend s).2 i bs)).1 = true) : put1 s i bs = (lay (fun _ => true) (spend (wrote (spend s).2 i bs)).2, 0) := by
  unfold put1
  rw [if_neg (by rw [h]; simp), if_neg (by rw [h2]; simp)]
section
variable {w wr w1 : World} {F F' F1 J : Nat → Prop} {g a b n k : Nat} {Q : List Stp} {s s' s1 : St} {t : Slt}
/-- The disk alone has changed. -/
theorem Sgo.disk {v : Value} (h : DS w F J g a s t) (hD : Dk w1 F1 g s1) (hk : Keep F w w1) (hf : ∀ i, F1 i → F i ∨ w.heap.size ≤ i) : Sgo F J g a w v s1 t (.returned v) w1 :=
  ⟨rfl, F1, J, hD, h.sm.keep hk fun i hj hF => h.dis i hF hj, fun i hF hj => by
    rcases hf i hF with h4 | h4
    · exact h.dis i h4 hj
    · have := h.sm.lt i hj; omega, hk.mono fun _ _ h => .inl h, fun i hi => (hf i hi).imp .inl id, fun i hi => .inl (.inr hi)⟩
theorem Bec.on (h : Bec w wr F g b n Q s k F' s') (hk : Keep F' wr w1) (hf : ∀ i, F1 i → F' i ∨ wr.heap.size ≤ i) : Keep F w w1 ∧ ∀ i, F1 i → F i ∨ w.heap.size ≤ i :=
  ⟨h.keep.trans hk h.grow, fun i hi => by
    rcases hf i hi with h1 | h1
    · exact h.grow i h1
    · have := h.keep.size; exact .inr (by omega)⟩
theorem Bec.bad {v : Value} (h : Bec w wr F g b n Q s k F' s') (hd : DS w F J g a s t) (hD : Dk w1 F1 g s1) (hk : Keep F' wr w1) (hf : ∀ i, F1 i → F' i ∨ wr.heap.size ≤ i) : Sgo F J g a w v s1 t (.returned v) w1 := by
  obtain ⟨h1, h2⟩ := h.on hk hf
  exact Sgo.disk hd hD h1 h2
theorem Bec.good {e : Stp} (h : Bec w wr F g b n Q s k F' s') (hdr : Q.drop k = e :: Q.drop (k + 1)) (h0 : (put1 s' e.i e.bs).2 = 0) (hD : Dk w1 F1 g (put1 s' e.i e.bs).1) (hk : Keep F' wr w1) (hf : ∀ i, F1 i → F' i ∨ wr.heap.size ≤ i) : Bec w w1 F g b n Q s (k + 1) F1 (put1 s' e.i e.bs).1 := by
  obtain ⟨h1, h2⟩ := h.on hk hf
  refine ⟨?_, hD, h1, h2, ?_, ?_, h.sts.step hk hf⟩
  · rw [h.rest, hdr]
    exact pQ_cons_yes h0
  · rw [put1_L h.few _ _ h0]; exact Nat.zero_le _
  · rw [put1_len, h.long]
end
/-- What the slot is behind it. -/
def became (t : Slt) (b : Bool) (n : Sg) (e : Int) : Slt := if e = 0 then { t with has := b, g := n } else t

set_option maxRecDepth 100000 in
set_option maxHeartbeats 3200000 in
theorem become_any {w : World} {F J : Nat → Prop} {g a : Nat} {s : St} {t : Slt} (h : DS w F J g a s t) (nx : Sg) (hb : Bool) (hnx : sok nx) (hbn : hb = true ↔ nx ≠ Sg.none) (b n c : Nat) (Q : List Stp) (hn : n ≤ 2) (hQ : Sts w F b n Q s.S.length) (hJ : ¬ J b) (hJq : ∀ e ∈ Q, ∀ q o, e.A = some ⟨q, o, none⟩ → ¬ J q) :
    Calls Try.prog 39 #[.pointer (some ⟨a, 0, none⟩), sval nx, .slice (some ⟨b, 0, none⟩) n c] w (Sgo F J g a w (.int .i64 (pQ s (Q.map Stp.pair)).2) (pQ s (Q.map Stp.pair)).1 (became t hb nx (pQ s (Q.map Stp.pair)).2)) := by
  have H := Lib.hid h
  have L0 := Lib.hid (show Below w.heap.size w (w.alloc (.cells #[.int .i64 nx.s, .int .i64 nx.z, .int .i64 nx.h] 32)) from (Below.refl _ _).alloc (Nat.le_refl _) _)
  have HX0 := Lib.hid (show Blk (w.alloc (.cells #[.int .i64 nx.s, .int .i64 nx.z, .int .i64 nx.h] 32)) w.heap.size 32 (scells nx) from Blk.new w _ _)
  have K0 := Lib.hid (show Keep F w (w.alloc (.cells #[.int .i64 nx.s, .int .i64 nx.z, .int .i64 nx.h] 32)) from Keep.of_below L0.out)
  have HI0 := Lib.hid (show Bec w (w.alloc (.cells #[.int .i64 nx.s, .int .i64 nx.z, .int .i64 nx.h] 32)) F g b n Q s 0 F s from ⟨rfl, h.dk.below L0.out, K0.out, fun i hi => .inl hi, h.most, rfl, hQ.step K0.out fun i hi => .inl hi⟩)
  have HN := Lib.hid (show sok nx ∧ (hb = true ↔ nx ≠ Sg.none) from ⟨hnx, hbn⟩)
  have hwF : ¬ F w.heap.size := fun hF => by have := h.dk.lt _ hF; omega
  have HWF := Lib.hid hwF
  obtain ⟨R, hR⟩ : ∃ R, R = pQ s (Q.map Stp.pair) := ⟨_, rfl⟩
  rw [← hR]
  have HR := Lib.hid hR
  clear h hnx hbn hQ hR hwF
  go_enter Try.func39, Try.ntmps39
  go_wp2
  obtain ⟨w0, hw0⟩ : ∃ w0, w0 = w.alloc (.cells #[.int .i64 nx.s, .int .i64 nx.z, .int .i64 nx.h] 32) := ⟨_, rfl⟩
  rw [← hw0] at L0 HX0 K0 HI0 ⊢
  have HS0 := Lib.hid (show w0.heap.size = w.heap.size + 1 from by rw [hw0, World.size_alloc])
  clear hw0
  go_loopw [13] (fun i wr => ∃ (k : Nat) (F' : Nat → Prop) (s' : St), k ≤ n ∧ i = .int .i64 k ∧ Hid (Bec w wr F g b n Q s k F' s') ∧ Hid (Blk wr w.heap.size 32 (scells nx)) ∧ Hid (¬ F' w.heap.size)) (fun i _ => n - (intOf i).toNat)
  case atStart => exact ⟨0, F, s, Nat.zero_le _, rfl, HI0, HX0, HWF⟩
  case round =>
    obtain ⟨k, F', s', hk, rfl, HI, HX, HF⟩ := hrel
    have HDS := Lib.hid (show Sm wr J a g t from H.out.sm.keep HI.out.keep fun i hj hf => H.out.dis i hf hj)
    obtain ⟨c0, _, _, _, _, _⟩ := HDS.out.cells
    have hal := HDS.out.blk.lt
    by_cases hlt : k < n
    · obtain ⟨e, he, hdr, g0, g1⟩ := HI.out.sts.at_ hlt
      have HE := Lib.hid he
      have HDR := Lib.hid hdr
      clear he hdr
      obtain ⟨ei, hei⟩ : ∃ ei, ei = e.i := ⟨_, rfl⟩
      obtain ⟨eA, heA⟩ : ∃ eA, eA = e.A := ⟨_, rfl⟩
      obtain ⟨ec, hec⟩ : ∃ ec, ec = e.c := ⟨_, rfl⟩
      rw [← hei] at g0
      rw [← heA, ← hec] at g1
      have HEQ := Lib.hid (show ei = e.i ∧ eA = e.A ∧ ec = e.c from ⟨hei, heA, hec⟩)
      clear hei heA hec
      go_wp2_with fail
      have hbx := Blk.new wr 78 [.int .i64 (ei : Int), .slice eA 64 ec]
      have LB := Lib.hid (show Below wr.heap.size wr (wr.alloc (.cells #[.int .i64 (ei : Int), .slice eA 64 ec] 78)) from (Below.refl _ _).alloc (Nat.le_refl _) _)
      have a0 := (LB.out.cell (p := ⟨a, 0, none⟩) hal).trans c0
      obtain ⟨wa, hwa⟩ : ∃ wa, wa = wr.alloc (.cells #[.int .i64 (ei : Int), .slice eA 64 ec] 78) := ⟨_, rfl⟩
      rw [← hwa] at LB hbx a0 ⊢
      clear hwa
      have b0 : wa.cell? ⟨wr.heap.size, 0, none⟩ = some (.int .i64 (ei : Int)) := hbx.cell rfl
      have b1 : wa.cell? ⟨wr.heap.size, 1, none⟩ = some (.slice eA 64 ec) := hbx.cell rfl
      clear hbx c0 g0 g1
      have HD1 := Lib.hid (show Dk wa.drew F' g s' from (HI.out.dk.below LB.out).keep (Keep.drew (Keep.refl (fun _ => False) wa)) fun _ _ h => h)
      have HO1 := Lib.hid (show e.ok wa.drew F' s'.S.length from ((HI.out.sts.ok e HE.out).step (Keep.drew (Keep.of_below LB.out)) fun i hi => .inl hi).to HI.out.long.symm)
      have K1 := Lib.hid (show Keep F' wr wa.drew from (Keep.of_below LB.out).drew)
      have hs1 : wr.heap.size ≤ wa.drew.heap.size := LB.out.size
      obtain ⟨hei, heA, hec⟩ := HEQ.out
      have hsw : a < wa.drew.heap.size := Nat.lt_of_lt_of_le hal hs1
      cases hs : (spend s').1 with
      | false =>
        have HW := Lib.hid (write_down F' g s' (ei : Int) eA ec wa.drew HD1.out (by simp [inB, hei, HO1.out.lt]) hs)
        have HP := Lib.hid (put1_a e.i e.bs hs)
        clear hei heA hec hs
        go_still_tail 8, (by kernel_rfl)
        change wpList _ _ _ _ _ (World.drew _)
        go_wp2_with (go_at_call 59; refine HW.out.mono ?_; rintro e w1 ⟨rfl, F1, hD1, hk1, hf1⟩; have HDD := Lib.hid hD1; have HKK := Lib.hid (K1.out.trans hk1 fun i hi => .inl hi); have HFF := Lib.hid (show ∀ i, F1 i → F' i ∨ wr.heap.size ≤ i from fun i hi => (hf1 i hi).imp id fun h => Nat.le_trans hs1 h); clear hD1 hk1 hf1)
        go_ret
        have hRR : R = ((spend s').2, 8) := by rw [HR.out, HI.out.rest, HDR.out]; exact (pQ_cons_no (by rw [HP.out]; show (8 : Int) ≠ 0; omega)).trans (by rw [HP.out])
        rw [hRR]
        exact HI.out.bad H.out HDD.out HKK.out HFF.out
      | true =>
        have HW := Lib.hid (write_ok F' g s' e.i eA ec e.bs wa.drew HD1.out HO1.out.lt (by rw [heA, hec]; exact HO1.out.rd) (fun b o hA => HO1.out.far b o (by rw [← heA]; exact hA)) hs (by have := HI.out.few; omega))
        rw [← hei] at HW
        have HSP := Lib.hid hs
        have HEI := Lib.hid hei
        clear hei heA hec hs
        go_still_tail 8, (by kernel_rfl)
        change wpList _ _ _ _ _ (World.drew _)
        go_wp2_with (go_at_call 59; refine HW.out.mono ?_; rintro e w1 ⟨rfl, F1, hD1, hk1, hf1⟩; have HDD := Lib.hid hD1; have HKK := Lib.hid (K1.out.trans hk1 fun i hi => .inl hi); have HFF := Lib.hid (show ∀ i, F1 i → F' i ∨ wr.heap.size ≤ i from fun i hi => (hf1 i hi).imp id fun h => Nat.le_trans hs1 h); have HSM := Lib.hid (show Sm w1 J a g t from H.out.sm.keep (HI.out.on HKK.out HFF.out).1 fun i hj hf => H.out.dis i hf hj); obtain ⟨e0, _, _, _, _, _⟩ := HSM.out.cells; clear hD1 hk1 hf1 a0 b0 b1)
        have hw : ({ (spend s').2 with L := s'.L ++ [(ei, e.bs)] } : St) = wrote (spend s').2 e.i e.bs := by
          unfold wrote
          rw [(spend_S s').2, HEI.out]
        have HDW := Lib.hid (show Dk w1 F1 g (wrote (spend s').2 e.i e.bs) from hw ▸ HDD.out)
        clear hw HDD
        have hs1' : wr.heap.size ≤ w1.heap.size := HKK.out.size
        cases hs2 : (spend (wrote (spend s').2 e.i e.bs)).1 with
        | false =>
          have HFL := Lib.hid (flush_down F1 g _ w1 HDW.out hs2)
          have HP := Lib.hid (put1_b e.i e.bs HSP.out hs2)
          clear hs2
          go_wp2_with (go_at_call 60; refine HFL.out.mono ?_; rintro e w2 ⟨rfl, F2, hD2, hk2, hf2⟩; have HDD := Lib.hid hD2; have HK2 := Lib.hid (HKK.out.trans hk2 HFF.out); have HF2 := Lib.hid (show ∀ i, F2 i → F' i ∨ wr.heap.size ≤ i from fun i hi => by rcases hf2 i hi with h | h; exact HFF.out i h; exact .inr (Nat.le_trans hs1' h)); clear hD2 hk2 hf2)
          go_ret
          have hRR : R = ((spend (wrote (spend s').2 e.i e.bs)).2, 8) := by rw [HR.out, HI.out.rest, HDR.out]; exact (pQ_cons_no (by rw [HP.out]; show (8 : Int) ≠ 0; omega)).trans (by rw [HP.out])
          rw [hRR]
          exact HI.out.bad H.out HDD.out HK2.out HF2.out
        | true =>
          have HFL := Lib.hid (flush_ok F1 g _ w1 HDW.out hs2 (by have := HI.out.few; show ((spend s').2.L ++ [(e.i, e.bs)]).length ≤ _; rw [(spend_S s').2, List.length_append]; show s'.L.length + 1 ≤ _; omega))
          have HP := Lib.hid (put1_c e.i e.bs HSP.out hs2)
          clear hs2
          go_wp2_with (go_at_call 60; refine HFL.out.mono ?_; rintro e w2 ⟨rfl, F2, hD2, hk2, hf2⟩; have HDD := Lib.hid hD2; have HK2 := Lib.hid (HKK.out.trans hk2 HFF.out); have HF2 := Lib.hid (show ∀ i, F2 i → F' i ∨ wr.heap.size ≤ i from fun i hi => by rcases hf2 i hi with h | h; exact HFF.out i h; exact .inr (Nat.le_trans hs1' h)); clear hD2 hk2 hf2)
          have hput : put1 s' e.i e.bs = (lay (fun _ => true) (spend (wrote (spend s').2 e.i e.bs)).2, 0) := HP.out
          have hD3 : Dk w2 F2 g (put1 s' e.i e.bs).1 := by rw [hput]; exact HDD.out
          have hI3 := HI.out.good HDR.out (by rw [hput]) hD3 HK2.out HF2.out
          have HI3 := Lib.hid hI3
          have hwr : w.heap.size < wr.heap.size := HX.out.lt
          have HX3 := Lib.hid (HK2.out.blk HX.out HF.out)
          have HF3 := Lib.hid (show ¬ F2 w.heap.size from fun hF => by
            rcases HF2.out _ hF with h1 | h1
            · exact HF.out h1
            · omega)
          obtain ⟨s3, hs3⟩ : ∃ s3, s3 = (put1 s' e.i e.bs).1 := ⟨_, rfl⟩
          rw [← hs3] at HI3
          clear hput hD3 hI3 hs3 e0
          go_wp2
          go_roundw
          case rel => exact ⟨k + 1, F2, s3, by omega, by go_num, HI3, HX3, HF3⟩
          case measure => simp [intOf]; omega
    · obtain rfl : k = n := by omega
      have hRR : R = (s', 0) := by
        rw [HR.out, HI.out.rest, List.drop_eq_nil_of_le (by rw [HI.out.sts.len]; omega)]
        rfl
      have HRR := Lib.hid hRR
      clear hRR HR
      obtain ⟨x0, x1, x2⟩ : wr.cell? ⟨w.heap.size, 0, none⟩ = some (.int .i64 nx.s) ∧ wr.cell? ⟨w.heap.size, 1, none⟩ = some (.int .i64 nx.z) ∧ wr.cell? ⟨w.heap.size, 2, none⟩ = some (.int .i64 nx.h) := ⟨HX.out.cell rfl, HX.out.cell rfl, HX.out.cell rfl⟩
      go_wp2_with (refine wpList_store_part rfl 32 (.tmp 41) (.tmp 39) rfl a 3 rfl (scells nx) rfl HDS.out.blk (by simp [slc, scells]) size_stg3 (by intro u hu; simp [scells] at hu; rcases hu with rfl | rfl | rfl <;> rfl) ?_; intro w2 hB2 ho2)
      go_ret
      have haJ : J a := (H.out.sm.own a).2 rfl
      have haF : ¬ F' a := fun hF => by
        rcases HI.out.grow a hF with h1 | h1
        · exact H.out.dis a h1 haJ
        · have := H.out.sm.blk.lt; omega
      have hk2 : Keep (fun i => i = a) wr w2 := Keep.only ho2.out rfl
      rw [HRR.out]
      refine ⟨rfl, F', J, HI.out.dk.keep hk2 (fun i hF (e : i = a) => haF (e ▸ hF)), ⟨?_, H.out.sm.own, ?_, ?_⟩, fun i hF hj => haF ((H.out.sm.own i).1 hj ▸ hF), ?_, fun i hi => (HI.out.grow i hi).imp .inl id, fun i hi => .inl (.inr hi)⟩
      · have hB := hB2.out
        rw [show splice (slc g t) 3 (scells nx) = slc g (became t hb nx 0) from rfl] at hB
        exact hB
      · exact HN.out.2
      · exact HN.out.1
      · exact (HI.out.keep.mono (fun _ _ h => Or.inl h)).trans (hk2.mono (G := fun i => F i ∨ J i) fun i _ (e : i = a) => .inr (e ▸ haJ)) fun i hi => .inl hi
end Go.Proofs.Ythgmocipiknfpaa.StgN
