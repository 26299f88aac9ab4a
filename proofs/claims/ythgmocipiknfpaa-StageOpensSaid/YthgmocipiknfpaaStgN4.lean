/- A slot begun, cleared, and asked for its stage, by the program; and one that is not there. Conditions: disk and slot lie as the facts say; numbers of 64 bits. -/
import Derived.Test.YthgmocipiknfpaaStgN3
namespace Go.Proofs.Ythgmocipiknfpaa.StgN
open Go.RowKit Go.Proofs.Ythgmocipiknfpaa.Kit Go.Proofs.Ythgmocipiknfpaa.Byt Go.Proofs.Ythgmocipiknfpaa.Mem Go.Proofs.Ythgmocipiknfpaa.DskA Go.Proofs.Ythgmocipiknfpaa.DskC Go.Proofs.Ythgmocipiknfpaa.DskD Go.Proofs.Ythgmocipiknfpaa.DskE Go.Proofs.Ythgmocipiknfpaa.DskF Go.Proofs.Ythgmocipiknfpaa.RecM Go.Proofs.Ythgmocipiknfpaa.StgM
open Go.Proofs.Ythgmocipiknfpaa.RecA (sval scells sok n64)
open Go.Proofs.Ythgmocipiknfpaa.DskB (zs zs_len)

theorem put1_8 (s : St) (i : Nat) (bs : List Nat) : (put1 s i bs).2 = 0 ∨ (put1 s i bs).2 = 8 := by
  unfold put1
  split
  · exact .inr rfl
  · split
    · exact .inr rfl
    · exact .inl rfl
theorem pQ_one (s : St) (i : Nat) (bs : List Nat) : pQ s [(i, bs)] = put1 s i bs := by
  show (if (put1 s i bs).2 = 0 then ((put1 s i bs).1, 0) else ((put1 s i bs).1, 8)) = _
  rcases put1_8 s i bs with h | h
  · rw [if_pos h]; exact Prod.ext rfl h.symm
  · rw [if_neg (by omega)]; exact Prod.ext rfl h.symm
theorem pB_eq {s : St} {t : Slt} {n z : Int} (h : (fresh n z).right) : pB s t n z = ((put1 s t.at_ (shut (fresh n z).bytes)).1, became t true (fresh n z) (put1 s t.at_ (shut (fresh n z).bytes)).2, (put1 s t.at_ (shut (fresh n z).bytes)).2) := by
  unfold pB became
  rw [if_pos h]
  rcases put1_8 s t.at_ (shut (fresh n z).bytes) with h | h
  · rw [if_pos h, if_pos h, h]
  · rw [if_neg (by omega), if_neg (by omega), h]
theorem pC_eq (s : St) (t : Slt) : pC s t = ((put1 s t.at_ (zs 64)).1, became t false Sg.none (put1 s t.at_ (zs 64)).2, (put1 s t.at_ (zs 64)).2) := by
  unfold pC became
  rcases put1_8 s t.at_ (zs 64) with h | h
  · rw [if_pos h, if_pos h, h]
  · rw [if_neg (by omega), if_neg (by omega), h]
theorem n64_0 : n64 0 := ⟨by omega, by omega⟩

set_option maxRecDepth 100000 in
set_option maxHeartbeats 800000 in
theorem begin_any (F J : Nat → Prop) (g a : Nat) (s : St) (t : Slt) (n z : Int) (w : World) (h : DS w F J g a s t) (hn : n64 n) (hz : n64 z) :
    Calls Try.prog 12 #[.pointer (some ⟨a, 0, none⟩), .int .i64 n, .int .i64 z] w (Sgo F J g a w (.int .i64 (pB s t n z).2.2) (pB s t n z).1 (pB s t n z).2.1) := by
  have hT : Calls Try.prog 32 #[.pointer (some ⟨a, 0, none⟩), .agg #[.int .i64 n, .int .i64 z, .int .i64 0], .slice none 0 0] w (Sgo F J g a w (.int .i64 (pB s t n z).2.2) (pB s t n z).1 (pB s t n z).2.1) := by
    by_cases hr : (fresh n z).right
    · have hT := tell_any (Below.refl _ w) h (fresh n z) ⟨hn, hz, n64_0⟩ hr none 0 0 [] (by omega) (World.ownsRow_nil _ _ _ _) (fun e he => by cases he)
      rw [show List.map Stp.pair [] ++ [(t.at_, shut (fresh n z).bytes)] = [(t.at_, shut (fresh n z).bytes)] from rfl, pQ_one] at hT
      rw [pB_eq hr]
      exact hT
    · have hT := tell_no h (fresh n z) ⟨hn, hz, n64_0⟩ hr (.slice none 0 0)
      have e : pB s t n z = (s, t, 3) := by unfold pB; rw [if_neg hr]
      rw [e]
      exact hT
  have HT := Lib.hid hT
  clear hT h hn hz
  obtain ⟨R, hR⟩ : ∃ R, R = pB s t n z := ⟨_, rfl⟩
  rw [← hR] at HT ⊢
  clear hR
  go_enter Try.func12, Try.ntmps12
  go_wp2_with (go_at_call 32; refine HT.out.mono ?_; rintro e w1 ⟨rfl, hgo⟩; have HGO := Lib.hid hgo; clear hgo)
  go_ret
  exact ⟨rfl, HGO.out⟩
/-- Zeros in a block, and a step that lays them. -/
theorem clear_call {F J : Nat → Prop} {g a : Nat} {s : St} {t : Slt} {w w2 : World} (h : DS w F J g a s t) (hb : Below w.heap.size w w2) {zb : Nat} (hz : Blk w2 zb 5 (u8n (zs 64))) (hzb : w.heap.size ≤ zb) {ta : Nat} (hta : ta = t.at_) :
    Calls Try.prog 39 #[.pointer (some ⟨a, 0, none⟩), .agg #[.int .i64 0, .int .i64 0, .int .i64 0], .slice (some ⟨w2.heap.size, 0, none⟩) 1 1] (w2.alloc (.cells #[.int .i64 (ta : Nat), .slice (some ⟨zb, 0, none⟩) 64 64] 78)) (Sgo F J g a w (.int .i64 (pC s t).2.2) (pC s t).1 (pC s t).2.1) := by
  subst hta
  have hb3 : Below w.heap.size w (w2.alloc (.cells #[.int .i64 (t.at_ : Nat), .slice (some ⟨zb, 0, none⟩) 64 64] 78)) := hb.alloc hb.size _
  have hB := Blk.new w2 78 (stepc t.at_ (some ⟨zb, 0, none⟩) 64 64)
  have hlt := h.lt
  have hs := hb.size
  have hrd := (blk_rd hz (zs_len 64) (by omega)).alloc (.cells #[.int .i64 (t.at_ : Nat), .slice (some ⟨zb, 0, none⟩) 64 64] 78)
  have hS : Sts (w2.alloc (.cells #[.int .i64 (t.at_ : Nat), .slice (some ⟨zb, 0, none⟩) 64 64] 78)) F w2.heap.size 1 [⟨t.at_, some ⟨zb, 0, none⟩, 64, zs 64⟩] s.S.length := by
    refine ⟨rfl, fun j u hu => hB.cell hu, fun hF => ?_, by rw [World.size_alloc]; omega, fun e he => ?_⟩
    · have := hlt _ (.inl hF); omega
    · rw [List.mem_singleton.1 he]
      refine ⟨hrd, fun b o hA hF => ?_, ?_⟩
      · have h1 := hlt b (.inl hF)
        injection hA with hA
        injection hA with hA _
        omega
      · have := h.fits.2.2
        show t.at_ < _
        omega
  have hJ : ¬ J w2.heap.size := fun hj => by have := hlt _ (.inr hj); omega
  have hT := become_any (h.below hb3) Sg.none false ⟨n64_0, n64_0, n64_0⟩ ⟨fun e => (by cases e), fun e => absurd rfl e⟩ w2.heap.size 1 1 _ (by omega) hS hJ (fun e he q o hA hj => by
    rw [List.mem_singleton.1 he] at hA
    have h1 := hlt q (.inr hj)
    injection hA with hA
    injection hA with hA _
    omega)
  rw [show List.map Stp.pair [⟨t.at_, some ⟨zb, 0, none⟩, 64, zs 64⟩] = [(t.at_, zs 64)] from rfl, pQ_one] at hT
  rw [pC_eq]
  exact hT.mono fun _ _ hg => Sgo.from hb3 hg
set_option maxRecDepth 100000 in
set_option maxHeartbeats 3200000 in
theorem clear_any (F J : Nat → Prop) (g a : Nat) (s : St) (t : Slt) (w : World) (h : DS w F J g a s t) :
    Calls Try.prog 15 #[.pointer (some ⟨a, 0, none⟩)] w (Sgo F J g a w (.int .i64 (pC s t).2.2) (pC s t).1 (pC s t).2.1) := by
  obtain ⟨Z, hZ⟩ : ∃ Z, Z = (u8n (zs 64)).toArray := ⟨_, rfl⟩
  have hmk := mk64
  simp only [← hZ] at hmk
  have H := Lib.hid h
  have HBZ := Lib.hid (show ∀ w' : World, Blk (w'.alloc (.cells Z 5)) w'.heap.size 5 (u8n (zs 64)) from fun w' => by rw [hZ]; exact Blk.new w' _ _)
  have La := Lib.hid (show Below w.heap.size w w.drew from (Below.refl w.heap.size w).drew)
  have Lb := Lib.hid (show Below w.heap.size w (w.alloc (.cells Z 5)).drew from ((Below.refl w.heap.size w).alloc (Nat.le_refl _) _).drew)
  obtain ⟨ta, hta⟩ : ∃ ta, ta = t.at_ := ⟨_, rfl⟩
  obtain ⟨R, hR⟩ : ∃ R, R = pC s t := ⟨_, rfl⟩
  have HCL := Lib.hid (show ∀ (w2 : World) (zb b2 : Nat), b2 = w2.heap.size → Below w.heap.size w w2 → Blk w2 zb 5 (u8n (zs 64)) → w.heap.size ≤ zb → Calls Try.prog 39 #[.pointer (some ⟨a, 0, none⟩), .agg #[.int .i64 0, .int .i64 0, .int .i64 0], .slice (some ⟨b2, 0, none⟩) 1 1] (w2.alloc (.cells #[.int .i64 (ta : Nat), .slice (some ⟨zb, 0, none⟩) 64 64] 78)) (Sgo F J g a w (.int .i64 R.2.2) R.1 R.2.1) from fun w2 zb b2 h0 h1 h2 h3 => by rw [hR, h0]; exact clear_call h h1 h2 h3 hta)
  have hAt : ∀ w' : World, Below w.heap.size w w' → Calls Try.prog 28 #[.pointer (some ⟨a, 0, none⟩)] w' fun e w'' => e = .returned (.int .i64 (ta : Nat)) ∧ Below w'.heap.size w' w'' := fun w' hw => by rw [hta]; exact stageAt_any (h.sm.below hw) h.fits.1 h.fits.2.1
  have HAa := Lib.hid (hAt w.drew La.out)
  have HAb := Lib.hid (hAt (w.alloc (.cells Z 5)).drew Lb.out)
  rw [← hR]
  clear h hZ hta hR hAt
  go_enter Try.func15, Try.ntmps15
  go_wp2_with fail
  go_region_law
    (rw [if_pos (by rfl)]; go_simp; first
     | (have hq := HC; clear hq; refine HC.out.mono ?_; rintro e w4 ⟨rfl, hgo⟩; have HGO := Lib.hid hgo; clear hgo; go_wp2_with fail)
     | ((with_reducible refine HAb.out.mono ?_); rintro e w2 ⟨rfl, hb2⟩; have L2 := Lib.hid (Lb.out.trans (hb2.mono Lb.out.size)); have HC := Lib.hid (HCL.out w2 w.heap.size w2.heap.size rfl L2.out (Blk.below (w := (w.alloc (.cells Z 5)).drew) (HBZ.out w) hb2) (Nat.le_refl _)); clear hb2; go_wp2_with fail)
     | ((with_reducible refine HAa.out.mono ?_); rintro e w2 ⟨rfl, hb2⟩; have L2 := Lib.hid (La.out.trans (hb2.mono La.out.size)); have HC := Lib.hid (HCL.out (w2.alloc (.cells Z 5)) w2.heap.size (w2.heap.size + 1) (World.size_alloc _ _).symm (L2.out.alloc L2.out.size _) (HBZ.out w2) L2.out.size); clear hb2; go_wp2_with fail))
  all_goals
    go_wp2
    go_ret
    exact ⟨rfl, HGO.out⟩

set_option maxRecDepth 100000 in
set_option maxHeartbeats 1600000 in
theorem stage_any (J : Nat → Prop) (g a : Nat) (t : Slt) (w : World) (h : Sm w J a g t) (_ : t.has = false → t.g = Sg.none) :
    Calls Try.prog 24 #[.pointer (some ⟨a, 0, none⟩)] w fun e w' => e = .returned (.tuple #[sval t.g, .bool t.has]) ∧ Below w.heap.size w w' := by
  have L0 := Lib.hid (show Below w.heap.size w (w.alloc (.cells #[.int .i64 0, .int .i64 0, .int .i64 0] 32)) from (Below.refl _ _).alloc (Nat.le_refl _) _)
  have HB0 := Lib.hid (show Blk (w.alloc (.cells #[.int .i64 0, .int .i64 0, .int .i64 0] 32)) w.heap.size 32 (scells Sg.none) from Blk.new w _ _)
  have HSM := Lib.hid (h.below L0.out)
  have HST := Lib.hid (fun w' (k : Sm w' J a g t) => staged_any k)
  obtain ⟨_, _, _, c3, c4, c5⟩ := HSM.out.cells
  have hlt := HSM.out.blk.lt
  clear h
  obtain ⟨w0, hw0⟩ : ∃ w0, w0 = w.alloc (.cells #[.int .i64 0, .int .i64 0, .int .i64 0] 32) := ⟨_, rfl⟩
  rw [← hw0] at L0 HB0 HSM c3 c4 c5 hlt
  have HW0 := Lib.hid hw0
  clear hw0
  have HSD := Lib.hid (show Sm w0.drew J a g t from HSM.out.below ((Below.refl w0.heap.size w0).drew))
  go_enter Try.func24, Try.ntmps24
  go_wp2_with fail
  rw [← HW0.out]
  go_still_tail 6, (by kernel_rfl)
  refine wpStill_step (fun K hK => ?_)
  go_simp
  refine ⟨_, (HST.out _ HSD.out).mono (fun e w' h => ⟨h.1, h.2.symm⟩), hK _ ?_⟩
  clear hK K
  refine wpStill_nil ?_
  change wpList _ _ _ _ _ w0.drew
  have HBD := Lib.hid (show Blk w0.drew w.heap.size 32 (scells Sg.none) from HB0.out)
  have LD := Lib.hid (L0.out.trans ((Below.refl w0.heap.size w0).drew.mono L0.out.size))
  go_wp2_with (refine wpList_store_blk rfl 32 (.tmp 2) (.tmp 10) rfl w.heap.size rfl (scells t.g) rfl HBD.out rfl size_stg3 (by intro u hu; simp [scells] at hu; rcases hu with rfl | rfl | rfl <;> rfl) ?_; intro w2 hB2 ho2)
  have e0 := hB2.out.cell (i := 0) rfl
  have e1 := hB2.out.cell (i := 1) rfl
  have e2 := hB2.out.cell (i := 2) rfl
  refine bodyPost_ret (v := .tuple #[sval t.g, .bool t.has]) (by simp [results, Try.results24, go_sem, e0, e1, e2]) rfl ?_
  exact ⟨rfl, ho2.out.below LD.out (Nat.le_refl _) LD.out.size⟩

/-! ### a slot that is not there -/
theorem begin_nil (n z : Int) (w : World) : Calls Try.prog 12 #[.pointer none, .int .i64 n, .int .i64 z] w fun e w' => e = .returned (.int .i64 7) ∧ Below w.heap.size w w' := by
  go_enter Try.func12, Try.ntmps12
  go_wp2
  go_ret
  exact ⟨rfl, Below.refl _ _⟩
theorem put_nil (n no : Int) (D : Option Addr) (m d : Nat) (w : World) : Calls Try.prog 13 #[.pointer none, .int .i64 n, .int .i64 no, .slice D m d] w fun e w' => e = .returned (.int .i64 7) ∧ Below w.heap.size w w' := by
  go_enter Try.func13, Try.ntmps13
  go_wp2
  go_ret
  exact ⟨rfl, Below.refl _ _⟩
theorem clear_nil (w : World) : Calls Try.prog 15 #[.pointer none] w fun e w' => e = .returned (.int .i64 7) ∧ Below w.heap.size w w' := by
  go_enter Try.func15, Try.ntmps15
  go_wp2
  go_ret
  exact ⟨rfl, Below.refl _ _⟩
theorem bytes_nil (w : World) : Calls Try.prog 23 #[.pointer none] w fun e w' => e = .returned (.tuple #[.slice none 0 0, .int .i64 7]) ∧ Below w.heap.size w w' := by
  go_enter Try.func23, Try.ntmps23
  go_wp2
  go_ret2
  exact ⟨rfl, Below.refl _ _⟩
set_option maxRecDepth 100000 in
theorem stage_nil (w : World) : Calls Try.prog 24 #[.pointer none] w fun e w' => e = .returned (.tuple #[sval Sg.none, .bool false]) ∧ Below w.heap.size w w' := by
  have L0 := Lib.hid (show Below w.heap.size w (w.alloc (.cells #[.int .i64 0, .int .i64 0, .int .i64 0] 32)) from (Below.refl _ _).alloc (Nat.le_refl _) _)
  have HB0 := Lib.hid (show Blk (w.alloc (.cells #[.int .i64 0, .int .i64 0, .int .i64 0] 32)) w.heap.size 32 (scells Sg.none) from Blk.new w _ _)
  go_enter Try.func24, Try.ntmps24
  go_wp2_with (refine wpList_store_blk rfl 32 (.tmp 2) (.tmp 6) rfl w.heap.size rfl (scells Sg.none) rfl HB0.out rfl size_stg3 (by intro u hu; simp [scells] at hu; rcases hu with rfl | rfl | rfl <;> rfl) ?_; intro w2 hB2 ho2)
  have e0 := hB2.out.cell (i := 0) rfl
  have e1 := hB2.out.cell (i := 1) rfl
  have e2 := hB2.out.cell (i := 2) rfl
  refine bodyPost_ret (v := .tuple #[sval Sg.none, .bool false]) (by simp [results, Try.results24, go_sem, e0, e1, e2]) rfl ?_
  exact ⟨rfl, ho2.out.below L0.out (Nat.le_refl _) L0.out.size⟩
end Go.Proofs.Ythgmocipiknfpaa.StgN
