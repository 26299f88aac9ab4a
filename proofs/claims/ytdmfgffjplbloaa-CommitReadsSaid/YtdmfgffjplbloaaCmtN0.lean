/- A log as it lies in memory; the program's small functions on it: where a copy stands, a copy written and flushed, a log without a record. Conditions: log and disk lie as the facts say; numbers of 64 bits. -/
import Derived.Test.YtdmfgffjplbloaaJ03
import Derived.Test.YtdmfgffjplbloaaJ08
import Derived.Test.YtdmfgffjplbloaaPlaN
import Derived.BigQuiet
import Derived.Deep.RegionHeld3
import Derived.StillTailTactics
namespace Go.Proofs.Ytdmfgffjplbloaa.CmtN
open Go.RowKit Go.Proofs.Ytdmfgffjplbloaa.Kit Go.Proofs.Ytdmfgffjplbloaa.Byt Go.Proofs.Ytdmfgffjplbloaa.Mem Go.Proofs.Ytdmfgffjplbloaa.DskA Go.Proofs.Ytdmfgffjplbloaa.DskC Go.Proofs.Ytdmfgffjplbloaa.DskD Go.Proofs.Ytdmfgffjplbloaa.DskE Go.Proofs.Ytdmfgffjplbloaa.DskF Go.Proofs.Ytdmfgffjplbloaa.RecM Go.Proofs.Ytdmfgffjplbloaa.CmtM Go.Proofs.Ytdmfgffjplbloaa.StgM Go.Proofs.Ytdmfgffjplbloaa.PlaM
open Go.Proofs.Ytdmfgffjplbloaa.RecA (rval rcells rok)

/-- The cells of a log of the disk at g. -/
def lgc (g : Nat) (l : Lg) : List Value := [.pointer (some ⟨g, 0, none⟩), .int .i64 (l.p : Nat), .int .i64 l.r.p, .int .i64 l.r.q, .int .i64 l.r.a, .int .i64 l.r.c, .int .i64 l.r.l, .int .i64 l.r.b, .int .i64 (l.i : Nat)]
/-- A log at address a, of the disk at g; J is what it may write. -/
structure Lm (w : World) (J : Nat → Prop) (a g : Nat) (l : Lg) : Prop where
  blk : Blk w a 61 (lgc g l)
  own : ∀ i, J i ↔ i = a
  ok : rok l.r
theorem Lm.keep {w w' : World} {J G : Nat → Prop} {a g : Nat} {l : Lg} (h : Lm w J a g l) (k : Keep G w w') (hd : ∀ i, J i → ¬ G i) : Lm w' J a g l :=
  ⟨k.blk h.blk (hd a ((h.own a).2 rfl)), h.own, h.ok⟩
theorem Lm.lt {w : World} {J : Nat → Prop} {a g : Nat} {l : Lg} (h : Lm w J a g l) : ∀ i, J i → i < w.heap.size := fun i hi => by
  rw [(h.own i).1 hi]
  exact h.blk.lt
theorem Lm.below {w w' : World} {J : Nat → Prop} {a g : Nat} {l : Lg} (h : Lm w J a g l) (hb : Below w.heap.size w w') : Lm w' J a g l := h.keep (Keep.of_below (F := fun _ => False) hb) fun _ _ h => h
theorem Lm.cells {w : World} {J : Nat → Prop} {a g : Nat} {l : Lg} (h : Lm w J a g l) : w.cell? ⟨a, 0, none⟩ = some (.pointer (some ⟨g, 0, none⟩)) ∧ w.cell? ⟨a, 1, none⟩ = some (.int .i64 (l.p : Nat)) ∧ w.cell? ⟨a, 3, none⟩ = some (.int .i64 l.r.q) ∧ w.cell? ⟨a, 8, none⟩ = some (.int .i64 (l.i : Nat)) :=
  ⟨h.blk.cell rfl, h.blk.cell rfl, h.blk.cell rfl, h.blk.cell rfl⟩
/-- A disk, and a log on it. -/
structure LS (w : World) (F J : Nat → Prop) (g a : Nat) (s : St) (l : Lg) : Prop where
  dk : Dk w F g s
  lm : Lm w J a g l
  dis : ∀ i, F i → ¬ J i
  most : s.L.length ≤ 1000000
  fits : l.p ≤ 3 ∧ 10 * l.p + 2 ≤ s.S.length
  rec_ : l.r.right ∧ l.r.p = l.p ∧ l.i ≤ 1
/-- What a call on the log leaves. -/
def Lgo (F J : Nat → Prop) (g a : Nat) (w : World) (v : Value) (s' : St) (l' : Lg) (e : Ending) (w' : World) : Prop :=
  e = .returned v ∧ ∃ F' J', Dk w' F' g s' ∧ Lm w' J' a g l' ∧ (∀ i, F' i → ¬ J' i) ∧ Keep (fun i => F i ∨ J i) w w' ∧ (∀ i, F' i → (F i ∨ J i) ∨ w.heap.size ≤ i) ∧ (∀ i, J' i → (F i ∨ J i) ∨ w.heap.size ≤ i)

theorem rC_at {p k : Nat} (hp : p ≤ 3) (hk : k ≤ 1) : rC (p : Int) (k : Int) = ((10 * p + k : Nat) : Int) := by
  unfold rC fnd
  rw [if_pos (by omega), if_neg (by omega)]
  omega
theorem pcommit_at {p k : Nat} (hp : p ≤ 3) (hk : k ≤ 1) (w : World) : Calls Try.prog 39 #[.int .i64 (p : Nat), .int .i64 (k : Nat)] w fun e w' => e = .returned (.tuple #[.int .i64 ((10 * p + k : Nat) : Int), .bool true]) ∧ Below w.heap.size w w' := by
  have h := PlaN.commit_any (p : Int) (k : Int) w ⟨by omega, by omega⟩ ⟨by omega, by omega⟩
  rw [rC_at hp hk, PlaN.tv_pos (by omega), PlaN.tb_pos (by omega)] at h
  exact h

section
variable {w : World} {F J : Nat → Prop} {a g : Nat} {s : St} {l : Lg}
set_option maxRecDepth 100000 in
set_option maxHeartbeats 800000 in
theorem sector_any (h : Lm w J a g l) (hp : l.p ≤ 3) {i : Nat} (hi : i ≤ 1) : Calls Try.prog 40 #[.pointer (some ⟨a, 0, none⟩), .int .i64 (i : Nat)] w fun e w' => e = .returned (.int .i64 ((10 * l.p + i : Nat) : Int)) ∧ Below w.heap.size w w' := by
  obtain ⟨_, c1, _, _⟩ := h.cells
  have hlt := h.blk.lt
  have HP := Lib.hid (fun w' => pcommit_at hp hi w')
  obtain ⟨q, hq⟩ : ∃ q, q = 10 * l.p + i := ⟨_, rfl⟩
  obtain ⟨p, hpp⟩ : ∃ p, p = l.p := ⟨_, rfl⟩
  rw [← hq] at HP ⊢
  rw [← hpp] at HP c1
  clear h hp hi hq hpp
  go_enter Try.func40, Try.ntmps40
  go_wp2_with (go_at_call 39; refine (HP.out _).mono ?_; rintro e w1 ⟨rfl, hb1⟩; have HB := Lib.hid hb1; clear hb1)
  go_ret
  exact ⟨rfl, HB.out⟩
theorem put1_a {s : St} (i : Nat) (bs : List Nat) (h : (spend s).1 = false) : put1 s i bs = ((spend s).2, 8) := by
  unfold put1
  rw [if_pos h]
theorem put1_b {s : St} (i : Nat) (bs : List Nat) (h : (spend s).1 = true) (h2 : (spend (wrote (spend s).2 i bs)).1 = false) : put1 s i bs = ((spend (wrote (spend s).2 i bs)).2, 8) := by
  unfold put1
  rw [if_neg (by rw [h]; simp), if_pos h2]
theorem put1_c {s : St} (i : Nat) (bs : List Nat) (h : (spend s).1 = true) (h2 : (spend (wrote (spend s).2 i bs)).1 = true) : put1 s i bs = (lay (fun _ => true) (spend (wrote (spend s).2 i bs)).2, 0) := by
  unfold put1
  rw [if_neg (by rw [h]; simp), if_neg (by rw [h2]; simp)]
theorem Got.from {w2 : World} {v : Value} {s' : St} {e : Ending} {w' : World} (hb : Below w.heap.size w w2) (h : Got F g w2 v s' e w') : Got F g w v s' e w' := by
  obtain ⟨he, F2, hD, hk2, hf2⟩ := h
  refine ⟨he, F2, hD, (Keep.of_below hb).trans hk2 (fun i hi => .inl hi), fun k h => ?_⟩
  rcases hf2 k h with h | h
  · exact .inl h
  · exact .inr (Nat.le_trans hb.size h)
set_option maxRecDepth 100000 in
set_option maxHeartbeats 3200000 in
/-- A copy written, and flushed. -/
theorem write_any (hD : Dk w F g s) (h : Lm w J a g l) (hF : ¬ F a) (hp : l.p ≤ 3) {i : Nat} (hi : i ≤ 1) (hf : 10 * l.p + 2 ≤ s.S.length) {A : Option Addr} {c : Nat} {bs : List Nat} (hR : Rd w A 64 c (u8n bs)) (hA : ∀ b o, A = some ⟨b, o, none⟩ → ¬ F b) (hL : s.L.length ≤ 1000000) :
    Calls Try.prog 25 #[.pointer (some ⟨a, 0, none⟩), .int .i64 (i : Nat), .slice A 64 c] w (Got F g w (.int .i64 (put1 s (10 * l.p + i) bs).2) (put1 s (10 * l.p + i) bs).1) := by
  obtain ⟨c0, _, _, _⟩ := h.cells
  have hlt := h.blk.lt
  have HS := Lib.hid (sector_any (h.below ((Below.refl w.heap.size w).drew)) hp hi)
  have H := Lib.hid h
  have HF := Lib.hid hF
  have hq : 10 * l.p + i < s.S.length := by omega
  obtain ⟨q, hqq⟩ : ∃ q, q = 10 * l.p + i := ⟨_, rfl⟩
  rw [← hqq] at HS hq ⊢
  have HQ := Lib.hid hq
  clear h hF hp hi hf hq hqq
  cases hs : (spend s).1 with
  | false =>
    have HW := Lib.hid (fun w' (hb : Below w.heap.size w w') => write_down F g s (q : Int) A c w' (hD.below hb) (by simp [inB, HQ.out]) hs)
    rw [put1_a q bs hs]
    clear hs hD hR hA hL
    go_enter Try.func25, Try.ntmps25
    go_wp2_with fail
    go_region_held3 (fun w' => w'.cell? ⟨a, 0, none⟩ = some (.pointer (some ⟨g, 0, none⟩)))
      (first
       | go_keep
       | (rw [hb1.cell (by simpa using hlt)]; assumption)
       | (rw [World.cell?_of_block (HK2.out.block a hl1 HF.out)]; assumption))
      ((first
        | (have hq := HB1; clear hq; go_at_call 16; refine (HW.out _ HB1.out).mono ?_; rintro e w2 ⟨rfl, F1, hD1, hk1, hf1⟩; have HD2 := Lib.hid hD1; have HK2 := Lib.hid hk1; have HF2 := Lib.hid hf1; clear hD1 hk1 hf1)
        | (go_at_call 40; refine HS.out.mono ?_; rintro e w1 ⟨rfl, hb1⟩; have HB1 := Lib.hid (show Below w.heap.size w w1 from ((Below.refl w.heap.size w).drew).trans hb1); have hl1 : a < w1.heap.size := Nat.lt_of_lt_of_le hlt HB1.out.size)))
    go_wp2
    go_ret
    exact Got.from HB1.out ⟨rfl, F1, HD2.out, HK2.out, HF2.out⟩
  | true =>
    have HW := Lib.hid (fun w' (hb : Below w.heap.size w w') => write_ok F g s q A c bs w' (hD.below hb) HQ.out (hR.below hb) hA hs (by omega))
    have HSP := Lib.hid hs
    have hm := Lib.hid hL
    clear hs hD hR hA hL
    go_enter Try.func25, Try.ntmps25
    go_wp2_with fail
    go_region_held3 (fun w' => w'.cell? ⟨a, 0, none⟩ = some (.pointer (some ⟨g, 0, none⟩)))
      (first
       | go_keep
       | (rw [hb1.cell (by simpa using hlt)]; assumption)
       | (rw [World.cell?_of_block (HK2.out.block a hl1 HF.out)]; assumption))
      ((first
        | (have hq := HB1; clear hq; go_at_call 16; refine (HW.out _ HB1.out).mono ?_; rintro e w2 ⟨rfl, F1, hD1, hk1, hf1⟩; have HD2 := Lib.hid hD1; have HK2 := Lib.hid hk1; have HF2 := Lib.hid hf1; clear hD1 hk1 hf1)
        | (go_at_call 40; refine HS.out.mono ?_; rintro e w1 ⟨rfl, hb1⟩; have HB1 := Lib.hid (show Below w.heap.size w w1 from ((Below.refl w.heap.size w).drew).trans hb1); have hl1 : a < w1.heap.size := Nat.lt_of_lt_of_le hlt HB1.out.size)))
    have hw : ({ (spend s).2 with L := s.L ++ [(q, bs)] } : St) = wrote (spend s).2 q bs := by
      unfold wrote
      rw [(spend_S s).2]
    have HD3 := Lib.hid (show Dk w2 F1 g (wrote (spend s).2 q bs) from hw ▸ HD2.out)
    have d0 : w2.cell? ⟨a, 0, none⟩ = some (.pointer (some ⟨g, 0, none⟩)) := (World.cell?_of_block (HK2.out.block a hl1 HF.out)).trans ((HB1.out.cell hlt).trans c0)
    have HL := Lib.hid (show (wrote (spend s).2 q bs).L.length ≤ 1000000000 from by
      show ((spend s).2.L ++ [(q, bs)]).length ≤ _
      have := hm.out
      rw [(spend_S s).2, List.length_append]
      show s.L.length + 1 ≤ _
      omega)
    clear hw HD2 hm c0
    cases hs2 : (spend (wrote (spend s).2 q bs)).1 with
    | false =>
      have HFL := Lib.hid (flush_down F1 g _ w2 HD3.out hs2)
      have HP := Lib.hid (put1_b q bs HSP.out hs2)
      clear hs2
      go_wp2_with (go_at_call 41; refine HFL.out.mono ?_; rintro e w3 ⟨rfl, F2, hD2, hk2, hf2⟩; have HG := Lib.hid (Got.trans HK2.out HF2.out (v := .int .i64 8) ⟨rfl, F2, hD2, hk2, hf2⟩); clear hD2 hk2 hf2)
      go_ret
      rw [HP.out]
      exact Got.from HB1.out HG.out
    | true =>
      have HFL := Lib.hid (flush_ok F1 g _ w2 HD3.out hs2 HL.out)
      have HP := Lib.hid (put1_c q bs HSP.out hs2)
      clear hs2
      go_wp2_with (go_at_call 41; refine HFL.out.mono ?_; rintro e w3 ⟨rfl, F2, hD2, hk2, hf2⟩; have HG := Lib.hid (Got.trans HK2.out HF2.out (v := .int .i64 0) ⟨rfl, F2, hD2, hk2, hf2⟩); clear hD2 hk2 hf2)
      go_ret
      rw [HP.out]
      exact Got.from HB1.out HG.out
end

/-! ### a log without a record -/
theorem rC_1 (p : Int) : (rC p 1 = 10 * p + 1 ∧ 0 ≤ p ∧ p ≤ 3) ∨ (rC p 1 = -1 ∧ ¬ (0 ≤ p ∧ p ≤ 3)) := by
  unfold rC fnd
  repeat (first | omega | split)
theorem logOf_nil (p : Int) (w : World) : Calls Try.prog 24 #[.pointer none, .int .i64 p] w fun e w' => e = .returned (.tuple #[.pointer none, .int .i64 7]) ∧ w = w' := by
  go_enter Try.func24, Try.ntmps24
  go_wp2
  go_ret2
  exact ⟨rfl, rfl⟩
set_option maxRecDepth 100000 in
set_option maxHeartbeats 1600000 in
theorem logOf_range (F : Nat → Prop) (g : Nat) (s : St) (p : Int) (w : World) (hD : Dk w F g s) (hp : RecA.n64 p) (hr : ¬ (0 ≤ p ∧ p ≤ 3 ∧ 10 * p + 2 ≤ s.S.length)) :
    Calls Try.prog 24 #[.pointer (some ⟨g, 0, none⟩), .int .i64 p] w fun e w' => e = .returned (.tuple #[.pointer none, .int .i64 3]) ∧ Below w.heap.size w w' := by
  have H2 := Lib.hid (fun w' => PlaN.commit_any p 1 w' hp ⟨by omega, by omega⟩)
  have H3 := Lib.hid (fun w' (h : Below w.heap.size w w') => len_any F g s w' (hD.below h))
  have hm := hD.ok.most
  rcases rC_1 p with ⟨e, h0⟩ | ⟨e, h0⟩
  · rw [e, PlaN.tv_pos (by omega), PlaN.tb_pos (by omega)] at H2
    obtain ⟨q, hq⟩ : ∃ q, q = 10 * p + 1 := ⟨_, rfl⟩
    rw [← hq] at H2
    have hge : (s.S.length : Int) ≤ q := by omega
    obtain ⟨N, hN⟩ : ∃ N, N = s.S.length := ⟨_, rfl⟩
    rw [← hN] at H3 hge
    clear e h0 hq hD hp hr hN hm
    go_enter Try.func24, Try.ntmps24
    go_wp2_with (first
      | (go_at_call 39; refine (H2.out _).mono ?_; rintro e w2 ⟨rfl, hb2⟩; have L2 := Lib.hid hb2; clear hb2)
      | (go_at_call 21; refine (H3.out _ L2.out).mono ?_; rintro e w3 ⟨rfl, rfl⟩))
    go_ret2
    exact ⟨rfl, L2.out⟩
  · rw [e, PlaN.tv_neg (by omega), PlaN.tb_neg (by omega)] at H2
    clear e h0 hD hp hr hm
    go_enter Try.func24, Try.ntmps24
    go_wp2_with (first
      | (go_at_call 39; refine (H2.out _).mono ?_; rintro e w2 ⟨rfl, hb2⟩; have L2 := Lib.hid hb2; clear hb2))
    go_ret2
    exact ⟨rfl, L2.out⟩
theorem rok_none : rok Rc.none := ⟨⟨by decide, by decide⟩, ⟨by decide, by decide⟩, ⟨by decide, by decide⟩, ⟨by decide, by decide⟩, ⟨by decide, by decide⟩, ⟨by decide, by decide⟩⟩
set_option maxRecDepth 100000 in
set_option maxHeartbeats 1600000 in
theorem logOf_any (F : Nat → Prop) (g : Nat) (s : St) (p : Nat) (w : World) (hD : Dk w F g s) (hp : p ≤ 3) (hf : 10 * p + 2 ≤ s.S.length) :
    Calls Try.prog 24 #[.pointer (some ⟨g, 0, none⟩), .int .i64 (p : Nat)] w fun e w' => ∃ a, e = .returned (.tuple #[.pointer (some ⟨a, 0, none⟩), .int .i64 0]) ∧ w.heap.size ≤ a ∧ Lm w' (fun i => i = a) a g ⟨p, Rc.none, 0⟩ ∧ Below w.heap.size w w' := by
  have H2 := Lib.hid (fun w' => pcommit_at (p := p) (k := 1) hp (by omega) w')
  have H3 := Lib.hid (fun w' (h : Below w.heap.size w w') => len_any F g s w' (hD.below h))
  have hm := hD.ok.most
  obtain ⟨q, hq⟩ : ∃ q, q = 10 * p + 1 := ⟨_, rfl⟩
  rw [← hq] at H2
  have hge : q < s.S.length := by omega
  obtain ⟨N, hN⟩ : ∃ N, N = s.S.length := ⟨_, rfl⟩
  rw [← hN] at H3 hge hm
  clear hq hD hp hf hN
  go_enter Try.func24, Try.ntmps24
  go_wp2_with (first
    | (go_at_call 39; refine (H2.out _).mono ?_; rintro e w2 ⟨rfl, hb2⟩; have L2 := Lib.hid hb2; clear hb2)
    | (go_at_call 21; refine (H3.out _ L2.out).mono ?_; rintro e w3 ⟨rfl, rfl⟩))
  go_ret2
  exact ⟨w2.heap.size, rfl, L2.out.size, ⟨Blk.new w2 61 (lgc g ⟨p, Rc.none, 0⟩), fun _ => Iff.rfl, rok_none⟩, L2.out.alloc L2.out.size _⟩

/-! ### the record told -/
theorem size_rc6 : (Try.prog.info? 31).map (·.size) = some 6 := by kernel_rfl
set_option maxRecDepth 100000 in
set_option maxHeartbeats 1600000 in
theorem latest_any (J : Nat → Prop) (g a : Nat) (l : Lg) (w : World) (h : Lm w J a g l) :
    Calls Try.prog 15 #[.pointer (some ⟨a, 0, none⟩)] w fun e w' => e = .returned (rval l.r) ∧ Below w.heap.size w w' := by
  have L0 := Lib.hid (show Below w.heap.size w (w.alloc (.cells (rcells Rc.none).toArray 31)) from (Below.refl _ _).alloc (Nat.le_refl _) _)
  have HB0 := Lib.hid (show Blk (w.alloc (.cells (rcells Rc.none).toArray 31)) w.heap.size 31 (rcells Rc.none) from Blk.new w _ _)
  have HL := Lib.hid (h.below L0.out).blk
  clear h
  go_enter Try.func15, Try.ntmps15
  go_wp2_with (first
    | (refine wpList_load_part rfl 31 _ rfl a 2 rfl (rcells l.r) HL.out rfl Try.underlying31 rfl size_rc6 ?_)
    | (refine wpList_store_blk rfl 31 (.tmp 2) (.tmp 9) rfl w.heap.size rfl (rcells l.r) rfl HB0.out rfl size_rc6 (RecN.one_r _) ?_; intro w9 hB9 ho9))
  have e0 := hB9.out.cell (i := 0) rfl
  have e1 := hB9.out.cell (i := 1) rfl
  have e2 := hB9.out.cell (i := 2) rfl
  have e3 := hB9.out.cell (i := 3) rfl
  have e4 := hB9.out.cell (i := 4) rfl
  have e5 := hB9.out.cell (i := 5) rfl
  refine bodyPost_ret (v := rval l.r) (by simp [results, Try.results15, go_sem, e0, e1, e2, e3, e4, e5]) rfl ?_
  exact ⟨rfl, ho9.out.below L0.out (Nat.le_refl _) L0.out.size⟩
set_option maxRecDepth 100000 in
theorem latest_nil (w : World) : Calls Try.prog 15 #[.pointer none] w fun e w' => e = .returned (rval Rc.none) ∧ Below w.heap.size w w' := by
  have L0 := Lib.hid (show Below w.heap.size w (w.alloc (.cells (rcells Rc.none).toArray 31)) from (Below.refl _ _).alloc (Nat.le_refl _) _)
  have HB0 := Lib.hid (show Blk (w.alloc (.cells (rcells Rc.none).toArray 31)) w.heap.size 31 (rcells Rc.none) from Blk.new w _ _)
  go_enter Try.func15, Try.ntmps15
  go_wp2_with (refine wpList_store_blk rfl 31 (.tmp 2) (.tmp 5) rfl w.heap.size rfl (rcells Rc.none) rfl HB0.out rfl size_rc6 (RecN.one_r _) ?_; intro w9 hB9 ho9)
  have e0 := hB9.out.cell (i := 0) rfl
  have e1 := hB9.out.cell (i := 1) rfl
  have e2 := hB9.out.cell (i := 2) rfl
  have e3 := hB9.out.cell (i := 3) rfl
  have e4 := hB9.out.cell (i := 4) rfl
  have e5 := hB9.out.cell (i := 5) rfl
  refine bodyPost_ret (v := rval Rc.none) (by simp [results, Try.results15, go_sem, e0, e1, e2, e3, e4, e5]) rfl ?_
  exact ⟨rfl, ho9.out.below L0.out (Nat.le_refl _) L0.out.size⟩
end Go.Proofs.Ytdmfgffjplbloaa.CmtN
