/- A slot as it lies in memory; the program's small functions on it: where its stage stands, whether it has one, whether it is whole. Conditions: the slot lies as the facts say; numbers of 64 bits. A sector of a slot read as a step; steps written one behind the other, each flushed. Conditions: disk and slot lie as the facts say; what is written reads as the bytes that are named, and isn't the disk's. -/
import Derived.Test.YthgmocipiknfpaaJ03
import Derived.Test.YthgmocipiknfpaaJ08
import Derived.Test.YthgmocipiknfpaaPlaN
import Derived.Test.YthgmocipiknfpaaJ09
import Derived.Test.YthgmocipiknfpaaJ02
import Derived.Laws.StructEq
import Derived.BigQuiet
import Derived.Deep.RegionHeld3
import Derived.StillTailTactics
namespace Go.Proofs.Ythgmocipiknfpaa.StgN
open Go.RowKit Go.Proofs.Ythgmocipiknfpaa.Kit Go.Proofs.Ythgmocipiknfpaa.Byt Go.Proofs.Ythgmocipiknfpaa.Mem Go.Proofs.Ythgmocipiknfpaa.DskA Go.Proofs.Ythgmocipiknfpaa.DskE Go.Proofs.Ythgmocipiknfpaa.RecM Go.Proofs.Ythgmocipiknfpaa.StgM Go.Proofs.Ythgmocipiknfpaa.PlaM
open Go.Proofs.Ythgmocipiknfpaa.RecA (sval scells sok)
open Go.Proofs.Ythgmocipiknfpaa.BitM (hb)
open Go.Proofs.Ythgmocipiknfpaa.BitA (miss lim)

/-- The cells of a slot of the disk at g. -/
def slc (g : Nat) (t : Slt) : List Value := [.pointer (some ⟨g, 0, none⟩), .int .i64 (t.p : Nat), .int .i64 (t.k : Nat), .int .i64 t.g.s, .int .i64 t.g.z, .int .i64 t.g.h]
/-- A slot at address a, of the disk at g; J is what it may write. -/
structure Sm (w : World) (J : Nat → Prop) (a g : Nat) (t : Slt) : Prop where
  blk : Blk w a 68 (slc g t)
  own : ∀ i, J i ↔ i = a
  is : t.has = true ↔ t.g ≠ Sg.none
  ok : sok t.g
theorem Sm.keep {w w' : World} {J G : Nat → Prop} {a g : Nat} {t : Slt} (h : Sm w J a g t) (k : Keep G w w') (hd : ∀ i, J i → ¬ G i) : Sm w' J a g t :=
  ⟨k.blk h.blk (hd a ((h.own a).2 rfl)), h.own, h.is, h.ok⟩
theorem Sm.lt {w : World} {J : Nat → Prop} {a g : Nat} {t : Slt} (h : Sm w J a g t) : ∀ i, J i → i < w.heap.size := fun i hi => by
  rw [(h.own i).1 hi]
  exact h.blk.lt
theorem Sm.below {w w' : World} {J : Nat → Prop} {a g : Nat} {t : Slt} (h : Sm w J a g t) (hb : Below w.heap.size w w') : Sm w' J a g t := h.keep (Keep.of_below (F := fun _ => False) hb) fun _ _ h => h
theorem Sm.cells {w : World} {J : Nat → Prop} {a g : Nat} {t : Slt} (h : Sm w J a g t) : w.cell? ⟨a, 0, none⟩ = some (.pointer (some ⟨g, 0, none⟩)) ∧ w.cell? ⟨a, 1, none⟩ = some (.int .i64 (t.p : Nat)) ∧ w.cell? ⟨a, 2, none⟩ = some (.int .i64 (t.k : Nat)) ∧
    w.cell? ⟨a, 3, none⟩ = some (.int .i64 t.g.s) ∧ w.cell? ⟨a, 4, none⟩ = some (.int .i64 t.g.z) ∧ w.cell? ⟨a, 5, none⟩ = some (.int .i64 t.g.h) :=
  ⟨h.blk.cell rfl, h.blk.cell rfl, h.blk.cell rfl, h.blk.cell rfl, h.blk.cell rfl, h.blk.cell rfl⟩
/-- A disk, and a slot on it. -/
structure DS (w : World) (F J : Nat → Prop) (g a : Nat) (s : St) (t : Slt) : Prop where
  dk : Dk w F g s
  sm : Sm w J a g t
  dis : ∀ i, F i → ¬ J i
  most : s.L.length ≤ 1000000
  fits : t.p ≤ 3 ∧ t.k ≤ 1 ∧ t.at_ + 4 ≤ s.S.length
/-- What a call on the slot leaves. -/
def Sgo (F J : Nat → Prop) (g a : Nat) (w : World) (v : Value) (s' : St) (t' : Slt) (e : Ending) (w' : World) : Prop :=
  e = .returned v ∧ ∃ F' J', Dk w' F' g s' ∧ Sm w' J' a g t' ∧ (∀ i, F' i → ¬ J' i) ∧ Keep (fun i => F i ∨ J i) w w' ∧ (∀ i, F' i → (F i ∨ J i) ∨ w.heap.size ≤ i) ∧ (∀ i, J' i → (F i ∨ J i) ∨ w.heap.size ≤ i)

theorem rS_at {p k : Nat} (hp : p ≤ 3) (hk : k ≤ 1) : rS (p : Int) (k : Int) = ((10 * p + 2 + 4 * k : Nat) : Int) := by
  unfold rS fnd
  rcases (show k = 0 ∨ k = 1 from by omega) with rfl | rfl
  · rw [if_pos (by omega), if_neg (by omega)]; omega
  · rw [if_neg (by omega), if_pos (by omega), if_neg (by omega)]; omega
theorem rD_at {p k i : Nat} (hp : p ≤ 3) (hk : k ≤ 1) (hi : i ≤ 2) : rD (p : Int) (k : Int) (i : Int) = ((10 * p + 2 + 4 * k + 1 + i : Nat) : Int) := by
  unfold rD
  rw [rS_at hp hk, if_neg (by omega)]
  omega
theorem n64_nat {p : Nat} (hp : p ≤ 1000) : PlaM.n64 (p : Int) := ⟨by omega, by omega⟩
theorem pstage_at {p k : Nat} (hp : p ≤ 3) (hk : k ≤ 1) (w : World) : Calls Try.prog 48 #[.int .i64 (p : Nat), .int .i64 (k : Nat)] w fun e w' => e = .returned (.tuple #[.int .i64 ((10 * p + 2 + 4 * k : Nat) : Int), .bool true]) ∧ Below w.heap.size w w' := by
  have h := PlaN.stage_any (p : Int) (k : Int) w (n64_nat (by omega)) (n64_nat (by omega))
  rw [rS_at hp hk, PlaN.tv_pos (by omega), PlaN.tb_pos (by omega)] at h
  exact h
theorem pdata_at {p k i : Nat} (hp : p ≤ 3) (hk : k ≤ 1) (hi : i ≤ 2) (w : World) : Calls Try.prog 47 #[.int .i64 (p : Nat), .int .i64 (k : Nat), .int .i64 (i : Nat)] w fun e w' => e = .returned (.tuple #[.int .i64 ((10 * p + 2 + 4 * k + 1 + i : Nat) : Int), .bool true]) ∧ Below w.heap.size w w' := by
  have h := PlaN.data_any (p : Int) (k : Int) (i : Int) w (n64_nat (by omega)) (n64_nat (by omega)) (n64_nat (by omega))
  rw [rD_at hp hk hi, PlaN.tv_pos (by omega), PlaN.tb_pos (by omega)] at h
  exact h

set_option maxRecDepth 100000 in
theorem sneq (g : Sg) (b : Bool) (hb : b = true ↔ g = Sg.none) (w : World) : (Op.equalIn 10000 32 (.agg #[.int .i64 g.s, .int .i64 g.z, .int .i64 g.h]) (.agg #[.int .i64 0, .int .i64 0, .int .i64 0])).run Try.prog w = .ok b w := by
  have ht : Try.prog.underlying 32 = some (.struct (Try.prog.fieldsOf 32)) := by kernel_rfl
  have hp : Try.prog.stoodInHeld 32 = false := by kernel_rfl
  rw [show (10000 : Nat) = 9999 + 1 from rfl, run_equalIn_struct w 9999 _ _ _ ht hp]
  have e : b = (((g.s == 0) && (g.z == 0)) && (g.h == 0)) := by
    rw [Bool.eq_iff_iff, hb]
    simp only [Bool.and_eq_true, beq_iff_eq]
    exact ⟨fun h => by rw [h]; exact ⟨⟨rfl, rfl⟩, rfl⟩, fun ⟨⟨h1, h2⟩, h3⟩ => StgP.Sg.eq_of h1 h2 h3⟩
  subst e
  simp [go_sem, Op.eqFields, Try.underlying32, Try.underlying3]
  clear hb
  (repeat' split) <;> simp [*]

section
variable {w : World} {J : Nat → Prop} {a g : Nat} {t : Slt}
set_option maxRecDepth 100000 in
set_option maxHeartbeats 800000 in
theorem staged_any (h : Sm w J a g t) : Calls Try.prog 33 #[.pointer (some ⟨a, 0, none⟩)] w fun e w' => e = .returned (.bool t.has) ∧ w = w' := by
  obtain ⟨c0, c1, c2, c3, c4, c5⟩ := h.cells
  have hq : (!t.has) = true ↔ t.g = Sg.none := by
    have := h.is
    cases hh : t.has
    · rw [hh] at this
      simp at this
      simpa using this
    · rw [hh] at this
      simp at this
      simpa using this
  have hE := fun (w : World) => sneq t.g (!t.has) hq w
  obtain ⟨x, hx⟩ : ∃ x, x = t.has := ⟨_, rfl⟩
  rw [← hx] at hE ⊢
  clear h hq hx
  go_enter Try.func33, Try.ntmps33
  go_wp2
  go_ret
  exact ⟨by simp, rfl⟩
set_option maxRecDepth 100000 in
set_option maxHeartbeats 800000 in
theorem stageAt_any (h : Sm w J a g t) (hp : t.p ≤ 3) (hk : t.k ≤ 1) : Calls Try.prog 28 #[.pointer (some ⟨a, 0, none⟩)] w fun e w' => e = .returned (.int .i64 (t.at_ : Nat)) ∧ Below w.heap.size w w' := by
  obtain ⟨c0, c1, c2, c3, c4, c5⟩ := h.cells
  have hlt := h.blk.lt
  have HP := Lib.hid (fun w' => pstage_at hp hk w')
  have e : t.at_ = 10 * t.p + 2 + 4 * t.k := rfl
  rw [e]
  obtain ⟨q, hq⟩ : ∃ q, q = 10 * t.p + 2 + 4 * t.k := ⟨_, rfl⟩
  obtain ⟨p, hpp⟩ : ∃ p, p = t.p := ⟨_, rfl⟩
  obtain ⟨k, hkk⟩ : ∃ k, k = t.k := ⟨_, rfl⟩
  rw [← hq] at HP ⊢
  rw [← hpp, ← hkk] at HP
  rw [← hpp] at c1
  rw [← hkk] at c2
  clear h hp hk e hq hpp hkk c0 c3 c4 c5
  go_enter Try.func28, Try.ntmps28
  go_wp2_with fail
  go_region_held3 (fun w' => w'.cell? ⟨a, 1, none⟩ = some (.int .i64 (p : Nat)) ∧ w'.cell? ⟨a, 2, none⟩ = some (.int .i64 (k : Nat)))
    (first
     | go_keep
     | (go_split_ands; refine ⟨?_, ?_⟩ <;> (rw [hb1.cell (by simpa using hlt)]; assumption)))
    ((go_at_call 48; refine (HP.out _).mono ?_; rintro e w1 ⟨rfl, hb1⟩))
  have HB := Lib.hid (show Below w.heap.size w w1 from ((Below.refl w.heap.size w).drew).trans hb1)
  clear hb1
  go_wp2
  go_ret
  exact ⟨rfl, HB.out⟩
set_option maxRecDepth 100000 in
set_option maxHeartbeats 800000 in
theorem whole_any (h : Sm w J a g t) : Calls Try.prog 46 #[.pointer (some ⟨a, 0, none⟩)] w fun e w' => e = .returned (.bool ((miss t.g.h (lim (blocks t.g.z))).isEmpty)) ∧ Below w.heap.size w w' := by
  obtain ⟨c0, c1, c2, c3, c4, c5⟩ := h.cells
  have hlt := h.blk.lt
  have H1 := Lib.hid (fun w' => RecG.blocks_any t.g.z w' h.ok.z)
  have H2 := Lib.hid (fun w' => BitS.first_any t.g.h (blocks t.g.z : Nat) w' h.ok.h)
  obtain ⟨M, hM⟩ : ∃ M, M = (miss t.g.h (lim (blocks t.g.z))).isEmpty := ⟨_, rfl⟩
  obtain ⟨B, hB⟩ : ∃ B, B = blocks t.g.z := ⟨_, rfl⟩
  rw [← hM] at H2 ⊢
  rw [← hB] at H1 H2
  obtain ⟨f, hf⟩ : ∃ f, f = BitS.fst (miss t.g.h (lim B)) := ⟨_, rfl⟩
  rw [← hf] at H2
  obtain ⟨z, hz⟩ : ∃ z, z = t.g.z := ⟨_, rfl⟩
  obtain ⟨hh, hhh⟩ : ∃ hh, hh = t.g.h := ⟨_, rfl⟩
  rw [← hz] at H1 c4
  rw [← hhh] at H2 c5
  clear h hM hB hf hz hhh c0 c1 c2 c3
  go_enter Try.func46, Try.ntmps46
  go_wp2_with fail
  go_region_held3 (fun w' => w'.cell? ⟨a, 4, none⟩ = some (.int .i64 z) ∧ w'.cell? ⟨a, 5, none⟩ = some (.int .i64 hh))
    (first
     | go_keep
     | (go_split_ands; refine ⟨?_, ?_⟩ <;> (rw [hb1.cell (by simpa using hlt)]; assumption)))
    ((first
      | (go_at_call 34; refine (H1.out _).mono ?_; rintro e w1 ⟨rfl, rfl⟩)
      | (go_at_call 62; refine (H2.out _).mono ?_; rintro e w1 ⟨rfl, hb1⟩)))
  have HB := Lib.hid (show Below w.heap.size w w1 from ((Below.refl w.heap.size w).drew).trans hb1)
  clear hb1
  go_wp2
  go_ret
  exact ⟨by simp, HB.out⟩
end
end Go.Proofs.Ythgmocipiknfpaa.StgN
namespace Go.Proofs.Ythgmocipiknfpaa.StgN
open Go.RowKit Go.Proofs.Ythgmocipiknfpaa.Kit Go.Proofs.Ythgmocipiknfpaa.Byt Go.Proofs.Ythgmocipiknfpaa.Mem Go.Proofs.Ythgmocipiknfpaa.DskA Go.Proofs.Ythgmocipiknfpaa.DskD Go.Proofs.Ythgmocipiknfpaa.DskE Go.Proofs.Ythgmocipiknfpaa.DskF Go.Proofs.Ythgmocipiknfpaa.RecM Go.Proofs.Ythgmocipiknfpaa.StgM
open Go.Proofs.Ythgmocipiknfpaa.RecA (sval scells sok)

/-! ### a sector of the slot's image -/
theorem size_step : (Try.prog.info? 78).map (·.size) = some 2 := by kernel_rfl
theorem size_stg3 : (Try.prog.info? 32).map (·.size) = some 3 := by kernel_rfl
def stepc (i : Nat) (A : Option Addr) (n c : Nat) : List Value := [.int .i64 (i : Int), .slice A n c]
theorem stepc_one (i : Nat) (A : Option Addr) (n c : Nat) : ∀ u ∈ stepc i A n c, u.oneCell' = true := by
  intro u hu
  simp [stepc] at hu
  rcases hu with rfl | rfl <;> rfl
/-- What a sector that is read tells: its bytes in new memory, or that the disk is down. -/
def Img (w : World) (s : St) (i : Nat) (e : Ending) (w' : World) : Prop :=
  Below w.heap.size w w' ∧ ∃ A n, e = .returned (.tuple #[.agg #[.int .i64 (i : Int), .slice A n n], .int .i64 (if s.down then 8 else 0)]) ∧ Hid (s.down = false → n = 64 ∧ w'.ownsRow w.heap.size 5 1 (.slice A 64 64) 64 (u8n (now s i)))
set_option maxRecDepth 100000 in
set_option maxHeartbeats 1600000 in
theorem image_any {w : World} {F J : Nat → Prop} {g a : Nat} {s : St} {t : Slt} (h : DS w F J g a s t) (i : Nat) (hi : i ≤ 2) :
    Calls Try.prog 37 #[.pointer (some ⟨a, 0, none⟩), .int .i64 (i : Nat)] w (Img w s (t.dat i)) := by
  have H := Lib.hid h
  have HP := Lib.hid (fun w' => pdata_at h.fits.1 h.fits.2.1 hi w')
  have e : t.dat i = 10 * t.p + 2 + 4 * t.k + 1 + i := rfl
  have hq : t.dat i < s.S.length := by have := h.fits.2.2; unfold Slt.dat; omega
  have hb0 : Blk (w.alloc (.cells #[.int .i64 0, .slice none 0 0] 78)) w.heap.size 78 [.int .i64 0, .slice none 0 0] := Blk.new w _ _
  obtain ⟨q, hqq⟩ : ∃ q, q = t.dat i := ⟨_, rfl⟩
  rw [← e, ← hqq] at HP
  rw [← hqq] at hq ⊢
  have HQ := Lib.hid hq
  obtain ⟨p, hpp⟩ : ∃ p, p = t.p := ⟨_, rfl⟩
  obtain ⟨k, hkk⟩ : ∃ k, k = t.k := ⟨_, rfl⟩
  rw [← hpp, ← hkk] at HP
  have hlt : a < (w.alloc (.cells #[.int .i64 0, .slice none 0 0] 78)).heap.size := by have := h.sm.blk.lt; rw [World.size_alloc]; omega
  have HB0 := Lib.hid hb0
  have L0 := Lib.hid (show Below w.heap.size w (w.alloc (.cells #[.int .i64 0, .slice none 0 0] 78)) from (Below.refl _ _).alloc (Nat.le_refl _) _)
  clear h e hq hqq hi hb0
  obtain ⟨c0, c1, c2, c3, c4, c5⟩ := (H.out.sm.below L0.out).cells
  rw [← hpp] at c1
  rw [← hkk] at c2
  clear c3 c4 c5 hpp hkk
  go_enter Try.func37, Try.ntmps37
  go_wp2_with fail
  obtain ⟨w0, hw0⟩ : ∃ w0, w0 = w.alloc (.cells #[.int .i64 0, .slice none 0 0] 78) := ⟨_, rfl⟩
  rw [← hw0] at L0 HB0 c0 c1 c2 hlt ⊢
  clear hw0
  go_region_held3 (fun w' => w'.cell? ⟨a, 1, none⟩ = some (.int .i64 (p : Nat)) ∧ w'.cell? ⟨a, 2, none⟩ = some (.int .i64 (k : Nat)))
    (first
     | go_keep
     | (go_split_ands; refine ⟨?_, ?_⟩ <;> (rw [hb1.cell (by simpa using hlt)]; assumption)))
    ((go_at_call 47; refine (HP.out _).mono ?_; rintro e w1 ⟨rfl, hb1⟩))
  have hb1' : Below w0.heap.size w0 w1 := ((Below.refl w0.heap.size w0).drew).trans hb1
  have L1 := Lib.hid (L0.out.trans (hb1'.mono L0.out.size))
  have HB1 := Lib.hid (HB0.out.below hb1')
  have d0 : w1.cell? ⟨a, 0, none⟩ = some (.pointer (some ⟨g, 0, none⟩)) := (hb1'.cell hlt).trans c0
  clear hb1 hb1' L0 HB0 c0 c1 c2 HP hlt
  have HD1 := Lib.hid (H.out.dk.below L1.out)
  have hL := H.out.most
  cases hd : s.down with
  | true =>
    have HR := Lib.hid (read_down F g s (q : Int) w1 HD1.out (by simp [inB, HQ.out]) hd)
    have Hd := Lib.hid hd
    clear hd hL
    go_wp2_with (first
      | (go_at_call 21; refine HR.out.mono ?_; rintro e w2 ⟨rfl, rfl⟩)
      | (refine wpList_store_blk rfl 78 (.tmp 4) (.tmp 34) rfl w.heap.size rfl (stepc q none 0 0) rfl HB1.out rfl size_step (stepc_one _ _ _ _) ?_; intro w3 hB3 ho3))
    have e0 := hB3.out.cell (i := 0) rfl
    have e1 := hB3.out.cell (i := 1) rfl
    refine bodyPost_ret (v := .tuple #[.agg #[.int .i64 (q : Int), .slice none 0 0], .int .i64 8]) (by simp [results, Try.results37, go_sem, stepc, e0, e1]) rfl ?_
    refine ⟨ho3.out.below L1.out (Nat.le_refl _) L1.out.size, none, 0, ?_, Lib.hid fun h => ?_⟩
    · rw [if_pos Hd.out]
    · rw [Hd.out] at h; cases h
  | false =>
    have HR := Lib.hid (read_ok F g s q w1 HD1.out HQ.out hd (by omega))
    have Hd := Lib.hid hd
    clear hd hL
    go_wp2_with (first
      | (go_at_call 21; refine HR.out.mono ?_; rintro e w2 ⟨A, rfl, hown, hb2⟩; have L2 := Lib.hid (L1.out.trans (hb2.mono L1.out.size)); have HB2 := Lib.hid (HB1.out.below hb2); have HO2 := Lib.hid hown; have hsz := hb2.size; have hsz1 := L1.out.size; have hsb := HB1.out.lt; clear hown hb2)
      | (refine wpList_store_blk rfl 78 (.tmp 4) (.tmp 34) rfl w.heap.size rfl (stepc q A 64 64) rfl HB2.out rfl size_step (stepc_one _ _ _ _) ?_; intro w3 hB3 ho3))
    have e0 := hB3.out.cell (i := 0) rfl
    have e1 := hB3.out.cell (i := 1) rfl
    refine bodyPost_ret (v := .tuple #[.agg #[.int .i64 (q : Int), .slice A 64 64], .int .i64 0]) (by simp [results, Try.results37, go_sem, stepc, e0, e1]) rfl ?_
    refine ⟨ho3.out.below L2.out (Nat.le_refl _) L2.out.size, A, 64, ?_, Lib.hid fun _ => ⟨rfl, ?_⟩⟩
    · rw [if_neg (by rw [Hd.out]; simp)]
    · have hkeep : Keep (fun i => i = w.heap.size) w2 w3 := Keep.only ho3.out rfl
      refine RecC.own_mono (hkeep.own HO2.out fun k hk => ?_) (by omega)
      have := (HO2.out.lt k hk).1
      show ¬ k = w.heap.size
      omega

/-! ### steps, one behind the other -/
structure Stp where
  i : Nat
  A : Option Addr
  c : Nat
  bs : List Nat
def Stp.cells (e : Stp) : List Value := stepc e.i e.A 64 e.c
def stc (Q : List Stp) : List Value := Q.flatMap Stp.cells
theorem stc_len (Q : List Stp) : (stc Q).length = Q.length * 2 := by
  induction Q with
  | nil => rfl
  | cons e Q ih => simp only [stc, List.flatMap_cons, List.length_append] at ih ⊢; rw [ih]; simp [Stp.cells, stepc]; omega
theorem stc_at {Q : List Stp} {k : Nat} (h : k < Q.length) : (stc Q)[2 * k]? = some (.int .i64 (Q[k].i : Int)) ∧ (stc Q)[2 * k + 1]? = some (.slice Q[k].A 64 Q[k].c) := by
  induction Q generalizing k with
  | nil => simp at h
  | cons e Q ih =>
    have hc : stc (e :: Q) = .int .i64 (e.i : Int) :: .slice e.A 64 e.c :: stc Q := rfl
    rw [hc]
    cases k with
    | zero => exact ⟨rfl, rfl⟩
    | succ k =>
      have := ih (k := k) (by simpa using h)
      rw [show 2 * (k + 1) = 2 * k + 1 + 1 by omega]
      simpa using this
def Stp.pair (e : Stp) : Nat × List Nat := (e.i, e.bs)
/-- All of them, till the disk is down. -/
def pQ (s : St) : List (Nat × List Nat) → St × Int
  | [] => (s, 0)
  | p :: Q => if (put1 s p.1 p.2).2 = 0 then pQ (put1 s p.1 p.2).1 Q else ((put1 s p.1 p.2).1, 8)
/-- A step that is there to be written. -/
structure Stp.ok (e : Stp) (w : World) (F : Nat → Prop) (n : Nat) : Prop where
  rd : Rd w e.A 64 e.c (u8n e.bs)
  far : ∀ b o, e.A = some ⟨b, o, none⟩ → ¬ F b
  lt : e.i < n
theorem Stp.ok.step {e : Stp} {w w' : World} {F F' : Nat → Prop} {n : Nat} (h : e.ok w F n) (k : Keep F w w') (hf : ∀ i, F' i → F i ∨ w.heap.size ≤ i) : e.ok w' F' n :=
  ⟨k.rd h.rd fun _ => h.far, fun b o hA hF => by
    rcases hf b hF with h1 | h1
    · exact h.far b o hA h1
    · obtain ⟨b', o', hA', hc, _⟩ := h.rd.2.2.2 (by omega)
      rw [hA] at hA'
      injection hA' with hA'
      injection hA' with hb' _
      omega, h.lt⟩
theorem Stp.ok.to {e : Stp} {w : World} {F : Nat → Prop} {n m : Nat} (h : e.ok w F n) (hm : n = m) : e.ok w F m := hm ▸ h
theorem put1_L {s : St} (hL : s.L.length ≤ 1000000) (i : Nat) (bs : List Nat) (h : (put1 s i bs).2 = 0) : (put1 s i bs).1.L = [] := by
  unfold put1 at h ⊢
  split at h
  · cases h
  · rename_i h1
    rw [if_neg h1]
    split at h
    · cases h
    · rename_i h2
      rw [if_neg h2]
      rfl
end Go.Proofs.Ythgmocipiknfpaa.StgN
