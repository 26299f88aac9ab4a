/- A slot's bytes, by the program. Conditions: disk and slot lie as the facts say; the stage is right, if there is one. A slot's contracts by the names that the laws use. Conditions: as each law names them. A stage that came in; what the reference says of blocks, and of a stage. Conditions: numbers of 64 bits. -/
import Derived.Test.YthgmocipiknfpaaStgN7
import Derived.Test.YthgmocipiknfpaaJ03
namespace Go.Proofs.Ythgmocipiknfpaa.StgN
open Go.RowKit Go.Proofs.Ythgmocipiknfpaa.Kit Go.Proofs.Ythgmocipiknfpaa.Byt Go.Proofs.Ythgmocipiknfpaa.Mem Go.Proofs.Ythgmocipiknfpaa.DskA Go.Proofs.Ythgmocipiknfpaa.DskC Go.Proofs.Ythgmocipiknfpaa.DskD Go.Proofs.Ythgmocipiknfpaa.DskE Go.Proofs.Ythgmocipiknfpaa.DskF Go.Proofs.Ythgmocipiknfpaa.RecM Go.Proofs.Ythgmocipiknfpaa.StgM
open Go.Proofs.Ythgmocipiknfpaa.RecA (sval scells sok n64)
open Go.Proofs.Ythgmocipiknfpaa.BitA (miss lim)

/-- The first k sectors of the slot's image. -/
def acc (s : St) (t : Slt) : Nat → List Nat
  | 0 => []
  | k + 1 => acc s t k ++ now s (t.dat k)
theorem acc_three (s : St) (t : Slt) : acc s t 3 = now s (t.dat 0) ++ (now s (t.dat 1) ++ now s (t.dat 2)) := by simp [acc]
theorem acc_take (s : St) (t : Slt) {k z : Nat} (hk : k ≤ 3) (hz : z ≤ (acc s t k).length) : (acc s t 3).take z = (acc s t k).take z := by
  have : ∀ m, ∃ r, acc s t (k + m) = acc s t k ++ r := by
    intro m
    induction m with
    | zero => exact ⟨[], by simp⟩
    | succ m ih =>
      obtain ⟨r, hr⟩ := ih
      exact ⟨r ++ now s (t.dat (k + m)), by rw [← Nat.add_assoc, acc, hr, List.append_assoc]⟩
  obtain ⟨r, hr⟩ := this (3 - k)
  rw [show k + (3 - k) = 3 from by omega] at hr
  rw [hr, List.take_append_of_le_length hz]
theorem lim_blocks {z : Int} (h : z ≤ 160) : lim (blocks z : Int) = blocks z := BitC.lim_nat (by have := blocks_10 h; omega)
/-- What a call for the bytes tells. -/
def Ys (w : World) (s : St) (t : Slt) (e : Ending) (w' : World) : Prop :=
  ∃ B m d, e = .returned (.tuple #[.slice B m d, .int .i64 (pY s t).2]) ∧ Rd w' B m d (u8n (pY s t).1) ∧ Below w.heap.size w w' ∧ (∀ q o, B = some ⟨q, o, none⟩ → w.heap.size ≤ q)
theorem Ys.empty {w w' : World} {s : St} {t : Slt} {e : Int} (h : pY s t = ([], e)) (hb : Below w.heap.size w w') : Ys w s t (.returned (.tuple #[.slice none 0 0, .int .i64 e])) w' := by
  refine ⟨none, 0, 0, by rw [h], ?_, hb, fun q o h => by cases h⟩
  rw [h]
  exact Rd.nil w'
theorem Rd.few {w : World} {A : Option Addr} {n z c : Nat} {xs : List Nat} (h : Rd w A n c (u8n xs)) (hz : z ≤ n) : Rd w A z c (u8n (xs.take z)) := by
  have hl : xs.length = n := Rd.nats h
  refine ⟨by rw [u8n_len, List.length_take]; omega, by have := h.2.1; omega, h.2.2.1, fun hp => ?_⟩
  obtain ⟨b, o, hA, hb, hj⟩ := h.2.2.2 (by omega)
  refine ⟨b, o, hA, hb, fun j u hu => hj j u ?_⟩
  rw [show u8n (xs.take z) = (u8n xs).take z from by simp [u8n, List.map_take], List.getElem?_take] at hu
  split at hu
  · exact hu
  · cases hu
section
variable {F J : Nat → Prop} {g a : Nat} {s : St} {t : Slt} {w : World}
set_option maxRecDepth 100000 in
set_option maxHeartbeats 3200000 in
theorem bytes_none (h : DS w F J g a s t) (h1 : t.has = false) : Calls Try.prog 23 #[.pointer (some ⟨a, 0, none⟩)] w (Ys w s t) := by
  have HS := Lib.hid (show Calls Try.prog 33 #[.pointer (some ⟨a, 0, none⟩)] w fun e w' => e = .returned (.bool false) ∧ w = w' from by have := staged_any h.sm; rw [h1] at this; exact this)
  have HY := Lib.hid (show pY s t = ([], 16) from by unfold pY; rw [if_pos h1])
  clear h h1
  go_enter Try.func23, Try.ntmps23
  go_wp2_with (go_at_call 33; refine HS.out.mono ?_; rintro e w1 ⟨rfl, rfl⟩)
  go_ret2
  exact Ys.empty HY.out (Below.refl _ _)
set_option maxRecDepth 100000 in
set_option maxHeartbeats 3200000 in
theorem bytes_miss (h : DS w F J g a s t) (h1 : t.has = true) (hg : t.g.right) (h2 : miss t.g.h (blocks t.g.z) ≠ []) : Calls Try.prog 23 #[.pointer (some ⟨a, 0, none⟩)] w (Ys w s t) := by
  have HS := Lib.hid (show Calls Try.prog 33 #[.pointer (some ⟨a, 0, none⟩)] w fun e w' => e = .returned (.bool true) ∧ w = w' from by have := staged_any h.sm; rw [h1] at this; exact this)
  have HY := Lib.hid (show pY s t = ([], 11) from by unfold pY; rw [if_neg (by rw [h1]; simp), if_pos h2])
  have HW := Lib.hid (show Calls Try.prog 46 #[.pointer (some ⟨a, 0, none⟩)] w fun e w' => e = .returned (.bool false) ∧ Below w.heap.size w w' from by
    have := whole_any h.sm
    rw [lim_blocks hg.2.1.2, show (miss t.g.h (blocks t.g.z)).isEmpty = false from by simpa using h2] at this
    exact this)
  clear h h1 h2 hg
  go_enter Try.func23, Try.ntmps23
  go_wp2_with (first
    | (go_at_call 33; refine HS.out.mono ?_; rintro e w1 ⟨rfl, rfl⟩)
    | (go_at_call 46; refine HW.out.mono ?_; rintro e w1 ⟨rfl, hb1⟩; have L1 := Lib.hid hb1; clear hb1))
  go_ret2
  exact Ys.empty HY.out L1.out
set_option maxRecDepth 100000 in
set_option maxHeartbeats 6400000 in
theorem bytes_all (h : DS w F J g a s t) (h1 : t.has = true) (hg : t.g.right) (h2 : miss t.g.h (blocks t.g.z) = []) : Calls Try.prog 23 #[.pointer (some ⟨a, 0, none⟩)] w (Ys w s t) := by
  obtain ⟨i0, hi0, hz0, hz1, hz2⟩ := info_parts NumA.info8
  have HS := Lib.hid (show Calls Try.prog 33 #[.pointer (some ⟨a, 0, none⟩)] w fun e w' => e = .returned (.bool true) ∧ w = w' from by have := staged_any h.sm; rw [h1] at this; exact this)
  have HYD := Lib.hid (show s.down = true → pY s t = ([], 8) from fun hd => by unfold pY; rw [if_neg (by rw [h1]; simp), if_neg (fun e => e h2), if_pos hd])
  have HYU := Lib.hid (show s.down = false → pY s t = ((acc s t 3).take t.g.z.toNat, 0) from fun hd => by unfold pY; rw [if_neg (by rw [h1]; simp), if_neg (fun e => e h2), if_neg (by rw [hd]; simp), acc_three])
  have HW := Lib.hid (show Calls Try.prog 46 #[.pointer (some ⟨a, 0, none⟩)] w fun e w' => e = .returned (.bool true) ∧ Below w.heap.size w w' from by
    have := whole_any h.sm
    rw [lim_blocks hg.2.1.2, show (miss t.g.h (blocks t.g.z)).isEmpty = true from by simpa using h2] at this
    exact this)
  have HIM := Lib.hid (fun w' (hb : Below w.heap.size w w') (k : Nat) (hk : k ≤ 2) => image_any (h.below hb) k hk)
  have H := Lib.hid h
  obtain ⟨z, hz⟩ : ∃ z : Nat, (z : Int) = t.g.z := ⟨t.g.z.toNat, by have := hg.2.1.1; omega⟩
  have hz1' : 1 ≤ z := by have := hg.2.1.1; omega
  have hz160 : z ≤ 160 := by have := hg.2.1.2; omega
  rw [show t.g.z.toNat = z from by omega] at HYU
  have HZ := Lib.hid hz
  clear h h1 h2 hg hz
  go_enter Try.func23, Try.ntmps23
  go_wp2_with (first
    | (go_at_call 33; refine HS.out.mono ?_; rintro e w1 ⟨rfl, rfl⟩)
    | (go_at_call 46; refine HW.out.mono ?_; rintro e w1 ⟨rfl, hb1⟩; have L1 := Lib.hid hb1; clear hb1))
  go_loopw [4, 5] (fun b i wr => ∃ (k n : Nat) (B : Option Addr) (c : Nat), k ≤ 3 ∧ Hid (n = 64 * k) ∧ b = .slice B n c ∧ i = .int .i64 k ∧ Hid (wr.ownsRow w.heap.size 5 1 (.slice B n c) n (u8n (acc s t k))) ∧ Hid (Below w.heap.size w wr) ∧ Hid (0 < k → s.down = false)) (fun _ i _ => 3 - (intOf i).toNat)
  case atStart => exact ⟨0, 0, none, 0, by omega, Lib.hid rfl, rfl, rfl, Lib.hid (World.ownsRow_nil _ _ _ _), L1, Lib.hid fun h => absurd h (by omega)⟩
  case round =>
    obtain ⟨k, n, B, c, hk, hn, rfl, rfl, HO, LR, HU⟩ := hrel
    obtain ⟨_, _, _, _, c4, _⟩ := (H.out.sm.below LR.out).cells
    rw [← HZ.out] at c4
    have hal := (H.out.sm.below LR.out).blk.lt
    have hcap := (Rd.own HO.out).2.1
    by_cases hlt : n < z
    · have hk2 : k ≤ 2 := by have := hn.out; omega
      have hn128 : n ≤ 128 := by have := hn.out; omega
      have hlt' : (n : Int) < (z : Int) := by omega
      cases hd : s.down with
      | true =>
        have HI := Lib.hid ((HIM.out wr LR.out k hk2).mono fun _ _ => img_no hd)
        have HD := Lib.hid hd
        clear hd
        go_wp2_with (go_at_call 37; refine HI.out.mono ?_; rintro e w2 ⟨hb2, A, m, rfl⟩; have L2 := Lib.hid (LR.out.trans (hb2.mono LR.out.size)); clear hb2)
        go_ret2
        exact Ys.empty (HYD.out HD.out) (L2.out.alloc L2.out.size _)
      | false =>
        have HI := Lib.hid ((HIM.out wr LR.out k hk2).mono fun _ _ => img_yes hd)
        have HD := Lib.hid hd
        clear hd
        go_wp2_with (first
          | (go_at_call 37; refine HI.out.mono ?_; rintro e w2 ⟨hb2, b, rfl, hB2, hbb, hl2⟩; have L2 := LR.out.trans (hb2.mono LR.out.size); have L3 := Lib.hid (L2.alloc L2.size (.cells #[.int .i64 (t.dat k : Nat), .slice (some ⟨b, 0, none⟩) 64 64] 78)); have HO3 := Lib.hid (own_below (own_below HO.out hb2) ((Below.refl w2.heap.size w2).alloc (Nat.le_refl _) (.cells #[.int .i64 (t.dat k : Nat), .slice (some ⟨b, 0, none⟩) 64 64] 78))); have HR3 := Lib.hid ((blk_rd hB2 hl2 (by omega)).alloc (.cells #[.int .i64 (t.dat k : Nat), .slice (some ⟨b, 0, none⟩) 64 64] 78)); clear hb2 hB2 hbb hl2 L2)
          | (at_builtin; refine wpList_add _ rfl (.tmp 38) (.tmp 40) _ rfl w.heap.size 5 i0 _ 1 Try.underlying43 hi0 hz0 hz1 hz2 rfl _ n _ rfl HO3.out (some ⟨b, 0, none⟩) 64 64 (u8n (now s (t.dat k))) rfl HR3.out (u8n_one _) (by omega) (by omega) L3.out.size ?_; intro A4 n4 c4' w4 hn4 hown4 hg4 hat4; have L4 := Lib.hid (below_add L3.out HO3.out (Nat.le_refl _) hg4); have HO4 := Lib.hid hown4; have HN4 := hn4; clear hat4 hg4 hown4 hn4))
        go_roundw
        case rel => exact ⟨k + 1, n4, A4, c4', by omega, Lib.hid (by have := HN4.out; have := hn.out; omega), rfl, by go_num, Lib.hid (by have := HO4.out; rw [u8n_app] at this; exact this), L4, Lib.hid fun _ => trivial⟩
        case measure => simp [intOf]; omega
    · have hle : (z : Int) ≤ (n : Int) := by omega
      have hzc : (z : Int) ≤ (c : Int) := by omega
      have hd := HU.out (by have := hn.out; omega)
      have HX := Lib.hid (HYU.out hd)
      have HL := Lib.hid (show acc s t 3 = acc s t 3 ∧ n = (acc s t k).length from ⟨rfl, by have := HO.out.1; rw [u8n_len] at this; omega⟩)
      clear hd
      go_wp2_with fail
      go_ret2
      refine ⟨B, z, c, by rw [HX.out]; rfl, ?_, LR.out, fun q o hB => ?_⟩
      · rw [HX.out, acc_take s t hk (by have := HL.out.2; omega)]
        exact Rd.few (Rd.own HO.out) (by omega)
      · have hB' : (Value.slice B n c).ownBlock = some q := by rw [hB]; rfl
        exact (HO.out.lt q hB').1
theorem bytes_new (F J : Nat → Prop) (g a : Nat) (s : St) (t : Slt) (w : World) (h : DS w F J g a s t) (hg : t.has = true → t.g.right) :
    Calls Try.prog 23 #[.pointer (some ⟨a, 0, none⟩)] w (Ys w s t) := by
  cases h1 : t.has with
  | false => exact bytes_none h h1
  | true =>
    by_cases h2 : miss t.g.h (blocks t.g.z) = []
    · exact bytes_all h h1 (hg h1) h2
    · exact bytes_miss h h1 (hg h1) h2
end
end Go.Proofs.Ythgmocipiknfpaa.StgN
namespace Go.Proofs.Ythgmocipiknfpaa.StgN
open Go.RowKit Go.Proofs.Ythgmocipiknfpaa.Kit Go.Proofs.Ythgmocipiknfpaa.Byt Go.Proofs.Ythgmocipiknfpaa.Mem Go.Proofs.Ythgmocipiknfpaa.DskA Go.Proofs.Ythgmocipiknfpaa.DskE Go.Proofs.Ythgmocipiknfpaa.RecM Go.Proofs.Ythgmocipiknfpaa.StgM
theorem bytes_any (F J : Nat → Prop) (g a : Nat) (s : St) (t : Slt) (w : World) (h : DS w F J g a s t) (hg : t.has = true → t.g.right) :
    Calls Try.prog 23 #[.pointer (some ⟨a, 0, none⟩)] w fun e w' => ∃ B m d, e = .returned (.tuple #[.slice B m d, .int .i64 (pY s t).2]) ∧ Rd w' B m d (u8n (pY s t).1) ∧ Below w.heap.size w w' :=
  (bytes_new F J g a s t w h hg).mono fun _ _ ⟨B, m, d, h1, h2, h3, _⟩ => ⟨B, m, d, h1, h2, h3⟩
end Go.Proofs.Ythgmocipiknfpaa.StgN
namespace Go.Proofs.Ythgmocipiknfpaa.RecA
open Go.RowKit Go.Proofs.Ythgmocipiknfpaa.Kit Go.Proofs.Ythgmocipiknfpaa.Byt Go.Proofs.Ythgmocipiknfpaa.Mem Go.Proofs.Ythgmocipiknfpaa.RecM

set_option maxRecDepth 100000 in
theorem open_stage {H : Type} {enc : TypeId × Value → H} {w : World} {base : Nat} {v : Value} {d : DataW H} {p : List MemPlace} (h : DataW.Trod enc Try.prog w 0 (fun _ => true) true 32 v d p) (o : Value.okWide Try.prog w .any base 32 v) :
    ∃ i : Sg, v = sval i ∧ sok i := by
  obtain ⟨cs, rfl, hs⟩ := Go.WideShapes.okWide_struct Try.underlying32 o
  obtain ⟨fuel, hf⟩ := h
  have hC : Try.prog.cellsOf 32 = 3 := by kernel_rfl
  rw [hC] at hs
  obtain ⟨cs, rfl⟩ : ∃ l : List Value, cs = l.toArray := ⟨cs.toList, by simp⟩
  have hcs : (Value.agg cs.toArray).cells.toList = cs := by simp [Value.cells]
  rw [hcs] at hf
  obtain ⟨ys, n', _, _, _, hyl, hfl⟩ := DataW.trod_struct Try.underlying32 hf
  match cs, hs with
  | [c0, c1, c2], _ =>
    have ci : Try.prog.cellsOf 3 = 1 := by kernel_rfl
    match ys, hyl with
    | [y0, y1, y2], _ =>
      have e0 : DataW.trod enc Try.prog w 0 (fun _ => true) true n' 3 (([c0, c1, c2].drop 0).take (Try.prog.cellsOf 3)) = some y0 := hfl 0 _ rfl
      have e1 : DataW.trod enc Try.prog w 0 (fun _ => true) true n' 3 (([c0, c1, c2].drop 1).take (Try.prog.cellsOf 3)) = some y1 := hfl 1 _ rfl
      have e2 : DataW.trod enc Try.prog w 0 (fun _ => true) true n' 3 (([c0, c1, c2].drop 2).take (Try.prog.cellsOf 3)) = some y2 := hfl 2 _ rfl
      rw [ci] at e0 e1 e2
      obtain ⟨v0, q0, _, w0⟩ := DataW.trod_int (x := y0) Try.underlying3 e0
      obtain ⟨v1, q1, _, w1⟩ := DataW.trod_int (x := y1) Try.underlying3 e1
      obtain ⟨v2, q2, _, w2⟩ := DataW.trod_int (x := y2) Try.underlying3 e2
      obtain rfl : c0 = _ := by simpa using q0
      obtain rfl : c1 = _ := by simpa using q1
      obtain rfl : c2 = _ := by simpa using q2
      exact ⟨⟨v0, v1, v2⟩, rfl, bounds_i64 w0, bounds_i64 w1, bounds_i64 w2⟩

set_option maxRecDepth 100000 in
set_option maxHeartbeats 800000 in
theorem rblocks_any (z : Int) (w : World) (h0 : -9223372036854775808 ≤ z) (h1 : z ≤ 1000) : Calls Try.prog 53 #[.int .i64 z] w fun e w' => e = .returned (.int .i64 (blocks z : Nat)) ∧ w = w' := by
  go_enter Try.func53, Try.ntmps53
  go_wp2
  go_loop [0, 3] (fun s k => ∃ j : Nat, k = .int .i64 j ∧ s = .int .i64 (z - 16 * j) ∧ Hid ((j : Int) = 0 ∨ 0 < z - 16 * ((j : Int) - 1))) (fun _ k => 100 - (intOf k).toNat)
  case atStart => exact ⟨0, rfl, by simp, Lib.hid (Or.inl rfl)⟩
  case round =>
    obtain ⟨j, rfl, rfl, hj⟩ := hrel
    have hj63 : j ≤ 63 := by have := hj.out; omega
    by_cases hz : 0 < z - 16 * (j : Int)
    · go_wp2
      go_round
      case rel => exact ⟨j + 1, by go_num, int_eq (by omega), Lib.hid (Or.inr (by omega))⟩
      case measure => simp [intOf]; omega
    · go_wp2
      go_ret
      refine ⟨ret_int ?_, rfl⟩
      have := hj.out
      unfold blocks
      omega

set_option maxRecDepth 100000 in
set_option maxHeartbeats 1600000 in
theorem rrights_any (g : Sg) (w : World) (hk : sok g) (b : Bool) (hb : b = true ↔ g.right) : Calls Try.prog 52 #[sval g] w (Yes w b) := by
  obtain ⟨s, z, h⟩ := g
  have HB := Lib.hid (show b = true ↔ (1 ≤ s ∧ s ≤ 65535) ∧ (1 ≤ z ∧ z ≤ 160) ∧ (0 ≤ h ∧ h < 2 ^ blocks z) from hb)
  have hh : h ≤ 9223372036854775807 := hk.h.2
  clear hb hk
  have HX := Lib.hid (Bx.new w 32 (scells ⟨s, z, h⟩))
  have HF := Lib.hid (show ∀ q : Prop, (b = true → q) → ¬ q → b = false from fun q h hp => by rw [Bool.eq_false_iff]; exact fun hb => hp (h hb))
  show Calls _ _ #[.agg #[.int .i64 s, .int .i64 z, .int .i64 h]] w _
  by_cases g0 : s < 1
  · have hbf := Lib.hid (HF.out _ (fun h => (HB.out.1 h).1) (by omega))
    go_enter Try.func52, Try.ntmps52
    go_wp2
    go_ret
    exact ⟨by rw [hbf.out]; rfl, HX.out.bel⟩
  · skip
    by_cases g1 : 65535 < s
    · have hbf := Lib.hid (HF.out _ (fun h => (HB.out.1 h).1) (by omega))
      go_enter Try.func52, Try.ntmps52
      go_wp2
      go_ret
      exact ⟨by rw [hbf.out]; rfl, HX.out.bel⟩
    · skip
      by_cases g2 : z < 1
      · have hbf := Lib.hid (HF.out _ (fun h => (HB.out.1 h).2.1) (by omega))
        go_enter Try.func52, Try.ntmps52
        go_wp2
        go_ret
        exact ⟨by rw [hbf.out]; rfl, HX.out.bel⟩
      · skip
        by_cases g3 : 160 < z
        · have hbf := Lib.hid (HF.out _ (fun h => (HB.out.1 h).2.1) (by omega))
          go_enter Try.func52, Try.ntmps52
          go_wp2
          go_ret
          exact ⟨by rw [hbf.out]; rfl, HX.out.bel⟩
        · skip
          by_cases g4 : h < 0
          · have hbf := Lib.hid (HF.out _ (fun h => (HB.out.1 h).2.2.1) (by omega))
            go_enter Try.func52, Try.ntmps52
            go_wp2
            go_ret
            exact ⟨by rw [hbf.out]; rfl, HX.out.bel⟩
          · skip
            have hb10 : blocks z ≤ 10 := by unfold blocks; omega
            obtain ⟨K, hK⟩ : ∃ K, K = blocks z := ⟨_, rfl⟩
            have HK := Lib.hid (fun w' => hK ▸ rblocks_any z w' (by omega) (by omega))
            rw [← hK] at HB hb10
            clear hK
            go_enter Try.func52, Try.ntmps52
            go_wp2
            go_loop [3, 4] (fun m k => ∃ j : Nat, j ≤ K ∧ k = .int .i64 j ∧ m = .int .i64 ((2 ^ j : Nat) : Int)) (fun _ k => K - (intOf k).toNat)
            case atStart => exact ⟨0, by omega, rfl, rfl⟩
            case round =>
              obtain ⟨j, hj, rfl, rfl⟩ := hrel
              have hp : 2 ^ j ≤ 1024 := Nat.le_trans (Nat.pow_le_pow_right (by omega) (Nat.le_trans hj hb10)) (by decide : 2 ^ 10 ≤ 1024)
              obtain ⟨P, hP⟩ : ∃ P, P = 2 ^ j := ⟨_, rfl⟩
              have HP := Lib.hid hP
              rw [← hP] at hp ⊢
              clear hP
              by_cases hjk : j < K
              · go_wp2_with (go_at_call 53; refine (HK.out _).mono ?_; rintro e w' ⟨rfl, rfl⟩)
                go_round
                case rel => exact ⟨j + 1, by omega, by go_num, int_eq (by rw [Nat.pow_succ, ← HP.out]; omega)⟩
                case measure => simp [intOf]; omega
              · obtain rfl : j = K := by omega
                go_wp2_with (go_at_call 53; refine (HK.out _).mono ?_; rintro e w' ⟨rfl, rfl⟩)
                go_ret
                refine ⟨ret_bool ?_, HX.out.bel⟩
                have hc : ((2 ^ j : Nat) : Int) = (2 : Int) ^ j := by simp
                rw [Bool.eq_iff_iff, HB.out, ← hc, ← HP.out]
                simp
                omega
end Go.Proofs.Ythgmocipiknfpaa.RecA
