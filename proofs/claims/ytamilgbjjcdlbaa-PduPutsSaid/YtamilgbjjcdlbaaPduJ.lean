/- What is read of a message's fields, by the code. Conditions: the reader lies as the facts say. -/
import Derived.Test.YtamilgbjjcdlbaaPduI
import Derived.Test.YtamilgbjjcdlbaaBytR
import Derived.Test.YtamilgbjjcdlbaaPduE
namespace Go.Proofs.Ytamilgbjjcdlbaa.PduJ
open Go.RowKit Go.Proofs.Ytamilgbjjcdlbaa.Kit Go.Proofs.Ytamilgbjjcdlbaa.Byt Go.Proofs.Ytamilgbjjcdlbaa.Mem Go.Proofs.Ytamilgbjjcdlbaa.RecM Go.Proofs.Ytamilgbjjcdlbaa.TabR Go.Proofs.Ytamilgbjjcdlbaa.BytR Go.Proofs.Ytamilgbjjcdlbaa.PduM Go.Proofs.Ytamilgbjjcdlbaa.PduR Go.Proofs.Ytamilgbjjcdlbaa.PduA Go.Proofs.Ytamilgbjjcdlbaa.PduG Go.Proofs.Ytamilgbjjcdlbaa.PduH

/-- The reader's state behind so many fields, and what is read of one. -/
def stt (G : Nat → Nat) (s : List Int × Int) : Nat → List Int × Int
  | 0 => s
  | j + 1 => if 0 < G j then (rdN (G j) (stt G s j).1 (stt G s j).2).2 else stt G s j
def val (G : Nat → Nat) (s : List Int × Int) (j : Nat) : Int := if 0 < G j then (rdN (G j) (stt G s j).1 (stt G s j).2).1 else 0
def octs (s : List Int × Int) : Prop := ∀ u ∈ s.1, 0 ≤ u ∧ u ≤ 255
theorem stt_octs {G : Nat → Nat} {s : List Int × Int} (h : octs s) (j : Nat) : octs (stt G s j) := by
  induction j with
  | zero => exact h
  | succ j ih =>
    unfold stt
    split
    · exact rdN_bytes ih
    · exact ih
theorem wd_of {q : Nat} (h0 : 0 < q) (h2 : q ≤ 2) : NumA.wd (q : Nat) = q := by
  obtain rfl | rfl : q = 1 ∨ q = 2 := by omega
  · rfl
  · rfl
theorem num_j {G : Nat → Nat} {s : List Int × Int} {j rb : Nat} {w : World} (h0 : 0 < G j) (h2 : G j ≤ 2) (hb : octs s) (h : St w rb (stt G s j).1 (stt G s j).2) :
    Calls Try.prog 29 #[.pointer (some ⟨rb, 0, none⟩), .int .i64 (G j : Nat)] w fun e w' => e = .returned (.int .i64 (val G s j)) ∧ St w' rb (stt G s (j + 1)).1 (stt G s (j + 1)).2 ∧ w.grownBy w' (some rb) := by
  refine (num_any rb (G j : Nat) _ _ w h (stt_octs hb j)).mono ?_
  rintro e w' ⟨he, h1, hg⟩
  rw [wd_of h0 h2] at he h1
  refine ⟨?_, ?_, hg⟩
  · rw [he, val, if_pos h0]
  · rw [stt, if_pos h0]
    exact h1
/-- The numbers that stand in memory behind so many fields. -/
def got (G : Nat → Nat) (s : List Int × Int) (j : Nat) : List Value := (List.range 7).map fun l => Value.int .i64 (if l < j then val G s l else 0)
theorem got_len (G : Nat → Nat) (s : List Int × Int) (j : Nat) : (got G s j).length = 7 := by simp [got]
theorem got_at (G : Nat → Nat) (s : List Int × Int) (j : Nat) {l : Nat} (h : l < 7) : (got G s j)[l]? = some (.int .i64 (if l < j then val G s l else 0)) := by
  simp [got, h]
theorem got_next (G : Nat → Nat) (s : List Int × Int) {j : Nat} (h : j < 7) : (got G s j).set j (.int .i64 (val G s j)) = got G s (j + 1) := by
  refine List.ext_getElem? fun l => ?_
  rw [List.getElem?_set, got_len]
  by_cases hl : l < 7
  · rw [got_at G s j hl, got_at G s (j + 1) hl]
    by_cases e : j = l
    · subst e
      rw [if_pos rfl, if_pos h, if_pos (by omega)]
    · rw [if_neg e]
      by_cases h1 : l < j
      · rw [if_pos h1, if_pos (by omega)]
      · rw [if_neg h1, if_neg (by omega)]
  · have h1 : (got G s j)[l]? = none := by rw [List.getElem?_eq_none]; rw [got_len]; omega
    have h2 : (got G s (j + 1))[l]? = none := by rw [List.getElem?_eq_none]; rw [got_len]; omega
    rw [h1, h2, if_neg (by omega)]
theorem got_same (G : Nat → Nat) (s : List Int × Int) {j : Nat} (h : j < 7) (h0 : ¬ 0 < G j) : got G s (j + 1) = got G s j := by
  rw [← got_next G s h, show val G s j = 0 from if_neg h0]
  refine List.ext_getElem? fun l => ?_
  rw [List.getElem?_set, got_len]
  by_cases e : j = l
  · subst e
    rw [if_pos rfl, if_pos h, got_at G s j h, if_neg (by omega)]
  · rw [if_neg e]

/-- The boxes of the widths, of the result, of the numbers; the reader. -/
structure Fr (w : World) (rb : Nat) (W : List Value) (G : Nat → Nat) (s : List Int × Int) (j : Nat) (wr : World) : Prop where
  b5 : Blk wr w.heap.size 42 W
  b6 : Blk wr (w.heap.size + 1) 24 Pu.none.cells
  b7 : Blk wr (w.heap.size + 1 + 1) 46 (got G s j)
  st : St wr rb (stt G s j).1 (stt G s j).2
  keep : Keep (fun i => i = rb) w wr
  lt : rb < w.heap.size
  sz : w.heap.size + 3 ≤ wr.heap.size
section
variable {w wr w' : World} {rb : Nat} {W : List Value} {G : Nat → Nat} {s : List Int × Int} {j : Nat}
theorem Fr.num (h : Fr w rb W G s j wr) (hst : St w' rb (stt G s (j + 1)).1 (stt G s (j + 1)).2) (hg : wr.grownBy w' (some rb)) (hj : j < 7) : Fr w rb W G s (j + 1) (w'.setCell ⟨w.heap.size + 1 + 1, j, none⟩ (.int .i64 (val G s j))) := by
  have hlt := h.lt
  have k1 : Keep (fun i => i = rb) wr w' := Keep.grown hg fun i hi => by injection hi with hi; exact hi.symm
  have k2 : Keep (fun i => i = w.heap.size + 1 + 1) w' (w'.setCell ⟨w.heap.size + 1 + 1, j, none⟩ (.int .i64 (val G s j))) := Keep.set (F := fun i => i = w.heap.size + 1 + 1) w' j _ rfl
  have k3 : Keep (fun i => i = rb) w w' := h.keep.trans k1 (fun k hk => .inl hk)
  refine ⟨k2.blk (k1.blk h.b5 (by show ¬ w.heap.size = rb; omega)) (by show ¬ w.heap.size = w.heap.size + 1 + 1; omega), k2.blk (k1.blk h.b6 (by show ¬ w.heap.size + 1 = rb; omega)) (by show ¬ w.heap.size + 1 = w.heap.size + 1 + 1; omega), ?_, St.keep hst k2 (fun i hi => by have : i = w.heap.size + 1 + 1 := hi; omega), k3.trans k2 (fun k hk => .inr (by have : k = w.heap.size + 1 + 1 := hk; omega)), hlt, ?_⟩
  · rw [← got_next G s hj]
    exact (k1.blk h.b7 (by show ¬ w.heap.size + 1 + 1 = rb; omega)).set j _
  · have h1 := k1.size
    have h2 := k2.size
    have h3 := h.sz
    omega
theorem Fr.skip (h : Fr w rb W G s j wr) (hj : j < 7) (h0 : ¬ 0 < G j) : Fr w rb W G s (j + 1) wr :=
  ⟨h.b5, h.b6, by rw [got_same G s hj h0]; exact h.b7, by rw [stt, if_neg h0]; exact h.st, h.keep, h.lt, h.sz⟩
end
theorem stt_next {G : Nat → Nat} {s : List Int × Int} {j : Nat} (h0 : ¬ 0 < G j) : stt G s (j + 1) = stt G s j := if_neg h0

/-- What is read of the data. -/
def dat (G : Nat → Nat) (s : List Int × Int) : List Int × List Int × Int := if 0 < G 7 then rby (G 7) (stt G s 7).1 (stt G s 7).2 else ([], stt G s 7)
theorem rby_octs {k : Nat} {xs : List Int} {e : Int} (h : ∀ u ∈ xs, 0 ≤ u ∧ u ≤ 255) : ∀ u ∈ (rby k xs e).1, 0 ≤ u ∧ u ≤ 255 := by
  unfold rby
  split
  · intro u hu; cases hu
  · split
    · exact fun u hu => h u (List.mem_of_mem_take hu)
    · intro u hu; cases hu
theorem u8s_nat {ys : List Int} (h : ∀ u ∈ ys, 0 ≤ u ∧ u ≤ 255) : NumA.u8s ys = u8n (ys.map Int.toNat) := by
  simp only [NumA.u8s, u8n, List.map_map]
  refine List.map_congr_left fun u hu => ?_
  have := h u hu
  simp; omega
theorem nat_byt {ys : List Int} (h : ∀ u ∈ ys, 0 ≤ u ∧ u ≤ 255) : byt (ys.map Int.toNat) := by
  intro c hc
  obtain ⟨u, hu, rfl⟩ := List.mem_map.1 hc
  have := h u hu
  omega
/-- A message of these fields, the reader behind it, and all else as it was. -/
def Reads (w : World) (rb : Nat) (k : Int) (G : Nat → Nat) (s : List Int × Int) (e : Ending) (w' : World) : Prop :=
  ∃ i : Pu, e = .returned i.val ∧ i.pd = ⟨k, val G s 0, val G s 1, val G s 5, val G s 2, val G s 4, val G s 6, val G s 3, (dat G s).1.map Int.toNat⟩ ∧ i.ok w' ∧ St w' rb (dat G s).2.1 (dat G s).2.2 ∧ Keep (fun i => i = rb) w w'

set_option maxRecDepth 100000 in
set_option maxHeartbeats 3200000 in
theorem read_any (rb : Nat) (k : Int) (W : List Value) (G : Nat → Nat) (s : List Int × Int) (w : World) (hs : St w rb s.1 s.2) (ho : octs s) (hW : W.length = 8) (hG : ∀ j, j < 8 → W[j]? = some (.int .i64 (G j : Nat))) (h2 : ∀ j, j < 7 → G j ≤ 2) (h7 : G 7 ≤ 1000) :
    Calls Try.prog 30 #[.pointer (some ⟨rb, 0, none⟩), .int .i64 k, .agg W.toArray] w (Reads w rb k G s) := by
  have HG := Lib.hid hG
  have H2 := Lib.hid h2
  have HO := Lib.hid ho
  have HF0 : Hid (Fr w rb W G s 0 (((w.alloc (.cells W.toArray 42)).alloc (.cells Pu.none.cells.toArray 24)).alloc (.cells (got G s 0).toArray 46))) := by
    have b5 := Blk.new w 42 W
    have s1 : (w.alloc (.cells W.toArray 42)).heap.size = w.heap.size + 1 := by simp
    have b6 := Blk.new (w.alloc (.cells W.toArray 42)) 24 Pu.none.cells
    have s2 : ((w.alloc (.cells W.toArray 42)).alloc (.cells Pu.none.cells.toArray 24)).heap.size = w.heap.size + 1 + 1 := by simp
    have b7 := Blk.new ((w.alloc (.cells W.toArray 42)).alloc (.cells Pu.none.cells.toArray 24)) 46 (got G s 0)
    rw [s1] at b6
    rw [s2] at b7
    have hb : Below w.heap.size w (((w.alloc (.cells W.toArray 42)).alloc (.cells Pu.none.cells.toArray 24)).alloc (.cells (got G s 0).toArray 46)) := (((Below.refl _ _).alloc (Nat.le_refl _) _).alloc (by rw [s1]; omega) _).alloc (by rw [s2]; omega) _
    exact Lib.hid ⟨(b5.alloc _).alloc _, b6.alloc _, b7, St.below hs hb, Keep.of_below hb, St.lt hs, by simp⟩
  clear hs ho hG h2
  go_enter Try.func30, Try.ntmps30
  go_wp2
  go_loopw [10] (fun i wr => ∃ j : Nat, j ≤ 7 ∧ i = .int .i64 j ∧ Hid (Fr w rb W G s j wr)) (fun i _ => 7 - (intOf i).toNat)
  case atStart => exact ⟨0, by omega, rfl, HF0⟩
  case round =>
    obtain ⟨j, hj, rfl, HF⟩ := hrel
    by_cases hlt : j < 7
    · have hc : wr.cell? ⟨w.heap.size, j, none⟩ = some (.int .i64 (G j : Nat)) := HF.out.b5.cell (HG.out j (by omega))
      by_cases h0 : 0 < G j
      · have HN := Lib.hid (num_j (w := wr) (rb := rb) h0 (H2.out j hlt) HO.out HF.out.st)
        have HNX := Lib.hid (fun w' h1 h2 => HF.out.num (w' := w') h1 h2 hlt)
        have HC7 := Lib.hid (fun w' (hg : wr.grownBy w' (some rb)) => show Blk w' (w.heap.size + 1 + 1) 46 (got G s j) from (Keep.grown (F := fun i => i = rb) hg fun i hi => by injection hi with hi; exact hi.symm).blk HF.out.b7 (by have := HF.out.lt; show ¬ w.heap.size + 1 + 1 = rb; omega))
        have HGA := Lib.hid (got_at G s j hlt)
        obtain ⟨q, hq⟩ : ∃ q, q = G j := ⟨_, rfl⟩
        obtain ⟨v, hv⟩ : ∃ v, v = val G s j := ⟨_, rfl⟩
        rw [← hq] at hc HN h0
        rw [← hv] at HN HNX
        have hqi : (0 : Int) < (q : Int) := by omega
        clear hq hv
        go_wp2_with (go_at_call 29; refine (HN.out).mono ?_; rintro e w7 ⟨rfl, hst, hgr⟩; have HX7 := Lib.hid (HNX.out _ hst hgr); have c7 := (HC7.out _ hgr).cell HGA.out; have f7 := (HC7.out _ hgr).frozen j; clear hst hgr)
        go_roundw
        case rel => exact ⟨j + 1, by omega, by go_num, HX7⟩
        case measure => simp [intOf]; omega
      · have HX7 := Lib.hid (HF.out.skip hlt h0)
        obtain ⟨q, hq⟩ : ∃ q, q = G j := ⟨_, rfl⟩
        rw [← hq] at hc h0
        obtain rfl : q = 0 := by omega
        clear hq h0
        go_wp2
        go_roundw
        case rel => exact ⟨j + 1, by omega, by go_num, HX7⟩
        case measure => simp [intOf]; omega
    · obtain rfl : j = 7 := by omega
      have a0 : wr.cell? ⟨w.heap.size + 1 + 1, 0, none⟩ = some (.int .i64 (val G s 0)) := HF.out.b7.cell (got_at G s 7 (by omega))
      have a1 : wr.cell? ⟨w.heap.size + 1 + 1, 1, none⟩ = some (.int .i64 (val G s 1)) := HF.out.b7.cell (got_at G s 7 (by omega))
      have a2 : wr.cell? ⟨w.heap.size + 1 + 1, 2, none⟩ = some (.int .i64 (val G s 2)) := HF.out.b7.cell (got_at G s 7 (by omega))
      have a3 : wr.cell? ⟨w.heap.size + 1 + 1, 3, none⟩ = some (.int .i64 (val G s 3)) := HF.out.b7.cell (got_at G s 7 (by omega))
      have a4 : wr.cell? ⟨w.heap.size + 1 + 1, 4, none⟩ = some (.int .i64 (val G s 4)) := HF.out.b7.cell (got_at G s 7 (by omega))
      have a5 : wr.cell? ⟨w.heap.size + 1 + 1, 5, none⟩ = some (.int .i64 (val G s 5)) := HF.out.b7.cell (got_at G s 7 (by omega))
      have a6 : wr.cell? ⟨w.heap.size + 1 + 1, 6, none⟩ = some (.int .i64 (val G s 6)) := HF.out.b7.cell (got_at G s 7 (by omega))
      have c7 : wr.cell? ⟨w.heap.size, 7, none⟩ = some (.int .i64 (G 7 : Nat)) := HF.out.b5.cell (HG.out 7 (by omega))
      have HD := Lib.hid (show dat G s = if 0 < G 7 then rby (G 7) (stt G s 7).1 (stt G s 7).2 else ([], stt G s 7) from rfl)
      have HS7 := Lib.hid (stt_octs (G := G) HO.out 7)
      obtain ⟨q, hq⟩ : ∃ q, q = G 7 := ⟨_, rfl⟩
      rw [← hq] at c7 HD h7
      clear hq
      obtain ⟨v0, hv0⟩ : ∃ v, v = val G s 0 := ⟨_, rfl⟩
      rw [← hv0] at a0
      have HV0 := Lib.hid hv0
      clear hv0
      obtain ⟨v1, hv1⟩ : ∃ v, v = val G s 1 := ⟨_, rfl⟩
      rw [← hv1] at a1
      have HV1 := Lib.hid hv1
      clear hv1
      obtain ⟨v2, hv2⟩ : ∃ v, v = val G s 2 := ⟨_, rfl⟩
      rw [← hv2] at a2
      have HV2 := Lib.hid hv2
      clear hv2
      obtain ⟨v3, hv3⟩ : ∃ v, v = val G s 3 := ⟨_, rfl⟩
      rw [← hv3] at a3
      have HV3 := Lib.hid hv3
      clear hv3
      obtain ⟨v4, hv4⟩ : ∃ v, v = val G s 4 := ⟨_, rfl⟩
      rw [← hv4] at a4
      have HV4 := Lib.hid hv4
      clear hv4
      obtain ⟨v5, hv5⟩ : ∃ v, v = val G s 5 := ⟨_, rfl⟩
      rw [← hv5] at a5
      have HV5 := Lib.hid hv5
      clear hv5
      obtain ⟨v6, hv6⟩ : ∃ v, v = val G s 6 := ⟨_, rfl⟩
      rw [← hv6] at a6
      have HV6 := Lib.hid hv6
      clear hv6
      have hz0 : w.heap.size < wr.heap.size := by have := HF.out.sz; omega
      have hz1 : w.heap.size + 1 < wr.heap.size := by have := HF.out.sz; omega
      by_cases h0 : 0 < q
      · have hqi : (0 : Int) < (q : Int) := by omega
        have hD : dat G s = rby q (stt G s 7).1 (stt G s 7).2 := by rw [HD.out, if_pos h0]
        have HDX := Lib.hid hD
        have HB := Lib.hid (rby_octs (k := q) (e := (stt G s 7).2) HS7.out)
        clear HD hD
        obtain ⟨D, hD⟩ : ∃ D, D = rby q (stt G s 7).1 (stt G s 7).2 := ⟨_, rfl⟩
        have HN := Lib.hid (show ∀ w', St w' rb (stt G s 7).1 (stt G s 7).2 → Calls Try.prog 42 #[.pointer (some ⟨rb, 0, none⟩), .int .i64 (q : Nat)] w' (Gav w' rb D.1 D.2.1 D.2.2) from by rw [hD]; exact fun w' h => bytes_any rb q _ _ w' h (by omega))
        rw [← hD] at HB HDX
        clear hD
        go_wp2_with fail
        refine (HN.out _ (St.below HF.out.st ((Below.refl _ _).alloc (Nat.le_refl _) _))).mono ?_
        rintro e w8 ⟨A8, n8, d8, rfl, hr8, hst8, hg8, hnew8⟩
        have hlt := HF.out.lt
        have kp8 : Keep (fun i => i = rb) (wr.alloc (.cells #[.int .i64 k, .int .i64 v0, .int .i64 v1, .int .i64 v5, .int .i64 v2, .int .i64 v4, .int .i64 v6, .int .i64 v3, .slice none 0 0] 24)) w8 := Keep.grown hg8 fun i hi => by injection hi with hi; exact hi.symm
        have hB8 : Blk w8 wr.heap.size 24 [.int .i64 k, .int .i64 v0, .int .i64 v1, .int .i64 v5, .int .i64 v2, .int .i64 v4, .int .i64 v6, .int .i64 v3, .slice none 0 0] := kp8.blk (Blk.new wr _ [.int .i64 k, .int .i64 v0, .int .i64 v1, .int .i64 v5, .int .i64 v2, .int .i64 v4, .int .i64 v6, .int .i64 v3, .slice none 0 0]) (by show ¬ wr.heap.size = rb; omega)
        have hR8 : Blk w8 (w.heap.size + 1) 24 Pu.none.cells := kp8.blk (HF.out.b6.alloc _) (by show ¬ w.heap.size + 1 = rb; omega)
        have hK8 : Keep (fun i => i = rb) w w8 := HF.out.keep.trans ((Keep.of_below (F := fun i => i = rb) ((Below.refl wr.heap.size wr).alloc (Nat.le_refl _) _)).trans kp8 (fun k hk => .inl hk)) (fun k hk => .inl hk)
        have hset := hB8.set 8 (.slice A8 n8 d8)
        have kps : Keep (fun i => i = wr.heap.size) w8 (w8.setCell ⟨wr.heap.size, 8, none⟩ (.slice A8 n8 d8)) := Keep.set (F := fun i => i = wr.heap.size) w8 8 _ rfl
        have HBS := Lib.hid (show Blk (w8.setCell ⟨wr.heap.size, 8, none⟩ (.slice A8 n8 d8)) wr.heap.size 24 (Pu.cells ⟨k, v0, v1, v5, v2, v4, v6, v3, A8, n8, d8, D.1.map Int.toNat⟩) from hset)
        have HRS := Lib.hid (kps.blk hR8 (by show ¬ w.heap.size + 1 = wr.heap.size; omega))
        have HST := Lib.hid (St.keep hst8 kps (fun i hi => by have : i = wr.heap.size := hi; omega))
        have HKS := Lib.hid (hK8.trans kps (fun i hi => .inr (by have : i = wr.heap.size := hi; omega)))
        have hs8 : wr.heap.size + 1 ≤ w8.heap.size := by have := kp8.size; simpa using this
        have hnw : 0 < n8 → ∀ b o, A8 = some ⟨b, o, none⟩ → wr.heap.size + 1 ≤ b := fun h b o hA => by have := hnew8 h b o hA; simpa using this
        have HRD := Lib.hid (show Rd (w8.setCell ⟨wr.heap.size, 8, none⟩ (.slice A8 n8 d8)) A8 n8 d8 (u8n (D.1.map Int.toNat)) from by
          rw [← u8s_nat HB.out]
          exact kps.rd hr8 (fun hp b o hA hF => by have := hnw hp b o hA; have : b = wr.heap.size := hF; omega))
        have HNW := Lib.hid hnw
        have c8 := hB8.cell (i := 8) rfl
        have f8 := hB8.frozen 8
        clear hr8 hst8 hg8 hnew8 kp8 hB8 hR8 hK8 hset kps hnw
        go_wp2_with (first
          | (refine wpList_load_blk rfl 24 _ rfl wr.heap.size rfl HBS.out Try.underlying24 rfl size_pdu ?_)
          | (refine wpList_store_blk rfl 24 (.tmp 6) (.tmp 49) rfl (w.heap.size + 1) rfl (Pu.cells ⟨k, v0, v1, v5, v2, v4, v6, v3, A8, n8, d8, D.1.map Int.toNat⟩) rfl HRS.out rfl size_pdu (one_p _) ?_; intro w9 hB9 ho9))
        have e0 := hB9.out.cell (i := 0) rfl
        have e1 := hB9.out.cell (i := 1) rfl
        have e2 := hB9.out.cell (i := 2) rfl
        have e3 := hB9.out.cell (i := 3) rfl
        have e4 := hB9.out.cell (i := 4) rfl
        have e5 := hB9.out.cell (i := 5) rfl
        have e6 := hB9.out.cell (i := 6) rfl
        have e7 := hB9.out.cell (i := 7) rfl
        have e8 := hB9.out.cell (i := 8) rfl
        refine bodyPost_ret (v := Pu.val ⟨k, v0, v1, v5, v2, v4, v6, v3, A8, n8, d8, D.1.map Int.toNat⟩) (by simp [results, Try.results30, go_sem, e0, e1, e2, e3, e4, e5, e6, e7, e8]) rfl ?_
        have k9 := Keep.only (F := fun i => i = w.heap.size + 1) ho9.out rfl
        exact ⟨⟨k, v0, v1, v5, v2, v4, v6, v3, A8, n8, d8, D.1.map Int.toNat⟩, rfl, by rw [HDX.out, ← HV0.out, ← HV1.out, ← HV2.out, ← HV3.out, ← HV4.out, ← HV5.out, ← HV6.out]; rfl, ⟨k9.rd HRD.out (fun hp b o hA hF => by have := HNW.out hp b o hA; have : b = w.heap.size + 1 := hF; omega), nat_byt HB.out⟩, by rw [HDX.out]; exact St.keep HST.out k9 (fun i hi => by have : i = w.heap.size + 1 := hi; omega), HKS.out.trans k9 (fun i hi => .inr (by have : i = w.heap.size + 1 := hi; omega))⟩
      · obtain rfl : q = 0 := by omega
        have hD : dat G s = ([], stt G s 7) := by rw [HD.out, if_neg (by omega)]
        have HDX := Lib.hid hD
        clear HD hD
        go_wp2_with (refine wpList_store_blk rfl 24 (.tmp 6) (.tmp 49) rfl (w.heap.size + 1) rfl (Pu.cells ⟨k, v0, v1, v5, v2, v4, v6, v3, none, 0, 0, []⟩) rfl (HF.out.b6.alloc _) rfl size_pdu (one_p _) ?_; intro w9 hB9 ho9)
        have e0 := hB9.out.cell (i := 0) rfl
        have e1 := hB9.out.cell (i := 1) rfl
        have e2 := hB9.out.cell (i := 2) rfl
        have e3 := hB9.out.cell (i := 3) rfl
        have e4 := hB9.out.cell (i := 4) rfl
        have e5 := hB9.out.cell (i := 5) rfl
        have e6 := hB9.out.cell (i := 6) rfl
        have e7 := hB9.out.cell (i := 7) rfl
        have e8 := hB9.out.cell (i := 8) rfl
        refine bodyPost_ret (v := Pu.val ⟨k, v0, v1, v5, v2, v4, v6, v3, none, 0, 0, []⟩) (by simp [results, Try.results30, go_sem, e0, e1, e2, e3, e4, e5, e6, e7, e8]) rfl ?_
        have hlt := HF.out.lt
        have k8 : Keep (fun i => i = w.heap.size + 1) wr w9 := (Keep.of_below (F := fun i => i = w.heap.size + 1) ((Below.refl wr.heap.size wr).alloc (Nat.le_refl _) _)).trans (Keep.only (F := fun i => i = w.heap.size + 1) ho9.out rfl) (fun k hk => .inl hk)
        exact ⟨⟨k, v0, v1, v5, v2, v4, v6, v3, none, 0, 0, []⟩, rfl, by rw [HDX.out, ← HV0.out, ← HV1.out, ← HV2.out, ← HV3.out, ← HV4.out, ← HV5.out, ← HV6.out]; rfl, ⟨Rd.nil _, by intro c hc; cases hc⟩, by rw [HDX.out]; exact St.keep HF.out.st k8 (fun i hi => by have : i = w.heap.size + 1 := hi; omega), HF.out.keep.trans k8 (fun k hk => .inr (by have : k = w.heap.size + 1 := hk; omega))⟩
end Go.Proofs.Ytamilgbjjcdlbaa.PduJ
