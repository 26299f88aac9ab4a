/- Records and stages as they lie in memory, and one that came in; when they are right, by the reference. Conditions: those each law names. When a record, and a stage, is right, by the code; how many blocks a size has. Conditions: the numbers are of 64 bits. Eight steps of the register, in the program, and a byte fed, in the reference. Conditions: the register is one of 32 bits, the byte one of eight. The reference's register behind bytes, and its sum. Conditions: the slice reads as the bytes that are named, the register is one of 32 bits. The reference's answer for a number's bytes. Conditions: the number is one of 64 bits. A sealed sector, by the reference. Conditions: the slice reads as the bytes that are named, at most 60. A table is made: a new block of which the cells are what eight steps make of each byte. No conditions. -/
import Derived.Test.YthgmocipiknfpaaJ03
import Derived.BigQuiet
import Derived.Deep.RegionHeld3
import Derived.Test.YthgmocipiknfpaaJ02
import Derived.Test.YthgmocipiknfpaaJ01
import Derived.StillTailTactics
namespace Go.Proofs.Ythgmocipiknfpaa.RecA
open Go.RowKit Go.Proofs.Ythgmocipiknfpaa.Kit Go.Proofs.Ythgmocipiknfpaa.Byt Go.Proofs.Ythgmocipiknfpaa.Mem Go.Proofs.Ythgmocipiknfpaa.RecM



end Go.Proofs.Ythgmocipiknfpaa.RecA
namespace Go.Proofs.Ythgmocipiknfpaa.RecG
open Go.RowKit Go.Proofs.Ythgmocipiknfpaa.Kit Go.Proofs.Ythgmocipiknfpaa.Byt Go.Proofs.Ythgmocipiknfpaa.Mem Go.Proofs.Ythgmocipiknfpaa.RecM Go.Proofs.Ythgmocipiknfpaa.RecA

theorem below_drewN {B : Nat} {w w' : World} (h : Below B w w') (n : Nat) : Below B w (w'.drewN n) := ⟨h.os, h.tape, h.output, h.size, h.block⟩
def inn (n l m : Int) : Bool := decide (l ≤ n ∧ n ≤ m)
theorem inn_true {n l m : Int} (h : inn n l m = true) : l ≤ n ∧ n ≤ m := by simpa [inn] using h
theorem inn_false {n l m : Int} (h : inn n l m = false) : ¬ (l ≤ n ∧ n ≤ m) := by simpa [inn] using h
theorem within_any (n l m : Int) (w : World) : Calls Try.prog 74 #[.int .i64 n, .int .i64 l, .int .i64 m] w fun e w' => e = .returned (.bool (inn n l m)) ∧ w = w' := by
  unfold inn
  by_cases h : l ≤ n
  · go_enter Try.func74, Try.ntmps74
    go_wp2
    go_ret
    exact ⟨ret_bool (by simp [h]), rfl⟩
  · have h' : ¬ (l ≤ n) := h
    go_enter Try.func74, Try.ntmps74
    go_wp2
    go_ret
    exact ⟨ret_bool (by rw [Bool.eq_iff_iff]; simp; omega), rfl⟩

theorem within_eq {n l m : Int} {b : Bool} (h : inn n l m = b) (w : World) : Calls Try.prog 74 #[.int .i64 n, .int .i64 l, .int .i64 m] w fun e w' => e = .returned (.bool b) ∧ w = w' := h ▸ within_any n l m w
theorem within_q {n l m : Int} {b : Bool} (h : inn n l m = b) (w : World) : Calls Try.prog 74 #[.int .i64 n, .int .i64 l, .int .i64 m] w fun e w' => e = .returned (.bool b) ∧ w' = w := (within_eq h w).mono fun _ _ h => ⟨h.1, h.2.symm⟩
theorem Bx.six {w wr : World} {g : Nat} {t' : TypeId} {p q a c l t : Int} (h : Bx w g t' (rcells ⟨p, q, a, c, l, t⟩) wr) : wr.cell? ⟨g, 0, none⟩ = some (.int .i64 p) ∧ wr.cell? ⟨g, 1, none⟩ = some (.int .i64 q) ∧ wr.cell? ⟨g, 2, none⟩ = some (.int .i64 a) ∧ wr.cell? ⟨g, 3, none⟩ = some (.int .i64 c) ∧ wr.cell? ⟨g, 4, none⟩ = some (.int .i64 l) ∧ wr.cell? ⟨g, 5, none⟩ = some (.int .i64 t) := ⟨h.blk.cell (i := 0) rfl, h.blk.cell (i := 1) rfl, h.blk.cell (i := 2) rfl, h.blk.cell (i := 3) rfl, h.blk.cell (i := 4) rfl, h.blk.cell (i := 5) rfl⟩
/-- How many boots may be left. -/
def most (a c : Int) : Int := if a = c then 0 else 7

/-- The slots that may not be bad. -/
def need (a c : Int) : Int := if a = 0 then (if c = 0 then 1 else 3) else if c = 0 then 3 else 2
theorem and_need {t a c : Int} (ht : 0 ≤ t ∧ t ≤ 3) (ha : a = 0 ∨ a = 1) (hc : c = 0 ∨ c = 1) : (bits .and .i64 t (need a c) == 0) = true ↔ ¬ bitOn t a ∧ ¬ bitOn t c := by
  obtain ⟨k, rfl⟩ : ∃ k : Nat, t = k := ⟨t.toNat, by omega⟩
  have hk : k = 0 ∨ k = 1 ∨ k = 2 ∨ k = 3 := by omega
  rcases hk with rfl | rfl | rfl | rfl <;> rcases ha with rfl | rfl <;> rcases hc with rfl | rfl <;> decide

set_option maxRecDepth 100000 in
set_option maxHeartbeats 400000 in
theorem blocks_any (z : Int) (w : World) (hz : n64 z) : Calls Try.prog 34 #[.int .i64 z] w fun e w' => e = .returned (.int .i64 (blocks z : Nat)) ∧ w = w' := by
  have h0 : -9223372036854775808 ≤ z := hz.1
  have h1 : z ≤ 9223372036854775807 := hz.2
  clear hz
  by_cases h : z < 1
  · have HB := Lib.hid (show 0 = ((blocks z : Nat) : Int) from by unfold blocks; omega)
    go_enter Try.func34, Try.ntmps34
    go_wp2
    go_ret
    exact ⟨ret_int HB.out, rfl⟩
  · have HB := Lib.hid (show (z - 1) / 16 + 1 = ((blocks z : Nat) : Int) from by unfold blocks; omega)
    have ht : (z - 1).tdiv 16 = (z - 1) / 16 := Int.tdiv_eq_ediv_of_nonneg (by omega)
    go_enter Try.func34, Try.ntmps34
    go_wp2
    go_ret
    exact ⟨ret_int HB.out, rfl⟩


theorem run_and (t D : Int) (w : World) : (binOp .and 3 (.int .i64 t) (.int .i64 D)).run Try.prog w = .ok (.int .i64 (bits .and .i64 t D)) w := by
  go_simp
end Go.Proofs.Ythgmocipiknfpaa.RecG
namespace Go.Proofs.Ythgmocipiknfpaa.CrcA
open Go.RowKit Go.Proofs.Ythgmocipiknfpaa.Kit Go.Proofs.Ythgmocipiknfpaa.CrcM

theorem and1 {y : Nat} (hy : y < 4294967296) : bits .and .u32 (y : Int) 1 = ((y % 2 : Nat) : Int) := by
  have := u32_and_nat y 1 hy (by decide)
  rw [nat_mask1] at this
  exact this
theorem xorP {y : Nat} (hy : y < 4294967296) : bits .xor .u32 ((y : Int) / 2) 3988292384 = ((y / 2 ^^^ 3988292384 : Nat) : Int) := by
  have := u32_xor_nat (y / 2) 3988292384 (by omega) (by decide)
  rw [← this]
  simp
theorem odd_step {y : Nat} (hy : y < 4294967296) (h : (bits .and .u32 (y : Int) 1 == 1) = true) : bits .xor .u32 ((y : Int) / 2) 3988292384 = (stp y : Nat) := by
  rw [and1 hy] at h
  have h : y % 2 = 1 := by simp at h; omega
  rw [xorP hy]
  unfold stp
  rw [if_pos h]
theorem even_step {y : Nat} (hy : y < 4294967296) (h : (bits .and .u32 (y : Int) 1 == 1) = false) : (y : Int) / 2 = (stp y : Nat) := by
  rw [and1 hy] at h
  have h : ¬ y % 2 = 1 := by simp at h; omega
  unfold stp
  rw [if_neg h]
  omega
theorem int_eq {k : IntKind} {a b : Int} (h : a = b) : Value.int k a = Value.int k b := by rw [h]

set_option maxRecDepth 100000 in
set_option maxHeartbeats 400000 in
theorem eight_any (x : Nat) (w : World) (hx : x < 4294967296) : Calls Try.prog 89 #[.int .u32 (x : Nat)] w fun e w' => e = .returned (.int .u32 (s8 x : Nat)) ∧ w = w' := by
  go_enter Try.func89, Try.ntmps89
  go_wp2
  go_loop [0, 4] (fun s i => ∃ k : Nat, k ≤ 8 ∧ i = .int .i64 k ∧ s = .int .u32 (it k x : Nat)) (fun _ i => 8 - (intOf i).toNat)
  case atStart => exact ⟨0, by omega, rfl, rfl⟩
  case round =>
    obtain ⟨k, hk, rfl, rfl⟩ := hrel
    have hy := it_lt k hx
    have hs : Hid (it (k + 1) x = stp (it k x)) := Lib.hid rfl
    have h8 : Hid (k = 8 → s8 x = it k x) := Lib.hid fun h => by rw [h]; rfl
    generalize it k x = y at *
    by_cases hlt : k < 8
    · go_wp2
      all_goals
        go_round
        case rel => exact ⟨k + 1, by omega, by go_num, int_eq (by rw [hs.out]; first | exact odd_step hy ‹_› | exact even_step hy ‹_›)⟩
        case measure => simp [intOf]; omega
    · go_wp2
      go_ret
      exact ⟨ret_int (by rw [h8.out (by omega)]), rfl⟩

theorem rem_odd {y : Nat} (h : ((y : Int) % 2 == 1) = true) (hy : y < 4294967296) : bits .xor .u32 ((y : Int) / 2) 3988292384 = (stp y : Nat) := by
  have h : y % 2 = 1 := by simp at h; omega
  rw [xorP hy]
  unfold stp
  rw [if_pos h]
theorem rem_even {y : Nat} (h : ((y : Int) % 2 == 1) = false) : (y : Int) / 2 = (stp y : Nat) := by
  have h : ¬ y % 2 = 1 := by simp at h; omega
  unfold stp
  rw [if_neg h]
  omega
theorem xor32 {x y : Nat} (hx : x < 4294967296) (hy : y < 4294967296) : bits .xor .u32 (x : Int) (y : Int) = ((x ^^^ y : Nat) : Int) := u32_xor_nat x y hx hy


end Go.Proofs.Ythgmocipiknfpaa.CrcA
namespace Go.Proofs.Ythgmocipiknfpaa.CrcB
open Go.RowKit Go.Proofs.Ythgmocipiknfpaa.Kit Go.Proofs.Ythgmocipiknfpaa.Byt Go.Proofs.Ythgmocipiknfpaa.CrcM Go.Proofs.Ythgmocipiknfpaa.CrcA



end Go.Proofs.Ythgmocipiknfpaa.CrcB
namespace Go.Proofs.Ythgmocipiknfpaa.NumR
open Go.RowKit Go.Proofs.Ythgmocipiknfpaa.Kit Go.Proofs.Ythgmocipiknfpaa.NumA Go.Proofs.Ythgmocipiknfpaa.NumB


theorem ret_fresh {w w' : World} {xs ys : List Int} {A : Option Addr} {n c : Nat} (h : w'.ownsRow w.heap.size 5 1 (.slice A n c) n (u8s xs)) (hb : Below w.heap.size w w') (he : xs = ys) : Fresh w ys (.returned (.slice A n c)) w' := by
  subst he
  exact Fresh.of h hb
theorem be_zero (k : Nat) : be k 0 = List.replicate k 0 := by
  apply List.ext_getElem
  · simp [be_len]
  · intro i h1 h2
    simp [be]

/-- What the reference's first loop has made when it stands at place m - 1. -/
def Part (k : Nat) (q : Int) (m : Nat) (cs : List Int) : Prop := cs.length = k ∧ ∀ j, (h : j < cs.length) → cs[j] = if m ≤ j then q / 2 ^ (8 * (k - 1 - j)) % 256 else 0

theorem r_next {k m r : Nat} {n : Int} (hm : m ≤ k) (h0 : 1 ≤ m) (hr : (r : Int) = n / 2 ^ (8 * (k - m))) : ((r / 256 : Nat) : Int) = n / 2 ^ (8 * (k - (m - 1))) := by
  have e : 8 * (k - (m - 1)) = 8 * (k - m) + 8 := by omega
  rw [e, Int.pow_add, ← Int.ediv_ediv_of_nonneg (by exact Int.le_of_lt (Int.pow_pos (by omega))), ← hr]
  simp
theorem Part.next {k m r : Nat} {n : Int} {cs : List Int} (h : Part k n m cs) (h0 : 1 ≤ m) (hm : m ≤ k) (hr : (r : Int) = n / 2 ^ (8 * (k - m))) : Part k n (m - 1) (cs.set (m - 1) ((r : Int) % 256)) := by
  refine ⟨by rw [List.length_set]; exact h.1, fun j hj => ?_⟩
  rw [List.getElem_set]
  by_cases e : m - 1 = j
  · subst e
    rw [if_pos rfl, if_pos (Nat.le_refl _), hr]
    congr 3
    omega
  · rw [if_neg e, h.2 j (by simpa using hj)]
    by_cases h1 : m ≤ j
    · rw [if_pos h1, if_pos (by omega)]
    · rw [if_neg h1, if_neg (by omega)]
theorem Part.all {k : Nat} {n : Int} {cs : List Int} (h : Part k n 0 cs) (hn : 0 ≤ n) : cs = be k n.toNat := by
  apply List.ext_getElem
  · rw [h.1, be_len]
  · intro i h1 h2
    rw [h.2 i h1, if_pos (Nat.zero_le _)]
    simp only [be, List.getElem_map, List.getElem_range]
    rw [Int.natCast_emod, Int.natCast_ediv, ipow, Int.toNat_of_nonneg hn]
    rfl
theorem Part.done {k : Nat} {n : Int} {cs : List Int} (h : Part k n 0 cs) (hn : 0 ≤ n) (hr : ((0 : Nat) : Int) = n / 2 ^ (8 * (k - 0))) : cs = be k (cl k n) := by
  rw [Part.all h hn]
  congr 1
  unfold cl
  have p := pow_pos' k
  rw [Nat.sub_zero, ← ipow] at hr
  have : n < ((2 ^ (8 * k) : Nat) : Int) := by
    have := Int.lt_mul_of_ediv_lt (a := n) (b := 1) (c := ((2 ^ (8 * k) : Nat) : Int)) (by omega) (by omega)
    omega
  omega

def Top (k j : Nat) (cs : List Int) : Prop := cs.length = k ∧ ∀ i, (h : i < cs.length) → i < j → cs[i] = 255
theorem Top.next {k j : Nat} {cs : List Int} (h : Top k j cs) : Top k (j + 1) (cs.set j 255) := by
  refine ⟨by rw [List.length_set]; exact h.1, fun i hi hij => ?_⟩
  rw [List.getElem_set]
  by_cases e : j = i
  · rw [if_pos e]
  · rw [if_neg e]
    exact h.2 i (by simpa using hi) (by omega)
theorem be_top {k : Nat} (h : k ≤ 6) : be k (2 ^ (8 * k) - 1) = List.replicate k 255 := by
  match k, h with
  | 0, _ => rfl
  | 1, _ => rfl
  | 2, _ => rfl
  | 3, _ => rfl
  | 4, _ => rfl
  | 5, _ => rfl
  | 6, _ => rfl
theorem Top.done {k r : Nat} {n : Int} {cs : List Int} (h : Top k k cs) (hk : k ≤ 6) (h0 : 0 < r) (hr : (r : Int) = n / 2 ^ (8 * (k - 0))) : cs = be k (cl k n) := by
  have p := pow_pos' k
  have e : cl k n = 2 ^ (8 * k) - 1 := by
    unfold cl
    rw [Nat.sub_zero, ← ipow] at hr
    have : ((2 ^ (8 * k) : Nat) : Int) ≤ n := by
      rcases Int.lt_or_le n ((2 ^ (8 * k) : Nat) : Int) with h1 | h1
      · have h2 : n / ((2 ^ (8 * k) : Nat) : Int) < 1 := Int.ediv_lt_of_lt_mul (by omega) (by omega)
        omega
      · exact h1
    omega
  rw [e, be_top hk]
  apply List.ext_getElem
  · simpa using h.1
  · intro i h1 h2
    rw [h.2 i h1 (by have := h.1; omega)]
    simp


end Go.Proofs.Ythgmocipiknfpaa.NumR
namespace Go.Proofs.Ythgmocipiknfpaa.RecC
open Go.RowKit Go.Proofs.Ythgmocipiknfpaa.Kit Go.Proofs.Ythgmocipiknfpaa.Byt Go.Proofs.Ythgmocipiknfpaa.Mem Go.Proofs.Ythgmocipiknfpaa.RecM Go.Proofs.Ythgmocipiknfpaa.RecA

/-- New memory of one's own, and all that was there. -/
def Gives (w : World) (xs : List Nat) (e : Ending) (w' : World) : Prop := ∃ B m d, e = .returned (.slice B m d) ∧ w'.ownsRow w.heap.size 5 1 (.slice B m d) m (u8n xs) ∧ Below w.heap.size w w'
theorem own_mono {w : World} {b b' : Nat} {e : TypeId} {v : Value} {n : Nat} {xs : List Value} (h : w.ownsRow b' e 1 v n xs) (hb : b ≤ b') : w.ownsRow b e 1 v n xs := by
  refine ⟨h.1, ?_⟩
  rcases h.2 with h1 | ⟨g, cap, cur, hv, hg, hrest⟩
  · exact .inl h1
  · exact .inr ⟨g, cap, cur, hv, by omega, hrest⟩
theorem set_next {xs : List Nat} {j m : Nat} (h : j < xs.length) (hm : 0 < m) : (xs.take j ++ List.replicate m 0).set j xs[j] = xs.take (j + 1) ++ List.replicate (m - 1) 0 := by
  obtain ⟨k, rfl⟩ : ∃ k, m = k + 1 := ⟨m - 1, by omega⟩
  have hl : (xs.take j).length = j := by simp; omega
  rw [List.set_append_right _ _ (by omega), hl, Nat.sub_self, List.replicate_succ, List.set_cons_zero, List.take_succ_eq_append_getElem h, List.append_assoc]
  rfl
theorem u8n_set' (xs : List Nat) (k y : Nat) : (u8n xs).set k (.int .u8 (y : Int)) = u8n (xs.set k y) := by simp [u8n, List.map_set]

end Go.Proofs.Ythgmocipiknfpaa.RecC
namespace Go.Proofs.Ythgmocipiknfpaa.CrcC
open Go.RowKit Go.Proofs.Ythgmocipiknfpaa.Kit Go.Proofs.Ythgmocipiknfpaa.Byt Go.Proofs.Ythgmocipiknfpaa.CrcM Go.Proofs.Ythgmocipiknfpaa.CrcA Go.Proofs.Ythgmocipiknfpaa.CrcB

/-- The table's cells when the first k are laid. -/
def row (k : Nat) : List Value := (List.range 256).map fun i : Nat => Value.int .u32 ((if i < k then s8 i else 0 : Nat) : Int)
def Tb (w : World) (g k : Nat) : Prop := w.heap[g]? = some (.cells (row k).toArray 128 (0, 0))
theorem row_len (k : Nat) : (row k).length = 256 := by simp [row]
theorem row_set {k : Nat} (_h : k < 256) : (row k).set k (.int .u32 (s8 k : Nat)) = row (k + 1) := by
  apply List.ext_getElem
  · simp [row]
  · intro i h1 h2
    simp only [row, List.getElem_set, List.getElem_map, List.getElem_range]
    by_cases e : k = i
    · subst e
      simp
    · rw [if_neg e]
      congr 2
      by_cases h3 : i < k
      · rw [if_pos h3, if_pos (by omega)]
      · rw [if_neg h3, if_neg (by omega)]
theorem Tb.cell {w : World} {g k i : Nat} (h : Tb w g k) (hi : i < 256) : w.cell? ⟨g, i, none⟩ = some (.int .u32 ((if i < k then s8 i else 0 : Nat) : Int)) := by
  rw [cell_of_row w g i _ _ _ h]
  simp [row, hi]
theorem Tb.frozen {w : World} {g k : Nat} (h : Tb w g k) (i : Nat) : w.frozen? ⟨g, i, none⟩ = false := frozen_of_row w g i _ _ h
theorem Tb.set {w : World} {g k : Nat} (h : Tb w g k) (hk : k < 256) : Tb (w.setCell ⟨g, k, none⟩ (.int .u32 (s8 k : Nat))) g (k + 1) := by
  unfold Tb
  rw [heap_setCell_same w g k _ _ _ h, List.setIfInBounds_toArray, row_set hk]

theorem zero_table (w : World) : (zeroValue 128).run Try.prog w = .ok (.agg (row 0).toArray) w := by kernel_rfl

set_option maxRecDepth 100000 in
set_option maxHeartbeats 1000000 in
theorem make_any (w : World) : Calls Try.prog 82 #[] w fun e w' => e = .returned (.pointer (some ⟨w.heap.size, 0, none⟩)) ∧ Tb w' w.heap.size 256 ∧ Below w.heap.size w w' ∧ w'.heap.size = w.heap.size + 1 := by
  have hz := zero_table
  have H0 : Hid (∀ Z : Array Value, Z = (row 0).toArray → Tb (w.alloc (.cells Z 128)) w.heap.size 0) := Lib.hid fun Z h => by rw [h]; exact heap_alloc_new w _
  have hb0 : Below w.heap.size w (w.alloc (.cells (row 0).toArray 128)) := (Below.refl _ _).alloc (Nat.le_refl _) _
  generalize hZ : (row 0).toArray = Z at *
  have H0 := Lib.hid (H0.out Z rfl)
  go_enter Try.func82, Try.ntmps82
  go_wp2
  clear hz hZ
  go_loopw [4, 2] (fun i _ wr => ∃ k : Nat, k ≤ 256 ∧ i = .int .i64 k ∧ Hid (Tb wr w.heap.size k) ∧ Below w.heap.size w wr ∧ Hid (wr.heap.size = w.heap.size + 1)) (fun i _ _ => 256 - (intOf i).toNat)
  case atStart => exact ⟨0, by omega, rfl, H0, hb0, Lib.hid (by simp)⟩
  case round =>
    obtain ⟨k, hk, rfl, hT, hb, hs⟩ := hrel
    clear hb0 H0
    by_cases hlt : k < 256
    · have hc := Tb.cell hT.out hlt
      have hf := Tb.frozen hT.out k
      go_wp2
      have h32 : IntKind.u32.wrap (k : Int) = (k : Int) := by rw [IntKind.wrap_u32]; omega
      go_still_tail 7, (by kernel_rfl)
      refine wpStill_step (fun K hK => ?_)
      go_simp
      refine ⟨_, (eight_any k _ (by omega)).mono (fun e w' h => ⟨h.1, h.2.symm⟩), hK _ ?_⟩
      clear hK K
      repeat still_step
      refine wpStill_nil ?_
      change wpList _ _ _ _ _ wr.drew
      have hc' := hc
      have hf' := hf
      have hT' : Hid (Tb (wr.drew.setCell ⟨w.heap.size, k, none⟩ (.int .u32 (s8 k : Nat))) w.heap.size (k + 1)) := Lib.hid (Tb.set (w := wr.drew) hT.out hlt)
      have hb' : Hid (Below w.heap.size w (wr.drew.setCell ⟨w.heap.size, k, none⟩ (.int .u32 (s8 k : Nat)))) := Lib.hid ((below_drewN hb 1).setCell (by simp) _)
      generalize s8 k = z at *
      clear hc hf
      go_wp2
      go_roundw
      case rel => exact ⟨k + 1, by omega, by go_num, hT', hb'.out, Lib.hid (by simpa using hs.out)⟩
      case measure => simp [intOf]; omega
    · go_wp2
      go_ret
      obtain rfl : k = 256 := by omega
      exact ⟨rfl, hT.out, hb, hs.out⟩

end Go.Proofs.Ythgmocipiknfpaa.CrcC
