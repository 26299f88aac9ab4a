/- Eight steps of the register, in the program, and a byte fed, in the reference. Conditions: the register is one of 32 bits, the byte one of eight. The reference's register behind bytes, and its sum. Conditions: the slice reads as the bytes that are named, the register is one of 32 bits. The reference's answer for a number's bytes. Conditions: the number is one of 64 bits. A sealed sector, by the reference. Conditions: the slice reads as the bytes that are named, at most 60. A table is made: a new block of which the cells are what eight steps make of each byte. No conditions. -/
import Derived.Test.YtdmfgffjplbloaaJ02
import Derived.Test.YtdmfgffjplbloaaJ01
import Derived.Test.YtdmfgffjplbloaaJ03
import Derived.StillTailTactics
namespace Go.Proofs.Ytdmfgffjplbloaa.CrcA
open Go.RowKit Go.Proofs.Ytdmfgffjplbloaa.Kit Go.Proofs.Ytdmfgffjplbloaa.CrcM

theorem and1 {y : Nat} (hy : y < 4294967296) : bits .and .u32 (y : Int) 1 = ((y % 2 : Nat) : Int) := by
  have := u32_and_nat y 1 hy (by decide)
  rw [nat_mask1] at this
  exact this
theorem xorP {y : Nat} (hy : y < 4294967296) : bits .xor .u32 ((y : Int) / 2) 3988292384 = ((y / 2 ^^^ 3988292384 : Nat) : Int) := by
  have := u32_xor_nat (y / 2) 3988292384 (by omega) (by decide)
  rw [← this]
  simp
theorem odd_step {y : Nat} (hy : y < 4294967296) (h : (bits .and .u32 (y : Int) 1 == 1) = true) : bits .xor .u32 ((y : Int) / 2) 3988292384 = (stp y : Nat) := by
  rw [and1 hy] at h
  have h : y % 2 = 1 := by simp at h; omega
  rw [xorP hy]
  unfold stp
  rw [if_pos h]
theorem even_step {y : Nat} (hy : y < 4294967296) (h : (bits .and .u32 (y : Int) 1 == 1) = false) : (y : Int) / 2 = (stp y : Nat) := by
  rw [and1 hy] at h
  have h : ¬ y % 2 = 1 := by simp at h; omega
  unfold stp
  rw [if_neg h]
  omega
theorem int_eq {k : IntKind} {a b : Int} (h : a = b) : Value.int k a = Value.int k b := by rw [h]

set_option maxRecDepth 100000 in
set_option maxHeartbeats 400000 in
theorem eight_any (x : Nat) (w : World) (hx : x < 4294967296) : Calls Try.prog 73 #[.int .u32 (x : Nat)] w fun e w' => e = .returned (.int .u32 (s8 x : Nat)) ∧ w = w' := by
  go_enter Try.func73, Try.ntmps73
  go_wp2
  go_loop [0, 4] (fun s i => ∃ k : Nat, k ≤ 8 ∧ i = .int .i64 k ∧ s = .int .u32 (it k x : Nat)) (fun _ i => 8 - (intOf i).toNat)
  case atStart => exact ⟨0, by omega, rfl, rfl⟩
  case round =>
    obtain ⟨k, hk, rfl, rfl⟩ := hrel
    have hy := it_lt k hx
    have hs : Hid (it (k + 1) x = stp (it k x)) := Lib.hid rfl
    have h8 : Hid (k = 8 → s8 x = it k x) := Lib.hid fun h => by rw [h]; rfl
    generalize it k x = y at *
    by_cases hlt : k < 8
    · go_wp2
      all_goals
        go_round
        case rel => exact ⟨k + 1, by omega, by go_num, int_eq (by rw [hs.out]; first | exact odd_step hy ‹_› | exact even_step hy ‹_›)⟩
        case measure => simp [intOf]; omega
    · go_wp2
      go_ret
      exact ⟨ret_int (by rw [h8.out (by omega)]), rfl⟩

theorem rem_odd {y : Nat} (h : ((y : Int) % 2 == 1) = true) (hy : y < 4294967296) : bits .xor .u32 ((y : Int) / 2) 3988292384 = (stp y : Nat) := by
  have h : y % 2 = 1 := by simp at h; omega
  rw [xorP hy]
  unfold stp
  rw [if_pos h]
theorem rem_even {y : Nat} (h : ((y : Int) % 2 == 1) = false) : (y : Int) / 2 = (stp y : Nat) := by
  have h : ¬ y % 2 = 1 := by simp at h; omega
  unfold stp
  rw [if_neg h]
  omega
theorem xor32 {x y : Nat} (hx : x < 4294967296) (hy : y < 4294967296) : bits .xor .u32 (x : Int) (y : Int) = ((x ^^^ y : Nat) : Int) := u32_xor_nat x y hx hy

set_option maxRecDepth 100000 in
set_option maxHeartbeats 400000 in
theorem feed_any (x c : Nat) (w : World) (hx : x < 4294967296) (hc : c < 256) : Calls Try.prog 79 #[.int .u32 (x : Nat), .int .u8 (c : Nat)] w fun e w' => e = .returned (.int .u32 (fb x c : Nat)) ∧ w = w' := by
  have hz : x ^^^ c < 4294967296 := Nat.xor_lt_two_pow (n := 32) hx (by omega)
  have hxor := xor32 hx (show c < 4294967296 by omega)
  have hf : Hid (fb x c = s8 (x ^^^ c)) := Lib.hid rfl
  generalize x ^^^ c = z at *
  go_enter Try.func79, Try.ntmps79
  go_wp2
  clear hxor
  go_loop [0, 5] (fun s i => ∃ k : Nat, k ≤ 8 ∧ i = .int .i64 k ∧ s = .int .u32 (it k z : Nat)) (fun _ i => 8 - (intOf i).toNat)
  case atStart => exact ⟨0, by omega, rfl, rfl⟩
  case round =>
    obtain ⟨k, hk, rfl, rfl⟩ := hrel
    have hy := it_lt k hz
    have hs : Hid (it (k + 1) z = stp (it k z)) := Lib.hid rfl
    have h8 : Hid (k = 8 → s8 z = it k z) := Lib.hid fun h => by rw [h]; rfl
    generalize it k z = y at *
    by_cases hlt : k < 8
    · go_wp2
      all_goals
        go_round
        case rel => exact ⟨k + 1, by omega, by go_num, int_eq (by rw [hs.out]; first | exact rem_odd ‹_› hy | exact rem_even ‹_›)⟩
        case measure => simp [intOf]; omega
    · go_wp2
      go_ret
      exact ⟨ret_int (by rw [hf.out, h8.out (by omega)]), rfl⟩

end Go.Proofs.Ytdmfgffjplbloaa.CrcA
namespace Go.Proofs.Ytdmfgffjplbloaa.CrcB
open Go.RowKit Go.Proofs.Ytdmfgffjplbloaa.Kit Go.Proofs.Ytdmfgffjplbloaa.Byt Go.Proofs.Ytdmfgffjplbloaa.CrcM Go.Proofs.Ytdmfgffjplbloaa.CrcA

set_option maxRecDepth 100000 in
set_option maxHeartbeats 400000 in
theorem rfd_any (A : Option Addr) (n c : Nat) (xs : List Nat) (x : Nat) (w : World) (hr : Rd w A n c (u8n xs)) (hb : ∀ c ∈ xs, c < 256) (hx : x < 4294967296) :
    Calls Try.prog 72 #[.int .u32 (x : Nat), .slice A n c] w fun e w' => e = .returned (.int .u32 (fd x xs : Nat)) ∧ w = w' := by
  obtain rfl := Rd.nats hr
  have lx : xs.length ≤ 9223372036854775807 := by have := hr.le; have := hr.cap; omega
  go_enter Try.func72, Try.ntmps72
  go_wp2
  go_loop [0, 5] (fun s i => ∃ k : Nat, k ≤ xs.length ∧ i = .int .i64 k ∧ s = .int .u32 (fd x (xs.take k) : Nat)) (fun _ i => xs.length - (intOf i).toNat)
  case atStart => exact ⟨0, Nat.zero_le _, rfl, by rw [List.take_zero, fd_nil]⟩
  case round =>
    obtain ⟨k, hk, rfl, rfl⟩ := hrel
    have hy : fd x (xs.take k) < 4294967296 := fd_lt hx fun c hc => hb c (List.mem_of_mem_take hc)
    by_cases hlt : k < xs.length
    · obtain ⟨b, o, rfl, hc⟩ := Rd.nat hr hlt
      have hs : Hid (fd x (xs.take (k + 1)) = fb (fd x (xs.take k)) xs[k]) := Lib.hid (by rw [take_snoc hlt, fd_snoc])
      have hbk := hb xs[k] (List.getElem_mem hlt)
      generalize fd x (xs.take k) = y at *
      go_wp2_with (go_at_call 79; refine (feed_any y xs[k] _ hy hbk).mono ?_; rintro e w' ⟨rfl, rfl⟩)
      go_round
      case rel => exact ⟨k + 1, by omega, by go_num, by rw [hs.out]⟩
      case measure => simp [intOf]; omega
    · have he : Hid (xs.take k = xs) := Lib.hid (List.take_of_length_le (by omega))
      go_wp2
      go_ret
      exact ⟨ret_int (by rw [he.out]), rfl⟩

theorem rsum_any (A : Option Addr) (n c : Nat) (xs : List Nat) (w : World) (hr : Rd w A n c (u8n xs)) (hb : ∀ c ∈ xs, c < 256) :
    Calls Try.prog 62 #[.slice A n c] w fun e w' => e = .returned (.int .u32 (sm xs : Nat)) ∧ w = w' := by
  have hs : Hid (sm xs = 4294967295 - fd 4294967295 xs) := Lib.hid rfl
  have hl := fd_lt (x := 4294967295) (by decide) hb
  have hF := rfd_any A n c xs 4294967295 w hr hb (by decide)
  generalize fd 4294967295 xs = y at *
  have HF := Lib.hid hF
  clear hF
  go_enter Try.func62, Try.ntmps62
  go_wp2_with (go_at_call 72; refine (HF.out).mono ?_; rintro e w' ⟨rfl, rfl⟩)
  go_ret
  exact ⟨ret_int (by rw [hs.out]; omega), rfl⟩

end Go.Proofs.Ytdmfgffjplbloaa.CrcB
namespace Go.Proofs.Ytdmfgffjplbloaa.NumR
open Go.RowKit Go.Proofs.Ytdmfgffjplbloaa.Kit Go.Proofs.Ytdmfgffjplbloaa.NumA Go.Proofs.Ytdmfgffjplbloaa.NumB


theorem ret_fresh {w w' : World} {xs ys : List Int} {A : Option Addr} {n c : Nat} (h : w'.ownsRow w.heap.size 5 1 (.slice A n c) n (u8s xs)) (hb : Below w.heap.size w w') (he : xs = ys) : Fresh w ys (.returned (.slice A n c)) w' := by
  subst he
  exact Fresh.of h hb
theorem be_zero (k : Nat) : be k 0 = List.replicate k 0 := by
  apply List.ext_getElem
  · simp [be_len]
  · intro i h1 h2
    simp [be]

/-- What the reference's first loop has made when it stands at place m - 1. -/
def Part (k : Nat) (q : Int) (m : Nat) (cs : List Int) : Prop := cs.length = k ∧ ∀ j, (h : j < cs.length) → cs[j] = if m ≤ j then q / 2 ^ (8 * (k - 1 - j)) % 256 else 0

theorem r_next {k m r : Nat} {n : Int} (hm : m ≤ k) (h0 : 1 ≤ m) (hr : (r : Int) = n / 2 ^ (8 * (k - m))) : ((r / 256 : Nat) : Int) = n / 2 ^ (8 * (k - (m - 1))) := by
  have e : 8 * (k - (m - 1)) = 8 * (k - m) + 8 := by omega
  rw [e, Int.pow_add, ← Int.ediv_ediv_of_nonneg (by exact Int.le_of_lt (Int.pow_pos (by omega))), ← hr]
  simp
theorem Part.next {k m r : Nat} {n : Int} {cs : List Int} (h : Part k n m cs) (h0 : 1 ≤ m) (hm : m ≤ k) (hr : (r : Int) = n / 2 ^ (8 * (k - m))) : Part k n (m - 1) (cs.set (m - 1) ((r : Int) % 256)) := by
  refine ⟨by rw [List.length_set]; exact h.1, fun j hj => ?_⟩
  rw [List.getElem_set]
  by_cases e : m - 1 = j
  · subst e
    rw [if_pos rfl, if_pos (Nat.le_refl _), hr]
    congr 3
    omega
  · rw [if_neg e, h.2 j (by simpa using hj)]
    by_cases h1 : m ≤ j
    · rw [if_pos h1, if_pos (by omega)]
    · rw [if_neg h1, if_neg (by omega)]
theorem Part.all {k : Nat} {n : Int} {cs : List Int} (h : Part k n 0 cs) (hn : 0 ≤ n) : cs = be k n.toNat := by
  apply List.ext_getElem
  · rw [h.1, be_len]
  · intro i h1 h2
    rw [h.2 i h1, if_pos (Nat.zero_le _)]
    simp only [be, List.getElem_map, List.getElem_range]
    rw [Int.natCast_emod, Int.natCast_ediv, ipow, Int.toNat_of_nonneg hn]
    rfl
theorem Part.done {k : Nat} {n : Int} {cs : List Int} (h : Part k n 0 cs) (hn : 0 ≤ n) (hr : ((0 : Nat) : Int) = n / 2 ^ (8 * (k - 0))) : cs = be k (cl k n) := by
  rw [Part.all h hn]
  congr 1
  unfold cl
  have p := pow_pos' k
  rw [Nat.sub_zero, ← ipow] at hr
  have : n < ((2 ^ (8 * k) : Nat) : Int) := by
    have := Int.lt_mul_of_ediv_lt (a := n) (b := 1) (c := ((2 ^ (8 * k) : Nat) : Int)) (by omega) (by omega)
    omega
  omega

def Top (k j : Nat) (cs : List Int) : Prop := cs.length = k ∧ ∀ i, (h : i < cs.length) → i < j → cs[i] = 255
theorem Top.next {k j : Nat} {cs : List Int} (h : Top k j cs) : Top k (j + 1) (cs.set j 255) := by
  refine ⟨by rw [List.length_set]; exact h.1, fun i hi hij => ?_⟩
  rw [List.getElem_set]
  by_cases e : j = i
  · rw [if_pos e]
  · rw [if_neg e]
    exact h.2 i (by simpa using hi) (by omega)
theorem be_top {k : Nat} (h : k ≤ 6) : be k (2 ^ (8 * k) - 1) = List.replicate k 255 := by
  match k, h with
  | 0, _ => rfl
  | 1, _ => rfl
  | 2, _ => rfl
  | 3, _ => rfl
  | 4, _ => rfl
  | 5, _ => rfl
  | 6, _ => rfl
theorem Top.done {k r : Nat} {n : Int} {cs : List Int} (h : Top k k cs) (hk : k ≤ 6) (h0 : 0 < r) (hr : (r : Int) = n / 2 ^ (8 * (k - 0))) : cs = be k (cl k n) := by
  have p := pow_pos' k
  have e : cl k n = 2 ^ (8 * k) - 1 := by
    unfold cl
    rw [Nat.sub_zero, ← ipow] at hr
    have : ((2 ^ (8 * k) : Nat) : Int) ≤ n := by
      rcases Int.lt_or_le n ((2 ^ (8 * k) : Nat) : Int) with h1 | h1
      · have h2 : n / ((2 ^ (8 * k) : Nat) : Int) < 1 := Int.ediv_lt_of_lt_mul (by omega) (by omega)
        omega
      · exact h1
    omega
  rw [e, be_top hk]
  apply List.ext_getElem
  · simpa using h.1
  · intro i h1 h2
    rw [h.2 i h1 (by have := h.1; omega)]
    simp

set_option maxRecDepth 100000 in
set_option maxHeartbeats 400000 in
theorem rput_any (n x : Int) (w : World) (hq2 : n ≤ 9223372036854775807) :
    Calls Try.prog 61 #[.int .i64 n, .int .i64 x] w fun e w' => Fresh w (putb n x) e w' := by
  obtain ⟨i0, hi0, hz0, hz1, hz2⟩ := info_parts info8
  have w1 := wd_pos x
  have w2 := wd_le x
  by_cases hn : n < 0
  · go_enter Try.func61, Try.ntmps61
    go_wp2_with (first
     | (go_at_call 49; refine (Width_any _ _).mono ?_; rintro e w' ⟨rfl, rfl⟩)
     | (at_make; refine wpList_make_room _ rfl _ _ _ rfl 5 i0 _ 1 Try.underlying42 hi0 hz0 hz1 hz2 rfl _ _ _ _ (wd x) (wd x) rfl rfl (by omega) (by omega) (by omega) (by omega) (by omega) ?_; intro w1' H1 hb1 hs1))
    go_ret
    refine ret_fresh (xs := List.replicate (wd x) 0) ?_ hb1 ?_
    · have h := own_of_block (base := w.heap.size) (n := wd x) H1.out (Nat.le_refl _) (by simp) (by simp; omega)
      rw [List.length_replicate] at h
      simpa using h
    · have : cl (wd x) n = 0 := by unfold cl; omega
      rw [putb, this, be_zero]
  · go_enter Try.func61, Try.ntmps61
    go_wp2_with (first
     | (go_at_call 49; refine (Width_any _ _).mono ?_; rintro e w' ⟨rfl, rfl⟩)
     | (at_make; refine wpList_make_room _ rfl _ _ _ rfl 5 i0 _ 1 Try.underlying42 hi0 hz0 hz1 hz2 rfl _ _ _ _ (wd x) (wd x) rfl rfl (by omega) (by omega) (by omega) (by omega) (by omega) ?_; intro w1' H1 hb1 hs1))
    have hq : 0 ≤ n := by omega
    have B0 : Blk8 w1' w.heap.size (List.replicate (wd x) 0) := by
      have h := H1.out
      unfold Blk8
      rw [h]
      simp [u8s]
    have P0 : Part (wd x) n (wd x) (List.replicate (wd x) 0) := by
      refine ⟨by simp, fun j h => ?_⟩
      simp at h
      rw [if_neg (by omega)]
      simp
    clear H1 hs1
    go_loopw [0, 6] (fun q i wr => ∃ m r : Nat, ∃ cs, m ≤ wd x ∧ i = .int .i64 ((m : Int) - 1) ∧ q = .int .i64 r ∧ Hid ((r : Int) = n / 2 ^ (8 * (wd x - m))) ∧ r ≤ 9223372036854775807 ∧ Hid (Blk8 wr w.heap.size cs) ∧ Part (wd x) n m cs ∧ Below w.heap.size w wr)
      (fun _ i _ => ((intOf i) + 1).toNat)
    case atStart => exact ⟨wd x, n.toNat, _, Nat.le_refl _, rfl, int_eq (by omega), (show _ = _ by simp; omega), by omega, B0, P0, hb1⟩
    case round =>
      obtain ⟨m, r, cs, hm, rfl, rfl, hr, hr2, hB, hP, hb⟩ := hrel
      by_cases h0 : 1 ≤ m
      · have hlen : cs.length = wd x := hP.1
        have hc := Blk8.cell hB.out (i := m - 1) (by omega)
        have hf := Blk8.frozen hB.out (m - 1)
        go_wp2
        go_roundw
        case rel =>
          refine ⟨m - 1, r / 256, cs.set (m - 1) ((r : Int) % 256), by omega, int_eq (by omega), int_eq (by omega), ?_, by omega, Blk8.set hB.out _ _, ?_, ?_⟩
          · exact r_next (by omega) h0 hr.out
          · exact Part.next hP h0 hm hr.out
          · exact hb.setCell (Nat.le_refl _) _
        case measure => simp [intOf]; omega
      · obtain rfl : m = 0 := by omega
        have hlen : cs.length = wd x := hP.1
        by_cases hr0 : 0 < r
        · go_wp2_with fail
          obtain ⟨wo, hwo⟩ : ∃ wo : World, wo = wr := ⟨_, rfl⟩
          obtain rfl := hwo
          go_loopw [7] (fun i wr => ∃ j : Nat, ∃ cs, j ≤ wd x ∧ i = .int .i64 j ∧ Hid (Blk8 wr w.heap.size cs) ∧ Top (wd x) j cs ∧ Below w.heap.size w wr)
            (fun i _ => wd x - (intOf i).toNat)
          case atStart => exact ⟨0, cs, Nat.zero_le _, rfl, hB, ⟨hlen, fun i hi h => absurd h (by omega)⟩, hb⟩
          case round =>
            obtain ⟨j, ds, hj, rfl, hB2, hT, hb2⟩ := hrel
            by_cases hlt : j < wd x
            · have hl2 : ds.length = wd x := hT.1
              have hc := Blk8.cell hB2.out (i := j) (by omega)
              have hf := Blk8.frozen hB2.out j
              go_wp2
              go_roundw
              case rel =>
                exact ⟨j + 1, ds.set j 255, by omega, by go_num, Blk8.set hB2.out _ _, Top.next hT, hb2.setCell (Nat.le_refl _) _⟩
              case measure => simp [intOf]; omega
            · obtain rfl : j = wd x := by omega
              go_wp2
              go_ret
              exact ret_fresh (xs := ds) (Blk8.own hB2.out (Nat.le_refl _) (by have := hT.1; omega) hT.1) hb2 (Top.done hT w2 hr0 hr.out)
        · go_wp2_with fail
          go_ret
          refine ret_fresh (xs := cs) (Blk8.own hB.out (Nat.le_refl _) (by omega) hlen) hb ?_
          obtain rfl : r = 0 := by omega
          exact Part.done hP hq hr.out

end Go.Proofs.Ytdmfgffjplbloaa.NumR
namespace Go.Proofs.Ytdmfgffjplbloaa.RecC
open Go.RowKit Go.Proofs.Ytdmfgffjplbloaa.Kit Go.Proofs.Ytdmfgffjplbloaa.Byt Go.Proofs.Ytdmfgffjplbloaa.Mem Go.Proofs.Ytdmfgffjplbloaa.RecM Go.Proofs.Ytdmfgffjplbloaa.RecA

/-- New memory of one's own, and all that was there. -/
def Gives (w : World) (xs : List Nat) (e : Ending) (w' : World) : Prop := ∃ B m d, e = .returned (.slice B m d) ∧ w'.ownsRow w.heap.size 5 1 (.slice B m d) m (u8n xs) ∧ Below w.heap.size w w'
theorem own_mono {w : World} {b b' : Nat} {e : TypeId} {v : Value} {n : Nat} {xs : List Value} (h : w.ownsRow b' e 1 v n xs) (hb : b ≤ b') : w.ownsRow b e 1 v n xs := by
  refine ⟨h.1, ?_⟩
  rcases h.2 with h1 | ⟨g, cap, cur, hv, hg, hrest⟩
  · exact .inl h1
  · exact .inr ⟨g, cap, cur, hv, by omega, hrest⟩
theorem set_next {xs : List Nat} {j m : Nat} (h : j < xs.length) (hm : 0 < m) : (xs.take j ++ List.replicate m 0).set j xs[j] = xs.take (j + 1) ++ List.replicate (m - 1) 0 := by
  obtain ⟨k, rfl⟩ : ∃ k, m = k + 1 := ⟨m - 1, by omega⟩
  have hl : (xs.take j).length = j := by simp; omega
  rw [List.set_append_right _ _ (by omega), hl, Nat.sub_self, List.replicate_succ, List.set_cons_zero, List.take_succ_eq_append_getElem h, List.append_assoc]
  rfl
theorem u8n_set' (xs : List Nat) (k y : Nat) : (u8n xs).set k (.int .u8 (y : Int)) = u8n (xs.set k y) := by simp [u8n, List.map_set]

set_option maxRecDepth 100000 in
set_option maxHeartbeats 1600000 in
theorem rsealed_any (A : Option Addr) (n c : Nat) (xs : List Nat) (w : World) (hR : Rd w A n c (u8n xs)) (hb : byt xs) (h60 : xs.length ≤ 60) :
    Calls Try.prog 47 #[.slice A n c] w (Gives w (shut xs)) := by
  obtain ⟨i0, hi0, hz0, hz1, hz2⟩ := info_parts NumA.info8
  have hn : xs.length = n := Rd.nats hR
  have hlt := CrcM.sm_lt xs
  have HR := Lib.hid hR
  have HS := Lib.hid (fun w' (h : Rd w' A n c (u8n xs)) => CrcB.rsum_any A n c xs w' h hb)
  have HD := Lib.hid (show shut xs = xs ++ (pbn (CrcM.sm xs : Nat) 4 ++ List.replicate (60 - xs.length) 0) from rfl)
  obtain ⟨y, hy⟩ : ∃ y, y = CrcM.sm xs := ⟨_, rfl⟩
  rw [← hy] at HS HD hlt
  clear hy hR
  go_enter Try.func47, Try.ntmps47
  go_wp2_with (at_make; refine wpList_make_room _ rfl _ _ _ rfl 5 i0 _ 1 Try.underlying42 hi0 hz0 hz1 hz2 rfl _ _ _ _ 64 64 rfl rfl (by omega) (by omega) (by omega) (by omega) (by omega) ?_; intro w1 H1 hb1 hs1)
  have B0 : Blk w1 w.heap.size 5 (u8n (xs.take 0 ++ List.replicate 64 0)) := by
    have h := H1.out
    unfold Blk
    rw [h]
    simp [u8n]
  have HB0 := Lib.hid B0
  clear H1 hs1 B0
  go_loopw [4] (fun i wr => ∃ j : Nat, j ≤ n ∧ i = .int .i64 j ∧ Hid (Blk wr w.heap.size 5 (u8n (xs.take j ++ List.replicate (64 - j) 0))) ∧ Below w.heap.size w wr)
    (fun i _ => n - (intOf i).toNat)
  case atStart => exact ⟨0, by omega, rfl, HB0, hb1⟩
  case round =>
    obtain ⟨j, hj, rfl, hB, hbl⟩ := hrel
    by_cases hjn : j < n
    · obtain ⟨bb, o, hA, hc⟩ := Rd.nat (HR.out.below hbl) (k := j) (by omega)
      subst hA
      have hlen : (xs.take j ++ List.replicate (64 - j) 0).length = 64 := by simp; omega
      have hc0 := Blk.byte hB.out (i := j) (by omega)
      have hf0 := Blk.frozen hB.out j
      have HX := Lib.hid (set_next (m := 64 - j) (show j < xs.length by omega) (by omega))
      obtain ⟨u, hu⟩ : ∃ u, u = xs[j]'(by omega) := ⟨_, rfl⟩
      rw [← hu] at hc HX
      clear hu
      go_wp2
      go_roundw
      case rel =>
        refine ⟨j + 1, by omega, by go_num, ?_, hbl.setCell (Nat.le_refl _) _⟩
        have h := Blk.set hB.out j (.int .u8 (u : Int))
        rw [u8n_set', HX.out] at h
        exact h
      case measure => simp [intOf]; omega
    · obtain rfl : j = n := by omega
      have e1 : xs.take j ++ List.replicate (64 - j) 0 = xs ++ (([] : List Nat) ++ List.replicate (64 - j) 0) := by rw [List.take_of_length_le (by omega)]; rfl
      rw [e1] at hB
      have hgl : w.heap.size < _ := Blk.lt hB.out
      clear e1 HB0 hb1
      have HB1 := Lib.hid hbl
      go_wp2_with (first
        | (go_at_call 62; refine (HS.out _ (HR.out.below HB1.out)).mono ?_; rintro e w' ⟨rfl, rfl⟩)
        | (go_at_call 61; refine (NumR.rput_any (y : Int) 4 _ (by omega)).mono ?_; rintro e w5 ⟨A5, n5, c5, hn5, rfl, hown5, hb5⟩))
      have hr5 := Rd.own hown5
      rw [← pbn_nl, ← nl_u8s] at hr5
      obtain ⟨E, hE⟩ : ∃ E, E = pbn (y : Int) 4 := ⟨_, rfl⟩
      have hel : E.length = 4 := by rw [hE, pbn_len]; rfl
      rw [← hE] at hr5 HD
      obtain rfl : 4 = n5 := by have := Rd.nats hr5; omega
      have HO5 := Lib.hid (fun b' o' (hA' : A5 = some ⟨b', o', none⟩) => (hown5.lt b' (by rw [hA']; rfl)).1)
      have HR5 := Lib.hid hr5
      have HB5 := Lib.hid (HB1.out.trans (hb5.mono HB1.out.size))
      have HK5 := Lib.hid (hB.out.below hb5)
      have hs5 := hb5.size
      clear hn5 hown5 hb5 hr5 hE hB HS
      go_loopw [6] (fun i wr2 => ∃ k : Nat, k ≤ 4 ∧ i = .int .i64 k ∧ Hid (Blk wr2 w.heap.size 5 (u8n (xs ++ (E.take k ++ List.replicate (64 - j - k) 0)))) ∧ Below w.heap.size w wr2 ∧ Hid (Rd wr2 A5 4 c5 (u8n E)))
        (fun i _ => 4 - (intOf i).toNat)
      case atStart => exact ⟨0, by omega, rfl, HK5, HB5.out, HR5⟩
      case round =>
        obtain ⟨k, hk, rfl, hB, hbl, hr⟩ := hrel
        by_cases hk4 : k < 4
        · obtain ⟨bb, o, hA, hc⟩ := Rd.nat hr.out (k := k) (by omega)
          have hgt := HO5.out bb o hA
          have HA := Lib.hid (show ∀ b' o', A5 = some ⟨b', o', none⟩ → b' = bb from fun b' o' h => by rw [hA] at h; injection h with h; injection h with h1; exact h1.symm)
          have hA' := hA
          clear HO5
          subst hA
          have hlen : (xs ++ (E.take k ++ List.replicate (64 - j - k) 0)).length = 64 := by simp; omega
          have hc0 := Blk.byte hB.out (i := j + k) (by omega)
          have hf0 := Blk.frozen hB.out (j + k)
          have ht : ((j : Int) + (k : Int)).toNat = j + k := by omega
          have hw : IntKind.i64.wrap ((j : Int) + (k : Int)) = (j : Int) + (k : Int) := by rw [IntKind.wrap_i64]; omega
          have HX := Lib.hid (set_next (m := 64 - j - k) (show k < E.length by omega) (by omega))
          obtain ⟨u, hu⟩ : ∃ u, u = E[k]'(by omega) := ⟨_, rfl⟩
          rw [← hu] at hc HX
          clear hu
          go_wp2
          go_roundw
          case rel =>
            refine ⟨k + 1, by omega, by go_num, ?_, hbl.setCell (Nat.le_refl _) _, (Keep.set (F := fun q => q = w.heap.size) _ _ _ rfl).rd hr.out (fun _ b' o' hA' hF => ?_)⟩
            · have h := Blk.set hB.out (j + k) (.int .u8 (u : Int))
              rw [u8n_set', List.set_append_right _ _ (by omega), hn, Nat.add_sub_cancel_left, HX.out] at h
              exact h
            · injection hA' with hA'
              injection hA' with hb'
              omega
          case measure => simp [intOf]; omega
        · obtain rfl : k = 4 := by omega
          go_wp2
          go_ret
          refine ⟨_, _, _, rfl, ?_, hbl⟩
          have h := own_of_block (base := w.heap.size) (n := 64) hB.out (Nat.le_refl _) (by rw [u8n_len]; simp; omega) (by rw [u8n_len]; simp; omega)
          have e2 : xs ++ (E.take 4 ++ List.replicate (64 - j - 4) 0) = shut xs := by rw [HD.out, List.take_of_length_le (by omega)]; congr 3; omega
          have e3 : (u8n (shut xs)).length = 64 := by rw [u8n_len, shut_len h60]
          rw [e2, e3, List.take_of_length_le (by rw [e3]; omega)] at h
          exact h
end Go.Proofs.Ytdmfgffjplbloaa.RecC
namespace Go.Proofs.Ytdmfgffjplbloaa.CrcC
open Go.RowKit Go.Proofs.Ytdmfgffjplbloaa.Kit Go.Proofs.Ytdmfgffjplbloaa.Byt Go.Proofs.Ytdmfgffjplbloaa.CrcM Go.Proofs.Ytdmfgffjplbloaa.CrcA Go.Proofs.Ytdmfgffjplbloaa.CrcB

/-- The table's cells when the first k are laid. -/
def row (k : Nat) : List Value := (List.range 256).map fun i : Nat => Value.int .u32 ((if i < k then s8 i else 0 : Nat) : Int)
def Tb (w : World) (g k : Nat) : Prop := w.heap[g]? = some (.cells (row k).toArray 114 (0, 0))
theorem row_len (k : Nat) : (row k).length = 256 := by simp [row]
theorem row_set {k : Nat} (_h : k < 256) : (row k).set k (.int .u32 (s8 k : Nat)) = row (k + 1) := by
  apply List.ext_getElem
  · simp [row]
  · intro i h1 h2
    simp only [row, List.getElem_set, List.getElem_map, List.getElem_range]
    by_cases e : k = i
    · subst e
      simp
    · rw [if_neg e]
      congr 2
      by_cases h3 : i < k
      · rw [if_pos h3, if_pos (by omega)]
      · rw [if_neg h3, if_neg (by omega)]
theorem Tb.cell {w : World} {g k i : Nat} (h : Tb w g k) (hi : i < 256) : w.cell? ⟨g, i, none⟩ = some (.int .u32 ((if i < k then s8 i else 0 : Nat) : Int)) := by
  rw [cell_of_row w g i _ _ _ h]
  simp [row, hi]
theorem Tb.frozen {w : World} {g k : Nat} (h : Tb w g k) (i : Nat) : w.frozen? ⟨g, i, none⟩ = false := frozen_of_row w g i _ _ h
theorem Tb.set {w : World} {g k : Nat} (h : Tb w g k) (hk : k < 256) : Tb (w.setCell ⟨g, k, none⟩ (.int .u32 (s8 k : Nat))) g (k + 1) := by
  unfold Tb
  rw [heap_setCell_same w g k _ _ _ h, List.setIfInBounds_toArray, row_set hk]

theorem zero_table (w : World) : (zeroValue 114).run Try.prog w = .ok (.agg (row 0).toArray) w := by kernel_rfl

set_option maxRecDepth 100000 in
set_option maxHeartbeats 1000000 in
theorem make_any (w : World) : Calls Try.prog 64 #[] w fun e w' => e = .returned (.pointer (some ⟨w.heap.size, 0, none⟩)) ∧ Tb w' w.heap.size 256 ∧ Below w.heap.size w w' ∧ w'.heap.size = w.heap.size + 1 := by
  have hz := zero_table
  have H0 : Hid (∀ Z : Array Value, Z = (row 0).toArray → Tb (w.alloc (.cells Z 114)) w.heap.size 0) := Lib.hid fun Z h => by rw [h]; exact heap_alloc_new w _
  have hb0 : Below w.heap.size w (w.alloc (.cells (row 0).toArray 114)) := (Below.refl _ _).alloc (Nat.le_refl _) _
  generalize hZ : (row 0).toArray = Z at *
  have H0 := Lib.hid (H0.out Z rfl)
  go_enter Try.func64, Try.ntmps64
  go_wp2
  clear hz hZ
  go_loopw [4, 2] (fun i _ wr => ∃ k : Nat, k ≤ 256 ∧ i = .int .i64 k ∧ Hid (Tb wr w.heap.size k) ∧ Below w.heap.size w wr ∧ Hid (wr.heap.size = w.heap.size + 1)) (fun i _ _ => 256 - (intOf i).toNat)
  case atStart => exact ⟨0, by omega, rfl, H0, hb0, Lib.hid (by simp)⟩
  case round =>
    obtain ⟨k, hk, rfl, hT, hb, hs⟩ := hrel
    clear hb0 H0
    by_cases hlt : k < 256
    · have hc := Tb.cell hT.out hlt
      have hf := Tb.frozen hT.out k
      go_wp2
      have h32 : IntKind.u32.wrap (k : Int) = (k : Int) := by rw [IntKind.wrap_u32]; omega
      go_still_tail 7, (by kernel_rfl)
      refine wpStill_step (fun K hK => ?_)
      go_simp
      refine ⟨_, (eight_any k _ (by omega)).mono (fun e w' h => ⟨h.1, h.2.symm⟩), hK _ ?_⟩
      clear hK K
      repeat still_step
      refine wpStill_nil ?_
      change wpList _ _ _ _ _ wr.drew
      have hc' := hc
      have hf' := hf
      have hT' : Hid (Tb (wr.drew.setCell ⟨w.heap.size, k, none⟩ (.int .u32 (s8 k : Nat))) w.heap.size (k + 1)) := Lib.hid (Tb.set (w := wr.drew) hT.out hlt)
      have hb' : Hid (Below w.heap.size w (wr.drew.setCell ⟨w.heap.size, k, none⟩ (.int .u32 (s8 k : Nat)))) := Lib.hid ((below_drewN hb 1).setCell (by simp) _)
      generalize s8 k = z at *
      clear hc hf
      go_wp2
      go_roundw
      case rel => exact ⟨k + 1, by omega, by go_num, hT', hb'.out, Lib.hid (by simpa using hs.out)⟩
      case measure => simp [intOf]; omega
    · go_wp2
      go_ret
      obtain rfl : k = 256 := by omega
      exact ⟨rfl, hT.out, hb, hs.out⟩

end Go.Proofs.Ytdmfgffjplbloaa.CrcC
