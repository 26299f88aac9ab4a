/- The register behind one byte more, by the table; behind bytes, by the table's bound method; the sum. Conditions: the table's block is as it was made (or there is none), the slice reads as the bytes that are named, the register is one of 32 bits. When a stage is right, the sum as it stands behind bytes, and whether bytes are all zeros, by the code. Conditions: numbers of 64 bits; the slice reads as the bytes that are named. The fields of a record and of a stage, and the sector that is made of them, by the code. Conditions: the fields' addresses lie in one block, one behind the other, whose numbers are known. A sector made of a mark and fields, by the code. Conditions: the fields' addresses lie in one block, one behind the other, whose numbers are known; no more than 60 bytes are told. Two slices of bytes held against each other by the package bytes. Conditions: each slice reads as the list that is named, of bytes. -/
import Derived.Test.YtdmfgffjplbloaaJ04
import Derived.Test.YtdmfgffjplbloaaJ03
import Derived.Deep.RegionHeld3
import Derived.StillTailTactics
import Derived.Lib.ConvBytes
import Derived.Test.YtdmfgffjplbloaaJ01
import Derived.Laws.BytesArg
import Derived.Lib.Bytes
namespace Go.Proofs.Ytdmfgffjplbloaa.CrcD
open Go.RowKit Go.Proofs.Ytdmfgffjplbloaa.Kit Go.Proofs.Ytdmfgffjplbloaa.Byt Go.Proofs.Ytdmfgffjplbloaa.CrcM Go.Proofs.Ytdmfgffjplbloaa.CrcA Go.Proofs.Ytdmfgffjplbloaa.CrcB Go.Proofs.Ytdmfgffjplbloaa.CrcC

theorem Tb.at_ {w : World} {g i : Nat} (h : Tb w g 256) (hi : i < 256) : w.cell? ⟨g, i, none⟩ = some (.int .u32 (s8 i : Nat)) := by
  rw [Tb.cell h hi, if_pos hi]
theorem Tb.below {w w' : World} {g k : Nat} (h : Tb w g k) (hb : Below w.heap.size w w') : Tb w' g k := by
  have := hb.block g (lt_of_block h)
  unfold Tb at *
  rw [this, h]
theorem low8 (x c : Nat) (hc : c < 256) : bits .xor .u8 ((x : Int) % 256) (c : Int) = ((x % 256 ^^^ c : Nat) : Int) := by
  have := u8_xor_nat (x % 256) c (by omega) hc
  rw [← this]
  simp

set_option maxRecDepth 100000 in
set_option maxHeartbeats 400000 in
theorem next_any (g x c : Nat) (w : World) (hT : Tb w g 256) (hx : x < 4294967296) (hc : c < 256) : Calls Try.prog 81 #[.pointer (some ⟨g, 0, none⟩), .int .u32 (x : Nat), .int .u8 (c : Nat)] w fun e w' => e = .returned (.int .u32 (fb x c : Nat)) ∧ w = w' := by
  have hf : Hid (fb x c = s8 (x % 256 ^^^ c) ^^^ x / 256) := Lib.hid (fb_table hc)
  have hi : (x % 256 ^^^ c) < 256 := Nat.xor_lt_two_pow (n := 8) (by omega) hc
  have hl := low8 x c hc
  have hcell := Tb.at_ hT hi
  have hs := s8_lt (x := x % 256 ^^^ c) (by omega)
  have hxor := xor32 (x := s8 (x % 256 ^^^ c)) (y := x / 256) hs (by omega)
  have hd : ((x / 256 : Nat) : Int) = (x : Int) / 256 := by simp
  rw [hd] at hxor
  clear hd
  generalize s8 (x % 256 ^^^ c) = y at *
  generalize x % 256 ^^^ c = i at *
  go_enter Try.func81, Try.ntmps81
  go_wp2
  go_ret
  exact ⟨ret_int (by rw [hf.out]), rfl⟩

set_option maxRecDepth 100000 in
set_option maxHeartbeats 400000 in
theorem through_any (g : Nat) (A : Option Addr) (n c : Nat) (xs : List Nat) (x : Nat) (w : World) (hT : Tb w g 256) (hr : Rd w A n c (u8n xs)) (hb : ∀ c ∈ xs, c < 256) (hx : x < 4294967296) :
    Calls Try.prog 80 #[.func (.func 81) #[.pointer (some ⟨g, 0, none⟩)] #[], .int .u32 (x : Nat), .slice A n c] w fun e w' => e = .returned (.int .u32 (fd x xs : Nat)) ∧ w = w' := by
  obtain rfl := Rd.nats hr
  have lx : xs.length ≤ 9223372036854775807 := by have := hr.le; have := hr.cap; omega
  have HT := Lib.hid hT
  clear hT
  go_enter Try.func80, Try.ntmps80
  go_wp2
  go_loop [1, 11, 8] (fun s i _ => ∃ k : Nat, k ≤ xs.length ∧ i = .int .i64 k ∧ s = .int .u32 (fd x (xs.take k) : Nat)) (fun _ i _ => xs.length - (intOf i).toNat)
  case atStart => exact ⟨0, Nat.zero_le _, rfl, by rw [List.take_zero, fd_nil]⟩
  case round =>
    obtain ⟨k, hk, rfl, rfl⟩ := hrel
    have hy : fd x (xs.take k) < 4294967296 := fd_lt hx fun c hc => hb c (List.mem_of_mem_take hc)
    by_cases hlt : k < xs.length
    · obtain ⟨b, o, rfl, hc⟩ := Rd.nat hr hlt
      have hs : Hid (fd x (xs.take (k + 1)) = fb (fd x (xs.take k)) xs[k]) := Lib.hid (by rw [take_snoc hlt, fd_snoc])
      have hbk := hb xs[k] (List.getElem_mem hlt)
      generalize fd x (xs.take k) = y at *
      go_wp2_with (go_at_call 81; refine (next_any g y xs[k] _ HT.out hy hbk).mono ?_; rintro e w' ⟨rfl, rfl⟩)
      go_round
      case rel => exact ⟨k + 1, by omega, by go_num, by rw [hs.out]⟩
      case measure => simp [intOf]; omega
    · have he : Hid (xs.take k = xs) := Lib.hid (List.take_of_length_le (by omega))
      go_wp2
      go_ret
      exact ⟨ret_int (by rw [he.out]), rfl⟩

theorem makeFunc_run (fn : Fn) (first cap : Array Value) (w : World) : (Instr.makeFunc fn first cap).run Try.prog w = .ok (.func fn first cap) w := rfl

/-- Of a table that is there. -/
theorem feed_there (g : Nat) (A : Option Addr) (n c : Nat) (xs : List Nat) (x : Nat) (w : World) (hT : Tb w g 256) (hr : Rd w A n c (u8n xs)) (hb : ∀ c ∈ xs, c < 256) (hx : x < 4294967296) :
    Calls Try.prog 75 #[.pointer (some ⟨g, 0, none⟩), .int .u32 (x : Nat), .slice A n c] w fun e w' => e = .returned (.int .u32 (fd x xs : Nat)) ∧ w = w' := by
  have HT := Lib.hid hT
  clear hT
  have hmf := makeFunc_run
  go_enter Try.func75, Try.ntmps75
  go_wp2_with (go_at_call 80; refine (through_any g A n c xs x _ HT.out hr hb hx).mono ?_; rintro e w' ⟨rfl, rfl⟩)
  go_ret
  exact ⟨rfl, rfl⟩

/-- Of a table that is not there. -/
theorem feed_nil (A : Option Addr) (n c : Nat) (xs : List Nat) (x : Nat) (w : World) (hr : Rd w A n c (u8n xs)) (hb : ∀ c ∈ xs, c < 256) (hx : x < 4294967296) :
    Calls Try.prog 75 #[.pointer none, .int .u32 (x : Nat), .slice A n c] w fun e w' => e = .returned (.int .u32 (fd x xs : Nat)) ∧ Below w.heap.size w w' := by
  have hmf := makeFunc_run
  go_enter Try.func75, Try.ntmps75
  go_wp2_with (first
   | (go_at_call 64; refine (make_any _).mono ?_; rintro e w1 ⟨rfl, hT, hb1, hs1⟩; clear hs1; have HT := Lib.hid hT; clear hT)
   | (go_at_call 80; refine (through_any _ A n c xs x _ HT.out (hr.below hb1) hb hx).mono ?_; rintro e w' ⟨rfl, rfl⟩))
  go_ret
  exact ⟨rfl, hb1⟩

theorem begin_any (w : World) : Calls Try.prog 76 #[] w fun e w' => e = .returned (.int .u32 4294967295) ∧ w = w' := by
  go_enter Try.func76, Try.ntmps76
  go_wp2
  go_ret
  exact ⟨rfl, rfl⟩
theorem not32 (x : Nat) (hx : x < 4294967296) : 4294967295 ^^^ x = 4294967295 - x := by
  have h : (BitVec.allOnes 32 ^^^ BitVec.ofNat 32 x) = ~~~ BitVec.ofNat 32 x := by rw [BitVec.xor_comm, BitVec.xor_allOnes]
  have h2 := congrArg BitVec.toNat h
  rw [BitVec.toNat_xor, BitVec.toNat_not, BitVec.toNat_allOnes, BitVec.toNat_ofNat, Nat.mod_eq_of_lt (by omega)] at h2
  exact h2
theorem max32 : IntKind.u32.max = 4294967295 := by kernel_rfl
theorem not_any {x : Nat} (hx : x < 4294967296) : bits .xor .u32 IntKind.u32.max (x : Int) = ((4294967295 - x : Nat) : Int) := by
  rw [max32]
  have h := xor32 (x := 4294967295) (y := x) (by decide) hx
  rw [not32 x hx] at h
  exact h
theorem end_any (x : Nat) (w : World) (hx : x < 4294967296) : Calls Try.prog 74 #[.int .u32 (x : Nat)] w fun e w' => e = .returned (.int .u32 (4294967295 - x : Nat)) ∧ w = w' := by
  go_enter Try.func74, Try.ntmps74
  go_wp2
  all_goals first
    | (go_ret; exact ⟨ret_int (not_any hx), rfl⟩)
    | (exfalso; have h : IntKind.u32.signed = true := by assumption
       cases h)

/-- The sum, of a table that is there. -/
theorem sum_there (g : Nat) (A : Option Addr) (n c : Nat) (xs : List Nat) (w : World) (hT : Tb w g 256) (hr : Rd w A n c (u8n xs)) (hb : ∀ c ∈ xs, c < 256) :
    Calls Try.prog 65 #[.pointer (some ⟨g, 0, none⟩), .slice A n c] w fun e w' => e = .returned (.int .u32 (sm xs : Nat)) ∧ w = w' := by
  have hs : Hid (sm xs = 4294967295 - fd 4294967295 xs) := Lib.hid rfl
  have hl := fd_lt (x := 4294967295) (by decide) hb
  have HF := Lib.hid (feed_there g A n c xs 4294967295 w hT hr hb (by decide))
  clear hT
  generalize fd 4294967295 xs = y at *
  go_enter Try.func65, Try.ntmps65
  go_wp2_with (first
   | (go_at_call 76; refine (begin_any _).mono ?_; rintro e w' ⟨rfl, rfl⟩)
   | (go_at_call 75; refine (HF.out).mono ?_; rintro e w' ⟨rfl, rfl⟩)
   | (go_at_call 74; refine (end_any y _ hl).mono ?_; rintro e w' ⟨rfl, rfl⟩))
  go_ret
  exact ⟨ret_int (by rw [hs.out]), rfl⟩

/-- The sum, of a table that is not there. -/
theorem sum_nil (A : Option Addr) (n c : Nat) (xs : List Nat) (w : World) (hr : Rd w A n c (u8n xs)) (hb : ∀ c ∈ xs, c < 256) :
    Calls Try.prog 65 #[.pointer none, .slice A n c] w fun e w' => e = .returned (.int .u32 (sm xs : Nat)) ∧ Below w.heap.size w w' := by
  have hs : Hid (sm xs = 4294967295 - fd 4294967295 xs) := Lib.hid rfl
  have hl := fd_lt (x := 4294967295) (by decide) hb
  have HF := Lib.hid (feed_nil A n c xs 4294967295 w hr hb (by decide))
  generalize fd 4294967295 xs = y at *
  go_enter Try.func65, Try.ntmps65
  go_wp2_with (first
   | (go_at_call 76; refine (begin_any _).mono ?_; rintro e w' ⟨rfl, rfl⟩)
   | (go_at_call 75; refine (HF.out).mono ?_; rintro e w1 ⟨rfl, hb1⟩)
   | (go_at_call 74; refine (end_any y _ hl).mono ?_; rintro e w' ⟨rfl, rfl⟩))
  go_ret
  exact ⟨ret_int (by rw [hs.out]), hb1⟩

theorem Rd.cells (w : World) (xs : List Nat) (e : TypeId) {m : Nat × Nat} {n : Nat} (hn : xs.length = n) (h63 : n ≤ 9223372036854775807) : Rd (w.alloc (.cells (u8n xs).toArray e m)) (some ⟨w.heap.size, 0, none⟩) n n (u8n xs) := by
  refine ⟨by rw [u8n_len, hn], by omega, by omega, fun _ => ⟨_, _, rfl, by simp, fun j u hu => ?_⟩⟩
  rw [Nat.zero_add, World.cell?_alloc_mark]
  simpa using hu

end Go.Proofs.Ytdmfgffjplbloaa.CrcD
namespace Go.Proofs.Ytdmfgffjplbloaa.RecI
open Go.RowKit Go.Proofs.Ytdmfgffjplbloaa.Kit Go.Proofs.Ytdmfgffjplbloaa.Byt Go.Proofs.Ytdmfgffjplbloaa.Mem Go.Proofs.Ytdmfgffjplbloaa.RecM Go.Proofs.Ytdmfgffjplbloaa.RecA Go.Proofs.Ytdmfgffjplbloaa.RecC Go.Proofs.Ytdmfgffjplbloaa.RecG


set_option maxRecDepth 100000 in
set_option maxHeartbeats 800000 in
theorem sumOf_any (A : Option Addr) (n c : Nat) (xs : List Nat) (w : World) (hR : Rd w A n c (u8n xs)) (hx : byt xs) :
    Calls Try.prog 58 #[.slice A n c] w (Gives w (s4 xs)) := by
  have HR := Lib.hid hR
  have hlt : CrcM.sm xs < 4294967296 := CrcM.sm_lt xs
  have HS := Lib.hid (fun g w' (hT : CrcC.Tb w' g 256) (h : Rd w' A n c (u8n xs)) => CrcD.sum_there g A n c xs w' hT h hx)
  have HD := Lib.hid (show s4 xs = pbn (CrcM.sm xs : Nat) 4 from rfl)
  obtain ⟨y, hy⟩ : ∃ y, y = CrcM.sm xs := ⟨_, rfl⟩
  rw [← hy] at HS hlt HD
  clear hR hy
  go_enter Try.func58, Try.ntmps58
  go_wp2_with (first
   | (go_at_call 64; refine (CrcC.make_any _).mono ?_; rintro e w1 ⟨rfl, hT, hb1, hs1⟩; clear hs1; have HT := Lib.hid hT; clear hT)
   | (go_at_call 65; refine (HS.out _ _ HT.out (HR.out.below hb1)).mono ?_; rintro e w' ⟨rfl, rfl⟩)
   | (go_at_call 57; refine (NumB.put_any none 0 0 [] (y : Nat) 4 _ (Rd.nil _) (by omega)).mono ?_; rintro e w2 ⟨A2, n2, c2, hn2, rfl, hown2, hb2⟩))
  go_ret
  refine ⟨A2, n2, c2, rfl, ?_, hb1.trans (hb2.mono hb1.size)⟩
  rw [HD.out, nl_u8s, pbn_nl]
  exact own_mono (by simpa using hown2) hb1.size

set_option maxRecDepth 100000 in
set_option maxHeartbeats 400000 in
theorem zeros_any (A : Option Addr) (n c : Nat) (xs : List Nat) (w : World) (hR : Rd w A n c (u8n xs)) (b : Bool) (hb : b = true ↔ xs = List.replicate xs.length 0) :
    Calls Try.prog 67 #[.slice A n c] w fun e w' => e = .returned (.bool b) ∧ w = w' := by
  have hn : xs.length = n := Rd.nats hR
  have hcap := hR.cap
  have hle := hR.le
  have HR := Lib.hid hR
  have HB := Lib.hid hb
  have HN := Lib.hid hn
  clear hR hb hn
  go_enter Try.func67, Try.ntmps67
  go_wp2
  go_loop [7] (fun i => ∃ k : Nat, k ≤ n ∧ i = .int .i64 k ∧ Hid (xs.take k = List.replicate k 0)) (fun i => n - (intOf i).toNat)
  case atStart => exact ⟨0, by omega, rfl, Lib.hid (by simp)⟩
  case round =>
    obtain ⟨k, hk, rfl, hz⟩ := hrel
    by_cases hkn : k < n
    · obtain ⟨bb, o, rfl, hc⟩ := Rd.nat HR.out (k := k) (by have := HN.out; omega)
      have HX := Lib.hid (show ∀ h : k < xs.length, xs.take (k + 1) = xs.take k ++ [xs[k]] from fun h => take_snoc h)
      obtain ⟨u, hu⟩ : ∃ u, u = xs[k]'(by have := HN.out; omega) := ⟨_, rfl⟩
      have HU := Lib.hid hu
      rw [← hu] at hc
      clear hu
      by_cases hu0 : u = 0
      · have hd : ((u : Int) != 0) = false := by simp [hu0]
        have HU0 := Lib.hid hu0
        clear hu0
        go_wp2
        go_round
        case rel => exact ⟨k + 1, by omega, by go_num, Lib.hid (by rw [HX.out (by have := HN.out; omega), hz.out, ← HU.out, HU0.out, List.replicate_succ'])⟩
        case measure => simp [intOf]; omega
      · have hd : ((u : Int) != 0) = true := by simp; omega
        have hbf := Lib.hid (show b = false from by
          rw [Bool.eq_false_iff]
          intro h
          have h1 := HB.out.1 h
          refine hu0 ?_
          rw [HU.out]
          have h4 : xs[k]'(by have := HN.out; omega) = (List.replicate xs.length 0)[k]'(by rw [List.length_replicate]; have := HN.out; omega) := by
            have : ∀ (l : List Nat) (hl : k < l.length), xs = l → xs[k]'(by have := HN.out; omega) = l[k] := fun l hl e => by subst e; rfl
            exact this _ _ h1
          rw [h4, List.getElem_replicate])
        clear hu0
        go_wp2
        go_ret
        exact ⟨by rw [hbf.out]; rfl, rfl⟩
    · obtain rfl : k = n := by omega
      have hbt := Lib.hid (HB.out.2 (by have h1 := hz.out; have h2 := HN.out; rw [List.take_of_length_le (by omega)] at h1; rw [h2]; exact h1))
      go_wp2
      go_ret
      exact ⟨by rw [hbt.out]; rfl, rfl⟩
end Go.Proofs.Ytdmfgffjplbloaa.RecI
namespace Go.Proofs.Ytdmfgffjplbloaa.RecJ
open Go.RowKit Go.Proofs.Ytdmfgffjplbloaa.Kit Go.Proofs.Ytdmfgffjplbloaa.Byt Go.Proofs.Ytdmfgffjplbloaa.Mem Go.Proofs.Ytdmfgffjplbloaa.RecM Go.Proofs.Ytdmfgffjplbloaa.RecA Go.Proofs.Ytdmfgffjplbloaa.RecC Go.Proofs.Ytdmfgffjplbloaa.RecG Go.Proofs.Ytdmfgffjplbloaa.RecI

/-- Fields: the addresses in block g, and how many bytes each has. -/
def fcells (g : Nat) (ws : List Nat) : List Value := (List.range (2 * ws.length)).map fun i => if i % 2 = 0 then .pointer (some ⟨g, i / 2, none⟩) else .int .i64 (ws.getD (i / 2) 0 : Nat)
theorem fcells_len (g : Nat) (ws : List Nat) : (fcells g ws).length = 2 * ws.length := by simp [fcells]
theorem fcells_at {g k : Nat} {ws : List Nat} (h : k < ws.length) : (fcells g ws)[k * 2]? = some (.pointer (some ⟨g, k, none⟩)) := by
  simp only [fcells, List.getElem?_map, List.getElem?_range (show k * 2 < 2 * ws.length by omega), Option.map_some, Option.some.injEq]
  rw [if_pos (by omega)]
  congr 3
  omega
theorem fcells_wd {g k : Nat} {ws : List Nat} (h : k < ws.length) : (fcells g ws)[k * 2 + 1]? = some (.int .i64 (ws[k] : Nat)) := by
  simp only [fcells, List.getElem?_map, List.getElem?_range (show k * 2 + 1 < 2 * ws.length by omega), Option.map_some, Option.some.injEq]
  rw [if_neg (by omega), show (k * 2 + 1) / 2 = k by omega, List.getD_eq_getElem?_getD, List.getElem?_eq_getElem h]
  rfl
theorem fcells_one (g : Nat) (ws : List Nat) : ∀ u ∈ fcells g ws, u.oneCell' = true := by
  intro u hu
  simp only [fcells, List.mem_map] at hu
  obtain ⟨i, _, rfl⟩ := hu
  split <;> rfl
def rws : List Nat := [1, 4, 1, 1, 1, 1]
def sws : List Nat := [2, 2, 2]
/-- Numbers as cells. -/
def vals (vs : List Int) : List Value := vs.map (Value.int .i64)
theorem vals_len (vs : List Int) : (vals vs).length = vs.length := by simp [vals]

theorem fcells_r (g : Nat) : fcells g rws = [.pointer (some ⟨g, 0, none⟩), .int .i64 1, .pointer (some ⟨g, 1, none⟩), .int .i64 4, .pointer (some ⟨g, 2, none⟩), .int .i64 1, .pointer (some ⟨g, 3, none⟩), .int .i64 1, .pointer (some ⟨g, 4, none⟩), .int .i64 1, .pointer (some ⟨g, 5, none⟩), .int .i64 1] := rfl
theorem fcells_s (g : Nat) : fcells g sws = [.pointer (some ⟨g, 0, none⟩), .int .i64 2, .pointer (some ⟨g, 1, none⟩), .int .i64 2, .pointer (some ⟨g, 2, none⟩), .int .i64 2] := rfl
theorem size_f6 : (Try.prog.info? 85).map (·.size) = some 12 := by kernel_rfl
set_option maxRecDepth 100000 in
set_option maxHeartbeats 1600000 in
theorem ofRecord_any (g : Nat) (w : World) : Calls Try.prog 43 #[.pointer (some ⟨g, 0, none⟩)] w fun e w' => e = .returned (.agg (fcells g rws).toArray) ∧ Below w.heap.size w w' := by
  have HF := Lib.hid (fcells_r g)
  go_enter Try.func43, Try.ntmps43
  go_wp2_with fail
  have HB := Lib.hid (Blk.new w 85 [.pointer none, .int .i64 0, .pointer none, .int .i64 0, .pointer none, .int .i64 0, .pointer none, .int .i64 0, .pointer none, .int .i64 0, .pointer none, .int .i64 0])
  have HL := Lib.hid (show Below w.heap.size w (w.alloc (.cells [.pointer none, .int .i64 0, .pointer none, .int .i64 0, .pointer none, .int .i64 0, .pointer none, .int .i64 0, .pointer none, .int .i64 0, .pointer none, .int .i64 0].toArray 85)) from (Below.refl _ _).alloc (Nat.le_refl _) _)
  go_still_tail 25, (by kernel_rfl)
  change wpList _ _ _ _ _ (World.drew _)
  refine wpList_store_blk rfl 85 (.tmp 2) (.tmp 27) rfl w.heap.size rfl (fcells g rws) (by rw [HF.out]; rfl) (show Blk (World.drew _) _ _ _ from HB.out) (by rw [fcells_len]; rfl) (by rw [fcells_len]; exact size_f6) (fcells_one _ _) ?_
  intro w3 hB3 ho3
  rw [HF.out] at hB3
  go_wp2_with fail
  have e0 := hB3.out.cell (i := 0) rfl
  have e1 := hB3.out.cell (i := 1) rfl
  have e2 := hB3.out.cell (i := 2) rfl
  have e3 := hB3.out.cell (i := 3) rfl
  have e4 := hB3.out.cell (i := 4) rfl
  have e5 := hB3.out.cell (i := 5) rfl
  have e6 := hB3.out.cell (i := 6) rfl
  have e7 := hB3.out.cell (i := 7) rfl
  have e8 := hB3.out.cell (i := 8) rfl
  have e9 := hB3.out.cell (i := 9) rfl
  have e10 := hB3.out.cell (i := 10) rfl
  have e11 := hB3.out.cell (i := 11) rfl
  refine bodyPost_ret (v := .agg (fcells g rws).toArray) (by rw [HF.out]; simp [results, Try.results43, go_sem, e0, e1, e2, e3, e4, e5, e6, e7, e8, e9, e10, e11]) rfl ?_
  exact ⟨rfl, ho3.out.below (show Below w.heap.size w (World.drew _) from below_drewN HL.out 1) (Nat.le_refl _) HL.out.size⟩

end Go.Proofs.Ytdmfgffjplbloaa.RecJ
namespace Go.Proofs.Ytdmfgffjplbloaa.RecK
open Go.RowKit Go.Proofs.Ytdmfgffjplbloaa.Kit Go.Proofs.Ytdmfgffjplbloaa.Byt Go.Proofs.Ytdmfgffjplbloaa.Mem Go.Proofs.Ytdmfgffjplbloaa.RecM Go.Proofs.Ytdmfgffjplbloaa.RecA Go.Proofs.Ytdmfgffjplbloaa.RecC Go.Proofs.Ytdmfgffjplbloaa.RecG Go.Proofs.Ytdmfgffjplbloaa.RecI Go.Proofs.Ytdmfgffjplbloaa.RecJ

/-- A string of the bytes L and m. -/
def marks (s : ByteArray) (m : Nat) : Prop := s.data.toList.map UInt8.toNat = [76, m]
theorem marks.size {s : ByteArray} {m : Nat} (h : marks s m) : s.size = 2 := by
  have h1 := congrArg List.length h
  rw [List.length_map] at h1
  exact h1
theorem marks.at_ {s : ByteArray} {m : Nat} (h : marks s m) {j : Nat} (hj : j < 2) : (s.data.toList.getD j 0).toNat = [76, m].getD j 0 := by
  have hl : s.data.toList.length = 2 := by have := congrArg List.length h; simpa using this
  unfold marks at h
  rw [List.getD_eq_getElem?_getD, List.getD_eq_getElem?_getD, ← h, List.getElem?_map, List.getElem?_eq_getElem (by omega)]
  rfl
theorem conv_two {s : ByteArray} {m : Nat} (h : marks s m) : ∃ (cp : World → Nat) (mw : World → World),
    (∀ w, (convert 9 42 (.string s)).run Try.prog w = .ok (.slice (some ⟨w.heap.size, 0, none⟩) 2 (cp w)) (mw w)) ∧
    ∀ w, Rd (mw w) (some ⟨w.heap.size, 0, none⟩) 2 (cp w) (u8n [76, m]) ∧ Below w.heap.size w (mw w) := by
  have h2 := h.size
  refine ⟨fun w => grownCap w s.size 0 5, fun w => Lib.bytesWorld w 5 s, fun w => ?_, fun w => ⟨⟨rfl, ?_, ?_, fun _ => ⟨_, _, rfl, ?_, fun j u hu => ?_⟩⟩, ⟨rfl, rfl, rfl, ?_, fun k hk => Lib.bytesWorld_at_old w _ s k hk⟩⟩⟩
  · have := Lib.run_convert_string_bytes (P := Try.prog) w 9 42 5 s Try.underlying9 Try.underlying42 Try.underlying5
    rw [h2] at this ⊢
    exact this
  · have := grownCap_ge w s.size 0 5
    dsimp only
    omega
  · have := grownCap_le_maxLen w s.size 0 5 (by unfold maxLen; omega)
    unfold maxLen at this
    exact this
  · rw [Lib.bytesWorld_size]
    omega
  · have hj : j < 2 := by have := (List.getElem?_eq_some_iff.1 hu).1; simpa [u8n] using this
    rw [Nat.zero_add, Lib.bytesWorld_cell w _ s j (by omega), h.at_ hj]
    rw [← hu]
    match j, hj with
    | 0, _ => rfl
    | 1, _ => rfl
  · rw [Lib.bytesWorld_size]
    omega

theorem size8 : (Try.prog.info? 5).map (·.size) = some 1 := by kernel_rfl
/-- What fields tell, each a number and how many bytes it has. -/
def told (F : List (Nat × Int)) : List Nat := F.flatMap fun f => pbn f.2 (f.1 : Nat)
theorem told_next {F : List (Nat × Int)} {k : Nat} (h : k < F.length) : told (F.take (k + 1)) = told (F.take k) ++ pbn F[k].2 (F[k].1 : Nat) := by
  unfold told
  rw [List.take_succ_eq_append_getElem h, List.flatMap_append]
  simp
theorem told_lt (F : List (Nat × Int)) : byt (told F) := by
  intro c hc
  simp only [told, List.mem_flatMap] at hc
  obtain ⟨f, _, hf⟩ := hc
  exact pbn_lt _ _ c hf
theorem told_len (F : List (Nat × Int)) : (told F).length ≤ 6 * F.length := by
  induction F with
  | nil => simp [told]
  | cons f F ih =>
    have h1 : told (f :: F) = pbn f.2 (f.1 : Nat) ++ told F := by simp [told]
    have h2 := NumA.wd_le (f.1 : Nat)
    rw [h1, List.length_append, pbn_len, List.length_cons]
    omega

set_option maxRecDepth 100000 in
set_option maxHeartbeats 3200000 in
theorem sector_any (s : ByteArray) (m : Nat) (hs : marks s m) (hm : m < 256) (F : List (Nat × Int)) (g gb n : Nat) (t' t2 : TypeId) (w : World) (hF : F.length = n) (h0 : 0 < n) (hn : n ≤ 100) (hB : Blk w gb t' (fcells g (F.map Prod.fst))) (hV : Blk w g t2 (vals (F.map Prod.snd))) (h60 : 2 + (told F).length ≤ 60) (xs : List Nat) (hxs : xs = [76, m] ++ told F) :
    Calls Try.prog 44 #[.string s, .slice (some ⟨gb, 0, none⟩) n n] w (Gives w (shut xs)) := by
  obtain ⟨i0, hi0, hz0, hz1, hz2⟩ := info_parts NumA.info8
  obtain ⟨cp, mw, kc, hmw⟩ := conv_two hs
  have HMW := Lib.hid hmw
  have HB := Lib.hid hB
  have HV := Lib.hid hV
  have HF := Lib.hid hF
  have H60 := Lib.hid h60
  have HM := Lib.hid hm
  have HXS := Lib.hid hxs
  clear hxs
  have hgl := hB.lt
  have hvl := hV.lt
  clear hmw hB hV hF h60 hs hm
  go_enter Try.func44, Try.ntmps44
  go_wp2_with fail
  go_loopw [5, 13] (fun b i wr => ∃ (k : Nat) (A : Option Addr) (l c : Nat), k ≤ n ∧ i = .int .i64 k ∧ b = .slice A l c ∧ Hid (Rd wr A l c (u8n ([76, m] ++ told (F.take k)))) ∧ Hid (0 < k → wr.ownsRow w.heap.size 5 1 (.slice A l c) l (u8n ([76, m] ++ told (F.take k)))) ∧ Hid (Below w.heap.size w wr)) (fun _ i _ => n - (intOf i).toNat)
  case atStart => exact ⟨0, _, _, _, by omega, rfl, rfl, Lib.hid (HMW.out w).1, Lib.hid (fun h => by omega), Lib.hid (HMW.out w).2⟩
  case round =>
    obtain ⟨k, A, l, c, hk, rfl, rfl, hR, hO, hL⟩ := hrel
    have hLs := hL.out.size
    by_cases hkn : k < n
    · have hkF : k < F.length := by have := HF.out; omega
      have q0 := (HB.out.below hL.out).cell (i := k * 2) (fcells_at (by rw [List.length_map]; exact hkF))
      have q1 := (HB.out.below hL.out).cell (i := k * 2 + 1) (fcells_wd (by rw [List.length_map]; exact hkF))
      have q2 := (HV.out.below hL.out).cell (i := k) (v := .int .i64 F[k].2) (by simp [vals, hkF])
      have HN := Lib.hid (told_next hkF)
      have HL := Lib.hid (told_len (F.take k))
      rw [List.getElem_map] at q1
      obtain ⟨x, hx⟩ : ∃ x, x = F[k].1 := ⟨_, rfl⟩
      obtain ⟨v, hv⟩ : ∃ v, v = F[k].2 := ⟨_, rfl⟩
      rw [← hx] at q1 HN
      rw [← hv] at q2 HN
      clear hx hv
      go_wp2_with fail
      have HB4 := Lib.hid (Blk.new wr 84 [.pointer (some ⟨g, k, none⟩), .int .i64 (x : Nat)])
      have HL4 := Lib.hid (show Below w.heap.size w (wr.alloc (.cells [.pointer (some ⟨g, k, none⟩), .int .i64 (x : Nat)].toArray 84)) from hL.out.alloc hLs _)
      have HR4 := Lib.hid (show Rd (wr.alloc (.cells [.pointer (some ⟨g, k, none⟩), .int .i64 (x : Nat)].toArray 84)) A l c (u8n ([76, m] ++ told (F.take k))) from hR.out.alloc _)
      obtain ⟨bx, hbx⟩ : ∃ bx, bx = wr.heap.size := ⟨_, rfl⟩
      have r2 : (wr.alloc (.cells [.pointer (some ⟨g, k, none⟩), .int .i64 (x : Nat)].toArray 84)).cell? ⟨g, k, none⟩ = some (.int .i64 v) := (((Below.refl wr.heap.size wr).alloc (Nat.le_refl _) _).cell (p := ⟨g, k, none⟩) (by show g < _; omega)).trans q2
      rw [← hbx] at HB4
      rw [← hbx]
      have hgbx : g < bx := by omega
      clear hbx q0 q1 q2
      generalize hw4 : wr.alloc (.cells [.pointer (some ⟨g, k, none⟩), .int .i64 (x : Nat)].toArray 84) = w4 at *
      clear hw4
      have r0 := HB4.out.cell (i := 0) rfl
      have r1 := HB4.out.cell (i := 1) rfl
      have hbl := HB4.out.lt
      have hll := Rd.nats HR4.out
      have HPUT := Lib.hid (NumB.put_any A l c (nl ([76, m] ++ told (F.take k))) v (x : Nat) w4.drew (show Rd w4.drew _ _ _ _ from by rw [← nl_u8s]; exact HR4.out.drewN 1) (by
        have := HL.out
        rw [List.length_take] at this
        rw [List.length_append] at hll
        simp at hll
        omega))
      clear hll
      go_region_held3 (fun w' => w'.cell? ⟨bx, 0, none⟩ = some (.pointer (some ⟨g, k, none⟩)) ∧ w'.cell? ⟨bx, 1, none⟩ = some (.int .i64 (x : Nat)) ∧ w'.cell? ⟨g, k, none⟩ = some (.int .i64 v))
        (first | go_keep | exact ⟨(hb6.cell (p := ⟨bx, 0, none⟩) hbl).trans r0, (hb6.cell (p := ⟨bx, 1, none⟩) hbl).trans r1, (hb6.cell (p := ⟨g, k, none⟩) (by show g < w4.heap.size; omega)).trans r2⟩)
        ((go_at_call 57; refine HPUT.out.mono ?_; rintro e w6 ⟨A6, n6, c6, hn6, rfl, hown6, hb6⟩))
      all_goals (
        have HO6 := Lib.hid (show w6.ownsRow w.heap.size 5 1 (.slice A6 n6 c6) n6 (u8n ([76, m] ++ told (F.take (k + 1)))) from by
          rw [HN.out, ← List.append_assoc, nl_u8s, nl_app, pbn_nl]
          exact own_mono hown6 HL4.out.size)
        have HL6 := Lib.hid (show Below w.heap.size w w6 from (show Below w.heap.size w w4.drew from below_drewN HL4.out 1).trans (hb6.mono HL4.out.size))
        clear hb6 hown6 hn6 r0 r1 r2
        go_wp2
        go_roundw
        case rel => exact ⟨k + 1, A6, n6, c6, by omega, by go_num, rfl, Lib.hid (Rd.own HO6.out), Lib.hid (fun _ => HO6.out), HL6⟩
        case measure => simp [intOf]; omega)
    · obtain rfl : k = n := by omega
      have hO := Lib.hid (hO.out h0)
      rw [List.take_of_length_le (by have := HF.out; omega), ← HXS.out] at hO hR
      have HX := Lib.hid (show byt xs from by rw [HXS.out]; exact byt_app (by have := HM.out; intro c hc; simp at hc; omega) (told_lt F))
      have HLEN := Lib.hid (show xs.length ≤ 60 from by rw [HXS.out]; have := H60.out; simp; omega)
      have HLL := Lib.hid (Rd.nats hR.out)
      go_wp2_with fail
      refine (sumOf_any A l c xs _ hR.out HX.out).mono ?_
      rintro e w2 ⟨A2, n2, c2, rfl, hown2, hb2⟩
      have HO2 := Lib.hid (own_below hO.out hb2)
      have HL2 := Lib.hid (hL.out.trans (hb2.mono hLs))
      have HR2 := Lib.hid (Rd.own hown2)
      have hs2 := HL2.out.size
      obtain rfl : 4 = n2 := by have := Rd.nats HR2.out; rw [s4_len] at this; omega
      clear hown2 hb2 hO hR
      go_wp2_with (first
       | (at_builtin; refine wpList_add _ rfl (.tmp 26) (.tmp 28) _ rfl w.heap.size 5 i0 _ 1 Try.underlying42 hi0 hz0 hz1 hz2 rfl _ l _ rfl HO2.out A2 4 c2 _ rfl HR2.out (u8n_one _) (by have := HLEN.out; have := HLL.out; omega) (by have := HLEN.out; have := HLL.out; omega) hs2 ?_; intro A3 n3 c3 w3 hn3 hown3 hg3 hat3;
          have HL3 := Lib.hid (below_add HL2.out HO2.out (Nat.le_refl _) hg3); rw [u8n_app] at hown3; have HR3 := Lib.hid (Rd.own hown3); have hs3 := HL3.out.size; have HN3 := Lib.hid (show n3 ≤ 64 from by have := HLEN.out; have := HLL.out; have := hn3.out; omega); have HLX := Lib.hid (show xs.length + 4 = n3 from by have := HLL.out; have := hn3.out; omega); clear hown3 hg3 hat3 hn3)
       | (at_make; refine wpList_make_room _ rfl _ _ _ rfl 5 i0 _ 1 Try.underlying42 hi0 hz0 hz1 hz2 rfl _ _ _ _ 64 64 rfl rfl (by omega) (by omega) (by omega) (by omega) (by omega) ?_; intro w4 H4 hb4 hs4;
          have HB4 := Lib.hid (show Blk w4 w3.heap.size 5 (u8n (List.replicate 64 0)) from (by have h := H4.out; unfold Blk; rw [h]; simp [u8n])); have HL4 := Lib.hid (HL3.out.trans (hb4.mono hs3)); have HR4 := Lib.hid (HR3.out.below hb4); clear H4 hb4 hs4)
       | (refine wpList_copy_part rfl (.tmp 31) (.tmp 32) 42 42 rfl 5 Try.underlying42 size8 w3.heap.size 0 64 64 rfl rfl HR4.out (u8n_one _) HB4.out (by rw [u8n_len]; simp) ?_; intro w5 k5 hk5 HB5 ho5))
      go_ret
      have hk5 := hk5.out
      have hB5 := HB5.out
      obtain rfl : k5 = n3 := by have := HN3.out; omega
      have e2 : splice (u8n (List.replicate 64 0)) 0 ((u8n (xs ++ s4 xs)).take k5) = u8n (shut xs) := by
        have e4 : (xs ++ s4 xs).length = k5 := by rw [List.length_append, s4_len]; exact HLX.out
        rw [List.take_of_length_le (by rw [u8n_len, e4]; omega)]
        simp only [splice, List.take_zero, List.nil_append, Nat.zero_add, u8n_len, e4]
        have e5 : (u8n (List.replicate 64 0)).drop k5 = u8n (List.replicate (60 - xs.length) 0) := by
          have h1 := HLX.out
          have h2 : 64 - k5 = 60 - xs.length := by omega
          simp only [u8n, List.map_replicate, List.drop_replicate, h2]
        rw [e5, u8n_app, List.append_assoc]
        rfl
      rw [e2] at hB5
      have e3 : (u8n (shut xs)).length = 64 := by rw [u8n_len, shut_len HLEN.out]
      have h := own_of_block (base := w.heap.size) (n := 64) hB5 hs3 (by omega) (by omega)
      rw [e3, List.take_of_length_le (by omega)] at h
      exact ⟨_, _, _, rfl, h, ho5.out.below HL4.out hs3 HL4.out.size⟩
end Go.Proofs.Ytdmfgffjplbloaa.RecK
namespace Go.Proofs.Ytdmfgffjplbloaa.Beq
open Go.RowKit Go.Proofs.Ytdmfgffjplbloaa.Kit Go.Proofs.Ytdmfgffjplbloaa.Byt

def nl (xs : List Nat) : List Int := xs.map fun n : Nat => (n : Int)
def stn (xs : List Nat) : ByteArray := strOfNums (nl xs)
theorem conv_str {P : Program} {w : World} {A : Option Addr} {n c : Nat} {xs : List Nat} {src e dst : TypeId} (hr : Rd w A n c (u8n xs)) (hs : P.underlying src = some (.slice e)) (he : P.underlying e = some (.int .u8)) (hd : P.underlying dst = some .string) :
    (convert src dst (.slice A n c)).run P w = .ok (.string (stn xs)) w := by
  have hl := Rd.nats hr
  rcases Nat.eq_zero_or_pos n with h0 | h0
  · subst h0
    obtain rfl : xs = [] := List.eq_nil_of_length_eq_zero hl
    rcases A with _ | a
    · rw [run_convert_bytes_nil w src e hs he 0 c dst hd]
      rfl
    · rw [run_convert_bytes_string w src dst e _ 0 c hs he hd, run_bytesToString w a 0 c [] (by simp [loadCells, loadCellsFrom])]
      rfl
  · obtain ⟨b, o, rfl, _, hc⟩ := hr.2.2.2 h0
    exact run_convert_bytes_arg w src e hs he b o n c (nl xs) (by simp [nl, hl]) (fun i hi => by
      rw [hc i (.int .u8 ((nl xs).getD i 0)) (by
        have : i < xs.length := by omega
        simp [u8n, nl, List.getD, this])]) dst hd
theorem stn_inj {xs ys : List Nat} (hx : ∀ u ∈ xs, u < 256) (hy : ∀ u ∈ ys, u < 256) (h : (stn xs).toList = (stn ys).toList) : xs = ys := by
  unfold stn at h
  rw [Lib.strOfNums_toList, Lib.strOfNums_toList] at h
  have h2 := congrArg (List.map UInt8.toNat) h
  have e : ∀ zs : List Nat, (∀ u ∈ zs, u < 256) → (Lib.bytesOf (nl zs)).map UInt8.toNat = zs := by
    intro zs hz
    have : (Lib.bytesOf (nl zs)).map UInt8.toNat = zs.map id := by
      simp only [Lib.bytesOf, nl, List.map_map]
      refine List.map_congr_left fun u hu => ?_
      have := hz u hu
      simp [Nat.mod_eq_of_lt this]
    simpa using this
  rw [e xs hx, e ys hy] at h2
  exact h2
theorem eql_str {xs ys : List Nat} (hx : ∀ u ∈ xs, u < 256) (hy : ∀ u ∈ ys, u < 256) : ((stn xs).toList == (stn ys).toList) = decide (xs = ys) := by
  rw [Bool.eq_iff_iff]
  simp only [beq_iff_eq, decide_eq_true_eq]
  exact ⟨stn_inj hx hy, fun h => by rw [h]⟩
set_option maxRecDepth 100000 in
set_option maxHeartbeats 400000 in
theorem equal_any (A B : Option Addr) (n m c d : Nat) (xs ys : List Nat) (w : World) (hx : Rd w A n c (u8n xs)) (hy : Rd w B m d (u8n ys)) (bx : ∀ u ∈ xs, u < 256) (by_ : ∀ u ∈ ys, u < 256) :
    Calls Try.prog 68 #[.slice A n c, .slice B m d] w fun e w' => e = .returned (.bool (decide (xs = ys))) ∧ w = w' := by
  have c1 := conv_str (P := Try.prog) (src := 42) (e := 5) (dst := 9) hx Try.underlying42 Try.underlying5 Try.underlying9
  have c2 := conv_str (P := Try.prog) (src := 42) (e := 5) (dst := 9) hy Try.underlying42 Try.underlying5 Try.underlying9
  have c3 := Lib.hid (eql_str bx by_)
  generalize decide (xs = ys) = q at *
  generalize stn xs = sx at *
  generalize stn ys = sy at *
  clear hx hy bx by_
  go_enter Try.func68, Try.ntmps68
  go_wp2
  go_ret
  exact ⟨ret_bool c3.out, rfl⟩
end Go.Proofs.Ytdmfgffjplbloaa.Beq
