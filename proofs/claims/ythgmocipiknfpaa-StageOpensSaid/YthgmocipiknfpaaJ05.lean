/- The register behind one byte more, by the table; behind bytes, by the table's bound method; the sum. Conditions: the table's block is as it was made (or there is none), the slice reads as the bytes that are named, the register is one of 32 bits. When a stage is right, the sum as it stands behind bytes, and whether bytes are all zeros, by the code. Conditions: numbers of 64 bits; the slice reads as the bytes that are named. -/
import Derived.Test.YthgmocipiknfpaaJ04
namespace Go.Proofs.Ythgmocipiknfpaa.CrcD
open Go.RowKit Go.Proofs.Ythgmocipiknfpaa.Kit Go.Proofs.Ythgmocipiknfpaa.Byt Go.Proofs.Ythgmocipiknfpaa.CrcM Go.Proofs.Ythgmocipiknfpaa.CrcA Go.Proofs.Ythgmocipiknfpaa.CrcB Go.Proofs.Ythgmocipiknfpaa.CrcC

theorem Tb.at_ {w : World} {g i : Nat} (h : Tb w g 256) (hi : i < 256) : w.cell? ⟨g, i, none⟩ = some (.int .u32 (s8 i : Nat)) := by
  rw [Tb.cell h hi, if_pos hi]
theorem Tb.below {w w' : World} {g k : Nat} (h : Tb w g k) (hb : Below w.heap.size w w') : Tb w' g k := by
  have := hb.block g (lt_of_block h)
  unfold Tb at *
  rw [this, h]
theorem low8 (x c : Nat) (hc : c < 256) : bits .xor .u8 ((x : Int) % 256) (c : Int) = ((x % 256 ^^^ c : Nat) : Int) := by
  have := u8_xor_nat (x % 256) c (by omega) hc
  rw [← this]
  simp

set_option maxRecDepth 100000 in
set_option maxHeartbeats 400000 in
theorem next_any (g x c : Nat) (w : World) (hT : Tb w g 256) (hx : x < 4294967296) (hc : c < 256) : Calls Try.prog 97 #[.pointer (some ⟨g, 0, none⟩), .int .u32 (x : Nat), .int .u8 (c : Nat)] w fun e w' => e = .returned (.int .u32 (fb x c : Nat)) ∧ w = w' := by
  have hf : Hid (fb x c = s8 (x % 256 ^^^ c) ^^^ x / 256) := Lib.hid (fb_table hc)
  have hi : (x % 256 ^^^ c) < 256 := Nat.xor_lt_two_pow (n := 8) (by omega) hc
  have hl := low8 x c hc
  have hcell := Tb.at_ hT hi
  have hs := s8_lt (x := x % 256 ^^^ c) (by omega)
  have hxor := xor32 (x := s8 (x % 256 ^^^ c)) (y := x / 256) hs (by omega)
  have hd : ((x / 256 : Nat) : Int) = (x : Int) / 256 := by simp
  rw [hd] at hxor
  clear hd
  generalize s8 (x % 256 ^^^ c) = y at *
  generalize x % 256 ^^^ c = i at *
  go_enter Try.func97, Try.ntmps97
  go_wp2
  go_ret
  exact ⟨ret_int (by rw [hf.out]), rfl⟩

set_option maxRecDepth 100000 in
set_option maxHeartbeats 400000 in
theorem through_any (g : Nat) (A : Option Addr) (n c : Nat) (xs : List Nat) (x : Nat) (w : World) (hT : Tb w g 256) (hr : Rd w A n c (u8n xs)) (hb : ∀ c ∈ xs, c < 256) (hx : x < 4294967296) :
    Calls Try.prog 96 #[.func (.func 97) #[.pointer (some ⟨g, 0, none⟩)] #[], .int .u32 (x : Nat), .slice A n c] w fun e w' => e = .returned (.int .u32 (fd x xs : Nat)) ∧ w = w' := by
  obtain rfl := Rd.nats hr
  have lx : xs.length ≤ 9223372036854775807 := by have := hr.le; have := hr.cap; omega
  have HT := Lib.hid hT
  clear hT
  go_enter Try.func96, Try.ntmps96
  go_wp2
  go_loop [1, 11, 8] (fun s i _ => ∃ k : Nat, k ≤ xs.length ∧ i = .int .i64 k ∧ s = .int .u32 (fd x (xs.take k) : Nat)) (fun _ i _ => xs.length - (intOf i).toNat)
  case atStart => exact ⟨0, Nat.zero_le _, rfl, by rw [List.take_zero, fd_nil]⟩
  case round =>
    obtain ⟨k, hk, rfl, rfl⟩ := hrel
    have hy : fd x (xs.take k) < 4294967296 := fd_lt hx fun c hc => hb c (List.mem_of_mem_take hc)
    by_cases hlt : k < xs.length
    · obtain ⟨b, o, rfl, hc⟩ := Rd.nat hr hlt
      have hs : Hid (fd x (xs.take (k + 1)) = fb (fd x (xs.take k)) xs[k]) := Lib.hid (by rw [take_snoc hlt, fd_snoc])
      have hbk := hb xs[k] (List.getElem_mem hlt)
      generalize fd x (xs.take k) = y at *
      go_wp2_with (go_at_call 97; refine (next_any g y xs[k] _ HT.out hy hbk).mono ?_; rintro e w' ⟨rfl, rfl⟩)
      go_round
      case rel => exact ⟨k + 1, by omega, by go_num, by rw [hs.out]⟩
      case measure => simp [intOf]; omega
    · have he : Hid (xs.take k = xs) := Lib.hid (List.take_of_length_le (by omega))
      go_wp2
      go_ret
      exact ⟨ret_int (by rw [he.out]), rfl⟩

theorem makeFunc_run (fn : Fn) (first cap : Array Value) (w : World) : (Instr.makeFunc fn first cap).run Try.prog w = .ok (.func fn first cap) w := rfl

/-- Of a table that is there. -/
theorem feed_there (g : Nat) (A : Option Addr) (n c : Nat) (xs : List Nat) (x : Nat) (w : World) (hT : Tb w g 256) (hr : Rd w A n c (u8n xs)) (hb : ∀ c ∈ xs, c < 256) (hx : x < 4294967296) :
    Calls Try.prog 91 #[.pointer (some ⟨g, 0, none⟩), .int .u32 (x : Nat), .slice A n c] w fun e w' => e = .returned (.int .u32 (fd x xs : Nat)) ∧ w = w' := by
  have HT := Lib.hid hT
  clear hT
  have hmf := makeFunc_run
  go_enter Try.func91, Try.ntmps91
  go_wp2_with (go_at_call 96; refine (through_any g A n c xs x _ HT.out hr hb hx).mono ?_; rintro e w' ⟨rfl, rfl⟩)
  go_ret
  exact ⟨rfl, rfl⟩

/-- Of a table that is not there. -/
theorem feed_nil (A : Option Addr) (n c : Nat) (xs : List Nat) (x : Nat) (w : World) (hr : Rd w A n c (u8n xs)) (hb : ∀ c ∈ xs, c < 256) (hx : x < 4294967296) :
    Calls Try.prog 91 #[.pointer none, .int .u32 (x : Nat), .slice A n c] w fun e w' => e = .returned (.int .u32 (fd x xs : Nat)) ∧ Below w.heap.size w w' := by
  have hmf := makeFunc_run
  go_enter Try.func91, Try.ntmps91
  go_wp2_with (first
   | (go_at_call 82; refine (make_any _).mono ?_; rintro e w1 ⟨rfl, hT, hb1, hs1⟩; clear hs1; have HT := Lib.hid hT; clear hT)
   | (go_at_call 96; refine (through_any _ A n c xs x _ HT.out (hr.below hb1) hb hx).mono ?_; rintro e w' ⟨rfl, rfl⟩))
  go_ret
  exact ⟨rfl, hb1⟩

theorem begin_any (w : World) : Calls Try.prog 92 #[] w fun e w' => e = .returned (.int .u32 4294967295) ∧ w = w' := by
  go_enter Try.func92, Try.ntmps92
  go_wp2
  go_ret
  exact ⟨rfl, rfl⟩
theorem not32 (x : Nat) (hx : x < 4294967296) : 4294967295 ^^^ x = 4294967295 - x := by
  have h : (BitVec.allOnes 32 ^^^ BitVec.ofNat 32 x) = ~~~ BitVec.ofNat 32 x := by rw [BitVec.xor_comm, BitVec.xor_allOnes]
  have h2 := congrArg BitVec.toNat h
  rw [BitVec.toNat_xor, BitVec.toNat_not, BitVec.toNat_allOnes, BitVec.toNat_ofNat, Nat.mod_eq_of_lt (by omega)] at h2
  exact h2
theorem max32 : IntKind.u32.max = 4294967295 := by kernel_rfl
theorem not_any {x : Nat} (hx : x < 4294967296) : bits .xor .u32 IntKind.u32.max (x : Int) = ((4294967295 - x : Nat) : Int) := by
  rw [max32]
  have h := xor32 (x := 4294967295) (y := x) (by decide) hx
  rw [not32 x hx] at h
  exact h
theorem end_any (x : Nat) (w : World) (hx : x < 4294967296) : Calls Try.prog 90 #[.int .u32 (x : Nat)] w fun e w' => e = .returned (.int .u32 (4294967295 - x : Nat)) ∧ w = w' := by
  go_enter Try.func90, Try.ntmps90
  go_wp2
  all_goals first
    | (go_ret; exact ⟨ret_int (not_any hx), rfl⟩)
    | (exfalso; have h : IntKind.u32.signed = true := by assumption
       cases h)

/-- The sum, of a table that is there. -/
theorem sum_there (g : Nat) (A : Option Addr) (n c : Nat) (xs : List Nat) (w : World) (hT : Tb w g 256) (hr : Rd w A n c (u8n xs)) (hb : ∀ c ∈ xs, c < 256) :
    Calls Try.prog 83 #[.pointer (some ⟨g, 0, none⟩), .slice A n c] w fun e w' => e = .returned (.int .u32 (sm xs : Nat)) ∧ w = w' := by
  have hs : Hid (sm xs = 4294967295 - fd 4294967295 xs) := Lib.hid rfl
  have hl := fd_lt (x := 4294967295) (by decide) hb
  have HF := Lib.hid (feed_there g A n c xs 4294967295 w hT hr hb (by decide))
  clear hT
  generalize fd 4294967295 xs = y at *
  go_enter Try.func83, Try.ntmps83
  go_wp2_with (first
   | (go_at_call 92; refine (begin_any _).mono ?_; rintro e w' ⟨rfl, rfl⟩)
   | (go_at_call 91; refine (HF.out).mono ?_; rintro e w' ⟨rfl, rfl⟩)
   | (go_at_call 90; refine (end_any y _ hl).mono ?_; rintro e w' ⟨rfl, rfl⟩))
  go_ret
  exact ⟨ret_int (by rw [hs.out]), rfl⟩

/-- The sum, of a table that is not there. -/
theorem sum_nil (A : Option Addr) (n c : Nat) (xs : List Nat) (w : World) (hr : Rd w A n c (u8n xs)) (hb : ∀ c ∈ xs, c < 256) :
    Calls Try.prog 83 #[.pointer none, .slice A n c] w fun e w' => e = .returned (.int .u32 (sm xs : Nat)) ∧ Below w.heap.size w w' := by
  have hs : Hid (sm xs = 4294967295 - fd 4294967295 xs) := Lib.hid rfl
  have hl := fd_lt (x := 4294967295) (by decide) hb
  have HF := Lib.hid (feed_nil A n c xs 4294967295 w hr hb (by decide))
  generalize fd 4294967295 xs = y at *
  go_enter Try.func83, Try.ntmps83
  go_wp2_with (first
   | (go_at_call 92; refine (begin_any _).mono ?_; rintro e w' ⟨rfl, rfl⟩)
   | (go_at_call 91; refine (HF.out).mono ?_; rintro e w1 ⟨rfl, hb1⟩)
   | (go_at_call 90; refine (end_any y _ hl).mono ?_; rintro e w' ⟨rfl, rfl⟩))
  go_ret
  exact ⟨ret_int (by rw [hs.out]), hb1⟩

theorem Rd.cells (w : World) (xs : List Nat) (e : TypeId) {m : Nat × Nat} {n : Nat} (hn : xs.length = n) (h63 : n ≤ 9223372036854775807) : Rd (w.alloc (.cells (u8n xs).toArray e m)) (some ⟨w.heap.size, 0, none⟩) n n (u8n xs) := by
  refine ⟨by rw [u8n_len, hn], by omega, by omega, fun _ => ⟨_, _, rfl, by simp, fun j u hu => ?_⟩⟩
  rw [Nat.zero_add, World.cell?_alloc_mark]
  simpa using hu

end Go.Proofs.Ythgmocipiknfpaa.CrcD
namespace Go.Proofs.Ythgmocipiknfpaa.RecI
open Go.RowKit Go.Proofs.Ythgmocipiknfpaa.Kit Go.Proofs.Ythgmocipiknfpaa.Byt Go.Proofs.Ythgmocipiknfpaa.Mem Go.Proofs.Ythgmocipiknfpaa.RecM Go.Proofs.Ythgmocipiknfpaa.RecA Go.Proofs.Ythgmocipiknfpaa.RecC Go.Proofs.Ythgmocipiknfpaa.RecG

theorem blocks_q {z : Int} (hz : n64 z) {K : Nat} (h : K = blocks z) (w : World) : Calls Try.prog 34 #[.int .i64 z] w fun e w' => e = .returned (.int .i64 (K : Nat)) ∧ w' = w := h ▸ (blocks_any z w hz).mono fun _ _ h => ⟨h.1, h.2.symm⟩
set_option maxRecDepth 100000 in
set_option maxHeartbeats 1600000 in
theorem rights_any (g : Sg) (w : World) (hk : sok g) (b : Bool) (hb : b = true ↔ g.right) : Calls Try.prog 51 #[sval g] w (Yes w b) := by
  obtain ⟨s, z, h⟩ := g
  have HB := Lib.hid (show b = true ↔ (1 ≤ s ∧ s ≤ 65535) ∧ (1 ≤ z ∧ z ≤ 160) ∧ (0 ≤ h ∧ h < 2 ^ blocks z) from hb)
  have hz := hk.z
  clear hb hk
  have HX := Lib.hid (Bx.new w 32 (scells ⟨s, z, h⟩))
  have HF := Lib.hid (show ∀ q : Prop, (b = true → q) → ¬ q → b = false from fun q h hp => by rw [Bool.eq_false_iff]; exact fun hb => hp (h hb))
  show Calls _ _ #[.agg #[.int .i64 s, .int .i64 z, .int .i64 h]] w _
  cases s0 : inn s 1 65535
  · have hbf := Lib.hid (HF.out _ (fun h => (HB.out.1 h).1) (inn_false s0))
    go_enter Try.func51, Try.ntmps51
    go_wp2_with fail
    have W0 := Lib.hid (fun w1 => within_q s0 w1)
    clear s0
    go_quiet ((go_at_call 74; with_reducible exact Calls.quiet_of_same (W0.out _)))
    go_wp2
    go_ret
    exact ⟨by rw [hbf.out]; rfl, below_drewN HX.out.bel _⟩
  · cases s1 : inn z 1 160
    · have hbf := Lib.hid (HF.out _ (fun h => (HB.out.1 h).2.1) (inn_false s1))
      go_enter Try.func51, Try.ntmps51
      go_wp2_with fail
      have W0 := Lib.hid (fun w1 => within_q s0 w1)
      have W1 := Lib.hid (fun w1 => within_q s1 w1)
      clear s0 s1
      go_quiet ((first | (go_at_call 74; with_reducible exact Calls.quiet_of_same (W0.out _)) | (go_at_call 74; with_reducible exact Calls.quiet_of_same (W1.out _))))
      go_wp2
      go_ret
      exact ⟨by rw [hbf.out]; rfl, below_drewN HX.out.bel _⟩
    · have h1 := inn_true s1
      obtain ⟨K, hK⟩ : ∃ K, K = blocks z := ⟨_, rfl⟩
      have hK10 : K ≤ 10 := by rw [hK]; unfold blocks; omega
      have hp : (2 : Int) ^ K ≤ 1024 := by rw [hK]; exact pow_blocks h1.2
      have hp1 : 1 ≤ (2 : Int) ^ K := by
        have h2 : 1 ≤ 2 ^ K := Nat.one_le_two_pow
        have h3 : ((2 ^ K : Nat) : Int) = (2 : Int) ^ K := by simp
        omega
      have HBK := Lib.hid (fun w1 => blocks_q hz hK w1)
      cases s2 : inn h 0 ((2 : Int) ^ K - 1)
      · have hbf := Lib.hid (HF.out _ (fun h => (HB.out.1 h).2.2) (by have := inn_false s2; rw [← hK]; omega))
        have W0 := Lib.hid (fun w1 => within_q s0 w1)
        have W1 := Lib.hid (fun w1 => within_q s1 w1)
        have W2 := Lib.hid (fun w1 => within_q s2 w1)
        clear s0 s1 s2 hK
        go_enter Try.func51, Try.ntmps51
        go_wp2_with fail
        go_quiet ((first | (go_at_call 74; with_reducible exact Calls.quiet_of_same (W0.out _)) | (go_at_call 74; with_reducible exact Calls.quiet_of_same (W1.out _)) | (go_at_call 34; with_reducible exact Calls.quiet_of_same (HBK.out _)) | (go_at_call 74; with_reducible exact Calls.quiet_of_same (W2.out _))))
        go_wp2
        go_ret
        exact ⟨by rw [hbf.out]; rfl, below_drewN HX.out.bel _⟩
      · have hbt := Lib.hid (HB.out.2 ⟨inn_true s0, h1, by have := inn_true s2; rw [← hK]; omega⟩)
        have W0 := Lib.hid (fun w1 => within_q s0 w1)
        have W1 := Lib.hid (fun w1 => within_q s1 w1)
        have W2 := Lib.hid (fun w1 => within_q s2 w1)
        clear s0 s1 s2 hK
        go_enter Try.func51, Try.ntmps51
        go_wp2_with fail
        go_quiet ((first | (go_at_call 74; with_reducible exact Calls.quiet_of_same (W0.out _)) | (go_at_call 74; with_reducible exact Calls.quiet_of_same (W1.out _)) | (go_at_call 34; with_reducible exact Calls.quiet_of_same (HBK.out _)) | (go_at_call 74; with_reducible exact Calls.quiet_of_same (W2.out _))))
        go_wp2
        go_ret
        exact ⟨by rw [hbt.out]; rfl, below_drewN HX.out.bel _⟩

set_option maxRecDepth 100000 in
set_option maxHeartbeats 800000 in
theorem sumOf_any (A : Option Addr) (n c : Nat) (xs : List Nat) (w : World) (hR : Rd w A n c (u8n xs)) (hx : byt xs) :
    Calls Try.prog 70 #[.slice A n c] w (Gives w (s4 xs)) := by
  have HR := Lib.hid hR
  have hlt : CrcM.sm xs < 4294967296 := CrcM.sm_lt xs
  have HS := Lib.hid (fun g w' (hT : CrcC.Tb w' g 256) (h : Rd w' A n c (u8n xs)) => CrcD.sum_there g A n c xs w' hT h hx)
  have HD := Lib.hid (show s4 xs = pbn (CrcM.sm xs : Nat) 4 from rfl)
  obtain ⟨y, hy⟩ : ∃ y, y = CrcM.sm xs := ⟨_, rfl⟩
  rw [← hy] at HS hlt HD
  clear hR hy
  go_enter Try.func70, Try.ntmps70
  go_wp2_with (first
   | (go_at_call 82; refine (CrcC.make_any _).mono ?_; rintro e w1 ⟨rfl, hT, hb1, hs1⟩; clear hs1; have HT := Lib.hid hT; clear hT)
   | (go_at_call 83; refine (HS.out _ _ HT.out (HR.out.below hb1)).mono ?_; rintro e w' ⟨rfl, rfl⟩)
   | (go_at_call 81; refine (NumB.put_any none 0 0 [] (y : Nat) 4 _ (Rd.nil _) (by omega)).mono ?_; rintro e w2 ⟨A2, n2, c2, hn2, rfl, hown2, hb2⟩))
  go_ret
  refine ⟨A2, n2, c2, rfl, ?_, hb1.trans (hb2.mono hb1.size)⟩
  rw [HD.out, nl_u8s, pbn_nl]
  exact own_mono (by simpa using hown2) hb1.size

set_option maxRecDepth 100000 in
set_option maxHeartbeats 400000 in
theorem zeros_any (A : Option Addr) (n c : Nat) (xs : List Nat) (w : World) (hR : Rd w A n c (u8n xs)) (b : Bool) (hb : b = true ↔ xs = List.replicate xs.length 0) :
    Calls Try.prog 68 #[.slice A n c] w fun e w' => e = .returned (.bool b) ∧ w = w' := by
  have hn : xs.length = n := Rd.nats hR
  have hcap := hR.cap
  have hle := hR.le
  have HR := Lib.hid hR
  have HB := Lib.hid hb
  have HN := Lib.hid hn
  clear hR hb hn
  go_enter Try.func68, Try.ntmps68
  go_wp2
  go_loop [7] (fun i => ∃ k : Nat, k ≤ n ∧ i = .int .i64 k ∧ Hid (xs.take k = List.replicate k 0)) (fun i => n - (intOf i).toNat)
  case atStart => exact ⟨0, by omega, rfl, Lib.hid (by simp)⟩
  case round =>
    obtain ⟨k, hk, rfl, hz⟩ := hrel
    by_cases hkn : k < n
    · obtain ⟨bb, o, rfl, hc⟩ := Rd.nat HR.out (k := k) (by have := HN.out; omega)
      have HX := Lib.hid (show ∀ h : k < xs.length, xs.take (k + 1) = xs.take k ++ [xs[k]] from fun h => take_snoc h)
      obtain ⟨u, hu⟩ : ∃ u, u = xs[k]'(by have := HN.out; omega) := ⟨_, rfl⟩
      have HU := Lib.hid hu
      rw [← hu] at hc
      clear hu
      by_cases hu0 : u = 0
      · have hd : ((u : Int) != 0) = false := by simp [hu0]
        have HU0 := Lib.hid hu0
        clear hu0
        go_wp2
        go_round
        case rel => exact ⟨k + 1, by omega, by go_num, Lib.hid (by rw [HX.out (by have := HN.out; omega), hz.out, ← HU.out, HU0.out, List.replicate_succ'])⟩
        case measure => simp [intOf]; omega
      · have hd : ((u : Int) != 0) = true := by simp; omega
        have hbf := Lib.hid (show b = false from by
          rw [Bool.eq_false_iff]
          intro h
          have h1 := HB.out.1 h
          refine hu0 ?_
          rw [HU.out]
          have h4 : xs[k]'(by have := HN.out; omega) = (List.replicate xs.length 0)[k]'(by rw [List.length_replicate]; have := HN.out; omega) := by
            have : ∀ (l : List Nat) (hl : k < l.length), xs = l → xs[k]'(by have := HN.out; omega) = l[k] := fun l hl e => by subst e; rfl
            exact this _ _ h1
          rw [h4, List.getElem_replicate])
        clear hu0
        go_wp2
        go_ret
        exact ⟨by rw [hbf.out]; rfl, rfl⟩
    · obtain rfl : k = n := by omega
      have hbt := Lib.hid (HB.out.2 (by have h1 := hz.out; have h2 := HN.out; rw [List.take_of_length_le (by omega)] at h1; rw [h2]; exact h1))
      go_wp2
      go_ret
      exact ⟨by rw [hbt.out]; rfl, rfl⟩
end Go.Proofs.Ythgmocipiknfpaa.RecI
