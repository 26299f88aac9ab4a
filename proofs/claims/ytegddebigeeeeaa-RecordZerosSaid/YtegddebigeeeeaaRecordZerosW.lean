/- The walk of RecordZeros. No conditions. -/
import Derived.Test.YtegddebigeeeeaaRecP
namespace Go.Proofs.Ytegddebigeeeeaa.RecordZerosW
open Go.RowKit Go.Proofs.Ytegddebigeeeeaa.Kit Go.Proofs.Ytegddebigeeeeaa.Byt Go.Proofs.Ytegddebigeeeeaa.Mem Go.Proofs.Ytegddebigeeeeaa.RecM Go.Proofs.Ytegddebigeeeeaa.RecA Go.Proofs.Ytegddebigeeeeaa.RecC Go.Proofs.Ytegddebigeeeeaa.RecG Go.Proofs.Ytegddebigeeeeaa.RecJ Go.Proofs.Ytegddebigeeeeaa.RecN Go.Proofs.Ytegddebigeeeeaa.RecW Go.Proofs.Ytegddebigeeeeaa.RecP

theorem getR_same (n y : Nat) : getR (List.replicate n y) = (Rc.none, if n = 64 then 2 else 14) := by
  have h := wrong_same 67 y n 11 (by omega)
  unfold getR
  rw [h, if_pos (by split <;> omega)]
theorem getS_same (n y : Nat) : getS (List.replicate n y) = (Sg.none, if n = 64 then 2 else 14) := by
  have h := wrong_same 83 y n 8 (by omega)
  unfold getS
  rw [h, if_pos (by split <;> omega)]
theorem set_more {n y k : Nat} (h : k < n) : (List.replicate k y ++ List.replicate (n - k) 0).set k y = List.replicate (k + 1) y ++ List.replicate (n - (k + 1)) 0 := by
  rw [List.set_append_right _ _ (by simp), List.length_replicate, Nat.sub_self]
  obtain ⟨j, hj⟩ : ∃ j, n - k = j + 1 := ⟨n - k - 1, by omega⟩
  rw [hj, List.replicate_succ, List.set_cons_zero, List.replicate_succ', List.append_assoc, show n - (k + 1) = j by omega]
  rfl
set_option maxRecDepth 100000 in
set_option maxHeartbeats 1600000 in
theorem core (y n : Nat) (hy : y < 256) (hn : n < 256) (w : World) : Calls Try.prog 7 #[.int .u8 (y : Nat), .int .u8 (n : Nat)] w (Yes w true) := by
  obtain ⟨i0, hi0, hz0, hz1, hz2⟩ := info_parts NumA.info8
  have hbyt : byt (List.replicate n y) := fun c hc => by rw [List.eq_of_mem_replicate hc]; exact hy
  obtain ⟨X, hX⟩ : ∃ X : Int, X = if n = 64 then 2 else 14 := ⟨_, rfl⟩
  have HG := Lib.hid (fun A m c w' (h : Rd w' A m c (u8n (List.replicate n y))) => (by have h1 := rget_any A m c _ w' h hbyt; rw [getR_same, ← hX] at h1; exact h1 : Calls Try.prog 12 #[.slice A m c] w' (Gets w' (.agg #[.int .i64 0, .int .i64 0, .int .i64 0, .int .i64 0, .int .i64 0, .int .i64 0]) X)))
  have HS := Lib.hid (fun A m c w' (h : Rd w' A m c (u8n (List.replicate n y))) => (by have h1 := sget_any A m c _ w' h hbyt; rw [getS_same, ← hX] at h1; exact h1 : Calls Try.prog 20 #[.slice A m c] w' (Gets w' (.agg #[.int .i64 0, .int .i64 0, .int .i64 0]) X)))
  have HXX := Lib.hid hX
  have heq := req 0 0 0 0 0 0
  have heq2 := seq 0 0 0
  clear hX hbyt
  go_enter Try.func7, Try.ntmps7
  go_wp2_with (first
   | (go_at_call 8; refine (wakes_any _).mono ?_; rintro e w1 ⟨rfl, hb1⟩; have HL1 := Lib.hid hb1; have hs1 := hb1.size; clear hb1)
   | (at_make; refine wpList_make_room _ rfl _ _ _ rfl 5 i0 _ 1 Try.underlying25 hi0 hz0 hz1 hz2 rfl _ _ _ _ n n rfl rfl (by omega) (by omega) (by omega) (by omega) (by omega) ?_; intro w2 H2 hb2 hs2))
  have HB2 := Lib.hid (show Blk w2 w1.heap.size 5 (u8n (List.replicate 0 y ++ List.replicate (n - 0) 0)) from by have h := H2.out; unfold Blk; rw [h]; simp [u8n])
  have HL2 := Lib.hid (HL1.out.trans (hb2.mono hs1))
  clear H2 hb2 hs2 HL1
  go_loopw [19] (fun i wr => ∃ k : Nat, k ≤ n ∧ i = .int .i64 k ∧ Hid (Blk wr w1.heap.size 5 (u8n (List.replicate k y ++ List.replicate (n - k) 0))) ∧ Hid (Below w.heap.size w wr)) (fun i _ => n - (intOf i).toNat)
  case atStart => exact ⟨0, by omega, rfl, HB2, HL2⟩
  case round =>
    obtain ⟨k, hk, rfl, hB, hL⟩ := hrel
    by_cases hkn : k < n
    · have hl : (List.replicate k y ++ List.replicate (n - k) 0).length = n := by simp; omega
      have c0 := Blk.byte hB.out (i := k) (by omega)
      have f0 := Blk.frozen hB.out k
      clear hl
      go_wp2
      go_roundw
      case rel =>
        refine ⟨k + 1, by omega, by go_num, Lib.hid ?_, Lib.hid (hL.out.setCell hs1 _)⟩
        have h := Blk.set hB.out k (.int .u8 (y : Int))
        rw [u8n_set', set_more hkn] at h
        exact h
      case measure => simp [intOf]; omega
    · obtain rfl : k = n := by omega
      have HR := Lib.hid (show Rd wr (some ⟨w1.heap.size, 0, none⟩) k k (u8n (List.replicate k y)) from by
        have hb := hB.out
        rw [Nat.sub_self, List.replicate_zero, List.append_nil] at hb
        exact ⟨by rw [u8n_len]; simp, by omega, by omega, fun _ => ⟨_, _, rfl, hb.lt, fun j u hu => by rw [Nat.zero_add]; exact hb.cell hu⟩⟩)
      clear hB
      go_wp2_with fail
      refine (HG.out _ _ _ _ HR.out).mono ?_
      rintro e w3 ⟨rfl, hb3⟩
      have HR3 := Lib.hid ((HR.out.below hb3).alloc (.cells #[.int .i64 0, .int .i64 0, .int .i64 0, .int .i64 0, .int .i64 0, .int .i64 0] 23))
      have hl3 := hL.out.trans (hb3.mono hL.out.size)
      have HL3 := Lib.hid (hl3.alloc hl3.size (.cells #[.int .i64 0, .int .i64 0, .int .i64 0, .int .i64 0, .int .i64 0, .int .i64 0] 23))
      have HB3 := Lib.hid (show Blk (w3.alloc (.cells #[.int .i64 0, .int .i64 0, .int .i64 0, .int .i64 0, .int .i64 0, .int .i64 0] 23)) w3.heap.size 23 (rcells Rc.none) from Blk.new w3 _ (rcells Rc.none))
      clear hb3 hl3 HR hL
      go_wp2_with fail
      obtain ⟨g, hg⟩ : ∃ g, g = w3.heap.size := ⟨_, rfl⟩
      rw [← hg] at HB3
      rw [← hg]
      clear hg
      generalize w3.alloc (.cells #[.int .i64 0, .int .i64 0, .int .i64 0, .int .i64 0, .int .i64 0, .int .i64 0] 23) = w4 at *
      refine (HS.out _ _ _ _ HR3.out).mono ?_
      rintro e w5 ⟨rfl, hb5⟩
      have HB5 := Lib.hid ((HB3.out.below hb5).alloc (.cells #[.int .i64 0, .int .i64 0, .int .i64 0] 35))
      have hl5 := HL3.out.trans (hb5.mono HL3.out.size)
      have HL5 := Lib.hid (hl5.alloc hl5.size (.cells #[.int .i64 0, .int .i64 0, .int .i64 0] 35))
      clear hb5 hl5 HR3 HL3 HB3
      have z0 := HB5.out.cell (i := 0) rfl
      have z1 := HB5.out.cell (i := 1) rfl
      have z2 := HB5.out.cell (i := 2) rfl
      have z3 := HB5.out.cell (i := 3) rfl
      have z4 := HB5.out.cell (i := 4) rfl
      have z5 := HB5.out.cell (i := 5) rfl
      dsimp only [Rc.none] at z0 z1 z2 z3 z4 z5
      by_cases h64 : k = 64
      · obtain rfl : 2 = X := by rw [HXX.out, if_pos h64]
        have hne : ((k : Int) != 64) = false := by simp; omega
        clear h64
        go_wp2
        go_ret
        exact ⟨rfl, HL5.out⟩
      · obtain rfl : 14 = X := by rw [HXX.out, if_neg h64]
        have hne : ((k : Int) != 64) = true := by simp; omega
        clear h64
        go_wp2
        go_ret
        exact ⟨rfl, HL5.out⟩

theorem hole (a0 a1 : Int) (w0 : (Lit.int .u8 a0).wf = true) (w1 : (Lit.int .u8 a1).wf = true) (w : World) :
    Calls Try.prog 7 #[.int .u8 a0, .int .u8 a1] w fun e w' => e = .returned (.bool true) ∧ Below w.heap.size w w' := by
  have h1 := bounds_u8 w0
  have h2 := bounds_u8 w1
  obtain ⟨y, rfl⟩ : ∃ y : Nat, a0 = y := ⟨a0.toNat, by omega⟩
  obtain ⟨n, rfl⟩ : ∃ n : Nat, a1 = n := ⟨a1.toNat, by omega⟩
  exact core y n (by omega) (by omega) w
end Go.Proofs.Ytegddebigeeeeaa.RecordZerosW
