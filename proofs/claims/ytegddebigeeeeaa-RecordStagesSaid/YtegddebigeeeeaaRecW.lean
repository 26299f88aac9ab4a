/- The laws' example: the sector of a record of which Seq is 1. No conditions. -/
import Derived.Test.YtegddebigeeeeaaRecN
import Derived.Test.YtegddebigeeeeaaSame
namespace Go.Proofs.Ytegddebigeeeeaa.RecW
open Go.RowKit Go.Proofs.Ytegddebigeeeeaa.Kit Go.Proofs.Ytegddebigeeeeaa.Byt Go.Proofs.Ytegddebigeeeeaa.Mem Go.Proofs.Ytegddebigeeeeaa.RecM Go.Proofs.Ytegddebigeeeeaa.RecA Go.Proofs.Ytegddebigeeeeaa.RecC Go.Proofs.Ytegddebigeeeeaa.RecG Go.Proofs.Ytegddebigeeeeaa.RecI Go.Proofs.Ytegddebigeeeeaa.RecJ Go.Proofs.Ytegddebigeeeeaa.RecK Go.Proofs.Ytegddebigeeeeaa.RecL Go.Proofs.Ytegddebigeeeeaa.RecN

theorem make_bytes (n : Nat) (hn : n ≤ 1000) (w : World) : (Instr.makeSlice 25 (.int .i64 (n : Nat)) (.int .i64 (n : Nat))).run Try.prog w = .ok (.slice (some ⟨w.heap.size, 0, none⟩) n n) (w.alloc (.cells (u8n (List.replicate n 0)).toArray 5)) := by
  obtain ⟨i0, hi0, hz0, hz1, hz2⟩ := info_parts NumA.info8
  have h := run_make (P := Try.prog) w 25 5 i0 _ Try.underlying25 hi0 hz0 .i64 .i64 n n (by omega) (by omega) (by rw [hz2]; omega) (by omega)
  have hm : madeCells (Value.int .u8 0).cells ((n : Int).toNat * i0.size) = (u8n (List.replicate n 0)).toArray := by
    rw [hz1, Int.toNat_natCast, Nat.mul_one]
    apply Array.ext'
    show (madeCells #[Value.int .u8 0] n).toList = _
    rw [toList_madeCells_one]
    simp [u8n]
  rw [hm] at h
  exact h
def ex : Rc := ⟨0, 1, 0, 0, 0, 0⟩
theorem ex_right : ex.right := by decide
theorem ex_ok : rok ex := ⟨by unfold n64 ex; decide, by unfold n64 ex; decide, by unfold n64 ex; decide, by unfold n64 ex; decide, by unfold n64 ex; decide, by unfold n64 ex; decide⟩
theorem ex_bytes : ex.bytes = [76, 67, 0, 0, 0, 0, 1, 0, 0, 0, 0] := by
  have h := Rc.bytes_eq (p := 0) (q := 1) (a := 0) (c := 0) (l := 0) (b := 0) ex_right
  exact h
theorem ex_drop : (shut ex.bytes).drop 15 = List.replicate 49 0 := by
  have h := shut_drop ex.bytes
  rw [ex_bytes] at h ⊢
  exact h
set_option maxRecDepth 100000 in
set_option maxHeartbeats 1600000 in
theorem wakes_any (w : World) : Calls Try.prog 8 #[] w (Yes w true) := by
  have HP := Lib.hid (rput_yes ex w ex_ok ex_right)
  have hmk : ∀ w, (Instr.makeSlice 25 (.int .i64 49) (.int .i64 49)).run Try.prog w = .ok (.slice (some ⟨w.heap.size, 0, none⟩) 49 49) (w.alloc (.cells (u8n (List.replicate 49 0)).toArray 5)) := make_bytes 49 (by omega)
  obtain ⟨Z, hZ⟩ : ∃ Z, Z = (u8n (List.replicate 49 0)).toArray := ⟨_, rfl⟩
  simp only [← hZ] at hmk
  have HZ := Lib.hid hZ
  clear hZ
  have h0 : (shut ex.bytes)[0]? = some 76 := by rw [ex_bytes]; rfl
  have h1 : (shut ex.bytes)[1]? = some 67 := by rw [ex_bytes]; rfl
  have HD := Lib.hid ex_drop
  have HL := Lib.hid (show (shut ex.bytes).length = 64 from shut_len (by rw [ex_bytes]; decide))
  obtain ⟨xs, hxs⟩ : ∃ xs, xs = shut ex.bytes := ⟨_, rfl⟩
  rw [← hxs] at HP HD HL h0 h1
  have H0 := Lib.hid h0
  have H1 := Lib.hid h1
  clear hxs h0 h1
  have HP' : Hid (Calls Try.prog 9 #[.agg #[.int .i64 0, .int .i64 1, .int .i64 0, .int .i64 0, .int .i64 0, .int .i64 0]] w (Puts w xs)) := HP
  clear HP
  go_enter Try.func8, Try.ntmps8
  go_wp2_with fail
  refine HP'.out.mono ?_
  rintro e w2 ⟨B, k, d, rfl, ho2, hb2⟩
  have hR2 := Rd.own ho2
  obtain rfl : 64 = k := by have := Rd.nats hR2; have := HL.out; omega
  have hle := hR2.le
  have hcap := hR2.cap
  obtain ⟨bb, oo, rfl, hbl, hc⟩ := hR2.2.2.2 (by omega)
  have c0 : w2.cell? ⟨bb, oo, none⟩ = some (.int .u8 76) := hc 0 (.int .u8 76) (by simp [u8n, H0.out])
  have c1 : w2.cell? ⟨bb, oo + 1, none⟩ = some (.int .u8 67) := hc 1 (.int .u8 67) (by simp [u8n, H1.out])
  have HRD := Lib.hid (show Rd w2 (some ⟨bb, oo + 15, none⟩) 49 (d - 15) (u8n (List.replicate 49 0)) from by
    have h := TabR.Rd.drop hR2 (k := 15) (by omega)
    rw [← HD.out]
    simpa [u8n, List.map_drop] using h)
  have HB2 := Lib.hid hb2
  clear hR2 ho2 hb2 hc
  have k0 : (15 : Int) ≤ (d : Int) := by omega
  have k1 : 15 < d := by omega
  have k2 : 64 ≤ d := by omega
  have HZR := Lib.hid (show Rd (w2.alloc (.cells Z 5)) (some ⟨w2.heap.size, 0, none⟩) 49 49 (u8n (List.replicate 49 0)) from by rw [HZ.out]; exact CrcD.Rd.cells w2 (List.replicate 49 0) 5 (m := (0, 0)) (by simp) (by omega))
  have HBZ := Lib.hid (show Below w.heap.size w (w2.alloc (.cells Z 5)) from HB2.out.alloc HB2.out.size _)
  go_wp2_with fail
  go_region_held3 (fun w' => w'.cell? ⟨bb, oo, none⟩ = some (.int .u8 76) ∧ w'.cell? ⟨bb, oo + 1, none⟩ = some (.int .u8 67))
    (first | go_keep)
    ((go_at_call 13; rw [if_neg (by omega : ¬ d = 15)]; refine (Same.same_n (w := World.drew (w2.alloc (.cells Z 5))) (xs := List.replicate 49 0) (ys := List.replicate 49 0) ((HRD.out.alloc _).drewN 1) (HZR.out.drewN 1)).mono ?_; rintro e w3 ⟨rfl, n3, rfl⟩; rw [decide_eq_true (rfl : List.replicate 49 0 = List.replicate 49 0)]))
  all_goals (go_wp2; go_ret; exact ⟨rfl, below_drewN HBZ.out _⟩)
end Go.Proofs.Ytegddebigeeeeaa.RecW
