/- When a message is right, by the code. Conditions: numbers of 64 bits; the data lie as the facts say. -/
import Derived.Test.YtamilgbjjcdlbaaPduG
namespace Go.Proofs.Ytamilgbjjcdlbaa.PduH
open Go.RowKit Go.Proofs.Ytamilgbjjcdlbaa.Kit Go.Proofs.Ytamilgbjjcdlbaa.Byt Go.Proofs.Ytamilgbjjcdlbaa.Mem Go.Proofs.Ytamilgbjjcdlbaa.RecM Go.Proofs.Ytamilgbjjcdlbaa.PduM Go.Proofs.Ytamilgbjjcdlbaa.PduA Go.Proofs.Ytamilgbjjcdlbaa.PduG

/-- The number at a place, and its bytes. -/
def nn (i : Pu) (j : Nat) : Int := (nums i).getD j 0
def kk (k : Int) (j : Nat) : Nat := (wids k).getD j 0
theorem kk_le (k : Int) {j : Nat} (h : j < 7) : kk k j ≤ 2 := by
  unfold kk wids
  obtain rfl | rfl | rfl | rfl | rfl | rfl | rfl : j = 0 ∨ j = 1 ∨ j = 2 ∨ j = 3 ∨ j = 4 ∨ j = 5 ∨ j = 6 := by omega
  all_goals (repeat (first | split | simp))
theorem kk_7 (k : Int) : kk k 7 = if k = 2 then 16 else 0 := by
  unfold kk wids
  by_cases e1 : k = 1
  · simp [e1]
  by_cases e2 : k = 2
  · simp [e2]
  by_cases e6 : k = 6
  · simp [e6]
  by_cases e7 : k = 7
  · simp [e7]
  by_cases e8 : k = 8
  · simp [e8]
  simp [e1, e2, e6, e7, e8]
theorem all7 {p : Nat → Prop} : (∀ j, j < 7 → p j) ↔ p 0 ∧ p 1 ∧ p 2 ∧ p 3 ∧ p 4 ∧ p 5 ∧ p 6 := by
  constructor
  · intro h
    exact ⟨h 0 (by omega), h 1 (by omega), h 2 (by omega), h 3 (by omega), h 4 (by omega), h 5 (by omega), h 6 (by omega)⟩
  · rintro ⟨h0, h1, h2, h3, h4, h5, h6⟩ j hj
    obtain rfl | rfl | rfl | rfl | rfl | rfl | rfl : j = 0 ∨ j = 1 ∨ j = 2 ∨ j = 3 ∨ j = 4 ∨ j = 5 ∨ j = 6 := by omega
    all_goals assumption
/-- A message is right, told by its numbers. -/
theorem right_iff (i : Pu) (hk : 1 ≤ i.k ∧ i.k ≤ 8) : i.pd.right ↔ i.xs.length = kk i.k 7 ∧ ∀ j, j < 7 → fit (nn i j) (kk i.k j) = true := by
  rw [all7]
  obtain ⟨k, s, p, n, z, y, c, h, A, m, d, xs⟩ := i
  dsimp only at hk
  rcases kindz hk with rfl | rfl | rfl | rfl | rfl | rfl | rfl | rfl
  all_goals
    simp only [Pu.pd, Pd.right, nn, kk, wids, nums]
    simp [fit_0, fit_1, fit_2, -List.length_eq_zero_iff]
    omega
theorem ws_at (k : Int) {j : Nat} (h : j < 8) : (ws k)[j]? = some (.int .i64 (kk k j : Nat)) := by
  have hl := wids_len k
  unfold ws kk
  rw [List.getElem?_map, List.getElem?_eq_getElem (by omega), List.getD_eq_getElem?_getD, List.getElem?_eq_getElem (by omega)]
  rfl
theorem nn_at (i : Pu) {j : Nat} (h : j < 7) : (i64s (nums i))[j]? = some (.int .i64 (nn i j)) := by
  have hl : (nums i).length = 7 := rfl
  unfold i64s nn
  rw [List.getElem?_map, List.getElem?_eq_getElem (by omega), List.getD_eq_getElem?_getD, List.getElem?_eq_getElem (by omega)]
  rfl
theorem sizeI : (Try.prog.info? 3).map (·.size) = some 1 := by kernel_rfl
theorem idx_at (i : Pu) {j : Nat} (h : j < 7) (w : World) : (Instr.index 46 (.agg (i64s (nums i)).toArray) (.int .i64 (j : Nat))).run Try.prog w = .ok (.int .i64 (nn i j)) w :=
  run_index_one Try.underlying46 ⟨_, Try.underlying3⟩ sizeI h (nn_at i h) w
theorem zz8 : (zz 8).toArray = #[.int .i64 0, .int .i64 0, .int .i64 0, .int .i64 0, .int .i64 0, .int .i64 0, .int .i64 0, .int .i64 0] := by simp [zz]

set_option maxRecDepth 100000 in
set_option maxHeartbeats 3200000 in
theorem right_any (i : Pu) (w : World) (ho : i.ok w) (b : Bool) (hb : b = true ↔ i.pd.right) : Calls Try.prog 13 #[i.val] w (Yes w b) := by
  have HX := Lib.hid (Bx.new w i.cells)
  have hlen : i.xs.length = i.m := ho.len
  by_cases hk : 1 ≤ i.k ∧ i.k ≤ 8
  · have HB := Lib.hid (show b = true ↔ i.m = kk i.k 7 ∧ ∀ j, j < 7 → fit (nn i j) (kk i.k j) = true from by rw [hb, right_iff i hk, hlen])
    have HS := Lib.hid (fun w' => shape_yes i.k hk w')
    have HN := Lib.hid (fun w' => numbers_any i w')
    have HI := Lib.hid (fun j h w' => idx_at i (j := j) h w')
    have h7 := ws_at i.k (j := 7) (by omega)
    obtain ⟨K, hK⟩ : ∃ K, K = kk i.k 7 := ⟨_, rfl⟩
    rw [← hK] at HB h7
    have HW := Lib.hid (fun j h => ws_at i.k (j := j) h)
    have HQ := Lib.hid (fun j h => kk_le i.k (j := j) h)
    have H7 := Lib.hid h7
    obtain ⟨W, hW⟩ : ∃ W, W = ws i.k := ⟨_, rfl⟩
    have HWL := Lib.hid (show W.length = 8 from by rw [hW]; exact ws_len _)
    have HW1 := Lib.hid (show ∀ u ∈ W, u.oneCell' = true from by rw [hW]; exact one_ws _)
    rw [← hW] at HW H7
    have HSW := Lib.hid (show ∀ w', Calls Try.prog 21 #[.int .i64 i.k] w' fun e w'' => e = .returned (.tuple #[.agg W.toArray, .bool true]) ∧ Below w'.heap.size w' w'' from by rw [hW]; exact HS.out)
    clear hb ho hk hlen hK hW h7 HS
    obtain ⟨N, hN⟩ : ∃ N, N = i64s (nums i) := ⟨_, rfl⟩
    have HNN := Lib.hid (show ∀ w', Calls Try.prog 23 #[i.val] w' fun e w'' => e = .returned (.agg N.toArray) ∧ Below w'.heap.size w' w'' from by rw [hN]; exact HN.out)
    rw [← hN] at HI
    clear HN hN
    obtain ⟨F, hF⟩ : ∃ F : Nat → Int, F = nn i := ⟨_, rfl⟩
    obtain ⟨G, hG⟩ : ∃ G : Nat → Nat, G = kk i.k := ⟨_, rfl⟩
    rw [← hF] at HI HB
    rw [← hG] at HB HW HQ
    clear hF hG
    obtain ⟨k, s, p, n, z, y, c, h, A, m, d, xs⟩ := i
    dsimp only at HB HSW HNN
    show Calls _ _ #[.agg #[.int .i64 k, .int .i64 s, .int .i64 p, .int .i64 n, .int .i64 z, .int .i64 y, .int .i64 c, .int .i64 h, .slice A m d]] w _
    by_cases hm : m = K
    · subst hm
      have hd : ((m : Int) != (m : Int)) = false := by simp
      go_enter Try.func13, Try.ntmps13
      go_wp2_with fail
      refine (HSW.out _).mono ?_
      rintro e w1 ⟨rfl, hb1⟩
      have HX1 := Lib.hid (HX.out.step hb1)
      clear hb1 HX HSW
      go_wp2_with (first
       | (refine wpList_store_blk rfl 42 (.tmp 3) (.tmp 11) rfl w1.heap.size rfl W rfl (Blk.new w1 42 [.int .i64 0, .int .i64 0, .int .i64 0, .int .i64 0, .int .i64 0, .int .i64 0, .int .i64 0, .int .i64 0]) (by rw [HWL.out]; rfl) (by rw [HWL.out]; exact size8) HW1.out ?_; intro w3 hB3 ho3; have HX3 := Lib.hid (HX1.out.step (show Below w1.heap.size w1 w3 from ho3.out.below ((Below.refl _ _).alloc (Nat.le_refl _) _) (Nat.le_refl _) (by simp))); clear ho3 HX1; obtain ⟨y0, y1, y2, y3, y4, y5, y6, y7, y8⟩ := nine HX3.out.blk; dsimp only at y0 y1 y2 y3 y4 y5 y6 y7 y8; have c7 := hB3.out.cell (i := 7) H7.out)
       | (refine wpList_load_blk rfl 24 _ rfl w.heap.size rfl HX3.out.blk Try.underlying24 rfl size_pdu ?_))
      refine (HNN.out _).mono ?_
      rintro e w4 ⟨rfl, hb4⟩
      have HX4 := Lib.hid (HX3.out.step hb4)
      have HB4 := Lib.hid (hB3.out.below hb4)
      clear hb4 HX3 c7 y0 y1 y2 y3 y4 y5 y6 y7 y8 hB3 HNN hd
      go_wp2
      go_loop [25] (fun i => ∃ j : Nat, j ≤ 7 ∧ i = .int .i64 j ∧ Hid (∀ l, l < j → fit (F l) (G l) = true)) (fun i => 7 - (intOf i).toNat)
      case atStart => exact ⟨0, by omega, rfl, Lib.hid (fun l hl => by omega)⟩
      case round =>
        obtain ⟨j, hj, rfl, hall⟩ := hrel
        by_cases hlt : j < 7
        · have hix := HI.out j hlt
          have hc := HB4.out.cell (i := j) (HW.out j (by omega))
          have hq := HQ.out j hlt
          have HA := Lib.hid (show ∀ l, l < j + 1 → l = j ∨ l < j from fun l hl => by omega)
          cases hf : fit (F j) (G j)
          · have hbf := Lib.hid (show b = false from by rw [Bool.eq_false_iff]; exact fun hb => by have h1 := (HB.out.1 hb).2 j hlt; rw [hf] at h1; cases h1)
            have HF := Lib.hid (show ∀ w', Calls Try.prog 26 #[.int .i64 (F j), .int .i64 (G j : Nat)] w' fun e w'' => e = .returned (.bool false) ∧ w' = w'' from by rw [← hf]; exact fun w' => fits_any _ _ hq w')
            clear hf hq
            obtain ⟨v, hv⟩ : ∃ v, v = F j := ⟨_, rfl⟩
            obtain ⟨q, hq⟩ : ∃ q, q = G j := ⟨_, rfl⟩
            rw [← hv] at HF hix
            rw [← hq] at HF hc
            clear hv hq
            go_wp2_with (go_at_call 26; refine (HF.out _).mono ?_; rintro e w' ⟨rfl, rfl⟩)
            go_ret
            exact ⟨by rw [hbf.out]; rfl, HX4.out.bel⟩
          · have HT := Lib.hid (show ∀ l, l < j + 1 → fit (F l) (G l) = true from fun l hl => by
              rcases HA.out l hl with rfl | h
              · exact hf
              · exact hall.out l h)
            have HF := Lib.hid (show ∀ w', Calls Try.prog 26 #[.int .i64 (F j), .int .i64 (G j : Nat)] w' fun e w'' => e = .returned (.bool true) ∧ w' = w'' from by rw [← hf]; exact fun w' => fits_any _ _ hq w')
            clear hf hq hall
            obtain ⟨v, hv⟩ : ∃ v, v = F j := ⟨_, rfl⟩
            obtain ⟨q, hq⟩ : ∃ q, q = G j := ⟨_, rfl⟩
            rw [← hv] at HF hix
            rw [← hq] at HF hc
            clear hv hq
            go_wp2_with (go_at_call 26; refine (HF.out _).mono ?_; rintro e w' ⟨rfl, rfl⟩)
            go_round
            case rel => exact ⟨j + 1, by omega, by go_num, HT⟩
            case measure => simp [intOf]; omega
        · obtain rfl : j = 7 := by omega
          have hbt := Lib.hid (HB.out.2 ⟨by first | rfl | trivial, fun l hl => hall.out l hl⟩)
          go_wp2
          go_ret
          exact ⟨by rw [hbt.out]; rfl, HX4.out.bel⟩
    · have hd : ((m : Int) != (K : Int)) = true := by simp; omega
      have hbf := Lib.hid (show b = false from by rw [Bool.eq_false_iff]; exact fun hb => hm (HB.out.1 hb).1)
      go_enter Try.func13, Try.ntmps13
      go_wp2_with fail
      refine (HSW.out _).mono ?_
      rintro e w1 ⟨rfl, hb1⟩
      have HX1 := Lib.hid (HX.out.step hb1)
      clear hb1 HX HSW
      go_wp2_with (refine wpList_store_blk rfl 42 (.tmp 3) (.tmp 11) rfl w1.heap.size rfl W rfl (Blk.new w1 42 [.int .i64 0, .int .i64 0, .int .i64 0, .int .i64 0, .int .i64 0, .int .i64 0, .int .i64 0, .int .i64 0]) (by rw [HWL.out]; rfl) (by rw [HWL.out]; exact size8) HW1.out ?_; intro w3 hB3 ho3; have HX3 := Lib.hid (HX1.out.step (show Below w1.heap.size w1 w3 from ho3.out.below ((Below.refl _ _).alloc (Nat.le_refl _) _) (Nat.le_refl _) (by simp))); clear ho3 HX1; obtain ⟨y0, y1, y2, y3, y4, y5, y6, y7, y8⟩ := nine HX3.out.blk; dsimp only at y0 y1 y2 y3 y4 y5 y6 y7 y8; have c7 := hB3.out.cell (i := 7) H7.out)
      go_ret
      exact ⟨by rw [hbf.out]; rfl, HX3.out.bel⟩
  · have hbf := Lib.hid (show b = false from by rw [Bool.eq_false_iff]; exact fun h => hk (hb.1 h).1)
    have HS := Lib.hid (fun w' => shape_no i.k (by omega) w')
    clear hb ho hk hlen
    obtain ⟨k, s, p, n, z, y, c, h, A, m, d, xs⟩ := i
    dsimp only at HS
    show Calls _ _ #[.agg #[.int .i64 k, .int .i64 s, .int .i64 p, .int .i64 n, .int .i64 z, .int .i64 y, .int .i64 c, .int .i64 h, .slice A m d]] w _
    go_enter Try.func13, Try.ntmps13
    go_wp2_with fail
    refine (HS.out _).mono ?_
    rintro e w1 ⟨rfl, hb1⟩
    have HX1 := Lib.hid (HX.out.step hb1)
    clear hb1 HX HS
    rw [zz8]
    go_wp2
    go_ret
    exact ⟨by rw [hbf.out]; rfl, HX1.out.bel.alloc HX1.out.bel.size _⟩
end Go.Proofs.Ytamilgbjjcdlbaa.PduH
