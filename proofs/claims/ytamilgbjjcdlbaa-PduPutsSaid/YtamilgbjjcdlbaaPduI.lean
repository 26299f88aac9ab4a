/- The bytes of a message, by the code. Conditions: numbers of 64 bits; the data lie as the facts say. -/
import Derived.Test.YtamilgbjjcdlbaaPduH
namespace Go.Proofs.Ytamilgbjjcdlbaa.PduI
open Go.RowKit Go.Proofs.Ytamilgbjjcdlbaa.Kit Go.Proofs.Ytamilgbjjcdlbaa.Byt Go.Proofs.Ytamilgbjjcdlbaa.Mem Go.Proofs.Ytamilgbjjcdlbaa.RecM Go.Proofs.Ytamilgbjjcdlbaa.PduM Go.Proofs.Ytamilgbjjcdlbaa.PduA Go.Proofs.Ytamilgbjjcdlbaa.PduG Go.Proofs.Ytamilgbjjcdlbaa.PduH

theorem putn_any (A : Option Addr) (m c : Nat) (xs : List Nat) (n x : Int) (w : World) (hR : Rd w A m c (u8n xs)) (hl : m ≤ 1000000) :
    Calls Try.prog 22 #[.slice A m c, .int .i64 n, .int .i64 x] w (Gives w (xs ++ pbn n x)) := by
  refine (NumB.put_any A m c (nl xs) n x w (by rw [← nl_u8s]; exact hR) (by omega)).mono ?_
  rintro e w' ⟨A2, n2, c2, hn2, rfl, hown2, hb2⟩
  refine ⟨A2, n2, c2, rfl, ?_, hb2⟩
  rw [nl_u8s, nl_app, pbn_nl]
  exact hown2
/-- The bytes so far. -/
def pre (i : Pu) : Nat → List Nat
  | 0 => pbn i.k 1
  | j + 1 => pre i j ++ if 0 < kk i.k j then pbn (nn i j) (kk i.k j : Nat) else []
theorem pre_len (i : Pu) {j : Nat} (h : j ≤ 7) : (pre i j).length ≤ 1 + 6 * j := by
  induction j with
  | zero => simp [pre, pbn_len]; decide
  | succ j ih =>
    have h1 := ih (by omega)
    unfold pre
    rw [List.length_append]
    have h2 : (if 0 < kk i.k j then pbn (nn i j) (kk i.k j : Nat) else []).length ≤ 6 := by
      split
      · rw [pbn_len]; exact NumA.wd_le _
      · simp
    omega
theorem pre_lt (i : Pu) (j : Nat) : byt (pre i j) := by
  induction j with
  | zero => exact pbn_lt _ _
  | succ j ih =>
    unfold pre
    refine byt_app ih ?_
    split
    · exact pbn_lt _ _
    · intro c hc; cases hc
theorem pre_head (i : Pu) (hk : 1 ≤ i.k ∧ i.k ≤ 8) (hx : i.xs.length = kk i.k 7) : pre i 7 ++ i.xs = i.pd.head := by
  obtain ⟨k, s, p, n, z, y, c, h, A, m, d, xs⟩ := i
  dsimp only at hk hx
  rcases kindz hk with rfl | rfl | rfl | rfl | rfl | rfl | rfl | rfl
  all_goals
    simp [kk, wids, -List.length_eq_zero_iff] at hx
    first
      | (have hx0 := List.eq_nil_of_length_eq_zero hx; subst hx0; simp [pre, kk, wids, nn, nums, Pu.pd, Pd.head, Pd.body]; done)
      | (simp [pre, kk, wids, nn, nums, Pu.pd, Pd.head, Pd.body]; done)

/-- Bytes in new memory, and no error. -/
def Puts (w : World) (xs : List Nat) (e : Ending) (w' : World) : Prop := ∃ B m d, e = .returned (.tuple #[.slice B m d, .int .i64 0]) ∧ w'.ownsRow w.heap.size 5 1 (.slice B m d) m (u8n xs) ∧ Below w.heap.size w w'
set_option maxRecDepth 100000 in
set_option maxHeartbeats 800000 in
theorem put_no (i : Pu) (w : World) (ho : i.ok w) (hr : ¬ i.pd.right) : Calls Try.prog 10 #[i.val] w fun e w' => e = .returned (.tuple #[.slice none 0 0, .int .i64 3]) ∧ Below w.heap.size w w' := by
  have HX := Lib.hid (Bx.new w i.cells)
  have HR := Lib.hid (fun w' (h : Below w.heap.size w w') => right_any i w' (ho.below h) false (by simpa using hr))
  clear ho hr
  obtain ⟨k, s, p, n, z, y, c, h, A, m, d, xs⟩ := i
  show Calls _ _ #[.agg #[.int .i64 k, .int .i64 s, .int .i64 p, .int .i64 n, .int .i64 z, .int .i64 y, .int .i64 c, .int .i64 h, .slice A m d]] w _
  go_enter Try.func10, Try.ntmps10
  go_wp2_with (refine wpList_load_blk rfl 24 _ rfl w.heap.size rfl HX.out.blk Try.underlying24 rfl size_pdu ?_)
  refine (HR.out _ HX.out.bel).mono ?_
  rintro e w1 ⟨rfl, hb1⟩
  have HX1 := Lib.hid (HX.out.step hb1)
  clear hb1 HX HR
  go_wp2
  go_ret2
  exact ⟨rfl, HX1.out.bel⟩

set_option maxRecDepth 100000 in
set_option maxHeartbeats 3200000 in
theorem put_yes (i : Pu) (w : World) (ho : i.ok w) (hr : i.pd.right) : Calls Try.prog 10 #[i.val] w (Puts w (tail i.pd.head)) := by
  obtain ⟨i0, hi0, hz0, hz1, hz2⟩ := info_parts NumA.info8
  have HX := Lib.hid (Bx.new w i.cells)
  have hk := hr.1
  have hk' : 1 ≤ i.k ∧ i.k ≤ 8 := hk
  have hlen : i.xs.length = i.m := ho.len
  have hx := ((right_iff i hk').1 hr).1
  have hm : i.m ≤ 16 := by
    rw [← hlen, hx, kk_7]
    split <;> omega
  have HR := Lib.hid (fun w' (h : Below w.heap.size w w') => right_any i w' (ho.below h) true (by simpa using hr))
  have HO := Lib.hid ho
  have HP := Lib.hid (pre_head i hk' hx)
  have HPL := Lib.hid (fun j (h : j ≤ 7) => pre_len i h)
  have HPB := Lib.hid (fun j => pre_lt i j)
  have HP0 := Lib.hid (show pre i 0 = pbn i.k 1 from rfl)
  have HP1 := Lib.hid (show ∀ j, pre i (j + 1) = pre i j ++ if 0 < kk i.k j then pbn (nn i j) (kk i.k j : Nat) else [] from fun j => rfl)
  have HI := Lib.hid (fun j h w' => idx_at i (j := j) h w')
  have HW := Lib.hid (fun j h => ws_at i.k (j := j) h)
  have HWL := Lib.hid (ws_len i.k)
  have HW1 := Lib.hid (one_ws i.k)
  have HSW := Lib.hid (show ∀ w', Calls Try.prog 21 #[.int .i64 i.k] w' fun e w'' => e = .returned (.tuple #[.agg (ws i.k).toArray, .bool true]) ∧ Below w'.heap.size w' w'' from fun w' => shape_yes i.k hk' w')
  have HNN := Lib.hid (show ∀ w', Calls Try.prog 23 #[i.val] w' fun e w'' => e = .returned (.agg (i64s (nums i)).toArray) ∧ Below w'.heap.size w' w'' from fun w' => numbers_any i w')
  have HXB := Lib.hid ho.byt
  obtain ⟨N, hN⟩ : ∃ N, N = i64s (nums i) := ⟨_, rfl⟩
  rw [← hN] at HI HNN
  obtain ⟨W, hW⟩ : ∃ W, W = ws i.k := ⟨_, rfl⟩
  rw [← hW] at HW HWL HW1 HSW
  obtain ⟨R, hR⟩ : ∃ R : Nat → List Nat, R = pre i := ⟨_, rfl⟩
  rw [← hR] at HP HPL HPB HP0 HP1
  obtain ⟨F, hF⟩ : ∃ F : Nat → Int, F = nn i := ⟨_, rfl⟩
  obtain ⟨G, hG⟩ : ∃ G : Nat → Nat, G = kk i.k := ⟨_, rfl⟩
  rw [← hF] at HI HP1
  rw [← hG] at HW HP1
  rw [← HP.out]
  have HRD := Lib.hid (fun w' (h : Below w.heap.size w w') => (ho.below h).data)
  clear hF hG hR hW hN ho hr hk hk' hlen hx HP
  obtain ⟨k, s, p, n, z, y, c, h, A, m, d, xs⟩ := i
  dsimp only at HP0 HSW HNN HRD HXB hm
  show Calls _ _ #[.agg #[.int .i64 k, .int .i64 s, .int .i64 p, .int .i64 n, .int .i64 z, .int .i64 y, .int .i64 c, .int .i64 h, .slice A m d]] w (Puts w (tail (R 7 ++ xs)))
  go_enter Try.func10, Try.ntmps10
  go_wp2_with (refine wpList_load_blk rfl 24 _ rfl w.heap.size rfl HX.out.blk Try.underlying24 rfl size_pdu ?_)
  refine (HR.out _ HX.out.bel).mono ?_
  rintro e w1 ⟨rfl, hb1⟩
  have HX1 := Lib.hid (HX.out.step hb1)
  clear hb1 HX HR
  have q0 := (nine HX1.out.blk).1
  dsimp only at q0
  go_wp2_with fail
  refine (HSW.out _).mono ?_
  rintro e w2 ⟨rfl, hb2⟩
  have HX2 := Lib.hid (HX1.out.step hb2)
  clear hb2 HX1 HSW q0
  go_wp2_with (refine wpList_store_blk rfl 42 (.tmp 4) (.tmp 16) rfl w2.heap.size rfl W rfl (Blk.new w2 42 [.int .i64 0, .int .i64 0, .int .i64 0, .int .i64 0, .int .i64 0, .int .i64 0, .int .i64 0, .int .i64 0]) (by rw [HWL.out]; rfl) (by rw [HWL.out]; exact size8) HW1.out ?_; intro w3 hB3 ho3; have HX3 := Lib.hid (HX2.out.step (show Below w2.heap.size w2 w3 from ho3.out.below ((Below.refl _ _).alloc (Nat.le_refl _) _) (Nat.le_refl _) (by simp))); clear ho3 HX2; have q0 := (nine HX3.out.blk).1; dsimp only at q0)
  refine (putn_any none 0 0 [] k 1 _ (Rd.nil _) (by omega)).mono ?_
  rintro e w4 ⟨B4, m4, d4, rfl, hown4, hb4⟩
  have HX4 := Lib.hid (HX3.out.step hb4)
  have HB4 := Lib.hid (hB3.out.below hb4)
  have HO4 := Lib.hid (show w4.ownsRow w.heap.size 5 1 (.slice B4 m4 d4) m4 (u8n (R 0)) from by rw [HP0.out]; simpa using own_mono hown4 HX3.out.bel.size)
  clear hb4 hown4 hB3 HX3 q0
  go_wp2_with (refine wpList_load_blk rfl 24 _ rfl w.heap.size rfl HX4.out.blk Try.underlying24 rfl size_pdu ?_)
  refine (HNN.out _).mono ?_
  rintro e w5 ⟨rfl, hb5⟩
  have HX5 := Lib.hid (HX4.out.step hb5)
  have HB5 := Lib.hid (HB4.out.below hb5)
  have HO5 := Lib.hid (own_below HO4.out hb5)
  clear hb5 HX4 HB4 HO4 HNN
  go_wp2
  go_loopw [6, 23] (fun b i wr => ∃ j m6 d6 : Nat, ∃ B6, j ≤ 7 ∧ i = .int .i64 j ∧ b = .slice B6 m6 d6 ∧ Hid (Bx w w.heap.size (Pu.cells ⟨k, s, p, n, z, y, c, h, A, m, d, xs⟩) wr) ∧ Hid (Blk wr w2.heap.size 42 W) ∧ Hid (wr.ownsRow w.heap.size 5 1 (.slice B6 m6 d6) m6 (u8n (R j))))
    (fun _ i _ => 7 - (intOf i).toNat)
  case atStart => exact ⟨0, m4, d4, B4, by omega, rfl, rfl, HX5, HB5, HO5⟩
  case round =>
    obtain ⟨j, m6, d6, B6, hj, rfl, rfl, HX6, HB6, HO6⟩ := hrel
    by_cases hlt : j < 7
    · have hix := HI.out j hlt
      have hc := HB6.out.cell (i := j) (HW.out j (by omega))
      have HRJ := Lib.hid (HP1.out j)
      have HRL := Lib.hid (HPL.out j hj)
      have hr6 := Rd.own HO6.out
      have hm6 : m6 ≤ 1000 := by have h1 := Rd.nats hr6; have := HRL.out; omega
      have HR6 := Lib.hid hr6
      clear hr6
      obtain ⟨v, hv⟩ : ∃ v, v = F j := ⟨_, rfl⟩
      obtain ⟨q, hq⟩ : ∃ q, q = G j := ⟨_, rfl⟩
      rw [← hv] at hix HRJ
      rw [← hq] at hc HRJ
      clear hv hq
      by_cases hq0 : 0 < q
      · have hqi : (0 : Int) < (q : Int) := by omega
        have HJ := Lib.hid (show R (j + 1) = R j ++ pbn v (q : Nat) from by rw [HRJ.out, if_pos hq0])
        go_wp2_with (go_at_call 22; refine (putn_any _ _ _ _ v (q : Nat) _ HR6.out (by omega)).mono ?_; rintro e w7 ⟨B7, m7, d7, rfl, hown7, hb7⟩; have HX7 := Lib.hid (HX6.out.step hb7); have HB7 := Lib.hid (HB6.out.below hb7); have HO7 := Lib.hid (own_mono hown7 HX6.out.bel.size); clear hb7 hown7)
        go_roundw
        case rel => exact ⟨j + 1, m7, d7, B7, by omega, by go_num, rfl, HX7, HB7, Lib.hid (by rw [HJ.out]; exact HO7.out)⟩
        case measure => simp [intOf]; omega
      · obtain rfl : q = 0 := by omega
        have HJ := Lib.hid (show R (j + 1) = R j from by rw [HRJ.out, if_neg (by omega), List.append_nil])
        go_wp2
        go_roundw
        case rel => exact ⟨j + 1, m6, d6, B6, by omega, by go_num, rfl, HX6, HB6, Lib.hid (by rw [HJ.out]; exact HO6.out)⟩
        case measure => simp [intOf]; omega
    · obtain rfl : j = 7 := by omega
      have HRL := Lib.hid (HPL.out 7 (by omega))
      have hr6 := Rd.own HO6.out
      have hm6 : m6 ≤ 1000 := by have h1 := Rd.nats hr6; have := HRL.out; omega
      have q8 := (nine HX6.out.blk).2.2.2.2.2.2.2.2
      dsimp only at q8
      have HRP := Lib.hid (HRD.out _ HX6.out.bel)
      have HPB7 := Lib.hid (HPB.out 7)
      obtain ⟨V, hV⟩ : ∃ V, V = R 7 := ⟨_, rfl⟩
      have HV := Lib.hid hV
      rw [← hV] at HO6 HPB7
      clear hr6 HRL hV
      go_wp2_with (first
        | (have hq := HS8; clear hq; at_builtin; refine wpList_add _ rfl (.tmp 42) (.tmp 44) _ rfl w.heap.size 5 i0 _ 1 Try.underlying22 hi0 hz0 hz1 hz2 rfl _ m7 _ rfl HO8.out B8 4 d8 _ rfl HS8.out (u8n_one _) (by omega) (by omega) HL8.out.size ?_; intro B9 m9 d9 w9 hn9 hown9 hg9 hat9; have HL9 := Lib.hid (below_add HL8.out HO8.out (Nat.le_refl _) hg9))
        | (at_builtin; refine wpList_add _ rfl (.tmp 38) (.tmp 40) _ rfl w.heap.size 5 i0 _ 1 Try.underlying22 hi0 hz0 hz1 hz2 rfl _ m6 _ rfl HO6.out A m d _ rfl HRP.out (u8n_one _) (by omega) (by omega) HX6.out.bel.size ?_; intro B7 m7 d7 w7 hn7 hown7 hg7 hat7; rw [u8n_app] at hown7; have HL7 := Lib.hid (below_add HX6.out.bel HO6.out (Nat.le_refl _) hg7); have HO7 := Lib.hid hown7; have hm7 : m7 ≤ 2000 := (by have := hn7.out; omega); clear hown7 hn7 hg7 hat7)
        | (go_at_call 24; refine (sumOf_any _ _ _ (V ++ xs) _ (Rd.own HO7.out) (byt_app HPB7.out HXB.out)).mono ?_; rintro e w8 ⟨B8, m8, d8, rfl, hown8, hb8⟩; have hr8 := Rd.own hown8; obtain rfl : 4 = m8 := (by have := Rd.nats hr8; rw [s4_len] at this; omega); have HS8 := Lib.hid hr8; have HO8 := Lib.hid (own_below HO7.out hb8); have HL8 := Lib.hid (HL7.out.trans (hb8.mono HL7.out.size)); clear hown8 hb8 hr8))
      go_ret2
      rw [u8n_app] at hown9
      exact ⟨B9, m9, d9, rfl, by rw [← HV.out]; exact hown9, HL9.out⟩
end Go.Proofs.Ytamilgbjjcdlbaa.PduI
