/- The code's named and Parse. Condition: the given variables lie as the fact says. -/
import Derived.Test.YtklpkafgmggacaaDoorOpsH
import Derived.Lib.AtoiAllCases
namespace Go.Proofs.YtklpkafgmggacaaDoor.OpsI
open Go.RowKit Go.Proofs.YtklpkafgmggacaaDoor.Kit Go.Proofs.YtklpkafgmggacaaDoor.Byt Go.Proofs.YtklpkafgmggacaaDoor.Mem Go.Proofs.YtklpkafgmggacaaDoor.OpsM Go.Proofs.YtklpkafgmggacaaDoor.OpsA Go.Proofs.YtklpkafgmggacaaDoor.OpsT Go.Proofs.YtklpkafgmggacaaDoor.OpsU Go.Proofs.YtklpkafgmggacaaDoor.OpsV Go.Proofs.YtklpkafgmggacaaDoor.OpsG Go.Proofs.YtklpkafgmggacaaDoor.OpsX Go.Proofs.YtklpkafgmggacaaDoor.OpsN Go.Proofs.YtklpkafgmggacaaDoor.OpsH

theorem run_index_str {P : Program} {t e : TypeId} {n k : Nat} {xs : List Value} {v : Value} (ht : P.underlying t = some (.array n e)) (hd : P.underlying e = some .string) (hi : (P.info? e).map (·.size) = some 1) (hk : k < n) (hv : xs[k]? = some v) (w : World) :
    (Instr.index t (.agg xs.toArray) (.int .i64 (k : Int))).run P w = .ok v w := by
  cases hq : P.info? e with
  | none => simp [hq] at hi
  | some i =>
    have hs : i.size = 1 := by simpa [hq] using hi
    simp [Instr.index, run_underlying ht, asIntOf, sizeOf, typeInfo, hq, hs, hk, part, isAgg, run_underlying hd, hv]
theorem size_strs : (Tryd.prog.info? 41).map (·.size) = some (strs nm).length := by kernel_rfl
theorem size_s1 : (Tryd.prog.info? 9).map (·.size) = some 1 := by kernel_rfl
theorem strs_at {k : Nat} (hk : k < 19) : (strs nm)[k]? = some (.string (nmk k)) := by
  have hl : k < nm.length := hk
  simp [strs, nmk, List.getD_eq_getElem?_getD, hl]
theorem nid_no {s : ByteArray} (h : ∀ k, k < 19 → nmk k ≠ s) : nid s = -1 := by
  have hb := nid_b s
  rcases Int.lt_or_le (nid s) 0 with h0 | h0
  · omega
  · obtain ⟨k, hk⟩ : ∃ k : Nat, nid s = k := ⟨(nid s).toNat, by omega⟩
    obtain ⟨h1, h2⟩ := nid_inj hk
    exact absurd h2.symm (h k h1)
set_option maxRecDepth 100000 in
set_option maxHeartbeats 1600000 in
theorem named_any (s : ByteArray) (w : World) (h : OTab w) : Calls Tryd.prog 20 #[.string s] w fun e w' => e = .returned (.int .i64 (nid s)) ∧ w = w' := by
  have HRg := Lib.hid (show w.rangeAt 0 0 (strs nm) from fun j v hv => by
    have hj : j < 19 := by have := (List.getElem?_eq_some_iff.1 hv).1; exact this
    rw [strs_at hj] at hv
    injection hv with hv
    rw [← hv, Nat.zero_add]
    exact h.nm j hj)
  obtain ⟨N, hN⟩ : ∃ N : Array Value, N = (strs nm).toArray := ⟨_, rfl⟩
  have HIX := Lib.hid (show ∀ k : Nat, k < 19 → ∀ w' : World, (Instr.index 41 (.agg N) (.int .i64 (k : Int))).run Tryd.prog w' = .ok (.string (nmk k)) w' from fun k hk w' => by
    rw [hN]
    exact run_index_str Tryd.underlying41 Tryd.underlying9 size_s1 hk (strs_at hk) w')
  have HN := Lib.hid hN
  clear h hN
  go_enter Tryd.func20, Tryd.ntmps20
  go_wp2_with (refine wpList_load_mid rfl 41 (.global 0) rfl 0 0 rfl (strs nm) _ HRg.out Tryd.underlying41 rfl size_strs ?_; rw [← HN.out])
  go_loopw [6] (fun i wr => ∃ k : Nat, k ≤ 19 ∧ i = .int .i64 k ∧ Hid (∀ j, j < k → nmk j ≠ s) ∧ Hid (w = wr)) (fun i _ => 19 - (intOf i).toNat)
  case atStart => exact ⟨0, by omega, rfl, Lib.hid (fun j hj => by omega), Lib.hid rfl⟩
  case round =>
    obtain ⟨k, hk, rfl, HM, hw⟩ := hrel
    obtain rfl := hw.out
    clear hw
    by_cases hlt : (k : Int) < 19
    · have hix := HIX.out k (by omega) w
      by_cases he : nmk k = s
      · have HE := Lib.hid (show nid s = k from by rw [← he]; exact nid_nm k (by omega))
        have hq : ((nmk k).toList == s.toList) = true := by rw [seq_str]; exact decide_eq_true he
        clear he HM
        go_wp2_with fail
        go_ret
        exact ⟨by rw [HE.out]; rfl, rfl⟩
      · have hq : ((nmk k).toList == s.toList) = false := by rw [seq_str]; exact decide_eq_false he
        have HS := Lib.hid (show ∀ j, j < k + 1 → nmk j ≠ s from fun j hj => by
          by_cases e : j = k
          · subst e; exact he
          · exact HM.out j (by omega))
        clear he HM
        go_wp2_with fail
        go_roundw
        case rel => exact ⟨k + 1, by omega, by go_num, HS, Lib.hid (by first | exact rfl | trivial)⟩
        case measure => simp [intOf]; omega
    · obtain rfl : k = 19 := by omega
      have HE := Lib.hid (nid_no HM.out)
      clear HM
      go_wp2_with fail
      go_ret
      exact ⟨by rw [HE.out]; rfl, rfl⟩
theorem cut_len (l : List UInt8) : (Lib.cut l [32]).2.1.length ≤ l.length := by
  unfold Lib.cut
  split
  · show (l.drop _).length ≤ _
    rw [List.length_drop]
    omega
  · exact Nat.zero_le _
theorem num_b (l : List UInt8) : n64 (num l) := by
  unfold num
  cases h : Lib.atoiAll l with
  | ok v =>
    have := Lib.atoiAll_bounds h
    exact ⟨by show _ ≤ v; omega, by show v ≤ _; omega⟩
  | range =>
    show n64 (Lib.atoiSat l)
    unfold Lib.atoiSat
    split
    · exact ⟨by omega, by omega⟩
    · exact ⟨by omega, by omega⟩
  | _ => exact ⟨by show _ ≤ (0 : Int); omega, by show (0 : Int) ≤ _; omega⟩

/-- How Parse tells. -/
def parP : Option (Int × Int) → Value
  | none => .tuple #[.agg #[.int .i64 0, .int .i64 0], .bool false]
  | some (o, a) => .tuple #[.agg #[.int .i64 o, .int .i64 a], .bool true]
theorem size_ins : (Tryd.prog.info? 23).map (·.size) = some 2 := by kernel_rfl
theorem one_ins (a b : Int) : ∀ u ∈ [Value.int .i64 a, .int .i64 b], u.oneCell' = true := by
  intro u hu
  simp only [List.mem_cons, List.not_mem_nil, or_false] at hu
  rcases hu with rfl | rfl <;> rfl
set_option maxRecDepth 100000 in
set_option maxHeartbeats 3200000 in
theorem parse_any (t : ByteArray) (ht : t.size ≤ 1000) (w : World) (h : OTab w) : Calls Tryd.prog 8 #[.string t] w fun e w' => e = .returned (parP (prs t)) ∧ Below w.heap.size w w' := by
  obtain ⟨wa, hwa⟩ : ∃ wa, wa = w.alloc (.cells #[.int .i64 0, .int .i64 0] 23) := ⟨_, rfl⟩
  have HX : Hid (Blk wa w.heap.size 23 [.int .i64 0, .int .i64 0]) := Lib.hid (by rw [hwa]; exact Blk.new w _ _)
  have HB : Hid (Below w.heap.size w wa) := Lib.hid (by rw [hwa]; exact (Below.refl w.heap.size w).alloc (Nat.le_refl _) _)
  have HG := Lib.hid h
  obtain ⟨c1, hc1⟩ : ∃ c : ByteArray, c = ⟨(Lib.cut (lst t) [32]).1.toArray⟩ := ⟨_, rfl⟩
  obtain ⟨c2, hc2⟩ : ∃ c : ByteArray, c = ⟨(Lib.cut (lst t) [32]).2.1.toArray⟩ := ⟨_, rfl⟩
  obtain ⟨c3, hc3⟩ : ∃ c : Bool, c = (Lib.cut (lst t) [32]).2.2 := ⟨_, rfl⟩
  have hs2 : c2.size ≤ 1000 := by
    have h1 := cut_len (lst t)
    have e1 : c2.size = (Lib.cut (lst t) [32]).2.1.length := by rw [hc2]; exact List.size_toArray
    have e2 : (lst t).length = t.size := Array.length_toList
    omega
  have HC := Lib.hid (fun w' => cut_any t ht w')
  rw [← hc1, ← hc2, ← hc3] at HC
  obtain ⟨o, ho⟩ : ∃ o, o = nid c1 := ⟨_, rfl⟩
  obtain ⟨a, ha⟩ : ∃ a, a = num (lst c2) := ⟨_, rfl⟩
  have hpI : pI t = (o, a) := by
    rw [ho, ha, hc2, lst_mk, hc1]
    rfl
  have ho64 : n64 o := by have := nid_b c1; rw [← ho] at this; exact ⟨by omega, by omega⟩
  have ha64 : n64 a := by rw [ha]; exact num_b _
  have HA := Lib.hid (fun w' hw => atoi_any c2 hs2 w' hw)
  have HN := Lib.hid (fun w' hw => named_any c1 w' hw)
  rw [← ha] at HA
  rw [← ho] at HN
  have HT := Lib.hid (fun w' hw => text_any o a w' hw ho64 ha64)
  obtain ⟨x, hx⟩ : ∃ x, x = ok o a := ⟨_, rfl⟩
  obtain ⟨s, hs⟩ : ∃ s, s = tI o a := ⟨_, rfl⟩
  rw [← hx, ← hs] at HT
  obtain ⟨y, hy⟩ : ∃ y : Bool, y = decide (s = t) := ⟨_, rfl⟩
  have hq : (s.toList == t.toList) = y := by rw [seq_str, hy]
  have HE : Hid (prs t = if x = true ∧ y = true then some (o, a) else none) := Lib.hid (by
    unfold prs
    rw [hpI]
    show (if ok o a = true ∧ txI o a = t then some (o, a) else none) = _
    rw [← hx]
    cases x with
    | false => rw [if_neg (by simp), if_neg (by simp)]
    | true =>
      have e1 : s = txI o a := by rw [hs]; unfold tI; rw [← hx, if_pos rfl]
      rw [hy, e1]
      by_cases e : txI o a = t
      · rw [if_pos ⟨rfl, e⟩, if_pos ⟨rfl, decide_eq_true e⟩]
      · rw [if_neg (fun h => e h.2), if_neg (fun h => e (of_decide_eq_true h.2))])
  clear h hc1 hc2 hc3 hs2 ho ha hpI ho64 ha64 hx hs hy
  go_enter Tryd.func8, Tryd.ntmps8
  go_upto_region 1 with (fail)
  rw [← hwa]
  clear hwa
  go_upto_region 4 with (first
    | (go_at_call 18; refine (HC.out _).mono ?_; rintro e w1 ⟨rfl, hb1⟩; have L1 := Lib.hid (HB.out.trans (hb1.mono HB.out.size)); have X1 := Lib.hid (HX.out.below hb1); clear hb1)
    | (go_at_call 19; refine (HA.out _ (HG.out.below L1.out)).mono ?_; rintro e w2 ⟨er, rfl, hb2⟩; have L2 := Lib.hid (L1.out.trans (hb2.mono L1.out.size)); have X2 := Lib.hid (X1.out.below hb2); clear hb2)
    | (go_at_call 20; refine (HN.out _ (HG.out.below L2.out)).mono ?_; rintro e w3 ⟨rfl, rfl⟩))
  obtain ⟨w4, hw4⟩ : ∃ w4, w4 = w2.alloc (.cells #[.int .i64 o, .int .i64 a] 23) := ⟨_, rfl⟩
  have Y4 : Hid (Blk w4 w2.heap.size 23 [.int .i64 o, .int .i64 a]) := Lib.hid (by rw [hw4]; exact Blk.new w2 _ _)
  have L4 : Hid (Below w.heap.size w w4) := Lib.hid (by rw [hw4]; exact L2.out.alloc L2.out.size _)
  have X4 : Hid (Blk w4 w.heap.size 23 [.int .i64 0, .int .i64 0]) := Lib.hid (by rw [hw4]; exact X2.out.alloc _)
  rw [← hw4]
  clear hw4 X2 X1
  have m0 := Y4.out.cell (i := 0) rfl
  have m1 := Y4.out.cell (i := 1) rfl
  cases x with
  | false =>
    go_wp2_with (first
      | (go_at_call 5; refine (HT.out _ (HG.out.below L4.out)).mono ?_; rintro e w5 ⟨rfl, hb5⟩; have L5 := Lib.hid (L4.out.trans (hb5.mono L4.out.size)); have X5 := Lib.hid (X4.out.below hb5); clear hb5)
      | (refine wpList_store_blk rfl 23 (.tmp 2) (.tmp 39) rfl w.heap.size rfl [.int .i64 0, .int .i64 0] rfl X5.out rfl size_ins (one_ins _ _) ?_; intro w9 hB9 ho9))
    have e0 := hB9.out.cell (i := 0) rfl
    have e1 := hB9.out.cell (i := 1) rfl
    refine bodyPost_ret (v := parP none) (by simp [results, Tryd.results8, go_sem, parP, e0, e1]) rfl ?_
    exact ⟨by rw [HE.out, if_neg (by simp)], ho9.out.below L5.out (Nat.le_refl _) L5.out.size⟩
  | true =>
    cases y with
    | false =>
      go_wp2_with (first
        | (go_at_call 5; refine (HT.out _ (HG.out.below L4.out)).mono ?_; rintro e w5 ⟨rfl, hb5⟩; have L5 := Lib.hid (L4.out.trans (hb5.mono L4.out.size)); have X5 := Lib.hid (X4.out.below hb5); clear hb5)
        | (refine wpList_store_blk rfl 23 (.tmp 2) (.tmp 39) rfl w.heap.size rfl [.int .i64 0, .int .i64 0] rfl X5.out rfl size_ins (one_ins _ _) ?_; intro w9 hB9 ho9))
      have e0 := hB9.out.cell (i := 0) rfl
      have e1 := hB9.out.cell (i := 1) rfl
      refine bodyPost_ret (v := parP none) (by simp [results, Tryd.results8, go_sem, parP, e0, e1]) rfl ?_
      exact ⟨by rw [HE.out, if_neg (by simp)], ho9.out.below L5.out (Nat.le_refl _) L5.out.size⟩
    | true =>
      go_wp2_with (first
        | (go_at_call 5; refine (HT.out _ (HG.out.below L4.out)).mono ?_; rintro e w5 ⟨rfl, hb5⟩; have L5 := Lib.hid (L4.out.trans (hb5.mono L4.out.size)); have X5 := Lib.hid (X4.out.below hb5); have Y5 := Lib.hid (Y4.out.below hb5); have n0 := Y5.out.cell (i := 0) rfl; have n1 := Y5.out.cell (i := 1) rfl; clear hb5 m0 m1)
        | (refine wpList_store_blk rfl 23 (.tmp 2) (.tmp 40) rfl w.heap.size rfl [.int .i64 o, .int .i64 a] rfl X5.out rfl size_ins (one_ins _ _) ?_; intro w9 hB9 ho9))
      have e0 := hB9.out.cell (i := 0) rfl
      have e1 := hB9.out.cell (i := 1) rfl
      refine bodyPost_ret (v := parP (some (o, a))) (by simp [results, Tryd.results8, go_sem, parP, e0, e1]) rfl ?_
      exact ⟨by rw [HE.out, if_pos (by simp)], ho9.out.below L5.out (Nat.le_refl _) L5.out.size⟩
end Go.Proofs.YtklpkafgmggacaaDoor.OpsI
