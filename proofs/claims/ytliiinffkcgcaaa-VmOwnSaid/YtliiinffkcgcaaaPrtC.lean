/- A queue's numbers: one more, the first one taken, all of them copied. Conditions: it lies as the facts say. -/
import Derived.Test.YtliiinffkcgcaaaPrtB
import Derived.Deep.RegionLaw
namespace Go.Proofs.Ytliiinffkcgcaaa.PrtC
open Go.RowKit Go.Proofs.Ytliiinffkcgcaaa.Kit Go.Proofs.Ytliiinffkcgcaaa.Byt Go.Proofs.Ytliiinffkcgcaaa.Mem Go.Proofs.Ytliiinffkcgcaaa.TabI Go.Proofs.Ytliiinffkcgcaaa.PrtM Go.Proofs.Ytliiinffkcgcaaa.PrtA Go.Proofs.Ytliiinffkcgcaaa.PrtB

theorem size_int : (Try.prog.info? 3).map (·.size) = some 1 := by kernel_rfl
theorem zero_int (w : World) : (zeroValue 3).run Try.prog w = .ok (.int .i64 0) w := by kernel_rfl
section
variable {B q n c g : Nat} {w : World} {x d : Int} {A : Option Addr} {l : List Int}
theorem own_int {l : List Int} (h : w.ownsRow B 3 1 (.slice A n c) n (i64s l)) (hn : 0 < n) : ∃ g cur, A = some ⟨g, 0, none⟩ ∧ B ≤ g ∧ w.heap[g]? = some (.cells cur 3 (0, 0)) ∧ n ≤ c ∧ c ≤ 9223372036854775807 ∧ cur.size = c ∧ cur.toList.take n = i64s l := by
  rcases h.2 with ⟨hv, h0⟩ | ⟨g, cap, cur, hv, hb, hg, hnc, hcm, hcs, ht⟩
  · omega
  · simp only [Value.slice.injEq] at hv
    obtain ⟨rfl, _, rfl⟩ := hv
    unfold maxLen at hcm
    rw [Nat.mul_one] at hcs ht
    exact ⟨g, cur, rfl, hb, hg, hnc, hcm, hcs, ht⟩
/-- One cell of a block, cleared. -/
theorem run_clear_one {P : Program} (w : World) (t e ty : TypeId) (z : Value) (ht : P.underlying t = some (.slice e)) (hv : ∀ w, (zeroValue e).run P w = .ok z w) (hz : z.cells = #[z]) (h1 : z.oneCell' = true) {g off c : Nat} {xs : List Value} (hB : Blk w g e xs) (ho : off < xs.length) :
    (Builtin.clear_ #[t] ty #[.slice (some ⟨g, off, none⟩) 1 c]).run P w = .ok (.tuple #[]) (w.setRow g (splice xs off [z]).toArray) := by
  have hst := run_storeCells_at P g off e [z] 0 xs.toArray w hB (by simp; omega) (by simpa using h1)
  have hzc : (Builtin.zeroCells #[z] 1).toList = [z] := by simp [Builtin.zeroCells]
  simp only [Nat.add_zero] at hst
  simp [Builtin.clear_, run_underlying ht, hv, hz, hzc, hst, splice]
theorem wpList_clear_one {P : Program} {ops : Array Oper} {rest : List Oper} {o : Oper} {a : Act} {w : World} {Q : Exit → Act → World → Prop} (hgd : o.guard = none) (x : Operand) (t e : TypeId) (ho : o.op = .call { callee := .builtin .clear, args := #[x], argTypes := #[t] }) (z : Value) (ht : P.underlying t = some (.slice e)) (hv : ∀ w, (zeroValue e).run P w = .ok z w) (hz : z.cells = #[z]) (h1 : z.oneCell' = true)
    {g off c : Nat} {xs : List Value} (hx : a.eval x = .slice (some ⟨g, off, none⟩) 1 c) (hB : Blk w g e xs) (hl : off < xs.length)
    (h : ∀ w', Hid (Blk w' g e (splice xs off [z])) → Hid (Only g w w') → wpList P ops Q rest (a.put o.dst (.tuple #[])) w') : wpList P ops Q (o :: rest) a w := by
  refine wpList_plain hgd fun K hK => ?_
  have hrun := run_clear_one (P := P) w t e o.type z ht hv hz h1 hB hl (c := c)
  unfold Oper.wp execOp
  simp only [ho, resolve, invoke, builtin, Sem.run_bind, Sem.run_pure, Result.andThen_ok, List.map_toArray, List.map_cons, List.map_nil, hx, hrun]
  exact hK _ _ (h _ (Lib.hid (setRow_heap w g _ _ e _ hB)) (Lib.hid (Only.row w g _)))
theorem own_blk {g m c : Nat} {xs : List Value} (h : w.ownsRow B 3 1 (.slice (some ⟨g, 0, none⟩) m c) m xs) : ∃ ys, Blk w g 3 ys ∧ ys.length = c ∧ ys.take m = xs ∧ B ≤ g ∧ m ≤ c ∧ c ≤ 9223372036854775807 := by
  rcases h.2 with ⟨hv, h0⟩ | ⟨g', cap, cur, hv, hb, hg, hnc, hcm, hcs, ht⟩
  · simp at hv
  · simp only [Value.slice.injEq, Option.some.injEq, Addr.mk.injEq, and_true, true_and] at hv
    obtain ⟨rfl, rfl⟩ := hv
    unfold maxLen at hcm
    rw [Nat.mul_one] at hcs ht
    exact ⟨cur.toList, by unfold Blk; rw [hg], by simpa using hcs, ht, hb, hnc, hcm⟩
theorem blk_own {g m c : Nat} {xs ys : List Value} (h : Blk w g 3 ys) (h1 : ys.length = c) (h2 : ys.take m = xs) (h3 : B ≤ g) (h4 : m ≤ c) (h5 : c ≤ 9223372036854775807) : w.ownsRow B 3 1 (.slice (some ⟨g, 0, none⟩) m c) m xs := by
  refine ⟨by rw [← h2, List.length_take]; omega, .inr ⟨g, c, ys.toArray, rfl, h3, h, h4, by unfold maxLen; omega, by simpa using h1, by simpa using h2⟩⟩
theorem keep_drew {F : Nat → Prop} {a b : World} (h : Keep F a.drew b) : Keep F a b := ⟨h.os, h.tape, h.output, h.size, h.block⟩
set_option maxRecDepth 100000 in
/-- The first one is taken out: the others move up. -/
theorem delete_any (hO : w.ownsRow B 3 1 (.slice (some ⟨g, 0, none⟩) n c) n (i64s (x :: l))) :
    Calls Try.prog 113 #[.slice (some ⟨g, 0, none⟩) n c, .int .i64 0, .int .i64 1] w fun e w' =>
      ∃ m, e = .returned (.slice (some ⟨g, 0, none⟩) m c) ∧ w'.ownsRow B 3 1 (.slice (some ⟨g, 0, none⟩) m c) m (i64s l) ∧ Keep (fun i => i = g) w w' := by
  obtain ⟨i0, hi0, hz0, hz1, hz2⟩ := info_of info_int
  have hl : l.length + 1 = n := own_len (l := x :: l) hO
  obtain ⟨g', cur, hg', hbg, hh, hnc, hcm, hcs, htk⟩ := own_int hO (by omega)
  obtain rfl : g' = g := by injection hg' with h; injection h with h _; exact h.symm
  obtain ⟨m, hm⟩ : ∃ m, m = l.length := ⟨_, rfl⟩
  obtain rfl : n = m + 1 := by omega
  have hO0 : w.drew.ownsRow B 3 1 (.slice (some ⟨g', 0, none⟩) 0 c) 0 [] := own_empty hO
  obtain ⟨A1, hA1⟩ : ∃ A1, A1 = if c = 1 then some (⟨g', 0, none⟩ : Addr) else some ⟨g', 1, none⟩ := ⟨_, rfl⟩
  obtain ⟨ad, had, hsrc⟩ : ∃ ad, A1 = some ad ∧ ∀ j u, (i64s l)[j]? = some u → w.drew.cell? (ad.add j) = some u := by
    by_cases hc1 : c = 1
    · refine ⟨_, by rw [hA1, if_pos hc1], fun j u hu => ?_⟩
      obtain rfl : l = [] := List.eq_nil_of_length_eq_zero (by omega)
      simp [i64s] at hu
    · refine ⟨_, by rw [hA1, if_neg hc1], fun j u hu => ?_⟩
      rw [Addr.add_lit]
      have h1 := hO.cells (g := g') rfl (1 + j) u (by rw [Nat.add_comm]; simpa [i64s] using hu)
      rw [Addr.add_lit] at h1
      simpa using h1
  have HA1 := Lib.hid (hA1.symm.trans had)
  have HO0 := Lib.hid hO0
  have HS := Lib.hid hsrc
  have HLM := Lib.hid hm
  have h1i : (1 : Int) ≤ ((m + 1 : Nat) : Int) := by omega
  have hcm' : m < c := by omega
  clear hO hO0 hsrc hh hcs htk hg' hl hA1 had hm hnc
  go_enter Try.func113, Try.ntmps113
  go_wp2_with fail
  go_still_tail 6, (by kernel_rfl)
  refine wpStill_step (fun K hK => ?_)
  go_simp
  rw [if_pos (by omega)]
  refine ⟨rfl, hK _ ?_⟩
  clear hK K
  rw [HA1.out]
  refine wpStill_nil ?_
  change wpList _ _ _ _ _ (World.drew _)
  refine wpList_append_own_spare _ rfl (.tmp 22) (.tmp 25) 64 rfl B 3 i0 1 Try.underlying64 hi0 hz1 g' 0 c [] rfl HO0.out ad m (c - 1) (i64s l) rfl (by rw [i64s_len, HLM.out, Nat.mul_one]) HS.out (i64s_one _) (by omega) ?_
  intro w1 ho1 hg1
  rw [Nat.zero_add] at ho1
  rw [Nat.zero_add]
  obtain ⟨ys, hB1, hl1, ht1, hb1, hm1, hc1⟩ := own_blk ho1
  have HB1 := Lib.hid hB1
  have HT1 := Lib.hid ht1
  have HK1 := Lib.hid (keep_drew (Keep.grown (F := fun i => i = g') hg1 fun k hk => by injection hk with hk; exact hk.symm))
  have hne : ¬ c = m := by omega
  clear ho1 hg1 hB1 ht1 HO0 HS HA1
  go_wp2_with (refine wpList_clear_one rfl (.tmp 31) 64 3 rfl (.int .i64 0) Try.underlying64 zero_int rfl rfl (g := g') (off := m) (c := c - m) rfl HB1.out (by omega) ?_; intro w2 hB2 ho2)
  go_ret
  refine ⟨m, rfl, blk_own (hB2.out) (by rw [splice]; simp; omega) ?_ hb1 (by omega) hc1, HK1.out.trans (Keep.only (F := fun i => i = g') ho2.out rfl) fun k hk => .inl hk⟩
  have ht2 : ys.take m = i64s l := by simpa using HT1.out
  rw [← ht2, splice, List.take_append_of_le_length (by simp; omega), List.take_take, Nat.min_self]
theorem rd_one (w : World) (x : Int) : Rd (w.alloc (.cells #[.int .i64 x] 3)) (some ⟨w.heap.size, 0, none⟩) 1 1 (i64s [x]) :=
  Rd.own (base := 0) (own_of_block (cur := [.int .i64 x]) (heap_alloc_new w _) (Nat.zero_le _) (Nat.le_refl _) (by simp))
theorem grown_keep {w w2 : World} {o : Obj} {row : Option Nat} {k : Nat} (h : ((w.drewN k).alloc o).grownBy w2 row) : Keep (fun i => row = some i) w w2 :=
  ((Keep.of_below (F := fun i => row = some i) (w := w) (w' := (w.drewN k).alloc o) (bel_drewN ((Below.refl w.heap.size w).alloc (Nat.le_refl _) o) k)).trans (Keep.grown (F := fun i => row = some i) h fun _ h => h) fun _ h => .inl h)
set_option maxRecDepth 100000 in
theorem clone_any (hR : Rd w A n c (i64s l)) (hA : A = none ∨ ∃ b o, A = some ⟨b, o, none⟩) (hn : n ≤ 100) :
    Calls Try.prog 39 #[.slice A n c] w (News w l) := by
  obtain ⟨i0, hi0, hz0, hz1, hz2⟩ := info_of info_int
  have hnil := fun (W : World) (a : Option Addr) (n c : Nat) => Lib.run_eql_slice_nil (P := Try.prog) W 64 3 a n c 0 0 Try.underlying64
  rcases hA with rfl | ⟨b, o, rfl⟩
  · have hl : l = [] := by
      rcases Nat.eq_zero_or_pos n with h | h
      · have := hR.1
        rw [i64s_len] at this
        exact List.eq_nil_of_length_eq_zero (by omega)
      · obtain ⟨b, o, h, _⟩ := hR.at_ h
        cases h
    subst hl
    clear hR
    go_enter Try.func39, Try.ntmps39
    go_wp2
    go_ret
    exact ⟨none, 0, 0, rfl, Rd.nil _, fun b o h => (by cases h), Below.refl _ _⟩
  · have HR := Lib.hid hR
    clear hR
    go_enter Try.func39, Try.ntmps39
    go_wp2_with (at_builtin; refine wpList_add _ rfl (.tmp 5) (.tmp 6) _ rfl w.heap.size 3 i0 _ 8 Try.underlying64 hi0 hz0 hz1 hz2 rfl _ 0 [] rfl (emptied w _) (some ⟨b, o, none⟩) n c (i64s l) rfl (HR.out.alloc _) (i64s_one _) (by omega) (by omega) (size_alloc _ _) ?_; intro A2 n2 c2 w2 hn2 hown2 hg2 hat2; have hb2 := below_add ((Below.refl w.heap.size w).alloc (Nat.le_refl _) _) (emptied w _) (Nat.le_refl _) hg2)
    go_ret
    have h3 : w2.ownsRow w.heap.size 3 1 (.slice A2 n2 c2) n2 (i64s l) := by simpa using hown2
    exact ⟨A2, n2, c2, rfl, Rd.own h3, fun b o hA => (h3.lt b (by rw [hA]; rfl)).1, hb2⟩
theorem own_addr {xs : List Value} {e : TypeId} (h : w.ownsRow B e 1 (.slice A n c) n xs) : A = none ∨ ∃ b o, A = some ⟨b, o, none⟩ := by
  rcases h.2 with ⟨hv, h0⟩ | ⟨g, cap, cur, hv, _⟩
  · simp only [Value.slice.injEq] at hv
    exact .inl hv.1
  · simp only [Value.slice.injEq] at hv
    exact .inr ⟨g, 0, hv.1⟩
set_option maxRecDepth 100000 in
theorem queue_has (hB : Blk w q 125 [.int .i64 d, .slice A n c]) (hO : w.ownsRow B 3 1 (.slice A n c) n (i64s l)) (hn : n ≤ 100) :
    Calls Try.prog 111 #[.pointer (some ⟨q, 0, none⟩)] w (News w l) := by
  have c1 := hB.cell (i := 1) rfl
  have HC := Lib.hid (clone_any (Rd.own hO) (own_addr hO) hn)
  clear hB hO
  go_enter Try.func111, Try.ntmps111
  go_wp2_with fail
  refine HC.out.mono ?_
  rintro e w1 ⟨A1, n1, c1, rfl, h1, h2, h3⟩
  have H := Lib.hid h1
  clear h1
  go_wp2
  go_ret
  exact ⟨A1, n1, c1, rfl, H.out, h2, h3⟩
set_option maxRecDepth 100000 in
theorem queue_send_full (hB : Blk w q 125 [.int .i64 (n : Nat), .slice A n c]) (y : Int) :
    Calls Try.prog 112 #[.pointer (some ⟨q, 0, none⟩), .int .i64 y] w fun e w' => e = .returned (.bool false) ∧ Below w.heap.size w w' := by
  have c0 := hB.cell (i := 0) rfl
  have c1 := hB.cell (i := 1) rfl
  clear hB
  go_enter Try.func112, Try.ntmps112
  go_wp2_with fail
  go_quiet (fail)
  go_wp2
  go_ret
  exact ⟨rfl, bel_drewN (Below.refl _ _) _⟩
set_option maxRecDepth 100000 in
theorem queue_send_yes (hB : Blk w q 125 [.int .i64 d, .slice A n c]) (hO : w.ownsRow B 3 1 (.slice A n c) n (i64s l)) (hq : ∀ g, (Value.slice A n c).ownBlock = some g → g ≠ q) (hd : ¬ (n : Int) = d) (hn : n ≤ 100) (hb : B ≤ w.heap.size) (y : Int) :
    Calls Try.prog 112 #[.pointer (some ⟨q, 0, none⟩), .int .i64 y] w fun e w' => e = .returned (.bool true) ∧
      ∃ A' n' c', Blk w' q 125 [.int .i64 d, .slice A' n' c'] ∧ w'.ownsRow B 3 1 (.slice A' n' c') n' (i64s (l ++ [y])) ∧ Keep (fun i => i = q ∨ (Value.slice A n c).ownBlock = some i) w w' ∧
        ∀ g, (Value.slice A' n' c').ownBlock = some g → (Value.slice A n c).ownBlock = some g ∨ (w.heap.size ≤ g ∧ g < w'.heap.size) := by
  obtain ⟨i0, hi0, hz0, hz1, hz2⟩ := info_of info_int
  have c0 := hB.cell (i := 0) rfl
  have c1 := hB.cell (i := 1) rfl
  have HB := Lib.hid hB
  have HO := Lib.hid hO
  have HQ := Lib.hid hq
  have hql := hB.lt
  have hd' : ((n : Int) == d) = false := by simpa using hd
  clear hB hO hq
  go_enter Try.func112, Try.ntmps112
  go_wp2_with fail
  go_quiet (fail)
  have HOd := Lib.hid (show (w.drewN nq).ownsRow B 3 1 (.slice A n c) n (i64s l) from HO.out)
  have hnn : n ≤ 9223372036854775807 := by omega
  go_wp2_with (at_builtin; refine wpList_add _ rfl (.tmp 19) (.tmp 21) _ rfl B 3 i0 _ 8 Try.underlying64 hi0 hz0 hz1 hz2 rfl _ n (i64s l) rfl (own_below HOd.out ((Below.refl _ _).alloc (Nat.le_refl _) _)) (some ⟨w.heap.size, 0, none⟩) 1 1 (i64s [y]) rfl (rd_one (w.drewN nq) y) (i64s_one _) (by omega) (by omega) (by simp; omega) ?_; intro A2 n2 c2 w2 hn2 hown2 hg2 hat2; have HK2 := Lib.hid (grown_keep hg2); have HB2 := Lib.hid (HK2.out.blk HB.out (fun h => HQ.out q h rfl)); have HO2 := Lib.hid hown2; have HA2 := Lib.hid hat2; have e1 := HB2.out.cell (i := 1) rfl; have f1 := HB2.out.frozen 1; clear c0 c1 hown2 hat2 hg2)
  go_ret
  have hs2 := HK2.out.size
  have hsa : ((w.drewN nq).alloc (.cells #[.int .i64 y] 3)).heap.size = w.heap.size + 1 := by simp
  have hne : ∀ g, (Value.slice A2 n2 c2).ownBlock = some g → (Value.slice A n c).ownBlock = some g ∨ (w.heap.size ≤ g ∧ g < w2.heap.size) := fun g hg => by
    rcases HA2.out with h | h
    · exact .inl (h ▸ hg)
    · have := (HO2.out.lt g hg).2
      rw [h] at hg
      injection hg with hg
      exact .inr ⟨by omega, this⟩
  refine ⟨rfl, A2, n2, c2, HB2.out.set 1 _, ?_, (HK2.out.mono fun _ _ h => .inr h).trans (Keep.set (F := fun i => i = q ∨ (Value.slice A n c).ownBlock = some i) _ _ _ (.inl rfl)) fun k hk => .inl hk, fun g hg => (hne g hg).imp id fun h => ⟨h.1, by simpa using h.2⟩⟩
  refine own_other (by rw [← i64s_app]; exact HO2.out) fun g hg => ?_
  rcases hne g hg with h | h
  · exact HQ.out g h
  · omega
set_option maxRecDepth 100000 in
theorem queue_get_no (hB : Blk w q 125 [.int .i64 d, .slice A 0 c]) :
    Calls Try.prog 110 #[.pointer (some ⟨q, 0, none⟩)] w fun e w' => e = .returned (.tuple #[.int .i64 0, .bool false]) ∧ Below w.heap.size w w' := by
  have c1 := hB.cell (i := 1) rfl
  clear hB
  go_enter Try.func110, Try.ntmps110
  go_wp2
  go_ret2
  exact ⟨rfl, Below.refl _ _⟩
set_option maxRecDepth 100000 in
theorem queue_get_yes (hB : Blk w q 125 [.int .i64 d, .slice (some ⟨g, 0, none⟩) n c]) (hO : w.ownsRow B 3 1 (.slice (some ⟨g, 0, none⟩) n c) n (i64s (x :: l))) (hq : g ≠ q) :
    Calls Try.prog 110 #[.pointer (some ⟨q, 0, none⟩)] w fun e w' => e = .returned (.tuple #[.int .i64 x, .bool true]) ∧
      ∃ m, Blk w' q 125 [.int .i64 d, .slice (some ⟨g, 0, none⟩) m c] ∧ w'.ownsRow B 3 1 (.slice (some ⟨g, 0, none⟩) m c) m (i64s l) ∧ Keep (fun i => i = q ∨ i = g) w w' := by
  have hl : l.length + 1 = n := own_len (l := x :: l) hO
  have c1 := hB.cell (i := 1) rfl
  have g0 : w.cell? ⟨g, 0, none⟩ = some (.int .i64 x) := by
    have h1 := hO.cells (g := g) rfl 0 _ rfl
    rw [Addr.add_lit] at h1
    exact h1
  have HD := Lib.hid (delete_any hO)
  have HB := Lib.hid hB
  obtain ⟨m, rfl⟩ : ∃ m, n = m + 1 := ⟨n - 1, by omega⟩
  have hz : ((m : Int) + 1 == 0) = false := by simp; omega
  clear hB hO hl
  go_enter Try.func110, Try.ntmps110
  go_wp2_with (go_at_call 113; refine HD.out.mono ?_; rintro e w1 ⟨m, rfl, h1, h2⟩; have HO1 := Lib.hid h1; have HK1 := Lib.hid h2; have HB1 := Lib.hid (h2.blk HB.out (fun e => hq e.symm)); have e1 := HB1.out.cell (i := 1) rfl; have f1 := HB1.out.frozen 1; clear c1 g0 h1 h2)
  go_ret2
  refine ⟨rfl, _, HB1.out.set 1 _, own_other HO1.out (fun g' hg => by injection hg with hg; exact hg ▸ hq), (HK1.out.mono fun _ _ h => .inr h).trans (Keep.set (F := fun i => i = q ∨ i = g) _ _ _ (.inl rfl)) fun k hk => .inl hk⟩
end
end Go.Proofs.Ytliiinffkcgcaaa.PrtC
