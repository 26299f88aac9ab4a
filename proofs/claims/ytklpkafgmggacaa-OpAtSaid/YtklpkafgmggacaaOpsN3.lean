/- The code's All. Condition: the bytes lie as the facts say. -/
import Derived.Test.YtklpkafgmggacaaOpsN2
namespace Go.Proofs.Ytklpkafgmggacaa.OpsN
open Go.RowKit Go.Proofs.Ytklpkafgmggacaa.Kit Go.Proofs.Ytklpkafgmggacaa.Byt Go.Proofs.Ytklpkafgmggacaa.Mem Go.Proofs.Ytklpkafgmggacaa.OpsM Go.Proofs.Ytklpkafgmggacaa.OpsA

def pcs (p : Int × Int) : List Value := [.int .i64 p.1, .int .i64 p.2]
theorem pcs_at : ∀ (R : List (Int × Int)) (j : Nat) (p : Int × Int), R[j]? = some p → (R.flatMap pcs)[j * 2]? = some (.int .i64 p.1) ∧ (R.flatMap pcs)[j * 2 + 1]? = some (.int .i64 p.2) := by
  intro R
  induction R with
  | nil => intro j p hj; simp at hj
  | cons q R ih =>
    intro j p hj
    cases j with
    | zero => simp only [List.getElem?_cons_zero, Option.some.injEq] at hj; subst hj; exact ⟨rfl, rfl⟩
    | succ j =>
      rw [List.getElem?_cons_succ] at hj
      have := ih j p hj
      rw [List.flatMap_cons, show (j + 1) * 2 = j * 2 + 2 from by omega]
      exact this
theorem pcs_len (R : List (Int × Int)) : (R.flatMap pcs).length = R.length * 2 := by
  induction R with
  | nil => rfl
  | cons p R ih =>
    rw [List.flatMap_cons, List.length_append, ih, List.length_cons]
    show 2 + R.length * 2 = _
    omega
theorem Prs.own {w : World} {base : Nat} {e : TypeId} {A : Option Addr} {n c : Nat} {R : List (Int × Int)} (h : w.ownsRow base e 2 (.slice A n c) n (R.flatMap pcs)) (hR : ∀ p ∈ R, n64 p.1 ∧ n64 p.2) : Prs w A n c R := by
  have hl : R.length = n := by have := h.1; rw [pcs_len] at this; omega
  rcases h.2 with ⟨hv, h0⟩ | ⟨g, cap', cur, hv, _, hh, hnc, hcm, hcs, htk⟩
  · simp only [Value.slice.injEq] at hv
    obtain ⟨rfl, rfl, rfl⟩ := hv
    exact ⟨hl, by omega, by omega, hR, fun h => by omega⟩
  · simp only [Value.slice.injEq] at hv
    obtain ⟨rfl, _, rfl⟩ := hv
    unfold maxLen at hcm
    have hcell : ∀ i u, (R.flatMap pcs)[i]? = some u → w.cell? ⟨g, 0 + i, none⟩ = some u := by
      intro i u hu
      rw [← htk, List.getElem?_take] at hu
      split at hu
      · rw [Nat.zero_add]
        have h3 : cur.toList.toArray = cur := by simp
        exact (show Blk w g e cur.toList from by unfold Blk; rw [h3]; exact hh).cell hu
      · cases hu
    refine ⟨hl, by omega, by omega, hR, fun _ => ⟨g, 0, rfl, lt_of_block hh, fun j p hj => ?_⟩⟩
    obtain ⟨h1, h2⟩ := pcs_at R j p hj
    exact ⟨hcell _ _ h1, by have := hcell _ _ h2; rw [← Nat.add_assoc] at this; exact this⟩
theorem at1_b {x : List Nat} {o a : Int} {n : Nat} (hx : ∀ b ∈ x, b < 256) (h : at1 x = some (o, a, n)) : 0 ≤ a ∧ a < 256 := by
  match x with
  | [] => simp [at1] at h
  | [q] =>
    simp only [at1] at h
    split at h <;> (try contradiction)
    split at h <;> (try contradiction)
    simp only [Option.some.injEq, Prod.mk.injEq] at h
    omega
  | q :: b :: r =>
    have := hx b (by simp)
    simp only [at1] at h
    split at h <;> (try contradiction)
    split at h <;> simp only [Option.some.injEq, Prod.mk.injEq] at h <;> omega
theorem info_ins : (Try.prog.info? 29).map (fun i => (i.zero, i.size, i.bytes)) = some (some (.agg #[.int .i64 0, .int .i64 0]), 2, 16) := by kernel_rfl
theorem one_pcs (p : Int × Int) : ∀ u ∈ pcs p, u.oneCell' = true := by
  intro u hu
  simp only [pcs, List.mem_cons, List.not_mem_nil, or_false] at hu
  rcases hu with rfl | rfl <;> rfl
section
variable {P : Program} {ops : Array Oper} {rest : List Oper} {o : Oper} {a : Act} {w : World} {Q : Exit → Act → World → Prop}
theorem wpList_append_at (hgd : o.guard = none) (s x : Operand) (t : TypeId)
    (ho : o.op = .call { callee := .builtin .append, args := #[s, x], argTypes := #[t, t] })
    (base : Nat) (e : TypeId) (i : TypeInfo) (z : Value) (size bytes : Nat) (ht : P.underlying t = some (.slice e)) (hi : P.info? e = some i) (hz : i.zero = some z)
    (hsize : i.size = size) (hby : i.bytes = bytes) (hzs : z.cells.size = size) (hsz : 0 < size)
    (v : Value) (n : Nat) (xs : List Value) (hs : a.eval s = v) (hown : w.ownsRow base e size v n xs)
    (ad : Addr) (m c : Nat) (news : List Value) (hx : a.eval x = .slice (some ad) m c) (hl : news.length = m * size) (hnews : ∀ j u, news[j]? = some u → w.cell? (ad.add j) = some u) (h1 : ∀ u ∈ news, u.oneCell' = true)
    (h63 : n + m ≤ maxLen) (hbytes : (n + m) * bytes ≤ 140737488355328) (hbase : base ≤ w.heap.size)
    (h : ∀ A' n' c' w', Hid (n' = n + m) → Hid (w'.ownsRow base e size (.slice A' n' c') n' (xs ++ news)) → w.grownBy w' v.ownBlock → Hid ((Value.slice A' n' c').ownBlock = v.ownBlock ∨ (Value.slice A' n' c').ownBlock = some w.heap.size) → wpList P ops Q rest (a.put o.dst (.slice A' n' c')) w') : wpList P ops Q (o :: rest) a w :=
  wpList_plain hgd fun _ hK => wp_append_at s x t ho base e i z size bytes ht hi hz hsize hby hzs hsz v n xs hs hown ad m c news hx hl hnews h1 h63 hbytes hbase fun A' n' c' w' h2 h3 h4 h5 => hK _ _ (h A' n' c' w' h2 h3 h4 h5)
end
theorem new_pcs (w : World) (T : TypeId) (p : Int × Int) : ∀ j u, (pcs p)[j]? = some u → (w.alloc (.cells #[.int .i64 p.1, .int .i64 p.2] T)).cell? ((⟨w.heap.size, 0, none⟩ : Addr).add j) = some u := fun j u hu => by
  rw [Addr.add_lit, Nat.zero_add]
  exact (Blk.new w T (pcs p)).cell hu
theorem below_addW {w0 w w' : World} {v : Value} {base size : Nat} {e : TypeId} {n : Nat} {xs : List Value} (hb : Below w0.heap.size w0 w) (hown : w.ownsRow base e size v n xs) (hbase : w0.heap.size ≤ base) (hg : w.grownBy w' v.ownBlock) : Below w0.heap.size w0 w' :=
  hb.grown hg hb.size fun k hk => by have := hown.lt k hk; omega
theorem own_belowW {w w' : World} {v : Value} {base size : Nat} {e : TypeId} {n : Nat} {xs : List Value} (h : w.ownsRow base e size v n xs) (hb : Below w.heap.size w w') : w'.ownsRow base e size v n xs :=
  h.kept (row := none) ⟨hb.os, hb.tape, hb.output, hb.size, fun k hk _ => hb.block k hk⟩ (by
    rcases hv : v.ownBlock with _ | g
    · exact .inl rfl
    · exact .inr (by simp))
set_option maxRecDepth 100000 in
set_option maxHeartbeats 6400000 in
theorem all_any (A : Option Addr) (n c : Nat) (xs : List Nat) (w : World) (hr : Rd w A n c (u8n xs)) (hx : ∀ b ∈ xs, b < 256) (hn : n ≤ 300) : Calls Try.prog 11 #[.slice A n c] w (Alls w (tell xs)) := by
  obtain ⟨i0, hi0, hz0, hz1, hz2⟩ := info_parts info_ins
  obtain rfl := Rd.nats hr
  have HAT := Lib.hid (fun (k : Nat) (hk : k ≤ 300) w' (hb : Below w.heap.size w w') => at_any A xs.length c xs k w' (hr.below hb) hx ⟨by omega, by omega⟩)
  have HX := Lib.hid hx
  clear hr hx
  go_enter Try.func11, Try.ntmps11
  go_wp2_with fail
  go_loopw [4, 5] (fun s i wr => ∃ (k : Nat) (R : List (Int × Int)) (W : Option Addr) (nw cw : Nat), k ≤ xs.length ∧ i = .int .i64 k ∧ s = .slice W nw cw ∧ nw ≤ k ∧ Hid (wr.ownsRow w.heap.size 29 2 (.slice W nw cw) nw (R.flatMap pcs)) ∧ Hid (∀ p ∈ R, n64 p.1 ∧ n64 p.2) ∧ Hid (tell xs = (tell (xs.drop k)).map (R ++ ·)) ∧ Hid (Below w.heap.size w wr)) (fun _ i _ => xs.length - (intOf i).toNat)
  case atStart => exact ⟨0, [], none, 0, 0, Nat.zero_le _, rfl, rfl, Nat.le_refl _, Lib.hid (World.ownsRow_nil _ _ _ _), Lib.hid (by simp), Lib.hid (by cases h : tell xs <;> simp [h]), Lib.hid (Below.refl _ _)⟩
  case round =>
    obtain ⟨k, R, W, nw, cw, hk, rfl, rfl, hnw, HO, HN, HT, HV⟩ := hrel
    by_cases hlt : (k : Int) < xs.length
    · have HA := Lib.hid (HAT.out k (by omega) wr HV.out)
      have hne : xs.drop k ≠ [] := by intro e; have := congrArg List.length e; simp at this; omega
      have hat : atI xs (k : Int) = at1 (xs.drop k) := by unfold atI; rw [if_neg (by omega), Int.toNat_natCast]
      rw [hat] at HA
      cases hc : at1 (xs.drop k) with
      | none =>
        have HT2 := Lib.hid (show tell xs = none from by rw [HT.out, tell_none hne hc]; rfl)
        rw [hc] at HA
        have HA2 := Lib.hid (show Calls Try.prog 13 #[.slice A xs.length c, .int .i64 (k : Int)] wr fun e w' => e = .returned (.tuple #[.agg #[.int .i64 0, .int .i64 0], .int .i64 0, .int .i64 19]) ∧ Below wr.heap.size wr w' from HA.out)
        clear HA HT hc hat hne HO HN
        go_wp2_with (go_at_call 13; refine HA2.out.mono ?_; rintro e wb ⟨rfl, hbb⟩; have HVb := Lib.hid (HV.out.trans (hbb.mono HV.out.size)); clear hbb)
        go_ret2
        exact ⟨none, 0, 0, by rw [HT2.out]; rfl, by rw [HT2.out]; exact Prs.nil _, HVb.out.alloc HVb.out.size _⟩
      | some y =>
        obtain ⟨o, a, m⟩ := y
        obtain ⟨m1, m2, o1, o2⟩ := at1_n hc
        have ha := at1_b (fun b hb => HX.out b (List.mem_of_mem_drop hb)) hc
        have hml : k + m ≤ xs.length := by rw [List.length_drop] at m2; omega
        have HT2 := Lib.hid (show tell xs = (tell (xs.drop (k + m))).map ((R ++ [(o, a)]) ++ ·) from by
          rw [HT.out, tell_some hc, List.drop_drop]
          cases tell (xs.drop (k + m)) <;> simp)
        have HN2 := Lib.hid (show ∀ p ∈ R ++ [(o, a)], n64 p.1 ∧ n64 p.2 from fun p hp => by
          rw [List.mem_append, List.mem_singleton] at hp
          rcases hp with hp | rfl
          · exact HN.out p hp
          · exact ⟨⟨by show _ ≤ o; omega, by show o ≤ _; omega⟩, ⟨by show _ ≤ a; omega, by show a ≤ _; omega⟩⟩)
        rw [hc] at HA
        obtain ⟨j, hj⟩ : ∃ j : Nat, j = k + m := ⟨_, rfl⟩
        have HA2 := Lib.hid (show Calls Try.prog 13 #[.slice A xs.length c, .int .i64 (k : Int)] wr fun e w' => e = .returned (.tuple #[.agg #[.int .i64 o, .int .i64 a], .int .i64 (j : Int), .int .i64 0]) ∧ Below wr.heap.size wr w' from HA.out.mono (by
          rintro e w' ⟨rfl, hb⟩
          refine ⟨?_, hb⟩
          show Ending.returned (.tuple #[.agg #[.int .i64 o, .int .i64 a], .int .i64 ((k : Int) + (m : Int)), .int .i64 0]) = _
          rw [show (k : Int) + (m : Int) = (j : Int) from by omega]))
        rw [← hj] at HT2
        have hjl : j ≤ xs.length := by omega
        have hkj : k < j := by omega
        clear HA HT hc hat hne HN m1 m2 o1 o2 ha hml hj
        go_wp2_with (first
          | (go_at_call 13; refine HA2.out.mono ?_; rintro e wb ⟨rfl, hbb⟩; have HVb := Lib.hid (HV.out.trans (hbb.mono HV.out.size)); have HXb := Lib.hid (Blk.new wb 29 [.int .i64 o, .int .i64 a]); have m0 := HXb.out.cell (i := 0) rfl; have m1 := HXb.out.cell (i := 1) rfl; have HOb := Lib.hid (own_belowW HO.out hbb); clear hbb)
          | (at_builtin; refine wpList_append_at rfl (.tmp 23) (.tmp 25) 22 rfl w.heap.size 29 i0 _ 2 16 Try.underlying22 hi0 hz0 hz1 hz2 rfl (by omega) _ nw _ rfl (own_belowW HOb.out (((Below.refl _ _).alloc (Nat.le_refl _) _).alloc (by simp) _)) ⟨wb.heap.size + 1, 0, none⟩ 1 1 (pcs (o, a)) rfl rfl (by have h := new_pcs (wb.alloc (.cells #[.int .i64 o, .int .i64 a] 29)) 29 (o, a); rw [World.size_alloc] at h; exact h) (one_pcs _) (by unfold maxLen; omega) (by omega) (by have := HVb.out.size; simp; omega) ?_; intro A5 n5 c5 w5 hn5 hown5 hg5 hat5; have HV5 := Lib.hid (below_addW ((HVb.out.alloc HVb.out.size (.cells #[.int .i64 o, .int .i64 a] 29)).alloc (by have := HVb.out.size; simp; omega) (.cells #[.int .i64 o, .int .i64 a] 29)) (own_belowW HOb.out (((Below.refl _ _).alloc (Nat.le_refl _) _).alloc (by simp) _)) (Nat.le_refl _) hg5); clear hat5 hg5))
        go_roundw
        case rel => exact ⟨j, R ++ [(o, a)], A5, n5, c5, hjl, by go_num, rfl, by have := hn5.out; omega, Lib.hid (by rw [List.flatMap_append]; exact hown5.out), HN2, HT2, HV5⟩
        case measure => simp [intOf]; omega
    · obtain rfl : k = xs.length := by omega
      have HT2 := Lib.hid (show tell xs = some R from by rw [HT.out, List.drop_eq_nil_of_le (by omega)]; simp [tell])
      have HP := Lib.hid (Prs.own HO.out HN.out)
      clear HT HO HN HX
      go_wp2_with fail
      go_ret2
      exact ⟨W, nw, cw, by rw [HT2.out]; rfl, by rw [HT2.out]; exact HP.out, HV.out⟩
end Go.Proofs.Ytklpkafgmggacaa.OpsN
