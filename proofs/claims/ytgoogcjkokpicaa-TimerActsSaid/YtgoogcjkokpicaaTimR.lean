/- The document's own timers (a list) in memory: Stop, Set, First. Conditions: the list lies as the facts say. -/
import Derived.Test.YtgoogcjkokpicaaTimP
import Derived.Test.YtgoogcjkokpicaaTimQ
namespace Go.Proofs.Ytgoogcjkokpicaa.TimR
open Go.RowKit Go.Proofs.Ytgoogcjkokpicaa.Kit Go.Proofs.Ytgoogcjkokpicaa.Byt Go.Proofs.Ytgoogcjkokpicaa.Mem Go.Proofs.Ytgoogcjkokpicaa.TimM Go.Proofs.Ytgoogcjkokpicaa.TimA Go.Proofs.Ytgoogcjkokpicaa.TimN Go.Proofs.Ytgoogcjkokpicaa.TimQ Go.Proofs.Ytgoogcjkokpicaa.TimL Go.Proofs.Ytgoogcjkokpicaa.TimP

def pcs (p : Int × Int) : List Value := [.int .i64 p.1, .int .i64 p.2]
theorem pcs_at : ∀ (R : Xs) (j : Nat) (p : Int × Int), R[j]? = some p → (R.flatMap pcs)[j * 2]? = some (.int .i64 p.1) ∧ (R.flatMap pcs)[j * 2 + 1]? = some (.int .i64 p.2) := by
  intro R
  induction R with
  | nil => intro j p hj; simp at hj
  | cons q R ih =>
    intro j p hj
    cases j with
    | zero => simp only [List.getElem?_cons_zero, Option.some.injEq] at hj; subst hj; exact ⟨rfl, rfl⟩
    | succ j =>
      rw [List.getElem?_cons_succ] at hj
      have := ih j p hj
      rw [List.flatMap_cons, show (j + 1) * 2 = j * 2 + 2 from by omega]
      exact this
theorem pcs_len (R : Xs) : (R.flatMap pcs).length = R.length * 2 := by
  induction R with
  | nil => rfl
  | cons p R ih =>
    rw [List.flatMap_cons, List.length_append, ih, List.length_cons]
    show 2 + R.length * 2 = _
    omega
/-- The slice at A reads as these. -/
def On (w : World) (A : Option Addr) (n c : Nat) (X : Xs) : Prop :=
  X.length = n ∧ n ≤ c ∧ c ≤ 9223372036854775807 ∧
  (0 < n → ∃ b o, A = some ⟨b, o, none⟩ ∧ b < w.heap.size ∧ ∀ k p, X[k]? = some p → w.cell? ⟨b, o + k * 2, none⟩ = some (.int .i64 p.1) ∧ w.cell? ⟨b, o + k * 2 + 1, none⟩ = some (.int .i64 p.2))
section
variable {w w' : World} {A : Option Addr} {n c : Nat} {X : Xs} {H : Nat → Prop}
theorem On.nil (w : World) : On w none 0 0 [] := ⟨rfl, by omega, by omega, fun h => by omega⟩
theorem On.keep (h : On w A n c X) (hk : Keep H w w') (hH : 0 < n → ∀ b o, A = some ⟨b, o, none⟩ → ¬ H b) : On w' A n c X :=
  ⟨h.1, h.2.1, h.2.2.1, fun hp => by
    obtain ⟨b, o, hA, hb, hc⟩ := h.2.2.2 hp
    have hblk := hk.block b hb (hH hp b o hA)
    exact ⟨b, o, hA, by have := hk.size; omega, fun k p hp => by
      obtain ⟨h1, h2⟩ := hc k p hp
      exact ⟨(World.cell?_of_block hblk).trans h1, (World.cell?_of_block hblk).trans h2⟩⟩⟩
theorem On.below (h : On w A n c X) (hb : Below w.heap.size w w') : On w' A n c X := h.keep (H := fun _ => False) (Keep.of_below hb) fun _ _ _ _ h => h
theorem On.at_ (h : On w A n c X) {k : Nat} (hk : k < n) : ∃ (p : Int × Int) (b o : Nat), X[k]? = some p ∧ A = some ⟨b, o, none⟩ ∧ b < w.heap.size ∧ w.cell? ⟨b, o + k * 2, none⟩ = some (.int .i64 p.1) ∧ w.cell? ⟨b, o + k * 2 + 1, none⟩ = some (.int .i64 p.2) := by
  obtain ⟨b, o, hA, hb, hc⟩ := h.2.2.2 (by omega)
  have hl : k < X.length := by rw [h.1]; exact hk
  have hp := List.getElem?_eq_getElem hl
  exact ⟨X[k], b, o, hp, hA, hb, hc k _ hp⟩
theorem On.own {base : Nat} {e : TypeId} (h : w.ownsRow base e 2 (.slice A n c) n (X.flatMap pcs)) : On w A n c X := by
  have hl : X.length = n := by have := h.1; rw [pcs_len] at this; omega
  rcases h.2 with ⟨hv, h0⟩ | ⟨g, cap', cur, hv, _, hh, hnc, hcm, hcs, htk⟩
  · simp only [Value.slice.injEq] at hv
    obtain ⟨rfl, rfl, rfl⟩ := hv
    exact ⟨hl, by omega, by omega, fun h => by omega⟩
  · simp only [Value.slice.injEq] at hv
    obtain ⟨rfl, _, rfl⟩ := hv
    unfold maxLen at hcm
    have hcell : ∀ i u, (X.flatMap pcs)[i]? = some u → w.cell? ⟨g, 0 + i, none⟩ = some u := by
      intro i u hu
      rw [← htk, List.getElem?_take] at hu
      split at hu
      · rw [Nat.zero_add]
        have h3 : cur.toList.toArray = cur := by simp
        exact (show Blk w g e cur.toList from by unfold Blk; rw [h3]; exact hh).cell hu
      · cases hu
    refine ⟨hl, by omega, by omega, fun _ => ⟨g, 0, rfl, lt_of_block hh, fun j p hj => ?_⟩⟩
    obtain ⟨h1, h2⟩ := pcs_at X j p hj
    exact ⟨hcell _ _ h1, by have := hcell _ _ h2; rw [← Nat.add_assoc] at this; exact this⟩
end
theorem info_one : (Try.prog.info? 43).map (fun i => (i.zero, i.size, i.bytes)) = some (some (.agg #[.int .i64 0, .int .i64 0]), 2, 16) := by kernel_rfl
theorem one_pcs (p : Int × Int) : ∀ u ∈ pcs p, u.oneCell' = true := by
  intro u hu
  simp only [pcs, List.mem_cons, List.not_mem_nil, or_false] at hu
  rcases hu with rfl | rfl <;> rfl
section
variable {P : Program} {ops : Array Oper} {rest : List Oper} {o : Oper} {a : Act} {w : World} {Q : Exit → Act → World → Prop}
theorem wpList_append_at (hgd : o.guard = none) (s x : Operand) (t : TypeId)
    (ho : o.op = .call { callee := .builtin .append, args := #[s, x], argTypes := #[t, t] })
    (base : Nat) (e : TypeId) (i : TypeInfo) (z : Value) (size bytes : Nat) (ht : P.underlying t = some (.slice e)) (hi : P.info? e = some i) (hz : i.zero = some z)
    (hsize : i.size = size) (hby : i.bytes = bytes) (hzs : z.cells.size = size) (hsz : 0 < size)
    (v : Value) (n : Nat) (xs : List Value) (hs : a.eval s = v) (hown : w.ownsRow base e size v n xs)
    (ad : Addr) (m c : Nat) (news : List Value) (hx : a.eval x = .slice (some ad) m c) (hl : news.length = m * size) (hnews : ∀ j u, news[j]? = some u → w.cell? (ad.add j) = some u) (h1 : ∀ u ∈ news, u.oneCell' = true)
    (h63 : n + m ≤ maxLen) (hbytes : (n + m) * bytes ≤ 140737488355328) (hbase : base ≤ w.heap.size)
    (h : ∀ A' n' c' w', Hid (n' = n + m) → Hid (w'.ownsRow base e size (.slice A' n' c') n' (xs ++ news)) → w.grownBy w' v.ownBlock → Hid ((Value.slice A' n' c').ownBlock = v.ownBlock ∨ (Value.slice A' n' c').ownBlock = some w.heap.size) → wpList P ops Q rest (a.put o.dst (.slice A' n' c')) w') : wpList P ops Q (o :: rest) a w :=
  wpList_plain hgd fun _ hK => wp_append_at s x t ho base e i z size bytes ht hi hz hsize hby hzs hsz v n xs hs hown ad m c news hx hl hnews h1 h63 hbytes hbase fun A' n' c' w' h2 h3 h4 h5 => hK _ _ (h A' n' c' w' h2 h3 h4 h5)
end
theorem new_pcs (w : World) (T : TypeId) (p : Int × Int) : ∀ j u, (pcs p)[j]? = some u → (w.alloc (.cells #[.int .i64 p.1, .int .i64 p.2] T)).cell? ((⟨w.heap.size, 0, none⟩ : Addr).add j) = some u := fun j u hu => by
  rw [Addr.add_lit, Nat.zero_add]
  exact (Blk.new w T (pcs p)).cell hu
theorem below_addW {w0 w w' : World} {v : Value} {base size : Nat} {e : TypeId} {n : Nat} {xs : List Value} (hb : Below w0.heap.size w0 w) (hown : w.ownsRow base e size v n xs) (hbase : w0.heap.size ≤ base) (hg : w.grownBy w' v.ownBlock) : Below w0.heap.size w0 w' :=
  hb.grown hg hb.size fun k hk => by have := hown.lt k hk; omega
theorem own_belowW {w w' : World} {v : Value} {base size : Nat} {e : TypeId} {n : Nat} {xs : List Value} (h : w.ownsRow base e size v n xs) (hb : Below w.heap.size w w') : w'.ownsRow base e size v n xs :=
  h.kept (row := none) ⟨hb.os, hb.tape, hb.output, hb.size, fun k hk _ => hb.block k hk⟩ (by
    rcases hv : v.ownBlock with _ | g
    · exact .inl rfl
    · exact .inr (by simp))
/-- What is handed back is new memory with these. -/
def NewO (w : World) (X : Xs) (e : Ending) (w' : World) : Prop := ∃ A n c, e = .returned (.slice A n c) ∧ w'.ownsRow w.heap.size 43 2 (.slice A n c) n (X.flatMap pcs) ∧ Below w.heap.size w w'
theorem stop_len_le (X : Xs) (k : Int) : (stopX X k).length ≤ X.length := List.length_filter_le _ _
set_option maxRecDepth 100000 in
set_option maxHeartbeats 3200000 in
theorem rstop_any {A : Option Addr} {n c : Nat} {X : Xs} {w : World} (h : On w A n c X) (hn : n ≤ 1000) (k : Int) : Calls Try.prog 11 #[.slice A n c, .int .i64 k] w (NewO w (stopX X k)) := by
  obtain ⟨i0, hi0, hz0, hz1, hz2⟩ := info_parts info_one
  have HX := Lib.hid h
  have HLX := Lib.hid h.1
  clear h
  go_enter Try.func11, Try.ntmps11
  go_wp2
  go_loopw [5, 6] (fun s i wr => ∃ (j : Nat) (W : Option Addr) (nw cw : Nat), j ≤ n ∧ i = .int .i64 j ∧ s = .slice W nw cw ∧ nw ≤ j ∧ Hid (wr.ownsRow w.heap.size 43 2 (.slice W nw cw) nw ((stopX (X.take j) k).flatMap pcs)) ∧ Hid (Below w.heap.size w wr)) (fun _ i _ => n - (intOf i).toNat)
  case atStart => exact ⟨0, none, 0, 0, Nat.zero_le _, rfl, rfl, Nat.le_refl _, Lib.hid (World.ownsRow_nil _ _ _ _), Lib.hid (Below.refl _ _)⟩
  case round =>
    obtain ⟨j, W, nw, cw, hj, rfl, rfl, hnw, HO, HV⟩ := hrel
    by_cases hlt : j < n
    · obtain ⟨p, b, o, hp, rfl, hb, g1, g2⟩ := (HX.out.below HV.out).at_ hlt
      have htk : X.take (j + 1) = X.take j ++ [p] := by
        obtain ⟨hl, he⟩ := List.getElem?_eq_some_iff.1 hp
        rw [List.take_succ_eq_append_getElem hl, he]
      by_cases he : p.1 = k
      · have hd : (p.1 != k) = false := by simp [he]
        have HS := Lib.hid (show stopX (X.take (j + 1)) k = stopX (X.take j) k from by rw [htk, stop_app]; simp [stopX, he])
        clear htk hp he
        go_wp2
        go_roundw
        case rel => exact ⟨j + 1, W, nw, cw, by omega, by go_num, rfl, by omega, Lib.hid (by rw [HS.out]; exact HO.out), HV⟩
        case measure => simp [intOf]; omega
      · have hd : (p.1 != k) = true := by simpa using he
        have HS := Lib.hid (show stopX (X.take (j + 1)) k = stopX (X.take j) k ++ [p] from by rw [htk, stop_app]; simp [stopX, he])
        clear htk hp he
        go_wp2_with (at_builtin; refine wpList_append_at rfl (.tmp 20) (.tmp 25) 26 rfl w.heap.size 43 i0 _ 2 16 Try.underlying26 hi0 hz0 hz1 hz2 rfl (by omega) _ nw _ rfl (own_belowW HO.out ((Below.refl _ _).alloc (Nat.le_refl _) _)) ⟨wr.heap.size, 0, none⟩ 1 1 (pcs p) rfl rfl (new_pcs wr 43 p) (one_pcs _) (by unfold maxLen; omega) (by omega) (by have := HV.out.size; simp; omega) ?_; intro A5 n5 c5 w5 hn5 hown5 hg5 hat5; have HV5 := Lib.hid (below_addW (HV.out.alloc HV.out.size (.cells #[.int .i64 p.1, .int .i64 p.2] 43)) (own_belowW HO.out ((Below.refl _ _).alloc (Nat.le_refl _) _)) (Nat.le_refl _) hg5); clear hg5 hat5)
        go_roundw
        case rel => exact ⟨j + 1, A5, n5, c5, by omega, by go_num, rfl, by have := hn5.out; omega, Lib.hid (by rw [HS.out, List.flatMap_append]; have := hown5.out; simpa using this), HV5⟩
        case measure => simp [intOf]; omega
    · obtain rfl : j = n := by omega
      have HS := Lib.hid (show X.take j = X from List.take_of_length_le (by rw [HLX.out]; exact Nat.le_refl _))
      go_wp2
      go_ret
      exact ⟨W, nw, cw, rfl, by have := HO.out; rw [HS.out] at this; exact this, HV.out⟩
set_option maxRecDepth 100000 in
set_option maxHeartbeats 3200000 in
theorem rset_any {A : Option Addr} {n c : Nat} {X : Xs} {w : World} (h : On w A n c X) (hn : n ≤ 1000) (k t : Int) : Calls Try.prog 10 #[.slice A n c, .int .i64 k, .int .i64 t] w (NewO w (setX X k t)) := by
  obtain ⟨i0, hi0, hz0, hz1, hz2⟩ := info_parts info_one
  have HS := Lib.hid (rstop_any h hn k)
  have HL := Lib.hid (show (stopX X k).length ≤ 1000 from by have := stop_len_le X k; have := h.1; omega)
  clear h
  go_enter Try.func10, Try.ntmps10
  go_wp2_with fail
  refine HS.out.mono ?_
  rintro e w1 ⟨A1, n1, c1, rfl, ho, hb⟩
  have HO := Lib.hid ho
  have HB := Lib.hid hb
  have hn1 : n1 ≤ 1000 := by have := ho.1; rw [pcs_len] at this; have := HL.out; omega
  clear ho hb HS
  go_wp2_with (at_builtin; refine wpList_append_at rfl (.tmp 9) (.tmp 13) 26 rfl w.heap.size 43 i0 _ 2 16 Try.underlying26 hi0 hz0 hz1 hz2 rfl (by omega) _ n1 _ rfl (own_belowW HO.out ((Below.refl _ _).alloc (Nat.le_refl _) _)) ⟨w1.heap.size, 0, none⟩ 1 1 (pcs (k, t)) rfl rfl (new_pcs w1 43 (k, t)) (one_pcs _) (by unfold maxLen; omega) (by omega) (by have := HB.out.size; simp; omega) ?_; intro A5 n5 c5 w5 hn5 hown5 hg5 hat5; have HV5 := Lib.hid (below_addW (HB.out.alloc HB.out.size (.cells #[.int .i64 k, .int .i64 t] 43)) (own_belowW HO.out ((Below.refl _ _).alloc (Nat.le_refl _) _)) (Nat.le_refl _) hg5); clear hg5 hat5)
  go_ret
  exact ⟨A5, n5, c5, rfl, by unfold setX; rw [List.flatMap_append]; have := hown5.out; simpa using this, HV5.out⟩
end Go.Proofs.Ytgoogcjkokpicaa.TimR
