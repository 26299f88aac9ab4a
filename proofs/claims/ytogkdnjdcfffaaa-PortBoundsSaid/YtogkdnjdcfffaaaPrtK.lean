/- A slice of numbers of the law's own that is cut from the front and grows at its end. Conditions: what each law names. -/
import Derived.Test.YtogkdnjdcfffaaaPrtQ
import Derived.ArgAppend
namespace Go.Proofs.Ytogkdnjdcfffaaa.PrtK
open Go.RowKit Go.Proofs.Ytogkdnjdcfffaaa.Kit Go.Proofs.Ytogkdnjdcfffaaa.Byt Go.Proofs.Ytogkdnjdcfffaaa.Mem Go.Proofs.Ytogkdnjdcfffaaa.TabI Go.Proofs.Ytogkdnjdcfffaaa.PrtM Go.Proofs.Ytogkdnjdcfffaaa.PrtA Go.Proofs.Ytogkdnjdcfffaaa.PrtB Go.Proofs.Ytogkdnjdcfffaaa.PrtC Go.Proofs.Ytogkdnjdcfffaaa.PrtD Go.Proofs.Ytogkdnjdcfffaaa.PrtQ
open Go.Proofs.Ytogkdnjdcfffaaa.TabA (Tri Tris Ta)
open Go.Proofs.Ytogkdnjdcfffaaa.TabB (Bx)

/-- The slice has these numbers, in a block of its own from B2 on, to which nothing else is there. -/
def Win (B2 : Nat) (w : World) (ρ : Nat → Lab) (A : Option Addr) (n c : Nat) (xs : List Int) : Prop :=
  xs.length = n ∧ n ≤ c ∧ c ≤ 9223372036854775807 ∧ (c = 0 ∨ ∃ g o cur, A = some ⟨g, o, none⟩ ∧ B2 ≤ g ∧ ρ g = .out ∧ Blk w g 3 cur ∧ o + c ≤ cur.length ∧ (cur.drop o).take n = i64s xs)
section
variable {B2 n c g : Nat} {w w' : World} {ρ : Nat → Lab} {A : Option Addr} {xs : List Int} {x : Int}
theorem Win.start (B2 : Nat) (w : World) (ρ : Nat → Lab) : Win B2 w ρ none 0 0 [] := ⟨rfl, Nat.le_refl _, by omega, .inl rfl⟩
theorem Win.carry {ρ' : Nat → Lab} {F : Nat → Prop} (h : Win B2 w ρ A n c xs) (hk : Keep F w w') (hF : ∀ g, B2 ≤ g → ρ g = .out → ¬ F g) (ho : ∀ i, i < w.heap.size → ρ' i = ρ i) : Win B2 w' ρ' A n c xs := by
  obtain ⟨h1, h2, h3, h4⟩ := h
  refine ⟨h1, h2, h3, h4.imp id ?_⟩
  rintro ⟨g, o, cur, rfl, hb, hl, hB, hc, ht⟩
  exact ⟨g, o, cur, rfl, hb, by rw [ho g hB.lt]; exact hl, hk.blk hB (hF g hb hl), hc, ht⟩
theorem Win.below (h : Win B2 w ρ A n c xs) (hb : Below w.heap.size w w') : Win B2 w' ρ A n c xs := h.carry (F := fun _ => False) (Keep.of_below hb) (fun _ _ _ => id) fun _ _ => rfl
theorem win_own {v : Value} (h : w.ownsRow g 3 1 v n (i64s xs)) (hg : B2 ≤ g) (ho : ∀ i, g ≤ i → ρ i = .out) : ∃ A c, v = .slice A n c ∧ Win B2 w ρ A n c xs := by
  have hl := own_len h
  rcases h.2 with ⟨hv, h0⟩ | ⟨g', cap, cur, hv, hb, hh, hnc, hcm, hcs, ht⟩
  · exact ⟨none, 0, by rw [hv, h0], hl, by omega, by omega, .inl rfl⟩
  · unfold maxLen at hcm
    rw [Nat.mul_one] at hcs ht
    exact ⟨_, cap, hv, hl, hnc, by omega, .inr ⟨g', 0, cur.toList, rfl, by omega, ho g' hb, by unfold Blk; rw [hh], by simp; omega, by rw [List.drop_zero]; exact ht⟩⟩
theorem run_win (h : Win B2 w ρ A n c xs) (hn : n ≤ 1000) (t ty : TypeId) (i : TypeInfo) (ht : Try.prog.underlying t = some (.slice 3)) (hi : Try.prog.info? 3 = some i) (hz : i.zero = some (.int .i64 0)) (hsize : i.size = 1) (hby : i.bytes = 8)
    (ad : Addr) (cc : Nat) (hx : w.cell? ad = some (.int .i64 x)) (hB : B2 ≤ w.heap.size) (ho : ∀ i, w.heap.size ≤ i → ρ i = .out) :
    ∃ A' c' w', (Builtin.append_ #[t, t] ty #[.slice A n c, .slice (some ad) 1 cc]).run Try.prog w = .ok (.slice A' (n + 1) c') w' ∧ Win B2 w' ρ A' (n + 1) c' (xs ++ [x]) ∧ Keep (fun i => B2 ≤ i ∧ ρ i = .out) w w' := by
  obtain ⟨h1, h2, h3, h4⟩ := h
  have hnews : ∀ j u, [Value.int .i64 x][j]? = some u → w.cell? (ad.add j) = some u := fun j u hu => by
    match j, hu with
    | 0, hu =>
      simp at hu
      subst hu
      simpa [Addr.add] using hx
  have fin : ∀ v' w', (Builtin.append_ #[t, t] ty #[.slice A n c, .slice (some ad) 1 cc]).run Try.prog w = .ok v' w' → w'.ownsRow w.heap.size 3 1 v' (n + 1) (i64s (xs ++ [x])) → w.grownBy w' none →
      ∃ A' c' w', (Builtin.append_ #[t, t] ty #[.slice A n c, .slice (some ad) 1 cc]).run Try.prog w = .ok (.slice A' (n + 1) c') w' ∧ Win B2 w' ρ A' (n + 1) c' (xs ++ [x]) ∧ Keep (fun i => B2 ≤ i ∧ ρ i = .out) w w' := by
    intro v' w' hr hown hg
    obtain ⟨A', c', rfl, hw⟩ := win_own hown hB ho
    exact ⟨A', c', w', hr, hw, Keep.grown hg fun k hk => by cases hk⟩
  have grow : ∀ (b : Addr), A = some b → c < n + 1 → (∀ j u, (i64s xs)[j]? = some u → w.cell? (b.add j) = some u) →
      ∃ A' c' w', (Builtin.append_ #[t, t] ty #[.slice A n c, .slice (some ad) 1 cc]).run Try.prog w = .ok (.slice A' (n + 1) c') w' ∧ Win B2 w' ρ A' (n + 1) c' (xs ++ [x]) ∧ Keep (fun i => B2 ≤ i ∧ ρ i = .out) w w' := by
    intro b hA hc holds
    subst hA
    obtain ⟨v', w', hr, hown, hg⟩ := run_append_arg_grows (P := Try.prog) w t ty 3 i (.int .i64 0) 1 8 ht hi hz hsize hby rfl (by omega) b n c (i64s xs) (by rw [i64s_len, h1, Nat.mul_one]) holds ad 1 cc [.int .i64 x] rfl hnews hc (by unfold maxLen; omega) (by omega)
    exact fin v' w' hr (by rw [← i64s_app]; exact hown) hg
  rcases h4 with rfl | ⟨g, o, cur, rfl, hb, hl, hBk, hc, htk⟩
  · obtain rfl : n = 0 := by omega
    obtain rfl : xs = [] := List.eq_nil_of_length_eq_zero h1
    cases A with
    | none =>
      obtain ⟨v', w', hr, h5, h6, _⟩ := run_append_own_at (P := Try.prog) (w := w) w.heap.size t ty 3 i (.int .i64 0) 1 8 ht hi hz hsize hby rfl (by omega) (.slice none 0 0) 0 [] (World.ownsRow_nil _ _ _ _) ad 1 cc [.int .i64 x] rfl hnews (by simp [Value.oneCell']) (by unfold maxLen; omega) (by omega) (Nat.le_refl _)
      exact fin v' w' hr h5 h6
    | some b => exact grow b rfl (by omega) (fun j u hu => by simp [i64s] at hu)
  · by_cases hroom : n + 1 ≤ c
    · have hcell : ∀ j, j < [Value.int .i64 x].length → (w.cell? ⟨g, o + n * i.size + j, none⟩).isSome = true := fun j hj => by
        have hj0 : j = 0 := by simpa using hj
        subst hj0
        rw [hsize, Nat.mul_one]
        have hlt : o + n < cur.length := by omega
        rw [hBk.cell (i := o + n + 0) (List.getElem?_eq_getElem hlt)]
        rfl
      have hr := run_append_room_cells (P := Try.prog) w t ty 3 i ht hi g o n c ad 1 cc [.int .i64 x] (by rw [hsize]; rfl) hnews (by simp [Value.oneCell']) hroom hcell (fun j _ => hBk.frozen _)
      rw [hsize, Nat.mul_one] at hr
      refine ⟨_, _, _, hr, ⟨by rw [List.length_append, h1]; rfl, hroom, h3, .inr ⟨g, o, cur.set (o + n) (.int .i64 x), rfl, hb, hl, hBk.set _ _, by rw [List.length_set]; exact hc, ?_⟩⟩, (Keep.set (F := fun i => B2 ≤ i ∧ ρ i = .out) w (o + n) (.int .i64 x) ⟨hb, hl⟩)⟩
      rw [← i64s_app, ← htk]
      have hlt : n < (cur.drop o).length := by rw [List.length_drop]; omega
      have hset : (cur.set (o + n) (.int .i64 x)).drop o = (cur.drop o).set n (.int .i64 x) := by
        rw [List.drop_set]
        rw [if_neg (by omega), show o + n - o = n by omega]
      rw [hset, List.take_succ_eq_append_getElem (by rw [List.length_set]; exact hlt), List.take_set, List.getElem_set_self]
      rw [List.set_eq_of_length_le (by rw [List.length_take]; omega)]
      rfl
    · refine grow _ rfl (by omega) fun j u hu => ?_
      rw [Addr.add_lit]
      have hj : j < n := by have := (List.getElem?_eq_some_iff.1 hu).1; rw [i64s_len] at this; omega
      refine hBk.cell ?_
      rw [← htk, List.getElem?_take, if_pos hj, List.getElem?_drop] at hu
      exact hu
theorem wpList_win {ops : Array Oper} {rest : List Oper} {o : Oper} {a : Act} {K : Exit → Act → World → Prop} (hgd : o.guard = none) (s y : Operand) (t : TypeId) (hop : o.op = .call { callee := .builtin .append, args := #[s, y], argTypes := #[t, t] })
    (i : TypeInfo) (ht : Try.prog.underlying t = some (.slice 3)) (hi : Try.prog.info? 3 = some i) (hz : i.zero = some (.int .i64 0)) (hsize : i.size = 1) (hby : i.bytes = 8)
    (hs : a.eval s = .slice A n c) (h : Win B2 w ρ A n c xs) (hn : n ≤ 1000) (ad : Addr) (cc : Nat) (hy : a.eval y = .slice (some ad) 1 cc) (hx : w.cell? ad = some (.int .i64 x)) (hB : B2 ≤ w.heap.size) (ho : ∀ i, w.heap.size ≤ i → ρ i = .out)
    (hK : ∀ A' n' c' w', Hid (n' = n + 1) → Hid (Win B2 w' ρ A' n' c' (xs ++ [x])) → Hid (Keep (fun i => B2 ≤ i ∧ ρ i = .out) w w') → wpList Try.prog ops K rest (a.put o.dst (.slice A' n' c')) w') : wpList Try.prog ops K (o :: rest) a w := by
  refine wpList_plain hgd fun K2 hK2 => ?_
  obtain ⟨A', c', w', hr, hw, hk⟩ := run_win h hn t o.type i ht hi hz hsize hby ad cc hx hB ho
  unfold Oper.wp execOp
  simp only [hop, resolve, invoke, builtin, Sem.run_bind, Sem.run_pure, Result.andThen_ok, List.map_toArray, List.map_cons, List.map_nil, hs, hy, hr]
  exact hK2 _ _ (hK A' (n + 1) c' w' (Lib.hid rfl) (Lib.hid hw) (Lib.hid hk))
/-- The first one is cut off. -/
theorem Win.cut {l : List Int} (h : Win B2 w ρ A n c (x :: l)) : ∃ g o, A = some ⟨g, o, none⟩ ∧ 0 < c ∧ w.cell? ⟨g, o, none⟩ = some (.int .i64 x) ∧ Win B2 w ρ (if c = 1 then some ⟨g, o, none⟩ else some ⟨g, o + 1, none⟩) (n - 1) (c - 1) l := by
  obtain ⟨h1, h2, h3, h4⟩ := h
  simp only [List.length_cons] at h1
  rcases h4 with rfl | ⟨g, o, cur, rfl, hb, hl, hBk, hc, htk⟩
  · omega
  · have hcell : ∀ (j : Nat) (u : Value), (i64s (x :: l))[j]? = some u → cur[o + j]? = some u := fun j u hu => by
      have hj : j < n := by have := (List.getElem?_eq_some_iff.1 hu).1; rw [i64s_len] at this; simp at this; omega
      rw [← htk, List.getElem?_take, if_pos hj, List.getElem?_drop] at hu
      exact hu
    refine ⟨g, o, rfl, by omega, hBk.cell (hcell 0 _ rfl), by omega, by omega, by omega, ?_⟩
    by_cases hc1 : c = 1
    · exact .inl (by omega)
    · rw [if_neg hc1]
      refine .inr ⟨g, o + 1, cur, rfl, hb, hl, hBk, by omega, ?_⟩
      have h5 : (cur.drop o).take n = .int .i64 x :: i64s l := htk
      have h6 := congrArg (List.drop 1) h5
      rw [List.drop_take, List.drop_drop] at h6
      exact h6
/-- Its last one. -/
theorem Win.last (h : Win B2 w ρ A n c xs) (hp : 0 < n) : ∃ g o x, A = some ⟨g, o, none⟩ ∧ xs[n - 1]? = some x ∧ w.cell? ⟨g, o + (n - 1), none⟩ = some (.int .i64 x) := by
  obtain ⟨h1, h2, h3, h4⟩ := h
  rcases h4 with rfl | ⟨g, o, cur, rfl, hb, hl, hBk, hc, htk⟩
  · omega
  · have hlt : n - 1 < xs.length := by omega
    refine ⟨g, o, xs[n - 1], rfl, List.getElem?_eq_getElem hlt, hBk.cell ?_⟩
    have hu : (i64s xs)[n - 1]? = some (.int .i64 xs[n - 1]) := by simp [i64s, hlt]
    rw [← htk, List.getElem?_take, if_pos (by omega), List.getElem?_drop] at hu
    exact hu
theorem below_undrew {B : Nat} {a b : World} (h : Below B a.drew b) : Below B a b := ⟨h.os, h.tape, h.output, h.size, h.block⟩
theorem and16 (n : Int) : bits .and .i64 n 65535 = n % 65536 := by
  have h3 : (BitVec.ofInt 64 65535).toNat = 2 ^ 16 - 1 := by decide
  have key : (BitVec.ofInt 64 n &&& BitVec.ofInt 64 65535).toNat = (n % ((2 ^ 64 : Nat) : Int)).toNat % 2 ^ 16 := by
    rw [BitVec.toNat_and, BitVec.toNat_ofInt, h3, Nat.and_two_pow_sub_one_eq_mod]
  show IntKind.i64.wrap ((BitVec.ofInt 64 n &&& BitVec.ofInt 64 65535).toNat : Nat) = n % 65536
  rw [key, IntKind.wrap_i64]
  omega
/-- The slice has grown; nothing else has changed. -/
theorem Wd.win {B S m cc : Nat} {w0 : World} {t : Ta} {A' : Option Addr} {Q : Nat → Nat} {C : List Tri} {L : Nat → List Int} (h : Wd B w0 t w ρ S A' m cc Q C L) (hk : Keep (fun i => B2 ≤ i ∧ ρ i = .out) w w') (hB : B ≤ B2) : Wd B w0 t w' ρ S A' m cc Q C L := by
  have hlo := h.lo
  have hs : Stp (fun l => l = .out) w ρ w' ρ := ⟨hk.mono fun i _ hi => hi.2, fun _ _ => rfl, fun i hi => .inl (Classical.byContradiction fun hn => by have := (h.chs.bd i hn).2; omega)⟩
  refine ⟨h.chs.carry hs (by simp) (by simp) (by simp) (by simp), ⟨hk.blk h.bx.blk (by omega), h.bx.bel.trans ((hk.below (B := w0.heap.size) (fun i hi => by omega) h.bx.bel.size))⟩, h.lo⟩
end
end Go.Proofs.Ytogkdnjdcfffaaa.PrtK
