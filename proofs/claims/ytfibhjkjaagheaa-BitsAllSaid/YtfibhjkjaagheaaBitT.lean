/- The runs of a set, as the program tells them. Conditions: numbers are 64-bit ones. -/
import Derived.Test.YtfibhjkjaagheaaBitS
namespace Go.Proofs.Ytfibhjkjaagheaa.BitT
open Go.RowKit Go.Shelf Go.Proofs.Ytfibhjkjaagheaa.Kit Go.Proofs.Ytfibhjkjaagheaa.Mem Go.Proofs.Ytfibhjkjaagheaa.BitM Go.Proofs.Ytfibhjkjaagheaa.BitA Go.Proofs.Ytfibhjkjaagheaa.BitB Go.Proofs.Ytfibhjkjaagheaa.BitC Go.Proofs.Ytfibhjkjaagheaa.BitR Go.Proofs.Ytfibhjkjaagheaa.BitO Go.Proofs.Ytfibhjkjaagheaa.BitP Go.Proofs.Ytfibhjkjaagheaa.BitS

attribute [local go_sem] Oper.semAt_some

/-- The runs of numbers that came one by one. -/
def rof (l : List Int) : List (Int × Int) := l.foldl ext []
theorem rof_snoc (l : List Int) (x : Int) : rof (l ++ [x]) = ext (rof l) x := by simp [rof]
theorem runs_rof (s : Int) (k : Nat) : runs s k = rof (hv s k) := by
  induction k with
  | zero => rfl
  | succ k ih =>
    rw [hv_succ]
    show (if hb s k then ext (runs s k) k else runs s k) = _
    rw [ih]
    cases hb s k
    · rw [if_neg (by simp), if_neg (by simp), List.append_nil]
    · rw [if_pos rfl, if_pos rfl, rof_snoc]
/-- The block behind the last run. -/
def nxt (l : List Int) : Int := match l.getLast? with | some x => x + 1 | none => -1
theorem nxt_snoc (l : List Int) (x : Int) : nxt (l ++ [x]) = x + 1 := by unfold nxt; rw [List.getLast?_append]; rfl
theorem en_ext (R : List (Int × Int)) (k : Int) : ext R k ≠ [] ∧ en (ext R k) = k + 1 := by
  rcases List.eq_nil_or_concat R with rfl | ⟨Q, ⟨a, n⟩, hR⟩
  · exact ⟨by simp [ext], rfl⟩
  · rw [List.concat_eq_append] at hR
    subst hR
    by_cases h : a + n = k
    · subst h
      rw [ext_join, en_snoc]
      exact ⟨by simp, by omega⟩
    · rw [ext_new Q a n k h, en_snoc]
      exact ⟨by simp, rfl⟩
/-- A further block joins the last run, or begins one. -/
theorem rof_next (l : List Int) (x : Int) (hx : 0 ≤ x) :
    (x = nxt l ∧ ∃ Q a n, rof l = Q ++ [(a, n)] ∧ rof (l ++ [x]) = Q ++ [(a, n + 1)]) ∨ (x ≠ nxt l ∧ rof (l ++ [x]) = rof l ++ [(x, 1)]) := by
  rw [rof_snoc]
  rcases List.eq_nil_or_concat l with rfl | ⟨m, y, hl⟩
  · exact .inr ⟨by show x ≠ -1; omega, rfl⟩
  · rw [List.concat_eq_append] at hl
    subst hl
    rw [nxt_snoc]
    obtain ⟨h1, h2⟩ := en_ext (rof m) y
    rw [← rof_snoc] at h1 h2
    rcases List.eq_nil_or_concat (rof (m ++ [y])) with hn | ⟨Q, ⟨a, n⟩, hR⟩
    · exact absurd hn h1
    · rw [List.concat_eq_append] at hR
      rw [hR, en_snoc] at h2
      rw [hR]
      by_cases h : x = y + 1
      · subst h
        exact .inl ⟨rfl, Q, a, n, rfl, by rw [← h2]; exact ext_join Q a n⟩
      · exact .inr ⟨h, by rw [ext_new Q a n x (by omega)]⟩
theorem snoc_ind {α : Type} {P : List α → Prop} (h0 : P []) (h1 : ∀ l x, P l → P (l ++ [x])) : ∀ l, P l := by
  have key : ∀ (n : Nat) (l : List α), l.length = n → P l := by
    intro n
    induction n with
    | zero => intro l h; rw [List.eq_nil_of_length_eq_zero h]; exact h0
    | succ n ih =>
      intro l h
      rcases List.eq_nil_or_concat l with rfl | ⟨m, y, hl⟩
      · simp at h
      · rw [List.concat_eq_append] at hl
        subst hl
        exact h1 m y (ih m (by simp at h; omega))
  exact fun l => key _ l rfl
def Fit (c : Nat) (R : List (Int × Int)) : Prop := R.length ≤ c ∧ ∀ p ∈ R, 0 ≤ p.2 ∧ p.2 ≤ c
theorem rof_fit (l : List Int) : Fit l.length (rof l) := by
  refine snoc_ind (P := fun l => Fit l.length (rof l)) ⟨Nat.le_refl _, fun p hp => by cases hp⟩ (fun l x ih => ?_) l
  · rw [rof_snoc, List.length_append]
    obtain ⟨i1, i2⟩ := ih
    rcases List.eq_nil_or_concat (rof l) with hn | ⟨Q, ⟨a, n⟩, hR⟩
    · rw [hn]
      exact ⟨by simp [ext], fun p hp => by simp [ext] at hp; subst hp; simp; omega⟩
    · rw [List.concat_eq_append] at hR
      rw [hR] at i1 i2 ⊢
      by_cases h : a + n = x
      · subst h
        rw [ext_join]
        refine ⟨by simp at i1 ⊢; omega, fun p hp => ?_⟩
        rw [List.mem_append] at hp
        rcases hp with hp | hp
        · have := i2 p (by simp [hp]); simp; omega
        · have := i2 (a, n) (by simp); simp at hp; subst hp; simp at this ⊢; omega
      · rw [ext_new Q a n x h]
        refine ⟨by simp at i1 ⊢; omega, fun p hp => ?_⟩
        rw [List.mem_append] at hp
        rcases hp with hp | hp
        · have := i2 p hp; simp; omega
        · simp at hp; subst hp; simp; omega
/-- Runs, as cells. -/
def cel : List (Int × Int) → List Value
  | [] => []
  | p :: R => .int .i64 p.1 :: .int .i64 p.2 :: cel R
theorem cel_app (R S : List (Int × Int)) : cel (R ++ S) = cel R ++ cel S := by
  induction R with
  | nil => rfl
  | cons p R ih => simp [cel, ih]
theorem cel_len (R : List (Int × Int)) : (cel R).length = R.length * 2 := by
  induction R with
  | nil => rfl
  | cons p R ih => simp only [cel, List.length_cons, ih]; omega
theorem cel_at {R : List (Int × Int)} {j : Nat} {p : Int × Int} (h : R[j]? = some p) : (cel R)[j * 2]? = some (.int .i64 p.1) ∧ (cel R)[j * 2 + 1]? = some (.int .i64 p.2) := by
  induction R generalizing j with
  | nil => simp at h
  | cons q R ih =>
    cases j with
    | zero => simp at h; subst h; exact ⟨rfl, rfl⟩
    | succ j =>
      simp only [List.getElem?_cons_succ] at h
      have := ih h
      rw [show (j + 1) * 2 = j * 2 + 1 + 1 from by omega]
      simpa [cel] using this
theorem info_pair : (Try.prog.info? 32).map (fun i => (i.zero, i.size, i.bytes)) = some (some (.agg #[.int .i64 0, .int .i64 0]), 2, 16) := by kernel_rfl
/-- A cell of a row of one's own: where it lies, and what a store there leaves. -/
theorem own_setn {w : World} {base size n c i : Nat} {e : TypeId} {A : Option Addr} {xs : List Value} (h : w.ownsRow base e size (.slice A n c) n xs) (hi : i < xs.length) :
    ∃ g, A = some ⟨g, 0, none⟩ ∧ base ≤ g ∧ g < w.heap.size ∧ w.cell? ⟨g, i, none⟩ = xs[i]? ∧ w.frozen? ⟨g, i, none⟩ = false ∧ ∀ v, (w.setCell ⟨g, i, none⟩ v).ownsRow base e size (.slice A n c) n (xs.set i v) := by
  rcases h.2 with ⟨hv0, h0⟩ | ⟨g, cap, cur, hv0, hb, hh, hnc, hcm, hcs, hx⟩
  · have := h.1
    rw [h0, Nat.zero_mul] at this
    omega
  · simp only [Value.slice.injEq] at hv0
    obtain ⟨rfl, _, rfl⟩ := hv0
    have hin : i < n * size := by rw [← h.1]; exact hi
    refine ⟨g, rfl, hb, lt_of_block hh, ?_, frozen_of_row _ _ i _ _ hh, fun v => ?_⟩
    · rw [cell_of_row w g i _ _ _ hh, ← hx]
      simp [hin]
    · refine ⟨by rw [List.length_set]; exact h.1, .inr ⟨g, c, cur.setIfInBounds i v, rfl, hb, heap_setCell_same w g i _ _ _ hh, hnc, hcm, by simp [hcs], ?_⟩⟩
      rw [← hx]
      simp [List.take_set]
theorem prs_own {w : World} {base : Nat} {A : Option Addr} {n c : Nat} {R : List (Int × Int)} (h : w.ownsRow base 32 2 (.slice A n c) n (cel R)) : Prs w A n c R := by
  have hl : R.length = n := by have := h.1; rw [cel_len] at this; omega
  rcases h.2 with ⟨hv0, h0⟩ | ⟨g, cap, cur, hv0, hb, hh, hnc, hcm, hcs, hx⟩
  · simp only [Value.slice.injEq] at hv0
    obtain ⟨_, h1, rfl⟩ := hv0
    exact ⟨hl, by omega, by omega, fun hp => by omega⟩
  · simp only [Value.slice.injEq] at hv0
    obtain ⟨rfl, _, rfl⟩ := hv0
    refine ⟨hl, hnc, hcm, fun hp => ⟨g, 0, rfl, lt_of_block hh, fun j p hj => ?_⟩⟩
    obtain ⟨h1, h2⟩ := cel_at hj
    have hjn : j < n := by have := (List.getElem?_eq_some_iff.1 hj).1; omega
    rw [← hx] at h1 h2
    rw [cell_of_row w g _ _ _ _ hh, cell_of_row w g _ _ _ _ hh]
    simp only [List.getElem?_take] at h1 h2
    rw [if_pos (by omega)] at h1 h2
    simpa using And.intro h1 h2

theorem pair_new (w : World) (a b : Int) (t : TypeId) : ∀ j u, [Value.int .i64 a, Value.int .i64 b][j]? = some u → (w.alloc (.cells #[.int .i64 a, .int .i64 b] t)).cell? ((⟨w.heap.size, 0, none⟩ : Addr).add j) = some u := by
  intro j u hj
  rw [Addr.add_lit, cell_of_row _ _ _ _ _ _ (heap_alloc_new w _)]
  simpa using hj
/-- The last run made longer by one, and the block behind it noted. -/
theorem longer {V : World} {b5 b6 b1 b2 g0 q c : Nat} {A : Option Addr} {t5 t6 t : TypeId} {y : Value} {Q : List (Int × Int)} {a m : Int} (hq : q = Q.length)
    (h5 : Blk V b5 t5 [.slice A (q + 1) c]) (h6 : Blk V b6 t6 [y]) (hrow : V.ownsRow g0 t 2 (.slice A (q + 1) c) (q + 1) (cel (Q ++ [(a, m)])))
    (l5 : b5 < g0) (l6 : b6 < g0) (l1 : b1 < g0) (l2 : b2 < g0) (n5 : b5 ≠ b6) (n1 : b1 ≠ b6) (n2 : b2 ≠ b6) :
    ∃ g, A = some ⟨g, 0, none⟩ ∧ g0 ≤ g ∧ g < V.heap.size ∧ V.cell? ⟨g, q * 2 + 1, none⟩ = some (.int .i64 m) ∧ V.frozen? ⟨g, q * 2 + 1, none⟩ = false ∧
      ∀ (z : Value) (V' : World), V' = ((V.setCell ⟨g, q * 2 + 1, none⟩ (.int .i64 (m + 1))).setCell ⟨b6, 0, none⟩ z).drew →
        KeepsOthers V V' ∧ Kp b1 b2 V V' ∧ Blk V' b5 t5 [.slice A (q + 1) c] ∧ Blk V' b6 t6 [z] ∧ V'.ownsRow g0 t 2 (.slice A (q + 1) c) (q + 1) (cel (Q ++ [(a, m + 1)])) ∧
        ∀ {w0 : World}, Below w0.heap.size w0 V → w0.heap.size ≤ b6 → w0.heap.size ≤ g0 → Below w0.heap.size w0 V' := by
  have hl2 : (cel Q).length = q * 2 := by rw [hq]; exact cel_len Q
  obtain ⟨g, rfl, hg1, hg2, hgc, hgf, hgs⟩ := own_setn hrow (i := q * 2 + 1) (by rw [cel_len, List.length_append, ← hq]; simp; omega)
  refine ⟨g, rfl, hg1, hg2, ?_, hgf, fun z V' hV => ?_⟩
  · rw [hgc, cel_app, List.getElem?_append_right (by omega), hl2]
    simp [cel]
  · have hset2 : (cel (Q ++ [(a, m)])).set (q * 2 + 1) (.int .i64 (m + 1)) = cel (Q ++ [(a, m + 1)]) := by
      rw [cel_app, cel_app, List.set_append_right _ _ (by omega), hl2]
      simp [cel]
    have hs := hgs (.int .i64 (m + 1))
    rw [hset2] at hs
    have hs2 := ownsRow_setCell_below hs (a := ⟨b6, 0, none⟩) l6 z
    subst hV
    have hko := (KeepsOthers.setCell V ⟨g, q * 2 + 1, none⟩ (.int .i64 (m + 1))).trans (KeepsOthers.setCell _ ⟨b6, 0, none⟩ z)
    refine ⟨⟨hko.size, hko.same⟩, ⟨?_, ?_⟩, ?_, ?_, hs2, fun {w0} hw h1 h2 => ((hw.setCell (by show _ ≤ g; omega) _).setCell (by exact h1) _).drew⟩
    · exact (Below.heap_setCell _ _ _ _ n1).trans (Below.heap_setCell _ _ _ _ (by show b1 ≠ g; omega))
    · exact (Below.heap_setCell _ _ _ _ n2).trans (Below.heap_setCell _ _ _ _ (by show b2 ≠ g; omega))
    · exact (h5.far (p := ⟨g, q * 2 + 1, none⟩) (by show b5 ≠ g; omega) _).far (p := ⟨b6, 0, none⟩) n5 z
    · exact (h6.far (p := ⟨g, q * 2 + 1, none⟩) (by show b6 ≠ g; omega) _).set 0 z
set_option maxRecDepth 100000 in
set_option maxHeartbeats 4000000 in
theorem runs_any (s n : Int) (w : World) : Calls Try.prog 13 #[.int .i64 s, .int .i64 n] w (HandsP w (runs s (lim n))) := by
  obtain ⟨i0, hi0, hz0, hz1, hz2⟩ := info_parts info_pair
  have HML := Lib.hid (runs_rof s (lim n))
  have f19 : Fence.wide.fn 19 := trivial
  refine callsIn_wide (n := 5) |>.1 ?_
  refine callsIn_of_wp_marks Try.func13 rfl trivial ?_ rfl
  simp only [Try.ntmps13, List.size_toArray, List.length_cons, List.length_nil, Nat.reduceAdd, Nat.reduceSub, Array.replicate_succ, Array.replicate_zero, List.push_toArray, List.append_toArray, List.nil_append, List.cons_append]
  gi_wp2_with (gi_at_call 19; refine (blocks_in 4 _ _ _).mono ?_; rintro e w' ⟨rfl, rfl⟩)
  obtain ⟨W0, hW0⟩ : ∃ W0, (((w.alloc (.cells #[.slice none 0 0] 30)).alloc (.cells #[.int .i64 (-1)] 3)).alloc (.cells #[.int .i64 s] 3)).alloc (.cells #[.int .i64 n] 3) = W0 := ⟨_, rfl⟩
  obtain ⟨bC, bX, bS, bN, hB0, hsz⟩ := laid4 w _ _ _ _ [.slice none 0 0] [.int .i64 (-1)] [.int .i64 s] [.int .i64 n] hW0
  rw [hW0]
  clear hW0
  refine wpIn_rangeFunc_ownH rfl (by decide) (gf := 21) (lb := #[.pointer (some ⟨w.heap.size + 1 + 1 + 1, 0, none⟩), .pointer (some ⟨w.heap.size + 1 + 1, 0, none⟩)]) rfl trivial (enters_of Try.func21 (by kernel_rfl) rfl)
    (blocks_stops 4 (by decide) (w.heap.size + 1 + 1) (w.heap.size + 1 + 1 + 1) s n W0 bS bN) Kp.t (Kp.b (by omega) (by omega)) (Below.refl _ _) (fun _ => rfl)
    (fun pre W => (∃ v, Blk W w.heap.size 30 [v] ∧ Blk W (w.heap.size + 1) 3 [.int .i64 (nxt (vals pre))] ∧ W.ownsRow (w.heap.size + 4) 32 2 v (rof (vals pre)).length (cel (rof (vals pre)))) ∧ Below w.heap.size w W)
    (fun _ _ _ => False)
    (OwnFrom.and (fun _ _ _ _ hs hg hr => by obtain ⟨v, h1, h2, h3⟩ := hs; exact ⟨v, blk_kept h1 hg hr, blk_kept h2 hg hr, own_kept h3 hg hr⟩) (ownFrom_below (Nat.le_refl _) (by omega)))
    (fun _ _ _ _ _ hs _ _ => hs)
    ⟨⟨_, bC, bX, World.ownsRow_nil _ _ _ _⟩, hB0⟩
    (fun x a' (_ : World) => a' = { tmps := #[.int .i64 s, .int .i64 n, undef, undef, .slice none 0 0, .pointer (some ⟨w.heap.size, 0, none⟩), .pointer (some ⟨w.heap.size + 1, 0, none⟩), .int .i64 (nv x), .int .i64 s, .int .i64 n, .func (.func 21) #[] #[.pointer (some ⟨w.heap.size + 1 + 1 + 1, 0, none⟩), .pointer (some ⟨w.heap.size + 1 + 1, 0, none⟩)], .int .i64 (nv x), undef, undef, undef, undef, undef, undef, undef, undef, undef, undef, undef, undef, undef, undef, undef, undef, undef, undef, undef, undef, undef], defers := [] })
    (fun _ _ _ _ _ _ hs _ _ => hs)
    ?assign ?body ?done ?stop
  case assign =>
    rintro l pre x W K hI hK
    simp only [enc]
    gi_wp2
    exact hK _ _ (KeepsFrom.refl _ _) (Kp.refl _) hI rfl
  case body =>
    rintro l pre x a' W hl ⟨r, hr⟩ ⟨⟨v, bC1, bX1, hrow⟩, hB1⟩ rfl hlt
    have hgW : w.heap.size + 4 ≤ W.heap.size := by have := (Array.getElem?_eq_some_iff.1 hr).1; omega
    obtain ⟨hx0, hx1⟩ := nv_in x
    have hfit := rof_fit (vals pre)
    have hfit2 := rof_fit (vals (pre ++ [x]))
    rw [vals_len] at hfit
    rw [vals_snoc] at hfit2
    have hnx : nxt (vals (pre ++ [x])) = nv x + 1 := by rw [vals_snoc, nxt_snoc]
    have HVS := Lib.hid (vals_snoc pre x)
    obtain ⟨X, hX⟩ : ∃ X, X = nv x := ⟨_, rfl⟩
    rw [← hX] at hx0 hx1 hfit2 hnx HVS ⊢
    have HNX := Lib.hid hnx
    clear hnx
    have hnx := rof_next (vals pre) X hx0
    obtain ⟨V, hV⟩ : ∃ V, V = vals pre := ⟨_, rfl⟩
    rw [← hV] at hnx bX1 hrow hfit hfit2 HVS
    clear hV hX
    rcases hnx with ⟨he, Q, a, m, hR, hR2⟩ | ⟨he, hR2⟩
    · rw [← he] at bX1
      rw [hR] at hrow hfit
      have HR2 := Lib.hid hR2
      rw [hR2] at hfit2
      obtain ⟨A, c, rfl⟩ := own_shape hrow
      have hm := hfit.2 (a, m) (by simp)
      obtain ⟨q, hq⟩ : ∃ q, q = Q.length := ⟨_, rfl⟩
      have hqa : (Q ++ [(a, m)]).length = q + 1 := by rw [hq]; simp
      have hqb : (Q ++ [(a, m + 1)]).length = q + 1 := by rw [hq]; simp
      have hql := hfit.1
      rw [hqa] at hrow bC1 hql
      obtain ⟨hm0, hm1⟩ := hm
      simp only at hm0 hm1
      obtain ⟨g, rfl, hg1, hg2, hgc, hgf, hend⟩ := longer (b1 := w.heap.size + 1 + 1) (b2 := w.heap.size + 1 + 1 + 1) hq bC1 bX1 hrow (by omega) (by omega) (by omega) (by omega) (by omega) (by omega) (by omega)
      have HEND := Lib.hid (hend (.int .i64 (X + 1)))
      have HB1 := Lib.hid hB1
      have HQB := Lib.hid hqb
      have hm2 : m ≤ 16 := by omega
      clear hend hfit hfit2 hR hR2 he hrow hB1 hq hqa hqb hm1
      obtain ⟨N, hN⟩ : ∃ N, N = q + 1 := ⟨_, rfl⟩
      rw [← hN] at bC1
      have hn1 : IntKind.i64.wrap ((N : Int) - 1) = (N : Int) - 1 := by rw [IntKind.wrap_i64]; omega
      have hn2 : (0 : Int) ≤ (N : Int) - 1 := by omega
      have hn3 : (N : Int) - 1 < (N : Int) := by omega
      have hn4 : ((N : Int) - 1).toNat = q := by omega
      have hm3 : IntKind.i64.wrap (m + 1) = m + 1 := by rw [IntKind.wrap_i64]; omega
      have HN := Lib.hid hN
      clear hN
      have cR := bC1.cell (i := 0) rfl
      have cX := bX1.cell (i := 0) rfl
      have fX := bX1.frozen 0
      gi_wp2
      gi_region
      all_goals
        gi_wp2
        obtain ⟨r1, r2, r3, r4, r5, r6⟩ := HEND.out _ rfl
        refine ⟨r1.from _, r2, ⟨_, r3, ?_, ?_⟩, r6 HB1.out (by omega) (by omega)⟩
        · rw [HNX.out]; exact r4
        · rw [HVS.out, HR2.out, HQB.out]; exact r5
    · obtain ⟨A, c, rfl⟩ := own_shape hrow
      have HR2 := Lib.hid hR2
      obtain ⟨q, hq⟩ : ∃ q, q = (rof V).length := ⟨_, rfl⟩
      have hqb : (rof V ++ [(X, (1 : Int))]).length = q + 1 := by rw [hq]; simp
      have hql := hfit.1
      have HQ := Lib.hid hq
      rw [← hq] at hrow bC1 hql
      have HB1 := Lib.hid hB1
      have HQB := Lib.hid hqb
      have hne : (X == nxt V) = false := by simpa using he
      clear hfit hfit2 hR2 he hB1 hq hqb
      have hm3 : IntKind.i64.wrap (0 + 1) = 1 := by rw [IntKind.wrap_i64]; rfl
      have cR := bC1.cell (i := 0) rfl
      have cX := bX1.cell (i := 0) rfl
      gi_wp2_with (gi_at_builtin; refine wpListIn_append_own _ rfl _ _ 30 rfl (w.heap.size + 4) 32 i0 (.agg #[.int .i64 0, .int .i64 0]) 2 16 Try.underlying30 hi0 hz0 hz1 hz2 rfl (by decide) _ _ _ rfl (hrow.alloc _) ⟨W.heap.size, 0, none⟩ 1 1 [.int .i64 X, .int .i64 0] rfl rfl (pair_new _ _ _ _) (by simp [Value.oneCell']) (by simp only [maxLen]; omega) (by omega) (by simp; omega) ?_; intro v' w1 hown' hgrow _; obtain ⟨g', cap', rfl⟩ := ownsRow_succ hown'; obtain ⟨hv1, hv2, hr2, hk2, hp2, hb2⟩ := appended (b1 := w.heap.size + 1 + 1) (b2 := w.heap.size + 1 + 1 + 1) bC1 hrow (by omega) (by omega) (by omega) hgW (by omega) (by omega) hown' hgrow; obtain ⟨_, _, _, _, hp3, _⟩ := appended (b1 := w.heap.size + 1) (b2 := w.heap.size + 1) bC1 hrow (by omega) (by omega) (by omega) hgW (by omega) (by omega) hown' hgrow; have hx2 := hp3.1.trans bX1; clear hp3; have hc1 := hv1.cell (i := 0) rfl; have hf1 := hv1.frozen 0)
      obtain ⟨W1, hW1⟩ : ∃ W1, w1.setCell ⟨w.heap.size, 0, none⟩ (.slice (some ⟨g', 0, none⟩) (q + 1) cap') = W1 := ⟨_, rfl⟩
      rw [hW1] at hv2 hr2 hk2 hp2 hb2 hx2 ⊢
      have hr3 : W1.ownsRow (w.heap.size + 4) 32 2 (.slice (some ⟨g', 0, none⟩) (q + 1) cap') (q + 1) (cel (rof V ++ [(X, (0 : Int))])) := by rw [cel_app]; exact hr2
      obtain ⟨g, hgg, hg1, hg2, hgc, hgf, hend⟩ := longer (b1 := w.heap.size + 1 + 1) (b2 := w.heap.size + 1 + 1 + 1) HQ.out hv2 (show Blk W1 (w.heap.size + 1) 3 [.int .i64 (nxt V)] from hx2) hr3 (by omega) (by omega) (by omega) (by omega) (by omega) (by omega) (by omega)
      simp only [Option.some.injEq, Addr.mk.injEq, and_true] at hgg
      subst hgg
      have HEND := Lib.hid (hend (.int .i64 (X + 1)))
      have HK2 := Lib.hid hk2
      have HP2 := Lib.hid hp2
      have HB2 := Lib.hid (hb2 HB1.out (Nat.le_refl _))
      have bX2 : Blk W1 (w.heap.size + 1) 3 [.int .i64 (nxt V)] := hx2
      clear hend hr3 hr2 hk2 hp2 hb2 hx2 hW1 hv1 hc1 hf1 hown' hgrow cX cR bX1 bC1 hrow hne
      obtain ⟨N, hN⟩ : ∃ N, N = q + 1 := ⟨_, rfl⟩
      rw [← hN] at hv2 ⊢
      have hn1 : IntKind.i64.wrap ((N : Int) - 1) = (N : Int) - 1 := by rw [IntKind.wrap_i64]; omega
      have hn2 : (0 : Int) ≤ (N : Int) - 1 := by omega
      have hn3 : (N : Int) - 1 < (N : Int) := by omega
      have hn4 : ((N : Int) - 1).toNat = q := by omega
      have HN := Lib.hid hN
      clear hN
      have cR := hv2.cell (i := 0) rfl
      have cX := bX2.cell (i := 0) rfl
      have fX := bX2.frozen 0
      gi_region
      all_goals
        gi_wp2
        obtain ⟨r1, r2, r3, r4, r5, r6⟩ := HEND.out _ rfl
        refine ⟨(HK2.out.trans r1).from _, HP2.out.t r2, ⟨_, r3, ?_, ?_⟩, r6 HB2.out (by omega) (by omega)⟩
        · rw [HNX.out]; exact r4
        · rw [HVS.out, HR2.out, HQB.out]; exact r5
  case done =>
    rintro D ys W hD hys ⟨⟨v, bC1, bX1, hrow⟩, hB1⟩ hK
    rw [hys, ← HML.out] at hrow
    obtain ⟨A, c, rfl⟩ := own_shape hrow
    have cC := bC1.cell (i := 0) rfl
    have HRW := Lib.hid hrow
    clear hrow hys
    gi_wp2
    refine ⟨by simp, .inl ⟨_, _, rfl, run_takeDeferred hK, ?_⟩⟩
    exact ⟨_, results_tmp rfl _ _ _, A, _, c, rfl, prs_own (ownsRow_putObj HRW.out _ hK rfl), hB1.trans (belowK_b (w := w) (Nat.le_refl _) W D _ _ (by omega) hK rfl rfl)⟩
  case stop =>
    rintro D c pre W _ _ h _
    exact h.elim
end Go.Proofs.Ytfibhjkjaagheaa.BitT
