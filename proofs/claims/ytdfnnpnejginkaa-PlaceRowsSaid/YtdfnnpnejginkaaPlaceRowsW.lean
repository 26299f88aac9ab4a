/- The walk of PlaceRows. No conditions. -/
import Derived.Test.YtdfnnpnejginkaaPlaW
import Derived.Test.YtdfnnpnejginkaaMem
namespace Go.Proofs.Ytdfnnpnejginkaa.PlaceRowsW
open Go.RowKit Go.Proofs.Ytdfnnpnejginkaa.Kit Go.Proofs.Ytdfnnpnejginkaa.PlaM Go.Proofs.Ytdfnnpnejginkaa.PlaN Go.Proofs.Ytdfnnpnejginkaa.PlaW Go.Proofs.Ytdfnnpnejginkaa.Mem
set_option maxRecDepth 100000 in
theorem first_any (p s : Int) (a b : Nat) (w : World) (hp : n64 p) (hs : n64 s) (ha : w.cell? ⟨a, 0, none⟩ = some (.int .i64 p)) (hb : w.cell? ⟨b, 0, none⟩ = some (.int .i64 s)) :
    Calls Try.prog 19 #[.pointer (some ⟨a, 0, none⟩), .pointer (some ⟨b, 0, none⟩)] w fun e w' => e = .returned (.tuple #[.int .i64 (tv (rC p s)), .bool (tb (rC p s))]) ∧ Below w.heap.size w w' := by
  have H := Lib.hid (fun w' => commit_any p s w' hp hs)
  obtain ⟨x, hx⟩ : ∃ x, x = tv (rC p s) := ⟨_, rfl⟩
  obtain ⟨y, hy⟩ : ∃ y, y = tb (rC p s) := ⟨_, rfl⟩
  rw [← hx, ← hy] at H ⊢
  clear hx hy
  go_enter Try.func19, Try.ntmps19
  go_wp2_with (go_at_call 8; refine (H.out _).mono ?_; rintro e w1 ⟨rfl, hb1⟩)
  go_ret2
  exact ⟨rfl, hb1⟩
set_option maxRecDepth 100000 in
theorem second_any (p s : Int) (a b : Nat) (w : World) (hp : n64 p) (hs : n64 s) (ha : w.cell? ⟨a, 0, none⟩ = some (.int .i64 p)) (hb : w.cell? ⟨b, 0, none⟩ = some (.int .i64 s)) :
    Calls Try.prog 20 #[.pointer (some ⟨a, 0, none⟩), .pointer (some ⟨b, 0, none⟩)] w fun e w' => e = .returned (.tuple #[.int .i64 (tv (rS p s)), .bool (tb (rS p s))]) ∧ Below w.heap.size w w' := by
  have H := Lib.hid (fun w' => stage_any p s w' hp hs)
  obtain ⟨x, hx⟩ : ∃ x, x = tv (rS p s) := ⟨_, rfl⟩
  obtain ⟨y, hy⟩ : ∃ y, y = tb (rS p s) := ⟨_, rfl⟩
  rw [← hx, ← hy] at H ⊢
  clear hx hy
  go_enter Try.func20, Try.ntmps20
  go_wp2_with (go_at_call 9; refine (H.out _).mono ?_; rintro e w1 ⟨rfl, hb1⟩)
  go_ret2
  exact ⟨rfl, hb1⟩
set_option maxRecDepth 100000 in
theorem third_any (p s i : Int) (a b c : Nat) (w : World) (hp : n64 p) (hs : n64 s) (hi : n64 i) (ha : w.cell? ⟨a, 0, none⟩ = some (.int .i64 p)) (hb : w.cell? ⟨b, 0, none⟩ = some (.int .i64 s)) (hc : w.cell? ⟨c, 0, none⟩ = some (.int .i64 i)) :
    Calls Try.prog 21 #[.pointer (some ⟨a, 0, none⟩), .pointer (some ⟨b, 0, none⟩), .pointer (some ⟨c, 0, none⟩)] w fun e w' => e = .returned (.tuple #[.int .i64 (tv (rD p s i)), .bool (tb (rD p s i))]) ∧ Below w.heap.size w w' := by
  have H := Lib.hid (fun w' => data_any p s i w' hp hs hi)
  obtain ⟨x, hx⟩ : ∃ x, x = tv (rD p s i) := ⟨_, rfl⟩
  obtain ⟨y, hy⟩ : ∃ y, y = tb (rD p s i) := ⟨_, rfl⟩
  rw [← hx, ← hy] at H ⊢
  clear hx hy
  go_enter Try.func21, Try.ntmps21
  go_wp2_with (go_at_call 10; refine (H.out _).mono ?_; rintro e w1 ⟨rfl, hb1⟩)
  go_ret2
  exact ⟨rfl, hb1⟩
/-- The three parameters in boxes of their own, and the slice of the three closures. -/
structure Bxs (w : World) (h : Nat) (t : TypeId) (p s i : Int) (fs : List Value) (wr : World) : Prop where
  a : Blk wr w.heap.size 3 [.int .i64 p]
  b : Blk wr (w.heap.size + 1) 3 [.int .i64 s]
  c : Blk wr (w.heap.size + 1 + 1) 3 [.int .i64 i]
  f : Blk wr h t fs
  bel : Below w.heap.size w wr
theorem Bxs.step {w wr w' : World} {h : Nat} {t : TypeId} {p s i : Int} {fs : List Value} (H : Bxs w h t p s i fs wr) (hb : Below wr.heap.size wr w') : Bxs w h t p s i fs w' :=
  ⟨H.a.below hb, H.b.below hb, H.c.below hb, H.f.below hb, H.bel.trans (hb.mono H.bel.size)⟩
/-- A place of a partition as it is told. -/
theorem told (x p : Int) (h : 0 ≤ x → 0 ≤ p ∧ p ≤ 3 ∧ 10 * p ≤ x ∧ x ≤ 10 * p + 9) : tb x = false ∨ (tb x = true ∧ tv x = x ∧ 0 ≤ p ∧ p ≤ 3 ∧ 10 * p ≤ x ∧ x ≤ 10 * p + 9) := by
  by_cases h0 : 0 ≤ x
  · exact .inr ⟨by unfold tb; simpa using h0, by unfold tv; rw [if_neg (by omega)], h h0⟩
  · exact .inl (by unfold tb; simpa using h0)
theorem rC_in (p s : Int) (h : 0 ≤ rC p s) : 0 ≤ p ∧ p ≤ 3 ∧ 10 * p ≤ rC p s ∧ rC p s ≤ 10 * p + 9 := by
  unfold rC fnd at *
  repeat (first | omega | split at *)
theorem rS_in (p s : Int) (h : 0 ≤ rS p s) : 0 ≤ p ∧ p ≤ 3 ∧ 10 * p + 2 ≤ rS p s ∧ rS p s ≤ 10 * p + 6 := by
  unfold rS fnd at *
  repeat (first | omega | split at *)
theorem rD_in (p s i : Int) (h : 0 ≤ rD p s i) : 0 ≤ p ∧ p ≤ 3 ∧ 10 * p ≤ rD p s i ∧ rD p s i ≤ 10 * p + 9 := by
  by_cases hc : rS p s < 0 ∨ i < 0 ∨ 2 < i
  · exfalso; unfold rD at h; rw [if_pos hc] at h; omega
  · have e : rD p s i = rS p s + 1 + i := by unfold rD; rw [if_neg hc]
    have := rS_in p s (by omega)
    omega
def fns (n : Nat) : List Value := [.func (.func 19) #[] #[.pointer (some ⟨n, 0, none⟩), .pointer (some ⟨n + 1, 0, none⟩)], .func (.func 20) #[] #[.pointer (some ⟨n, 0, none⟩), .pointer (some ⟨n + 1, 0, none⟩)], .func (.func 21) #[] #[.pointer (some ⟨n, 0, none⟩), .pointer (some ⟨n + 1, 0, none⟩), .pointer (some ⟨n + 1 + 1, 0, none⟩)]]
theorem three (w : World) (p s i : Int) {w1 : World} (t : TypeId) (hb : Below (((w.alloc (.cells #[.int .i64 p] 3)).alloc (.cells #[.int .i64 s] 3)).alloc (.cells #[.int .i64 i] 3)).heap.size (((w.alloc (.cells #[.int .i64 p] 3)).alloc (.cells #[.int .i64 s] 3)).alloc (.cells #[.int .i64 i] 3)) w1) :
    Bxs w w1.heap.size t p s i (fns w.heap.size) (w1.alloc (.cells (fns w.heap.size).toArray t)) := by
  have e1 : (w.alloc (.cells #[.int .i64 p] 3)).heap.size = w.heap.size + 1 := by simp
  have e2 : ((w.alloc (.cells #[.int .i64 p] 3)).alloc (.cells #[.int .i64 s] 3)).heap.size = w.heap.size + 1 + 1 := by simp
  have A := Blk.new w 3 [.int .i64 p]
  have B := Blk.new (w.alloc (.cells #[.int .i64 p] 3)) 3 [.int .i64 s]
  have C := Blk.new ((w.alloc (.cells #[.int .i64 p] 3)).alloc (.cells #[.int .i64 s] 3)) 3 [.int .i64 i]
  rw [e1] at B
  rw [e2] at C
  have e3 : (((w.alloc (.cells #[.int .i64 p] 3)).alloc (.cells #[.int .i64 s] 3)).alloc (.cells #[.int .i64 i] 3)).heap.size = w.heap.size + 1 + 1 + 1 := by simp
  have hs : w.heap.size ≤ w1.heap.size := by have := hb.size; omega
  refine ⟨(((A.alloc _).alloc _).below hb).alloc _, ((B.alloc _).below hb).alloc _, (C.below hb).alloc _, Blk.new w1 t _, ?_⟩
  have q0 := (((Below.refl w.heap.size w).alloc (Nat.le_refl _) (.cells #[.int .i64 p] 3)).alloc (by omega) (.cells #[.int .i64 s] 3)).alloc (by omega) (.cells #[.int .i64 i] 3)
  exact (q0.trans (hb.mono q0.size)).alloc hs _
set_option maxRecDepth 100000 in
set_option maxHeartbeats 3200000 in
theorem core (p s i : Int) (w : World) (hp : n64 p) (hs : n64 s) (hi : n64 i) : Calls Try.prog 6 #[.int .i64 p, .int .i64 s, .int .i64 i] w (Yes w true) := by
  have hmf : ∀ (fn : Fn) (first cap : Array Value) (w : World), (Instr.makeFunc fn first cap).run Try.prog w = .ok (.func fn first cap) w := fun _ _ _ _ => rfl
  have HT := Lib.hid (fun w1 t hb => three w p s i (w1 := w1) t hb)
  go_enter Try.func6, Try.ntmps6
  go_wp2_with (go_at_call 7; refine (wakes_any _).mono ?_; rintro e w1 ⟨rfl, hb1⟩; have HL1 := Lib.hid hb1; clear hb1)
  obtain ⟨T, hT⟩ : ∃ T, T = HT.out w1 36 HL1.out := ⟨_, rfl⟩
  have HB := Lib.hid T
  clear hT T HT HL1
  unfold fns at HB
  go_loopw [18] (fun i' wr => ∃ k : Nat, k ≤ 3 ∧ i' = .int .i64 k ∧ Hid (Bxs w w1.heap.size 36 p s i (fns w.heap.size) wr)) (fun i' _ => 3 - (intOf i').toNat)
  case atStart => exact ⟨0, by omega, rfl, HB⟩
  case round =>
    clear HB
    obtain ⟨k, hk, rfl, HB⟩ := hrel
    by_cases hk3 : k < 3
    · have hkk : k = 0 ∨ k = 1 ∨ k = 2 := by omega
      have ca := HB.out.a.cell (i := 0) rfl
      have cb := HB.out.b.cell (i := 0) rfl
      have cc := HB.out.c.cell (i := 0) rfl
      have f0 := HB.out.f.cell (i := 0) rfl
      have f1 := HB.out.f.cell (i := 1) rfl
      have f2 := HB.out.f.cell (i := 2) rfl
      rcases hkk with rfl | rfl | rfl
      · have C := fun wr' ha hb => first_any p s w.heap.size (w.heap.size + 1) wr' hp hs ha hb
        rcases told (rC p s) p (rC_in p s) with h | ⟨h, hv, h0, h3, hl, hr⟩
        · rw [h] at C
          generalize tv (rC p s) = x at *
          clear h
          go_wp2_with (go_at_call 19; refine (C _ ca cb).mono ?_; rintro e w2 ⟨rfl, hb2⟩; have HB2 := Lib.hid (HB.out.step hb2); have ca2 := HB2.out.a.cell (i := 0) rfl; clear hb2)
          exact ⟨⟨1, by omega, rfl, HB2⟩, by show 3 - 1 < 3 - 0; omega⟩
        · rw [h, hv] at C
          generalize rC p s = x at *
          clear h hv
          have HS1 := Lib.hid (fun w' => sectors_any (p + 1) w' (n64_of (by omega)))
          rw [show sec (p + 1) = 10 * (p + 1) from by unfold sec; rw [if_neg (by omega), if_neg (by omega)]] at HS1
          have e1 : (x.tdiv 10 != p) = false := by rw [Int.tdiv_eq_ediv_of_nonneg (by omega)]; simp; omega
          by_cases hp0 : p = 0
          · subst hp0
            clear HS1
            have HS0 := Lib.hid (fun w' => sectors_any 0 w' (n64_of (by omega)))
            have HS1 := Lib.hid (fun w' => sectors_any 1 w' (n64_of (by omega)))
            rw [show sec 0 = 10 from by decide] at HS0
            rw [show sec 1 = 10 from by decide] at HS1
            go_wp2_with (first
              | (go_at_call 19; refine (C _ ca cb).mono ?_; rintro e w2 ⟨rfl, hb2⟩; have HB2 := Lib.hid (HB.out.step hb2); have ca2 := HB2.out.a.cell (i := 0) rfl; clear hb2)
              | (go_at_call 15; with_reducible refine (HS0.out _).mono ?_; rintro e w3 ⟨rfl, hb3⟩; have HB3 := Lib.hid (HB2.out.step hb3); have ca3 := HB3.out.a.cell (i := 0) rfl; clear hb3)
              | (go_at_call 15; with_reducible refine (HS1.out _).mono ?_; rintro e w4 ⟨rfl, hb4⟩; have HB4 := Lib.hid (HB3.out.step hb4); clear hb4))
            exact ⟨⟨1, by omega, rfl, HB4⟩, by show 3 - 1 < 3 - 0; omega⟩
          · have HS0 := Lib.hid (fun w' => sectors_any p w' (n64_of (by omega)))
            rw [show sec p = 10 * p from by unfold sec; rw [if_neg (by omega), if_neg (by omega)]] at HS0
            go_wp2_with (first
              | (go_at_call 19; refine (C _ ca cb).mono ?_; rintro e w2 ⟨rfl, hb2⟩; have HB2 := Lib.hid (HB.out.step hb2); have ca2 := HB2.out.a.cell (i := 0) rfl; clear hb2)
              | (go_at_call 15; with_reducible refine (HS0.out _).mono ?_; rintro e w3 ⟨rfl, hb3⟩; have HB3 := Lib.hid (HB2.out.step hb3); have ca3 := HB3.out.a.cell (i := 0) rfl; clear hb3)
              | (go_at_call 15; with_reducible refine (HS1.out _).mono ?_; rintro e w4 ⟨rfl, hb4⟩; have HB4 := Lib.hid (HB3.out.step hb4); clear hb4))
            exact ⟨⟨1, by omega, rfl, HB4⟩, by show 3 - 1 < 3 - 0; omega⟩
      · have C := fun wr' ha hb => second_any p s w.heap.size (w.heap.size + 1) wr' hp hs ha hb
        rcases told (rS p s) p (fun h => by have := rS_in p s h; omega) with h | ⟨h, hv, h0, h3, hl, hr⟩
        · rw [h] at C
          generalize tv (rS p s) = x at *
          clear h
          go_wp2_with (go_at_call 20; refine (C _ ca cb).mono ?_; rintro e w2 ⟨rfl, hb2⟩; have HB2 := Lib.hid (HB.out.step hb2); have ca2 := HB2.out.a.cell (i := 0) rfl; clear hb2)
          exact ⟨⟨2, by omega, rfl, HB2⟩, by show 3 - 2 < 3 - 1; omega⟩
        · rw [h, hv] at C
          generalize rS p s = x at *
          clear h hv
          have HS1 := Lib.hid (fun w' => sectors_any (p + 1) w' (n64_of (by omega)))
          rw [show sec (p + 1) = 10 * (p + 1) from by unfold sec; rw [if_neg (by omega), if_neg (by omega)]] at HS1
          have e1 : (x.tdiv 10 != p) = false := by rw [Int.tdiv_eq_ediv_of_nonneg (by omega)]; simp; omega
          by_cases hp0 : p = 0
          · subst hp0
            clear HS1
            have HS0 := Lib.hid (fun w' => sectors_any 0 w' (n64_of (by omega)))
            have HS1 := Lib.hid (fun w' => sectors_any 1 w' (n64_of (by omega)))
            rw [show sec 0 = 10 from by decide] at HS0
            rw [show sec 1 = 10 from by decide] at HS1
            go_wp2_with (first
              | (go_at_call 20; refine (C _ ca cb).mono ?_; rintro e w2 ⟨rfl, hb2⟩; have HB2 := Lib.hid (HB.out.step hb2); have ca2 := HB2.out.a.cell (i := 0) rfl; clear hb2)
              | (go_at_call 15; with_reducible refine (HS0.out _).mono ?_; rintro e w3 ⟨rfl, hb3⟩; have HB3 := Lib.hid (HB2.out.step hb3); have ca3 := HB3.out.a.cell (i := 0) rfl; clear hb3)
              | (go_at_call 15; with_reducible refine (HS1.out _).mono ?_; rintro e w4 ⟨rfl, hb4⟩; have HB4 := Lib.hid (HB3.out.step hb4); clear hb4))
            exact ⟨⟨2, by omega, rfl, HB4⟩, by show 3 - 2 < 3 - 1; omega⟩
          · have HS0 := Lib.hid (fun w' => sectors_any p w' (n64_of (by omega)))
            rw [show sec p = 10 * p from by unfold sec; rw [if_neg (by omega), if_neg (by omega)]] at HS0
            go_wp2_with (first
              | (go_at_call 20; refine (C _ ca cb).mono ?_; rintro e w2 ⟨rfl, hb2⟩; have HB2 := Lib.hid (HB.out.step hb2); have ca2 := HB2.out.a.cell (i := 0) rfl; clear hb2)
              | (go_at_call 15; with_reducible refine (HS0.out _).mono ?_; rintro e w3 ⟨rfl, hb3⟩; have HB3 := Lib.hid (HB2.out.step hb3); have ca3 := HB3.out.a.cell (i := 0) rfl; clear hb3)
              | (go_at_call 15; with_reducible refine (HS1.out _).mono ?_; rintro e w4 ⟨rfl, hb4⟩; have HB4 := Lib.hid (HB3.out.step hb4); clear hb4))
            exact ⟨⟨2, by omega, rfl, HB4⟩, by show 3 - 2 < 3 - 1; omega⟩
      · have C := fun wr' ha hb hc => third_any p s i w.heap.size (w.heap.size + 1) (w.heap.size + 1 + 1) wr' hp hs hi ha hb hc
        rcases told (rD p s i) p (rD_in p s i) with h | ⟨h, hv, h0, h3, hl, hr⟩
        · rw [h] at C
          generalize tv (rD p s i) = x at *
          clear h
          go_wp2_with (go_at_call 21; refine (C _ ca cb cc).mono ?_; rintro e w2 ⟨rfl, hb2⟩; have HB2 := Lib.hid (HB.out.step hb2); have ca2 := HB2.out.a.cell (i := 0) rfl; clear hb2)
          exact ⟨⟨3, by omega, rfl, HB2⟩, by show 3 - 3 < 3 - 2; omega⟩
        · rw [h, hv] at C
          generalize rD p s i = x at *
          clear h hv
          have HS1 := Lib.hid (fun w' => sectors_any (p + 1) w' (n64_of (by omega)))
          rw [show sec (p + 1) = 10 * (p + 1) from by unfold sec; rw [if_neg (by omega), if_neg (by omega)]] at HS1
          have e1 : (x.tdiv 10 != p) = false := by rw [Int.tdiv_eq_ediv_of_nonneg (by omega)]; simp; omega
          by_cases hp0 : p = 0
          · subst hp0
            clear HS1
            have HS0 := Lib.hid (fun w' => sectors_any 0 w' (n64_of (by omega)))
            have HS1 := Lib.hid (fun w' => sectors_any 1 w' (n64_of (by omega)))
            rw [show sec 0 = 10 from by decide] at HS0
            rw [show sec 1 = 10 from by decide] at HS1
            go_wp2_with (first
              | (go_at_call 21; refine (C _ ca cb cc).mono ?_; rintro e w2 ⟨rfl, hb2⟩; have HB2 := Lib.hid (HB.out.step hb2); have ca2 := HB2.out.a.cell (i := 0) rfl; clear hb2)
              | (go_at_call 15; with_reducible refine (HS0.out _).mono ?_; rintro e w3 ⟨rfl, hb3⟩; have HB3 := Lib.hid (HB2.out.step hb3); have ca3 := HB3.out.a.cell (i := 0) rfl; clear hb3)
              | (go_at_call 15; with_reducible refine (HS1.out _).mono ?_; rintro e w4 ⟨rfl, hb4⟩; have HB4 := Lib.hid (HB3.out.step hb4); clear hb4))
            exact ⟨⟨3, by omega, rfl, HB4⟩, by show 3 - 3 < 3 - 2; omega⟩
          · have HS0 := Lib.hid (fun w' => sectors_any p w' (n64_of (by omega)))
            rw [show sec p = 10 * p from by unfold sec; rw [if_neg (by omega), if_neg (by omega)]] at HS0
            go_wp2_with (first
              | (go_at_call 21; refine (C _ ca cb cc).mono ?_; rintro e w2 ⟨rfl, hb2⟩; have HB2 := Lib.hid (HB.out.step hb2); have ca2 := HB2.out.a.cell (i := 0) rfl; clear hb2)
              | (go_at_call 15; with_reducible refine (HS0.out _).mono ?_; rintro e w3 ⟨rfl, hb3⟩; have HB3 := Lib.hid (HB2.out.step hb3); have ca3 := HB3.out.a.cell (i := 0) rfl; clear hb3)
              | (go_at_call 15; with_reducible refine (HS1.out _).mono ?_; rintro e w4 ⟨rfl, hb4⟩; have HB4 := Lib.hid (HB3.out.step hb4); clear hb4))
            exact ⟨⟨3, by omega, rfl, HB4⟩, by show 3 - 3 < 3 - 2; omega⟩
    · have hke : k = 3 := by omega
      subst hke
      go_wp2
      go_ret
      exact ⟨rfl, HB.out.bel⟩
theorem hole (a0 a1 a2 : Int) (w0 : (Lit.int .i64 a0).wf = true) (w1 : (Lit.int .i64 a1).wf = true) (w2 : (Lit.int .i64 a2).wf = true) (w : World) :
    Calls Try.prog 6 #[.int .i64 a0, .int .i64 a1, .int .i64 a2] w fun e w' => e = .returned (.bool true) ∧ Below w.heap.size w w' := core a0 a1 a2 w (bounds_i64 w0) (bounds_i64 w1) (bounds_i64 w2)
end Go.Proofs.Ytdfnnpnejginkaa.PlaceRowsW
