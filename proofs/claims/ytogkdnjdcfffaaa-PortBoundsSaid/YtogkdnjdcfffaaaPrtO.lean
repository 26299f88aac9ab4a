/- Acts on channels that came in; a list of numbers held against another one; what is too long. No conditions but those each law names. -/
import Derived.Test.YtogkdnjdcfffaaaPrtW
namespace Go.Proofs.Ytogkdnjdcfffaaa.PrtO
open Go.RowKit Go.Proofs.Ytogkdnjdcfffaaa.Kit Go.Proofs.Ytogkdnjdcfffaaa.Byt Go.Proofs.Ytogkdnjdcfffaaa.Mem Go.Proofs.Ytogkdnjdcfffaaa.TabI
open Go.Proofs.Ytogkdnjdcfffaaa.TabA (Tri Tris Ta)
open Go.Proofs.Ytogkdnjdcfffaaa.TabB (Yes)
open Go.Proofs.Ytogkdnjdcfffaaa.TabD (huge)

structure Ac where
  kind : Int
  part : Int
  ch : Int
  num : Int
instance : Inhabited Ac := ⟨⟨0, 0, 0, 0⟩⟩
def Ac.cells (r : Ac) : List Value := [.int .i64 r.kind, .int .i64 r.part, .int .i64 r.ch, .int .i64 r.num]
def I64 (x : Int) : Prop := -9223372036854775808 ≤ x ∧ x ≤ 9223372036854775807
structure Ac.ok (r : Ac) : Prop where
  k : I64 r.kind
  p : I64 r.part
  c : I64 r.ch
  n : I64 r.num
/-- The slice at A is these acts. -/
def Acts (w : World) (A : Option Addr) (n c : Nat) (R : List Ac) : Prop :=
  R.length = n ∧ n ≤ c ∧ c ≤ 9223372036854775807 ∧ (∀ r ∈ R, r.ok) ∧
  (0 < n → ∃ b o, A = some ⟨b, o, none⟩ ∧ b < w.heap.size ∧ ∀ k r, R[k]? = some r → ∀ j u, r.cells[j]? = some u → w.cell? ⟨b, o + k * 4 + j, none⟩ = some u)
theorem Acts.below {w w' : World} {A : Option Addr} {n c : Nat} {R : List Ac} (h : Acts w A n c R) (hb : Below w.heap.size w w') : Acts w' A n c R :=
  ⟨h.1, h.2.1, h.2.2.1, h.2.2.2.1, fun hp => by
    obtain ⟨b, o, hA, hbl, hc⟩ := h.2.2.2.2 hp
    exact ⟨b, o, hA, Nat.lt_of_lt_of_le hbl hb.size, fun k r hr j u hu => (hb.cell (p := ⟨b, o + k * 4 + j, none⟩) hbl).trans (hc k r hr j u hu)⟩⟩
/-- The k-th act's cells. -/
theorem Acts.at_ {w : World} {A : Option Addr} {n c : Nat} {R : List Ac} (h : Acts w A n c R) {k : Nat} (hk : k < n) :
    ∃ (r : Ac) (b o : Nat), R[k]? = some r ∧ r.ok ∧ A = some ⟨b, o, none⟩ ∧ b < w.heap.size ∧ w.cell? ⟨b, o + k * 4, none⟩ = some (.int .i64 r.kind) ∧ w.cell? ⟨b, o + k * 4 + 1, none⟩ = some (.int .i64 r.part) ∧ w.cell? ⟨b, o + k * 4 + 2, none⟩ = some (.int .i64 r.ch) ∧ w.cell? ⟨b, o + k * 4 + 3, none⟩ = some (.int .i64 r.num) := by
  obtain ⟨b, o, hA, hb, hc⟩ := h.2.2.2.2 (by omega)
  have hk' : k < R.length := by rw [h.1]; exact hk
  have hr := List.getElem?_eq_getElem hk'
  have hm := List.getElem_mem hk'
  exact ⟨R[k], b, o, hr, h.2.2.2.1 _ hm, hA, hb, hc k _ hr 0 _ rfl, hc k _ hr 1 _ rfl, hc k _ hr 2 _ rfl, hc k _ hr 3 _ rfl⟩
set_option maxRecDepth 100000 in
theorem open_acts {H : Type} {enc : TypeId × Value → H} {w : World} {base : Nat} {v : Value} {d : DataW H} {p : List MemPlace} (h : DataW.Trod enc Try.prog w 0 (fun _ => true) true 27 v d p) (o : Value.okWide Try.prog w .any base 27 v) :
    ∃ A n c R, v = .slice A n c ∧ Acts w A n c R := by
  obtain ⟨a, n, c, rfl⟩ := Go.WideShapes.okWide_slice Try.underlying27 o
  obtain ⟨fuel, hf⟩ := h
  rcases Go.Deep.open_slice Try.underlying27 hf with ⟨hcs, _⟩ | ⟨x, len, cap, m, q, D, Pl, hcs, _, hl, hm, hmm, _, hi⟩
  · simp [Value.cells] at hcs
    obtain ⟨rfl, rfl, rfl⟩ := hcs
    exact ⟨none, 0, 0, [], rfl, rfl, by omega, by omega, by simp, fun h => absurd h (by simp)⟩
  · simp [Value.cells] at hcs
    obtain ⟨rfl, rfl, rfl⟩ := hcs
    have hC : Try.prog.cellsOf 38 = 4 := by kernel_rfl
    have each : ∀ i, i < n → ∃ r : Ac, r.ok ∧ ∀ j u, r.cells[j]? = some u → w.cell? (x.add (i * 4 + j)) = some u := by
      intro i hin
      obtain ⟨cs', hc, ht⟩ := hi i (by rw [hmm]; simp; omega)
      rw [hC] at hc
      obtain ⟨ys, n', _, _, _, hyl, hfl⟩ := DataW.trod_struct Try.underlying38 ht
      obtain ⟨_, hlen, hat⟩ := World.cells?_some hc
      match cs', hlen with
      | [c0, c1, c2, c3], _ =>
        have ci : Try.prog.cellsOf 3 = 1 := by kernel_rfl
        match ys, hyl with
        | [y0, y1, y2, y3], _ =>
          have e0 : DataW.trod enc Try.prog w 0 (fun _ => true) true n' 3 (([c0, c1, c2, c3].drop 0).take (Try.prog.cellsOf 3)) = some y0 := hfl 0 _ rfl
          rw [ci] at e0
          have e1 : DataW.trod enc Try.prog w 0 (fun _ => true) true n' 3 (([c0, c1, c2, c3].drop 1).take (Try.prog.cellsOf 3)) = some y1 := hfl 1 _ rfl
          rw [ci] at e1
          have e2 : DataW.trod enc Try.prog w 0 (fun _ => true) true n' 3 (([c0, c1, c2, c3].drop 2).take (Try.prog.cellsOf 3)) = some y2 := hfl 2 _ rfl
          rw [ci] at e2
          have e3 : DataW.trod enc Try.prog w 0 (fun _ => true) true n' 3 (([c0, c1, c2, c3].drop 3).take (Try.prog.cellsOf 3)) = some y3 := hfl 3 _ rfl
          rw [ci] at e3
          obtain ⟨v0, q0, _, w0⟩ := DataW.trod_int (x := y0) Try.underlying3 e0
          obtain ⟨v1, q1, _, w1⟩ := DataW.trod_int (x := y1) Try.underlying3 e1
          obtain ⟨v2, q2, _, w2⟩ := DataW.trod_int (x := y2) Try.underlying3 e2
          obtain ⟨v3, q3, _, w3⟩ := DataW.trod_int (x := y3) Try.underlying3 e3
          obtain rfl : c0 = _ := by simpa using q0
          obtain rfl : c1 = _ := by simpa using q1
          obtain rfl : c2 = _ := by simpa using q2
          obtain rfl : c3 = _ := by simpa using q3
          refine ⟨⟨v0, v1, v2, v3⟩, ⟨bounds_i64 w0, bounds_i64 w1, bounds_i64 w2, bounds_i64 w3⟩, fun j u hu => ?_⟩
          have hj : j < 4 := by
            have := (List.getElem?_eq_some_iff.1 hu).1
            simpa [Ac.cells] using this
          have := hat j hj
          rw [Go.Deep.add_add] at this
          rw [this]
          exact hu
    obtain ⟨f, hf2⟩ := Go.Deep.choose_lt each
    refine ⟨some x, n, c, (List.range n).map f, rfl, by simp, hl, by unfold maxLen at hm; omega, ?_, fun hp => ?_⟩
    · intro r hr
      simp only [List.mem_map, List.mem_range] at hr
      obtain ⟨i, hi', rfl⟩ := hr
      exact (hf2 i hi').1
    · obtain ⟨b, off, spot⟩ := x
      have hc0 := (hf2 0 hp).2 0 _ rfl
      have hspot : spot = none := by simpa [Addr.add] using World.cell?_spot hc0
      subst hspot
      refine ⟨b, off, rfl, ?_, fun k r hr j u hu => ?_⟩
      · have := block_lt_of_cell hc0
        simpa [Addr.add] using this
      · have hk : k < n := by
          have := (List.getElem?_eq_some_iff.1 hr).1
          simpa using this
        simp only [List.getElem?_map, List.getElem?_range hk, Option.map_some, Option.some.injEq] at hr
        subst hr
        have := (hf2 k hk).2 j u hu
        rw [Addr.add_lit] at this
        rw [Nat.add_assoc]
        exact this
theorem i64_at {w : World} {A : Option Addr} {n c : Nat} {l : List Int} (h : Rd w A n c (i64s l)) {k : Nat} (hk : k < n) : ∃ (x : Int) (b o : Nat), l[k]? = some x ∧ A = some ⟨b, o, none⟩ ∧ b < w.heap.size ∧ w.cell? ⟨b, o + k, none⟩ = some (.int .i64 x) := by
  obtain ⟨b, o, hA, hb, hc⟩ := h.2.2.2 (by omega)
  have hl : k < l.length := by have := h.1; rw [i64s_len] at this; omega
  exact ⟨l[k], b, o, List.getElem?_eq_getElem hl, hA, hb, hc k _ (by simp [i64s, List.getElem?_eq_getElem hl])⟩
set_option maxHeartbeats 800000 in
theorem same_ints (A B : Option Addr) (n m c d : Nat) (xs : List Int) (w : World) (hx : Rd w A n c (i64s xs)) (hy : Rd w B m d (i64s xs)) :
    Calls Try.prog 20 #[.slice A n c, .slice B m d] w fun e w' => e = .returned (.bool true) ∧ ∃ n, w' = w.drewN n := by
  obtain rfl : xs.length = n := by have := hx.1; rwa [i64s_len] at this
  obtain rfl : xs.length = m := by have := hy.1; rwa [i64s_len] at this
  have lx : xs.length ≤ 9223372036854775807 := by have := hx.le; have := hx.cap; omega
  go_enter Try.func20, Try.ntmps20
  go_wp2
  go_loopw [5] (fun i wr => ∃ k : Nat, k ≤ xs.length ∧ i = .int .i64 k ∧ (∃ n, wr = w.drewN n)) (fun i _ => xs.length - (intOf i).toNat)
  case atStart => exact ⟨0, Nat.zero_le _, rfl, ⟨0, rfl⟩⟩
  case round =>
    obtain ⟨k, hk, rfl, ⟨n, rfl⟩⟩ := hrel
    by_cases hlt : k < xs.length
    · obtain ⟨x, bx, ox, hx1, rfl, _, gx⟩ := i64_at hx hlt
      obtain ⟨y, by', oy, hy1, rfl, _, gy⟩ := i64_at hy hlt
      obtain rfl : x = y := by rw [hx1] at hy1; injection hy1
      clear hx1 hy1
      go_wp2_with fail
      go_quiet (fail)
      go_wp2
      go_roundw
      case rel => exact ⟨k + 1, by omega, by go_num, ⟨_, rfl⟩⟩
      case measure => simp [intOf]; omega
    · go_wp2
      go_ret
      exact ⟨rfl, n, rfl⟩
set_option maxHeartbeats 400000 in
theorem long_any (t : Ta) (w : World) (h : t.ok w) (b : Bool) (hb : b = true ↔ huge t) : Calls Try.prog 9 #[t.val] w (Yes w b) := by
  obtain ⟨fr, A1, n1, c1, P, A2, n2, c2, W, A3, n3, c3, C, tr⟩ := t
  have hm1 : n1 ≤ 9223372036854775807 := h.P.le
  have hm2 : n2 ≤ 9223372036854775807 := h.W.le
  have hm3 : n3 ≤ 9223372036854775807 := h.C.le
  have HB := Lib.hid (show b = true ↔ 20 < n1 ∨ 40 < n2 ∨ 20 < n3 from hb)
  clear h hb
  show Calls _ _ #[.agg #[.int .i64 fr, .slice A1 n1 c1, .slice A2 n2 c2, .slice A3 n3 c3, .int .i64 tr]] w _
  by_cases h1 : 20 < n1
  · have hbt := Lib.hid (HB.out.2 (.inl h1))
    go_enter Try.func9, Try.ntmps9
    go_wp2
    go_ret
    exact ⟨by rw [hbt.out]; rfl, (Below.refl _ _).alloc (Nat.le_refl _) _⟩
  · by_cases h2 : 40 < n2
    · have hbt := Lib.hid (HB.out.2 (.inr (.inl h2)))
      go_enter Try.func9, Try.ntmps9
      go_wp2
      go_ret
      exact ⟨by rw [hbt.out]; rfl, (Below.refl _ _).alloc (Nat.le_refl _) _⟩
    · by_cases h3 : 20 < n3
      · have hbt := Lib.hid (HB.out.2 (.inr (.inr h3)))
        go_enter Try.func9, Try.ntmps9
        go_wp2
        go_ret
        exact ⟨by rw [hbt.out]; simp; omega, (Below.refl _ _).alloc (Nat.le_refl _) _⟩
      · have hbt := Lib.hid (show b = false from by rw [Bool.eq_false_iff]; intro hb; have := HB.out.1 hb; omega)
        go_enter Try.func9, Try.ntmps9
        go_wp2
        go_ret
        exact ⟨by rw [hbt.out]; simp; omega, (Below.refl _ _).alloc (Nat.le_refl _) _⟩
end Go.Proofs.Ytogkdnjdcfffaaa.PrtO
