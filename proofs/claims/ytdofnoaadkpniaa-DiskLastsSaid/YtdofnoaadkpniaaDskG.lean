/- Acts that came in, as a list. No conditions but those each law names. -/
import Derived.Test.YtdofnoaadkpniaaDskF
import Derived.Deep.Slices
import Derived.Laws.BitsLemmas
import Derived.Deep.Fields
namespace Go.Proofs.Ytdofnoaadkpniaa.DskG
open Go.RowKit Go.Proofs.Ytdofnoaadkpniaa.Kit Go.Proofs.Ytdofnoaadkpniaa.Byt Go.Proofs.Ytdofnoaadkpniaa.Mem

structure Ac where
  kind : Int
  at_ : Int
  by_ : Nat
  long : Bool
  keep : Nat
instance : Inhabited Ac := ⟨⟨0, 0, 0, false, 0⟩⟩
def Ac.cells (r : Ac) : List Value := [.int .i64 r.kind, .int .i64 r.at_, .int .u8 (r.by_ : Int), .bool r.long, .int .u64 (r.keep : Int)]
structure Ac.ok (r : Ac) : Prop where
  k0 : -9223372036854775808 ≤ r.kind
  k1 : r.kind ≤ 9223372036854775807
  a0 : -9223372036854775808 ≤ r.at_
  a1 : r.at_ ≤ 9223372036854775807
  b1 : r.by_ < 256
  q1 : r.keep < 18446744073709551616
/-- The slice at A is these acts. -/
def Acts (w : World) (A : Option Addr) (n c : Nat) (R : List Ac) : Prop :=
  R.length = n ∧ n ≤ c ∧ c ≤ 9223372036854775807 ∧ (∀ r ∈ R, r.ok) ∧
  (0 < n → ∃ b o, A = some ⟨b, o, none⟩ ∧ b < w.heap.size ∧ ∀ k r, R[k]? = some r → ∀ j u, r.cells[j]? = some u → w.cell? ⟨b, o + k * 5 + j, none⟩ = some u)
theorem Acts.below {w w' : World} {A : Option Addr} {n c : Nat} {R : List Ac} (h : Acts w A n c R) (hb : Below w.heap.size w w') : Acts w' A n c R :=
  ⟨h.1, h.2.1, h.2.2.1, h.2.2.2.1, fun hp => by
    obtain ⟨b, o, hA, hbl, hc⟩ := h.2.2.2.2 hp
    exact ⟨b, o, hA, Nat.lt_of_lt_of_le hbl hb.size, fun k r hr j u hu => (hb.cell (p := ⟨b, o + k * 5 + j, none⟩) hbl).trans (hc k r hr j u hu)⟩⟩
/-- The k-th act's cells. -/
theorem Acts.at_ {w : World} {A : Option Addr} {n c : Nat} {R : List Ac} (h : Acts w A n c R) {k : Nat} (hk : k < n) :
    ∃ (r : Ac) (b o : Nat), R[k]? = some r ∧ r ∈ R ∧ r.ok ∧ A = some ⟨b, o, none⟩ ∧ b < w.heap.size ∧ w.cell? ⟨b, o + k * 5, none⟩ = some (.int .i64 r.kind) ∧ w.cell? ⟨b, o + k * 5 + 1, none⟩ = some (.int .i64 r.at_) ∧ w.cell? ⟨b, o + k * 5 + 2, none⟩ = some (.int .u8 (r.by_ : Int)) ∧ w.cell? ⟨b, o + k * 5 + 3, none⟩ = some (.bool r.long) ∧ w.cell? ⟨b, o + k * 5 + 4, none⟩ = some (.int .u64 (r.keep : Int)) := by
  obtain ⟨b, o, hA, hb, hc⟩ := h.2.2.2.2 (by omega)
  have hk' : k < R.length := by rw [h.1]; exact hk
  have hr := List.getElem?_eq_getElem hk'
  have hm := List.getElem_mem hk'
  exact ⟨R[k], b, o, hr, hm, h.2.2.2.1 _ hm, hA, hb, hc k _ hr 0 _ rfl, hc k _ hr 1 _ rfl, hc k _ hr 2 _ rfl, hc k _ hr 3 _ rfl, hc k _ hr 4 _ rfl⟩

theorem open_acts {H : Type} {enc : TypeId × Value → H} {w : World} {base : Nat} {v : Value} {d : DataW H} {p : List MemPlace} (h : DataW.Trod enc Try.prog w 0 (fun _ => true) true 22 v d p) (o : Value.okWide Try.prog w .any base 22 v) :
    ∃ A n c R, v = .slice A n c ∧ Acts w A n c R := by
  obtain ⟨a, n, c, rfl⟩ := Go.WideShapes.okWide_slice Try.underlying22 o
  obtain ⟨fuel, hf⟩ := h
  rcases Go.Deep.open_slice Try.underlying22 hf with ⟨hcs, _⟩ | ⟨x, len, cap, m, q, D, Pl, hcs, _, hl, hm, hmm, _, hi⟩
  · simp [Value.cells] at hcs
    obtain ⟨rfl, rfl, rfl⟩ := hcs
    exact ⟨none, 0, 0, [], rfl, rfl, by omega, by omega, by simp, fun h => absurd h (by simp)⟩
  · simp [Value.cells] at hcs
    obtain ⟨rfl, rfl, rfl⟩ := hcs
    have hC : Try.prog.cellsOf 30 = 5 := by kernel_rfl
    have each : ∀ i, i < n → ∃ r : Ac, r.ok ∧ ∀ j u, r.cells[j]? = some u → w.cell? (x.add (i * 5 + j)) = some u := by
      intro i hin
      obtain ⟨cs', hc, ht⟩ := hi i (by rw [hmm]; simp; omega)
      rw [hC] at hc
      obtain ⟨ys, n', _, _, _, hyl, hfl⟩ := DataW.trod_struct Try.underlying30 ht
      obtain ⟨_, hlen, hat⟩ := World.cells?_some hc
      match cs', hlen with
      | [c0, c1, c2, c3, c4], _ =>
        have c3' : Try.prog.cellsOf 3 = 1 := by kernel_rfl
        have c5' : Try.prog.cellsOf 5 = 1 := by kernel_rfl
        have c4' : Try.prog.cellsOf 4 = 1 := by kernel_rfl
        have c28' : Try.prog.cellsOf 28 = 1 := by kernel_rfl
        match ys, hyl with
        | [y0, y1, y2, y3, y4], _ =>
          have e0 : DataW.trod enc Try.prog w 0 (fun _ => true) true n' 3 (([c0, c1, c2, c3, c4].drop 0).take (Try.prog.cellsOf 3)) = some y0 := hfl 0 _ rfl
          rw [c3'] at e0
          have e1 : DataW.trod enc Try.prog w 0 (fun _ => true) true n' 3 (([c0, c1, c2, c3, c4].drop 1).take (Try.prog.cellsOf 3)) = some y1 := hfl 1 _ rfl
          rw [c3'] at e1
          have e2 : DataW.trod enc Try.prog w 0 (fun _ => true) true n' 5 (([c0, c1, c2, c3, c4].drop 2).take (Try.prog.cellsOf 5)) = some y2 := hfl 2 _ rfl
          rw [c5'] at e2
          have e3 : DataW.trod enc Try.prog w 0 (fun _ => true) true n' 4 (([c0, c1, c2, c3, c4].drop 3).take (Try.prog.cellsOf 4)) = some y3 := hfl 3 _ rfl
          rw [c4'] at e3
          have e4 : DataW.trod enc Try.prog w 0 (fun _ => true) true n' 28 (([c0, c1, c2, c3, c4].drop 4).take (Try.prog.cellsOf 28)) = some y4 := hfl 4 _ rfl
          rw [c28'] at e4
          obtain ⟨v0, q0, _, w0⟩ := DataW.trod_int (x := y0) Try.underlying3 e0
          obtain ⟨v1, q1, _, w1⟩ := DataW.trod_int (x := y1) Try.underlying3 e1
          obtain ⟨v2, q2, _, w2⟩ := DataW.trod_int (x := y2) Try.underlying5 e2
          obtain ⟨v3, q3, _⟩ := DataW.trod_bool (x := y3) Try.underlying4 e3
          obtain ⟨v4, q4, _, w4⟩ := DataW.trod_int (x := y4) Try.underlying28 e4
          obtain rfl : c0 = _ := by simpa using q0
          obtain rfl : c1 = _ := by simpa using q1
          obtain rfl : c2 = _ := by simpa using q2
          obtain rfl : c3 = _ := by simpa using q3
          obtain rfl : c4 = _ := by simpa using q4
          have b0 := bounds_i64 w0
          have b1 := bounds_i64 w1
          have b2 := bounds_u8 w2
          have b4 := bounds_u64 w4
          refine ⟨⟨v0, v1, v2.toNat, v3, v4.toNat⟩, ⟨b0.1, b0.2, b1.1, b1.2, by show v2.toNat < 256; omega, by show v4.toNat < 18446744073709551616; omega⟩, fun j u hu => ?_⟩
          have hj : j < 5 := by
            have := (List.getElem?_eq_some_iff.1 hu).1
            simpa [Ac.cells] using this
          have := hat j hj
          rw [Go.Deep.add_add] at this
          rw [this]
          simp only [Ac.cells, Int.toNat_of_nonneg b2.1, Int.toNat_of_nonneg b4.1] at hu
          exact hu
    obtain ⟨f, hf2⟩ := Go.Deep.choose_lt each
    refine ⟨some x, n, c, (List.range n).map f, rfl, by simp, hl, by unfold maxLen at hm; omega, ?_, fun hp => ?_⟩
    · intro r hr
      simp only [List.mem_map, List.mem_range] at hr
      obtain ⟨i, hi', rfl⟩ := hr
      exact (hf2 i hi').1
    · obtain ⟨b, off, spot⟩ := x
      have hc0 := (hf2 0 hp).2 0 _ rfl
      have hspot : spot = none := by simpa [Addr.add] using World.cell?_spot hc0
      subst hspot
      refine ⟨b, off, rfl, ?_, fun k r hr j u hu => ?_⟩
      · have := block_lt_of_cell hc0
        simpa [Addr.add] using this
      · have hk : k < n := by
          have := (List.getElem?_eq_some_iff.1 hr).1
          simpa using this
        simp only [List.getElem?_map, List.getElem?_range hk, Option.map_some, Option.some.injEq] at hr
        subst hr
        have := (hf2 k hk).2 j u hu
        rw [Addr.add_lit] at this
        rw [Nat.add_assoc]
        exact this

/-- A place among four, or among eight. -/
theorem and3 (n : Int) : bits .and .i64 n 3 = n % 4 := by
  have h3 : (BitVec.ofInt 64 3).toNat = 2 ^ 2 - 1 := by decide
  have key : (BitVec.ofInt 64 n &&& BitVec.ofInt 64 3).toNat = (n % ((2 ^ 64 : Nat) : Int)).toNat % 2 ^ 2 := by
    rw [BitVec.toNat_and, BitVec.toNat_ofInt, h3, Nat.and_two_pow_sub_one_eq_mod]
  show IntKind.i64.wrap ((BitVec.ofInt 64 n &&& BitVec.ofInt 64 3).toNat : Nat) = n % 4
  rw [key, IntKind.wrap_i64]
  omega
theorem and7 (n : Int) : bits .and .i64 n 7 = n % 8 := by
  have h3 : (BitVec.ofInt 64 7).toNat = 2 ^ 3 - 1 := by decide
  have key : (BitVec.ofInt 64 n &&& BitVec.ofInt 64 7).toNat = (n % ((2 ^ 64 : Nat) : Int)).toNat % 2 ^ 3 := by
    rw [BitVec.toNat_and, BitVec.toNat_ofInt, h3, Nat.and_two_pow_sub_one_eq_mod]
  show IntKind.i64.wrap ((BitVec.ofInt 64 n &&& BitVec.ofInt 64 7).toNat : Nat) = n % 8
  rw [key, IntKind.wrap_i64]
  omega
def Ac.i4 (r : Ac) : Nat := (r.at_ % 4).toNat
def Ac.i8 (r : Ac) : Nat := (r.at_ % 8).toNat
theorem Ac.i4_lt (r : Ac) : r.i4 < 4 := by unfold Ac.i4; omega
theorem Ac.i8_lt (r : Ac) : r.i8 < 8 := by unfold Ac.i8; omega
theorem Ac.and4 (r : Ac) : bits .and .i64 r.at_ 3 = (r.i4 : Nat) := by rw [and3]; unfold Ac.i4; omega
theorem Ac.and8 (r : Ac) : bits .and .i64 r.at_ 7 = (r.i8 : Nat) := by rw [and7]; unfold Ac.i8; omega
end Go.Proofs.Ytdofnoaadkpniaa.DskG
