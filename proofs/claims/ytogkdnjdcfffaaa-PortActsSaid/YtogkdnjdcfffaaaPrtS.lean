/- Send and Get by the document. Conditions: its channels lie as the facts say; numbers of 64 bits. -/
import Derived.Test.YtogkdnjdcfffaaaPrtR
namespace Go.Proofs.Ytogkdnjdcfffaaa.PrtS
open Go.RowKit Go.Proofs.Ytogkdnjdcfffaaa.Kit Go.Proofs.Ytogkdnjdcfffaaa.Byt Go.Proofs.Ytogkdnjdcfffaaa.Mem Go.Proofs.Ytogkdnjdcfffaaa.TabI Go.Proofs.Ytogkdnjdcfffaaa.PrtM Go.Proofs.Ytogkdnjdcfffaaa.PrtA Go.Proofs.Ytogkdnjdcfffaaa.PrtB Go.Proofs.Ytogkdnjdcfffaaa.PrtC Go.Proofs.Ytogkdnjdcfffaaa.PrtD Go.Proofs.Ytogkdnjdcfffaaa.PrtR
open Go.Proofs.Ytogkdnjdcfffaaa.TabA (Tri Tris Ta)
open Go.Proofs.Ytogkdnjdcfffaaa.TabE (ret_row)

section
variable {B X gl n c : Nat} {w : World} {ρ : Nat → Lab} {A : Option Addr} {C : List Tri} {L : Nat → List Int} {r : Tri}
/-- A refusal: the box of the answer is new, nothing else. -/
theorem rsend_no (h : Rf B w ρ X gl A n c C L) (p k y : Int) (hk : sndOk C p k = false) :
    Calls Try.prog 15 #[.pointer (some ⟨X, 0, none⟩), .int .i64 p, .int .i64 k, .int .i64 y] w fun e w' => e = .returned (.agg #[.int .i64 0, .bool false, .int .i64 15]) ∧ Below w.heap.size w w' := by
  have hn64 : n ≤ 9223372036854775807 := by have := h.most; omega
  have hCl := h.tri.1
  by_cases h0 : k < 0
  · clear hk h
    go_enter Try.func15, Try.ntmps15
    go_wp2
    exact ret_row (g := w.heap.size) (t := 42) (cs := #[.int .i64 0, .bool false, .int .i64 15]) Try.results15 rfl rfl (heap_alloc_new w _) Try.underlying42 rfl size_told ⟨rfl, (Below.refl _ _).alloc (Nat.le_refl _) _⟩
  · have hX := h.x.alloc (.cells #[.int .i64 0, .bool false, .int .i64 0] 42)
    have x0 := hX.cell (i := 0) rfl
    clear hX
    by_cases h1 : k < (n : Int)
    · obtain ⟨k', rfl⟩ : ∃ k' : Nat, k = k' := ⟨k.toNat, by omega⟩
      have hkn : k' < n := by omega
      obtain ⟨r, b, o, hr, hok, rfl, hbl, k0, k1, k2⟩ := h.tri.at_ hkn
      have hne : (r.a != p) = true := by
        rw [sndOk_at hr] at hk
        simpa using hk
      obtain ⟨z, hz⟩ : ∃ z, z = r.a := ⟨_, rfl⟩
      rw [← hz] at hne k0
      have k0' : (w.alloc (.cells #[.int .i64 0, .bool false, .int .i64 0] 42)).cell? ⟨b, o + k' * 3, none⟩ = some (.int .i64 z) := (((Below.refl _ _).alloc (Nat.le_refl _) _).cell hbl).trans k0
      clear hk h hr hz h0 h1 k1 k2 hok k0 hCl
      go_enter Try.func15, Try.ntmps15
      go_wp2
      exact ret_row (g := w.heap.size) (t := 42) (cs := #[.int .i64 0, .bool false, .int .i64 15]) Try.results15 rfl rfl (heap_alloc_new w _) Try.underlying42 rfl size_told ⟨rfl, (Below.refl _ _).alloc (Nat.le_refl _) _⟩
    · clear hk h hCl
      go_enter Try.func15, Try.ntmps15
      go_wp2
      exact ret_row (g := w.heap.size) (t := 42) (cs := #[.int .i64 0, .bool false, .int .i64 15]) Try.results15 rfl rfl (heap_alloc_new w _) Try.underlying42 rfl size_told ⟨rfl, (Below.refl _ _).alloc (Nat.le_refl _) _⟩
theorem rsend_range (h : Rf B w ρ X gl A n c C L) {k : Nat} (hr : C[k]? = some r) (p y : Int) (ha : r.a = p) (hy : y < 0 ∨ 65535 < y) :
    Calls Try.prog 15 #[.pointer (some ⟨X, 0, none⟩), .int .i64 p, .int .i64 (k : Nat), .int .i64 y] w fun e w' => e = .returned (.agg #[.int .i64 0, .bool false, .int .i64 3]) ∧ Below w.heap.size w w' := by
  have hn64 : n ≤ 9223372036854775807 := by have := h.most; omega
  have hkn : k < n := by have := (List.getElem?_eq_some_iff.1 hr).1; rw [h.tri.1] at this; exact this
  have hX := h.x.alloc (.cells #[.int .i64 0, .bool false, .int .i64 0] 42)
  have x0 := hX.cell (i := 0) rfl
  obtain ⟨r', b, o, hr', hok, rfl, hbl, k0, k1, k2⟩ := h.tri.at_ hkn
  obtain rfl : r = r' := by rw [hr] at hr'; injection hr'
  rw [ha] at k0
  have k0' : (w.alloc (.cells #[.int .i64 0, .bool false, .int .i64 0] 42)).cell? ⟨b, o + k * 3, none⟩ = some (.int .i64 p) := (((Below.refl _ _).alloc (Nat.le_refl _) _).cell hbl).trans k0
  clear hX h hr hr' ha k0 k1 k2 hok
  rcases hy with hy | hy
  · go_enter Try.func15, Try.ntmps15
    go_wp2
    exact ret_row (g := w.heap.size) (t := 42) (cs := #[.int .i64 0, .bool false, .int .i64 3]) Try.results15 rfl rfl (heap_alloc_new w _) Try.underlying42 rfl size_told ⟨rfl, (Below.refl _ _).alloc (Nat.le_refl _) _⟩
  · have h0 : ¬ y < 0 := by omega
    go_enter Try.func15, Try.ntmps15
    go_wp2
    exact ret_row (g := w.heap.size) (t := 42) (cs := #[.int .i64 0, .bool false, .int .i64 3]) Try.results15 rfl rfl (heap_alloc_new w _) Try.underlying42 rfl size_told ⟨rfl, (Below.refl _ _).alloc (Nat.le_refl _) _⟩
end
end Go.Proofs.Ytogkdnjdcfffaaa.PrtS
