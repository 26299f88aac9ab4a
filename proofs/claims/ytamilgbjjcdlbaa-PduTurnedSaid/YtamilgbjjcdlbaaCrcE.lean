/- Lists of bytes of which one is turned, or two neighbours change places, have another sum; a slice of the call's own, and a byte stored into it. No conditions but those each law names. -/
import Derived.Test.YtamilgbjjcdlbaaCrcD
import Derived.Laws.OwnMore
namespace Go.Proofs.Ytamilgbjjcdlbaa.CrcE
open Go.RowKit Go.Proofs.Ytamilgbjjcdlbaa.Kit Go.Proofs.Ytamilgbjjcdlbaa.Byt Go.Proofs.Ytamilgbjjcdlbaa.CrcM Go.Proofs.Ytamilgbjjcdlbaa.CrcA Go.Proofs.Ytamilgbjjcdlbaa.CrcB Go.Proofs.Ytamilgbjjcdlbaa.CrcC Go.Proofs.Ytamilgbjjcdlbaa.CrcD

theorem cut_at {xs : List Nat} {k : Nat} (h : k < xs.length) : xs = xs.take k ++ xs[k] :: xs.drop (k + 1) := by
  rw [List.getElem_cons_drop h, List.take_append_drop]
theorem set_at {xs : List Nat} {k : Nat} (h : k < xs.length) (y : Nat) : xs.set k y = xs.take k ++ y :: xs.drop (k + 1) := by
  rw [List.set_eq_take_append_cons_drop, if_pos h]
theorem set_lt {xs : List Nat} {k y : Nat} (hb : ∀ c ∈ xs, c < 256) (hy : y < 256) : ∀ c ∈ xs.set k y, c < 256 := by
  intro c hc
  rcases List.mem_or_eq_of_mem_set hc with h | h
  · exact hb c h
  · omega
theorem turned {xs : List Nat} {k y : Nat} (h : k < xs.length) (hb : ∀ c ∈ xs, c < 256) (hy : y < 256) (hne : xs[k] ≠ y) : ((sm xs : Nat) : Int) ≠ ((sm (xs.set k y) : Nat) : Int) := by
  rw [set_at h]
  conv => lhs; rw [cut_at h]
  have hne' := sm_turned (l := xs.take k) (m := xs.drop (k + 1)) (fun c hc => hb c (List.mem_of_mem_take hc)) (fun c hc => hb c (List.mem_of_mem_drop hc)) (hb _ (List.getElem_mem h)) hy hne
  omega
theorem u8n_set (xs : List Nat) (k y : Nat) : (u8n xs).set k (.int .u8 (y : Int)) = u8n (xs.set k y) := by simp [u8n, List.map_set]
/-- A slice of the call's own that isn't empty lies at the head of a block of its own. -/
theorem own_some {w : World} {base n c : Nat} {e : TypeId} {A : Option Addr} {xs : List Value} (h : w.ownsRow base e 1 (.slice A n c) n xs) (hn : 0 < n) : ∃ g, A = some ⟨g, 0, none⟩ ∧ base ≤ g ∧ g < w.heap.size := by
  rcases h.2 with ⟨hv, h0⟩ | ⟨g, cap', cur, hv, hb, hh, _⟩
  · omega
  · simp only [Value.slice.injEq] at hv
    exact ⟨g, hv.1, hb, lt_of_block hh⟩
theorem own_byte {w : World} {base n c g k : Nat} {e : TypeId} {xs : List Nat} (h : w.ownsRow base e 1 (.slice (some ⟨g, 0, none⟩) n c) n (u8n xs)) (hk : k < xs.length) : w.cell? ⟨g, k, none⟩ = some (.int .u8 (xs[k] : Nat)) := by
  have hl : xs.length = n := by have := h.1; rw [u8n_len] at this; omega
  rw [h.cellAt k (by omega)]
  simp [u8n, hk]
theorem xor8 {x y : Nat} (hx : x < 256) (hy : y < 256) : bits .xor .u8 (x : Int) (y : Int) = ((x ^^^ y : Nat) : Int) := u8_xor_nat x y hx hy
theorem info8 : (Try.prog.info? 5).map (fun i => (i.zero, i.size, i.bytes)) = some (some (.int .u8 0), 1, 1) := by kernel_rfl

end Go.Proofs.Ytamilgbjjcdlbaa.CrcE
