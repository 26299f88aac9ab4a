/- What the laws of messages share. No conditions but those each law names. -/
import Derived.Test.YtamilgbjjcdlbaaPduW
namespace Go.Proofs.Ytamilgbjjcdlbaa.PduX
open Go.RowKit Go.Proofs.Ytamilgbjjcdlbaa.Kit Go.Proofs.Ytamilgbjjcdlbaa.Byt Go.Proofs.Ytamilgbjjcdlbaa.Mem Go.Proofs.Ytamilgbjjcdlbaa.RecM Go.Proofs.Ytamilgbjjcdlbaa.PduM Go.Proofs.Ytamilgbjjcdlbaa.PduA Go.Proofs.Ytamilgbjjcdlbaa.PduE

theorem getP_right {ys : List Nat} (hb : byt ys) (h : (getP ys).2 = 0) : (getP ys).1.right := by
  unfold getP at h ⊢
  split at h
  · exact absurd h (by simp)
  · split at h
    · exact absurd h (by simp)
    · rename_i h1 h2
      rw [if_neg h1, if_neg h2]
      exact parse_right (byt_take hb _) h
theorem right_bd {i : Pu} (h : i.pd.right) : i.bd := by
  obtain ⟨k, s, p, n, z, y, c, h', A, m, d, xs⟩ := i
  obtain ⟨h1, h2, h3, h4, h5, h6, h7, _⟩ := h
  dsimp only [Pu.pd] at h1 h2 h3 h4 h5 h6 h7
  rcases kinds h1 with rfl | rfl | rfl | rfl | rfl | rfl | rfl | rfl <;> simp at h3 h4 h5 h6 h7 <;> constructor <;> unfold n64 <;> dsimp only <;> omega
theorem infoS : ∃ i, Try.prog.info? 22 = some i ∧ i.zero = some (.slice none 0 0) ∧ i.size = 1 ∧ i.bytes = 24 := by
  have h : (Try.prog.info? 22).map (fun i => (i.zero, i.size, i.bytes)) = some (some (.slice none 0 0), 1, 24) := by kernel_rfl
  cases hq : Try.prog.info? 22 with
  | none => rw [hq] at h; cases h
  | some i =>
    rw [hq] at h
    simp only [Option.map_some, Option.some.injEq, Prod.mk.injEq] at h
    exact ⟨i, rfl, h.1, h.2.1, h.2.2⟩
theorem rd_two (w : World) (u v : Value) (e : TypeId) : Rd (w.alloc (.cells #[u, v] e)) (some ⟨w.heap.size, 0, none⟩) 2 2 [u, v] :=
  ⟨rfl, by omega, by omega, fun _ => ⟨_, _, rfl, by simp, fun j x hx => by rw [Nat.zero_add]; exact (Blk.new w e [u, v]).cell hx⟩⟩
end Go.Proofs.Ytamilgbjjcdlbaa.PduX
