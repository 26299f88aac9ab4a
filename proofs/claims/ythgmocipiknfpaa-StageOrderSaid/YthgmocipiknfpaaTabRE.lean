/- How a reader ended. Conditions: the reader's block is known, and its bytes read as the list that is named. -/
import Derived.Test.YthgmocipiknfpaaTabR
namespace Go.Proofs.Ythgmocipiknfpaa.TabR
open Go.RowKit Go.Proofs.Ythgmocipiknfpaa.Kit Go.Proofs.Ythgmocipiknfpaa.NumA Go.Proofs.Ythgmocipiknfpaa.NumB

theorem end_ok (b : Nat) (w : World) (h : St w b [] 0) :
    Calls Try.prog 73 #[.pointer (some ⟨b, 0, none⟩)] w fun e w' => e = .returned (.int .i64 0) ∧ w = w' := by
  obtain ⟨A, n, c, h, hr0, _⟩ := h
  have h0 := two0 h
  have h1 := two1 h
  obtain rfl : n = 0 := by have := Rd.bytes hr0; simpa using this.symm
  clear h hr0
  go_enter Try.func73, Try.ntmps73
  go_wp2
  go_ret
  exact ⟨rfl, rfl⟩

theorem end_fault (b : Nat) (xs : List Int) (e : Int) (w : World) (h : St w b xs e) (he : (e != 0) = true) :
    Calls Try.prog 73 #[.pointer (some ⟨b, 0, none⟩)] w fun f w' => f = .returned (.int .i64 e) ∧ w = w' := by
  obtain ⟨A, n, c, h, hr0, _⟩ := h
  have h1 := two1 h
  clear h hr0
  go_enter Try.func73, Try.ntmps73
  go_wp2
  go_ret
  exact ⟨rfl, rfl⟩


theorem end_left (b : Nat) (xs : List Int) (w : World) (h : St w b xs 0) (hx : 0 < xs.length) :
    Calls Try.prog 73 #[.pointer (some ⟨b, 0, none⟩)] w fun e w' => e = .returned (.int .i64 2) ∧ w = w' := by
  obtain ⟨A, n, c, h, hr0, _⟩ := h
  have h0 := two0 h
  have h1 := two1 h
  have hn : 0 < n := by have := Rd.bytes hr0; omega
  have hn2 : n ≤ 9223372036854775807 := by have := hr0.2.1; have := hr0.2.2.1; omega
  clear h hr0
  go_enter Try.func73, Try.ntmps73
  go_wp2
  go_ret
  exact ⟨rfl, rfl⟩
theorem end_any (b : Nat) (xs : List Int) (e : Int) (w : World) (h : St w b xs e) :
    Calls Try.prog 73 #[.pointer (some ⟨b, 0, none⟩)] w fun f w' => f = .returned (.int .i64 (endN xs e)) ∧ w = w' := by
  unfold endN
  by_cases he : e = 0
  · subst he
    rw [if_neg (by simp)]
    cases xs with
    | nil => rw [if_pos rfl]; exact end_ok b w h
    | cons x xs => rw [if_neg (by simp)]; exact end_left b _ w h (by simp)
  · rw [if_pos he]
    exact end_fault b xs e w h (by simpa using he)
end Go.Proofs.Ythgmocipiknfpaa.TabR
