/- A reader's bytes, so many of them, in a seat without texts. Conditions: the reader's block is known, and its bytes read as the list that is named. -/
import Derived.Test.YtamilgbjjcdlbaaTabR
namespace Go.Proofs.Ytamilgbjjcdlbaa.BytR
open Go.RowKit Go.Proofs.Ytamilgbjjcdlbaa.Kit Go.Proofs.Ytamilgbjjcdlbaa.NumA Go.Proofs.Ytamilgbjjcdlbaa.NumB Go.Proofs.Ytamilgbjjcdlbaa.TabR

/-- What a call on the reader hands back: bytes in new memory, and the reader as it stands then. -/
def Newer (w : World) (A : Option Addr) (n : Nat) : Prop := 0 < n → ∀ b o, A = some ⟨b, o, none⟩ → w.heap.size ≤ b
theorem new_own {w w1 w2 : World} {e : TypeId} {A : Option Addr} {n c : Nat} {xs : List Value} (h : w2.ownsRow w1.heap.size e 1 (.slice A n c) n xs) (hs : w.heap.size ≤ w1.heap.size) : Newer w A n := fun _ b o hA => by
  have := (h.lt b (by rw [hA]; rfl)).1
  omega
def Gav (w : World) (b : Nat) (ys xs : List Int) (x : Int) (e : Ending) (w' : World) : Prop :=
  ∃ A n c, e = .returned (.slice A n c) ∧ Rd w' A n c (u8s ys) ∧ St w' b xs x ∧ w.grownBy w' (some b) ∧ Newer w A n
set_option maxRecDepth 100000 in
theorem bytes_ok (b k : Nat) (xs : List Int) (w : World) (h : St w b xs 0) (hk : k ≤ xs.length) (hl : k ≤ 100000000000000) :
    Calls Try.prog 42 #[.pointer (some ⟨b, 0, none⟩), .int .i64 k] w (Gav w b (xs.take k) (xs.drop k) 0) := by
  have S : Hid (St w b xs 0) := h
  obtain ⟨A, n, c, h, hr0, _⟩ := h
  have H : Hid (w.heap[b]? = some (.cells #[.slice A n c, .int .i64 0] 65 (0, 0))) := h
  clear h hr0
  go_enter Try.func42, Try.ntmps42
  go_wp2_with (first
   | (go_at_call 41; refine (next_no _ _ _ _ _ H.out).mono ?_; rintro e w' ⟨rfl, rfl⟩)
   | (go_at_call 51; refine (goOn_ok b k xs w S.out hk).mono ?_; rintro e w1 ⟨A1, n1, c1, rfl, hr1, hs1, hd1⟩; have hn1 : n1 ≤ 100000000000000 := by have := Rd.bytes hr1; simp at this; omega)
   | (go_at_call 40; refine (clone_any _ _ _ _ _ hr1 hn1).mono ?_; rintro e w2 ⟨A2, n2, c2, hn2, rfl, hown2, hb2⟩))
  go_ret
  exact ⟨A2, n2, c2, rfl, Rd.own hown2, St.below hs1 hb2, did_trans hd1 (did_below hb2 _), new_own hown2 hd1.size⟩

theorem bytes_short (b k : Nat) (xs : List Int) (w : World) (h : St w b xs 0) (hk : xs.length < k) (hl : k ≤ 100000000000000) :
    Calls Try.prog 42 #[.pointer (some ⟨b, 0, none⟩), .int .i64 k] w (Gav w b [] xs 1) := by
  have S : Hid (St w b xs 0) := h
  obtain ⟨A, n, c, h, hr0, _⟩ := h
  have H : Hid (w.heap[b]? = some (.cells #[.slice A n c, .int .i64 0] 65 (0, 0))) := h
  clear h hr0
  go_enter Try.func42, Try.ntmps42
  go_wp2_with (first
   | (go_at_call 41; refine (next_no _ _ _ _ _ H.out).mono ?_; rintro e w' ⟨rfl, rfl⟩)
   | (go_at_call 51; refine (goOn_short b k xs w S.out hk (by omega)).mono ?_; rintro e w1 ⟨A1, n1, c1, rfl, hr1, hs1, hd1⟩; have hn1 : n1 ≤ 100000000000000 := by have := Rd.bytes hr1; simp at this; omega)
   | (go_at_call 40; refine (clone_any _ _ _ _ _ hr1 hn1).mono ?_; rintro e w2 ⟨A2, n2, c2, hn2, rfl, hown2, hb2⟩))
  go_ret
  exact ⟨A2, n2, c2, rfl, Rd.own hown2, St.below hs1 hb2, did_trans hd1 (did_below hb2 _), new_own hown2 hd1.size⟩

theorem bytes_fault (b : Nat) (x : Int) (xs : List Int) (e : Int) (w : World) (h : St w b xs e) (he : (e != 0) = true) :
    Calls Try.prog 42 #[.pointer (some ⟨b, 0, none⟩), .int .i64 x] w (Gav w b [] xs e) := by
  have S : Hid (St w b xs e) := h
  obtain ⟨A, n, c, h, hr0, _⟩ := h
  have H : Hid (w.heap[b]? = some (.cells #[.slice A n c, .int .i64 e] 65 (0, 0))) := h
  clear h hr0
  go_enter Try.func42, Try.ntmps42
  go_wp2_with (first
   | (go_at_call 41; refine (next_yes _ _ _ _ _ _ H.out he).mono ?_; rintro e w' ⟨rfl, rfl⟩)
   | (go_at_call 50; refine (stay_any _ _ _).mono ?_; rintro e w' ⟨rfl, rfl⟩)
   | (go_at_call 40; refine (clone_any none 0 0 [] _ (Rd.nil _) (by omega)).mono ?_; rintro e w2 ⟨A2, n2, c2, hn2, rfl, hown2, hb2⟩))
  all_goals (go_ret; exact ⟨A2, n2, c2, rfl, Rd.own hown2, St.below S.out hb2, did_below hb2 _, new_own hown2 (Nat.le_refl _)⟩)

/-- What so many bytes are, whatever the reader is like: the bytes, what is left, the fault. -/
def rby (k : Nat) (xs : List Int) (e : Int) : List Int × List Int × Int := if e ≠ 0 then ([], xs, e) else if k ≤ xs.length then (xs.take k, xs.drop k, 0) else ([], xs, 1)
theorem bytes_any (b k : Nat) (xs : List Int) (e : Int) (w : World) (h : St w b xs e) (hl : k ≤ 100000000000000) :
    Calls Try.prog 42 #[.pointer (some ⟨b, 0, none⟩), .int .i64 k] w (Gav w b (rby k xs e).1 (rby k xs e).2.1 (rby k xs e).2.2) := by
  unfold rby
  by_cases he : e = 0
  · subst he
    rw [if_neg (by simp)]
    by_cases hk : k ≤ xs.length
    · rw [if_pos hk]
      exact bytes_ok b k xs w h hk hl
    · rw [if_neg hk]
      exact bytes_short b k xs w h (by omega) hl
  · rw [if_pos he]
    exact bytes_fault b k xs e w h (by simpa using he)
end Go.Proofs.Ytamilgbjjcdlbaa.BytR
