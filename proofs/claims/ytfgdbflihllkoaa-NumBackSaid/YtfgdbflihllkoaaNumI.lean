/- A reader that is there: a text, how many bytes are left, how it ended. Conditions: the reader's block is known, and its bytes read as the list that is named. -/
import Derived.Test.YtfgdbflihllkoaaNumH
namespace Go.Proofs.Ytfgdbflihllkoaa.NumI
open Go.RowKit Go.Proofs.Ytfgdbflihllkoaa.Kit Go.Proofs.Ytfgdbflihllkoaa.NumA Go.Proofs.Ytfgdbflihllkoaa.NumB Go.Proofs.Ytfgdbflihllkoaa.NumC Go.Proofs.Ytfgdbflihllkoaa.NumD Go.Proofs.Ytfgdbflihllkoaa.NumE Go.Proofs.Ytfgdbflihllkoaa.NumG Go.Proofs.Ytfgdbflihllkoaa.NumH

set_option maxHeartbeats 400000 in
theorem text_ok (b k most : Nat) (xs : List Int) (w : World) (h : St w b xs 0) (h2 : 2 ≤ xs.length) (h8 : ∀ u ∈ xs, 0 ≤ u ∧ u ≤ 255) (hk : num (xs.take 2) = k) (hm : k ≤ most) (hl : 2 + k ≤ xs.length) (hkl : k ≤ 100000000000000) :
    Calls Try.prog 17 #[.pointer (some ⟨b, 0, none⟩), .int .i64 most] w (Gave w b ((xs.drop 2).take k) ((xs.drop 2).drop k) 0) := by
  have S : Hid (St w b xs 0) := h
  have HK : Hid (num (xs.take 2) = k) := hk
  have H8 : Hid (∀ u ∈ xs, 0 ≤ u ∧ u ≤ 255) := h8
  clear h hk h8
  go_enter Try.func17, Try.ntmps17
  go_wp2_with (first
   | (go_at_call 16; refine (num_ok b 2 xs w S.out (by rw [wd_two]; exact h2) H8.out).mono ?_; rw [wd_two, HK.out]; rintro e w1 ⟨rfl, hs1, hd1⟩)
   | (go_at_call 21; refine (bytes_ok b k (xs.drop 2) _ hs1 (by simp; omega) hkl).mono ?_; rintro e w2 ⟨A2, n2, c2, rfl, hr2, hs2, hd2⟩))
  go_ret
  exact ⟨A2, n2, c2, rfl, hr2, hs2, did_trans hd1 hd2⟩

theorem text_short1 (b most : Nat) (xs : List Int) (w : World) (h : St w b xs 0) (h2 : xs.length < 2) :
    Calls Try.prog 17 #[.pointer (some ⟨b, 0, none⟩), .int .i64 most] w (Gave w b [] xs 1) := by
  have S : Hid (St w b xs 0) := h
  clear h
  go_enter Try.func17, Try.ntmps17
  go_wp2_with (first
   | (go_at_call 16; refine (num_short b 2 xs w S.out (by rw [wd_two]; exact h2)).mono ?_; rintro e w1 ⟨rfl, hs1, hd1⟩)
   | (go_at_call 21; refine (bytes_fault b 0 xs 1 _ hs1 (by decide)).mono ?_; rintro e w2 ⟨A2, n2, c2, rfl, hr2, hs2, hd2⟩))
  go_ret
  exact ⟨A2, n2, c2, rfl, hr2, hs2, did_trans hd1 hd2⟩

theorem text_short2 (b k most : Nat) (xs : List Int) (w : World) (h : St w b xs 0) (h2 : 2 ≤ xs.length) (h8 : ∀ u ∈ xs, 0 ≤ u ∧ u ≤ 255) (hk : num (xs.take 2) = k) (hm : k ≤ most) (hl : xs.length < 2 + k) (hkl : k ≤ 100000000000000) :
    Calls Try.prog 17 #[.pointer (some ⟨b, 0, none⟩), .int .i64 most] w (Gave w b [] (xs.drop 2) 1) := by
  have S : Hid (St w b xs 0) := h
  have HK : Hid (num (xs.take 2) = k) := hk
  have H8 : Hid (∀ u ∈ xs, 0 ≤ u ∧ u ≤ 255) := h8
  clear h hk h8
  go_enter Try.func17, Try.ntmps17
  go_wp2_with (first
   | (go_at_call 16; refine (num_ok b 2 xs w S.out (by rw [wd_two]; exact h2) H8.out).mono ?_; rw [wd_two, HK.out]; rintro e w1 ⟨rfl, hs1, hd1⟩)
   | (go_at_call 21; refine (bytes_short b k (xs.drop 2) _ hs1 (by simp; omega) hkl).mono ?_; rintro e w2 ⟨A2, n2, c2, rfl, hr2, hs2, hd2⟩))
  go_ret
  exact ⟨A2, n2, c2, rfl, hr2, hs2, did_trans hd1 hd2⟩

theorem text_fault (b most : Nat) (xs : List Int) (e : Int) (w : World) (h : St w b xs e) (he : (e != 0) = true) :
    Calls Try.prog 17 #[.pointer (some ⟨b, 0, none⟩), .int .i64 most] w (Gave w b [] xs e) := by
  have S : Hid (St w b xs e) := h
  clear h
  go_enter Try.func17, Try.ntmps17
  go_wp2_with (first
   | (go_at_call 16; refine (num_fault b 2 xs e w S.out he).mono ?_; rintro e w1 ⟨rfl, hs1, hd1⟩)
   | (go_at_call 21; refine (bytes_fault b 0 xs e _ hs1 he).mono ?_; rintro e w2 ⟨A2, n2, c2, rfl, hr2, hs2, hd2⟩))
  go_ret
  exact ⟨A2, n2, c2, rfl, hr2, hs2, did_trans hd1 hd2⟩

theorem left_ok (b : Nat) (xs : List Int) (w : World) (h : St w b xs 0) :
    Calls Try.prog 18 #[.pointer (some ⟨b, 0, none⟩)] w fun e w' => e = .returned (.int .i64 xs.length) ∧ w = w' := by
  obtain ⟨A, n, c, h, hr0, _⟩ := h
  have H : Hid (w.heap[b]? = some (.cells #[.slice A n c, .int .i64 0] 45 (0, 0))) := h
  have h0 := two0 h
  obtain rfl := Rd.bytes hr0
  clear h hr0
  go_enter Try.func18, Try.ntmps18
  go_wp2_with (go_at_call 25; refine (ended_no _ _ _ _ _ H.out).mono ?_; rintro e w' ⟨rfl, rfl⟩)
  go_ret
  exact ⟨rfl, rfl⟩

theorem left_fault (b : Nat) (xs : List Int) (e : Int) (w : World) (h : St w b xs e) (he : (e != 0) = true) :
    Calls Try.prog 18 #[.pointer (some ⟨b, 0, none⟩)] w fun e w' => e = .returned (.int .i64 0) ∧ w = w' := by
  obtain ⟨A, n, c, h, hr0, _⟩ := h
  have H : Hid (w.heap[b]? = some (.cells #[.slice A n c, .int .i64 e] 45 (0, 0))) := h
  clear h hr0
  go_enter Try.func18, Try.ntmps18
  go_wp2_with (go_at_call 25; refine (ended_yes _ _ _ _ _ _ H.out he).mono ?_; rintro e w' ⟨rfl, rfl⟩)
  go_ret
  exact ⟨rfl, rfl⟩

theorem end_ok (b : Nat) (w : World) (h : St w b [] 0) :
    Calls Try.prog 19 #[.pointer (some ⟨b, 0, none⟩)] w fun e w' => e = .returned (.int .i64 0) ∧ w = w' := by
  obtain ⟨A, n, c, h, hr0, _⟩ := h
  have h0 := two0 h
  have h1 := two1 h
  obtain rfl : n = 0 := by have := Rd.bytes hr0; simpa using this.symm
  clear h hr0
  go_enter Try.func19, Try.ntmps19
  go_wp2
  go_ret
  exact ⟨rfl, rfl⟩

theorem end_fault (b : Nat) (xs : List Int) (e : Int) (w : World) (h : St w b xs e) (he : (e != 0) = true) :
    Calls Try.prog 19 #[.pointer (some ⟨b, 0, none⟩)] w fun f w' => f = .returned (.int .i64 e) ∧ w = w' := by
  obtain ⟨A, n, c, h, hr0, _⟩ := h
  have h1 := two1 h
  clear h hr0
  go_enter Try.func19, Try.ntmps19
  go_wp2
  go_ret
  exact ⟨rfl, rfl⟩

end Go.Proofs.Ytfgdbflihllkoaa.NumI
