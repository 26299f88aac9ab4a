/- A reader that is there: what it is in memory, and what its small calls do. Conditions: the reader's block is known, and its bytes read as the list that is named. -/
import Derived.Test.YtfgdbflihllkoaaNumE
import Derived.Test.YtfgdbflihllkoaaNumD
namespace Go.Proofs.Ytfgdbflihllkoaa.NumG
open Go.RowKit Go.Proofs.Ytfgdbflihllkoaa.Kit Go.Proofs.Ytfgdbflihllkoaa.NumA Go.Proofs.Ytfgdbflihllkoaa.NumB Go.Proofs.Ytfgdbflihllkoaa.NumC Go.Proofs.Ytfgdbflihllkoaa.NumD Go.Proofs.Ytfgdbflihllkoaa.NumE

/-- The reader at block b: these bytes are left, and this is how it failed (0: not at all). -/
def St (w : World) (b : Nat) (xs : List Int) (e : Int) : Prop :=
  ∃ A n c, w.heap[b]? = some (.cells #[.slice A n c, .int .i64 e] 45 (0, 0)) ∧ Rd w A n c (u8s xs) ∧ (A = none ∨ ∃ g o, A = some ⟨g, o, none⟩ ∧ g ≠ b)

theorem two0 {w : World} {b : Nat} {u v : Value} {t : TypeId} (h : w.heap[b]? = some (.cells #[u, v] t (0, 0))) : w.cell? ⟨b, 0, none⟩ = some u := by rw [cell_of_row _ _ _ _ _ _ h]; rfl
theorem two1 {w : World} {b : Nat} {u v : Value} {t : TypeId} (h : w.heap[b]? = some (.cells #[u, v] t (0, 0))) : w.cell? ⟨b, 1, none⟩ = some v := by rw [cell_of_row _ _ _ _ _ _ h]; rfl

theorem ended_no (b : Nat) (A : Option Addr) (n c : Nat) (w : World) (h : w.heap[b]? = some (.cells #[.slice A n c, .int .i64 0] 45 (0, 0))) :
    Calls Try.prog 25 #[.pointer (some ⟨b, 0, none⟩)] w fun e w' => e = .returned (.bool false) ∧ w = w' := by
  have h1 := two1 h
  clear h
  go_enter Try.func25, Try.ntmps25
  go_wp2
  go_ret
  exact ⟨rfl, rfl⟩

theorem ended_yes (b : Nat) (A : Option Addr) (n c : Nat) (e : Int) (w : World) (h : w.heap[b]? = some (.cells #[.slice A n c, .int .i64 e] 45 (0, 0))) (he : (e != 0) = true) :
    Calls Try.prog 25 #[.pointer (some ⟨b, 0, none⟩)] w fun e w' => e = .returned (.bool true) ∧ w = w' := by
  have h1 := two1 h
  clear h
  go_enter Try.func25, Try.ntmps25
  go_wp2
  go_ret
  exact ⟨rfl, rfl⟩

theorem next_no (b : Nat) (A : Option Addr) (n c : Nat) (w : World) (h : w.heap[b]? = some (.cells #[.slice A n c, .int .i64 0] 45 (0, 0))) :
    Calls Try.prog 24 #[.pointer (some ⟨b, 0, none⟩)] w fun e w' => e = .returned (.func (.func 27) #[.pointer (some ⟨b, 0, none⟩)] #[]) ∧ w = w' := by
  have H : Hid (w.heap[b]? = some (.cells #[.slice A n c, .int .i64 0] 45 (0, 0))) := h
  clear h
  go_enter Try.func24, Try.ntmps24
  go_wp2_with (go_at_call 25; refine (ended_no _ _ _ _ _ H.out).mono ?_; rintro e w' ⟨rfl, rfl⟩)
  go_ret
  exact ⟨rfl, rfl⟩

theorem next_yes (b : Nat) (A : Option Addr) (n c : Nat) (e : Int) (w : World) (h : w.heap[b]? = some (.cells #[.slice A n c, .int .i64 e] 45 (0, 0))) (he : (e != 0) = true) :
    Calls Try.prog 24 #[.pointer (some ⟨b, 0, none⟩)] w fun e w' => e = .returned (.func (.func 26) #[.pointer (some ⟨b, 0, none⟩)] #[]) ∧ w = w' := by
  have H : Hid (w.heap[b]? = some (.cells #[.slice A n c, .int .i64 e] 45 (0, 0))) := h
  clear h
  go_enter Try.func24, Try.ntmps24
  go_wp2_with (go_at_call 25; refine (ended_yes _ _ _ _ _ _ H.out he).mono ?_; rintro e w' ⟨rfl, rfl⟩)
  go_ret
  exact ⟨rfl, rfl⟩

/-- A reader that did not fail fails with x. -/
theorem fail_no (b : Nat) (A : Option Addr) (n c : Nat) (x : Int) (w : World) (h : w.heap[b]? = some (.cells #[.slice A n c, .int .i64 0] 45 (0, 0))) :
    Calls Try.prog 20 #[.pointer (some ⟨b, 0, none⟩), .int .i64 x] w fun e w' => e = .returned (.tuple #[]) ∧ w.setCell ⟨b, 1, none⟩ (.int .i64 x) = w' := by
  have H : Hid (w.heap[b]? = some (.cells #[.slice A n c, .int .i64 0] 45 (0, 0))) := h
  have h1 := two1 h
  have hf := frozen_of_row _ _ 1 _ _ h
  clear h
  go_enter Try.func20, Try.ntmps20
  go_wp2_with (go_at_call 25; refine (ended_no _ _ _ _ _ H.out).mono ?_; rintro e w' ⟨rfl, rfl⟩)
  go_end0
  exact ⟨rfl, rfl⟩

theorem fail_yes (b : Nat) (A : Option Addr) (n c : Nat) (e x : Int) (w : World) (h : w.heap[b]? = some (.cells #[.slice A n c, .int .i64 e] 45 (0, 0))) (he : (e != 0) = true) :
    Calls Try.prog 20 #[.pointer (some ⟨b, 0, none⟩), .int .i64 x] w fun e w' => e = .returned (.tuple #[]) ∧ w = w' := by
  have H : Hid (w.heap[b]? = some (.cells #[.slice A n c, .int .i64 e] 45 (0, 0))) := h
  clear h
  go_enter Try.func20, Try.ntmps20
  go_wp2_with (go_at_call 25; refine (ended_yes _ _ _ _ _ _ H.out he).mono ?_; rintro e w' ⟨rfl, rfl⟩)
  go_end0
  exact ⟨rfl, rfl⟩

/-! ### what a call leaves: it writes to the reader's block alone -/

theorem did_set (w : World) (b i : Nat) (v : Value) : w.grownBy (w.setCell ⟨b, i, none⟩ v) (some b) :=
  ⟨(Below.refl 0 w |>.setCell (p := ⟨b, i, none⟩) (Nat.zero_le _) v).os, (Below.refl 0 w |>.setCell (p := ⟨b, i, none⟩) (Nat.zero_le _) v).tape, (Below.refl 0 w |>.setCell (p := ⟨b, i, none⟩) (Nat.zero_le _) v).output,
   (Below.refl 0 w |>.setCell (p := ⟨b, i, none⟩) (Nat.zero_le _) v).size, fun k _ hk => heap_setCell_other w _ k v (fun e => hk (by rw [e]))⟩
theorem did_trans {w w1 w2 : World} {row : Option Nat} (h : w.grownBy w1 row) (h' : w1.grownBy w2 row) : w.grownBy w2 row :=
  ⟨h'.os.trans h.os, h'.tape.trans h.tape, h'.output.trans h.output, Nat.le_trans h.size h'.size, fun k hk hn => (h'.block k (Nat.lt_of_lt_of_le hk h.size) hn).trans (h.block k hk hn)⟩
theorem did_below {w w' : World} (h : Below w.heap.size w w') (row : Option Nat) : w.grownBy w' row := ⟨h.os, h.tape, h.output, h.size, fun k hk _ => h.block k hk⟩
theorem below_did {w0 w w' : World} {b : Nat} (h : Below w0.heap.size w0 w) (hb : w0.heap.size ≤ b) (hd : w.grownBy w' (some b)) : Below w0.heap.size w0 w' :=
  h.grown hd h.size fun k hk => by injection hk with hk; omega

theorem Rd.far {w : World} {A : Option Addr} {n c b i : Nat} {xs : List Value} (h : Rd w A n c xs) (hA : A = none ∨ ∃ g o, A = some ⟨g, o, none⟩ ∧ g ≠ b) (v : Value) : Rd (w.setCell ⟨b, i, none⟩ v) A n c xs :=
  h.grown (did_set w b i v) fun g hg b' o' hA' => by
    injection hg with hg
    subst hg
    rcases hA with rfl | ⟨g', o'', rfl, hne⟩
    · cases hA'
    · injection hA' with hA'
      injection hA' with h1
      omega

theorem St.left {w : World} {b : Nat} {A A' : Option Addr} {n c n' c' : Nat} {e : Int} {ys : List Int} (h : w.heap[b]? = some (.cells #[.slice A n c, .int .i64 e] 45 (0, 0))) (hr : Rd w A' n' c' (u8s ys)) (hA : A' = none ∨ ∃ g o, A' = some ⟨g, o, none⟩ ∧ g ≠ b) :
    St (w.setCell ⟨b, 0, none⟩ (.slice A' n' c')) b ys e :=
  ⟨A', n', c', by rw [heap_setCell_same w b 0 _ _ _ h]; rfl, Rd.far hr hA _, hA⟩
theorem St.fault {w : World} {b : Nat} {xs : List Int} {e : Int} (h : St w b xs e) (x : Int) : St (w.setCell ⟨b, 1, none⟩ (.int .i64 x)) b xs x := by
  obtain ⟨A, n, c, h, hr, hA⟩ := h
  exact ⟨A, n, c, by rw [heap_setCell_same w b 1 _ _ _ h]; rfl, Rd.far hr hA _, hA⟩

theorem Rd.drop {w : World} {g o n c : Nat} {xs : List Value} (h : Rd w (some ⟨g, o, none⟩) n c xs) {k : Nat} (hk : k ≤ n) : Rd w (some ⟨g, o + k, none⟩) (n - k) (c - k) (xs.drop k) :=
  ⟨by have := h.1; simp; omega, by have := h.2.1; omega, by have := h.2.2.1; omega, fun hp => by
    obtain ⟨b, o', hA, hb, hj⟩ := h.2.2.2 (by omega)
    simp only [Option.some.injEq, Addr.mk.injEq, and_true] at hA
    obtain ⟨rfl, rfl⟩ := hA
    exact ⟨g, o + k, rfl, hb, fun j u hu => by
      rw [List.getElem?_drop] at hu
      rw [Nat.add_assoc]
      exact hj (k + j) u hu⟩⟩

/-- What a call on the reader hands back: bytes that can be read now, and the reader as it stands then. -/
def Cut (w : World) (b : Nat) (ys xs : List Int) (x : Int) (e : Ending) (w' : World) : Prop :=
  ∃ A n c, e = .returned (.slice A n c) ∧ Rd w' A n c (u8s ys) ∧ St w' b xs x ∧ w.grownBy w' (some b)

theorem u8s_drop (xs : List Int) (k : Nat) : (u8s xs).drop k = u8s (xs.drop k) := by simp [u8s]

set_option maxHeartbeats 400000 in
theorem goOn_ok (b k : Nat) (xs : List Int) (w : World) (h : St w b xs 0) (hk : k ≤ xs.length) :
    Calls Try.prog 27 #[.pointer (some ⟨b, 0, none⟩), .int .i64 k] w (Cut w b (xs.take k) (xs.drop k) 0) := by
  obtain ⟨A, n, c, h, hr, hA⟩ := h
  have hl := Rd.bytes hr
  have hn := hr.le
  have hc := hr.cap
  have H : Hid (w.heap[b]? = some (.cells #[.slice A n c, .int .i64 0] 45 (0, 0))) := h
  have h0 := two0 h
  have hf := frozen_of_row _ _ 0 _ _ h
  clear h
  have hk' : k ≤ n := by omega
  have HL : Hid (xs.length = n) := hl
  clear hl
  rcases hA with rfl | ⟨g, o, rfl, hne⟩
  · have h0n : n = 0 := by
      rcases Nat.eq_zero_or_pos n with h | h
      · exact h
      · obtain ⟨_, _, hA, _⟩ := hr.2.2.2 h
        cases hA
    subst h0n
    obtain rfl : k = 0 := by omega
    obtain rfl : xs = [] := List.eq_nil_of_length_eq_zero HL.out
    go_enter Try.func27, Try.ntmps27
    go_wp2_with fail
    go_ret
    exact ⟨none, 0, c, rfl, Rd.empty _ _ hc, St.left H.out (Rd.empty _ _ hc) (.inl rfl), did_set _ _ _ _⟩
  · go_enter Try.func27, Try.ntmps27
    go_wp2_with fail
    · have e : c = k := by assumption
      subst e
      go_ret
      have hn0 : n - c = 0 := by omega
      have hd : xs.drop c = [] := List.drop_of_length_le (by have := HL.out; omega)
      refine ⟨_, _, _, rfl, ?_, ?_, did_set _ _ _ _⟩
      · rw [← u8s_take]; exact Rd.far (hr.take hk') (.inr ⟨g, o, rfl, hne⟩) _
      · rw [hd]
        exact St.left H.out (by rw [hn0]; exact Rd.empty _ _ (by omega)) (.inr ⟨g, o, rfl, hne⟩)
    · go_ret
      refine ⟨_, _, _, rfl, ?_, ?_, did_set _ _ _ _⟩
      · rw [← u8s_take]; exact Rd.far (hr.take hk') (.inr ⟨g, o, rfl, hne⟩) _
      · exact St.left H.out (by rw [← u8s_drop]; exact Rd.drop hr hk') (.inr ⟨g, _, rfl, hne⟩)

theorem goOn_short (b k : Nat) (xs : List Int) (w : World) (h : St w b xs 0) (hk : xs.length < k) (hk2 : k ≤ 9223372036854775807) :
    Calls Try.prog 27 #[.pointer (some ⟨b, 0, none⟩), .int .i64 k] w (Cut w b [] xs 1) := by
  have S : Hid (St w b xs 0) := h
  obtain ⟨A, n, c, h, hr, hA⟩ := h
  have hl := Rd.bytes hr
  have hn := hr.le
  have hc := hr.cap
  have H : Hid (w.heap[b]? = some (.cells #[.slice A n c, .int .i64 0] 45 (0, 0))) := h
  have h0 := two0 h
  clear h
  have hk' : n < k := by omega
  clear hl hA hr
  go_enter Try.func27, Try.ntmps27
  go_wp2_with (go_at_call 20; refine (fail_no _ _ _ _ _ _ H.out).mono ?_; rintro e w' ⟨rfl, rfl⟩)
  go_ret
  exact ⟨none, 0, 0, rfl, Rd.nil _, St.fault S.out 1, did_set _ _ _ _⟩

end Go.Proofs.Ytfgdbflihllkoaa.NumG
