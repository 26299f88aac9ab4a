/- A reader that is there, in a seat without texts: what it is in memory, a number; and how it is made. Conditions: the reader's block is known, and its bytes read as the list that is named. How a reader ended. Conditions: the reader's block is known, and its bytes read as the list that is named. -/
import Derived.Test.YtdmfgffjplbloaaJ02
import Derived.Test.YtdmfgffjplbloaaJ01
namespace Go.Proofs.Ytdmfgffjplbloaa.TabR
open Go.RowKit Go.Proofs.Ytdmfgffjplbloaa.Kit Go.Proofs.Ytdmfgffjplbloaa.NumA Go.Proofs.Ytdmfgffjplbloaa.NumB

theorem u8s_take (xs : List Int) (k : Nat) : (u8s xs).take k = u8s (xs.take k) := by simp [u8s]
theorem u8s_append (xs ys : List Int) : u8s xs ++ u8s ys = u8s (xs ++ ys) := by simp [u8s]
theorem stay_any (v : Value) (x : Int) (w : World) : Calls Try.prog 83 #[v, .int .i64 x] w fun e w' => e = .returned (.slice none 0 0) ∧ w = w' := by
  go_enter Try.func83, Try.ntmps83
  go_wp2
  go_ret
  exact ⟨rfl, rfl⟩
theorem eqnil (w : World) (a : Option Addr) (n c n' c' : Nat) : (binOp .eql 42 (.slice a n c) (.slice none n' c')).run Try.prog w = .ok (.bool a.isNone) w :=
  Lib.run_eql_slice_nil w _ _ a n c n' c' Try.underlying42
theorem wd_one : wd 1 = 1 := rfl
theorem wd_two : wd 2 = 2 := rfl
/-- The reader at block b: these bytes are left, and this is how it failed (0: not at all). -/
def St (w : World) (b : Nat) (xs : List Int) (e : Int) : Prop :=
  ∃ A n c, w.heap[b]? = some (.cells #[.slice A n c, .int .i64 e] 118 (0, 0)) ∧ Rd w A n c (u8s xs) ∧ (A = none ∨ ∃ g o, A = some ⟨g, o, none⟩ ∧ g < b)

theorem two0 {w : World} {b : Nat} {u v : Value} {t : TypeId} (h : w.heap[b]? = some (.cells #[u, v] t (0, 0))) : w.cell? ⟨b, 0, none⟩ = some u := by rw [cell_of_row _ _ _ _ _ _ h]; rfl
theorem two1 {w : World} {b : Nat} {u v : Value} {t : TypeId} (h : w.heap[b]? = some (.cells #[u, v] t (0, 0))) : w.cell? ⟨b, 1, none⟩ = some v := by rw [cell_of_row _ _ _ _ _ _ h]; rfl

theorem ended_no (b : Nat) (A : Option Addr) (n c : Nat) (w : World) (h : w.heap[b]? = some (.cells #[.slice A n c, .int .i64 0] 118 (0, 0))) :
    Calls Try.prog 82 #[.pointer (some ⟨b, 0, none⟩)] w fun e w' => e = .returned (.bool false) ∧ w = w' := by
  have h1 := two1 h
  clear h
  go_enter Try.func82, Try.ntmps82
  go_wp2
  go_ret
  exact ⟨rfl, rfl⟩

theorem ended_yes (b : Nat) (A : Option Addr) (n c : Nat) (e : Int) (w : World) (h : w.heap[b]? = some (.cells #[.slice A n c, .int .i64 e] 118 (0, 0))) (he : (e != 0) = true) :
    Calls Try.prog 82 #[.pointer (some ⟨b, 0, none⟩)] w fun e w' => e = .returned (.bool true) ∧ w = w' := by
  have h1 := two1 h
  clear h
  go_enter Try.func82, Try.ntmps82
  go_wp2
  go_ret
  exact ⟨rfl, rfl⟩

theorem next_no (b : Nat) (A : Option Addr) (n c : Nat) (w : World) (h : w.heap[b]? = some (.cells #[.slice A n c, .int .i64 0] 118 (0, 0))) :
    Calls Try.prog 78 #[.pointer (some ⟨b, 0, none⟩)] w fun e w' => e = .returned (.func (.func 84) #[.pointer (some ⟨b, 0, none⟩)] #[]) ∧ w = w' := by
  have H : Hid (w.heap[b]? = some (.cells #[.slice A n c, .int .i64 0] 118 (0, 0))) := h
  clear h
  go_enter Try.func78, Try.ntmps78
  go_wp2_with (go_at_call 82; refine (ended_no _ _ _ _ _ H.out).mono ?_; rintro e w' ⟨rfl, rfl⟩)
  go_ret
  exact ⟨rfl, rfl⟩

theorem next_yes (b : Nat) (A : Option Addr) (n c : Nat) (e : Int) (w : World) (h : w.heap[b]? = some (.cells #[.slice A n c, .int .i64 e] 118 (0, 0))) (he : (e != 0) = true) :
    Calls Try.prog 78 #[.pointer (some ⟨b, 0, none⟩)] w fun e w' => e = .returned (.func (.func 83) #[.pointer (some ⟨b, 0, none⟩)] #[]) ∧ w = w' := by
  have H : Hid (w.heap[b]? = some (.cells #[.slice A n c, .int .i64 e] 118 (0, 0))) := h
  clear h
  go_enter Try.func78, Try.ntmps78
  go_wp2_with (go_at_call 82; refine (ended_yes _ _ _ _ _ _ H.out he).mono ?_; rintro e w' ⟨rfl, rfl⟩)
  go_ret
  exact ⟨rfl, rfl⟩

/-- A reader that did not fail fails with x. -/
theorem fail_no (b : Nat) (A : Option Addr) (n c : Nat) (x : Int) (w : World) (h : w.heap[b]? = some (.cells #[.slice A n c, .int .i64 0] 118 (0, 0))) :
    Calls Try.prog 85 #[.pointer (some ⟨b, 0, none⟩), .int .i64 x] w fun e w' => e = .returned (.tuple #[]) ∧ w.setCell ⟨b, 1, none⟩ (.int .i64 x) = w' := by
  have H : Hid (w.heap[b]? = some (.cells #[.slice A n c, .int .i64 0] 118 (0, 0))) := h
  have h1 := two1 h
  have hf := frozen_of_row _ _ 1 _ _ h
  clear h
  go_enter Try.func85, Try.ntmps85
  go_wp2_with (go_at_call 82; refine (ended_no _ _ _ _ _ H.out).mono ?_; rintro e w' ⟨rfl, rfl⟩)
  go_end0
  exact ⟨rfl, rfl⟩

theorem fail_yes (b : Nat) (A : Option Addr) (n c : Nat) (e x : Int) (w : World) (h : w.heap[b]? = some (.cells #[.slice A n c, .int .i64 e] 118 (0, 0))) (he : (e != 0) = true) :
    Calls Try.prog 85 #[.pointer (some ⟨b, 0, none⟩), .int .i64 x] w fun e w' => e = .returned (.tuple #[]) ∧ w = w' := by
  have H : Hid (w.heap[b]? = some (.cells #[.slice A n c, .int .i64 e] 118 (0, 0))) := h
  clear h
  go_enter Try.func85, Try.ntmps85
  go_wp2_with (go_at_call 82; refine (ended_yes _ _ _ _ _ _ H.out he).mono ?_; rintro e w' ⟨rfl, rfl⟩)
  go_end0
  exact ⟨rfl, rfl⟩

/-! ### what a call leaves: it writes to the reader's block alone -/

theorem did_set (w : World) (b i : Nat) (v : Value) : w.grownBy (w.setCell ⟨b, i, none⟩ v) (some b) :=
  ⟨(Below.refl 0 w |>.setCell (p := ⟨b, i, none⟩) (Nat.zero_le _) v).os, (Below.refl 0 w |>.setCell (p := ⟨b, i, none⟩) (Nat.zero_le _) v).tape, (Below.refl 0 w |>.setCell (p := ⟨b, i, none⟩) (Nat.zero_le _) v).output,
   (Below.refl 0 w |>.setCell (p := ⟨b, i, none⟩) (Nat.zero_le _) v).size, fun k _ hk => heap_setCell_other w _ k v (fun e => hk (by rw [e]))⟩
theorem did_trans {w w1 w2 : World} {row : Option Nat} (h : w.grownBy w1 row) (h' : w1.grownBy w2 row) : w.grownBy w2 row :=
  ⟨h'.os.trans h.os, h'.tape.trans h.tape, h'.output.trans h.output, Nat.le_trans h.size h'.size, fun k hk hn => (h'.block k (Nat.lt_of_lt_of_le hk h.size) hn).trans (h.block k hk hn)⟩
theorem did_below {w w' : World} (h : Below w.heap.size w w') (row : Option Nat) : w.grownBy w' row := ⟨h.os, h.tape, h.output, h.size, fun k hk _ => h.block k hk⟩
theorem below_did {w0 w w' : World} {b : Nat} (h : Below w0.heap.size w0 w) (hb : w0.heap.size ≤ b) (hd : w.grownBy w' (some b)) : Below w0.heap.size w0 w' :=
  h.grown hd h.size fun k hk => by injection hk with hk; omega

theorem Rd.far {w : World} {A : Option Addr} {n c b i : Nat} {xs : List Value} (h : Rd w A n c xs) (hA : A = none ∨ ∃ g o, A = some ⟨g, o, none⟩ ∧ g < b) (v : Value) : Rd (w.setCell ⟨b, i, none⟩ v) A n c xs :=
  h.grown (did_set w b i v) fun g hg b' o' hA' => by
    injection hg with hg
    subst hg
    rcases hA with rfl | ⟨g', o'', rfl, hne⟩
    · cases hA'
    · injection hA' with hA'
      injection hA' with h1
      omega

theorem St.left {w : World} {b : Nat} {A A' : Option Addr} {n c n' c' : Nat} {e : Int} {ys : List Int} (h : w.heap[b]? = some (.cells #[.slice A n c, .int .i64 e] 118 (0, 0))) (hr : Rd w A' n' c' (u8s ys)) (hA : A' = none ∨ ∃ g o, A' = some ⟨g, o, none⟩ ∧ g < b) :
    St (w.setCell ⟨b, 0, none⟩ (.slice A' n' c')) b ys e :=
  ⟨A', n', c', by rw [heap_setCell_same w b 0 _ _ _ h]; rfl, Rd.far hr hA _, hA⟩
theorem St.fault {w : World} {b : Nat} {xs : List Int} {e : Int} (h : St w b xs e) (x : Int) : St (w.setCell ⟨b, 1, none⟩ (.int .i64 x)) b xs x := by
  obtain ⟨A, n, c, h, hr, hA⟩ := h
  exact ⟨A, n, c, by rw [heap_setCell_same w b 1 _ _ _ h]; rfl, Rd.far hr hA _, hA⟩

theorem Rd.drop {w : World} {g o n c : Nat} {xs : List Value} (h : Rd w (some ⟨g, o, none⟩) n c xs) {k : Nat} (hk : k ≤ n) : Rd w (some ⟨g, o + k, none⟩) (n - k) (c - k) (xs.drop k) :=
  ⟨by have := h.1; simp; omega, by have := h.2.1; omega, by have := h.2.2.1; omega, fun hp => by
    obtain ⟨b, o', hA, hb, hj⟩ := h.2.2.2 (by omega)
    simp only [Option.some.injEq, Addr.mk.injEq, and_true] at hA
    obtain ⟨rfl, rfl⟩ := hA
    exact ⟨g, o + k, rfl, hb, fun j u hu => by
      rw [List.getElem?_drop] at hu
      rw [Nat.add_assoc]
      exact hj (k + j) u hu⟩⟩

/-- What a call on the reader hands back: bytes that can be read now, and the reader as it stands then. -/
def Cut (w : World) (b : Nat) (ys xs : List Int) (x : Int) (e : Ending) (w' : World) : Prop :=
  ∃ A n c, e = .returned (.slice A n c) ∧ Rd w' A n c (u8s ys) ∧ St w' b xs x ∧ w.grownBy w' (some b)

theorem u8s_drop (xs : List Int) (k : Nat) : (u8s xs).drop k = u8s (xs.drop k) := by simp [u8s]

set_option maxRecDepth 100000 in
set_option maxHeartbeats 400000 in
theorem goOn_ok (b k : Nat) (xs : List Int) (w : World) (h : St w b xs 0) (hk : k ≤ xs.length) :
    Calls Try.prog 84 #[.pointer (some ⟨b, 0, none⟩), .int .i64 k] w (Cut w b (xs.take k) (xs.drop k) 0) := by
  obtain ⟨A, n, c, h, hr, hA⟩ := h
  have hl := Rd.bytes hr
  have hn := hr.le
  have hc := hr.cap
  have H : Hid (w.heap[b]? = some (.cells #[.slice A n c, .int .i64 0] 118 (0, 0))) := h
  have h0 := two0 h
  have hf := frozen_of_row _ _ 0 _ _ h
  clear h
  have hk' : k ≤ n := by omega
  have HL : Hid (xs.length = n) := hl
  clear hl
  rcases hA with rfl | ⟨g, o, rfl, hne⟩
  · have h0n : n = 0 := by
      rcases Nat.eq_zero_or_pos n with h | h
      · exact h
      · obtain ⟨_, _, hA, _⟩ := hr.2.2.2 h
        cases hA
    subst h0n
    obtain rfl : k = 0 := by omega
    obtain rfl : xs = [] := List.eq_nil_of_length_eq_zero HL.out
    go_enter Try.func84, Try.ntmps84
    go_wp2_with fail
    go_ret
    exact ⟨none, 0, c, rfl, Rd.empty _ _ hc, St.left H.out (Rd.empty _ _ hc) (.inl rfl), did_set _ _ _ _⟩
  · go_enter Try.func84, Try.ntmps84
    go_wp2_with fail
    · have e : c = k := by assumption
      subst e
      go_ret
      have hn0 : n - c = 0 := by omega
      have hd : xs.drop c = [] := List.drop_of_length_le (by have := HL.out; omega)
      refine ⟨_, _, _, rfl, ?_, ?_, did_set _ _ _ _⟩
      · rw [← u8s_take]; exact Rd.far (hr.take hk') (.inr ⟨g, o, rfl, hne⟩) _
      · rw [hd]
        exact St.left H.out (by rw [hn0]; exact Rd.empty _ _ (by omega)) (.inr ⟨g, o, rfl, hne⟩)
    · go_ret
      refine ⟨_, _, _, rfl, ?_, ?_, did_set _ _ _ _⟩
      · rw [← u8s_take]; exact Rd.far (hr.take hk') (.inr ⟨g, o, rfl, hne⟩) _
      · exact St.left H.out (by rw [← u8s_drop]; exact Rd.drop hr hk') (.inr ⟨g, _, rfl, hne⟩)

theorem goOn_short (b k : Nat) (xs : List Int) (w : World) (h : St w b xs 0) (hk : xs.length < k) (_hk2 : k ≤ 9223372036854775807) :
    Calls Try.prog 84 #[.pointer (some ⟨b, 0, none⟩), .int .i64 k] w (Cut w b [] xs 1) := by
  have S : Hid (St w b xs 0) := h
  obtain ⟨A, n, c, h, hr, hA⟩ := h
  have hl := Rd.bytes hr
  have hn := hr.le
  have hc := hr.cap
  have H : Hid (w.heap[b]? = some (.cells #[.slice A n c, .int .i64 0] 118 (0, 0))) := h
  have h0 := two0 h
  clear h
  have hk' : n < k := by omega
  clear hl hA hr
  go_enter Try.func84, Try.ntmps84
  go_wp2_with (go_at_call 85; refine (fail_no _ _ _ _ _ _ H.out).mono ?_; rintro e w' ⟨rfl, rfl⟩)
  go_ret
  exact ⟨none, 0, 0, rfl, Rd.nil _, St.fault S.out 1, did_set _ _ _ _⟩

set_option maxRecDepth 100000 in
set_option maxHeartbeats 400000 in
theorem clone_any (A : Option Addr) (n c : Nat) (xs : List Int) (w : World) (hx : Rd w A n c (u8s xs)) (hl : n ≤ 100000000000000) :
    Calls Try.prog 77 #[.slice A n c] w (Fresh w xs) := by
  obtain ⟨i0, hi0, hz0, hz1, hz2⟩ := info_parts info8
  have q := eqnil
  have HL : Hid (xs.length = n) := Rd.bytes hx
  cases A with
  | none =>
    have h0n : n = 0 := by
      rcases Nat.eq_zero_or_pos n with h | h
      · exact h
      · obtain ⟨_, _, hA, _⟩ := hx.2.2.2 h
        cases hA
    subst h0n
    obtain rfl : xs = [] := List.eq_nil_of_length_eq_zero HL.out
    go_enter Try.func77, Try.ntmps77
    go_wp2_with fail
    go_ret
    exact Fresh.of (World.ownsRow_nil _ _ _ _) (Below.refl _ _)
  | some ad =>
    go_enter Try.func77, Try.ntmps77
    go_wp2_with (at_builtin; refine wpList_add _ rfl (.tmp 5) (.tmp 6) _ rfl w.heap.size 5 i0 _ 1 Try.underlying42 hi0 hz0 hz1 hz2 rfl _ 0 [] rfl (emptied w _) (some ad) n c (u8s xs) rfl (hx.alloc _) (u8s_one _) (by omega) (by omega) (size_alloc _ _) ?_; intro A2 n2 c2 w2 hn2 hown2 hg2 hat2)
    go_ret
    exact Fresh.of hown2 (below_add ((Below.refl _ _).alloc (Nat.le_refl _) _) (emptied w _) (Nat.le_refl _) hg2)

/-- A reader was made: it lies in new memory. -/
def Made (w : World) (xs : List Int) (e : Ending) (w' : World) : Prop :=
  ∃ b : Nat, e = .returned (.pointer (some ⟨b, 0, none⟩)) ∧ w.heap.size ≤ b ∧ St w' b xs 0 ∧ Below w.heap.size w w'

theorem own_addr {w : World} {base : Nat} {e : TypeId} {A : Option Addr} {n c : Nat} {xs : List Value} (h : w.ownsRow base e 1 (.slice A n c) n xs) : A = none ∨ ∃ g o, A = some ⟨g, o, none⟩ ∧ g < w.heap.size := by
  rcases h.2 with ⟨hv, _⟩ | ⟨g, cap, cur, hv, _, hh, _⟩
  · simp only [Value.slice.injEq] at hv
    exact .inl hv.1
  · simp only [Value.slice.injEq] at hv
    exact .inr ⟨g, 0, hv.1, lt_of_block hh⟩

set_option maxRecDepth 100000 in
set_option maxHeartbeats 400000 in
theorem read_any (A : Option Addr) (n c : Nat) (xs : List Int) (w : World) (hx : Rd w A n c (u8s xs)) (hl : n ≤ 100000000000000) :
    Calls Try.prog 69 #[.slice A n c] w (Made w xs) := by
  go_enter Try.func69, Try.ntmps69
  go_wp2_with (go_at_call 77; refine (clone_any A n c xs _ hx hl).mono ?_; rintro e w1 ⟨A1, n1, c1, hn1, rfl, hown1, hb1⟩)
  go_ret
  refine ⟨w1.heap.size, rfl, hb1.size, ⟨A1, n1, c1, heap_alloc_new w1 _, (Rd.own hown1).alloc _, ?_⟩, hb1.alloc hb1.size _⟩
  rcases own_addr hown1 with h | ⟨g, o, h, hlt⟩
  · exact .inl h
  · exact .inr ⟨g, o, h, by omega⟩

/-- The number that bytes tell, the highest first. -/
def num (xs : List Int) : Int := xs.foldl (fun a b => 256 * a + b) 0
theorem num_next {xs : List Int} {j : Nat} (h : j < xs.length) : num (xs.take (j + 1)) = 256 * num (xs.take j) + xs[j] := by
  rw [List.take_succ_eq_append_getElem h, num, List.foldl_append]
  rfl

theorem or256 {a u : Nat} (ha : a < 281474976710656) (hu : u ≤ 255) : bits .or .i64 ((a : Int) * 256) (u : Int) = ((256 * a + u : Nat) : Int) := by
  have h := (bits_nat .i64 63 (by decide) (fun n h0 h1 => IntWalk.i64_in n (by omega)) (256 * a) u (by omega) (by omega)).2
  rw [show ((a : Int) * 256) = ((256 * a : Nat) : Int) by omega, h]
  have h2 : 256 * a + u = 256 * a ||| u := Nat.two_pow_add_eq_or_of_lt (i := 8) (b := u) (by omega) a
  rw [h2]

/-- What a call on the reader hands back: a number, and the reader as it stands then. -/
def Told (w : World) (b : Nat) (n : Int) (xs : List Int) (x : Int) (e : Ending) (w' : World) : Prop :=
  e = .returned (.int .i64 n) ∧ St w' b xs x ∧ w.grownBy w' (some b)

set_option maxRecDepth 100000 in
set_option maxHeartbeats 400000 in
theorem num_ok (b : Nat) (x : Int) (xs : List Int) (w : World) (h : St w b xs 0) (hk : wd x ≤ xs.length) (h8 : ∀ u ∈ xs, 0 ≤ u ∧ u ≤ 255) :
    Calls Try.prog 70 #[.pointer (some ⟨b, 0, none⟩), .int .i64 x] w (Told w b (num (xs.take (wd x))) (xs.drop (wd x)) 0) := by
  have S : Hid (St w b xs 0) := h
  obtain ⟨A, n, c, h, hr0, _⟩ := h
  have H : Hid (w.heap[b]? = some (.cells #[.slice A n c, .int .i64 0] 118 (0, 0))) := h
  clear h hr0
  have H8 : Hid (∀ u ∈ xs, 0 ≤ u ∧ u ≤ 255) := h8
  clear h8
  have hw := wd_le x
  go_enter Try.func70, Try.ntmps70
  go_wp2_with (first
   | (go_at_call 78; refine (next_no _ _ _ _ _ H.out).mono ?_; rintro e w' ⟨rfl, rfl⟩)
   | (go_at_call 63; refine (width_any _ _).mono ?_; rintro e w' ⟨rfl, rfl⟩)
   | (go_at_call 84; refine (goOn_ok b (wd x) xs w S.out hk).mono ?_; rintro e w1 ⟨A1, n1, c1, rfl, hr1, hs1, hd1⟩))
  obtain ⟨ys, hys⟩ : ∃ ys, ys = xs.take (wd x) := ⟨_, rfl⟩
  rw [← hys] at hr1
  have hyl : ys.length = wd x := by rw [hys]; simp; omega
  have hn1 : n1 = wd x := by have := Rd.bytes hr1; omega
  have hy8 : ∀ u ∈ ys, 0 ≤ u ∧ u ≤ 255 := fun u hu => H8.out u (by rw [hys] at hu; exact List.mem_of_mem_take hu)
  have HY : Hid (∀ u ∈ ys, 0 ≤ u ∧ u ≤ 255) := hy8
  have HYL : Hid (ys.length = wd x) := hyl
  have HYS : Hid (ys = xs.take (wd x)) := hys
  have hn6 : n1 ≤ 6 := by omega
  have HN : Hid (n1 = wd x) := hn1
  clear hy8 hyl hys hn1 H8
  go_loopw [5, 14] (fun v i wr => ∃ j : Nat, j ≤ n1 ∧ i = .int .i64 j ∧ w1 = wr ∧ ∃ a : Nat, v = .int .i64 a ∧ Hid ((a : Int) = num (ys.take j)) ∧ Hid (a < 2 ^ (8 * j))) (fun _ i _ => n1 - (intOf i).toNat)
  case atStart => exact ⟨0, Nat.zero_le _, rfl, rfl, 0, rfl, (show _ = _ by simp [num]), (show _ < _ by simp)⟩
  case round =>
    obtain ⟨j, hj, rfl, rfl, a, rfl, ha, hlt⟩ := hrel
    by_cases hjn : j < n1
    · have hjl : j < ys.length := by have := HYL.out; have := HN.out; omega
      obtain ⟨bb, o, hA, hc⟩ := Rd.byte hr1 hjl
      subst hA
      obtain ⟨u, hu, hu2⟩ : ∃ u : Nat, ys[j] = (u : Int) ∧ u ≤ 255 := by
        have := HY.out ys[j] (List.getElem_mem hjl)
        exact ⟨ys[j].toNat, by omega, by omega⟩
      rw [hu] at hc
      have HU : Hid (ys[j] = (u : Int)) := hu
      have ha2 : a < 281474976710656 := by
        have := hlt.out
        have := pow_le (k := j) (by omega)
        omega
      clear hu
      go_wp2
      go_roundw
      case rel =>
        refine ⟨j + 1, by omega, by go_num, trivial, 256 * a + u, int_eq (or256 ha2 hu2), (show _ = _ from ?_), (show _ < _ from ?_)⟩
        · rw [num_next hjl, ← ha.out, HU.out]
          omega
        · have := hlt.out
          have e : 8 * (j + 1) = 8 * j + 8 := by omega
          rw [e, Nat.pow_add]
          omega
      case measure => simp [intOf]; omega
    · obtain rfl : j = n1 := by omega
      go_wp2
      go_ret
      refine ⟨?_, hs1, hd1⟩
      have := ha.out
      rw [List.take_of_length_le (by have := HYL.out; have := HN.out; omega), HYS.out] at this
      exact ret_int this

/-- Of too few bytes no number is told: the reader fails. -/
theorem num_short (b : Nat) (x : Int) (xs : List Int) (w : World) (h : St w b xs 0) (hk : xs.length < wd x) :
    Calls Try.prog 70 #[.pointer (some ⟨b, 0, none⟩), .int .i64 x] w (Told w b 0 xs 1) := by
  have S : Hid (St w b xs 0) := h
  obtain ⟨A, n, c, h, hr0, _⟩ := h
  have H : Hid (w.heap[b]? = some (.cells #[.slice A n c, .int .i64 0] 118 (0, 0))) := h
  clear h hr0
  have hw := wd_le x
  go_enter Try.func70, Try.ntmps70
  go_wp2_with (first
   | (go_at_call 78; refine (next_no _ _ _ _ _ H.out).mono ?_; rintro e w' ⟨rfl, rfl⟩)
   | (go_at_call 63; refine (width_any _ _).mono ?_; rintro e w' ⟨rfl, rfl⟩)
   | (go_at_call 84; refine (goOn_short b (wd x) xs w S.out hk (by omega)).mono ?_; rintro e w1 ⟨A1, n1, c1, rfl, hr1, hs1, hd1⟩))
  obtain rfl : n1 = 0 := by have := Rd.bytes hr1; simpa using this.symm
  refine wp_loop_rounds 1 ?_
  rw [rounds_succ]
  go_wp2
  go_ret
  exact ⟨rfl, hs1, hd1⟩

/-- A reader that failed tells no number. -/
theorem num_fault (b : Nat) (x : Int) (xs : List Int) (e : Int) (w : World) (h : St w b xs e) (he : (e != 0) = true) :
    Calls Try.prog 70 #[.pointer (some ⟨b, 0, none⟩), .int .i64 x] w (Told w b 0 xs e) := by
  have S : Hid (St w b xs e) := h
  obtain ⟨A, n, c, h, hr0, _⟩ := h
  have H : Hid (w.heap[b]? = some (.cells #[.slice A n c, .int .i64 e] 118 (0, 0))) := h
  clear h hr0
  go_enter Try.func70, Try.ntmps70
  go_wp2_with (first
   | (go_at_call 78; refine (next_yes _ _ _ _ _ _ H.out he).mono ?_; rintro e w' ⟨rfl, rfl⟩)
   | (go_at_call 63; refine (width_any _ _).mono ?_; rintro e w' ⟨rfl, rfl⟩)
   | (go_at_call 83; refine (stay_any _ _ _).mono ?_; rintro e w' ⟨rfl, rfl⟩))
  refine wp_loop_rounds 1 ?_
  rw [rounds_succ]
  go_wp2
  go_ret
  exact ⟨rfl, S.out, World.grownBy.refl _ _⟩

/-- What a call on the reader hands back: bytes in new memory, and the reader as it stands then. -/
def Gave (w : World) (b : Nat) (ys xs : List Int) (x : Int) (e : Ending) (w' : World) : Prop :=
  ∃ A n c, e = .returned (.slice A n c) ∧ Rd w' A n c (u8s ys) ∧ St w' b xs x ∧ w.grownBy w' (some b)

theorem St.below {w w' : World} {b : Nat} {xs : List Int} {e : Int} (h : St w b xs e) (hb : Below w.heap.size w w') : St w' b xs e := by
  obtain ⟨A, n, c, h, hr, hA⟩ := h
  exact ⟨A, n, c, (hb.block b (lt_of_block h)).trans h, hr.below hb, hA⟩
theorem St.lt {w : World} {b : Nat} {xs : List Int} {e : Int} (h : St w b xs e) : b < w.heap.size := by
  obtain ⟨A, n, c, h, _⟩ := h
  exact lt_of_block h

/-- What a reader does, whatever it is like: the number, what is left, the fault. -/
def rdN (k : Nat) (xs : List Int) (e : Int) : Int × List Int × Int :=
  if e ≠ 0 then (0, xs, e) else if k ≤ xs.length then (num (xs.take k), xs.drop k, 0) else (0, xs, 1)
theorem num_any (b : Nat) (x : Int) (xs : List Int) (e : Int) (w : World) (h : St w b xs e) (h8 : ∀ u ∈ xs, 0 ≤ u ∧ u ≤ 255) :
    Calls Try.prog 70 #[.pointer (some ⟨b, 0, none⟩), .int .i64 x] w (Told w b (rdN (wd x) xs e).1 (rdN (wd x) xs e).2.1 (rdN (wd x) xs e).2.2) := by
  unfold rdN
  by_cases he : e = 0
  · subst he
    rw [if_neg (by simp)]
    by_cases hk : wd x ≤ xs.length
    · rw [if_pos hk]
      exact num_ok b x xs w h hk h8
    · rw [if_neg hk]
      exact num_short b x xs w h (by omega)
  · rw [if_pos he]
    exact num_fault b x xs e w h (by simpa using he)
/-- The reader is as it was where only blocks behind its own changed. -/
theorem St.keep {F : Nat → Prop} {w w' : World} {b : Nat} {xs : List Int} {e : Int} (h : St w b xs e) (k : Mem.Keep F w w') (hF : ∀ i, F i → b < i) : St w' b xs e := by
  have hlt := St.lt h
  obtain ⟨A, n, c, h, hr, hA⟩ := h
  refine ⟨A, n, c, (k.block b hlt (fun h => by have := hF _ h; omega)).trans h, k.rd hr (fun _ b' o' hb hk => ?_), hA⟩
  rcases hA with rfl | ⟨g, o, rfl, hg⟩
  · cases hb
  · injection hb with hb
    injection hb with h1 _
    have := hF _ hk
    omega
/-- How a reader ended. -/
def endN (xs : List Int) (e : Int) : Int := if e ≠ 0 then e else if xs = [] then 0 else 2
theorem rdN_bytes {k : Nat} {xs : List Int} {e : Int} (h : ∀ u ∈ xs, 0 ≤ u ∧ u ≤ 255) : ∀ u ∈ (rdN k xs e).2.1, 0 ≤ u ∧ u ≤ 255 := by
  unfold rdN
  split
  · exact h
  · split
    · exact fun u hu => h u (List.mem_of_mem_drop hu)
    · exact h
theorem rdN_bd {k : Nat} (hk : k = 1 ∨ k = 2) {xs : List Int} {e : Int} (h : ∀ u ∈ xs, 0 ≤ u ∧ u ≤ 255) : 0 ≤ (rdN k xs e).1 ∧ (rdN k xs e).1 < 256 ^ k := by
  have hp : (0 : Int) < 256 ^ k := by rcases hk with rfl | rfl <;> decide
  unfold rdN
  split
  · exact ⟨by simp, by simpa using hp⟩
  · split
    · rename_i hl
      rcases hk with rfl | rfl
      · match xs, hl with
        | x :: xs, _ =>
          have := h x (by simp)
          simp [num]
          omega
      · match xs, hl with
        | x :: y :: xs, _ =>
          have h1 := h x (by simp)
          have h2 := h y (by simp)
          simp [num]
          omega
    · exact ⟨by simp, by simpa using hp⟩
end Go.Proofs.Ytdmfgffjplbloaa.TabR
namespace Go.Proofs.Ytdmfgffjplbloaa.TabR
open Go.RowKit Go.Proofs.Ytdmfgffjplbloaa.Kit Go.Proofs.Ytdmfgffjplbloaa.NumA Go.Proofs.Ytdmfgffjplbloaa.NumB

theorem end_ok (b : Nat) (w : World) (h : St w b [] 0) :
    Calls Try.prog 71 #[.pointer (some ⟨b, 0, none⟩)] w fun e w' => e = .returned (.int .i64 0) ∧ w = w' := by
  obtain ⟨A, n, c, h, hr0, _⟩ := h
  have h0 := two0 h
  have h1 := two1 h
  obtain rfl : n = 0 := by have := Rd.bytes hr0; simpa using this.symm
  clear h hr0
  go_enter Try.func71, Try.ntmps71
  go_wp2
  go_ret
  exact ⟨rfl, rfl⟩

theorem end_fault (b : Nat) (xs : List Int) (e : Int) (w : World) (h : St w b xs e) (he : (e != 0) = true) :
    Calls Try.prog 71 #[.pointer (some ⟨b, 0, none⟩)] w fun f w' => f = .returned (.int .i64 e) ∧ w = w' := by
  obtain ⟨A, n, c, h, hr0, _⟩ := h
  have h1 := two1 h
  clear h hr0
  go_enter Try.func71, Try.ntmps71
  go_wp2
  go_ret
  exact ⟨rfl, rfl⟩


theorem end_left (b : Nat) (xs : List Int) (w : World) (h : St w b xs 0) (hx : 0 < xs.length) :
    Calls Try.prog 71 #[.pointer (some ⟨b, 0, none⟩)] w fun e w' => e = .returned (.int .i64 2) ∧ w = w' := by
  obtain ⟨A, n, c, h, hr0, _⟩ := h
  have h0 := two0 h
  have h1 := two1 h
  have hn : 0 < n := by have := Rd.bytes hr0; omega
  have hn2 : n ≤ 9223372036854775807 := by have := hr0.2.1; have := hr0.2.2.1; omega
  clear h hr0
  go_enter Try.func71, Try.ntmps71
  go_wp2
  go_ret
  exact ⟨rfl, rfl⟩
theorem end_any (b : Nat) (xs : List Int) (e : Int) (w : World) (h : St w b xs e) :
    Calls Try.prog 71 #[.pointer (some ⟨b, 0, none⟩)] w fun f w' => f = .returned (.int .i64 (endN xs e)) ∧ w = w' := by
  unfold endN
  by_cases he : e = 0
  · subst he
    rw [if_neg (by simp)]
    cases xs with
    | nil => rw [if_pos rfl]; exact end_ok b w h
    | cons x xs => rw [if_neg (by simp)]; exact end_left b _ w h (by simp)
  · rw [if_pos he]
    exact end_fault b xs e w h (by simpa using he)
end Go.Proofs.Ytdmfgffjplbloaa.TabR
