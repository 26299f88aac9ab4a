/- What a reader that is there does: a number, bytes, a text, what is left, how it ended; and how it is made. Conditions: the reader's block is known, and its bytes read as the list that is named. -/
import Derived.Test.YtfgdbflihllkoaaNumG
namespace Go.Proofs.Ytfgdbflihllkoaa.NumH
open Go.RowKit Go.Proofs.Ytfgdbflihllkoaa.Kit Go.Proofs.Ytfgdbflihllkoaa.NumA Go.Proofs.Ytfgdbflihllkoaa.NumB Go.Proofs.Ytfgdbflihllkoaa.NumC Go.Proofs.Ytfgdbflihllkoaa.NumD Go.Proofs.Ytfgdbflihllkoaa.NumE Go.Proofs.Ytfgdbflihllkoaa.NumG

set_option maxHeartbeats 400000 in
theorem clone_any (A : Option Addr) (n c : Nat) (xs : List Int) (w : World) (hx : Rd w A n c (u8s xs)) (hl : n ≤ 100000000000000) :
    Calls Try.prog 23 #[.slice A n c] w (Fresh w xs) := by
  obtain ⟨i0, hi0, hz0, hz1, hz2⟩ := info_parts info8
  have q := eqnil
  have HL : Hid (xs.length = n) := Rd.bytes hx
  cases A with
  | none =>
    have h0n : n = 0 := by
      rcases Nat.eq_zero_or_pos n with h | h
      · exact h
      · obtain ⟨_, _, hA, _⟩ := hx.2.2.2 h
        cases hA
    subst h0n
    obtain rfl : xs = [] := List.eq_nil_of_length_eq_zero HL.out
    go_enter Try.func23, Try.ntmps23
    go_wp2_with fail
    go_ret
    exact Fresh.of (World.ownsRow_nil _ _ _ _) (Below.refl _ _)
  | some ad =>
    go_enter Try.func23, Try.ntmps23
    go_wp2_with (at_builtin; refine wpList_add _ rfl (.tmp 5) (.tmp 6) _ rfl w.heap.size 5 i0 _ 1 Try.underlying22 hi0 hz0 hz1 hz2 rfl _ 0 [] rfl (emptied w _) (some ad) n c (u8s xs) rfl (hx.alloc _) (u8s_one _) (by omega) (by omega) (size_alloc _ _) ?_; intro A2 n2 c2 w2 hn2 hown2 hg2 hat2)
    go_ret
    exact Fresh.of hown2 (below_add ((Below.refl _ _).alloc (Nat.le_refl _) _) (emptied w _) (Nat.le_refl _) hg2)

/-- A reader was made: it lies in new memory. -/
def Made (w : World) (xs : List Int) (e : Ending) (w' : World) : Prop :=
  ∃ b : Nat, e = .returned (.pointer (some ⟨b, 0, none⟩)) ∧ w.heap.size ≤ b ∧ St w' b xs 0 ∧ Below w.heap.size w w'

theorem own_addr {w : World} {base : Nat} {e : TypeId} {A : Option Addr} {n c : Nat} {xs : List Value} (h : w.ownsRow base e 1 (.slice A n c) n xs) : A = none ∨ ∃ g o, A = some ⟨g, o, none⟩ ∧ g < w.heap.size := by
  rcases h.2 with ⟨hv, _⟩ | ⟨g, cap, cur, hv, _, hh, _⟩
  · simp only [Value.slice.injEq] at hv
    exact .inl hv.1
  · simp only [Value.slice.injEq] at hv
    exact .inr ⟨g, 0, hv.1, lt_of_block hh⟩

set_option maxHeartbeats 400000 in
theorem read_any (A : Option Addr) (n c : Nat) (xs : List Int) (w : World) (hx : Rd w A n c (u8s xs)) (hl : n ≤ 100000000000000) :
    Calls Try.prog 14 #[.slice A n c] w (Made w xs) := by
  go_enter Try.func14, Try.ntmps14
  go_wp2_with (go_at_call 23; refine (clone_any A n c xs _ hx hl).mono ?_; rintro e w1 ⟨A1, n1, c1, hn1, rfl, hown1, hb1⟩)
  go_ret
  refine ⟨w1.heap.size, rfl, hb1.size, ⟨A1, n1, c1, heap_alloc_new w1 _, (Rd.own hown1).alloc _, ?_⟩, hb1.alloc hb1.size _⟩
  rcases own_addr hown1 with h | ⟨g, o, h, hlt⟩
  · exact .inl h
  · exact .inr ⟨g, o, h, by omega⟩

/-- The number that bytes tell, the highest first. -/
def num (xs : List Int) : Int := xs.foldl (fun a b => 256 * a + b) 0
theorem num_next {xs : List Int} {j : Nat} (h : j < xs.length) : num (xs.take (j + 1)) = 256 * num (xs.take j) + xs[j] := by
  rw [List.take_succ_eq_append_getElem h, num, List.foldl_append]
  rfl

theorem or256 {a u : Nat} (ha : a < 281474976710656) (hu : u ≤ 255) : bits .or .i64 ((a : Int) * 256) (u : Int) = ((256 * a + u : Nat) : Int) := by
  have h := (bits_nat .i64 63 (by decide) (fun n h0 h1 => IntWalk.i64_in n (by omega)) (256 * a) u (by omega) (by omega)).2
  rw [show ((a : Int) * 256) = ((256 * a : Nat) : Int) by omega, h]
  have h2 : 256 * a + u = 256 * a ||| u := Nat.two_pow_add_eq_or_of_lt (i := 8) (b := u) (by omega) a
  rw [h2]

/-- What a call on the reader hands back: a number, and the reader as it stands then. -/
def Told (w : World) (b : Nat) (n : Int) (xs : List Int) (x : Int) (e : Ending) (w' : World) : Prop :=
  e = .returned (.int .i64 n) ∧ St w' b xs x ∧ w.grownBy w' (some b)

set_option maxHeartbeats 400000 in
theorem num_ok (b : Nat) (x : Int) (xs : List Int) (w : World) (h : St w b xs 0) (hk : wd x ≤ xs.length) (h8 : ∀ u ∈ xs, 0 ≤ u ∧ u ≤ 255) :
    Calls Try.prog 16 #[.pointer (some ⟨b, 0, none⟩), .int .i64 x] w (Told w b (num (xs.take (wd x))) (xs.drop (wd x)) 0) := by
  have S : Hid (St w b xs 0) := h
  obtain ⟨A, n, c, h, hr0, _⟩ := h
  have H : Hid (w.heap[b]? = some (.cells #[.slice A n c, .int .i64 0] 45 (0, 0))) := h
  clear h hr0
  have H8 : Hid (∀ u ∈ xs, 0 ≤ u ∧ u ≤ 255) := h8
  clear h8
  have hw := wd_le x
  go_enter Try.func16, Try.ntmps16
  go_wp2_with (first
   | (go_at_call 24; refine (next_no _ _ _ _ _ H.out).mono ?_; rintro e w' ⟨rfl, rfl⟩)
   | (go_at_call 22; refine (width_any _ _).mono ?_; rintro e w' ⟨rfl, rfl⟩)
   | (go_at_call 27; refine (goOn_ok b (wd x) xs w S.out hk).mono ?_; rintro e w1 ⟨A1, n1, c1, rfl, hr1, hs1, hd1⟩))
  obtain ⟨ys, hys⟩ : ∃ ys, ys = xs.take (wd x) := ⟨_, rfl⟩
  rw [← hys] at hr1
  have hyl : ys.length = wd x := by rw [hys]; simp; omega
  have hn1 : n1 = wd x := by have := Rd.bytes hr1; omega
  have hy8 : ∀ u ∈ ys, 0 ≤ u ∧ u ≤ 255 := fun u hu => H8.out u (by rw [hys] at hu; exact List.mem_of_mem_take hu)
  have HY : Hid (∀ u ∈ ys, 0 ≤ u ∧ u ≤ 255) := hy8
  have HYL : Hid (ys.length = wd x) := hyl
  have HYS : Hid (ys = xs.take (wd x)) := hys
  have hn6 : n1 ≤ 6 := by omega
  have HN : Hid (n1 = wd x) := hn1
  clear hy8 hyl hys hn1 H8
  go_loopw [5, 14] (fun v i wr => ∃ j : Nat, j ≤ n1 ∧ i = .int .i64 j ∧ w1 = wr ∧ ∃ a : Nat, v = .int .i64 a ∧ Hid ((a : Int) = num (ys.take j)) ∧ Hid (a < 2 ^ (8 * j))) (fun _ i _ => n1 - (intOf i).toNat)
  case atStart => exact ⟨0, Nat.zero_le _, rfl, rfl, 0, rfl, (show _ = _ by simp [num]), (show _ < _ by simp)⟩
  case round =>
    obtain ⟨j, hj, rfl, rfl, a, rfl, ha, hlt⟩ := hrel
    by_cases hjn : j < n1
    · have hjl : j < ys.length := by have := HYL.out; have := HN.out; omega
      obtain ⟨bb, o, hA, hc⟩ := Rd.byte hr1 hjl
      subst hA
      obtain ⟨u, hu, hu2⟩ : ∃ u : Nat, ys[j] = (u : Int) ∧ u ≤ 255 := by
        have := HY.out ys[j] (List.getElem_mem hjl)
        exact ⟨ys[j].toNat, by omega, by omega⟩
      rw [hu] at hc
      have HU : Hid (ys[j] = (u : Int)) := hu
      have ha2 : a < 281474976710656 := by
        have := hlt.out
        have := pow_le (k := j) (by omega)
        omega
      clear hu
      go_wp2
      go_roundw
      case rel =>
        refine ⟨j + 1, by omega, by go_num, trivial, 256 * a + u, int_eq (or256 ha2 hu2), (show _ = _ from ?_), (show _ < _ from ?_)⟩
        · rw [num_next hjl, ← ha.out, HU.out]
          omega
        · have := hlt.out
          have e : 8 * (j + 1) = 8 * j + 8 := by omega
          rw [e, Nat.pow_add]
          omega
      case measure => simp [intOf]; omega
    · obtain rfl : j = n1 := by omega
      go_wp2
      go_ret
      refine ⟨?_, hs1, hd1⟩
      have := ha.out
      rw [List.take_of_length_le (by have := HYL.out; have := HN.out; omega), HYS.out] at this
      exact ret_int this

/-- Of too few bytes no number is told: the reader fails. -/
theorem num_short (b : Nat) (x : Int) (xs : List Int) (w : World) (h : St w b xs 0) (hk : xs.length < wd x) :
    Calls Try.prog 16 #[.pointer (some ⟨b, 0, none⟩), .int .i64 x] w (Told w b 0 xs 1) := by
  have S : Hid (St w b xs 0) := h
  obtain ⟨A, n, c, h, hr0, _⟩ := h
  have H : Hid (w.heap[b]? = some (.cells #[.slice A n c, .int .i64 0] 45 (0, 0))) := h
  clear h hr0
  have hw := wd_le x
  go_enter Try.func16, Try.ntmps16
  go_wp2_with (first
   | (go_at_call 24; refine (next_no _ _ _ _ _ H.out).mono ?_; rintro e w' ⟨rfl, rfl⟩)
   | (go_at_call 22; refine (width_any _ _).mono ?_; rintro e w' ⟨rfl, rfl⟩)
   | (go_at_call 27; refine (goOn_short b (wd x) xs w S.out hk (by omega)).mono ?_; rintro e w1 ⟨A1, n1, c1, rfl, hr1, hs1, hd1⟩))
  obtain rfl : n1 = 0 := by have := Rd.bytes hr1; simpa using this.symm
  refine wp_loop_rounds 1 ?_
  rw [rounds_succ]
  go_wp2
  go_ret
  exact ⟨rfl, hs1, hd1⟩

/-- A reader that failed tells no number. -/
theorem num_fault (b : Nat) (x : Int) (xs : List Int) (e : Int) (w : World) (h : St w b xs e) (he : (e != 0) = true) :
    Calls Try.prog 16 #[.pointer (some ⟨b, 0, none⟩), .int .i64 x] w (Told w b 0 xs e) := by
  have S : Hid (St w b xs e) := h
  obtain ⟨A, n, c, h, hr0, _⟩ := h
  have H : Hid (w.heap[b]? = some (.cells #[.slice A n c, .int .i64 e] 45 (0, 0))) := h
  clear h hr0
  go_enter Try.func16, Try.ntmps16
  go_wp2_with (first
   | (go_at_call 24; refine (next_yes _ _ _ _ _ _ H.out he).mono ?_; rintro e w' ⟨rfl, rfl⟩)
   | (go_at_call 22; refine (width_any _ _).mono ?_; rintro e w' ⟨rfl, rfl⟩)
   | (go_at_call 26; refine (stay_any _ _ _).mono ?_; rintro e w' ⟨rfl, rfl⟩))
  refine wp_loop_rounds 1 ?_
  rw [rounds_succ]
  go_wp2
  go_ret
  exact ⟨rfl, S.out, World.grownBy.refl _ _⟩

/-- What a call on the reader hands back: bytes in new memory, and the reader as it stands then. -/
def Gave (w : World) (b : Nat) (ys xs : List Int) (x : Int) (e : Ending) (w' : World) : Prop :=
  ∃ A n c, e = .returned (.slice A n c) ∧ Rd w' A n c (u8s ys) ∧ St w' b xs x ∧ w.grownBy w' (some b)

theorem St.below {w w' : World} {b : Nat} {xs : List Int} {e : Int} (h : St w b xs e) (hb : Below w.heap.size w w') : St w' b xs e := by
  obtain ⟨A, n, c, h, hr, hA⟩ := h
  exact ⟨A, n, c, (hb.block b (lt_of_block h)).trans h, hr.below hb, hA⟩
theorem St.lt {w : World} {b : Nat} {xs : List Int} {e : Int} (h : St w b xs e) : b < w.heap.size := by
  obtain ⟨A, n, c, h, _⟩ := h
  exact lt_of_block h

theorem bytes_ok (b k : Nat) (xs : List Int) (w : World) (h : St w b xs 0) (hk : k ≤ xs.length) (hl : k ≤ 100000000000000) :
    Calls Try.prog 21 #[.pointer (some ⟨b, 0, none⟩), .int .i64 k] w (Gave w b (xs.take k) (xs.drop k) 0) := by
  have S : Hid (St w b xs 0) := h
  obtain ⟨A, n, c, h, hr0, _⟩ := h
  have H : Hid (w.heap[b]? = some (.cells #[.slice A n c, .int .i64 0] 45 (0, 0))) := h
  clear h hr0
  go_enter Try.func21, Try.ntmps21
  go_wp2_with (first
   | (go_at_call 24; refine (next_no _ _ _ _ _ H.out).mono ?_; rintro e w' ⟨rfl, rfl⟩)
   | (go_at_call 27; refine (goOn_ok b k xs w S.out hk).mono ?_; rintro e w1 ⟨A1, n1, c1, rfl, hr1, hs1, hd1⟩; have hn1 : n1 ≤ 100000000000000 := by have := Rd.bytes hr1; simp at this; omega)
   | (go_at_call 23; refine (clone_any _ _ _ _ _ hr1 hn1).mono ?_; rintro e w2 ⟨A2, n2, c2, hn2, rfl, hown2, hb2⟩))
  go_ret
  exact ⟨A2, n2, c2, rfl, Rd.own hown2, St.below hs1 hb2, did_trans hd1 (did_below hb2 _)⟩

theorem bytes_short (b k : Nat) (xs : List Int) (w : World) (h : St w b xs 0) (hk : xs.length < k) (hl : k ≤ 100000000000000) :
    Calls Try.prog 21 #[.pointer (some ⟨b, 0, none⟩), .int .i64 k] w (Gave w b [] xs 1) := by
  have S : Hid (St w b xs 0) := h
  obtain ⟨A, n, c, h, hr0, _⟩ := h
  have H : Hid (w.heap[b]? = some (.cells #[.slice A n c, .int .i64 0] 45 (0, 0))) := h
  clear h hr0
  go_enter Try.func21, Try.ntmps21
  go_wp2_with (first
   | (go_at_call 24; refine (next_no _ _ _ _ _ H.out).mono ?_; rintro e w' ⟨rfl, rfl⟩)
   | (go_at_call 27; refine (goOn_short b k xs w S.out hk (by omega)).mono ?_; rintro e w1 ⟨A1, n1, c1, rfl, hr1, hs1, hd1⟩; have hn1 : n1 ≤ 100000000000000 := by have := Rd.bytes hr1; simp at this; omega)
   | (go_at_call 23; refine (clone_any _ _ _ _ _ hr1 hn1).mono ?_; rintro e w2 ⟨A2, n2, c2, hn2, rfl, hown2, hb2⟩))
  go_ret
  exact ⟨A2, n2, c2, rfl, Rd.own hown2, St.below hs1 hb2, did_trans hd1 (did_below hb2 _)⟩

theorem bytes_fault (b : Nat) (x : Int) (xs : List Int) (e : Int) (w : World) (h : St w b xs e) (he : (e != 0) = true) :
    Calls Try.prog 21 #[.pointer (some ⟨b, 0, none⟩), .int .i64 x] w (Gave w b [] xs e) := by
  have S : Hid (St w b xs e) := h
  obtain ⟨A, n, c, h, hr0, _⟩ := h
  have H : Hid (w.heap[b]? = some (.cells #[.slice A n c, .int .i64 e] 45 (0, 0))) := h
  clear h hr0
  go_enter Try.func21, Try.ntmps21
  go_wp2_with (first
   | (go_at_call 24; refine (next_yes _ _ _ _ _ _ H.out he).mono ?_; rintro e w' ⟨rfl, rfl⟩)
   | (go_at_call 26; refine (stay_any _ _ _).mono ?_; rintro e w' ⟨rfl, rfl⟩)
   | (go_at_call 23; refine (clone_nil _).mono ?_; rintro e w' ⟨rfl, rfl⟩))
  all_goals (go_ret; exact ⟨none, 0, 0, rfl, Rd.nil _, S.out, World.grownBy.refl _ _⟩)

end Go.Proofs.Ytfgdbflihllkoaa.NumH
