/- A reader's texts, and what they tell in plain terms. Conditions: the reader's block is known, and its bytes read as the list that is named. -/
import Derived.Test.YtlghojnlnfkdhaaDoorTabR
namespace Go.Proofs.YtlghojnlnfkdhaaDoor.TxtR
open Go.RowKit Go.Proofs.YtlghojnlnfkdhaaDoor.Kit Go.Proofs.YtlghojnlnfkdhaaDoor.NumA Go.Proofs.YtlghojnlnfkdhaaDoor.NumB Go.Proofs.YtlghojnlnfkdhaaDoor.TabR

/-- What a call on the reader hands back: bytes in new memory, and the reader as it stands then. -/
def Newer (w : World) (A : Option Addr) (n : Nat) : Prop := 0 < n → ∀ b o, A = some ⟨b, o, none⟩ → w.heap.size ≤ b
theorem new_own {w w1 w2 : World} {e : TypeId} {A : Option Addr} {n c : Nat} {xs : List Value} (h : w2.ownsRow w1.heap.size e 1 (.slice A n c) n xs) (hs : w.heap.size ≤ w1.heap.size) : Newer w A n := fun _ b o hA => by
  have := (h.lt b (by rw [hA]; rfl)).1
  omega
def Gav (w : World) (b : Nat) (ys xs : List Int) (x : Int) (e : Ending) (w' : World) : Prop :=
  ∃ A n c, e = .returned (.slice A n c) ∧ Rd w' A n c (u8s ys) ∧ St w' b xs x ∧ w.grownBy w' (some b) ∧ Newer w A n
set_option maxRecDepth 100000 in
theorem bytes_ok (b k : Nat) (xs : List Int) (w : World) (h : St w b xs 0) (hk : k ≤ xs.length) (hl : k ≤ 100000000000000) :
    Calls Tryd.prog 51 #[.pointer (some ⟨b, 0, none⟩), .int .i64 k] w (Gav w b (xs.take k) (xs.drop k) 0) := by
  have S : Hid (St w b xs 0) := h
  obtain ⟨A, n, c, h, hr0, _⟩ := h
  have H : Hid (w.heap[b]? = some (.cells #[.slice A n c, .int .i64 0] 85 (0, 0))) := h
  clear h hr0
  go_enter Tryd.func51, Tryd.ntmps51
  go_wp2_with (first
   | (go_at_call 49; refine (next_no _ _ _ _ _ H.out).mono ?_; rintro e w' ⟨rfl, rfl⟩)
   | (go_at_call 66; refine (goOn_ok b k xs w S.out hk).mono ?_; rintro e w1 ⟨A1, n1, c1, rfl, hr1, hs1, hd1⟩; have hn1 : n1 ≤ 100000000000000 := by have := Rd.bytes hr1; simp at this; omega)
   | (go_at_call 43; refine (clone_any _ _ _ _ _ hr1 hn1).mono ?_; rintro e w2 ⟨A2, n2, c2, hn2, rfl, hown2, hb2⟩))
  go_ret
  exact ⟨A2, n2, c2, rfl, Rd.own hown2, St.below hs1 hb2, did_trans hd1 (did_below hb2 _), new_own hown2 hd1.size⟩

theorem bytes_short (b k : Nat) (xs : List Int) (w : World) (h : St w b xs 0) (hk : xs.length < k) (hl : k ≤ 100000000000000) :
    Calls Tryd.prog 51 #[.pointer (some ⟨b, 0, none⟩), .int .i64 k] w (Gav w b [] xs 1) := by
  have S : Hid (St w b xs 0) := h
  obtain ⟨A, n, c, h, hr0, _⟩ := h
  have H : Hid (w.heap[b]? = some (.cells #[.slice A n c, .int .i64 0] 85 (0, 0))) := h
  clear h hr0
  go_enter Tryd.func51, Tryd.ntmps51
  go_wp2_with (first
   | (go_at_call 49; refine (next_no _ _ _ _ _ H.out).mono ?_; rintro e w' ⟨rfl, rfl⟩)
   | (go_at_call 66; refine (goOn_short b k xs w S.out hk (by omega)).mono ?_; rintro e w1 ⟨A1, n1, c1, rfl, hr1, hs1, hd1⟩; have hn1 : n1 ≤ 100000000000000 := by have := Rd.bytes hr1; simp at this; omega)
   | (go_at_call 43; refine (clone_any _ _ _ _ _ hr1 hn1).mono ?_; rintro e w2 ⟨A2, n2, c2, hn2, rfl, hown2, hb2⟩))
  go_ret
  exact ⟨A2, n2, c2, rfl, Rd.own hown2, St.below hs1 hb2, did_trans hd1 (did_below hb2 _), new_own hown2 hd1.size⟩

theorem bytes_fault (b : Nat) (x : Int) (xs : List Int) (e : Int) (w : World) (h : St w b xs e) (he : (e != 0) = true) :
    Calls Tryd.prog 51 #[.pointer (some ⟨b, 0, none⟩), .int .i64 x] w (Gav w b [] xs e) := by
  have S : Hid (St w b xs e) := h
  obtain ⟨A, n, c, h, hr0, _⟩ := h
  have H : Hid (w.heap[b]? = some (.cells #[.slice A n c, .int .i64 e] 85 (0, 0))) := h
  clear h hr0
  go_enter Tryd.func51, Tryd.ntmps51
  go_wp2_with (first
   | (go_at_call 49; refine (next_yes _ _ _ _ _ _ H.out he).mono ?_; rintro e w' ⟨rfl, rfl⟩)
   | (go_at_call 65; refine (stay_any _ _ _).mono ?_; rintro e w' ⟨rfl, rfl⟩)
   | (go_at_call 43; refine (clone_any none 0 0 [] _ (Rd.nil _) (by omega)).mono ?_; rintro e w2 ⟨A2, n2, c2, hn2, rfl, hown2, hb2⟩))
  all_goals (go_ret; exact ⟨A2, n2, c2, rfl, Rd.own hown2, St.below S.out hb2, did_below hb2 _, new_own hown2 (Nat.le_refl _)⟩)

theorem text_ok (b k most : Nat) (xs : List Int) (w : World) (h : St w b xs 0) (h2 : 2 ≤ xs.length) (h8 : ∀ u ∈ xs, 0 ≤ u ∧ u ≤ 255) (hk : num (xs.take 2) = k) (hm : k ≤ most) (hl : 2 + k ≤ xs.length) (hkl : k ≤ 100000000000000) :
    Calls Tryd.prog 36 #[.pointer (some ⟨b, 0, none⟩), .int .i64 most] w (Gav w b ((xs.drop 2).take k) ((xs.drop 2).drop k) 0) := by
  have S : Hid (St w b xs 0) := h
  have HK : Hid (num (xs.take 2) = k) := hk
  have H8 : Hid (∀ u ∈ xs, 0 ≤ u ∧ u ≤ 255) := h8
  clear h hk h8
  go_enter Tryd.func36, Tryd.ntmps36
  go_wp2_with (first
   | (go_at_call 35; refine (num_ok b 2 xs w S.out (by rw [wd_two]; exact h2) H8.out).mono ?_; rw [wd_two, HK.out]; rintro e w1 ⟨rfl, hs1, hd1⟩)
   | (go_at_call 51; refine (bytes_ok b k (xs.drop 2) _ hs1 (by simp; omega) hkl).mono ?_; rintro e w2 ⟨A2, n2, c2, rfl, hr2, hs2, hd2, hq2⟩))
  go_ret
  exact ⟨A2, n2, c2, rfl, hr2, hs2, did_trans hd1 hd2, fun h b o hA => Nat.le_trans hd1.size (hq2 h b o hA)⟩

theorem text_short1 (b most : Nat) (xs : List Int) (w : World) (h : St w b xs 0) (h2 : xs.length < 2) :
    Calls Tryd.prog 36 #[.pointer (some ⟨b, 0, none⟩), .int .i64 most] w (Gav w b [] xs 1) := by
  have S : Hid (St w b xs 0) := h
  clear h
  go_enter Tryd.func36, Tryd.ntmps36
  go_wp2_with (first
   | (go_at_call 35; refine (num_short b 2 xs w S.out (by rw [wd_two]; exact h2)).mono ?_; rintro e w1 ⟨rfl, hs1, hd1⟩)
   | (go_at_call 51; refine (bytes_fault b 0 xs 1 _ hs1 (by decide)).mono ?_; rintro e w2 ⟨A2, n2, c2, rfl, hr2, hs2, hd2, hq2⟩))
  go_ret
  exact ⟨A2, n2, c2, rfl, hr2, hs2, did_trans hd1 hd2, fun h b o hA => Nat.le_trans hd1.size (hq2 h b o hA)⟩

theorem text_short2 (b k most : Nat) (xs : List Int) (w : World) (h : St w b xs 0) (h2 : 2 ≤ xs.length) (h8 : ∀ u ∈ xs, 0 ≤ u ∧ u ≤ 255) (hk : num (xs.take 2) = k) (hm : k ≤ most) (hl : xs.length < 2 + k) (hkl : k ≤ 100000000000000) :
    Calls Tryd.prog 36 #[.pointer (some ⟨b, 0, none⟩), .int .i64 most] w (Gav w b [] (xs.drop 2) 1) := by
  have S : Hid (St w b xs 0) := h
  have HK : Hid (num (xs.take 2) = k) := hk
  have H8 : Hid (∀ u ∈ xs, 0 ≤ u ∧ u ≤ 255) := h8
  clear h hk h8
  go_enter Tryd.func36, Tryd.ntmps36
  go_wp2_with (first
   | (go_at_call 35; refine (num_ok b 2 xs w S.out (by rw [wd_two]; exact h2) H8.out).mono ?_; rw [wd_two, HK.out]; rintro e w1 ⟨rfl, hs1, hd1⟩)
   | (go_at_call 51; refine (bytes_short b k (xs.drop 2) _ hs1 (by simp; omega) hkl).mono ?_; rintro e w2 ⟨A2, n2, c2, rfl, hr2, hs2, hd2, hq2⟩))
  go_ret
  exact ⟨A2, n2, c2, rfl, hr2, hs2, did_trans hd1 hd2, fun h b o hA => Nat.le_trans hd1.size (hq2 h b o hA)⟩

theorem text_fault (b most : Nat) (xs : List Int) (e : Int) (w : World) (h : St w b xs e) (he : (e != 0) = true) :
    Calls Tryd.prog 36 #[.pointer (some ⟨b, 0, none⟩), .int .i64 most] w (Gav w b [] xs e) := by
  have S : Hid (St w b xs e) := h
  clear h
  go_enter Tryd.func36, Tryd.ntmps36
  go_wp2_with (first
   | (go_at_call 35; refine (num_fault b 2 xs e w S.out he).mono ?_; rintro e w1 ⟨rfl, hs1, hd1⟩)
   | (go_at_call 51; refine (bytes_fault b 0 xs e _ hs1 he).mono ?_; rintro e w2 ⟨A2, n2, c2, rfl, hr2, hs2, hd2, hq2⟩))
  go_ret
  exact ⟨A2, n2, c2, rfl, hr2, hs2, did_trans hd1 hd2, fun h b o hA => Nat.le_trans hd1.size (hq2 h b o hA)⟩

/-- What a text does, whatever the reader is like: the bytes, what is left, the fault. -/
def rtx (xs : List Int) (e : Int) : List Int × List Int × Int :=
  if e ≠ 0 then ([], xs, e) else if xs.length < 2 then ([], xs, 1) else if 2 + (num (xs.take 2)).toNat ≤ xs.length then ((xs.drop 2).take (num (xs.take 2)).toNat, (xs.drop 2).drop (num (xs.take 2)).toNat, 0) else ([], xs.drop 2, 1)
theorem num_two {xs : List Int} (h2 : 2 ≤ xs.length) (h8 : ∀ u ∈ xs, 0 ≤ u ∧ u ≤ 255) : 0 ≤ num (xs.take 2) ∧ num (xs.take 2) ≤ 65535 := by
  match xs, h2 with
  | x :: y :: zs, _ =>
    have h1 := h8 x (by simp)
    have h2 := h8 y (by simp)
    simp [num]
    omega
theorem text_any (b : Nat) (xs : List Int) (e : Int) (w : World) (h : St w b xs e) (h8 : ∀ u ∈ xs, 0 ≤ u ∧ u ≤ 255) :
    Calls Tryd.prog 36 #[.pointer (some ⟨b, 0, none⟩), .int .i64 65535] w (Gav w b (rtx xs e).1 (rtx xs e).2.1 (rtx xs e).2.2) := by
  unfold rtx
  by_cases he : e = 0
  · subst he
    rw [if_neg (by simp)]
    by_cases h2 : xs.length < 2
    · rw [if_pos h2]
      exact text_short1 b 65535 xs w h h2
    · rw [if_neg h2]
      have hb := num_two (by omega) h8
      have hk : num (xs.take 2) = ((num (xs.take 2)).toNat : Int) := by omega
      by_cases hl : 2 + (num (xs.take 2)).toNat ≤ xs.length
      · rw [if_pos hl]
        exact text_ok b _ 65535 xs w h (by omega) h8 hk (by omega) hl (by omega)
      · rw [if_neg hl]
        exact text_short2 b _ 65535 xs w h (by omega) h8 hk (by omega) (by omega) (by omega)
  · rw [if_pos he]
    exact text_fault b 65535 xs e w h (by simpa using he)

theorem cl_lt (k : Nat) (n : Int) : cl k n < 2 ^ (8 * k) := by have := pow_pos' k; unfold cl; omega
theorem dig_next {k j m : Nat} (hj : j < k) : m / 2 ^ (8 * (k - (j + 1))) = 256 * (m / 2 ^ (8 * (k - j))) + m / 2 ^ (8 * (k - 1 - j)) % 256 := by
  have e1 : k - (j + 1) = k - 1 - j := by omega
  have e2 : 8 * (k - j) = 8 * (k - 1 - j) + 8 := by omega
  rw [e1, e2, Nat.pow_add, ← Nat.div_div_eq_div_mul]
  omega
theorem num_take {k m : Nat} (hm : m < 2 ^ (8 * k)) : ∀ j, j ≤ k → num ((be k m).take j) = ((m / 2 ^ (8 * (k - j)) : Nat) : Int)
  | 0, _ => by
    rw [Nat.sub_zero, Nat.div_eq_of_lt hm]
    rfl
  | j + 1, h => by
    have hl : j < (be k m).length := by rw [be_len]; omega
    rw [num_next hl, num_take hm j (by omega), dig_next (by omega)]
    simp only [be, List.getElem_map, List.getElem_range]
    omega
theorem num_be {k m : Nat} (hm : m < 2 ^ (8 * k)) : num (be k m) = m := by
  have h := num_take hm k (Nat.le_refl _)
  rw [List.take_of_length_le (by rw [be_len]; omega), Nat.sub_self, Nat.mul_zero, Nat.pow_zero, Nat.div_one] at h
  exact h
theorem num_putb (n x : Int) : num (putb n x) = (cl (wd x) n : Nat) := num_be (cl_lt _ _)

theorem be_8 (k m : Nat) : ∀ u ∈ be k m, 0 ≤ u ∧ u ≤ 255 := by
  intro u hu
  simp only [be, List.mem_map, List.mem_range] at hu
  obtain ⟨i, _, rfl⟩ := hu
  omega
/-- One number that was put is told again. -/
theorem rdN_put {k : Nat} {q x : Int} (hk : wd q = k) (h0 : 0 ≤ x) (h1 : x ≤ ((2 ^ (8 * k) - 1 : Nat) : Int)) (ys : List Int) : rdN k (putb x q ++ ys) 0 = (x, ys, 0) := by
  have hl : (putb x q).length = k := by rw [putb_len, hk]
  have hn : num (putb x q) = x := by rw [num_putb, hk]; unfold cl; omega
  unfold rdN
  rw [if_neg (by simp), if_pos (by simp [hl])]
  rw [List.take_left' hl, List.drop_left' hl, hn]
theorem rdN_p1 {x : Int} (h0 : 0 ≤ x) (h1 : x ≤ 255) (ys : List Int) : rdN 1 (putb x 1 ++ ys) 0 = (x, ys, 0) := rdN_put (k := 1) (q := 1) rfl h0 (by have h : ((2 ^ (8 * 1) - 1 : Nat) : Int) = 255 := rfl; rw [h]; exact h1) ys
theorem rdN_p2 {x : Int} (h0 : 0 ≤ x) (h1 : x ≤ 65535) (ys : List Int) : rdN 2 (putb x 2 ++ ys) 0 = (x, ys, 0) := rdN_put (k := 2) (q := 2) rfl h0 (by have h : ((2 ^ (8 * 2) - 1 : Nat) : Int) = 65535 := rfl; rw [h]; exact h1) ys
theorem rtx_put {cs : List Int} (h1 : cs.length ≤ 65535) : rtx (putb (cs.length : Int) 2 ++ cs) 0 = (cs, [], 0) := by
  have hl : (putb (cs.length : Int) 2).length = 2 := by rw [putb_len]; rfl
  have hn : num (putb (cs.length : Int) 2) = (cs.length : Int) := by
    rw [num_putb]
    have h2 : wd 2 = 2 := rfl
    rw [h2]
    unfold cl
    have h : (2 : Nat) ^ (8 * 2) - 1 = 65535 := rfl
    rw [h]; omega
  unfold rtx
  rw [List.take_left' hl, hn, List.drop_left' hl]
  simp [hl]
/-! ### bytes that are cut -/
/-- The one list begins the other, and isn't all of it. -/
def PP (xs full : List Int) : Prop := ∃ t, t ≠ [] ∧ xs ++ t = full
theorem PP.lt {xs full : List Int} (h : PP xs full) : xs.length < full.length := by
  obtain ⟨t, ht, rfl⟩ := h
  have := List.length_pos_iff.2 ht
  simp; omega
theorem PP.take {xs full : List Int} (h : PP xs full) {k : Nat} (hk : k ≤ xs.length) : xs.take k = full.take k := by
  obtain ⟨t, _, rfl⟩ := h
  rw [List.take_append_of_le_length hk]
theorem PP.drop {xs full : List Int} (h : PP xs full) {k : Nat} (hk : k ≤ xs.length) : PP (xs.drop k) (full.drop k) := by
  obtain ⟨t, ht, rfl⟩ := h
  exact ⟨t, ht, by rw [List.drop_append_of_le_length hk]⟩
/-- Behind one number more: failed, or cut still. -/
def Cutd (s : List Int × Int) (full : List Int) : Prop := s.2 = 1 ∨ (s.2 = 0 ∧ PP s.1 full)
theorem Cutd.numb {s : List Int × Int} {a rest : List Int} {k : Nat} (h : Cutd s (a ++ rest)) (hk : a.length = k) : Cutd (rdN k s.1 s.2).2 rest := by
  rcases h with h | ⟨h, hp⟩
  · left
    unfold rdN
    rw [if_pos (by omega)]
    exact h
  · unfold rdN
    rw [if_neg (by omega)]
    by_cases hl : k ≤ s.1.length
    · rw [if_pos hl]
      right
      refine ⟨rfl, ?_⟩
      have := hp.drop hl
      rwa [List.drop_left' hk] at this
    · rw [if_neg hl]
      exact .inl rfl
theorem Cutd.text {s : List Int × Int} {cs : List Int} (h : Cutd s (putb (cs.length : Int) 2 ++ cs)) (h1 : cs.length ≤ 65535) : (rtx s.1 s.2).2.2 = 1 := by
  have hl : (putb (cs.length : Int) 2).length = 2 := by rw [putb_len]; rfl
  rcases h with h | ⟨h, hp⟩
  · unfold rtx
    rw [if_pos (by omega)]
    exact h
  · unfold rtx
    rw [if_neg (by omega)]
    by_cases h2 : s.1.length < 2
    · rw [if_pos h2]
    · rw [if_neg h2]
      have ht := hp.take (k := 2) (by omega)
      rw [List.take_left' hl] at ht
      have hn : num (putb (cs.length : Int) 2) = (cs.length : Int) := by
        rw [num_putb]
        have h2 : wd 2 = 2 := rfl
        rw [h2]
        unfold cl
        have h : (2 : Nat) ^ (8 * 2) - 1 = 65535 := rfl
        rw [h]; omega
      rw [ht, hn]
      have hlt := hp.lt
      rw [List.length_append, hl] at hlt
      rw [if_neg (by simp; omega)]
theorem end_one (xs : List Int) : endN xs 1 = 1 := rfl
end Go.Proofs.YtlghojnlnfkdhaaDoor.TxtR
