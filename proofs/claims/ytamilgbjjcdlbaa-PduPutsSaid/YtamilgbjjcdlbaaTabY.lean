/- The reference's reader: bytes, a number. Conditions: the reader's block is known, and its bytes read as the list that is named. -/
import Derived.Test.YtamilgbjjcdlbaaTabR
import Derived.Test.YtamilgbjjcdlbaaQTail
import Derived.BigQuiet
namespace Go.Proofs.Ytamilgbjjcdlbaa.TabY
open Go.RowKit Go.Proofs.Ytamilgbjjcdlbaa.Kit Go.Proofs.Ytamilgbjjcdlbaa.NumA Go.Proofs.Ytamilgbjjcdlbaa.NumB Go.Proofs.Ytamilgbjjcdlbaa.Mem Go.Proofs.Ytamilgbjjcdlbaa.TabR Go.Proofs.Ytamilgbjjcdlbaa.QTail

/-- The reference's reader at block b: these bytes are left, and this is how it failed (0: not at all). -/
def SR (w : World) (b : Nat) (xs : List Int) (x : Int) : Prop :=
  ∃ A n c p all, w.heap[b]? = some (.cells #[.slice A n c, .int .i64 ((p : Nat) : Int), .int .i64 x] 61 (0, 0)) ∧ Rd w A n c (u8s all) ∧ p ≤ n ∧ xs = all.drop p ∧ (0 < n → ∀ g o, A = some ⟨g, o, none⟩ → g < b)
theorem Rd.far2 {w : World} {A : Option Addr} {n c b i : Nat} {xs : List Value} (h : Rd w A n c xs) (hA : 0 < n → ∀ g o, A = some ⟨g, o, none⟩ → g < b) (v : Value) : Rd (w.setCell ⟨b, i, none⟩ v) A n c xs :=
  (Keep.set (F := fun q => q = b) w i v rfl).rd h (fun hp b' o hA' hk => by have h1 := hA hp b' o hA'; have h2 : b' = b := hk; omega)
theorem three0 {w : World} {b : Nat} {u v x : Value} {t : TypeId} (h : w.heap[b]? = some (.cells #[u, v, x] t (0, 0))) : w.cell? ⟨b, 0, none⟩ = some u := by rw [cell_of_row _ _ _ _ _ _ h]; rfl
theorem three1 {w : World} {b : Nat} {u v x : Value} {t : TypeId} (h : w.heap[b]? = some (.cells #[u, v, x] t (0, 0))) : w.cell? ⟨b, 1, none⟩ = some v := by rw [cell_of_row _ _ _ _ _ _ h]; rfl
theorem three2 {w : World} {b : Nat} {u v x : Value} {t : TypeId} (h : w.heap[b]? = some (.cells #[u, v, x] t (0, 0))) : w.cell? ⟨b, 2, none⟩ = some x := by rw [cell_of_row _ _ _ _ _ _ h]; rfl
theorem SR.lt {w : World} {b : Nat} {xs : List Int} {x : Int} (h : SR w b xs x) : b < w.heap.size := by
  obtain ⟨A, n, c, p, all, h, _⟩ := h
  exact lt_of_block h
theorem SR.below {w w' : World} {b : Nat} {xs : List Int} {x : Int} (h : SR w b xs x) (hb : Below w.heap.size w w') : SR w' b xs x := by
  obtain ⟨A, n, c, p, all, h, hr, hp, he, hA⟩ := h
  exact ⟨A, n, c, p, all, (hb.block b (lt_of_block h)).trans h, hr.below hb, hp, he, hA⟩
theorem SR.keep {F : Nat → Prop} {w w' : World} {b : Nat} {xs : List Int} {e : Int} (h : SR w b xs e) (k : Mem.Keep F w w') (hF : ∀ i, F i → b < i) : SR w' b xs e := by
  have hlt := SR.lt h
  obtain ⟨A, n, c, p, all, h, hr, hp, he, hA⟩ := h
  exact ⟨A, n, c, p, all, (k.block b hlt (fun h => by have := hF _ h; omega)).trans h, k.rd hr (fun hp0 b' o' hb hk => by have h1 := hA hp0 b' o' hb; have := hF _ hk; omega), hp, he, hA⟩
theorem SR.fault {w : World} {b : Nat} {xs : List Int} {e : Int} (h : SR w b xs e) (x : Int) : SR (w.setCell ⟨b, 2, none⟩ (.int .i64 x)) b xs x := by
  obtain ⟨A, n, c, p, all, h, hr, hp, he, hA⟩ := h
  refine ⟨A, n, c, p, all, ?_, Rd.far2 hr hA _, hp, he, hA⟩
  rw [heap_setCell_same w b 2 _ _ _ h]
  rfl
/-- What a call hands back: bytes, and the reader as it stands then. -/
def GavR (w : World) (b : Nat) (ys xs : List Int) (x : Int) (e : Ending) (w' : World) : Prop :=
  ∃ A n c, e = .returned (.slice A n c) ∧ Rd w' A n c (u8s ys) ∧ SR w' b xs x ∧ w.grownBy w' (some b)
theorem info8q : (Try.prog.info? 5).map (fun i => (i.zero, i.size, i.bytes)) = some (some (.int .u8 0), 1, 1) := by kernel_rfl

set_option maxRecDepth 100000 in
set_option maxHeartbeats 800000 in
theorem rbytes_fault (b k : Nat) (xs : List Int) (x : Int) (w : World) (h : SR w b xs x) (hx : (x != 0) = true) :
    Calls Try.prog 38 #[.pointer (some ⟨b, 0, none⟩), .int .i64 k] w (GavR w b [] xs x) := by
  have S := Lib.hid h
  obtain ⟨A, n, c, p, all, h, hr, hp, he, hA⟩ := h
  have c2 := three2 h
  have h0 : ¬ (x = 0) := by simpa using hx
  clear h hr hp he hA
  go_enter Try.func38, Try.ntmps38
  go_wp2
  go_ret
  exact ⟨none, 0, 0, rfl, Rd.nil _, S.out, World.grownBy.refl _ _⟩
set_option maxRecDepth 100000 in
set_option maxHeartbeats 800000 in
theorem rbytes_short (b k : Nat) (xs : List Int) (w : World) (h : SR w b xs 0) (hk : xs.length < k) (hk2 : k ≤ 100) :
    Calls Try.prog 38 #[.pointer (some ⟨b, 0, none⟩), .int .i64 k] w (GavR w b [] xs 1) := by
  have S := Lib.hid h
  obtain ⟨A, n, c, p, all, h, hr, hp, he, hA⟩ := h
  have c0 := three0 h
  have c1 := three1 h
  have c2 := three2 h
  have f2 := frozen_of_row _ _ 2 _ _ h
  have hl := Rd.bytes hr
  have hn := hr.le
  have hc := hr.cap
  have k0 : (0 : Int) < (k : Int) := by omega
  have k1 : ¬ ((k : Int) ≤ 0) := by omega
  have hlen : xs.length = n - p := by rw [he]; simp; omega
  have hw1 : IntKind.i64.wrap ((n : Int) - (p : Int)) = (n : Int) - (p : Int) := by rw [IntKind.wrap_i64]; omega
  have hcmp : (n : Int) - (p : Int) < (k : Int) := by omega
  have H := Lib.hid h
  have HR := Lib.hid hr
  have HE := Lib.hid he
  have HA := Lib.hid hA
  clear h hr he hA hl hlen
  go_enter Try.func38, Try.ntmps38
  go_wp2_with fail
  go_quiet (fail)
  go_wp2
  go_ret
  exact ⟨none, 0, 0, rfl, Rd.nil _, SR.fault (w := w.drewN nq) ⟨A, n, c, p, all, H.out, HR.out, hp, HE.out, HA.out⟩ 1, show w.grownBy _ _ from ⟨(did_set (w.drewN nq) b 2 _).os, (did_set (w.drewN nq) b 2 _).tape, (did_set (w.drewN nq) b 2 _).output, (did_set (w.drewN nq) b 2 _).size, (did_set (w.drewN nq) b 2 (.int .i64 1)).block⟩⟩
set_option maxRecDepth 100000 in
set_option maxHeartbeats 1600000 in
theorem rbytes_ok (b k : Nat) (xs : List Int) (w : World) (h : SR w b xs 0) (hk : k ≤ xs.length) (hk0 : 0 < k) (hk2 : k ≤ 100) :
    Calls Try.prog 38 #[.pointer (some ⟨b, 0, none⟩), .int .i64 k] w (GavR w b (xs.take k) (xs.drop k) 0) := by
  obtain ⟨i0, hi0, hz0, hz1, hz2⟩ := info_parts info8q
  have S := Lib.hid h
  obtain ⟨A, n, c, p, all, h, hr, hp, he, hA⟩ := h
  have c0 := three0 h
  have c1 := three1 h
  have c2 := three2 h
  have f1 := frozen_of_row _ _ 1 _ _ h
  have hl := Rd.bytes hr
  have hn := hr.le
  have hc := hr.cap
  have hlen : xs.length = n - p := by rw [he]; simp; omega
  obtain ⟨g, o, rfl, _, _⟩ := hr.2.2.2 (by omega)
  have hgb : g < b := hA (by omega) g o rfl
  have hA2 := Lib.hid hA
  have k0 : (0 : Int) < (k : Int) := by omega
  have k1 : ¬ ((k : Int) ≤ 0) := by omega
  have k2 : (0 : Int) ≤ (p : Int) := by omega
  have k3 : (p : Int) ≤ (p : Int) + (k : Int) := by omega
  have k4 : (p : Int) + (k : Int) ≤ (c : Int) := by omega
  have hw1 : IntKind.i64.wrap ((n : Int) - (p : Int)) = (n : Int) - (p : Int) := by rw [IntKind.wrap_i64]; omega
  have hw2 : IntKind.i64.wrap ((p : Int) + (k : Int)) = (p : Int) + (k : Int) := by rw [IntKind.wrap_i64]; omega
  have hcmp : ¬ ((n : Int) - (p : Int) < (k : Int)) := by omega
  have hpc : ¬ (c = p) := by omega
  have ht : ((p : Int) + (k : Int)).toNat = p + k := by omega
  have ht2 : ((p : Int) + (k : Int)).toNat - p = k := by omega
  have H := Lib.hid h
  have HR := Lib.hid hr
  have HE := Lib.hid he
  have hpk : p + k ≤ n := by omega
  have HRK := Lib.hid (show Rd w (some ⟨g, o + p, none⟩) k (c - p) (u8s (xs.take k)) from by
    have h1 := (TabR.Rd.drop hr hp).take (k := k) (by omega)
    rw [u8s_drop, u8s_take, ← he] at h1
    exact h1)
  clear h hr he hA hl hlen
  go_enter Try.func38, Try.ntmps38
  go_wp2_with fail
  go_quiet (fail)
  go_wp2_with fail
  have HRK2 := Lib.hid (HRK.out.drewN nq)
  have H2 := Lib.hid (show (w.drewN nq).heap[b]? = _ from H.out)
  have HR2 := Lib.hid (HR.out.drewN nq)
  have HB2 := Lib.hid (show Below w.heap.size w (w.drewN nq) from ⟨rfl, rfl, rfl, Nat.le_refl _, fun _ _ => rfl⟩)
  obtain ⟨w2, hw2e⟩ : ∃ w2, w2 = w.drewN nq := ⟨_, rfl⟩
  rw [← hw2e] at HRK2 H2 HR2 HB2 ⊢
  clear hw2e c0 c1 c2 f1 H HR HRK
  have c0 := three0 H2.out
  have c1 := three1 H2.out
  have c2 := three2 H2.out
  refine wp_region_any (by kernel_rfl) ?_
  change wpAny _ _ _ _ _ _ _ (World.drew _)
  refine wpAny_take (i := 0) (v := .slice none 0 0) rfl (by kernel_rfl) (by kernel_rfl) (by kernel_rfl) (fun _ _ _ h => h) (Or.inl ⟨by rfl, fun w => by go_simp⟩) ?_
  refine wpAny_qtail (C := fun w' => ∃ n, w' = w2.drewN n) 16 (List.range' 1 15) (by kernel_rfl) (by kernel_rfl) ⟨1, rfl⟩ ?_
  simp only [List.range', Act.put, List.setIfInBounds_toArray]
  repeat (refine wpQI_step rfl (fun qK hqK => ?_); go_simp; refine hqK _ ?_; clear hqK qK)
  refine wpQI_nil ?_
  rintro _ ⟨nq2, rfl⟩
  simp only [List.drop_succ_cons, List.drop_zero]
  have HRK3 := Lib.hid (HRK2.out.drewN nq2)
  have H3 := Lib.hid (show (w2.drewN nq2).heap[b]? = _ from H2.out)
  have HR3 := Lib.hid (HR2.out.drewN nq2)
  have HB3 := Lib.hid (show Below w.heap.size w (w2.drewN nq2) from below_drewN HB2.out nq2)
  obtain ⟨w3, hw3e⟩ : ∃ w3, w3 = w2.drewN nq2 := ⟨_, rfl⟩
  rw [← hw3e] at HRK3 H3 HR3 HB3 ⊢
  clear hw3e c0 c1 c2 H2 HR2 HRK2 HB2
  go_wp2_with (at_builtin; refine wpList_add _ rfl (.tmp 32) (.tmp 47) _ rfl w3.heap.size 5 i0 _ 1 Try.underlying22 hi0 hz0 hz1 hz2 rfl _ 0 [] rfl (World.ownsRow_nil _ _ _ _) (some ⟨g, o + p, none⟩) k (c - p) (u8s (xs.take k)) rfl HRK3.out (u8s_one _) (by omega) (by omega) (Nat.le_refl _) ?_; intro A5 n5 c5 w5 hn5 hown5 hg5 hat5; have hb5 : Below w3.heap.size w3 w5 := below_add (Below.refl _ _) (World.ownsRow_nil w3 w3.heap.size 5 1) (Nat.le_refl _) hg5; have HW5 := Lib.hid ((hb5.block b (lt_of_block H3.out)).trans H3.out); have c1 := three1 HW5.out; have f1 := frozen_of_row _ _ 1 _ _ HW5.out; clear hat5 hg5)
  go_ret
  have HN5 := hn5.out
  rw [List.nil_append] at hown5
  have hs : SR (w5.setCell ⟨b, 1, none⟩ (.int .i64 ((p : Int) + (k : Int)))) b (xs.drop k) 0 := by
    refine ⟨some ⟨g, o, none⟩, n, c, p + k, all, ?_, Rd.far2 (HR3.out.below hb5) hA2.out _, hpk, by rw [HE.out, List.drop_drop], hA2.out⟩
    rw [heap_setCell_same w5 b 1 _ _ _ HW5.out]
    simp
  have hbl : b < w3.heap.size := lt_of_block H3.out
  refine ⟨A5, n5, c5, rfl, (Rd.own hown5).grown (did_set w5 b 1 _) (fun q hq b' o' hA' => ?_), hs, did_trans (did_below (HB3.out.trans (hb5.mono HB3.out.size)) _) (did_set w5 b 1 _)⟩
  injection hq with hq
  have := (hown5.lt b' (by rw [hA']; rfl)).1
  omega
theorem rbytes_any (b k : Nat) (xs : List Int) (x : Int) (w : World) (h : SR w b xs x) (hk0 : 0 < k) (hk2 : k ≤ 100) :
    Calls Try.prog 38 #[.pointer (some ⟨b, 0, none⟩), .int .i64 k] w (GavR w b (if x = 0 ∧ k ≤ xs.length then xs.take k else []) (rdN k xs x).2.1 (rdN k xs x).2.2) := by
  unfold rdN
  by_cases hx : x = 0
  · subst hx
    by_cases hk : k ≤ xs.length
    · rw [if_pos ⟨rfl, hk⟩, if_neg (by simp), if_pos hk]
      exact rbytes_ok b k xs w h hk hk0 hk2
    · rw [if_neg (fun h => hk h.2), if_neg (by simp), if_neg hk]
      exact rbytes_short b k xs w h (by omega) hk2
  · rw [if_neg (fun h => hx h.1), if_pos hx]
    exact rbytes_fault b k xs x w h (by simpa using hx)
/-- What a call that tells a number hands back. -/
def ToldR (w : World) (b : Nat) (n : Int) (xs : List Int) (x : Int) (e : Ending) (w' : World) : Prop := e = .returned (.int .i64 n) ∧ SR w' b xs x ∧ w.grownBy w' (some b)
set_option maxRecDepth 100000 in
set_option maxHeartbeats 1600000 in
theorem rnum_any (b : Nat) (q : Int) (xs : List Int) (x : Int) (w : World) (h : SR w b xs x) (h8 : ∀ u ∈ xs, 0 ≤ u ∧ u ≤ 255) :
    Calls Try.prog 37 #[.pointer (some ⟨b, 0, none⟩), .int .i64 q] w (ToldR w b (rdN (wd q) xs x).1 (rdN (wd q) xs x).2.1 (rdN (wd q) xs x).2.2) := by
  have hw1 := wd_pos q
  have hw2 := wd_le q
  have HB := Lib.hid (rbytes_any b (wd q) xs x w h (by omega) (by omega))
  obtain ⟨ys, hys⟩ : ∃ ys, ys = if x = 0 ∧ wd q ≤ xs.length then xs.take (wd q) else [] := ⟨_, rfl⟩
  have hyl : ys.length ≤ 6 := by
    rw [hys]
    split
    · simp; omega
    · simp
  have HY := Lib.hid (show ∀ u ∈ ys, 0 ≤ u ∧ u ≤ 255 from by
    intro u hu
    rw [hys] at hu
    split at hu
    · exact h8 u (List.mem_of_mem_take hu)
    · simp at hu)
  have HV := Lib.hid (show num ys = (rdN (wd q) xs x).1 from by
    rw [hys]
    unfold rdN
    by_cases hx : x = 0
    · by_cases hk : wd q ≤ xs.length
      · rw [if_pos ⟨hx, hk⟩, if_neg (by simpa using hx), if_pos hk]
      · rw [if_neg (fun h => hk h.2), if_neg (by simpa using hx), if_neg hk]; rfl
    · rw [if_neg (fun h => hx h.1), if_pos hx]; rfl)
  rw [← hys] at HB
  obtain ⟨v, hv⟩ : ∃ v, v = rdN (wd q) xs x := ⟨_, rfl⟩
  rw [← hv] at HB HV ⊢
  clear hys hv h h8
  go_enter Try.func37, Try.ntmps37
  go_wp2_with (first
   | (go_at_call 43; refine (Width_any _ _).mono ?_; rintro e w' ⟨rfl, rfl⟩)
   | (go_at_call 38; refine HB.out.mono ?_; rintro e w1 ⟨A1, n1, c1, rfl, hr1, hs1, hd1⟩))
  have hyn : ys.length = n1 := Rd.bytes hr1
  have HN := Lib.hid hyn
  have hn6 : n1 ≤ 6 := by omega
  have HS1 := Lib.hid hs1
  have HD1 := Lib.hid hd1
  clear hyn hyl HB hs1 hd1
  go_loop [6, 7] (fun s i => ∃ j : Nat, j ≤ n1 ∧ i = .int .i64 j ∧ ∃ a : Nat, s = .int .i64 (a : Int) ∧ Hid ((a : Int) = num (ys.take j)) ∧ Hid (a < 2 ^ (8 * j))) (fun _ i => n1 - (intOf i).toNat)
  case atStart => exact ⟨0, Nat.zero_le _, rfl, 0, rfl, Lib.hid rfl, Lib.hid (by decide)⟩
  case round =>
    obtain ⟨j, hj, rfl, a, rfl, ha, hlt⟩ := hrel
    by_cases hjn : j < n1
    · have hjl : j < ys.length := by have := HN.out; omega
      obtain ⟨bb, o, hA, hc⟩ := Rd.byte hr1 hjl
      subst hA
      obtain ⟨u, hu, hu2⟩ : ∃ u : Nat, ys[j] = (u : Int) ∧ u ≤ 255 := by
        have := HY.out ys[j] (List.getElem_mem hjl)
        exact ⟨ys[j].toNat, by omega, by omega⟩
      rw [hu] at hc
      have HU : Hid (ys[j] = (u : Int)) := hu
      have ha2 : a < 281474976710656 := by
        have := hlt.out
        have := pow_le (k := j) (by omega)
        omega
      clear hu
      go_wp2
      go_round
      case rel =>
        refine ⟨j + 1, by omega, by go_num, 256 * a + u, int_eq (by omega), (show _ = _ from ?_), (show _ < _ from ?_)⟩
        · rw [num_next hjl, ← ha.out, HU.out]
          omega
        · have := hlt.out
          have e : 8 * (j + 1) = 8 * j + 8 := by omega
          rw [e, Nat.pow_add]
          omega
      case measure => simp [intOf]; omega
    · obtain rfl : j = n1 := by omega
      go_wp2
      go_ret
      refine ⟨?_, HS1.out, HD1.out⟩
      have := ha.out
      rw [List.take_of_length_le (by have := HN.out; omega), HV.out] at this
      exact ret_int this
end Go.Proofs.Ytamilgbjjcdlbaa.TabY
