/- The program's Set: Len, Send, Get, Has. Conditions: it lies as the facts say; numbers of 64 bits. -/
import Derived.Test.YtegnehdfedfphaaJ03
namespace Go.Proofs.Ytegnehdfedfphaa.PrtE
open Go.RowKit Go.Proofs.Ytegnehdfedfphaa.Kit Go.Proofs.Ytegnehdfedfphaa.Byt Go.Proofs.Ytegnehdfedfphaa.Mem Go.Proofs.Ytegnehdfedfphaa.TabI Go.Proofs.Ytegnehdfedfphaa.PrtM Go.Proofs.Ytegnehdfedfphaa.PrtA Go.Proofs.Ytegnehdfedfphaa.PrtB Go.Proofs.Ytegnehdfedfphaa.PrtC Go.Proofs.Ytegnehdfedfphaa.PrtD
open Go.Proofs.Ytegnehdfedfphaa.TabA (Tri Tris)

section
variable {B S n c : Nat} {w : World} {ρ : Nat → Lab} {A : Option Addr} {Q : Nat → Nat} {C : List Tri} {L : Nat → List Int} {r : Tri}
set_option maxRecDepth 100000 in
theorem len_any (hB : Blk w S 94 [.slice A n c]) : Calls Try.prog 51 #[.pointer (some ⟨S, 0, none⟩)] w fun e w' => e = .returned (.int .i64 (n : Nat)) ∧ w' = w := by
  have c0 := hB.cell (i := 0) rfl
  clear hB
  go_enter Try.func51, Try.ntmps51
  go_wp2
  go_ret
  exact ⟨rfl, rfl⟩
set_option maxRecDepth 100000 in
theorem len_nil (w : World) : Calls Try.prog 51 #[.pointer none] w fun e w' => e = .returned (.int .i64 0) ∧ w' = w := by
  go_enter Try.func51, Try.ntmps51
  go_wp2
  go_ret
  exact ⟨rfl, rfl⟩
set_option maxRecDepth 100000 in
theorem there_any (hB : Blk w S 94 [.slice A n c]) (k : Int) (b : Bool) (hb : b = decide (0 ≤ k ∧ k < (n : Int))) : Calls Try.prog 35 #[.pointer (some ⟨S, 0, none⟩), .int .i64 k] w fun e w' => e = .returned (.bool b) ∧ w' = w := by
  have HL := Lib.hid (len_any hB)
  have Hb := Lib.hid hb
  clear hB hb
  by_cases h0 : 0 ≤ k
  · go_enter Try.func35, Try.ntmps35
    go_wp2_with (go_at_call 51; refine HL.out.mono ?_; rintro e w1 ⟨rfl, rfl⟩)
    go_ret
    exact ⟨ret_bool (by rw [Hb.out]; simp [h0]), rfl⟩
  · go_enter Try.func35, Try.ntmps35
    go_wp2
    go_ret
    exact ⟨ret_bool (by rw [Hb.out]; simp; omega), rfl⟩
set_option maxRecDepth 100000 in
theorem there_nil (k : Int) (w : World) : Calls Try.prog 35 #[.pointer none, .int .i64 k] w fun e w' => e = .returned (.bool false) ∧ w' = w := by
  have HL := Lib.hid (len_nil w)
  by_cases h0 : 0 ≤ k
  · have h1 : decide (k < 0) = false := by simpa using h0
    go_enter Try.func35, Try.ntmps35
    go_wp2_with (go_at_call 51; refine HL.out.mono ?_; rintro e w1 ⟨rfl, rfl⟩)
    go_ret
    exact ⟨rfl, rfl⟩
  · go_enter Try.func35, Try.ntmps35
    go_wp2
    go_ret
    exact ⟨rfl, rfl⟩
set_option maxRecDepth 100000 in
theorem send_nil (p k y : Int) (w : World) : Calls Try.prog 16 #[.pointer none, .int .i64 p, .int .i64 k, .int .i64 y] w fun e w' => e = .returned (.tuple #[.bool false, .int .i64 7]) ∧ w' = w := by
  go_enter Try.func16, Try.ntmps16
  go_wp2
  go_ret2
  exact ⟨rfl, rfl⟩
set_option maxRecDepth 100000 in
theorem get_nil (p k : Int) (w : World) : Calls Try.prog 100 #[.pointer none, .int .i64 p, .int .i64 k] w fun e w' => e = .returned (.tuple #[.int .i64 0, .bool false, .int .i64 7]) ∧ w' = w := by
  go_enter Try.func100, Try.ntmps100
  go_wp2
  refine bodyPost_ret (results_tmp3 rfl _ _ _) rfl ?_
  exact ⟨rfl, rfl⟩
set_option maxRecDepth 100000 in
theorem has_nil (k : Int) (w : World) : Calls Try.prog 22 #[.pointer none, .int .i64 k] w fun e w' => e = .returned (.slice none 0 0) ∧ w' = w := by
  have HT := Lib.hid (there_nil k w)
  go_enter Try.func22, Try.ntmps22
  go_wp2_with (go_at_call 35; refine HT.out.mono ?_; rintro e w1 ⟨rfl, rfl⟩)
  go_ret
  exact ⟨rfl, rfl⟩
set_option maxRecDepth 100000 in
theorem meth_send (m : Nat) (d : Int) (a : Addr) (w : World) : (method (m + 1) (kind d) (.pointer (some a)) "longeron/port.send").run Try.prog w = .ok ((if d = 0 then 105 else 109), .pointer (some a)) w := by
  by_cases h : d = 0
  · rw [if_pos h, kind, if_pos h]
    kernel_rfl
  · rw [if_neg h, kind, if_neg h]
    kernel_rfl
set_option maxRecDepth 100000 in
theorem send_yes (h : Chs B w ρ S A n c Q C L) {k : Nat} (hr : C[k]? = some r) (p y : Int) (ha : r.a = p) (h0 : 0 ≤ y) (h1 : y ≤ 65535) :
    Calls Try.prog 16 #[.pointer (some ⟨S, 0, none⟩), .int .i64 p, .int .i64 (k : Nat), .int .i64 y] w (Lft B w ρ S A n c Q C (up L k (sndL r.c (L k) y)) (.tuple #[.bool (!full r.c (L k)), .int .i64 0])) := by
  have hk : k < n := by have := (List.getElem?_eq_some_iff.1 hr).1; rw [h.len] at this; exact this
  have hk64 : n ≤ 9223372036854775807 := by have := h.most; omega
  have HT := Lib.hid (there_any h.set (k : Nat) true (by simp; omega))
  have hc := cont_send h hr y
  obtain ⟨r', b, o, hr', _, rfl, hbl, k0, k1, k2⟩ := h.at_ hk
  obtain rfl : r = r' := by rw [hr] at hr'; injection hr'
  have s0 := h.set.cell (i := 0) rfl
  subst ha
  have hm := fun (m : Nat) (w : World) => meth_send m r.c ⟨Q k, 0, none⟩ w
  obtain ⟨P, hP⟩ : ∃ P, P = Lft B w ρ S (some ⟨b, o, none⟩) n c Q C (up L k (sndL r.c (L k) y)) := ⟨_, rfl⟩
  obtain ⟨v, hv⟩ : ∃ v, v = !full r.c (L k) := ⟨_, rfl⟩
  rw [← hP, ← hv] at hc ⊢
  have HP := Lib.hid (show ∀ (v v' : Value) (e : Ending) (w' : World), P v e w' → P v' (.returned v') w' from by rw [hP]; rintro v v' e w' ⟨_, h⟩; exact ⟨rfl, h⟩)
  have HE := Lib.hid (show ∀ (v : Value) (e : Ending) (w' : World), P v e w' → e = .returned v from by rw [hP]; rintro v e w' ⟨h, _⟩; exact h)
  clear h hr hr' hP hv
  by_cases hd : r.c = 0
  · rw [kind, if_pos hd] at k2
    simp only [kind, if_pos hd] at hm
    rw [if_pos hd] at hc
    have HC := Lib.hid hc
    clear hd hc
    go_enter Try.func16, Try.ntmps16
    go_wp2_with (first
      | (go_at_call 35; refine HT.out.mono ?_; rintro e w1 ⟨rfl, rfl⟩)
      | (go_at_call 105; refine HC.out.mono ?_; intro e w2 H2; obtain rfl := HE.out _ _ _ H2; have H3 := Lib.hid H2; clear H2))
    exact HP.out _ _ _ _ H3.out
  · rw [kind, if_neg hd] at k2
    simp only [kind, if_neg hd] at hm
    rw [if_neg hd] at hc
    have HC := Lib.hid hc
    clear hd hc
    go_enter Try.func16, Try.ntmps16
    go_wp2_with (first
      | (go_at_call 35; refine HT.out.mono ?_; rintro e w1 ⟨rfl, rfl⟩)
      | (go_at_call 109; refine HC.out.mono ?_; intro e w2 H2; obtain rfl := HE.out _ _ _ H2; have H3 := Lib.hid H2; clear H2))
    exact HP.out _ _ _ _ H3.out
set_option maxRecDepth 100000 in
theorem meth_get (m : Nat) (d : Int) (a : Addr) (w : World) : (method (m + 1) (kind d) (.pointer (some a)) "longeron/port.get").run Try.prog w = .ok ((if d = 0 then 103 else 107), .pointer (some a)) w := by
  by_cases h : d = 0
  · rw [if_pos h, kind, if_pos h]
    kernel_rfl
  · rw [if_neg h, kind, if_neg h]
    kernel_rfl
set_option maxRecDepth 100000 in
theorem meth_has (m : Nat) (d : Int) (a : Addr) (w : World) : (method (m + 1) (kind d) (.pointer (some a)) "longeron/port.has").run Try.prog w = .ok ((if d = 0 then 104 else 108), .pointer (some a)) w := by
  by_cases h : d = 0
  · rw [if_pos h, kind, if_pos h]
    kernel_rfl
  · rw [if_neg h, kind, if_neg h]
    kernel_rfl
set_option maxRecDepth 100000 in
theorem get_yes (h : Chs B w ρ S A n c Q C L) {k : Nat} (hr : C[k]? = some r) (p : Int) (hb : r.b = p) :
    Calls Try.prog 100 #[.pointer (some ⟨S, 0, none⟩), .int .i64 p, .int .i64 (k : Nat)] w (Lft B w ρ S A n c Q C (up L k (getL r.c (L k))) (.tuple #[.int .i64 (getN (L k)), .bool (getB (L k)), .int .i64 0])) := by
  have hk : k < n := by have := (List.getElem?_eq_some_iff.1 hr).1; rw [h.len] at this; exact this
  have hk64 : n ≤ 9223372036854775807 := by have := h.most; omega
  have HT := Lib.hid (there_any h.set (k : Nat) true (by simp; omega))
  have hc := cont_get h hr
  obtain ⟨r', b, o, hr', _, rfl, hbl, k0, k1, k2⟩ := h.at_ hk
  obtain rfl : r = r' := by rw [hr] at hr'; injection hr'
  have s0 := h.set.cell (i := 0) rfl
  subst hb
  have hm := fun (m : Nat) (w : World) => meth_get m r.c ⟨Q k, 0, none⟩ w
  obtain ⟨P, hP⟩ : ∃ P, P = Lft B w ρ S (some ⟨b, o, none⟩) n c Q C (up L k (getL r.c (L k))) := ⟨_, rfl⟩
  obtain ⟨v, hv⟩ : ∃ v, v = getN (L k) := ⟨_, rfl⟩
  obtain ⟨z, hz⟩ : ∃ z, z = getB (L k) := ⟨_, rfl⟩
  rw [← hP, ← hv, ← hz] at hc ⊢
  have HP := Lib.hid (show ∀ (v v' : Value) (e : Ending) (w' : World), P v e w' → P v' (.returned v') w' from by rw [hP]; rintro v v' e w' ⟨_, h⟩; exact ⟨rfl, h⟩)
  have HE := Lib.hid (show ∀ (v : Value) (e : Ending) (w' : World), P v e w' → e = .returned v from by rw [hP]; rintro v e w' ⟨h, _⟩; exact h)
  clear h hr hr' hP hv hz
  by_cases hd : r.c = 0
  · rw [kind, if_pos hd] at k2
    simp only [kind, if_pos hd] at hm
    rw [if_pos hd] at hc
    have HC := Lib.hid hc
    clear hd hc
    go_enter Try.func100, Try.ntmps100
    go_wp2_with (first
      | (go_at_call 35; refine HT.out.mono ?_; rintro e w1 ⟨rfl, rfl⟩)
      | (go_at_call 103; refine HC.out.mono ?_; intro e w2 H2; obtain rfl := HE.out _ _ _ H2; have H3 := Lib.hid H2; clear H2))
    refine bodyPost_ret (results_tmp3 rfl _ _ _) rfl ?_
    exact HP.out _ _ _ _ H3.out
  · rw [kind, if_neg hd] at k2
    simp only [kind, if_neg hd] at hm
    rw [if_neg hd] at hc
    have HC := Lib.hid hc
    clear hd hc
    go_enter Try.func100, Try.ntmps100
    go_wp2_with (first
      | (go_at_call 35; refine HT.out.mono ?_; rintro e w1 ⟨rfl, rfl⟩)
      | (go_at_call 107; refine HC.out.mono ?_; intro e w2 H2; obtain rfl := HE.out _ _ _ H2; have H3 := Lib.hid H2; clear H2))
    refine bodyPost_ret (results_tmp3 rfl _ _ _) rfl ?_
    exact HP.out _ _ _ _ H3.out
set_option maxRecDepth 100000 in
theorem send_no (h : Chs B w ρ S A n c Q C L) (p k y : Int) (hk : sndOk C p k = false) :
    Calls Try.prog 16 #[.pointer (some ⟨S, 0, none⟩), .int .i64 p, .int .i64 k, .int .i64 y] w fun e w' => e = .returned (.tuple #[.bool false, .int .i64 15]) ∧ w' = w := by
  have hk64 : n ≤ 9223372036854775807 := by have := h.most; omega
  have s0 := h.set.cell (i := 0) rfl
  by_cases hin : 0 ≤ k ∧ k < (n : Int)
  · obtain ⟨k', rfl⟩ : ∃ k' : Nat, k = k' := ⟨k.toNat, by omega⟩
    have HT := Lib.hid (there_any h.set (k' : Nat) true (by simp; omega))
    have hkn : k' < n := by omega
    obtain ⟨r, b, o, hr, _, rfl, hbl, k0, k1, k2⟩ := h.at_ hkn
    have hne : (r.a != p) = true := by
      rw [sndOk_at hr] at hk
      simpa using hk
    obtain ⟨x, hx⟩ : ∃ x, x = r.a := ⟨_, rfl⟩
    rw [← hx] at hne k0
    clear hk h hr hx hin
    go_enter Try.func16, Try.ntmps16
    go_wp2_with (go_at_call 35; refine HT.out.mono ?_; rintro e w1 ⟨rfl, rfl⟩)
    go_ret2
    exact ⟨rfl, rfl⟩
  · have HT := Lib.hid (there_any h.set k false (by simp; omega))
    clear hk h hin
    go_enter Try.func16, Try.ntmps16
    go_wp2_with (go_at_call 35; refine HT.out.mono ?_; rintro e w1 ⟨rfl, rfl⟩)
    go_ret2
    exact ⟨rfl, rfl⟩
set_option maxRecDepth 100000 in
theorem get_no (h : Chs B w ρ S A n c Q C L) (p k : Int) (hk : getOk C p k = false) :
    Calls Try.prog 100 #[.pointer (some ⟨S, 0, none⟩), .int .i64 p, .int .i64 k] w fun e w' => e = .returned (.tuple #[.int .i64 0, .bool false, .int .i64 15]) ∧ w' = w := by
  have hk64 : n ≤ 9223372036854775807 := by have := h.most; omega
  have s0 := h.set.cell (i := 0) rfl
  by_cases hin : 0 ≤ k ∧ k < (n : Int)
  · obtain ⟨k', rfl⟩ : ∃ k' : Nat, k = k' := ⟨k.toNat, by omega⟩
    have HT := Lib.hid (there_any h.set (k' : Nat) true (by simp; omega))
    have hkn : k' < n := by omega
    obtain ⟨r, b, o, hr, _, rfl, hbl, k0, k1, k2⟩ := h.at_ hkn
    have hne : (r.b != p) = true := by
      rw [getOk_at hr] at hk
      simpa using hk
    obtain ⟨x, hx⟩ : ∃ x, x = r.b := ⟨_, rfl⟩
    rw [← hx] at hne k1
    clear hk h hr hx hin
    go_enter Try.func100, Try.ntmps100
    go_wp2_with (go_at_call 35; refine HT.out.mono ?_; rintro e w1 ⟨rfl, rfl⟩)
    refine bodyPost_ret (results_tmp3 rfl _ _ _) rfl ?_
    exact ⟨rfl, rfl⟩
  · have HT := Lib.hid (there_any h.set k false (by simp; omega))
    clear hk h hin
    go_enter Try.func100, Try.ntmps100
    go_wp2_with (go_at_call 35; refine HT.out.mono ?_; rintro e w1 ⟨rfl, rfl⟩)
    refine bodyPost_ret (results_tmp3 rfl _ _ _) rfl ?_
    exact ⟨rfl, rfl⟩
set_option maxRecDepth 100000 in
theorem send_range (h : Chs B w ρ S A n c Q C L) {k : Nat} (hr : C[k]? = some r) (p y : Int) (ha : r.a = p) (hy : y < 0 ∨ 65535 < y) :
    Calls Try.prog 16 #[.pointer (some ⟨S, 0, none⟩), .int .i64 p, .int .i64 (k : Nat), .int .i64 y] w fun e w' => e = .returned (.tuple #[.bool false, .int .i64 3]) ∧ w' = w := by
  have hk : k < n := by have := (List.getElem?_eq_some_iff.1 hr).1; rw [h.len] at this; exact this
  have hk64 : n ≤ 9223372036854775807 := by have := h.most; omega
  have HT := Lib.hid (there_any h.set (k : Nat) true (by simp; omega))
  obtain ⟨r', b, o, hr', _, rfl, hbl, k0, k1, k2⟩ := h.at_ hk
  obtain rfl : r = r' := by rw [hr] at hr'; injection hr'
  have s0 := h.set.cell (i := 0) rfl
  subst ha
  clear h hr hr'
  rcases hy with hy | hy
  · go_enter Try.func16, Try.ntmps16
    go_wp2_with (go_at_call 35; refine HT.out.mono ?_; rintro e w1 ⟨rfl, rfl⟩)
    go_ret2
    exact ⟨rfl, rfl⟩
  · have h0 : ¬ y < 0 := by omega
    go_enter Try.func16, Try.ntmps16
    go_wp2_with (go_at_call 35; refine HT.out.mono ?_; rintro e w1 ⟨rfl, rfl⟩)
    go_ret2
    exact ⟨rfl, rfl⟩
/-- Send, whatever is asked. -/
theorem send_any (h : Chs B w ρ S A n c Q C L) (p k y : Int) :
    Calls Try.prog 16 #[.pointer (some ⟨S, 0, none⟩), .int .i64 p, .int .i64 k, .int .i64 y] w (Lft B w ρ S A n c Q C (snds C L p k y).2 (.tuple #[.bool (snds C L p k y).1.1, .int .i64 (snds C L p k y).1.2])) := by
  cases hk : sndOk C p k with
  | false =>
    rw [snds_no hk]
    refine (send_no h p k y hk).mono ?_
    rintro e w' ⟨rfl, rfl⟩
    exact Lft.same h _ (Below.refl _ _)
  | true =>
    obtain ⟨k', r, rfl, hr, ha⟩ : ∃ (k' : Nat) (r : Tri), k = k' ∧ C[k']? = some r ∧ r.a = p := by
      unfold sndOk chan at hk
      split at hk
      · cases hk
      · rename_i r hc
        split at hc
        · rename_i h0
          exact ⟨k.toNat, r, by omega, hc, by simpa using hk⟩
        · cases hc
    by_cases hy : y < 0 ∨ 65535 < y
    · rw [snds_range hk hy]
      refine (send_range h hr p y ha hy).mono ?_
      rintro e w' ⟨rfl, rfl⟩
      exact Lft.same h _ (Below.refl _ _)
    · rw [snds_yes hr ha (by omega) (by omega)]
      exact send_yes h hr p y ha (by omega) (by omega)
theorem get_any (h : Chs B w ρ S A n c Q C L) (p k : Int) :
    Calls Try.prog 100 #[.pointer (some ⟨S, 0, none⟩), .int .i64 p, .int .i64 k] w (Lft B w ρ S A n c Q C (gets C L p k).2 (.tuple #[.int .i64 (gets C L p k).1.1, .bool (gets C L p k).1.2.1, .int .i64 (gets C L p k).1.2.2])) := by
  cases hk : getOk C p k with
  | false =>
    rw [gets_no hk]
    refine (get_no h p k hk).mono ?_
    rintro e w' ⟨rfl, rfl⟩
    exact Lft.same h _ (Below.refl _ _)
  | true =>
    obtain ⟨k', r, rfl, hr, hb⟩ : ∃ (k' : Nat) (r : Tri), k = k' ∧ C[k']? = some r ∧ r.b = p := by
      unfold getOk chan at hk
      split at hk
      · cases hk
      · rename_i r hc
        split at hc
        · rename_i h0
          exact ⟨k.toNat, r, by omega, hc, by simpa using hk⟩
        · cases hc
    rw [gets_yes hr hb]
    exact get_yes h hr p hb
set_option maxRecDepth 100000 in
theorem has_yes (h : Chs B w ρ S A n c Q C L) {k : Nat} (hr : C[k]? = some r) :
    Calls Try.prog 22 #[.pointer (some ⟨S, 0, none⟩), .int .i64 (k : Nat)] w (News w (L k)) := by
  have hk : k < n := by have := (List.getElem?_eq_some_iff.1 hr).1; rw [h.len] at this; exact this
  have hk64 : n ≤ 9223372036854775807 := by have := h.most; omega
  have HT := Lib.hid (there_any h.set (k : Nat) true (by simp; omega))
  have hc := cont_has h hr
  obtain ⟨r', b, o, hr', _, rfl, hbl, k0, k1, k2⟩ := h.at_ hk
  obtain rfl : r = r' := by rw [hr] at hr'; injection hr'
  have s0 := h.set.cell (i := 0) rfl
  have hm := fun (m : Nat) (w : World) => meth_has m r.c ⟨Q k, 0, none⟩ w
  clear h hr hr'
  by_cases hd : r.c = 0
  · rw [kind, if_pos hd] at k2
    simp only [kind, if_pos hd] at hm
    rw [if_pos hd] at hc
    have HC := Lib.hid hc
    clear hd hc
    go_enter Try.func22, Try.ntmps22
    go_wp2_with (first
      | (go_at_call 35; refine HT.out.mono ?_; rintro e w1 ⟨rfl, rfl⟩)
      | (go_at_call 104; refine HC.out.mono ?_; rintro e w2 ⟨A2, n2, c2, rfl, h1, h2, h3⟩; have H1 := Lib.hid h1; clear h1))
    go_ret
    exact ⟨A2, n2, c2, rfl, H1.out, h2, h3⟩
  · rw [kind, if_neg hd] at k2
    simp only [kind, if_neg hd] at hm
    rw [if_neg hd] at hc
    have HC := Lib.hid hc
    clear hd hc
    go_enter Try.func22, Try.ntmps22
    go_wp2_with (first
      | (go_at_call 35; refine HT.out.mono ?_; rintro e w1 ⟨rfl, rfl⟩)
      | (go_at_call 108; refine HC.out.mono ?_; rintro e w2 ⟨A2, n2, c2, rfl, h1, h2, h3⟩; have H1 := Lib.hid h1; clear h1))
    go_ret
    exact ⟨A2, n2, c2, rfl, H1.out, h2, h3⟩
set_option maxRecDepth 100000 in
theorem has_no (h : Chs B w ρ S A n c Q C L) (k : Int) (hk : ¬ (0 ≤ k ∧ k < (n : Int))) :
    Calls Try.prog 22 #[.pointer (some ⟨S, 0, none⟩), .int .i64 k] w (News w []) := by
  have HT := Lib.hid (there_any h.set k false (by simp; omega))
  clear h hk
  go_enter Try.func22, Try.ntmps22
  go_wp2_with (go_at_call 35; refine HT.out.mono ?_; rintro e w1 ⟨rfl, rfl⟩)
  go_ret
  exact ⟨none, 0, 0, rfl, Rd.nil _, fun b o h => (by cases h), Below.refl _ _⟩
end
end Go.Proofs.Ytegnehdfedfphaa.PrtE
