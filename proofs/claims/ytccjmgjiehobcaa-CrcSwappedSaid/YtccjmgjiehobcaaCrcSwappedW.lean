/- The walk of CrcSwapped: of bytes of which two neighbours change places the sum is another one just when they are unlike. No conditions. -/
import Derived.Test.YtccjmgjiehobcaaCrcE
import Derived.RegionTactic
namespace Go.Proofs.Ytccjmgjiehobcaa.CrcSwappedW
open Go.RowKit Go.Proofs.Ytccjmgjiehobcaa.Kit Go.Proofs.Ytccjmgjiehobcaa.CrcM Go.Proofs.Ytccjmgjiehobcaa.CrcA Go.Proofs.Ytccjmgjiehobcaa.CrcB Go.Proofs.Ytccjmgjiehobcaa.CrcC Go.Proofs.Ytccjmgjiehobcaa.CrcD Go.Proofs.Ytccjmgjiehobcaa.CrcE

theorem two_at {xs : List Nat} {k : Nat} (h : k + 1 < xs.length) : xs = xs.take k ++ xs[k] :: xs[k + 1] :: xs.drop (k + 2) := by
  conv => lhs; rw [cut_at (show k < xs.length by omega)]
  congr 2
  rw [List.getElem_cons_drop h]
theorem set_two {xs : List Nat} {k : Nat} (h : k + 1 < xs.length) (a b : Nat) : (xs.set k a).set (k + 1) b = xs.take k ++ a :: b :: xs.drop (k + 2) := by
  apply List.ext_getElem
  · simp; omega
  · intro i h1 h2
    simp only [List.getElem_set]
    by_cases e1 : k + 1 = i
    · subst e1
      have e : min k xs.length = k := by omega
      simp only [List.getElem_append, List.length_take, e, show ¬ k + 1 < k by omega, dite_false, if_true]
      simp only [show k + 1 - k = 0 + 1 by omega, List.getElem_cons_succ, List.getElem_cons_zero]
    · by_cases e2 : k = i
      · subst e2
        have e : min k xs.length = k := by omega
        simp [List.getElem_append, e]
      · rw [if_neg e1, if_neg e2]
        by_cases e3 : i < k
        · have e : min k xs.length = k := by omega
          simp only [List.getElem_append, List.length_take, e, e3, dite_true, List.getElem_take]
        · have e : min k xs.length = k := by omega
          obtain ⟨j, rfl⟩ : ∃ j, i = k + 2 + j := ⟨i - (k + 2), by omega⟩
          simp only [List.getElem_append, List.length_take, e, show ¬ k + 2 + j < k by omega, dite_false]
          simp only [show k + 2 + j - k = j + 1 + 1 by omega, List.getElem_cons_succ, List.getElem_drop]
theorem swapped {xs : List Nat} {k : Nat} (h : k + 1 < xs.length) (hb : ∀ c ∈ xs, c < 256) :
    ((((sm xs : Nat) : Int) == ((sm ((xs.set k xs[k + 1]).set (k + 1) xs[k]) : Nat) : Int)) == (((xs[k] : Nat) : Int) == ((xs[k + 1] : Nat) : Int))) = true := by
  rw [set_two h]
  by_cases e : xs[k] = xs[k + 1]
  · have : xs.take k ++ xs[k + 1] :: xs[k] :: xs.drop (k + 2) = xs := by
      conv => rhs; rw [two_at h]
      rw [e]
    rw [this, e]
    simp
  · have hne := sm_swapped (l := xs.take k) (m := xs.drop (k + 2)) (fun c hc => hb c (List.mem_of_mem_take hc)) (fun c hc => hb c (List.mem_of_mem_drop hc)) (hb _ (List.getElem_mem (show k < xs.length by omega))) (hb _ (List.getElem_mem h)) e
    rw [← two_at h] at hne
    generalize sm (xs.take k ++ xs[k + 1] :: xs[k] :: xs.drop (k + 2)) = s at *
    have e1 : (((sm xs : Nat) : Int) == (s : Int)) = false := by simp; omega
    have e2 : (((xs[k] : Nat) : Int) == ((xs[k + 1] : Nat) : Int)) = false := by simp; omega
    rw [e1, e2]
    rfl
theorem swap_lt {xs : List Nat} {k : Nat} (h : k + 1 < xs.length) (hb : ∀ c ∈ xs, c < 256) : ∀ c ∈ (xs.set k xs[k + 1]).set (k + 1) xs[k], c < 256 :=
  set_lt (set_lt hb (hb _ (List.getElem_mem h))) (hb _ (List.getElem_mem (show k < xs.length by omega)))

set_option maxHeartbeats 2000000 in
theorem core (A : Option Addr) (n c : Nat) (xs : List Nat) (p : Nat) (w : World) (hr : Rd w A n c (u8n xs)) (hb : ∀ c ∈ xs, c < 256) (hp : p < 65536) :
    Calls Try.prog 7 #[.slice A n c, .int .u16 (p : Nat)] w fun e w' => e = .returned (.bool true) ∧ Below w.heap.size w w' := by
  obtain ⟨i0, hi0, hz0, hz1, hz2⟩ := info_parts info8
  by_cases hl : n < 2 ∨ 2000 < n
  · go_enter Try.func7, Try.ntmps7
    go_wp2_with (first
     | (go_at_call 8; refine (wakes_any _).mono ?_; rintro e w1 ⟨rfl, hb1⟩))
    all_goals (go_ret; exact ⟨rfl, hb1⟩)
  · have hn := Rd.nats hr
    have g1 : decide ((n : Int) < 2) = false := by simp; omega
    have g2 : decide (2000 < (n : Int)) = false := by simp; omega
    have hk : p % (n - 1) < n - 1 := Nat.mod_lt _ (by omega)
    have hmod : (p : Int) % ((n : Int) - 1) = ((p % (n - 1) : Nat) : Int) := by
      have : ((n : Int) - 1) = ((n - 1 : Nat) : Int) := by omega
      rw [this]; simp
    have hn0 : 0 < n := by omega
    have hn1 : n ≤ 2000 := by omega
    have hn2' : 2 ≤ n := by omega
    clear hl
    generalize p % (n - 1) = k at *
    have hkx : k + 1 < xs.length := by omega
    have hkx' : k < xs.length := by omega
    have hsw := Lib.hid (swapped hkx hb)
    have hzb := swap_lt hkx hb
    go_enter Try.func7, Try.ntmps7
    go_wp2_with (first
     | (go_at_call 8; refine (wakes_any _).mono ?_; rintro e w1 ⟨rfl, hb1⟩)
     | (at_builtin; refine wpList_add _ rfl (.tmp 24) (.tmp 25) _ rfl w1.heap.size 5 i0 _ 1 Try.underlying22 hi0 hz0 hz1 hz2 rfl _ 0 [] rfl (emptied w1 _) A n c (u8n xs) rfl ((hr.below hb1).alloc _) (u8n_one _) (by omega) (by omega) (size_alloc _ _) ?_; intro A2 n2 c2 w2 hn2 hown2 hg2 hat2; have hb2 := below_add (hb1.alloc hb1.size _) (emptied w1 _) hb1.size hg2; obtain rfl : n2 = n := by (have := hn2.out; omega)
        obtain ⟨g, rfl, hgb, hgl⟩ := own_some hown2 hn0
        have hc1 := own_byte hown2 hkx'
        have hc2 := own_byte hown2 hkx
        have hf1 := hown2.frozenAt k
        have hf2 := hown2.frozenAt (k + 1)
        clear hat2 hg2))
    go_region
    go_wp2_with fail
    have hown3 := ((hown2.stored k (.int .u8 (xs[k + 1] : Nat))).1.stored (k + 1) (.int .u8 (xs[k] : Nat))).1
    rw [List.nil_append, u8n_set, u8n_set] at hown3
    have hg1 : w.heap.size ≤ g := by have := hb1.size; omega
    have hb3 : Below w.heap.size w (((w2.setCell ⟨g, k, none⟩ (.int .u8 (xs[k + 1] : Nat))).setCell ⟨g, k + 1, none⟩ (.int .u8 (xs[k] : Nat))).drewN 1) := below_drewN ((hb2.setCell (by exact hg1) _).setCell (by exact hg1) _) 1
    have hx3 : Rd (((w2.setCell ⟨g, k, none⟩ (.int .u8 (xs[k + 1] : Nat))).setCell ⟨g, k + 1, none⟩ (.int .u8 (xs[k] : Nat))).drewN 1) (some ⟨g, 0, none⟩) n2 c2 (u8n ((xs.set k xs[k + 1]).set (k + 1) xs[k])) := (Rd.own hown3).drewN 1
    clear hc1 hc2 hf1 hf2 hown3 hown2 hb2
    generalize hY : (xs.set k xs[k + 1]).set (k + 1) xs[k] = ys at *
    clear hY
    change Calls _ _ _ (((w2.setCell ⟨g, k, none⟩ (.int .u8 (xs[k + 1] : Nat))).setCell ⟨g, k + 1, none⟩ (.int .u8 (xs[k] : Nat))).drewN 1) _
    generalize ((w2.setCell ⟨g, k, none⟩ (.int .u8 (xs[k + 1] : Nat))).setCell ⟨g, k + 1, none⟩ (.int .u8 (xs[k] : Nat))).drewN 1 = w3 at *
    refine (make_any _).mono ?_
    rintro e w4 ⟨rfl, hT, hb4', hs4⟩
    clear hs4
    have hb4 := hb3.trans (hb4'.mono hb3.size)
    have hx4 := hr.below hb4
    have hy4 := hx3.below hb4'
    have H1 := Lib.hid (fun m : Nat => (sum_there w3.heap.size A n2 c xs (w4.drewN m) hT (hx4.drewN m) hb).mono fun e w' h => (⟨h.1, m, h.2.symm⟩ : e = _ ∧ ∃ k, w' = w4.drewN k))
    have H2 := Lib.hid (fun m : Nat => (sum_there w3.heap.size (some ⟨g, 0, none⟩) n2 c2 ys (w4.drewN m) hT (hy4.drewN m) hzb).mono fun e w' h => (⟨h.1, m, h.2.symm⟩ : e = _ ∧ ∃ k, w' = w4.drewN k))
    obtain ⟨b, o, rfl, hc1⟩ := Rd.nat hx4 hkx'
    obtain ⟨b', o', he, hc2⟩ := Rd.nat hx4 hkx
    obtain ⟨rfl, rfl⟩ : b = b' ∧ o = o' := by simpa using he
    clear he hT
    go_wp2_with fail
    have e1 : IntKind.i64.wrap ((k : Int) + 1) = (k : Int) + 1 := IntWalk.i64_in _ (by omega)
    have e2 : ((k : Int) + 1).toNat = k + 1 := by omega
    have e3 : 0 ≤ (k : Int) + 1 := by omega
    have e4 : (k : Int) + 1 < (n2 : Int) := by omega
    have e5 : (k : Int) < (n2 : Int) := by omega
    go_quiet ((first | (go_at_call 10; with_reducible exact H1.out _) | (go_at_call 10; with_reducible exact H2.out _)))
    clear e1 e2 e3
    go_wp2
    go_ret
    exact ⟨ret_bool hsw.out, below_drewN hb4 _⟩

theorem hole (a0 : Option Addr) (len0 cap0 : Nat) (z0 : List Int) (a1 : Int) (w : World) (w0 : Row .u8 w a0 len0 cap0 z0) (w1 : (Lit.int .u16 a1).wf = true) :
    Calls Try.prog 7 #[.slice a0 len0 cap0, .int .u16 a1] w fun e w' => e = .returned (.bool true) ∧ Below w.heap.size w w' := by
  obtain ⟨xs, hx, hb⟩ := Row.nats w0
  have h1 := bounds_u16 w1
  have h := core a0 len0 cap0 xs a1.toNat w hx hb (by omega)
  rw [Int.toNat_of_nonneg h1.1] at h
  exact h

end Go.Proofs.Ytccjmgjiehobcaa.CrcSwappedW
