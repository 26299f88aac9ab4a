/- The walk of CrcTurned: of bytes of which one is turned the sum is another one. No conditions. -/
import Derived.Test.YtccjmgjiehobcaaCrcE
namespace Go.Proofs.Ytccjmgjiehobcaa.CrcTurnedW
open Go.RowKit Go.Proofs.Ytccjmgjiehobcaa.Kit Go.Proofs.Ytccjmgjiehobcaa.CrcM Go.Proofs.Ytccjmgjiehobcaa.CrcA Go.Proofs.Ytccjmgjiehobcaa.CrcB Go.Proofs.Ytccjmgjiehobcaa.CrcC Go.Proofs.Ytccjmgjiehobcaa.CrcD Go.Proofs.Ytccjmgjiehobcaa.CrcE

set_option maxHeartbeats 1000000 in
theorem core (A : Option Addr) (n c : Nat) (xs : List Nat) (p q : Nat) (w : World) (hr : Rd w A n c (u8n xs)) (hb : ∀ c ∈ xs, c < 256) (hp : p < 65536) (hq : q < 256) :
    Calls Try.prog 5 #[.slice A n c, .int .u16 (p : Nat), .int .u8 (q : Nat)] w fun e w' => e = .returned (.bool true) ∧ Below w.heap.size w w' := by
  obtain ⟨i0, hi0, hz0, hz1, hz2⟩ := info_parts info8
  by_cases hl : n = 0 ∨ 2000 < n ∨ q = 0
  · have h1 : ((n : Int) == 0) = decide (n = 0) := by rw [Bool.eq_iff_iff]; simp
    have h2 : ((q : Int) == 0) = decide (q = 0) := by rw [Bool.eq_iff_iff]; simp
    have h3 : decide (2000 < (n : Int)) = decide (2000 < n) := by rw [Bool.eq_iff_iff]; simp; omega
    go_enter Try.func5, Try.ntmps5
    go_wp2_with (first
     | (go_at_call 8; refine (wakes_any _).mono ?_; rintro e w1 ⟨rfl, hb1⟩))
    all_goals (go_ret; exact ⟨rfl, hb1⟩)
  · have hn := Rd.nats hr
    have g1 : ((n : Int) == 0) = false := by simp; omega
    have g2 : decide (2000 < (n : Int)) = false := by simp; omega
    have g3 : ((q : Int) == 0) = false := by simp; omega
    have hk : p % n < n := Nat.mod_lt _ (by omega)
    have hmod : (p : Int) % (n : Int) = ((p % n : Nat) : Int) := by simp
    have hn0 : 0 < n := by omega
    have hn1 : n ≤ 2000 := by omega
    have hq0 : q ≠ 0 := by omega
    clear hl
    generalize p % n = k at *
    have hkx : k < xs.length := by omega
    have hy := hb xs[k] (List.getElem_mem hkx)
    have hxor := xor8 hy hq
    have hz : (xs[k] ^^^ q) < 256 := Nat.xor_lt_two_pow (n := 8) hy hq
    have hzb := set_lt (k := k) hb hz
    have hne := turned hkx hb hz (fun h => hq0 (by
      have h2 := congrArg (xs[k] ^^^ ·) h
      simpa [← Nat.xor_assoc] using h2.symm))
    go_enter Try.func5, Try.ntmps5
    go_wp2_with (first
     | (go_at_call 8; refine (wakes_any _).mono ?_; rintro e w1 ⟨rfl, hb1⟩)
     | (at_builtin; refine wpList_add _ rfl (.tmp 23) (.tmp 24) _ rfl w1.heap.size 5 i0 _ 1 Try.underlying22 hi0 hz0 hz1 hz2 rfl _ 0 [] rfl (emptied w1 _) A n c (u8n xs) rfl ((hr.below hb1).alloc _) (u8n_one _) (by omega) (by omega) (size_alloc _ _) ?_; intro A2 n2 c2 w2 hn2 hown2 hg2 hat2; have hb2 := below_add (hb1.alloc hb1.size _) (emptied w1 _) hb1.size hg2; obtain rfl : n2 = n := by (have := hn2.out; omega)
        obtain ⟨g, rfl, hgb, hgl⟩ := own_some hown2 hn0
        have hcell := own_byte hown2 hkx
        have hfz := hown2.frozenAt k
        have hst := Lib.hid (hown2.stored k (.int .u8 ((xs[k] ^^^ q : Nat) : Int))).1
        clear hat2 hg2))
    have hown3 := hst.out
    rw [List.nil_append, u8n_set] at hown3
    have hb3 : Below w.heap.size w (w2.setCell ⟨g, k, none⟩ (.int .u8 ((xs[k] ^^^ q : Nat) : Int))) := hb2.setCell (by have := hb1.size; show w.heap.size ≤ g; omega) _
    clear hst hcell hfz hown2 hb2
    generalize w2.setCell ⟨g, k, none⟩ (.int .u8 ((xs[k] ^^^ q : Nat) : Int)) = w3 at *
    generalize xs.set k (xs[k] ^^^ q) = ys at *
    refine (make_any _).mono ?_
    rintro e w4 ⟨rfl, hT, hb4', hs4⟩
    clear hs4
    have HT := Lib.hid hT
    clear hT
    have hb4 := hb3.trans (hb4'.mono hb3.size)
    have hx4 := hr.below hb4
    have hy4 := (Rd.own hown3).below hb4'
    have Hne : ((((sm xs : Nat) : Int)) != ((sm ys : Nat) : Int)) = true := by simpa using hne
    clear hne
    go_wp2_with fail
    refine (sum_there _ A n2 c xs _ HT.out hx4 hb).mono ?_
    rintro e w' ⟨rfl, rfl⟩
    go_wp2_with fail
    refine (sum_there _ _ n2 c2 ys _ HT.out hy4 hzb).mono ?_
    rintro e w' ⟨rfl, rfl⟩
    go_wp2
    go_ret
    exact ⟨rfl, hb4⟩

theorem hole (a0 : Option Addr) (len0 cap0 : Nat) (z0 : List Int) (a1 a2 : Int) (w : World) (w0 : Row .u8 w a0 len0 cap0 z0) (w1 : (Lit.int .u16 a1).wf = true) (w2 : (Lit.int .u8 a2).wf = true) :
    Calls Try.prog 5 #[.slice a0 len0 cap0, .int .u16 a1, .int .u8 a2] w fun e w' => e = .returned (.bool true) ∧ Below w.heap.size w w' := by
  obtain ⟨xs, hx, hb⟩ := Row.nats w0
  have h1 := bounds_u16 w1
  have h2 := bounds_u8 w2
  have h := core a0 len0 cap0 xs a1.toNat a2.toNat w hx hb (by omega) (by omega)
  rw [Int.toNat_of_nonneg h1.1, Int.toNat_of_nonneg h2.1] at h
  exact h

end Go.Proofs.Ytccjmgjiehobcaa.CrcTurnedW
