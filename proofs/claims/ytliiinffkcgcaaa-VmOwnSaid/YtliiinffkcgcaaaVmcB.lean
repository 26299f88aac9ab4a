/- The program's take, lay and layTruth. Conditions: what is worked on lies as the facts say; numbers are below 2^62. -/
import Derived.Test.YtliiinffkcgcaaaVmcA
import Derived.BigQuiet
namespace Go.Proofs.Ytliiinffkcgcaaa.VmcB
open Go.RowKit Go.Proofs.Ytliiinffkcgcaaa.Kit Go.Proofs.Ytliiinffkcgcaaa.Byt Go.Proofs.Ytliiinffkcgcaaa.Mem Go.Proofs.Ytliiinffkcgcaaa.VmcM Go.Proofs.Ytliiinffkcgcaaa.VmcA
open Go.Proofs.Ytliiinffkcgcaaa.ImgA (Im)
open Go.Proofs.Ytliiinffkcgcaaa.BitA (i64s)

theorem and16 (n : Int) : bits .and .i64 n 65535 = n % 65536 := by
  have h3 : (BitVec.ofInt 64 65535).toNat = 2 ^ 16 - 1 := by decide
  have key : (BitVec.ofInt 64 n &&& BitVec.ofInt 64 65535).toNat = (n % ((2 ^ 64 : Nat) : Int)).toNat % 2 ^ 16 := by
    rw [BitVec.toNat_and, BitVec.toNat_ofInt, h3, Nat.and_two_pow_sub_one_eq_mod]
  show IntKind.i64.wrap ((BitVec.ofInt 64 n &&& BitVec.ofInt 64 65535).toNat : Nat) = n % 65536
  rw [key, IntKind.wrap_i64]
  omega
section
variable {v : V} {i : Im} {P : Value} {o b : Nat} {e : Bool} {w : World}
set_option maxRecDepth 100000 in
theorem take_any (h : v.ok) (hB : Wb w b v i P o e) : Calls Try.prog 79 #[.pointer (some ⟨b, 0, none⟩)] w (Did b i P o w (.int .i64 (takeN v)) (takeV v) e) := by
  have c9 := hB.at_ h (sc_h h)
  have z9 := hB.frozen 9
  have h8 := h.h8
  by_cases h0 : v.h = 0
  · have HN := Lib.hid (need_any h hB false 5)
    have e1 : takeN v = 0 := if_pos h0
    have e2 : takeV v = need false 5 v := if_pos h0
    rw [e1, e2]
    rw [h0] at c9
    clear hB h e1 e2
    go_enter Try.func79, Try.ntmps79
    go_wp2_with (go_at_call 78; refine HN.out.mono ?_; rintro en w1 ⟨rfl, h1, h2⟩; have H1 := Lib.hid h1; have H2 := Lib.hid h2; clear h1 h2)
    go_ret
    exact ⟨rfl, H1.out, H2.out⟩
  · have hk := hB.at_ h (sc_s h (k := v.h - 1) (by omega))
    have hb1 := hB.put h (k := 9) (by omega) (set_h h (v.h - 1))
    have e1 : takeN v = v.s.getD (v.h - 1) 0 := if_neg h0
    have e2 : takeV v = { v with h := v.h - 1 } := if_neg h0
    rw [e1, e2]
    obtain ⟨x, hx⟩ : ∃ x, x = v.s.getD (v.h - 1) 0 := ⟨_, rfl⟩
    obtain ⟨k, hk'⟩ : ∃ k, k + 1 = v.h := ⟨v.h - 1, by omega⟩
    have ek : v.h - 1 = k := by omega
    rw [ek] at hb1 hx hk
    rw [ek, ← hx]
    rw [← hx] at hk
    rw [← hk', Int.natCast_add] at c9
    have hp : (0 : Int) < (k : Int) + 1 := by omega
    have hp1 : (k : Int) + 1 ≤ 8 := by omega
    have hk1 := (World.cell?_setCell_other w ⟨b, 9, none⟩ ⟨b, 1 + k, none⟩ (.int .i64 k) (by simp)).trans hk
    have HB1 := Lib.hid hb1
    have HO := Lib.hid (Only.set w b 9 (.int .i64 k))
    clear hB h hb1 e1 e2 ek hx hk'
    go_enter Try.func79, Try.ntmps79
    go_wp2_with (go_at_call 78; refine (need_yes _ _ _).mono ?_; rintro en w1 ⟨rfl, rfl⟩)
    go_quiet (fail)
    go_wp2
    go_ret
    exact ⟨rfl, HB1.out.drewN nq, only_drewN HO.out nq⟩
set_option maxRecDepth 100000 in
theorem lay_any (h : v.ok) (hB : Wb w b v i P o e) (n : Int) : Calls Try.prog 59 #[.pointer (some ⟨b, 0, none⟩), .int .i64 n] w (Did b i P o w (.tuple #[]) (lay n v) e) := by
  have c9 := hB.at_ h (sc_h h)
  have z9 := hB.frozen 9
  by_cases h8 : v.h < 8
  · have hk := hB.at_ h (sc_s h (k := v.h) h8)
    have zk := hB.frozen (1 + v.h)
    have e1 : lay n v = { v with s := v.s.set v.h (n % 65536), h := v.h + 1 } := if_pos h8
    rw [e1]
    have e0 := and16 n
    have h2 := hB.put h (k := 1 + v.h) (by omega) (set_s h h8 (n % 65536))
    have o2 := Only.set w b (1 + v.h) (.int .i64 (n % 65536))
    have h3 := h2.put (k := 9) (V.ok.stk h (num_mod n)) (by omega) (set_h (V.ok.stk h (num_mod n)) (v.h + 1))
    have o3 := o2.trans (Only.set (w.setCell ⟨b, 1 + v.h, none⟩ (.int .i64 (n % 65536))) b 9 (.int .i64 ((v.h + 1 : Nat) : Int)))
    rw [Int.natCast_add] at h3 o3
    obtain ⟨x, hx⟩ : ∃ x, x = v.s.getD v.h 0 := ⟨_, rfl⟩
    obtain ⟨y, hy⟩ : ∃ y, y = n % 65536 := ⟨_, rfl⟩
    obtain ⟨k, hk'⟩ : ∃ k, k = v.h := ⟨_, rfl⟩
    rw [← hx, ← hk'] at hk
    rw [← hk'] at c9 zk
    rw [← hk', ← hy] at h3 o3 ⊢
    rw [← hy] at e0
    have c91 := (World.cell?_setCell_other (w := w) (a := ⟨b, 1 + k, none⟩) (b := ⟨b, 9, none⟩) (v := .int .i64 y) (by simp)).trans c9
    have hlt : (k : Int) < 8 := by omega
    have HB3 := Lib.hid h3
    have HO3 := Lib.hid o3
    clear hB h h2 h3 o2 o3 e1 hx hy hk' h8
    go_enter Try.func59, Try.ntmps59
    go_wp2_with (go_at_call 78; refine (need_yes _ _ _).mono ?_; rintro en w1 ⟨rfl, rfl⟩)
    go_region
    go_wp2
    go_end0
    exact ⟨rfl, HB3.out, HO3.out.drew⟩
  · have HN := Lib.hid (need_any h hB false 14)
    have e2 : lay n v = need false 14 v := if_neg h8
    have hlt : ¬ (v.h : Int) < 8 := by omega
    rw [e2]
    clear hB h e2 h8
    go_enter Try.func59, Try.ntmps59
    go_wp2_with (go_at_call 78; refine HN.out.mono ?_; rintro en w1 ⟨rfl, h1, h2⟩; have H1 := Lib.hid h1; have H2 := Lib.hid h2; clear h1 h2)
    first | go_end0 | refine bodyPost_ret (results_none rfl _ _ _) rfl ?_
    exact ⟨rfl, H1.out, H2.out⟩
set_option maxRecDepth 100000 in
theorem truth_any (h : v.ok) (hB : Wb w b v i P o e) (t : Bool) : Calls Try.prog 80 #[.pointer (some ⟨b, 0, none⟩), .bool t] w (Did b i P o w (.tuple #[]) (lay (tru t) v) e) := by
  have HL := Lib.hid (lay_any h hB (tru t))
  clear hB h
  cases t
  all_goals
    go_enter Try.func80, Try.ntmps80
    go_wp2_with (go_at_call 59; refine HL.out.mono ?_; rintro en w1 ⟨rfl, h1, h2⟩; have H1 := Lib.hid h1; have H2 := Lib.hid h2; clear h1 h2)
    first | go_end0 | refine bodyPost_ret (results_none rfl _ _ _) rfl ?_
    exact ⟨rfl, H1.out, H2.out⟩
end
end Go.Proofs.Ytliiinffkcgcaaa.VmcB
