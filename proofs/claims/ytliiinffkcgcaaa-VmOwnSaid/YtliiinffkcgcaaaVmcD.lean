/- The program's load, store, jump, zero, confirm and on. Conditions: what is worked on lies as the facts say; a memory of at most 16 words. -/
import Derived.Test.YtliiinffkcgcaaaVmcC
import Derived.Test.YtliiinffkcgcaaaBitO
import Derived.Deep.RegionHeld3
import Derived.Deep.RegionWith
namespace Go.Proofs.Ytliiinffkcgcaaa.VmcD
open Go.RowKit Go.Proofs.Ytliiinffkcgcaaa.Kit Go.Proofs.Ytliiinffkcgcaaa.Byt Go.Proofs.Ytliiinffkcgcaaa.Mem Go.Proofs.Ytliiinffkcgcaaa.VmcM Go.Proofs.Ytliiinffkcgcaaa.VmcA Go.Proofs.Ytliiinffkcgcaaa.VmcB
open Go.Proofs.Ytliiinffkcgcaaa.ImgA (Im)
open Go.Proofs.Ytliiinffkcgcaaa.BitA (i64s)
open Go.Proofs.Ytliiinffkcgcaaa.BitM (hb)

theorem Only.of_drew' {g : Nat} {w w' : World} (h : Only g w.drew w') : Only g w w' := ⟨⟨h.1.os, h.1.tape, h.1.output, h.1.size, h.1.block⟩, h.2⟩
section
variable {v : V} {i : Im} {P : Value} {o b : Nat} {e : Bool} {w : World} {a : Nat}
set_option maxRecDepth 100000 in
theorem load_any (h : v.ok) (hB : Wb w b v i P o e) (hm : i.m ≤ 16) (a : Nat) : Calls Try.prog 68 #[.pointer (some ⟨b, 0, none⟩), .int .i64 a] w (Did b i P o w (.tuple #[]) (loa i a v) e) := by
  have c31 : w.cell? ⟨b, 31, none⟩ = some (.int .i64 i.m) := hB.tail h (k := 3) rfl
  obtain ⟨m, hm0⟩ : ∃ m, m = i.m := ⟨_, rfl⟩
  rw [← hm0] at c31
  by_cases hlt : (a : Int) < i.m
  · have hk := hB.at_ h (sc_m h (k := a) (by omega))
    have e1 : loa i a v = lay (v.m.getD a 0) v := if_pos hlt
    obtain ⟨x, hx⟩ : ∃ x, x = v.m.getD a 0 := ⟨_, rfl⟩
    rw [← hx] at hk e1
    rw [e1]
    have HL := Lib.hid (lay_any h hB x)
    have h16 : (a : Int) < 16 := by omega
    have hlt' : (a : Int) < m := by omega
    clear hB h e1 hx hm hm0 hlt
    go_enter Try.func68, Try.ntmps68
    go_wp2_with fail
    refine (need_yes _ _ _).mono ?_
    rintro en w1 ⟨rfl, rfl⟩
    go_wp2_with fail
    refine HL.out.mono ?_
    rintro en w1 ⟨rfl, p1, q1⟩
    have P1 := Lib.hid p1
    have Q1 := Lib.hid q1
    clear p1 q1
    go_wp2
    first | go_end0 | refine bodyPost_ret (results_none rfl _ _ _) rfl ?_
    exact ⟨rfl, P1.out, Q1.out⟩
  · have e1 : loa i a v = need false 3 v := if_neg hlt
    rw [e1]
    have HN := Lib.hid (need_any h hB false 3)
    have hlt' : ¬ (a : Int) < m := by omega
    clear hB h e1 hm hm0 hlt
    go_enter Try.func68, Try.ntmps68
    go_wp2_with fail
    refine HN.out.mono ?_
    rintro en w1 ⟨rfl, p1, q1⟩
    have P1 := Lib.hid p1
    have Q1 := Lib.hid q1
    clear p1 q1
    go_wp2
    first | go_end0 | refine bodyPost_ret (results_none rfl _ _ _) rfl ?_
    exact ⟨rfl, P1.out, Q1.out⟩
set_option maxRecDepth 100000 in
theorem store_any (h : v.ok) (hB : Wb w b v i P o e) (hm : i.m ≤ 16) (a : Nat) : Calls Try.prog 69 #[.pointer (some ⟨b, 0, none⟩), .int .i64 a] w (Did b i P o w (.tuple #[]) (stor i a v) e) := by
  have c31 : w.cell? ⟨b, 31, none⟩ = some (.int .i64 i.m) := hB.tail h (k := 3) rfl
  obtain ⟨m, hm0⟩ : ∃ m, m = i.m := ⟨_, rfl⟩
  rw [← hm0] at c31
  by_cases hlt : (a : Int) < i.m
  · have e1 : stor i a v = { takeV v with m := (takeV v).m.set a (takeN v) } := if_pos hlt
    have h16 : (a : Int) < 16 := by omega
    have h16n : a < 16 := by omega
    have hlt' : (a : Int) < m := by omega
    rw [e1]
    obtain ⟨x, hx⟩ : ∃ x, x = takeN v := ⟨_, rfl⟩
    obtain ⟨u, hu⟩ : ∃ u, u = takeV v := ⟨_, rfl⟩
    have ku : u.ok := hu ▸ h.takeV
    have T1 := fun w' (hw : Wb w' b v i P o e) => take_any h hw
    rw [← hx, ← hu] at T1 ⊢
    have HT1 := Lib.hid T1
    have HB := Lib.hid (show Wb w.drew b v i P o e from hB)
    clear T1 hx hu hB h e1 hm hm0 hlt
    go_enter Try.func69, Try.ntmps69
    go_wp2_with fail
    refine (need_yes _ _ _).mono ?_
    rintro en w1 ⟨rfl, rfl⟩
    go_wp2_with fail
    go_region_with (go_at_call 79; refine (HT1.out _ HB.out).mono ?_; rintro en w2 ⟨rfl, p1, q1⟩; have ca := p1.at_ ku (sc_m ku h16n); have cz := p1.frozen (10 + a); have P1 := Lib.hid (p1.put ku (k := 10 + a) (by omega) (set_m ku h16n x)); have Q1 := Lib.hid (Only.of_drew' q1); clear p1 q1)
    first | go_end0 | refine bodyPost_ret (results_none rfl _ _ _) rfl ?_
    exact ⟨rfl, P1.out, Q1.out.trans (Only.set _ b (10 + a) _)⟩
  · have e1 : stor i a v = need false 3 v := if_neg hlt
    rw [e1]
    have HN := Lib.hid (need_any h hB false 3)
    have hlt' : ¬ (a : Int) < m := by omega
    clear hB h e1 hm hm0 hlt
    go_enter Try.func69, Try.ntmps69
    go_wp2_with fail
    refine HN.out.mono ?_
    rintro en w1 ⟨rfl, p1, q1⟩
    have P1 := Lib.hid p1
    have Q1 := Lib.hid q1
    clear p1 q1
    go_wp2
    first | go_end0 | refine bodyPost_ret (results_none rfl _ _ _) rfl ?_
    exact ⟨rfl, P1.out, Q1.out⟩
set_option maxRecDepth 100000 in
theorem jump_any (h : v.ok) (hB : Wb w b v i P o e) (hn : i.n ≤ 1000) (a : Nat) : Calls Try.prog 70 #[.pointer (some ⟨b, 0, none⟩), .int .i64 a] w (Did b i P o w (.tuple #[]) (jmp i a v) e) := by
  have c35 : w.cell? ⟨b, 35, none⟩ = some (.slice i.A i.n i.c) := hB.tail h (k := 7) rfl
  have HN := Lib.hid (show ∀ t, t = decide ((a : Int) < (i.n : Int)) → Calls Try.prog 78 #[.pointer (some ⟨b, 0, none⟩), .bool t, .int .i64 3] w (Did b i P o w (.bool t) (need (decide ((a : Int) < (i.n : Int))) 3 v) e) from fun t ht => by rw [← ht]; exact need_any h hB t 3)
  unfold jmp
  obtain ⟨A, hA⟩ : ∃ A, A = i.A := ⟨_, rfl⟩
  obtain ⟨c, hc⟩ : ∃ c, c = i.c := ⟨_, rfl⟩
  obtain ⟨n, hn'⟩ : ∃ n, n = i.n := ⟨_, rfl⟩
  rw [← hA, ← hc, ← hn'] at c35
  rw [← hn'] at HN ⊢
  have hn64 : n ≤ 1000 := by omega
  obtain ⟨u, hu⟩ : ∃ u, u = need (decide ((a : Int) < (n : Int))) 3 v := ⟨_, rfl⟩
  rw [← hu] at HN ⊢
  have ku : u.ok := hu ▸ h.need _ _
  clear hB h hA hc hn' hn hu
  go_enter Try.func70, Try.ntmps70
  go_wp2_with fail
  refine (HN.out _ (by simp)).mono ?_
  rintro en w1 ⟨rfl, p1, q1⟩
  have k0 := p1.at_ ku (sc_pc u)
  have z0 := p1.frozen 0
  have P1 := Lib.hid (p1.put ku (by omega) (set_pc u a))
  have Q1 := Lib.hid q1
  clear p1 q1
  go_wp2
  first | go_end0 | refine bodyPost_ret (results_none rfl _ _ _) rfl ?_
  exact ⟨rfl, P1.out, Q1.out.trans (Only.set _ b 0 _)⟩
set_option maxRecDepth 100000 in
theorem zero_any (h : v.ok) (hB : Wb w b v i P o e) (hn : i.n ≤ 1000) (a : Nat) : Calls Try.prog 71 #[.pointer (some ⟨b, 0, none⟩), .int .i64 a] w (Did b i P o w (.tuple #[]) (zer i a v) e) := by
  have c35 : w.cell? ⟨b, 35, none⟩ = some (.slice i.A i.n i.c) := hB.tail h (k := 7) rfl
  have HN := Lib.hid (show ∀ t, t = decide ((a : Int) < (i.n : Int)) → Calls Try.prog 78 #[.pointer (some ⟨b, 0, none⟩), .bool t, .int .i64 3] w (Did b i P o w (.bool t) (need (decide ((a : Int) < (i.n : Int))) 3 v) e) from fun t ht => by rw [← ht]; exact need_any h hB t 3)
  unfold zer
  obtain ⟨A, hA⟩ : ∃ A, A = i.A := ⟨_, rfl⟩
  obtain ⟨c, hc⟩ : ∃ c, c = i.c := ⟨_, rfl⟩
  obtain ⟨n, hn'⟩ : ∃ n, n = i.n := ⟨_, rfl⟩
  rw [← hA, ← hc, ← hn'] at c35
  rw [← hn'] at HN ⊢
  have hn64 : n ≤ 1000 := by omega
  obtain ⟨u, hu⟩ : ∃ u, u = need (decide ((a : Int) < (n : Int))) 3 v := ⟨_, rfl⟩
  rw [← hu] at HN ⊢
  have ku : u.ok := hu ▸ h.need _ _
  obtain ⟨x, hx⟩ : ∃ x, x = takeN u := ⟨_, rfl⟩
  obtain ⟨u2, hu2⟩ : ∃ u2, u2 = takeV u := ⟨_, rfl⟩
  have ku2 : u2.ok := hu2 ▸ ku.takeV
  have HT := Lib.hid (show ∀ w', Wb w' b u i P o e → Calls Try.prog 79 #[.pointer (some ⟨b, 0, none⟩)] w' (Did b i P o w' (.int .i64 x) u2 e) from fun w' hw => by have T2 := take_any ku hw; rwa [← hx, ← hu2] at T2)
  dsimp only
  rw [← hx, ← hu2]
  clear hB h hA hc hn' hn hu hx hu2
  by_cases h0 : x = 0
  · rw [if_pos h0]
    go_enter Try.func71, Try.ntmps71
    go_wp2_with fail
    refine (HN.out _ (by simp)).mono ?_
    rintro en w1 ⟨rfl, p1, q1⟩
    have P1 := Lib.hid p1
    have Q1 := Lib.hid q1
    clear p1 q1
    go_wp2_with fail
    refine (HT.out _ P1.out).mono ?_
    rintro en w2 ⟨rfl, p1, q1⟩
    have k0 := p1.at_ ku2 (sc_pc u2)
    have z0 := p1.frozen 0
    have P2 := Lib.hid (p1.put ku2 (by omega) (set_pc u2 a))
    have Q2 := Lib.hid q1
    clear p1 q1
    go_wp2
    first | go_end0 | refine bodyPost_ret (results_none rfl _ _ _) rfl ?_
    exact ⟨rfl, P2.out, (Q1.out.trans Q2.out).trans (Only.set _ b 0 _)⟩
  · rw [if_neg h0]
    go_enter Try.func71, Try.ntmps71
    go_wp2_with fail
    refine (HN.out _ (by simp)).mono ?_
    rintro en w1 ⟨rfl, p1, q1⟩
    have P1 := Lib.hid p1
    have Q1 := Lib.hid q1
    clear p1 q1
    go_wp2_with fail
    refine (HT.out _ P1.out).mono ?_
    rintro en w2 ⟨rfl, p1, q1⟩
    have P2 := Lib.hid p1
    have Q2 := Lib.hid q1
    clear p1 q1
    go_wp2
    first | go_end0 | refine bodyPost_ret (results_none rfl _ _ _) rfl ?_
    exact ⟨rfl, P2.out, Q1.out.trans Q2.out⟩
theorem min64 {k : Nat} (hk : k ≤ 255) (s : Int) (h0 : 0 ≤ s) (h15 : s ≤ 15) : (bits .and .i64 (s / 2 ^ min k 64) 1 == 1) = hb s k := by
  by_cases h : k ≤ 15
  · rw [Nat.min_eq_left (by omega)]
    exact BitO.shr_has s h
  · have e : hb s k = false := by
      unfold hb
      simp
      omega
    have e2 : s / 2 ^ min k 64 = 0 := by
      have h2 : (16 : Int) ≤ 2 ^ min k 64 := by
        have := Nat.pow_le_pow_right (n := 2) (by omega) (show 4 ≤ min k 64 by omega)
        have h3 : ((2 ^ 4 : Nat) : Int) ≤ ((2 ^ min k 64 : Nat) : Int) := by exact_mod_cast this
        simpa using h3
      exact Int.ediv_eq_zero_of_lt h0 (by omega)
    rw [e, e2, BitO.and1]
    rfl
theorem on_any (s : Int) (k : Nat) (w : World) (hk : k ≤ 255) (h0 : 0 ≤ s) (h15 : s ≤ 15) : Calls Try.prog 81 #[.int .i64 s, .int .i64 k] w fun e w' => e = .returned (.bool (hb s k)) ∧ w' = w := by
  go_enter Try.func81, Try.ntmps81
  go_wp2
  go_ret
  exact ⟨BitM.ret_b (min64 hk s h0 h15), rfl⟩
end
end Go.Proofs.Ytliiinffkcgcaaa.VmcD
