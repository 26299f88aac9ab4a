/- The reference's turns of a word, one and three mixed. Conditions: the word is one of 32 bits, each turn one of 1 to 31 places. -/
import Derived.Test.YtlghojnlnfkdhaaDoorRefA
import Derived.StillTailTactics
namespace Go.Proofs.YtlghojnlnfkdhaaDoor.RefF
open Go.RowKit Go.Proofs.YtlghojnlnfkdhaaDoor.Kit Go.Proofs.YtlghojnlnfkdhaaDoor.ShaM Go.Proofs.YtlghojnlnfkdhaaDoor.RefM Go.Proofs.YtlghojnlnfkdhaaDoor.RefA

set_option maxRecDepth 100000 in
set_option maxHeartbeats 800000 in
theorem turn_any (x k : Nat) (w : World) (hx : x < 4294967296) (hk : 0 < k) (hk2 : k < 32) : Calls Tryd.prog 68 #[.int .i64 (x : Nat), .int .i64 (k : Nat)] w fun e w' => e = .returned (.int .i64 (rt x k : Nat)) ∧ w' = w.drew := by
  obtain ⟨p, hp⟩ : ∃ p, p = 2 ^ k := ⟨_, rfl⟩
  obtain ⟨q, hq⟩ : ∃ q, q = 2 ^ (32 - k) := ⟨_, rfl⟩
  have hpq : p * q = 4294967296 := by rw [hp, hq, ← Nat.pow_add, Nat.add_sub_cancel' (by omega)]
  have hp1 : 0 < p := by rw [hp]; exact Nat.two_pow_pos k
  have hq1 : 0 < q := by rw [hq]; exact Nat.two_pow_pos _
  have hE : rt x k = x / p + x % p * q := by rw [rt, hp, hq]
  have hl := rt_lt (k := k) hx (by omega)
  obtain ⟨d, hd⟩ : ∃ d, d = x / p := ⟨_, rfl⟩
  obtain ⟨r, hr⟩ : ∃ r, r = x % p := ⟨_, rfl⟩
  obtain ⟨u, hu⟩ : ∃ u, u = r * q := ⟨_, rfl⟩
  rw [hE, ← hd, ← hr, ← hu] at hl
  have HE := Lib.hid (show rt x k = d + u by rw [hE, hd, hu, hr])
  have hP := fun w => power_any k w (by omega)
  have hQ := fun w => power_any (32 - k) w (by omega)
  rw [← hp] at hP
  rw [← hq] at hQ
  have e2 : IntKind.i64.wrap ((32 : Int) - (k : Int)) = ((32 - k : Nat) : Int) := by rw [IntKind.wrap_i64]; omega
  have e3 : ((x : Nat) : Int).tdiv (p : Int) = (d : Int) := by rw [Int.tdiv_eq_ediv_of_nonneg (by omega), hd, Int.natCast_ediv]
  have e4 : ((x : Nat) : Int).tmod (p : Int) = (r : Int) := by rw [Int.tmod_eq_emod_of_nonneg (by omega), hr, Int.natCast_emod]
  have e5 : IntKind.i64.wrap ((r : Int) * (q : Int)) = (u : Int) := by rw [← Int.natCast_mul, ← hu, IntKind.wrap_i64]; omega
  have e6 : IntKind.i64.wrap ((d : Int) + (u : Int)) = ((d + u : Nat) : Int) := by rw [IntKind.wrap_i64]; omega
  have e7 : IntKind.i64.wrap (d : Int) = (d : Int) := by rw [IntKind.wrap_i64]; omega
  have hp0 : p ≠ 0 := by omega
  clear hp hq hE hd hr hu
  generalize rt x k = y at *
  go_enter Tryd.func68, Tryd.ntmps68
  go_wp2_with (go_at_call 52; refine (hP _).mono ?_; rintro e w' ⟨rfl, rfl⟩)
  go_still_tail 11, (by kernel_rfl)
  refine wpStill_step (fun K hK => ?_)
  go_simp
  refine ⟨_, (hQ _).mono (fun e w' h => ⟨h.1, h.2.symm⟩), hK _ ?_⟩
  clear hK K
  repeat still_step
  refine wpStill_nil ?_
  change wpList _ _ _ _ _ w.drew
  go_wp2
  go_ret
  exact ⟨ret_int (by rw [HE.out]; omega), rfl⟩

/-- Three turns mixed. -/
def mx (x a b c : Nat) : Nat := rt x a ^^^ rt x b ^^^ rt x c
theorem mx_lt {x a b c : Nat} (hx : x < 4294967296) (ha : a ≤ 32) (hb : b ≤ 32) (hc : c ≤ 32) : mx x a b c < 4294967296 := by
  have h1 := rt_lt (k := a) hx ha
  have h2 := rt_lt (k := b) hx hb
  have h3 := rt_lt (k := c) hx hc
  exact Nat.xor_lt_two_pow (n := 32) (Nat.xor_lt_two_pow (n := 32) h1 h2) h3

set_option maxRecDepth 100000 in
set_option maxHeartbeats 800000 in
theorem mix_any (x a b c : Nat) (w : World) (hx : x < 4294967296) (ha : 0 < a) (ha2 : a < 32) (hb : 0 < b) (hb2 : b < 32) (hc : 0 < c) (hc2 : c < 32) :
    Calls Tryd.prog 69 #[.int .i64 (x : Nat), .int .i64 (a : Nat), .int .i64 (b : Nat), .int .i64 (c : Nat)] w fun e w' => e = .returned (.int .i64 (mx x a b c : Nat)) ∧ w' = w.drewN 3 := by
  have h1 := rt_lt (k := a) hx (by omega)
  have h2 := rt_lt (k := b) hx (by omega)
  have h3 := rt_lt (k := c) hx (by omega)
  have e1 := i64_xor h1 h2
  have e2 := i64_xor (Nat.xor_lt_two_pow (n := 32) h1 h2) h3
  have HE : Hid (mx x a b c = rt x a ^^^ rt x b ^^^ rt x c) := Lib.hid rfl
  have HA := fun w => turn_any x a w hx ha ha2
  have HB := fun w => turn_any x b w hx hb hb2
  have HC := fun w => turn_any x c w hx hc hc2
  generalize mx x a b c = y at *
  generalize rt x a = ra at *
  generalize rt x b = rb at *
  generalize rt x c = rc at *
  obtain ⟨z, hz⟩ : ∃ z, z = ra ^^^ rb := ⟨_, rfl⟩
  rw [← hz] at HE e1 e2
  obtain ⟨v, hv⟩ : ∃ v, v = z ^^^ rc := ⟨_, rfl⟩
  rw [← hv] at HE e2
  clear hz hv
  go_enter Tryd.func69, Tryd.ntmps69
  go_wp2_with fail
  refine (HA _).mono ?_
  rintro e w' ⟨rfl, rfl⟩
  go_wp2_with fail
  refine (HB _).mono ?_
  rintro e w' ⟨rfl, rfl⟩
  go_wp2_with fail
  refine (HC _).mono ?_
  rintro e w' ⟨rfl, rfl⟩
  go_wp2
  go_ret
  exact ⟨ret_int (by rw [HE.out]), rfl⟩

end Go.Proofs.YtlghojnlnfkdhaaDoor.RefF
