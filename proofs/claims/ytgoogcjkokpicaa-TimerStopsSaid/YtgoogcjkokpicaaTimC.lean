/- Timers in memory: up in the heap. Conditions: they lie as the facts say. -/
import Derived.Test.YtgoogcjkokpicaaTimB
namespace Go.Proofs.Ytgoogcjkokpicaa.TimC
open Go.RowKit Go.Proofs.Ytgoogcjkokpicaa.Kit Go.Proofs.Ytgoogcjkokpicaa.Byt Go.Proofs.Ytgoogcjkokpicaa.Mem Go.Proofs.Ytgoogcjkokpicaa.TimM Go.Proofs.Ytgoogcjkokpicaa.TimA Go.Proofs.Ytgoogcjkokpicaa.TimB

/-- The heap as it is behind a call: the same ones, those from m on where they were, and Q of how they lie. -/
def Upd (B : Nat) (w : World) (F : Nat → Prop) (tb mb : Nat) (A : Option Addr) (n c m : Nat) (E : List En) (Q : List En → Prop) (w' : World) : Prop :=
  ∃ E', HpA B w' F tb mb A n c E' ∧ E'.Perm E ∧ (∀ x, m ≤ x → x < n → at_ E' x = at_ E x) ∧ Keep F w w' ∧ Q E'
section
variable {B tb mb n c g m : Nat} {F : Nat → Prop} {w w' w2 : World} {A : Option Addr} {E : List En} {Q R : List En → Prop}
theorem Upd.refl (h : HpA B w F tb mb A n c E) (hQ : Q E) : Upd B w F tb mb A n c m E Q w := ⟨E, h, List.Perm.refl _, fun _ _ _ => rfl, Keep.refl _ _, hQ⟩
theorem Upd.mono (h : Upd B w F tb mb A n c m E Q w') (hq : ∀ E', Q E' → R E') : Upd B w F tb mb A n c m E R w' := by
  obtain ⟨E', a, b, c, d, e⟩ := h
  exact ⟨E', a, b, c, d, hq _ e⟩
theorem Upd.drewN (h : Upd B w F tb mb A n c m E Q w') (k : Nat) : Upd B w F tb mb A n c m E Q (w'.drewN k) := by
  obtain ⟨E', a, b, c, d, e⟩ := h
  exact ⟨E', a.drewN k, b, c, d.drewN k, e⟩
theorem Upd.trans {E1 : List En} (h1 : HpA B w' F tb mb A n c E1) (h2 : E1.Perm E) (h3 : ∀ x, m ≤ x → x < n → at_ E1 x = at_ E x) (h4 : Keep F w w') (k : Upd B w' F tb mb A n c m E1 Q w2) : Upd B w F tb mb A n c m E Q w2 := by
  obtain ⟨E', a, b, c, d, e⟩ := k
  exact ⟨E', a, b.trans h2, fun x hx hn => (c x hx hn).trans (h3 x hx hn), h4.trans d fun _ h => .inl h, e⟩

theorem up_any (h : HpA B w F tb mb (some ⟨g, 0, none⟩) n c E) {j : Nat} (hj : j < m) (hm : m ≤ n) (hU : U (at_ E) m j) :
    Calls Try.prog 24 #[.iface 61 (.pointer (some ⟨tb, 0, none⟩)), .int .i64 (j : Nat)] w fun e w' => e = .returned (.tuple #[]) ∧ Upd B w F tb mb (some ⟨g, 0, none⟩) n c m E (fun E' => Hp (at_ E') m) w' := by
  have hn := h.most
  have H := Lib.hid h
  have HU := Lib.hid hU
  clear h hU
  go_enter Try.func24, Try.ntmps24
  go_wp2
  go_loopw [1] (fun v wr => ∃ k : Nat, k < m ∧ v = .int .i64 (k : Nat) ∧ Upd B w F tb mb (some ⟨g, 0, none⟩) n c m E (fun E' => U (at_ E') m k) wr) (fun v _ => (intOf v).toNat)
  case atStart => exact ⟨j, hj, rfl, Upd.refl H.out HU.out⟩
  case round =>
    obtain ⟨k, hk, rfl, hR⟩ := hrel
    obtain ⟨E', a1, a2, a3, a4, a5⟩ := hR
    by_cases h0 : k = 0
    · subst h0
      have HF := Lib.hid (a5.top (fun h => absurd h (by omega)))
      have HR := Lib.hid (show Upd B w F tb mb (some ⟨g, 0, none⟩) n c m E (fun E' => Hp (at_ E') m) wr from ⟨E', a1, a2, a3, a4, HF.out⟩)
      clear a1 a2 a3 a4 a5
      go_wp2
      go_end0
      exact ⟨rfl, HR.out⟩
    · have hp : par k < k := by unfold par; omega
      have hq : ((k : Int) - 1) / 2 = ((par k : Nat) : Int) := by unfold par; omega
      have hbe : (((par k : Nat) : Int) == (k : Int)) = false := by simp; omega
      have hkl : par k < n := by omega
      have hkk : k < n := by omega
      have hL := Lib.hid (less_any a1 hkk hkl)
      have hM := fun (m : Nat) => meth_less m wr ⟨tb, 0, none⟩ _ (a1.box.cell (i := 0) rfl)
      have hW := fun (m q : Nat) => meth_swap m (wr.drewN q) ⟨tb, 0, none⟩ _ (a1.box.cell (i := 0) rfl)
      have hS := Lib.hid (fun q => swap_any (a1.drewN q) hkl hkk (by omega))
      cases hb : ls (at_ E' k).nt (at_ E' (par k)).nt with
      | false =>
        rw [hb] at hL
        have HR := Lib.hid (show ∀ q, Upd B w F tb mb (some ⟨g, 0, none⟩) n c m E (fun E' => Hp (at_ E') m) (wr.drewN q) from fun q => ⟨E', a1.drewN q, a2, a3, a4.drewN q, a5.top (fun _ => ls_no hb)⟩)
        clear a1 a2 a3 a4 a5 hb
        go_wp2_with (go_at_call 43; refine hL.out.mono ?_; rintro e w1 ⟨rfl, q, rfl⟩)
        go_end0
        exact ⟨rfl, HR.out _⟩
      | true =>
        rw [hb] at hL
        have HR := Lib.hid (show ∀ q w2, HpA B w2 F tb mb (some ⟨g, 0, none⟩) n c (swp E' (par k) k) → Keep F (wr.drewN q) w2 → Upd B w F tb mb (some ⟨g, 0, none⟩) n c m E (fun E' => U (at_ E') m (par k)) w2 from fun q w2 h1 h2 => by
          have hl := a1.len
          have lk : k < E'.length := by omega
          have lp : par k < E'.length := by omega
          refine ⟨_, h1, (swp_perm lp lk).trans a2, fun x hx hxn => ?_, (a4.drewN q).trans h2 fun _ h => .inl h, (a5.step (by omega) hk (ls_yes hb).2).like (by omega) fun x hx => swp_at lp lk (by omega)⟩
          rw [swp_at lp lk (by omega), sw_k _ (by omega) (by omega)]
          exact a3 x hx hxn)
        clear a1 a2 a3 a4 a5 hb
        go_wp2_with (first
          | (go_at_call 43; refine hL.out.mono ?_; rintro e w1 ⟨rfl, q, rfl⟩)
          | (go_at_call 44; refine (hS.out _).mono ?_; rintro e w2 ⟨rfl, q1, q2⟩; have Q1 := Lib.hid q1; have Q2 := Lib.hid q2; clear q1 q2))
        go_roundw
        case rel => exact ⟨par k, by omega, rfl, HR.out _ _ Q1.out Q2.out⟩
        case measure => simp [intOf]; omega
end
end Go.Proofs.Ytgoogcjkokpicaa.TimC
