/- Timers in memory: container/heap's Remove and Push. Conditions: they lie as the facts say. -/
import Derived.Test.YtgoogcjkokpicaaTimE
namespace Go.Proofs.Ytgoogcjkokpicaa.TimF
open Go.RowKit Go.Proofs.Ytgoogcjkokpicaa.Kit Go.Proofs.Ytgoogcjkokpicaa.Byt Go.Proofs.Ytgoogcjkokpicaa.Mem Go.Proofs.Ytgoogcjkokpicaa.TimM Go.Proofs.Ytgoogcjkokpicaa.TimA Go.Proofs.Ytgoogcjkokpicaa.TimB Go.Proofs.Ytgoogcjkokpicaa.TimC Go.Proofs.Ytgoogcjkokpicaa.TimD Go.Proofs.Ytgoogcjkokpicaa.TimE

section
variable {B tb mb n c g m k i : Nat} {F : Nat → Prop} {w w' w2 : World} {A : Option Addr} {E : List En} {Q R : List En → Prop}
/-- One is taken out. -/
def Rem (B : Nat) (w : World) (F : Nat → Prop) (tb mb g c k : Nat) (E : List En) (x : En) (e : Ending) (w' : World) : Prop :=
  e = .returned (.iface 56 (pt x)) ∧ ∃ E', HpA B w' F tb mb (some ⟨g, 0, none⟩) k c E' ∧ (x :: E').Perm E ∧ Hp (at_ E') k ∧ Keep F w w' ∧ ∃ p : Nat, Blk w' x.b 59 (ecells x p)
theorem rem_of {E1 : List En} {x : En} {e : Ending} {w1 : World} (h : HpA B w1 F tb mb (some ⟨g, 0, none⟩) (k + 1) c E1) (h1 : E1.Perm E) (h2 : at_ E1 k = x) (h3 : Hp (at_ E1) k) (h4 : Keep F w w1)
    (k1 : e = .returned (.iface 56 (pt (at_ E1 k)))) (k2 : HpA B w2 F tb mb (some ⟨g, 0, none⟩) k c (E1.take k)) (k3 : Keep (fun i => i = g ∨ i = tb) w1 w2) : Rem B w F tb mb g c k E x e w2 := by
  have hl := h.len
  obtain ⟨fg, gtb, gE⟩ := h.frow g rfl
  have hm := at_mem (E := E1) (k := k) (by omega)
  subst h2
  refine ⟨k1, _, k2, (last_perm hl).trans h1, h3.like fun x hx => take_at hx (by omega), h4.trans k3 fun x hx => .inl (by rcases hx with rfl | rfl; exact fg; exact h.ftb), k, ?_⟩
  exact k3.blk (h.ent k (by omega)) fun hx => by
    rcases hx with e | e
    · exact gE _ hm e
    · exact (h.en _ hm).2.1 e
set_option maxHeartbeats 2000000 in
set_option maxRecDepth 100000 in
theorem rem_any (h : HpA B w F tb mb (some ⟨g, 0, none⟩) (k + 1) c E) (hi : i ≤ k) (hH : Hp (at_ E) (k + 1)) :
    Calls Try.prog 25 #[.iface 61 (.pointer (some ⟨tb, 0, none⟩)), .int .i64 (i : Nat)] w (Rem B w F tb mb g c k E (at_ E i)) := by
  have hl := h.len
  have hn := h.most
  have hM := fun (q : Nat) => meth_len q w ⟨tb, 0, none⟩ _ (h.box.cell (i := 0) rfl)
  have hP := fun (q : Nat) (w : World) => meth_pop q w ⟨tb, 0, none⟩
  have hs1 : ((k + 1 : Nat) : Int) - 1 = (k : Nat) := by omega
  by_cases hik : i = k
  · subst hik
    have hne : ((i : Int) != (i : Int)) = false := by simp
    have hR := Lib.hid (fun e w2 => rem_of (e := e) (w2 := w2) h (List.Perm.refl _) rfl (hH.less (by omega)) (Keep.refl F w))
    have hp := Lib.hid (pop_any h)
    clear h hH hi
    go_enter Try.func25, Try.ntmps25
    go_wp2_with fail
    refine (len_any _ _ _ _).mono ?_
    rintro e w1 ⟨rfl, rfl⟩
    go_wp2_with fail
    refine hp.out.mono ?_
    rintro e w2 ⟨rfl, k2, k3⟩
    have HZ := Lib.hid (hR.out _ _ rfl k2 k3)
    clear k2 k3
    go_wp2
    go_ret
    exact HZ.out
  · have hik' : i < k := by omega
    have hne : ((k : Int) != (i : Int)) = true := by simp; omega
    have hW := fun (q : Nat) => meth_swap q w ⟨tb, 0, none⟩ _ (h.box.cell (i := 0) rfl)
    have lk : k < E.length := by omega
    have li : i < E.length := by omega
    have hs := Lib.hid (swap_any h (i := i) (j := k) (by omega) (by omega) hik)
    have hD : D (at_ (swp E i k)) k i i := (hH.less (m := k) (by omega)).hole fun x hx hne => by rw [swp_at li lk (by omega), sw_k _ hne (by omega)]
    have hat : at_ (swp E i k) k = at_ E i := by rw [swp_at li lk lk, sw_j]
    have hpm := swp_perm li lk
    have HD := Lib.hid hD
    have HA := Lib.hid hat
    have HPM := Lib.hid hpm
    clear h hH hD hat hpm
    go_enter Try.func25, Try.ntmps25
    go_wp2_with fail
    refine (len_any _ _ _ _).mono ?_
    rintro e w0 ⟨rfl, rfl⟩
    go_wp2_with fail
    refine hs.out.mono ?_
    rintro e w1 ⟨rfl, b1, b2⟩
    have hd := Lib.hid (down_any b1 hik' (by omega) HD.out)
    have B1 := Lib.hid b1
    have B2 := Lib.hid b2
    clear b1 b2 hs
    go_wp2_with fail
    refine hd.out.mono ?_
    rintro e w2 ⟨b, rfl, E2, a1, a2, a3, a4, a5⟩
    have e2 : at_ E2 k = at_ E i := (a3 k (Nat.le_refl _) (by omega)).trans HA.out
    cases b with
    | true =>
      have hR := Lib.hid (fun e w2 => rem_of (e := e) (w2 := w2) a1 (a2.trans HPM.out) e2 (a5.1 rfl) (B2.out.trans a4 fun _ h => .inl h))
      have hp := Lib.hid (pop_any a1)
      clear a1 a2 a3 a4 a5 e2
      go_wp2_with fail
      refine hp.out.mono ?_
      rintro e w3 ⟨rfl, k2, k3⟩
      have HZ := Lib.hid (hR.out _ _ rfl k2 k3)
      clear k2 k3
      go_wp2
      go_ret
      exact HZ.out
    | false =>
      have hu := Lib.hid (up_any a1 hik' (by omega) (a5.2 rfl))
      have hR := Lib.hid (show ∀ w3, Upd B w2 F tb mb (some ⟨g, 0, none⟩) (k + 1) c k E2 (fun E' => Hp (at_ E') k) w3 → ∃ E3, HpA B w3 F tb mb (some ⟨g, 0, none⟩) (k + 1) c E3 ∧ ∀ e w4, e = .returned (.iface 56 (pt (at_ E3 k))) → HpA B w4 F tb mb (some ⟨g, 0, none⟩) k c (E3.take k) → Keep (fun i => i = g ∨ i = tb) w3 w4 → Rem B w0 F tb mb g c k E (at_ E i) e w4 from by
        rintro w3 ⟨E3, c1, c2, c3, c4, c5⟩
        exact ⟨E3, c1, fun e w4 => rem_of c1 (c2.trans (a2.trans HPM.out)) ((c3 k (Nat.le_refl _) (by omega)).trans e2) c5 ((B2.out.trans a4 fun _ h => .inl h).trans c4 fun _ h => .inl h)⟩)
      clear a1 a2 a3 a4 a5 e2
      go_wp2_with fail
      refine hu.out.mono ?_
      rintro e w3 ⟨rfl, h3⟩
      obtain ⟨E3, c1, c2⟩ := hR.out _ h3
      have hp := Lib.hid (pop_any c1)
      have C2 := Lib.hid c2
      clear c1 c2 h3
      go_wp2_with fail
      refine hp.out.mono ?_
      rintro e w4 ⟨rfl, k2, k3⟩
      have HZ := Lib.hid (C2.out _ _ rfl k2 k3)
      clear k2 k3
      go_wp2
      go_ret
      exact HZ.out
end
end Go.Proofs.Ytgoogcjkokpicaa.TimF
