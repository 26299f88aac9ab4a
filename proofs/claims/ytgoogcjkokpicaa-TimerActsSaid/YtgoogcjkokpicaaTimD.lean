/- Timers in memory: down in the heap. Conditions: they lie as the facts say. -/
import Derived.Test.YtgoogcjkokpicaaTimC
namespace Go.Proofs.Ytgoogcjkokpicaa.TimD
open Go.RowKit Go.Proofs.Ytgoogcjkokpicaa.Kit Go.Proofs.Ytgoogcjkokpicaa.Byt Go.Proofs.Ytgoogcjkokpicaa.Mem Go.Proofs.Ytgoogcjkokpicaa.TimM Go.Proofs.Ytgoogcjkokpicaa.TimA Go.Proofs.Ytgoogcjkokpicaa.TimB Go.Proofs.Ytgoogcjkokpicaa.TimC

theorem kid {c k : Nat} (h0 : 0 < c) (h : par c = k) : c = 2 * k + 1 ∨ c = 2 * k + 2 := by unfold par at h; omega
theorem par_l (k : Nat) : par (2 * k + 1) = k := by unfold par; omega
theorem par_r (k : Nat) : par (2 * k + 2) = k := by unfold par; omega
/-- What the way down leaves. -/
def Low (m i0 : Nat) (b : Bool) (E : List En) : Prop := (b = true → Hp (at_ E) m) ∧ (b = false → U (at_ E) m i0)
theorem low_of {m i0 k : Nat} {E : List En} (h : D (at_ E) m i0 k) (hm : ∀ c, 0 < c → c < m → par c = k → Ok (at_ E) k c) : Low m i0 (decide (i0 < k)) E := by
  obtain ⟨h1, h2⟩ := h.low hm
  have := h.up
  exact ⟨fun e => h1 (of_decide_eq_true e), fun e => h2 (by have := of_decide_eq_false e; omega)⟩
theorem less_int {B tb mb n c g : Nat} {F : Nat → Prop} {w : World} {E : List En} (h : HpA B w F tb mb (some ⟨g, 0, none⟩) n c E) {i j : Nat} (hi : i < n) (hj : j < n) {x y : Int} (hx : x = (i : Nat)) (hy : y = (j : Nat)) :
    Calls Try.prog 43 #[.slice (some ⟨g, 0, none⟩) n c, .int .i64 x, .int .i64 y] w fun e w' => e = .returned (.bool (ls (at_ E i).nt (at_ E j).nt)) ∧ ∃ k, w' = w.drewN k := by
  subst hx hy
  exact less_any h hi hj
theorem swap_int {B tb mb n c g : Nat} {F : Nat → Prop} {w : World} {E : List En} (h : HpA B w F tb mb (some ⟨g, 0, none⟩) n c E) {i j : Nat} (hi : i < n) (hj : j < n) (hij : i ≠ j) {x y : Int} (hx : x = (i : Nat)) (hy : y = (j : Nat)) :
    Calls Try.prog 44 #[.slice (some ⟨g, 0, none⟩) n c, .int .i64 x, .int .i64 y] w fun e w' => e = .returned (.tuple #[]) ∧ HpA B w' F tb mb (some ⟨g, 0, none⟩) n c (swp E i j) ∧ Keep F w w' := by
  subst hx hy
  exact swap_any h hi hj hij
section
variable {B tb mb n c g m i0 k jn : Nat} {F : Nat → Prop} {w wr : World} {E E' : List En}
theorem yes_of (hm : m ≤ n) (hk : k < m) (a1 : HpA B wr F tb mb (some ⟨g, 0, none⟩) n c E') (a2 : E'.Perm E) (a3 : ∀ x, m ≤ x → x < n → at_ E' x = at_ E x) (a4 : Keep F w wr) (a5 : D (at_ E') m i0 k)
    (h0 : 0 < jn) (h1 : jn < m) (h2 : par jn = k) (h3 : ∀ c, 0 < c → c < m → par c = k → le (at_ E' jn).nt (at_ E' c).nt) (hb : ls (at_ E' jn).nt (at_ E' k).nt = true) (q : Nat) (w2 : World)
    (b1 : HpA B w2 F tb mb (some ⟨g, 0, none⟩) n c (swp E' k jn)) (b2 : Keep F (wr.drewN q) w2) : Upd B w F tb mb (some ⟨g, 0, none⟩) n c m E (fun E' => D (at_ E') m i0 jn) w2 := by
  have hl := a1.len
  have lk : k < E'.length := by omega
  have lj : jn < E'.length := by omega
  have hd := a5.step h0 h1 h2 (ls_yes hb).2 h3
  have hg : ∀ x, x < m → at_ (swp E' k jn) x = sw (at_ E') k jn x := fun x hx => swp_at lk lj (by omega)
  refine ⟨_, b1, (swp_perm lk lj).trans a2, fun x hx hxn => ?_, (a4.drewN q).trans b2 fun _ h => .inl h, ⟨fun c c1 c2 c3 c4 => ?_, fun c c1 c2 c3 c4 => ?_, fun c1 c2 => ?_, hd.up⟩⟩
  · rw [swp_at lk lj (by omega), sw_k _ (by omega) (by omega)]
    exact a3 x hx hxn
  · exact (hd.a c c1 c2 c3 c4).to (hg _ (by unfold par; omega)) (hg _ c2)
  · exact (hd.b c c1 c2 c3 c4).to (hg _ (by unfold par; omega)) (hg _ c2)
  · have := hd.up
    exact (hd.d c1 c2).to (hg _ (by unfold par; omega)) (hg _ (by omega))
theorem no_of (a5 : D (at_ E') m i0 k) (h3 : ∀ c, 0 < c → c < m → par c = k → le (at_ E' jn).nt (at_ E' c).nt) (hb : ls (at_ E' jn).nt (at_ E' k).nt = false) : Low m i0 (decide (i0 < k)) E' :=
  low_of a5 fun c c1 c2 c3 => le_trans (ls_no hb) (h3 c c1 c2 c3)
set_option maxHeartbeats 4000000 in
set_option maxRecDepth 100000 in
theorem down_any (h : HpA B w F tb mb (some ⟨g, 0, none⟩) n c E) (hi : i0 < m) (hm : m ≤ n) (hD : D (at_ E) m i0 i0) :
    Calls Try.prog 23 #[.iface 61 (.pointer (some ⟨tb, 0, none⟩)), .int .i64 (i0 : Nat), .int .i64 (m : Nat)] w fun e w' => ∃ b, e = .returned (.bool b) ∧ Upd B w F tb mb (some ⟨g, 0, none⟩) n c m E (Low m i0 b) w' := by
  have hn := h.most
  have H := Lib.hid h
  have HD := Lib.hid hD
  obtain ⟨P, hP⟩ : ∃ P : Ending → World → Prop, P = fun e w' => ∃ b, e = .returned (.bool b) ∧ Upd B w F tb mb (some ⟨g, 0, none⟩) n c m E (Low m i0 b) w' := ⟨_, rfl⟩
  rw [← hP]
  have HP := Lib.hid (show ∀ b w', Upd B w F tb mb (some ⟨g, 0, none⟩) n c m E (Low m i0 b) w' → P (.returned (.bool b)) w' from fun b w' h => by rw [hP]; exact ⟨b, rfl, h⟩)
  clear h hD hP
  go_enter Try.func23, Try.ntmps23
  go_wp2
  go_loopw [7] (fun v wr => ∃ k : Nat, k < m ∧ v = .int .i64 (k : Nat) ∧ Upd B w F tb mb (some ⟨g, 0, none⟩) n c m E (fun E' => D (at_ E') m i0 k) wr) (fun v _ => m - (intOf v).toNat)
  case atStart => exact ⟨i0, hi, rfl, Upd.refl H.out HD.out⟩
  case round =>
    obtain ⟨k, hk, rfl, hR⟩ := hrel
    obtain ⟨E', a1, a2, a3, a4, a5⟩ := hR
    by_cases h1 : m ≤ 2 * k + 1
    · have HR := Lib.hid (show Upd B w F tb mb (some ⟨g, 0, none⟩) n c m E (Low m i0 (decide (i0 < k))) wr from ⟨E', a1, a2, a3, a4, low_of a5 fun c c1 c2 c3 => by rcases kid c1 c3 with h | h <;> omega⟩)
      clear a1 a2 a3 a4 a5
      go_wp2
      exact HP.out _ _ HR.out
    · have hM := fun (q : Nat) => meth_less q wr ⟨tb, 0, none⟩ _ (a1.box.cell (i := 0) rfl)
      have hM2 := fun (q d : Nat) => meth_less q (wr.drewN d) ⟨tb, 0, none⟩ _ (a1.box.cell (i := 0) rfl)
      have hW := fun (q d : Nat) => meth_swap q (wr.drewN d) ⟨tb, 0, none⟩ _ (a1.box.cell (i := 0) rfl)
      have hkn : k < n := by omega
      have hln : 2 * k + 1 < n := by omega
      by_cases h2 : 2 * k + 2 < m
      · have hrn : 2 * k + 2 < n := by omega
        have hL1 := Lib.hid (less_int a1 hrn hln (x := 2 * (k : Int) + 1 + 1) (y := 2 * (k : Int) + 1) (by omega) (by omega))
        cases hb1 : ls (at_ E' (2 * k + 2)).nt (at_ E' (2 * k + 1)).nt with
        | true =>
          have h3 : ∀ c, 0 < c → c < m → par c = k → le (at_ E' (2 * k + 2)).nt (at_ E' c).nt := fun c c1 c2 c3 => by
            rcases kid c1 c3 with rfl | rfl
            · exact (ls_yes hb1).2
            · exact le_refl _
          rw [hb1] at hL1
          have hL2 := Lib.hid (fun q => less_int (a1.drewN q) hrn hkn (x := 2 * (k : Int) + 1 + 1) (y := (k : Int)) (by omega) rfl)
          have hS := Lib.hid (fun q => swap_int (a1.drewN q) hkn hrn (by omega) (x := (k : Int)) (y := 2 * (k : Int) + 1 + 1) rfl (by omega))
          cases hb2 : ls (at_ E' (2 * k + 2)).nt (at_ E' k).nt with
          | false =>
            have HR := Lib.hid (show ∀ q, Upd B w F tb mb (some ⟨g, 0, none⟩) n c m E (Low m i0 (decide (i0 < k))) (wr.drewN q) from fun q => ⟨E', a1.drewN q, a2, a3, a4.drewN q, no_of (jn := 2 * k + 2) a5 h3 hb2⟩)
            have hL3 := Lib.hid (fun q => by have := hL2.out q; rw [hb2] at this; exact this)
            clear a1 a2 a3 a4 a5 h3 hL2 hS hW hb1 hb2
            go_wp2_with fail
            refine hL1.out.mono ?_
            rintro e w1 ⟨rfl, q, rfl⟩
            go_wp2_with fail
            refine (hL3.out q).mono ?_
            rintro e w1 ⟨rfl, q2, rfl⟩
            rw [drewN_add]
            go_wp2
            exact HP.out _ _ (HR.out _)
          | true =>
            have HR := Lib.hid (yes_of (w := w) (E := E) (jn := 2 * k + 2) hm hk a1 a2 a3 a4 a5 (by omega) (by omega) (par_r k) h3 hb2)
            have hL3 := Lib.hid (fun q => by have := hL2.out q; rw [hb2] at this; exact this)
            clear a1 a2 a3 a4 a5 h3 hL2 hb1 hb2
            go_wp2_with fail
            refine hL1.out.mono ?_
            rintro e w1 ⟨rfl, q, rfl⟩
            go_wp2_with fail
            refine (hL3.out q).mono ?_
            rintro e w1 ⟨rfl, q2, rfl⟩
            rw [drewN_add]
            go_wp2_with fail
            refine (hS.out _).mono ?_
            rintro e w2 ⟨rfl, b1, b2⟩
            have B1 := Lib.hid b1
            have B2 := Lib.hid b2
            clear b1 b2
            go_wp2
            go_roundw
            case rel => exact ⟨2 * k + 2, by omega, by simp only [Value.int.injEq, true_and]; omega, HR.out _ _ B1.out B2.out⟩
            case measure => simp [intOf]; omega
        | false =>
          have h3 : ∀ c, 0 < c → c < m → par c = k → le (at_ E' (2 * k + 1)).nt (at_ E' c).nt := fun c c1 c2 c3 => by
            rcases kid c1 c3 with rfl | rfl
            · exact le_refl _
            · exact ls_no hb1
          rw [hb1] at hL1
          have hL2 := Lib.hid (fun q => less_int (a1.drewN q) hln hkn (x := 2 * (k : Int) + 1) (y := (k : Int)) (by omega) rfl)
          have hS := Lib.hid (fun q => swap_int (a1.drewN q) hkn hln (by omega) (x := (k : Int)) (y := 2 * (k : Int) + 1) rfl (by omega))
          cases hb2 : ls (at_ E' (2 * k + 1)).nt (at_ E' k).nt with
          | false =>
            have HR := Lib.hid (show ∀ q, Upd B w F tb mb (some ⟨g, 0, none⟩) n c m E (Low m i0 (decide (i0 < k))) (wr.drewN q) from fun q => ⟨E', a1.drewN q, a2, a3, a4.drewN q, no_of (jn := 2 * k + 1) a5 h3 hb2⟩)
            have hL3 := Lib.hid (fun q => by have := hL2.out q; rw [hb2] at this; exact this)
            clear a1 a2 a3 a4 a5 h3 hL2 hS hW hb1 hb2
            go_wp2_with fail
            refine hL1.out.mono ?_
            rintro e w1 ⟨rfl, q, rfl⟩
            go_wp2_with fail
            refine (hL3.out q).mono ?_
            rintro e w1 ⟨rfl, q2, rfl⟩
            rw [drewN_add]
            go_wp2
            exact HP.out _ _ (HR.out _)
          | true =>
            have HR := Lib.hid (yes_of (w := w) (E := E) (jn := 2 * k + 1) hm hk a1 a2 a3 a4 a5 (by omega) (by omega) (par_l k) h3 hb2)
            have hL3 := Lib.hid (fun q => by have := hL2.out q; rw [hb2] at this; exact this)
            clear a1 a2 a3 a4 a5 h3 hL2 hb1 hb2
            go_wp2_with fail
            refine hL1.out.mono ?_
            rintro e w1 ⟨rfl, q, rfl⟩
            go_wp2_with fail
            refine (hL3.out q).mono ?_
            rintro e w1 ⟨rfl, q2, rfl⟩
            rw [drewN_add]
            go_wp2_with fail
            refine (hS.out _).mono ?_
            rintro e w2 ⟨rfl, b1, b2⟩
            have B1 := Lib.hid b1
            have B2 := Lib.hid b2
            clear b1 b2
            go_wp2
            go_roundw
            case rel => exact ⟨2 * k + 1, by omega, by simp only [Value.int.injEq, true_and]; omega, HR.out _ _ B1.out B2.out⟩
            case measure => simp [intOf]; omega
      · have h3 : ∀ c, 0 < c → c < m → par c = k → le (at_ E' (2 * k + 1)).nt (at_ E' c).nt := fun c c1 c2 c3 => by
            rcases kid c1 c3 with rfl | rfl
            · exact le_refl _
            · omega
        have hL2 := Lib.hid (less_int a1 hln hkn (x := 2 * (k : Int) + 1) (y := (k : Int)) (by omega) rfl)
        have hS := Lib.hid (fun q => swap_int (a1.drewN q) hkn hln (by omega) (x := (k : Int)) (y := 2 * (k : Int) + 1) rfl (by omega))
        cases hb2 : ls (at_ E' (2 * k + 1)).nt (at_ E' k).nt with
        | false =>
          have HR := Lib.hid (show ∀ q, Upd B w F tb mb (some ⟨g, 0, none⟩) n c m E (Low m i0 (decide (i0 < k))) (wr.drewN q) from fun q => ⟨E', a1.drewN q, a2, a3, a4.drewN q, no_of (jn := 2 * k + 1) a5 h3 hb2⟩)
          rw [hb2] at hL2
          have hL3 := hL2
          clear a1 a2 a3 a4 a5 h3 hL2 hS hW hb2
          go_wp2_with fail
          refine (hL3.out).mono ?_
          rintro e w1 ⟨rfl, q2, rfl⟩
          go_wp2
          exact HP.out _ _ (HR.out _)
        | true =>
          have HR := Lib.hid (yes_of (w := w) (E := E) (jn := 2 * k + 1) hm hk a1 a2 a3 a4 a5 (by omega) (by omega) (par_l k) h3 hb2)
          rw [hb2] at hL2
          have hL3 := hL2
          clear a1 a2 a3 a4 a5 h3 hL2 hb2
          go_wp2_with fail
          refine (hL3.out).mono ?_
          rintro e w1 ⟨rfl, q2, rfl⟩
          go_wp2_with fail
          refine (hS.out _).mono ?_
          rintro e w2 ⟨rfl, b1, b2⟩
          have B1 := Lib.hid b1
          have B2 := Lib.hid b2
          clear b1 b2
          go_wp2
          go_roundw
          case rel => exact ⟨2 * k + 1, by omega, by simp only [Value.int.injEq, true_and]; omega, HR.out _ _ B1.out B2.out⟩
          case measure => simp [intOf]; omega
end
end Go.Proofs.Ytgoogcjkokpicaa.TimD
