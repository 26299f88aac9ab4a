/- The list of checks, and Check over it, by the landed code. Conditions: what each check answers, as the premises say. -/
import Derived.Test.YtnoopihhfioanaaCpaN0
namespace Go.Proofs.Ytnoopihhfioanaa.CpaN4
open Go.RowKit Go.Proofs.Ytnoopihhfioanaa.Kit Go.Proofs.Ytnoopihhfioanaa.Byt Go.Proofs.Ytnoopihhfioanaa.Mem Go.Proofs.Ytnoopihhfioanaa.CpaM Go.Proofs.Ytnoopihhfioanaa.CpaN0 
open Go.Proofs.Ytnoopihhfioanaa.TabA (Tri Ta Tris)
open Go.Proofs.Ytnoopihhfioanaa.TabB (Yes)
open Go.Proofs.Ytnoopihhfioanaa.ImgA (Im)
/-- The checks, as they lie. -/
def kcells : List Value := [.func (.func 23) #[] #[], .int .i64 9, .func (.func 24) #[] #[], .int .i64 3, .func (.func 25) #[] #[], .int .i64 3, .func (.func 26) #[] #[], .int .i64 12, .func (.func 27) #[] #[], .int .i64 14, .func (.func 28) #[] #[], .int .i64 15, .func (.func 29) #[] #[], .int .i64 13]
set_option maxRecDepth 100000 in
theorem stf (a : Addr) (f : Fn) (c r : Array Value) (m : Mode) (w : World) : (store a (.func f c r) m).run Try.prog w = stored Try.prog w a (.func f c r) m := run_store _ w a _ m rfl
set_option maxRecDepth 100000 in
theorem checks_any (w : World) : Calls Try.prog 18 #[] w fun e w' => ∃ g, e = .returned (.slice (some ⟨g, 0, none⟩) 7 7) ∧ Blk w' g 55 kcells ∧ w.heap.size ≤ g ∧ Below w.heap.size w w' := by
  go_enter Try.func18, Try.ntmps18
  go_wp2_with fail
  go_ret
  exact ⟨_, rfl, Blk.new w _ kcells, Nat.le_refl _, (Below.refl _ _).alloc (Nat.le_refl _) _⟩
/-- What the checks tell, the first that fails first. -/
def ans (c0 c1 c2 c3 c4 c5 c6 : Bool) : Int := if c0 = false then 9 else if c1 = false then 3 else if c2 = false then 3 else if c3 = false then 12 else if c4 = false then 14 else if c5 = false then 15 else if c6 = false then 13 else 0
/-- The first k hold. -/
def Hold (c0 c1 c2 c3 c4 c5 c6 : Bool) (k : Nat) : Prop := (1 ≤ k → c0 = true) ∧ (2 ≤ k → c1 = true) ∧ (3 ≤ k → c2 = true) ∧ (4 ≤ k → c3 = true) ∧ (5 ≤ k → c4 = true) ∧ (6 ≤ k → c5 = true) ∧ (7 ≤ k → c6 = true)
theorem ans_0 {c0 c1 c2 c3 c4 c5 c6 : Bool} (h : Hold c0 c1 c2 c3 c4 c5 c6 0) (hf : c0 = false) : ans c0 c1 c2 c3 c4 c5 c6 = 9 := by
  obtain ⟨h0, h1, h2, h3, h4, h5, h6⟩ := h
  unfold ans
  rw [if_pos hf]
theorem ans_1 {c0 c1 c2 c3 c4 c5 c6 : Bool} (h : Hold c0 c1 c2 c3 c4 c5 c6 1) (hf : c1 = false) : ans c0 c1 c2 c3 c4 c5 c6 = 3 := by
  obtain ⟨h0, h1, h2, h3, h4, h5, h6⟩ := h
  unfold ans
  rw [if_neg (by rw [h0 (by omega)]; simp)]
  rw [if_pos hf]
theorem ans_2 {c0 c1 c2 c3 c4 c5 c6 : Bool} (h : Hold c0 c1 c2 c3 c4 c5 c6 2) (hf : c2 = false) : ans c0 c1 c2 c3 c4 c5 c6 = 3 := by
  obtain ⟨h0, h1, h2, h3, h4, h5, h6⟩ := h
  unfold ans
  rw [if_neg (by rw [h0 (by omega)]; simp)]
  rw [if_neg (by rw [h1 (by omega)]; simp)]
  rw [if_pos hf]
theorem ans_3 {c0 c1 c2 c3 c4 c5 c6 : Bool} (h : Hold c0 c1 c2 c3 c4 c5 c6 3) (hf : c3 = false) : ans c0 c1 c2 c3 c4 c5 c6 = 12 := by
  obtain ⟨h0, h1, h2, h3, h4, h5, h6⟩ := h
  unfold ans
  rw [if_neg (by rw [h0 (by omega)]; simp)]
  rw [if_neg (by rw [h1 (by omega)]; simp)]
  rw [if_neg (by rw [h2 (by omega)]; simp)]
  rw [if_pos hf]
theorem ans_4 {c0 c1 c2 c3 c4 c5 c6 : Bool} (h : Hold c0 c1 c2 c3 c4 c5 c6 4) (hf : c4 = false) : ans c0 c1 c2 c3 c4 c5 c6 = 14 := by
  obtain ⟨h0, h1, h2, h3, h4, h5, h6⟩ := h
  unfold ans
  rw [if_neg (by rw [h0 (by omega)]; simp)]
  rw [if_neg (by rw [h1 (by omega)]; simp)]
  rw [if_neg (by rw [h2 (by omega)]; simp)]
  rw [if_neg (by rw [h3 (by omega)]; simp)]
  rw [if_pos hf]
theorem ans_5 {c0 c1 c2 c3 c4 c5 c6 : Bool} (h : Hold c0 c1 c2 c3 c4 c5 c6 5) (hf : c5 = false) : ans c0 c1 c2 c3 c4 c5 c6 = 15 := by
  obtain ⟨h0, h1, h2, h3, h4, h5, h6⟩ := h
  unfold ans
  rw [if_neg (by rw [h0 (by omega)]; simp)]
  rw [if_neg (by rw [h1 (by omega)]; simp)]
  rw [if_neg (by rw [h2 (by omega)]; simp)]
  rw [if_neg (by rw [h3 (by omega)]; simp)]
  rw [if_neg (by rw [h4 (by omega)]; simp)]
  rw [if_pos hf]
theorem ans_6 {c0 c1 c2 c3 c4 c5 c6 : Bool} (h : Hold c0 c1 c2 c3 c4 c5 c6 6) (hf : c6 = false) : ans c0 c1 c2 c3 c4 c5 c6 = 13 := by
  obtain ⟨h0, h1, h2, h3, h4, h5, h6⟩ := h
  unfold ans
  rw [if_neg (by rw [h0 (by omega)]; simp)]
  rw [if_neg (by rw [h1 (by omega)]; simp)]
  rw [if_neg (by rw [h2 (by omega)]; simp)]
  rw [if_neg (by rw [h3 (by omega)]; simp)]
  rw [if_neg (by rw [h4 (by omega)]; simp)]
  rw [if_neg (by rw [h5 (by omega)]; simp)]
  rw [if_pos hf]
theorem ans_7 {c0 c1 c2 c3 c4 c5 c6 : Bool} (h : Hold c0 c1 c2 c3 c4 c5 c6 7) : ans c0 c1 c2 c3 c4 c5 c6 = 0 := by
  obtain ⟨h0, h1, h2, h3, h4, h5, h6⟩ := h
  unfold ans
  rw [if_neg (by rw [h0 (by omega)]; simp)]
  rw [if_neg (by rw [h1 (by omega)]; simp)]
  rw [if_neg (by rw [h2 (by omega)]; simp)]
  rw [if_neg (by rw [h3 (by omega)]; simp)]
  rw [if_neg (by rw [h4 (by omega)]; simp)]
  rw [if_neg (by rw [h5 (by omega)]; simp)]
  rw [if_neg (by rw [h6 (by omega)]; simp)]
theorem Hold.zero {c0 c1 c2 c3 c4 c5 c6 : Bool} : Hold c0 c1 c2 c3 c4 c5 c6 0 := ⟨fun h => absurd h (by omega), fun h => absurd h (by omega), fun h => absurd h (by omega), fun h => absurd h (by omega), fun h => absurd h (by omega), fun h => absurd h (by omega), fun h => absurd h (by omega)⟩
theorem Hold.s0 {c0 c1 c2 c3 c4 c5 c6 : Bool} (h : Hold c0 c1 c2 c3 c4 c5 c6 0) (hf : c0 = true) : Hold c0 c1 c2 c3 c4 c5 c6 1 := by
  obtain ⟨h0, h1, h2, h3, h4, h5, h6⟩ := h
  exact ⟨fun _ => hf, fun h => absurd h (by omega), fun h => absurd h (by omega), fun h => absurd h (by omega), fun h => absurd h (by omega), fun h => absurd h (by omega), fun h => absurd h (by omega)⟩
theorem Hold.s1 {c0 c1 c2 c3 c4 c5 c6 : Bool} (h : Hold c0 c1 c2 c3 c4 c5 c6 1) (hf : c1 = true) : Hold c0 c1 c2 c3 c4 c5 c6 2 := by
  obtain ⟨h0, h1, h2, h3, h4, h5, h6⟩ := h
  exact ⟨fun _ => h0 (by omega), fun _ => hf, fun h => absurd h (by omega), fun h => absurd h (by omega), fun h => absurd h (by omega), fun h => absurd h (by omega), fun h => absurd h (by omega)⟩
theorem Hold.s2 {c0 c1 c2 c3 c4 c5 c6 : Bool} (h : Hold c0 c1 c2 c3 c4 c5 c6 2) (hf : c2 = true) : Hold c0 c1 c2 c3 c4 c5 c6 3 := by
  obtain ⟨h0, h1, h2, h3, h4, h5, h6⟩ := h
  exact ⟨fun _ => h0 (by omega), fun _ => h1 (by omega), fun _ => hf, fun h => absurd h (by omega), fun h => absurd h (by omega), fun h => absurd h (by omega), fun h => absurd h (by omega)⟩
theorem Hold.s3 {c0 c1 c2 c3 c4 c5 c6 : Bool} (h : Hold c0 c1 c2 c3 c4 c5 c6 3) (hf : c3 = true) : Hold c0 c1 c2 c3 c4 c5 c6 4 := by
  obtain ⟨h0, h1, h2, h3, h4, h5, h6⟩ := h
  exact ⟨fun _ => h0 (by omega), fun _ => h1 (by omega), fun _ => h2 (by omega), fun _ => hf, fun h => absurd h (by omega), fun h => absurd h (by omega), fun h => absurd h (by omega)⟩
theorem Hold.s4 {c0 c1 c2 c3 c4 c5 c6 : Bool} (h : Hold c0 c1 c2 c3 c4 c5 c6 4) (hf : c4 = true) : Hold c0 c1 c2 c3 c4 c5 c6 5 := by
  obtain ⟨h0, h1, h2, h3, h4, h5, h6⟩ := h
  exact ⟨fun _ => h0 (by omega), fun _ => h1 (by omega), fun _ => h2 (by omega), fun _ => h3 (by omega), fun _ => hf, fun h => absurd h (by omega), fun h => absurd h (by omega)⟩
theorem Hold.s5 {c0 c1 c2 c3 c4 c5 c6 : Bool} (h : Hold c0 c1 c2 c3 c4 c5 c6 5) (hf : c5 = true) : Hold c0 c1 c2 c3 c4 c5 c6 6 := by
  obtain ⟨h0, h1, h2, h3, h4, h5, h6⟩ := h
  exact ⟨fun _ => h0 (by omega), fun _ => h1 (by omega), fun _ => h2 (by omega), fun _ => h3 (by omega), fun _ => h4 (by omega), fun _ => hf, fun h => absurd h (by omega)⟩
theorem Hold.s6 {c0 c1 c2 c3 c4 c5 c6 : Bool} (h : Hold c0 c1 c2 c3 c4 c5 c6 6) (hf : c6 = true) : Hold c0 c1 c2 c3 c4 c5 c6 7 := by
  obtain ⟨h0, h1, h2, h3, h4, h5, h6⟩ := h
  exact ⟨fun _ => h0 (by omega), fun _ => h1 (by omega), fun _ => h2 (by omega), fun _ => h3 (by omega), fun _ => h4 (by omega), fun _ => h5 (by omega), fun _ => hf⟩
theorem ret_e {a b : Int} (h : a = b) : Ending.returned (.int .i64 a) = .returned (.int .i64 b) := by rw [h]
set_option maxRecDepth 100000 in
set_option maxHeartbeats 3200000 in
theorem core (t : Ta) (p v : Int) (i : Im) (w : World) (c0 c1 c2 c3 c4 c5 c6 : Bool)
    (H0 : ∀ w', Below w.heap.size w w' → Hold c0 c1 c2 c3 c4 c5 c6 0 → Calls Try.prog 23 #[qval t p i v] w' (Yes w' c0))
    (H1 : ∀ w', Below w.heap.size w w' → Hold c0 c1 c2 c3 c4 c5 c6 1 → Calls Try.prog 24 #[qval t p i v] w' (Yes w' c1))
    (H2 : ∀ w', Below w.heap.size w w' → Hold c0 c1 c2 c3 c4 c5 c6 2 → Calls Try.prog 25 #[qval t p i v] w' (Yes w' c2))
    (H3 : ∀ w', Below w.heap.size w w' → Hold c0 c1 c2 c3 c4 c5 c6 3 → Calls Try.prog 26 #[qval t p i v] w' (Yes w' c3))
    (H4 : ∀ w', Below w.heap.size w w' → Hold c0 c1 c2 c3 c4 c5 c6 4 → Calls Try.prog 27 #[qval t p i v] w' (Yes w' c4))
    (H5 : ∀ w', Below w.heap.size w w' → Hold c0 c1 c2 c3 c4 c5 c6 5 → Calls Try.prog 28 #[qval t p i v] w' (Yes w' c5))
    (H6 : ∀ w', Below w.heap.size w w' → Hold c0 c1 c2 c3 c4 c5 c6 6 → Calls Try.prog 29 #[qval t p i v] w' (Yes w' c6))
    : Calls Try.prog 10 #[t.val, .int .i64 p, i.val, .int .i64 v] w fun e w' => e = .returned (.int .i64 (ans c0 c1 c2 c3 c4 c5 c6)) ∧ Below w.heap.size w w' := by
  have G0 := Lib.hid H0
  have G1 := Lib.hid H1
  have G2 := Lib.hid H2
  have G3 := Lib.hid H3
  have G4 := Lib.hid H4
  have G5 := Lib.hid H5
  have G6 := Lib.hid H6
  have HA := Lib.hid (show ∀ x, ans c0 c1 c2 c3 c4 c5 c6 = x → ans c0 c1 c2 c3 c4 c5 c6 = x from fun _ h => h)
  have E0 := Lib.hid (@ans_0 c0 c1 c2 c3 c4 c5 c6)
  have E1 := Lib.hid (@ans_1 c0 c1 c2 c3 c4 c5 c6)
  have E2 := Lib.hid (@ans_2 c0 c1 c2 c3 c4 c5 c6)
  have E3 := Lib.hid (@ans_3 c0 c1 c2 c3 c4 c5 c6)
  have E4 := Lib.hid (@ans_4 c0 c1 c2 c3 c4 c5 c6)
  have E5 := Lib.hid (@ans_5 c0 c1 c2 c3 c4 c5 c6)
  have E6 := Lib.hid (@ans_6 c0 c1 c2 c3 c4 c5 c6)
  have E7 := Lib.hid (@ans_7 c0 c1 c2 c3 c4 c5 c6)
  generalize ans c0 c1 c2 c3 c4 c5 c6 = out at *
  clear H0 H1 H2 H3 H4 H5 H6 HA
  obtain ⟨fr, A1, n1, c1_, P, A2, n2, c2_, W, A3, n3, c3_, C, tr⟩ := t
  obtain ⟨ip, iv, ih, im, if_, is_, ir, iA, in_, ic, ixs⟩ := i
  show Calls _ _ #[.agg #[.int .i64 fr, .slice A1 n1 c1_, .slice A2 n2 c2_, .slice A3 n3 c3_, .int .i64 tr], .int .i64 p, .agg #[.int .i64 ip, .int .i64 iv, .int .i64 ih, .int .i64 im, .int .i64 if_, .int .i64 is_, .int .i64 ir, .slice iA in_ ic], .int .i64 v] w _
  have e1 : ∀ a b : Obj, ((w.alloc a).alloc b).heap.size = w.heap.size + 1 + 1 := fun a b => by simp
  have HQ := Lib.hid (show Rq w (w.heap.size + 1 + 1) ⟨fr, A1, n1, c1_, P, A2, n2, c2_, W, A3, n3, c3_, C, tr⟩ p ⟨ip, iv, ih, im, if_, is_, ir, iA, in_, ic, ixs⟩ v (((w.alloc (.cells #[.int .i64 fr, .slice A1 n1 c1_, .slice A2 n2 c2_, .slice A3 n3 c3_, .int .i64 tr] 26)).alloc (.cells #[.int .i64 ip, .int .i64 iv, .int .i64 ih, .int .i64 im, .int .i64 if_, .int .i64 is_, .int .i64 ir, .slice iA in_ ic] 29)).alloc (.cells #[.int .i64 fr, .slice A1 n1 c1_, .slice A2 n2 c2_, .slice A3 n3 c3_, .int .i64 tr, .int .i64 p, .int .i64 ip, .int .i64 iv, .int .i64 ih, .int .i64 im, .int .i64 if_, .int .i64 is_, .int .i64 ir, .slice iA in_ ic, .int .i64 v] 50)) from
    ⟨by rw [← e1 (.cells #[.int .i64 fr, .slice A1 n1 c1_, .slice A2 n2 c2_, .slice A3 n3 c3_, .int .i64 tr] 26) (.cells #[.int .i64 ip, .int .i64 iv, .int .i64 ih, .int .i64 im, .int .i64 if_, .int .i64 is_, .int .i64 ir, .slice iA in_ ic] 29)]; exact Blk.new _ _ (qcells ⟨fr, A1, n1, c1_, P, A2, n2, c2_, W, A3, n3, c3_, C, tr⟩ p ⟨ip, iv, ih, im, if_, is_, ir, iA, in_, ic, ixs⟩ v), by omega, (((Below.refl _ _).alloc (Nat.le_refl _) _).alloc (by simp) _).alloc (by rw [e1]; omega) _⟩)
  clear e1
  go_enter Try.func10, Try.ntmps10
  go_upto_region 2 with (fail)
  obtain ⟨wB, hwB⟩ : ∃ wB, wB = (((w.alloc (.cells #[.int .i64 fr, .slice A1 n1 c1_, .slice A2 n2 c2_, .slice A3 n3 c3_, .int .i64 tr] 26)).alloc (.cells #[.int .i64 ip, .int .i64 iv, .int .i64 ih, .int .i64 im, .int .i64 if_, .int .i64 is_, .int .i64 ir, .slice iA in_ ic] 29)).alloc (.cells #[.int .i64 fr, .slice A1 n1 c1_, .slice A2 n2 c2_, .slice A3 n3 c3_, .int .i64 tr, .int .i64 p, .int .i64 ip, .int .i64 iv, .int .i64 ih, .int .i64 im, .int .i64 if_, .int .i64 is_, .int .i64 ir, .slice iA in_ ic, .int .i64 v] 50)) := ⟨_, rfl⟩
  rw [← hwB] at HQ ⊢
  clear hwB
  go_wp2_with (go_at_call 18; refine (checks_any _).mono ?_; rintro e w2 ⟨g, rfl, hk, _, hb2⟩; have HQ2 := Lib.hid (HQ.out.below hb2); have HK2 := Lib.hid hk; clear hk hb2)
  clear HQ
  go_loopw [19] (fun j wr => ∃ k : Nat, k ≤ 7 ∧ j = .int .i64 k ∧ Hid (Hold c0 c1 c2 c3 c4 c5 c6 k) ∧ Hid (Rq w (w.heap.size + 1 + 1) ⟨fr, A1, n1, c1_, P, A2, n2, c2_, W, A3, n3, c3_, C, tr⟩ p ⟨ip, iv, ih, im, if_, is_, ir, iA, in_, ic, ixs⟩ v wr) ∧ Hid (Blk wr g 55 kcells)) (fun j _ => 7 - (intOf j).toNat)
  case atStart => exact ⟨0, by omega, rfl, Lib.hid Hold.zero, HQ2, HK2⟩
  case round =>
    obtain ⟨k, hk, rfl, HH, HQ3, HK3⟩ := hrel
    clear HQ2 HK2
    obtain ⟨⟨a0, a1, a2, a3, a4⟩, a5, ⟨b0, b1, b2, b3, b4, b5, b6, b7⟩, b8⟩ := HQ3.out.cell
    have hgl := HK3.out.lt
    have hst := stf
    have hql := HQ3.out.qb.lt
    match k, hk, HH with
    | 0, _, HH =>
      have z0 : wr.cell? ⟨g, 0, none⟩ = some (.func (.func 23) #[] #[]) := HK3.out.cell rfl
      have z1 : wr.cell? ⟨g, 1, none⟩ = some (.int .i64 9) := HK3.out.cell rfl
      by_cases hc : c0 = true
      · skip
        have HC := Lib.hid (HH.out.s0 hc)
        have GJ := Lib.hid (show ∀ w', Below w.heap.size w w' → Calls Try.prog 23 #[.agg #[.int .i64 fr, .slice A1 n1 c1_, .slice A2 n2 c2_, .slice A3 n3 c3_, .int .i64 tr, .int .i64 p, .int .i64 ip, .int .i64 iv, .int .i64 ih, .int .i64 im, .int .i64 if_, .int .i64 is_, .int .i64 ir, .slice iA in_ ic, .int .i64 v]] w' (Yes w' true) from fun w' hb => by have h := G0.out w' hb HH.out; rw [hc] at h; exact h)
        clear hc
        go_wp2_with (go_at_call 23; refine (GJ.out _ (HQ3.out.alloc _).bel).mono ?_; rintro e w4 ⟨rfl, hb4⟩; have HQ4 := Lib.hid ((HQ3.out.alloc _).below hb4); have HK4 := Lib.hid ((HK3.out.alloc _).below hb4); clear hb4)
        go_roundw
        case rel => exact ⟨1, by omega, by go_num, HC, HQ4, HK4⟩
        case measure => simp [intOf]
      · have hc : c0 = false := by simpa using hc
        have HE := Lib.hid (E0.out HH.out hc)
        have GJ := Lib.hid (show ∀ w', Below w.heap.size w w' → Calls Try.prog 23 #[.agg #[.int .i64 fr, .slice A1 n1 c1_, .slice A2 n2 c2_, .slice A3 n3 c3_, .int .i64 tr, .int .i64 p, .int .i64 ip, .int .i64 iv, .int .i64 ih, .int .i64 im, .int .i64 if_, .int .i64 is_, .int .i64 ir, .slice iA in_ ic, .int .i64 v]] w' (Yes w' false) from fun w' hb => by have h := G0.out w' hb HH.out; rw [hc] at h; exact h)
        clear hc
        go_wp2_with (go_at_call 23; refine (GJ.out _ (HQ3.out.alloc _).bel).mono ?_; rintro e w4 ⟨rfl, hb4⟩; have HQ4 := Lib.hid ((HQ3.out.alloc _).below hb4); have zf : w4.cell? ⟨wr.heap.size, 1, none⟩ = some (.int .i64 9) := ((Blk.new wr 55 [.func (.func 23) #[] #[], .int .i64 9]).below hb4).cell rfl; clear hb4)
        go_ret
        exact ⟨ret_e HE.out.symm, HQ4.out.bel⟩
    | 1, _, HH =>
      have z0 : wr.cell? ⟨g, 2, none⟩ = some (.func (.func 24) #[] #[]) := HK3.out.cell rfl
      have z1 : wr.cell? ⟨g, 3, none⟩ = some (.int .i64 3) := HK3.out.cell rfl
      by_cases hc : c1 = true
      · skip
        have HC := Lib.hid (HH.out.s1 hc)
        have GJ := Lib.hid (show ∀ w', Below w.heap.size w w' → Calls Try.prog 24 #[.agg #[.int .i64 fr, .slice A1 n1 c1_, .slice A2 n2 c2_, .slice A3 n3 c3_, .int .i64 tr, .int .i64 p, .int .i64 ip, .int .i64 iv, .int .i64 ih, .int .i64 im, .int .i64 if_, .int .i64 is_, .int .i64 ir, .slice iA in_ ic, .int .i64 v]] w' (Yes w' true) from fun w' hb => by have h := G1.out w' hb HH.out; rw [hc] at h; exact h)
        clear hc
        go_wp2_with (go_at_call 24; refine (GJ.out _ (HQ3.out.alloc _).bel).mono ?_; rintro e w4 ⟨rfl, hb4⟩; have HQ4 := Lib.hid ((HQ3.out.alloc _).below hb4); have HK4 := Lib.hid ((HK3.out.alloc _).below hb4); clear hb4)
        go_roundw
        case rel => exact ⟨2, by omega, by go_num, HC, HQ4, HK4⟩
        case measure => simp [intOf]
      · have hc : c1 = false := by simpa using hc
        have HE := Lib.hid (E1.out HH.out hc)
        have GJ := Lib.hid (show ∀ w', Below w.heap.size w w' → Calls Try.prog 24 #[.agg #[.int .i64 fr, .slice A1 n1 c1_, .slice A2 n2 c2_, .slice A3 n3 c3_, .int .i64 tr, .int .i64 p, .int .i64 ip, .int .i64 iv, .int .i64 ih, .int .i64 im, .int .i64 if_, .int .i64 is_, .int .i64 ir, .slice iA in_ ic, .int .i64 v]] w' (Yes w' false) from fun w' hb => by have h := G1.out w' hb HH.out; rw [hc] at h; exact h)
        clear hc
        go_wp2_with (go_at_call 24; refine (GJ.out _ (HQ3.out.alloc _).bel).mono ?_; rintro e w4 ⟨rfl, hb4⟩; have HQ4 := Lib.hid ((HQ3.out.alloc _).below hb4); have zf : w4.cell? ⟨wr.heap.size, 1, none⟩ = some (.int .i64 3) := ((Blk.new wr 55 [.func (.func 24) #[] #[], .int .i64 3]).below hb4).cell rfl; clear hb4)
        go_ret
        exact ⟨ret_e HE.out.symm, HQ4.out.bel⟩
    | 2, _, HH =>
      have z0 : wr.cell? ⟨g, 4, none⟩ = some (.func (.func 25) #[] #[]) := HK3.out.cell rfl
      have z1 : wr.cell? ⟨g, 5, none⟩ = some (.int .i64 3) := HK3.out.cell rfl
      by_cases hc : c2 = true
      · skip
        have HC := Lib.hid (HH.out.s2 hc)
        have GJ := Lib.hid (show ∀ w', Below w.heap.size w w' → Calls Try.prog 25 #[.agg #[.int .i64 fr, .slice A1 n1 c1_, .slice A2 n2 c2_, .slice A3 n3 c3_, .int .i64 tr, .int .i64 p, .int .i64 ip, .int .i64 iv, .int .i64 ih, .int .i64 im, .int .i64 if_, .int .i64 is_, .int .i64 ir, .slice iA in_ ic, .int .i64 v]] w' (Yes w' true) from fun w' hb => by have h := G2.out w' hb HH.out; rw [hc] at h; exact h)
        clear hc
        go_wp2_with (go_at_call 25; refine (GJ.out _ (HQ3.out.alloc _).bel).mono ?_; rintro e w4 ⟨rfl, hb4⟩; have HQ4 := Lib.hid ((HQ3.out.alloc _).below hb4); have HK4 := Lib.hid ((HK3.out.alloc _).below hb4); clear hb4)
        go_roundw
        case rel => exact ⟨3, by omega, by go_num, HC, HQ4, HK4⟩
        case measure => simp [intOf]
      · have hc : c2 = false := by simpa using hc
        have HE := Lib.hid (E2.out HH.out hc)
        have GJ := Lib.hid (show ∀ w', Below w.heap.size w w' → Calls Try.prog 25 #[.agg #[.int .i64 fr, .slice A1 n1 c1_, .slice A2 n2 c2_, .slice A3 n3 c3_, .int .i64 tr, .int .i64 p, .int .i64 ip, .int .i64 iv, .int .i64 ih, .int .i64 im, .int .i64 if_, .int .i64 is_, .int .i64 ir, .slice iA in_ ic, .int .i64 v]] w' (Yes w' false) from fun w' hb => by have h := G2.out w' hb HH.out; rw [hc] at h; exact h)
        clear hc
        go_wp2_with (go_at_call 25; refine (GJ.out _ (HQ3.out.alloc _).bel).mono ?_; rintro e w4 ⟨rfl, hb4⟩; have HQ4 := Lib.hid ((HQ3.out.alloc _).below hb4); have zf : w4.cell? ⟨wr.heap.size, 1, none⟩ = some (.int .i64 3) := ((Blk.new wr 55 [.func (.func 25) #[] #[], .int .i64 3]).below hb4).cell rfl; clear hb4)
        go_ret
        exact ⟨ret_e HE.out.symm, HQ4.out.bel⟩
    | 3, _, HH =>
      have z0 : wr.cell? ⟨g, 6, none⟩ = some (.func (.func 26) #[] #[]) := HK3.out.cell rfl
      have z1 : wr.cell? ⟨g, 7, none⟩ = some (.int .i64 12) := HK3.out.cell rfl
      by_cases hc : c3 = true
      · skip
        have HC := Lib.hid (HH.out.s3 hc)
        have GJ := Lib.hid (show ∀ w', Below w.heap.size w w' → Calls Try.prog 26 #[.agg #[.int .i64 fr, .slice A1 n1 c1_, .slice A2 n2 c2_, .slice A3 n3 c3_, .int .i64 tr, .int .i64 p, .int .i64 ip, .int .i64 iv, .int .i64 ih, .int .i64 im, .int .i64 if_, .int .i64 is_, .int .i64 ir, .slice iA in_ ic, .int .i64 v]] w' (Yes w' true) from fun w' hb => by have h := G3.out w' hb HH.out; rw [hc] at h; exact h)
        clear hc
        go_wp2_with (go_at_call 26; refine (GJ.out _ (HQ3.out.alloc _).bel).mono ?_; rintro e w4 ⟨rfl, hb4⟩; have HQ4 := Lib.hid ((HQ3.out.alloc _).below hb4); have HK4 := Lib.hid ((HK3.out.alloc _).below hb4); clear hb4)
        go_roundw
        case rel => exact ⟨4, by omega, by go_num, HC, HQ4, HK4⟩
        case measure => simp [intOf]
      · have hc : c3 = false := by simpa using hc
        have HE := Lib.hid (E3.out HH.out hc)
        have GJ := Lib.hid (show ∀ w', Below w.heap.size w w' → Calls Try.prog 26 #[.agg #[.int .i64 fr, .slice A1 n1 c1_, .slice A2 n2 c2_, .slice A3 n3 c3_, .int .i64 tr, .int .i64 p, .int .i64 ip, .int .i64 iv, .int .i64 ih, .int .i64 im, .int .i64 if_, .int .i64 is_, .int .i64 ir, .slice iA in_ ic, .int .i64 v]] w' (Yes w' false) from fun w' hb => by have h := G3.out w' hb HH.out; rw [hc] at h; exact h)
        clear hc
        go_wp2_with (go_at_call 26; refine (GJ.out _ (HQ3.out.alloc _).bel).mono ?_; rintro e w4 ⟨rfl, hb4⟩; have HQ4 := Lib.hid ((HQ3.out.alloc _).below hb4); have zf : w4.cell? ⟨wr.heap.size, 1, none⟩ = some (.int .i64 12) := ((Blk.new wr 55 [.func (.func 26) #[] #[], .int .i64 12]).below hb4).cell rfl; clear hb4)
        go_ret
        exact ⟨ret_e HE.out.symm, HQ4.out.bel⟩
    | 4, _, HH =>
      have z0 : wr.cell? ⟨g, 8, none⟩ = some (.func (.func 27) #[] #[]) := HK3.out.cell rfl
      have z1 : wr.cell? ⟨g, 9, none⟩ = some (.int .i64 14) := HK3.out.cell rfl
      by_cases hc : c4 = true
      · skip
        have HC := Lib.hid (HH.out.s4 hc)
        have GJ := Lib.hid (show ∀ w', Below w.heap.size w w' → Calls Try.prog 27 #[.agg #[.int .i64 fr, .slice A1 n1 c1_, .slice A2 n2 c2_, .slice A3 n3 c3_, .int .i64 tr, .int .i64 p, .int .i64 ip, .int .i64 iv, .int .i64 ih, .int .i64 im, .int .i64 if_, .int .i64 is_, .int .i64 ir, .slice iA in_ ic, .int .i64 v]] w' (Yes w' true) from fun w' hb => by have h := G4.out w' hb HH.out; rw [hc] at h; exact h)
        clear hc
        go_wp2_with (go_at_call 27; refine (GJ.out _ (HQ3.out.alloc _).bel).mono ?_; rintro e w4 ⟨rfl, hb4⟩; have HQ4 := Lib.hid ((HQ3.out.alloc _).below hb4); have HK4 := Lib.hid ((HK3.out.alloc _).below hb4); clear hb4)
        go_roundw
        case rel => exact ⟨5, by omega, by go_num, HC, HQ4, HK4⟩
        case measure => simp [intOf]
      · have hc : c4 = false := by simpa using hc
        have HE := Lib.hid (E4.out HH.out hc)
        have GJ := Lib.hid (show ∀ w', Below w.heap.size w w' → Calls Try.prog 27 #[.agg #[.int .i64 fr, .slice A1 n1 c1_, .slice A2 n2 c2_, .slice A3 n3 c3_, .int .i64 tr, .int .i64 p, .int .i64 ip, .int .i64 iv, .int .i64 ih, .int .i64 im, .int .i64 if_, .int .i64 is_, .int .i64 ir, .slice iA in_ ic, .int .i64 v]] w' (Yes w' false) from fun w' hb => by have h := G4.out w' hb HH.out; rw [hc] at h; exact h)
        clear hc
        go_wp2_with (go_at_call 27; refine (GJ.out _ (HQ3.out.alloc _).bel).mono ?_; rintro e w4 ⟨rfl, hb4⟩; have HQ4 := Lib.hid ((HQ3.out.alloc _).below hb4); have zf : w4.cell? ⟨wr.heap.size, 1, none⟩ = some (.int .i64 14) := ((Blk.new wr 55 [.func (.func 27) #[] #[], .int .i64 14]).below hb4).cell rfl; clear hb4)
        go_ret
        exact ⟨ret_e HE.out.symm, HQ4.out.bel⟩
    | 5, _, HH =>
      have z0 : wr.cell? ⟨g, 10, none⟩ = some (.func (.func 28) #[] #[]) := HK3.out.cell rfl
      have z1 : wr.cell? ⟨g, 11, none⟩ = some (.int .i64 15) := HK3.out.cell rfl
      by_cases hc : c5 = true
      · skip
        have HC := Lib.hid (HH.out.s5 hc)
        have GJ := Lib.hid (show ∀ w', Below w.heap.size w w' → Calls Try.prog 28 #[.agg #[.int .i64 fr, .slice A1 n1 c1_, .slice A2 n2 c2_, .slice A3 n3 c3_, .int .i64 tr, .int .i64 p, .int .i64 ip, .int .i64 iv, .int .i64 ih, .int .i64 im, .int .i64 if_, .int .i64 is_, .int .i64 ir, .slice iA in_ ic, .int .i64 v]] w' (Yes w' true) from fun w' hb => by have h := G5.out w' hb HH.out; rw [hc] at h; exact h)
        clear hc
        go_wp2_with (go_at_call 28; refine (GJ.out _ (HQ3.out.alloc _).bel).mono ?_; rintro e w4 ⟨rfl, hb4⟩; have HQ4 := Lib.hid ((HQ3.out.alloc _).below hb4); have HK4 := Lib.hid ((HK3.out.alloc _).below hb4); clear hb4)
        go_roundw
        case rel => exact ⟨6, by omega, by go_num, HC, HQ4, HK4⟩
        case measure => simp [intOf]
      · have hc : c5 = false := by simpa using hc
        have HE := Lib.hid (E5.out HH.out hc)
        have GJ := Lib.hid (show ∀ w', Below w.heap.size w w' → Calls Try.prog 28 #[.agg #[.int .i64 fr, .slice A1 n1 c1_, .slice A2 n2 c2_, .slice A3 n3 c3_, .int .i64 tr, .int .i64 p, .int .i64 ip, .int .i64 iv, .int .i64 ih, .int .i64 im, .int .i64 if_, .int .i64 is_, .int .i64 ir, .slice iA in_ ic, .int .i64 v]] w' (Yes w' false) from fun w' hb => by have h := G5.out w' hb HH.out; rw [hc] at h; exact h)
        clear hc
        go_wp2_with (go_at_call 28; refine (GJ.out _ (HQ3.out.alloc _).bel).mono ?_; rintro e w4 ⟨rfl, hb4⟩; have HQ4 := Lib.hid ((HQ3.out.alloc _).below hb4); have zf : w4.cell? ⟨wr.heap.size, 1, none⟩ = some (.int .i64 15) := ((Blk.new wr 55 [.func (.func 28) #[] #[], .int .i64 15]).below hb4).cell rfl; clear hb4)
        go_ret
        exact ⟨ret_e HE.out.symm, HQ4.out.bel⟩
    | 6, _, HH =>
      have z0 : wr.cell? ⟨g, 12, none⟩ = some (.func (.func 29) #[] #[]) := HK3.out.cell rfl
      have z1 : wr.cell? ⟨g, 13, none⟩ = some (.int .i64 13) := HK3.out.cell rfl
      by_cases hc : c6 = true
      · skip
        have HC := Lib.hid (HH.out.s6 hc)
        have GJ := Lib.hid (show ∀ w', Below w.heap.size w w' → Calls Try.prog 29 #[.agg #[.int .i64 fr, .slice A1 n1 c1_, .slice A2 n2 c2_, .slice A3 n3 c3_, .int .i64 tr, .int .i64 p, .int .i64 ip, .int .i64 iv, .int .i64 ih, .int .i64 im, .int .i64 if_, .int .i64 is_, .int .i64 ir, .slice iA in_ ic, .int .i64 v]] w' (Yes w' true) from fun w' hb => by have h := G6.out w' hb HH.out; rw [hc] at h; exact h)
        clear hc
        go_wp2_with (go_at_call 29; refine (GJ.out _ (HQ3.out.alloc _).bel).mono ?_; rintro e w4 ⟨rfl, hb4⟩; have HQ4 := Lib.hid ((HQ3.out.alloc _).below hb4); have HK4 := Lib.hid ((HK3.out.alloc _).below hb4); clear hb4)
        go_roundw
        case rel => exact ⟨7, by omega, by go_num, HC, HQ4, HK4⟩
        case measure => simp [intOf]
      · have hc : c6 = false := by simpa using hc
        have HE := Lib.hid (E6.out HH.out hc)
        have GJ := Lib.hid (show ∀ w', Below w.heap.size w w' → Calls Try.prog 29 #[.agg #[.int .i64 fr, .slice A1 n1 c1_, .slice A2 n2 c2_, .slice A3 n3 c3_, .int .i64 tr, .int .i64 p, .int .i64 ip, .int .i64 iv, .int .i64 ih, .int .i64 im, .int .i64 if_, .int .i64 is_, .int .i64 ir, .slice iA in_ ic, .int .i64 v]] w' (Yes w' false) from fun w' hb => by have h := G6.out w' hb HH.out; rw [hc] at h; exact h)
        clear hc
        go_wp2_with (go_at_call 29; refine (GJ.out _ (HQ3.out.alloc _).bel).mono ?_; rintro e w4 ⟨rfl, hb4⟩; have HQ4 := Lib.hid ((HQ3.out.alloc _).below hb4); have zf : w4.cell? ⟨wr.heap.size, 1, none⟩ = some (.int .i64 13) := ((Blk.new wr 55 [.func (.func 29) #[] #[], .int .i64 13]).below hb4).cell rfl; clear hb4)
        go_ret
        exact ⟨ret_e HE.out.symm, HQ4.out.bel⟩
    | 7, _, HH =>
      have HE := Lib.hid (E7.out HH.out)
      go_wp2_with fail
      go_ret
      exact ⟨ret_e HE.out.symm, HQ3.out.bel⟩
    | k + 8, hk, _ => exact absurd hk (by omega)
end Go.Proofs.Ytnoopihhfioanaa.CpaN4
