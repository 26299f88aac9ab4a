/- Why an image may not run in a partition, and the channels from it and to it, by the landed code. Conditions: the table and the image lie as the facts say; numbers of 64 bits. -/
import Derived.Test.YtnoopihhfioanaaCpaN1
import Derived.Test.YtnoopihhfioanaaCpaN3
import Derived.Test.YtnoopihhfioanaaCpaN4
namespace Go.Proofs.Ytnoopihhfioanaa.CpaN
open Go.RowKit Go.Proofs.Ytnoopihhfioanaa.Kit Go.Proofs.Ytnoopihhfioanaa.Byt Go.Proofs.Ytnoopihhfioanaa.Mem Go.Proofs.Ytnoopihhfioanaa.CpaM Go.Proofs.Ytnoopihhfioanaa.CpaN0 Go.Proofs.Ytnoopihhfioanaa.CpaN1
open Go.Proofs.Ytnoopihhfioanaa.CpaN3 (q_conn)
open Go.Proofs.Ytnoopihhfioanaa.CpaN4 (ans core)
open Go.Proofs.Ytnoopihhfioanaa.TabA (Tri Ta Tris)
open Go.Proofs.Ytnoopihhfioanaa.TabB (Yes)
open Go.Proofs.Ytnoopihhfioanaa.ImgA (Im)
def n64 (x : Int) : Prop := -9223372036854775808 ≤ x ∧ x ≤ 9223372036854775807
theorem check_any (t : Ta) (p v : Int) (i : Im) (w : World) (ht : t.ok w) (hi : i.ok w) (_hp : n64 p) (_hv : n64 v) (br bi bx : Bool) (h3 : Tri3 br bi bx t p i) :
    Calls Try.prog 10 #[t.val, .int .i64 p, i.val, .int .i64 v] w fun e w' => e = .returned (.int .i64 (chk br bi bx t p i v)) ∧ Below w.heap.size w w' := by
  obtain ⟨b1, h1⟩ := Go.Proofs.Ytnoopihhfioanaa.TabD.bool_of (0 ≤ p ∧ p < (t.n1 : Int))
  obtain ⟨b3, hm⟩ := Go.Proofs.Ytnoopihhfioanaa.TabD.bool_of (i.p = p ∧ i.h = (pof t p).c)
  obtain ⟨b4, hs⟩ := Go.Proofs.Ytnoopihhfioanaa.TabD.bool_of (i.m ≤ (pof t p).a ∧ i.f ≤ (pof t p).b)
  obtain ⟨b6, hn⟩ := Go.Proofs.Ytnoopihhfioanaa.TabD.bool_of (v < i.v)
  have hx : (!bx) = true ↔ ¬ PortBad t p i := by rw [← h3.rx]; cases bx <;> simp
  have ea : ans br b1 bi b3 b4 (!bx) b6 = chk br bi bx t p i v := by
    unfold ans chk
    have e1 : b1 = false ↔ ¬ (0 ≤ p ∧ p < (t.n1 : Int)) := by rw [← h1]; simp
    have e3 : b3 = false ↔ ¬ (i.p = p ∧ i.h = (pof t p).c) := by rw [← hm]; simp
    have e4 : b4 = false ↔ ¬ (i.m ≤ (pof t p).a ∧ i.f ≤ (pof t p).b) := by rw [← hs]; simp
    have e6 : b6 = false ↔ ¬ (v < i.v) := by rw [← hn]; simp
    have e5 : (!bx) = false ↔ bx = true := by cases bx <;> simp
    simp only [e1, e3, e4, e5, e6]
    clear e1 e3 e4 e5 e6 hx hn hs hm h1
    by_cases q0 : br = false
    · rw [if_pos q0, if_pos q0]
    rw [if_neg q0, if_neg q0]
    by_cases q1 : ¬ (0 ≤ p ∧ p < (t.n1 : Int))
    · rw [if_pos q1, if_pos (show p < 0 ∨ (t.n1 : Int) ≤ p ∨ bi = false from by omega)]
    rw [if_neg q1]
    by_cases q2 : bi = false
    · rw [if_pos q2, if_pos (show p < 0 ∨ (t.n1 : Int) ≤ p ∨ bi = false from .inr (.inr q2))]
    rw [if_neg q2, if_neg (show ¬ (p < 0 ∨ (t.n1 : Int) ≤ p ∨ bi = false) from by rintro (h | h | h) <;> first | exact q2 h | omega)]
    by_cases q3 : ¬ (i.p = p ∧ i.h = (pof t p).c)
    · rw [if_pos q3, if_pos (show i.p ≠ p ∨ i.h ≠ (pof t p).c from Classical.byContradiction fun h => q3 ⟨Classical.byContradiction fun a => h (.inl a), Classical.byContradiction fun a => h (.inr a)⟩)]
    rw [if_neg q3, if_neg (show ¬ (i.p ≠ p ∨ i.h ≠ (pof t p).c) from fun h => q3 fun a => h.elim (fun b => b a.1) (fun b => b a.2))]
    by_cases q4 : ¬ (i.m ≤ (pof t p).a ∧ i.f ≤ (pof t p).b)
    · rw [if_pos q4, if_pos (show (pof t p).a < i.m ∨ (pof t p).b < i.f from by omega)]
    rw [if_neg q4, if_neg (show ¬ ((pof t p).a < i.m ∨ (pof t p).b < i.f) from by omega)]
    by_cases q5 : bx = true
    · rw [if_pos q5, if_pos q5]
    rw [if_neg q5, if_neg q5]
    by_cases q6 : ¬ v < i.v
    · rw [if_pos q6, if_pos (show i.v ≤ v from by omega)]
    rw [if_neg q6, if_neg (show ¬ (i.v ≤ v) from by omega)]
  rw [← ea]
  have nat : ∀ {P : Prop}, b1 = true → (∀ q : Nat, p = (q : Int) → q < t.n1 → P) → P := fun hb h => by
    have := h1.1 hb
    exact h p.toNat (by omega) (by omega)
  refine core t p v i w br b1 bi b3 b4 (!bx) b6 (fun w' hb _ => q_table t p i v w' (ht.below hb) br h3.rt) (fun w' hb _ => q_known t p i v w' b1 h1 ht.P.le) (fun w' hb _ => q_image t p i v w' (hi.below hb) bi h3.ri) (fun w' hb hh => nat (hh.2.1 (by omega)) fun q e hq => ?_) (fun w' hb hh => nat (hh.2.1 (by omega)) fun q e hq => ?_) (fun w' hb hh => nat (hh.2.1 (by omega)) fun q e hq => ?_) (fun w' hb _ => q_newer t p i v w' b6 hn)
  · subst e
    exact q_meant t q i v w' (ht.below hb) hq b3 hm
  · subst e
    exact q_small t q i v w' (ht.below hb) hq b4 hs
  · subst e
    have hri := h3.ri.1 (hh.2.2.1 (by omega))
    exact q_conn t q i v w' (ht.below hb) (h3.rt.1 (hh.1 (by omega))) hq hri.2.2.2.2.2.1 hri.2.2.2.2.2.2.1 (!bx) hx
set_option maxRecDepth 100000 in
theorem fits_any (t : Ta) (p : Int) (i : Im) (w : World) (ht : t.ok w) (hi : i.ok w) (hp : n64 p) (br bi bx : Bool) (h3 : Tri3 br bi bx t p i) :
    Calls Try.prog 11 #[t.val, .int .i64 p, i.val] w fun e w' => e = .returned (.bool (decide (chk br bi bx t p i 0 = 0))) ∧ Below w.heap.size w w' := by
  have HC := Lib.hid (fun w' (hb : Below w.heap.size w w') => check_any t p 0 i w' (ht.below hb) (hi.below hb) hp ⟨by omega, by omega⟩ br bi bx h3)
  generalize chk br bi bx t p i 0 = out at *
  obtain ⟨fr, A1, n1, c1, P, A2, n2, c2, W, A3, n3, c3, C, tr⟩ := t
  obtain ⟨ip, iv, ih, im, if_, is_, ir, iA, in_, ic, ixs⟩ := i
  clear ht hi h3
  have hb0 : Below w.heap.size w ((w.alloc (.cells #[.int .i64 fr, .slice A1 n1 c1, .slice A2 n2 c2, .slice A3 n3 c3, .int .i64 tr] 26)).alloc (.cells #[.int .i64 ip, .int .i64 iv, .int .i64 ih, .int .i64 im, .int .i64 if_, .int .i64 is_, .int .i64 ir, .slice iA in_ ic] 29)) := ((Below.refl _ _).alloc (Nat.le_refl _) _).alloc (by simp) _
  have HB := Lib.hid hb0
  clear hb0
  show Calls _ _ #[.agg #[.int .i64 fr, .slice A1 n1 c1, .slice A2 n2 c2, .slice A3 n3 c3, .int .i64 tr], .int .i64 p, .agg #[.int .i64 ip, .int .i64 iv, .int .i64 ih, .int .i64 im, .int .i64 if_, .int .i64 is_, .int .i64 ir, .slice iA in_ ic]] w _
  go_enter Try.func11, Try.ntmps11
  go_wp2_with fail
  refine (HC.out _ HB.out).mono ?_
  rintro e w2 ⟨rfl, hb2⟩
  have HB2 := Lib.hid (HB.out.trans (hb2.mono HB.out.size))
  clear hb2 HB
  go_wp2_with fail
  go_ret
  exact ⟨ret_y (by rw [Bool.eq_iff_iff]; simp), HB2.out⟩
theorem sends_any (t : Ta) (p : Int) (w : World) (ht : t.ok w) (_hp : n64 p) :
    Calls Try.prog 12 #[t.val, .int .i64 p] w fun e w' => ∃ x, e = .returned (.int .i64 x) ∧ Below w.heap.size w w' ∧ (¬ (Go.Proofs.Ytnoopihhfioanaa.TabD.right t ∧ 0 ≤ p ∧ p < t.n1) → x = 0) ∧ (Go.Proofs.Ytnoopihhfioanaa.TabD.right t ∧ 0 ≤ p ∧ p < t.n1 → Bits4 (From t p) x) := Go.Proofs.Ytnoopihhfioanaa.CpaN3.sends_any t p w ht
theorem receives_any (t : Ta) (p : Int) (w : World) (ht : t.ok w) (_hp : n64 p) :
    Calls Try.prog 13 #[t.val, .int .i64 p] w fun e w' => ∃ x, e = .returned (.int .i64 x) ∧ Below w.heap.size w w' ∧ (¬ (Go.Proofs.Ytnoopihhfioanaa.TabD.right t ∧ 0 ≤ p ∧ p < t.n1) → x = 0) ∧ (Go.Proofs.Ytnoopihhfioanaa.TabD.right t ∧ 0 ≤ p ∧ p < t.n1 → Bits4 (To t p) x) := Go.Proofs.Ytnoopihhfioanaa.CpaN3.receives_any t p w ht
end Go.Proofs.Ytnoopihhfioanaa.CpaN
