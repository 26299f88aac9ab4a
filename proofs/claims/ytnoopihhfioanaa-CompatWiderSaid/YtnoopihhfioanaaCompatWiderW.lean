/- The walk of CompatWider. No conditions. -/
import Derived.Test.YtnoopihhfioanaaCpaK
import Derived.Test.YtnoopihhfioanaaCpaL
import Derived.Test.YtnoopihhfioanaaTabG
namespace Go.Proofs.Ytnoopihhfioanaa.CompatWiderW
open Go.RowKit Go.Proofs.Ytnoopihhfioanaa.Kit Go.Proofs.Ytnoopihhfioanaa.Byt Go.Proofs.Ytnoopihhfioanaa.Mem Go.Proofs.Ytnoopihhfioanaa.CpaA
open Go.Proofs.Ytnoopihhfioanaa.CpaM (Tri3 chk tri3 chk_newer chk_fits pof PortBad From To)
open Go.Proofs.Ytnoopihhfioanaa.CpaN (check_any fits_any n64)
open Go.Proofs.Ytnoopihhfioanaa.CpaK (wakes_any long_any)
open Go.Proofs.Ytnoopihhfioanaa.CpaL (open_image64)
open Go.Proofs.Ytnoopihhfioanaa.TabA (Tri Ta Tris open_table)
open Go.Proofs.Ytnoopihhfioanaa.TabD (huge bool_of)
open Go.Proofs.Ytnoopihhfioanaa.ImgA (Im)
open Go.Proofs.Ytnoopihhfioanaa.TabE (tcells tcells_cons tcells_len)
open Go.Proofs.Ytnoopihhfioanaa.TabB (PartOk PartsOk)
theorem tcells_set (P : List Tri) (p : Nat) (r : Tri) (xs : List Value) (hr : P[p]? = some r) : ((tcells P ++ xs).set (p * 3) (.int .i64 16)).set (p * 3 + 1) (.int .i64 32) = tcells (P.set p ⟨16, 32, r.c⟩) ++ xs := by
  induction P generalizing p with
  | nil => cases hr
  | cons q P ih =>
    cases p with
    | zero =>
      have hr : some q = some r := hr
      injection hr with hr
      subst hr
      rfl
    | succ p =>
      have h := ih p hr
      rw [show (p + 1) * 3 = p * 3 + 1 + 1 + 1 from by omega, tcells_cons, List.set_cons_succ, tcells_cons]
      simp only [List.cons_append, List.set_cons_succ]
      rw [h]
def wid (t : Ta) (g c q : Nat) (r : Tri) : Ta := ⟨t.fr, some ⟨g, 0, none⟩, t.n1, c, t.P.set q ⟨16, 32, r.c⟩, t.A2, t.n2, t.c2, t.W, t.A3, t.n3, t.c3, t.C, t.tr⟩
theorem wid_right {t : Ta} {g c q : Nat} {r : Tri} (h : Go.Proofs.Ytnoopihhfioanaa.TabD.right t) (hr : t.P[q]? = some r) : Go.Proofs.Ytnoopihhfioanaa.TabD.right (wid t g c q r) := by
  obtain ⟨h1, h2, ⟨h3, h4⟩, h5, h6⟩ := h
  have hl : (t.P.set q ⟨16, 32, r.c⟩).length = t.P.length := List.length_set
  have hc := (h4 q r hr).2.2
  refine ⟨h1, h2, ⟨by show 2 ≤ (t.P.set q ⟨16, 32, r.c⟩).length ∧ (t.P.set q ⟨16, 32, r.c⟩).length ≤ 4; rw [hl]; exact h3, fun k s hs => ?_⟩, by show Go.Proofs.Ytnoopihhfioanaa.TabC.WinsOk (t.P.set q ⟨16, 32, r.c⟩).length t.fr t.W; rw [hl]; exact h5, by show Go.Proofs.Ytnoopihhfioanaa.TabC.ChansOk (t.P.set q ⟨16, 32, r.c⟩).length t.C; rw [hl]; exact h6⟩
  have hs : (t.P.set q ⟨16, 32, r.c⟩)[k]? = some s := hs
  rw [List.getElem?_set] at hs
  by_cases e : q = k
  · rw [if_pos e] at hs
    split at hs
    · injection hs with hs
      subst hs
      exact ⟨⟨by show (1 : Int) ≤ 16; omega, by show (16 : Int) ≤ 16; omega⟩, ⟨by show (1 : Int) ≤ 32; omega, by show (32 : Int) ≤ 32; omega⟩, hc⟩
    · cases hs
  · rw [if_neg e] at hs
    exact h4 k s hs
theorem wid_chk {t : Ta} {g c q : Nat} {r : Tri} {bi bx : Bool} {i : Im} {v : Int} (hq : q < t.n1) (hl : t.P.length = t.n1) (hr : t.P[q]? = some r) (hi : bi = true ↔ Go.Proofs.Ytnoopihhfioanaa.ImgB.right i) :
    (chk true bi bx t q i v = 14 → chk true bi bx (wid t g c q r) q i v ≠ 14) ∧ (chk true bi bx t q i v ≠ 14 → chk true bi bx (wid t g c q r) q i v = chk true bi bx t q i v) := by
  have e1 : pof t q = r := by
    unfold pof
    rw [Int.toNat_natCast, List.getD_eq_getElem?_getD, hr]
    rfl
  have e2 : pof (wid t g c q r) q = ⟨16, 32, r.c⟩ := by
    unfold pof
    show (t.P.set q ⟨16, 32, r.c⟩).getD _ _ = _
    rw [Int.toNat_natCast, List.getD_eq_getElem?_getD, List.getElem?_set, if_pos rfl, if_pos (by omega)]
    rfl
  have gen : ∀ (T : Ta) (r0 : Tri), T.n1 = t.n1 → pof T q = r0 → chk true bi bx T q i v = if bi = false then 3 else if i.p ≠ q ∨ i.h ≠ r0.c then 12 else if r0.a < i.m ∨ r0.b < i.f then 14 else if bx = true then 15 else if i.v ≤ v then 13 else 0 := fun T r0 h1 h2 => by
    unfold chk
    rw [if_neg (show ¬ (true = false) by simp), h1, h2]
    cases bi with
    | false => rw [if_pos (.inr (.inr rfl)), if_pos rfl]
    | true => rw [if_neg (show ¬ ((q : Int) < 0 ∨ (t.n1 : Int) ≤ (q : Int) ∨ true = false) by simp; omega), if_neg (show ¬ (true = false) by simp)]
  rw [gen t r rfl e1, gen (wid t g c q r) _ rfl e2]
  cases bi with
  | false =>
    rw [if_pos rfl, if_pos rfl]
    exact ⟨fun h => (by cases h), fun _ => rfl⟩
  | true =>
    have hb := hi.1 rfl
    unfold Go.Proofs.Ytnoopihhfioanaa.ImgB.right at hb
    obtain ⟨_, _, _, hm, hf, _⟩ := hb
    rw [if_neg (show ¬ (true = false) by simp), if_neg (show ¬ (true = false) by simp)]
    by_cases ha : i.p ≠ q ∨ i.h ≠ r.c
    · rw [if_pos ha, if_pos ha]
      exact ⟨fun h => (by cases h), fun _ => rfl⟩
    · rw [if_neg ha, if_neg ha, if_neg (show ¬ ((16 : Int) < i.m ∨ (32 : Int) < i.f) by omega)]
      by_cases hz : r.a < i.m ∨ r.b < i.f
      · rw [if_pos hz]
        refine ⟨fun _ => ?_, fun h => absurd rfl h⟩
        split
        · omega
        · split <;> omega
      · rw [if_neg hz]
        refine ⟨fun h => ?_, fun _ => rfl⟩
        split at h
        · cases h
        · split at h <;> cases h
theorem wid_tri {t : Ta} {g c q : Nat} {r : Tri} {bi bx : Bool} {p : Int} {i : Im} (h : Tri3 true bi bx t p i) (hr : t.P[q]? = some r) : Tri3 true bi bx (wid t g c q r) p i :=
  ⟨⟨fun _ => wid_right (h.rt.1 rfl) hr, fun _ => rfl⟩, h.ri, h.rx⟩
set_option maxRecDepth 100000 in
set_option maxHeartbeats 6400000 in
theorem core (t : Ta) (i : Im) (v : Int) (w : World) (ht : t.ok w) (hi : i.ok w) (hv : n64 v) (hk : n64 i.p ∧ n64 i.v ∧ n64 i.h ∧ n64 i.m ∧ n64 i.f ∧ n64 i.s ∧ n64 i.r) :
    Calls Try.prog 6 #[t.val, i.val, .int .i64 v] w fun e w' => e = .returned (.bool true) ∧ Below w.heap.size w w' := by
  have hTI := Ti.new w t i
  obtain ⟨br, bi, bx, h3⟩ := tri3 t i.p i
  obtain ⟨bl, hbl⟩ := bool_of (huge t)
  have HLG := Lib.hid (fun w' (hb : Below w.heap.size w w') => long_any t w' (ht.below hb) bl hbl)
  have HCC := Lib.hid (fun w' (hb : Below w.heap.size w w') => check_any t i.p v i w' (ht.below hb) (hi.below hb) hk.1 hv br bi bx h3)
  have HRR := Lib.hid (fun w' (hb : Below w.heap.size w w') => Go.Proofs.Ytnoopihhfioanaa.TabK.rright_any t w' (ht.below hb) br h3.rt)
  have H3 := Lib.hid h3
  have HT := Lib.hid ht
  have HI := Lib.hid hi
  have HV := Lib.hid hv
  have HK := Lib.hid hk
  obtain ⟨x, hx⟩ : ∃ x, x = chk br bi bx t i.p i v := ⟨_, rfl⟩
  have HX := Lib.hid hx
  rw [← hx] at HCC
  have hni : i.n ≤ 9223372036854775807 := by have := hi.code.le; have := hi.code.cap; omega
  have hm1 : t.n1 ≤ 9223372036854775807 := ht.P.le
  obtain ⟨fr, A1, n1, c1, P, A2, n2, c2, W, A3, n3, c3, C, tr⟩ := t
  obtain ⟨ip, iv, ih, im, if_, is_, ir, iA, in_, ic, ixs⟩ := i
  dsimp only at hni hm1
  clear ht hi h3 hbl hk hv hx
  go_enter Try.func6, Try.ntmps6
  go_upto_region 1 with (fail)
  obtain ⟨w0, hw0⟩ : ∃ w0, w0 = ((w.alloc (.cells #[.int .i64 fr, .slice A1 n1 c1, .slice A2 n2 c2, .slice A3 n3 c3, .int .i64 tr] 26)).alloc (.cells #[.int .i64 ip, .int .i64 iv, .int .i64 ih, .int .i64 im, .int .i64 if_, .int .i64 is_, .int .i64 ir, .slice iA in_ ic] 29)) := ⟨_, rfl⟩
  rw [← hw0]
  have HB0 : Hid (Ti w w.heap.size (w.heap.size + 1) ⟨fr, A1, n1, c1, P, A2, n2, c2, W, A3, n3, c3, C, tr⟩ ⟨ip, iv, ih, im, if_, is_, ir, iA, in_, ic, ixs⟩ w0) := Lib.hid (by rw [hw0]; exact hTI)
  clear hw0 hTI
  go_wp2_with fail
  refine (wakes_any _).mono ?_
  rintro e w1 ⟨rfl, hb1⟩
  have HB1 := Lib.hid (HB0.out.below hb1)
  obtain ⟨⟨a0, a1, a2, a3, a4⟩, b0, b1, b2, b3, b4, b5, b6, b7⟩ := HB1.out.cell
  clear hb1 HB0
  go_wp2_with fail
  refine (HLG.out _ HB1.out.bel).mono ?_
  rintro e w2 ⟨rfl, hb2⟩
  have HB2 := Lib.hid (HB1.out.below hb2)
  clear a0 a1 a2 a3 a4 b0 b1 b2 b3 b4 b5 b6 b7
  clear hb2 HB1
  cases bl with
  | true =>
    go_wp2_with fail
    go_ret
    exact ⟨rfl, HB2.out.bel⟩
  | false =>
    obtain ⟨⟨a0, a1, a2, a3, a4⟩, b0, b1, b2, b3, b4, b5, b6, b7⟩ := HB2.out.cell
    by_cases h5 : 500 < in_
    · go_wp2_with fail
      go_ret
      exact ⟨rfl, HB2.out.bel⟩
    have h5' : ¬ (500 : Int) < (in_ : Int) := by omega
    go_wp2_with fail
    refine (HRR.out _ HB2.out.bel).mono ?_
    rintro e w3 ⟨rfl, hb3⟩
    have HB3 := Lib.hid (HB2.out.below hb3)
    clear a0 a1 a2 a3 a4 b0 b1 b2 b3 b4 b5 b6 b7
    clear hb3 HB2
    obtain ⟨⟨a0, a1, a2, a3, a4⟩, b0, b1, b2, b3, b4, b5, b6, b7⟩ := HB3.out.cell
    cases br with
    | false =>
      go_wp2_with fail
      go_ret
      exact ⟨rfl, HB3.out.bel⟩
    | true =>
    by_cases hp0 : ip < 0
    · go_wp2_with fail
      go_ret
      exact ⟨rfl, HB3.out.bel⟩
    by_cases hp1 : (n1 : Int) ≤ ip
    · go_wp2_with fail
      go_ret
      exact ⟨rfl, HB3.out.bel⟩
    go_wp2_with fail
    refine (HCC.out _ HB3.out.bel).mono ?_
    rintro e w4 ⟨rfl, hb4⟩
    have HB4 := Lib.hid (HB3.out.below hb4)
    clear a0 a1 a2 a3 a4 b0 b1 b2 b3 b4 b5 b6 b7
    clear hb4 HB3
    obtain ⟨⟨a0, a1, a2, a3, a4⟩, b0, b1, b2, b3, b4, b5, b6, b7⟩ := HB4.out.cell
    obtain ⟨q, rfl⟩ : ∃ q : Nat, ip = q := ⟨ip.toNat, by omega⟩
    have hqn : q < n1 := by omega
    obtain ⟨⟨ra, rb, rc⟩, hr⟩ : ∃ r, P[q]? = some r := by
      obtain ⟨r, _, _, hr, _⟩ := HT.out.P.at_ (k := q) hqn
      exact ⟨r, hr⟩
    have HR := Lib.hid (show P[q]? = some ⟨ra, rb, rc⟩ from hr)
    have hrt := H3.out.rt.1 rfl
    have hlP : P.length = n1 := HT.out.P.1
    have hn24 : 2 ≤ n1 ∧ n1 ≤ 4 := by have h := hrt.2.2.1.1; rw [show (Ta.P ⟨fr, A1, n1, c1, P, A2, n2, c2, W, A3, n3, c3, C, tr⟩).length = n1 from hlP] at h; exact h
    have HW := Lib.hid (fun g c => wid_chk (t := ⟨fr, A1, n1, c1, P, A2, n2, c2, W, A3, n3, c3, C, tr⟩) (g := g) (c := c) (r := ⟨ra, rb, rc⟩) (bx := bx) (v := v) hqn hlP hr H3.out.ri)
    have HW3 := Lib.hid (fun g c => wid_tri (t := ⟨fr, A1, n1, c1, P, A2, n2, c2, W, A3, n3, c3, C, tr⟩) (g := g) (c := c) (q := q) (r := ⟨ra, rb, rc⟩) H3.out hr)
    have HLP := Lib.hid hlP
    clear hr hrt hlP
    have hub : Below w4.heap.size w4 (w4.alloc (.cells #[.int .i64 fr, .slice A1 n1 c1, .slice A2 n2 c2, .slice A3 n3 c3, .int .i64 tr] 26)) := (Below.refl _ _).alloc (Nat.le_refl _) _
    have HB5 := Lib.hid (HB4.out.below hub)
    have hu5 := Blk.new w4 26 (Go.Proofs.Ytnoopihhfioanaa.TabA.Ta.cells ⟨fr, A1, n1, c1, P, A2, n2, c2, W, A3, n3, c3, C, tr⟩)
    have HU5 : Hid (Blk (w4.alloc (.cells #[.int .i64 fr, .slice A1 n1 c1, .slice A2 n2 c2, .slice A3 n3 c3, .int .i64 tr] 26)) w4.heap.size 26 [.int .i64 fr, .slice A1 n1 c1, .slice A2 n2 c2, .slice A3 n3 c3, .int .i64 tr]) := Lib.hid hu5
    have HG5 := Lib.hid (show w.heap.size + 1 < w4.heap.size from HB4.out.ib.lt)
    have HL5 := Lib.hid (show w.heap.size ≤ w4.heap.size from HB4.out.bel.size)
    have hgu5 := Lib.hid (show w4.heap.size < (w4.alloc (.cells #[.int .i64 fr, .slice A1 n1 c1, .slice A2 n2 c2, .slice A3 n3 c3, .int .i64 tr] 26)).heap.size from by simp)
    go_upto_region 7 with (fail)
    clear a0 a1 a2 a3 a4 b0 b1 b2 b3 b4 b5 b6 b7
    clear hub hu5 HB4
    obtain ⟨w5, hw5⟩ : ∃ w5, w5 = w4.alloc (.cells #[.int .i64 fr, .slice A1 n1 c1, .slice A2 n2 c2, .slice A3 n3 c3, .int .i64 tr] 26) := ⟨_, rfl⟩
    rw [← hw5] at HB5 HU5 hgu5 ⊢
    obtain ⟨gu, hgu⟩ : ∃ g, g = w4.heap.size := ⟨_, rfl⟩
    rw [← hgu] at HU5 HG5 HL5 hgu5 ⊢
    clear hw5 hgu
    obtain ⟨i0, hi0, hz0, hz1, hz2⟩ := Go.Proofs.Ytnoopihhfioanaa.TabF.info_of Go.Proofs.Ytnoopihhfioanaa.TabF.info_prt
    have hb6 : Below w5.heap.size w5 (w5.alloc (.cells #[] 46)) := (Below.refl _ _).alloc (Nat.le_refl _) _
    have HB6 := Lib.hid (HB5.out.below hb6)
    have HU6 := Lib.hid (HU5.out.below hb6)
    have HO6 := Lib.hid (show (w5.alloc (.cells #[] 46)).ownsRow w5.heap.size 46 3 (.slice (some ⟨w5.heap.size, 0, none⟩) 0 0) 0 [] from ⟨rfl, .inr ⟨w5.heap.size, 0, #[], rfl, Nat.le_refl _, heap_alloc_new w5 _, Nat.le_refl _, Nat.zero_le _, rfl, rfl⟩⟩)
    have HT6 := Lib.hid (show Tris (w5.alloc (.cells #[] 46)) A1 n1 c1 P from (HT.out.below HB6.out.bel).P)
    have HBB := Lib.hid hb6
    clear hb6
    obtain ⟨⟨a0, a1, a2, a3, a4⟩, b0, b1, b2, b3, b4, b5, b6, b7⟩ := HB6.out.cell
    have u1 := HU6.out.cell (i := 1) rfl
    have uf := HU6.out.frozen 1
    go_wp2_with (refine wpList_plain rfl fun K hK => Go.Proofs.Ytnoopihhfioanaa.TabG.wp_add3 (.tmp 45) (.tmp 47) 22 rfl w5.heap.size 46 i0 _ 24 Try.underlying22 hi0 hz0 hz1 hz2 rfl (.slice (some ⟨w5.heap.size, 0, none⟩) 0 0) 0 [] rfl HO6.out A1 n1 c1 P rfl HT6.out (by omega) (by omega) (by simp) ?_; intro A7 n7 c7 w7 hn7 hown7 hg7; have hbl7 : Below w5.heap.size w5 w7 := HBB.out.grown hg7 HBB.out.size (fun k hk => by (injection hk with hk; have hk : w5.heap.size = k := hk; omega)); have v1 := (HU5.out.below hbl7).cell (i := 1) rfl; have vf := (HU5.out.below hbl7).frozen 1; refine hK _ _ ?_)
    obtain rfl : n7 = n1 := by have := hn7.out; omega
    have hown7 := hown7.out
    obtain ⟨g, rfl, hgg, xs, hcur, hcap, hc63⟩ : ∃ g, A7 = some ⟨g, 0, none⟩ ∧ w5.heap.size ≤ g ∧ ∃ xs : List Value, Blk w7 g 46 (tcells P ++ xs) ∧ n7 ≤ c7 ∧ c7 ≤ 9223372036854775807 := by
      rcases hown7.2 with ⟨_, h0⟩ | ⟨g, cap, cur, hv, hbg, hh, hnc, hcm, hcs, htk⟩
      · omega
      · simp only [Value.slice.injEq] at hv
        obtain ⟨rfl, _, rfl⟩ := hv
        refine ⟨g, rfl, hbg, cur.toList.drop (n7 * 3), ?_, hnc, by unfold maxLen at hcm; omega⟩
        have e : tcells P ++ cur.toList.drop (n7 * 3) = cur.toList := by
          have h1 : cur.toList.take (n7 * 3) = tcells P := htk
          rw [← h1, List.take_append_drop]
        unfold Blk
        rw [e]
        exact hh
    have HB7 := Lib.hid (HB5.out.below hbl7)
    have HU7 := Lib.hid (HU5.out.below hbl7)
    clear a0 a1 a2 a3 a4 b0 b1 b2 b3 b4 b5 b6 b7
    clear u1 uf HB5 HU5 HB6 HU6 HO6 HT6 HBB hg7 hown7 hn7 hbl7
    have hgu : gu < w5.heap.size := hgu5.out
    have hg5 := HG5.out
    have HU8 := Lib.hid (HU7.out.set 1 (.slice (some ⟨g, 0, none⟩) n7 c7))
    have HP8 := Lib.hid (hcur.far (p := ⟨gu, 1, none⟩) (by show g ≠ gu; omega) (.slice (some ⟨g, 0, none⟩) n7 c7))
    have HB8 := Lib.hid (show Ti w w.heap.size (w.heap.size + 1) ⟨fr, A1, n7, c1, P, A2, n2, c2, W, A3, n3, c3, C, tr⟩ ⟨(q : Int), iv, ih, im, if_, is_, ir, iA, in_, ic, ixs⟩ (w7.setCell ⟨gu, 1, none⟩ (.slice (some ⟨g, 0, none⟩) n7 c7)) from ⟨HB7.out.tb.far (by show w.heap.size ≠ gu; omega) _, HB7.out.ib.far (by show w.heap.size + 1 ≠ gu; omega) _, HB7.out.l1, HB7.out.l2, HB7.out.bel.setCell (by show w.heap.size ≤ gu; omega) _⟩)
    have hgne : ¬ g = gu := by omega
    have hgne2 : ¬ g = w.heap.size + 1 := by omega
    have hgne3 : ¬ g = w.heap.size := by omega
    obtain ⟨w8, hw8⟩ : ∃ w8, w8 = w7.setCell ⟨gu, 1, none⟩ (.slice (some ⟨g, 0, none⟩) n7 c7) := ⟨_, rfl⟩
    rw [← hw8] at HU8 HP8 HB8 ⊢
    clear hw8 v1 vf HB7 HU7 hcur
    have u1 := HU8.out.cell (i := 1) rfl
    have b0 := HB8.out.cell.2.1
    have hql : q * 3 + 1 < (tcells P ++ xs).length := by
      rw [List.length_append, tcells_len, HLP.out]
      omega
    have p0 : w8.cell? ⟨g, q * 3, none⟩ = some ((tcells P ++ xs)[q * 3]'(by omega)) := HP8.out.cell (List.getElem?_eq_getElem (by omega))
    have p1 : w8.cell? ⟨g, q * 3 + 1, none⟩ = some ((tcells P ++ xs)[q * 3 + 1]'hql) := HP8.out.cell (List.getElem?_eq_getElem hql)
    have f0 := HP8.out.frozen (q * 3)
    have f1 := HP8.out.frozen (q * 3 + 1)
    have hPl : Blk w8 g 46 (tcells P ++ xs) := HP8.out
    have KEY := Lib.hid (show ∀ wx, (wx = ((w8.setCell ⟨g, q * 3, none⟩ (.int .i64 16)).setCell ⟨g, q * 3 + 1, none⟩ (.int .i64 32)) ∨ wx = ((w8.setCell ⟨g, q * 3 + 1, none⟩ (.int .i64 32)).setCell ⟨g, q * 3, none⟩ (.int .i64 16))) → Blk wx.drew g 46 (tcells (P.set q ⟨16, 32, rc⟩) ++ xs) ∧ Blk wx.drew gu 26 [.int .i64 fr, .slice (some ⟨g, 0, none⟩) n7 c7, .slice A2 n2 c2, .slice A3 n3 c3, .int .i64 tr] ∧ Ti w w.heap.size (w.heap.size + 1) ⟨fr, A1, n7, c1, P, A2, n2, c2, W, A3, n3, c3, C, tr⟩ ⟨(q : Int), iv, ih, im, if_, is_, ir, iA, in_, ic, ixs⟩ wx.drew from by
      have hset := tcells_set P q ⟨ra, rb, rc⟩ xs HR.out
      have hbl := HB8.out.bel
      have hgl : w.heap.size ≤ g := by omega
      rintro wx (rfl | rfl)
      · refine ⟨?_, ?_, ?_⟩
        · have h := (hPl.set (q * 3) (.int .i64 16)).set (q * 3 + 1) (.int .i64 32)
          rw [hset] at h
          exact h
        · exact (HU8.out.far (p := ⟨g, q * 3, none⟩) (by show gu ≠ g; omega) _).far (p := ⟨g, q * 3 + 1, none⟩) (by show gu ≠ g; omega) _
        · exact ⟨(HB8.out.tb.far (p := ⟨g, q * 3, none⟩) (by show w.heap.size ≠ g; omega) _).far (p := ⟨g, q * 3 + 1, none⟩) (by show w.heap.size ≠ g; omega) _, (HB8.out.ib.far (p := ⟨g, q * 3, none⟩) (by show w.heap.size + 1 ≠ g; omega) _).far (p := ⟨g, q * 3 + 1, none⟩) (by show w.heap.size + 1 ≠ g; omega) _, HB8.out.l1, HB8.out.l2, ((hbl.setCell hgl _).setCell hgl _).drew⟩
      · refine ⟨?_, ?_, ?_⟩
        · have h := (hPl.set (q * 3 + 1) (.int .i64 32)).set (q * 3) (.int .i64 16)
          rw [List.set_comm _ _ (by omega), hset] at h
          exact h
        · exact (HU8.out.far (p := ⟨g, q * 3 + 1, none⟩) (by show gu ≠ g; omega) _).far (p := ⟨g, q * 3, none⟩) (by show gu ≠ g; omega) _
        · exact ⟨(HB8.out.tb.far (p := ⟨g, q * 3 + 1, none⟩) (by show w.heap.size ≠ g; omega) _).far (p := ⟨g, q * 3, none⟩) (by show w.heap.size ≠ g; omega) _, (HB8.out.ib.far (p := ⟨g, q * 3 + 1, none⟩) (by show w.heap.size + 1 ≠ g; omega) _).far (p := ⟨g, q * 3, none⟩) (by show w.heap.size + 1 ≠ g; omega) _, HB8.out.l1, HB8.out.l2, ((hbl.setCell hgl _).setCell hgl _).drew⟩)
    clear hPl
    go_region_held3 (fun w' => w'.cell? ⟨gu, 1, none⟩ = some (.slice (some ⟨g, 0, none⟩) n7 c7) ∧ w'.cell? ⟨w.heap.size + 1, 0, none⟩ = some (.int .i64 (q : Int)))
      (go_keep)
      (fail)
    all_goals
      obtain ⟨k1, k2, k3⟩ := KEY.out _ (by first | exact .inl rfl | exact .inr rfl)
      generalize World.drew _ = w9 at *
      have HB9 := Lib.hid k3
      have HU9 := Lib.hid k2
      have HP9 := Lib.hid k1
      clear k1 k2 k3 KEY u1 b0 p0 p1 f0 f1 HU8 HP8 HB8
      obtain ⟨⟨a0, a1, a2, a3, a4⟩, b0, b1, b2, b3, b4, b5, b6, b7⟩ := HB9.out.cell
      obtain ⟨u0, u1, u2, u3, u4⟩ : w9.cell? ⟨gu, 0, none⟩ = some (.int .i64 fr) ∧ w9.cell? ⟨gu, 1, none⟩ = some (.slice (some ⟨g, 0, none⟩) n7 c7) ∧ w9.cell? ⟨gu, 2, none⟩ = some (.slice A2 n2 c2) ∧ w9.cell? ⟨gu, 3, none⟩ = some (.slice A3 n3 c3) ∧ w9.cell? ⟨gu, 4, none⟩ = some (.int .i64 tr) := ⟨HU9.out.cell rfl, HU9.out.cell rfl, HU9.out.cell rfl, HU9.out.cell rfl, HU9.out.cell rfl⟩
      have HOK := Lib.hid (show (wid ⟨fr, A1, n7, c1, P, A2, n2, c2, W, A3, n3, c3, C, tr⟩ g c7 q ⟨ra, rb, rc⟩).ok w9 from ⟨by
        have h := Go.Proofs.Ytnoopihhfioanaa.TabE.Tris.of_blk (R := P.set q ⟨16, 32, rc⟩) (c := c7) HP9.out (by rw [List.length_set, HLP.out]; exact hcap) hc63 (fun r hr => by
          rcases List.mem_or_eq_of_mem_set hr with h | h
          · exact HT.out.P.2.2.2.1 r h
          · subst h
            obtain ⟨rr, _, _, h1, h2, _⟩ := HT.out.P.at_ (k := q) hqn
            have h1 : P[q]? = some rr := h1
            rw [HR.out] at h1
            injection h1 with h1
            subst h1
            exact ⟨by show -9223372036854775808 ≤ (16 : Int); omega, by show (16 : Int) ≤ 9223372036854775807; omega, by show -9223372036854775808 ≤ (32 : Int); omega, by show (32 : Int) ≤ 9223372036854775807; omega, h2.c0, h2.c1⟩)
        rw [List.length_set, HLP.out] at h
        exact h, (HT.out.below HB9.out.bel).W, (HT.out.below HB9.out.bel).C, HT.out.f0, HT.out.f1, HT.out.t0, HT.out.t1⟩)
      have HCU := Lib.hid (check_any (wid ⟨fr, A1, n7, c1, P, A2, n2, c2, W, A3, n3, c3, C, tr⟩ g c7 q ⟨ra, rb, rc⟩) (q : Int) v ⟨(q : Int), iv, ih, im, if_, is_, ir, iA, in_, ic, ixs⟩ w9 HOK.out (HI.out.below HB9.out.bel) HK.out.1 HV.out true bi bx (HW3.out g c7))
      obtain ⟨y, hy⟩ : ∃ y, y = chk true bi bx (wid ⟨fr, A1, n7, c1, P, A2, n2, c2, W, A3, n3, c3, C, tr⟩ g c7 q ⟨ra, rb, rc⟩) (q : Int) ⟨(q : Int), iv, ih, im, if_, is_, ir, iA, in_, ic, ixs⟩ v := ⟨_, rfl⟩
      have hxy : (x = 14 → y ≠ 14) ∧ (x ≠ 14 → y = x) := by
        rw [hy, HX.out]
        exact HW.out g c7
      rw [← hy] at HCU
      clear hy
      go_wp2_with fail
      refine HCU.out.mono ?_
      rintro e w10 ⟨rfl, hb10⟩
      have HBX := Lib.hid (HB9.out.below hb10)
      clear hb10
      by_cases hx : x = 14
      · have hy' : (y != 14) = true := by simpa using hxy.1 hx
        subst hx
        clear hxy
        go_wp2_with fail
        go_ret
        exact ⟨rfl, HBX.out.bel⟩
      · have hx' : (x == 14) = false := by simpa using hx
        obtain rfl := hxy.2 hx
        clear hxy
        go_wp2_with fail
        go_ret
        exact ⟨rfl, HBX.out.bel⟩
set_option maxRecDepth 100000 in
theorem hole {H : Type} (enc : TypeId × Value → H) (base : Nat) (v0 : Value) (d0 : DataW H) (p0 : List MemPlace) (v1 : Value) (d1 : DataW H) (p1 : List MemPlace) (a2 : Int) (w : World) (w0 : DataW.Trod enc Try.prog w 0 (fun _ => true) true 26 v0 d0 p0) (o0 : Value.okWide Try.prog w .any base 26 v0) (w1 : DataW.Trod enc Try.prog w 0 (fun _ => true) true 29 v1 d1 p1) (o1 : Value.okWide Try.prog w .any base 29 v1) (w2 : (Lit.int .i64 a2).wf = true) :
    Calls Try.prog 6 #[v0, v1, .int .i64 a2] w fun e w' => e = .returned (.bool true) ∧ Below w.heap.size w w' := by
  obtain ⟨t, rfl, ht⟩ := open_table w0 o0
  obtain ⟨i, rfl, hi, hk⟩ := open_image64 w1 o1
  exact core t i a2 w ht hi (bounds_i64 w2) hk
end Go.Proofs.Ytnoopihhfioanaa.CompatWiderW
