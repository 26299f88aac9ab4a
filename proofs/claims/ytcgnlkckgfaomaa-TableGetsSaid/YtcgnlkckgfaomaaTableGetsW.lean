/- The walk of TableGets. No conditions. -/
import Derived.Test.YtcgnlkckgfaomaaTabK
import Derived.Test.YtcgnlkckgfaomaaTabZ
import Derived.Test.YtcgnlkckgfaomaaTabV
import Derived.Test.YtcgnlkckgfaomaaTabU2
namespace Go.Proofs.Ytcgnlkckgfaomaa.TableGetsW
open Go.RowKit Go.Proofs.Ytcgnlkckgfaomaa.Kit Go.Proofs.Ytcgnlkckgfaomaa.NumA Go.Proofs.Ytcgnlkckgfaomaa.NumB Go.Proofs.Ytcgnlkckgfaomaa.Mem Go.Proofs.Ytcgnlkckgfaomaa.TabA Go.Proofs.Ytcgnlkckgfaomaa.TabB Go.Proofs.Ytcgnlkckgfaomaa.TabC Go.Proofs.Ytcgnlkckgfaomaa.TabD Go.Proofs.Ytcgnlkckgfaomaa.TabE Go.Proofs.Ytcgnlkckgfaomaa.TabJ Go.Proofs.Ytcgnlkckgfaomaa.TabP Go.Proofs.Ytcgnlkckgfaomaa.TabR Go.Proofs.Ytcgnlkckgfaomaa.TabS Go.Proofs.Ytcgnlkckgfaomaa.TabU2
open Go.Proofs.Ytcgnlkckgfaomaa.TabT (Gets get_any)
open Go.Proofs.Ytcgnlkckgfaomaa.TabV (rsame_yes)

/-- What is told, as a case. -/
def Case (s : Rs) (t : Ta) (x : Int) : Prop :=
  (endN (sC s).1 (sC s).2 = 0 ∧ (told s).right ∧ x = 0 ∧ t.fr = (told s).fr ∧ t.tr = (told s).tr ∧ t.P = (told s).P ∧ t.W = (told s).W ∧ t.C = (told s).C) ∨
  (¬ (endN (sC s).1 (sC s).2 = 0 ∧ (told s).right) ∧ x = (if endN (sC s).1 (sC s).2 = 0 then 9 else endN (sC s).1 (sC s).2) ∧ t = ⟨0, none, 0, 0, [], none, 0, 0, [], none, 0, 0, [], 0⟩)
/-- Two tables that were told of the same bytes are alike. -/
theorem both {wa wb : World} {s : Rs} {t u : Ta} {x y : Int} (ho : okB s) (ta : t.ok wa) (tb : u.ok wb) (ca : Case s t x) (cb : Case s u y) :
    t.fr = u.fr ∧ t.tr = u.tr ∧ t.P = u.P ∧ t.W = u.W ∧ t.C = u.C ∧ t.n1 = u.n1 ∧ t.n2 = u.n2 ∧ t.n3 = u.n3 ∧ x = y ∧ (x = 0 → right t ∧ encT t = s.1) := by
  have l1 : t.P.length = t.n1 := ta.P.1
  have l2 : t.W.length = t.n2 := ta.W.1
  have l3 : t.C.length = t.n3 := ta.C.1
  have l1' : u.P.length = u.n1 := tb.P.1
  have l2' : u.W.length = u.n2 := tb.W.1
  have l3' : u.C.length = u.n3 := tb.C.1
  rcases ca with ⟨ez, hr, rfl, f1, f2, f3, f4, f5⟩ | ⟨hno, hx, hz⟩
  · rcases cb with ⟨_, _, rfl, g1, g2, g3, g4, g5⟩ | ⟨hno, _⟩
    · have e3 : t.P = u.P := by rw [f3, g3]
      have e4 : t.W = u.W := by rw [f4, g4]
      have e5 : t.C = u.C := by rw [f5, g5]
      refine ⟨by rw [f1, g1], by rw [f2, g2], e3, e4, e5, by rw [← l1, ← l1', e3], by rw [← l2, ← l2', e4], by rw [← l3, ← l3', e5], rfl, fun _ => ⟨?_, ?_⟩⟩
      · show TOk t.fr t.tr t.P t.W t.C
        rw [f1, f2, f3, f4, f5]
        exact hr
      · rw [told_back ho ez, ← f1, ← f2, ← f3, ← f4, ← f5, l1, l2, l3]
        rfl
    · exact absurd ⟨ez, hr⟩ hno
  · rcases cb with ⟨ez, hr, _⟩ | ⟨_, hy, hz'⟩
    · exact absurd ⟨ez, hr⟩ hno
    · subst hz hz'
      refine ⟨rfl, rfl, rfl, rfl, rfl, rfl, rfl, rfl, by rw [hx, hy], fun h => ?_⟩
      exfalso
      rw [hx] at h
      split at h
      · simp at h
      · exact absurd h (by assumption)

set_option maxRecDepth 100000 in
set_option maxHeartbeats 6400000 in
theorem core (A : Option Addr) (n c : Nat) (xs : List Int) (w : World) (hr : Rd w A n c (u8s xs)) (h8 : ∀ u ∈ xs, 0 ≤ u ∧ u ≤ 255) : Calls Try.prog 4 #[.slice A n c] w (Yes w true) := by
  obtain ⟨i0, hi0, hz0, hz1, hz2⟩ := info_parts NumA.info8
  have hn63 : n ≤ 9223372036854775807 := by have := hr.le; have := hr.cap; omega
  have HR := Lib.hid hr
  have H8 := Lib.hid h8
  have HN := Lib.hid (Rd.bytes hr)
  clear hr h8
  by_cases hl : (300 : Int) < (n : Int)
  · go_enter Try.func4, Try.ntmps4
    go_wp2_with fail
    refine (wakes_any _).mono ?_
    rintro e w1 ⟨rfl, hb1⟩
    go_wp2
    go_ret
    exact ⟨rfl, hb1⟩
  · have hn3 : n ≤ 300 := by omega
    go_enter Try.func4, Try.ntmps4
    go_wp2_with fail
    refine (wakes_any _).mono ?_
    rintro e w1 ⟨rfl, hb1⟩
    have HB1 := Lib.hid hb1
    have HR1 := Lib.hid (HR.out.below hb1)
    clear hb1
    go_wp2_with (at_builtin; refine wpList_add _ rfl (.tmp 15) (.tmp 16) _ rfl w1.heap.size 5 i0 _ 1 Try.underlying29 hi0 hz0 hz1 hz2 rfl _ 0 [] rfl (emptied w1 _) A n c (u8s xs) rfl (HR1.out.alloc _) (u8s_one _) (by omega) (by omega) (size_alloc _ _) ?_; intro A3 n3 c3 w3 hn3 hown3 hg3 hat3; have hb3 := below_add ((Below.refl w1.heap.size w1).alloc (Nat.le_refl _) _) (emptied w1 _) (Nat.le_refl _) hg3; clear hat3 hg3)
    have HO3 := Lib.hid (Rd.own hown3)
    rw [List.nil_append] at HO3
    have HB3 := Lib.hid (HB1.out.trans (hb3.mono HB1.out.size))
    have hn3' : n3 ≤ 300 := by have := hn3.out; omega
    clear hn3 hown3 hb3
    refine (get_any A3 n3 c3 xs w3 HO3.out H8.out (by omega)).mono ?_
    rintro e w4 ⟨t, x, rfl, tok, hb4, hc4⟩
    have HC4 := Lib.hid (show Case (xs, 0) t x from hc4)
    have HT4 := Lib.hid tok
    have HB4 := Lib.hid (HB3.out.trans (hb4.mono HB3.out.size))
    have HR4 := Lib.hid (HR.out.below HB4.out)
    clear hc4 tok hb4 HB3
    obtain ⟨fr, A1, n1, c1, P, A2, n2, c2, W, B3, m3, d3, C, tr⟩ := t
    go_wp2_with fail
    have HT5 := Lib.hid (HT4.out.alloc (.cells #[.int .i64 fr, .slice A1 n1 c1, .slice A2 n2 c2, .slice B3 m3 d3, .int .i64 tr] 26))
    have HB5 := Lib.hid (HB4.out.alloc HB4.out.size (.cells #[.int .i64 fr, .slice A1 n1 c1, .slice A2 n2 c2, .slice B3 m3 d3, .int .i64 tr] 26))
    have HZ5 := Lib.hid (Blk.new w4 26 [.int .i64 fr, .slice A1 n1 c1, .slice A2 n2 c2, .slice B3 m3 d3, .int .i64 tr])
    refine (TabZ.rget_any A n c xs _ (HR.out.below HB5.out) H8.out (by omega)).mono ?_
    rintro e w6 ⟨u, y, rfl, uok, hb6, hc6⟩
    have HBO := Lib.hid (both (wa := w4) (wb := w6) (s := (xs, 0)) H8.out HT4.out uok HC4.out (show Case (xs, 0) u y from hc6))
    have HU6 := Lib.hid uok
    have HT6 := Lib.hid (HT5.out.below hb6)
    have HB6 := Lib.hid (HB5.out.trans (hb6.mono HB5.out.size))
    have HZ6 := Lib.hid (HZ5.out.below hb6)
    clear uok hb6 hc6 HC4 HT4 HT5 HB5 HZ5 HR4 HB4
    obtain ⟨fr', A1', n1', c1', P', A2', n2', c2', W', B3', m3', d3', C', tr'⟩ := u
    obtain ⟨e1, e2, e3, e4, e5, e6, e7, e8, e9, hrx⟩ := HBO.out
    dsimp only at e1 e2 e3 e4 e5 e6 e7 e8
    subst e1 e2 e3 e4 e5 e6 e7 e8 e9
    have HRX := Lib.hid hrx
    clear hrx HBO
    have HT7 := Lib.hid (HT6.out.alloc (.cells #[.int .i64 fr, .slice A1' n1 c1', .slice A2' n2 c2', .slice B3' m3 d3', .int .i64 tr] 26))
    have HU7 := Lib.hid (HU6.out.alloc (.cells #[.int .i64 fr, .slice A1' n1 c1', .slice A2' n2 c2', .slice B3' m3 d3', .int .i64 tr] 26))
    have HB7 := Lib.hid (HB6.out.alloc HB6.out.size (.cells #[.int .i64 fr, .slice A1' n1 c1', .slice A2' n2 c2', .slice B3' m3 d3', .int .i64 tr] 26))
    have HZ7 := Lib.hid (HZ6.out.alloc (.cells #[.int .i64 fr, .slice A1' n1 c1', .slice A2' n2 c2', .slice B3' m3 d3', .int .i64 tr] 26))
    have HY7 := Lib.hid (Blk.new w6 26 [.int .i64 fr, .slice A1' n1 c1', .slice A2' n2 c2', .slice B3' m3 d3', .int .i64 tr])
    obtain ⟨w7, hw7⟩ : ∃ w7, w7 = w6.alloc (.cells #[.int .i64 fr, .slice A1' n1 c1', .slice A2' n2 c2', .slice B3' m3 d3', .int .i64 tr] 26) := ⟨_, rfl⟩
    have HY7' := Lib.hid (show Blk w7 w6.heap.size 26 [.int .i64 fr, .slice A1' n1 c1', .slice A2' n2 c2', .slice B3' m3 d3', .int .i64 tr] from by rw [hw7]; exact HY7.out)
    rw [← hw7] at HT7 HU7 HB7 HZ7
    clear HY7 HT6 HU6 HB6 HZ6
    have hxx : (x != x) = false := by simp
    go_upto_region 7 with (fail)
    rw [← hw7]
    clear hw7
    have y0 := HZ7.out.cell (i := 0) rfl
    have y1 := HZ7.out.cell (i := 1) rfl
    have y2 := HZ7.out.cell (i := 2) rfl
    have y3 := HZ7.out.cell (i := 3) rfl
    have y4 := HZ7.out.cell (i := 4) rfl
    have z0 := HY7'.out.cell (i := 0) rfl
    have z1 := HY7'.out.cell (i := 1) rfl
    have z2 := HY7'.out.cell (i := 2) rfl
    have z3 := HY7'.out.cell (i := 3) rfl
    have z4 := HY7'.out.cell (i := 4) rfl
    have HSM := Lib.hid (rsame_yes fr tr A1 A2 B3 A1' A2' B3' n1 c1 n2 c2 m3 d3 c1' c2' d3' P W C w7 HT7.out HU7.out)
    go_wp2_with fail
    refine HSM.out.mono ?_
    rintro e w8 ⟨rfl, hb8⟩
    have HT8 := Lib.hid (HT7.out.below hb8)
    have HB8 := Lib.hid (HB7.out.trans (hb8.mono HB7.out.size))
    have HZ8 := Lib.hid (HZ7.out.below hb8)
    clear hb8 y0 y1 y2 y3 y4 z0 z1 z2 z3 z4 HSM HT7 HU7 HB7 HZ7 HY7'
    by_cases hx : x = 0
    · subst hx
      obtain ⟨hr, he⟩ := HRX.out rfl
      have he : encT ⟨fr, A1, n1, c1, P, A2, n2, c2, W, B3, m3, d3, C, tr⟩ = xs := he
      have HPT := Lib.hid (put_yes ⟨fr, A1, n1, c1, P, A2, n2, c2, W, B3, m3, d3, C, tr⟩ w8 HT8.out hr)
      rw [he] at HPT
      clear hr he HRX
      have y0 := HZ8.out.cell (i := 0) rfl
      have y1 := HZ8.out.cell (i := 1) rfl
      have y2 := HZ8.out.cell (i := 2) rfl
      have y3 := HZ8.out.cell (i := 3) rfl
      have y4 := HZ8.out.cell (i := 4) rfl
      go_wp2_with fail
      refine HPT.out.mono ?_
      rintro e w9 ⟨B9, m9, d9, rfl, hR9, hb9⟩
      have HB9 := Lib.hid (HB8.out.trans (hb9.mono HB8.out.size))
      have HR9 := Lib.hid hR9
      clear hb9 hR9 y0 y1 y2 y3 y4
      go_wp2_with fail
      refine (same_yes HR9.out (HR.out.below HB9.out)).mono ?_
      rintro e w10 ⟨rfl, nq, rfl⟩
      go_wp2_with fail
      go_ret
      exact ⟨rfl, below_drewN HB9.out nq⟩
    · have hne : (x != 0) = true := by simp [hx]
      go_wp2
      go_ret
      exact ⟨rfl, HB8.out⟩

theorem hole (a0 : Option Addr) (len0 cap0 : Nat) (z0 : List Int) (w : World) (w0 : Row .u8 w a0 len0 cap0 z0) :
    Calls Try.prog 4 #[.slice a0 len0 cap0] w fun e w' => e = .returned (.bool true) ∧ Below w.heap.size w w' := by
  obtain ⟨xs, hr, hx⟩ := Row.rd w0
  exact core a0 len0 cap0 xs w hr (fun u hu => bounds_u8 (hx u hu))
end Go.Proofs.Ytcgnlkckgfaomaa.TableGetsW
