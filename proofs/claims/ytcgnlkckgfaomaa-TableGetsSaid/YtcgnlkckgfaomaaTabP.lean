/- The bytes of a table: singles, Put. Conditions: the table lies as the facts say. -/
import Derived.Test.YtcgnlkckgfaomaaTabJ
import Derived.Test.YtcgnlkckgfaomaaTabR
import Derived.Deep.RegionHeld3
namespace Go.Proofs.Ytcgnlkckgfaomaa.TabP
open Go.RowKit Go.Proofs.Ytcgnlkckgfaomaa.Kit Go.Proofs.Ytcgnlkckgfaomaa.NumA Go.Proofs.Ytcgnlkckgfaomaa.NumB Go.Proofs.Ytcgnlkckgfaomaa.Mem Go.Proofs.Ytcgnlkckgfaomaa.TabA Go.Proofs.Ytcgnlkckgfaomaa.TabB Go.Proofs.Ytcgnlkckgfaomaa.TabC Go.Proofs.Ytcgnlkckgfaomaa.TabD Go.Proofs.Ytcgnlkckgfaomaa.TabE Go.Proofs.Ytcgnlkckgfaomaa.TabI Go.Proofs.Ytcgnlkckgfaomaa.TabJ

def p1 (x : Int) : List Int := putb x 1
theorem p1_len (x : Int) : (p1 x).length = 1 := putb_len _ _
def encP (r : Tri) : List Int := p1 r.a ++ p1 r.b ++ putb r.c 2
def enc3 (r : Tri) : List Int := p1 r.a ++ p1 r.b ++ p1 r.c
def hdrT (fr tr : Int) (a b c : Nat) : List Int := [fr, tr, (a : Int), (b : Int), (c : Int)].flatMap p1
def encT (t : Ta) : List Int := hdrT t.fr t.tr t.n1 t.n2 t.n3 ++ t.P.flatMap encP ++ t.W.flatMap enc3 ++ t.C.flatMap enc3
theorem flat_next {α : Type} {R : List α} {k : Nat} {r : α} (f : α → List Int) (h : R[k]? = some r) : (R.take (k + 1)).flatMap f = (R.take k).flatMap f ++ f r := by
  obtain ⟨hk, rfl⟩ := List.getElem?_eq_some_iff.1 h
  rw [List.take_succ_eq_append_getElem hk, List.flatMap_append]
  simp
theorem ints_rd (w : World) (l : List Int) (t : TypeId) (hl : l.length ≤ 1000) : Rd (w.alloc (.cells (i64s l).toArray t)) (some ⟨w.heap.size, 0, none⟩) l.length l.length (i64s l) := by
  have h := own_of_block (w := w.alloc (.cells (i64s l).toArray t)) (g := w.heap.size) (cur := i64s l) (e := t) (base := w.heap.size) (n := l.length) (heap_alloc_new w _) (Nat.le_refl _) (by rw [i64s_len]; exact Nat.le_refl _) (by rw [i64s_len]; omega)
  have h2 := Rd.own h
  rw [i64s_len, List.take_of_length_le (by rw [i64s_len]; exact Nat.le_refl _)] at h2
  exact h2
theorem ints_rd_at {w : World} {g : Nat} (l : List Int) (t : TypeId) (hg : g = w.heap.size) (hl : l.length ≤ 1000) : Rd (w.alloc (.cells (i64s l).toArray t)) (some ⟨g, 0, none⟩) l.length l.length (i64s l) := by
  subst hg
  exact ints_rd w l t hl
theorem flat_len {l : List Int} : (l.flatMap p1).length = l.length := by
  induction l with
  | nil => rfl
  | cons x l ih => rw [List.flatMap_cons, List.length_append, p1_len, ih]; simp; omega

/-- What hands back bytes. -/
def Gives (w : World) (ys : List Int) (e : Ending) (w' : World) : Prop := ∃ A n c, e = .returned (.slice A n c) ∧ Rd w' A n c (u8s ys) ∧ Below w.heap.size w w'
set_option maxHeartbeats 800000 in
theorem singles_any (A : Option Addr) (m c : Nat) (xs : List Int) (B : Option Addr) (q d : Nat) (ns : List Int) (w : World) (hx : Rd w A m c (u8s xs)) (hn : Rd w B q d (i64s ns)) (hm : m ≤ 100000) (hq : q ≤ 1000) :
    Calls Try.prog 27 #[.slice A m c, .slice B q d] w (Gives w (xs ++ ns.flatMap p1)) := by
  have HX := Lib.hid hx
  have HN := Lib.hid hn
  have HL := Lib.hid (show ns.length = q from by have := hn.1; rwa [i64s_len] at this)
  clear hx hn
  go_enter Try.func27, Try.ntmps27
  go_wp2
  go_loopw [0, 9] (fun s i wr => ∃ (k : Nat) (A' : Option Addr) (n' c' : Nat), k ≤ q ∧ i = .int .i64 k ∧ s = .slice A' n' c' ∧ Hid (n' = m + k) ∧ Hid (Rd wr A' n' c' (u8s (xs ++ (ns.take k).flatMap p1))) ∧ Hid (Below w.heap.size w wr)) (fun _ i _ => q - (intOf i).toNat)
  case atStart => exact ⟨0, A, m, c, Nat.zero_le _, rfl, rfl, Lib.hid rfl, Lib.hid (by simpa using HX.out), Lib.hid (Below.refl _ _)⟩
  case round =>
    obtain ⟨k, A', n', c', hk, rfl, rfl, hn', HR, HB⟩ := hrel
    by_cases hlt : k < q
    · obtain ⟨x, b', o, hx, hA, hbl, q0⟩ := i64_at (HN.out.below HB.out) hlt
      have HF := Lib.hid (flat_next p1 hx)
      subst hA
      clear hx
      have HP := Lib.hid (put_any A' n' c' _ x 1 wr HR.out (by have := hn'.out; omega))
      go_wp2_with fail
      refine HP.out.mono ?_
      rintro e w5 ⟨A5, n5, c5, hn5, rfl, hown5, hb5⟩
      have HR5 := Lib.hid (Rd.own hown5)
      have HB5 := Lib.hid (HB.out.trans (hb5.mono HB.out.size))
      have HN5 := Lib.hid (show n5 = m + (k + 1) from by
        have h1 := hn5.out
        have h2 := hn'.out
        have h3 := Rd.bytes HR.out
        rw [List.length_append, putb_len] at h1
        have h4 : wd 1 = 1 := rfl
        omega)
      clear hn5 hown5 hb5
      go_wp2_with fail
      go_roundw
      case rel => exact ⟨k + 1, A5, n5, c5, by omega, by go_num, rfl, HN5, Lib.hid (by rw [HF.out, ← List.append_assoc]; exact HR5.out), HB5⟩
      case measure => simp [intOf]; omega
    · obtain rfl : q = k := by omega
      go_wp2
      go_ret
      have h := HR.out
      rw [List.take_of_length_le (by have := HL.out; omega)] at h
      exact ⟨A', n', c', rfl, h, HB.out⟩

/-- What Put hands back of a right table. -/
def Puts (w : World) (ys : List Int) (e : Ending) (w' : World) : Prop := ∃ A n c, e = .returned (.tuple #[.slice A n c, .int .i64 0]) ∧ Rd w' A n c (u8s ys) ∧ Below w.heap.size w w'
set_option maxHeartbeats 1600000 in
theorem put_no (t : Ta) (w : World) (h : t.ok w) (hr : ¬ right t) : Calls Try.prog 11 #[t.val] w fun e w' => e = .returned (.tuple #[.slice none 0 0, .int .i64 9]) ∧ Below w.heap.size w w' := by
  have H1 := Lib.hid (fun w' (hb : Below w.heap.size w w') => right_any t w' (h.below hb) false (by simpa using hr))
  have HX := Lib.hid (Bx.new w t)
  clear h hr
  obtain ⟨fr, A1, n1, c1, P, A2, n2, c2, W, A3, n3, c3, C, tr⟩ := t
  show Calls _ _ #[.agg #[.int .i64 fr, .slice A1 n1 c1, .slice A2 n2 c2, .slice A3 n3 c3, .int .i64 tr]] w _
  go_enter Try.func11, Try.ntmps11
  go_wp2_with fail
  refine (H1.out _ HX.out.bel).mono ?_
  rintro e w2 ⟨rfl, hb2⟩
  have HX2 := Lib.hid (HX.out.step hb2)
  clear hb2
  go_wp2
  go_ret2
  exact ⟨rfl, HX2.out.bel⟩

set_option maxRecDepth 100000 in
set_option maxHeartbeats 6400000 in
theorem put_yes (t : Ta) (w : World) (h : t.ok w) (hr : right t) : Calls Try.prog 11 #[t.val] w (Puts w (encT t)) := by
  have H1 := Lib.hid (fun w' (hb : Below w.heap.size w w') => right_any t w' (h.below hb) true (by simpa using hr))
  have HX := Lib.hid (Bx.new w t)
  have HO := Lib.hid h
  have hm1 : t.n1 ≤ 4 := by rw [← h.P.1]; exact hr.2.2.1.1.2
  have hm2 : t.n2 ≤ 8 := by rw [← h.W.1]; exact hr.2.2.2.1.1
  have hm3 : t.n3 ≤ 4 := by rw [← h.C.1]; exact hr.2.2.2.2.1
  have HL1 := Lib.hid (show t.P.length = t.n1 from h.P.1)
  have HL2 := Lib.hid (show t.W.length = t.n2 from h.W.1)
  have HL3 := Lib.hid (show t.C.length = t.n3 from h.C.1)
  clear h hr
  obtain ⟨fr, A1, n1, c1, P, A2, n2, c2, W, A3, n3, c3, C, tr⟩ := t
  have hm1 : n1 ≤ 4 := hm1
  have hm2 : n2 ≤ 8 := hm2
  have hm3 : n3 ≤ 4 := hm3
  have HE := Lib.hid (show encT ⟨fr, A1, n1, c1, P, A2, n2, c2, W, A3, n3, c3, C, tr⟩ = hdrT fr tr n1 n2 n3 ++ P.flatMap encP ++ W.flatMap enc3 ++ C.flatMap enc3 from rfl)
  show Calls _ _ #[.agg #[.int .i64 fr, .slice A1 n1 c1, .slice A2 n2 c2, .slice A3 n3 c3, .int .i64 tr]] w _
  go_enter Try.func11, Try.ntmps11
  go_wp2_with fail
  refine (H1.out _ HX.out.bel).mono ?_
  rintro e w2 ⟨rfl, hb2⟩
  have HX2 := Lib.hid (HX.out.step hb2)
  clear hb2 HX H1
  obtain ⟨y0, y1, y2, y3, y4⟩ := HX2.out.cell
  dsimp only at y0 y1 y2 y3 y4
  go_wp2_with fail
  refine (singles_any none 0 0 [] (some ⟨w2.heap.size, 0, none⟩) 5 5 [fr, tr, (n1 : Int), (n2 : Int), (n3 : Int)] _ (Rd.nil _) (ints_rd w2 [fr, tr, (n1 : Int), (n2 : Int), (n3 : Int)] 3 (by simp)) (by omega) (by omega)).mono ?_
  rintro e w3 ⟨A, n, c, rfl, hR3, hb3⟩
  have HX3 := Lib.hid ((HX2.out.alloc (.cells #[.int .i64 fr, .int .i64 tr, .int .i64 (n1 : Int), .int .i64 (n2 : Int), .int .i64 (n3 : Int)] 3)).step hb3)
  have HR3 := Lib.hid (show Rd w3 A n c (u8s (hdrT fr tr n1 n2 n3)) from hR3)
  have HN3 := Lib.hid (show n = 5 from by have := Rd.bytes hR3; rw [List.length_append, flat_len] at this; simpa using this.symm)
  clear hb3 hR3 y0 y1 y2 y3 y4 HX2
  obtain ⟨y0, y1, y2, y3, y4⟩ := HX3.out.cell
  dsimp only at y0 y1 y2 y3 y4
  obtain ⟨hd, hhd⟩ : ∃ hd, hd = hdrT fr tr n1 n2 n3 := ⟨_, rfl⟩
  rw [← hhd] at HR3 HE
  clear hhd
  go_wp2_with fail
  clear y0 y1 y2 y3 y4
  go_loopw [4, 32] (fun s i wr => ∃ (k : Nat) (A' : Option Addr) (n' c' : Nat), k ≤ n1 ∧ i = .int .i64 k ∧ s = .slice A' n' c' ∧ n' ≤ 5 + 4 * k ∧ Hid (Rd wr A' n' c' (u8s (hd ++ (P.take k).flatMap encP))) ∧ Hid (Bx w ⟨fr, A1, n1, c1, P, A2, n2, c2, W, A3, n3, c3, C, tr⟩ wr)) (fun _ i _ => n1 - (intOf i).toNat)
  case atStart => exact ⟨0, A, n, c, Nat.zero_le _, rfl, rfl, by have := HN3.out; omega, Lib.hid (by simpa using HR3.out), HX3⟩
  case round =>
    obtain ⟨k, A', n', c', hk, rfl, rfl, hn', HR, HXr⟩ := hrel
    by_cases hlt : k < n1
    · obtain ⟨r, b', o, hr, hok, hA, hbl, q0, q1, q2⟩ := (HO.out.below HXr.out.bel).P.at_ hlt
      dsimp only at hr hA
      subst hA
      have HF := Lib.hid (flat_next encP hr)
      clear hr hok
      go_upto_region 7 with (fail)
      have HXa := Lib.hid (HXr.out.alloc (.cells #[.int .i64 r.a, .int .i64 r.b, .int .i64 r.c] 57))
      have HBa := Lib.hid (Blk.new wr 57 [.int .i64 r.a, .int .i64 r.b, .int .i64 r.c])
      have HRa := Lib.hid (HR.out.alloc (.cells #[.int .i64 r.a, .int .i64 r.b, .int .i64 r.c] 57))
      have hsa : wr.heap.size < (wr.alloc (.cells #[.int .i64 r.a, .int .i64 r.b, .int .i64 r.c] 57)).heap.size := by simp
      obtain ⟨wa, hwa⟩ : ∃ wa, wa = wr.alloc (.cells #[.int .i64 r.a, .int .i64 r.b, .int .i64 r.c] 57) := ⟨_, rfl⟩
      have HBa2 := Lib.hid (show Blk wa wr.heap.size 57 [.int .i64 r.a, .int .i64 r.b, .int .i64 r.c] from by rw [hwa]; exact HBa.out)
      rw [← hwa] at HXa HRa hsa ⊢
      clear hwa HBa q0 q1 q2
      obtain ⟨gp, hgp⟩ : ∃ gp, gp = wr.heap.size := ⟨_, rfl⟩
      rw [← hgp] at HBa2 hsa ⊢
      clear hgp
      have k0 := HBa2.out.cell (i := 0) (v := .int .i64 r.a) rfl
      have k1 := HBa2.out.cell (i := 1) (v := .int .i64 r.b) rfl
      have k2 := HBa2.out.cell (i := 2) (v := .int .i64 r.c) rfl
      go_region_held3 (fun w' => w'.cell? ⟨gp, 0, none⟩ = some (.int .i64 r.a) ∧ w'.cell? ⟨gp, 1, none⟩ = some (.int .i64 r.b) ∧ w'.cell? ⟨gp, 2, none⟩ = some (.int .i64 r.c))
        (first | go_keep | exact ⟨(HB5.out.cell (p := ⟨gp, 0, none⟩) hsa).trans k0, (HB5.out.cell (p := ⟨gp, 1, none⟩) hsa).trans k1, (HB5.out.cell (p := ⟨gp, 2, none⟩) hsa).trans k2⟩ | exact ⟨(HB6.out.cell (p := ⟨gp, 0, none⟩) hsa).trans k0, (HB6.out.cell (p := ⟨gp, 1, none⟩) hsa).trans k1, (HB6.out.cell (p := ⟨gp, 2, none⟩) hsa).trans k2⟩)
        (first
         | (go_at_call 27; refine (singles_any A' n' c' (hd ++ (P.take k).flatMap encP) (some ⟨wa.heap.size, 0, none⟩) 2 2 [r.a, r.b] _ ((HRa.out.below (Below.refl wa.heap.size wa).drew).alloc _) (ints_rd wa.drew [r.a, r.b] 3 (by simp)) (by omega) (by omega)).mono ?_; rintro e w5 ⟨A5, n5, c5, rfl, hR5, hb5⟩; have HR5 := Lib.hid hR5; have HB5 := Lib.hid (show Below wa.heap.size wa w5 from (((Below.refl wa.heap.size wa).drew).alloc (Nat.le_refl _) _).trans (hb5.mono (by simp))); clear hR5 hb5)
         | (go_at_call 28; refine (put_any A5 n5 c5 _ r.c 2 w5 HR5.out (by have := Rd.bytes HR5.out; have := Rd.bytes HRa.out; simp [flat_len, p1_len] at *; omega)).mono ?_; rintro e w6 ⟨A6, n6, c6, hn6, rfl, hown6, hb6⟩; have HR6 := Lib.hid (Rd.own hown6); have HB6 := Lib.hid (HB5.out.trans (hb6.mono HB5.out.size)); clear hown6 hb6))
      have HN6 := Lib.hid (show n6 ≤ 5 + 4 * (k + 1) from by
        have h1 := hn6.out
        have h2 := Rd.bytes HRa.out
        simp only [List.length_append, putb_len, flat_len] at h1 h2
        have h4 : wd 2 = 2 := rfl
        simp only [h4, List.length_cons, List.length_nil] at h1
        omega)
      clear hn6
      go_wp2_with fail
      go_roundw
      case rel => exact ⟨k + 1, A6, n6, c6, by omega, by go_num, rfl, HN6.out, Lib.hid (by
        have h := HR6.out
        rw [HF.out]
        simpa [encP, List.flatMap_cons] using h), Lib.hid (HXa.out.step HB6.out)⟩
      case measure => simp [intOf]; omega
    · obtain rfl : n1 = k := by omega
      have HR2 := Lib.hid (show Rd wr A' n' c' (u8s (hd ++ P.flatMap encP)) from by
        have h := HR.out
        rwa [List.take_of_length_le (by have := HL1.out; omega)] at h)
      obtain ⟨h2, hh2⟩ : ∃ h2, h2 = hd ++ P.flatMap encP := ⟨_, rfl⟩
      rw [← hh2] at HR2 HE
      obtain ⟨y0, y1, y2, y3, y4⟩ := HXr.out.cell
      dsimp only at y0 y1 y2 y3 y4
      have hn2' : n' ≤ 21 := by omega
      clear hh2 hn' hk HR
      go_wp2_with fail
      clear y0 y1 y2 y3 y4
      go_loopw [4, 50] (fun s i wr => ∃ (k : Nat) (A' : Option Addr) (n' c' : Nat), k ≤ n2 ∧ i = .int .i64 k ∧ s = .slice A' n' c' ∧ n' ≤ 21 + 3 * k ∧ Hid (Rd wr A' n' c' (u8s (h2 ++ (W.take k).flatMap enc3))) ∧ Hid (Bx w ⟨fr, A1, n1, c1, P, A2, n2, c2, W, A3, n3, c3, C, tr⟩ wr)) (fun _ i _ => n2 - (intOf i).toNat)
      case atStart => exact ⟨0, A', n', c', Nat.zero_le _, rfl, rfl, by omega, Lib.hid (by simpa using HR2.out), HXr⟩
      case round =>
        obtain ⟨k, A', n', c', hk, rfl, rfl, hn', HR, HXr⟩ := hrel
        by_cases hlt : k < n2
        · obtain ⟨r, b', o, hr, hok, hA, hbl, q0, q1, q2⟩ := (HO.out.below HXr.out.bel).W.at_ hlt
          dsimp only at hr hA
          subst hA
          have HF := Lib.hid (flat_next enc3 hr)
          clear hr hok
          go_wp2_with fail
          refine (singles_any A' n' c' _ (some ⟨wr.heap.size + 1, 0, none⟩) 3 3 [r.a, r.b, r.c] _ ((HR.out.alloc _).alloc _) (ints_rd_at [r.a, r.b, r.c] 3 (by simp) (by simp)) (by omega) (by omega)).mono ?_
          rintro e w5 ⟨A5, n5, c5, rfl, hR5, hb5⟩
          have HX5 := Lib.hid (((HXr.out.alloc _).alloc _).step hb5)
          have HN5 := Lib.hid (show n5 ≤ 21 + 3 * (k + 1) from by
            have h1 := Rd.bytes hR5
            have h2 := Rd.bytes HR.out
            simp only [List.length_append, flat_len, List.length_cons, List.length_nil] at h1 h2
            omega)
          have HR5 := Lib.hid hR5
          clear hb5 hR5 q0 q1 q2
          go_wp2_with fail
          go_roundw
          case rel => exact ⟨k + 1, A5, n5, c5, by omega, by go_num, rfl, HN5.out, Lib.hid (by
              have h := HR5.out
              rw [HF.out]
              simpa [enc3, List.flatMap_cons] using h), HX5⟩
          case measure => simp [intOf]; omega
        · obtain rfl : n2 = k := by omega
          have HR3 := Lib.hid (show Rd wr A' n' c' (u8s (h2 ++ W.flatMap enc3)) from by
            have h := HR.out
            rwa [List.take_of_length_le (by have := HL2.out; omega)] at h)
          obtain ⟨h3, hh3⟩ : ∃ h3, h3 = h2 ++ W.flatMap enc3 := ⟨_, rfl⟩
          rw [← hh3] at HR3 HE
          obtain ⟨y0, y1, y2, y3, y4⟩ := HXr.out.cell
          dsimp only at y0 y1 y2 y3 y4
          have hn3' : n' ≤ 45 := by omega
          clear hh3 hn' hk HR
          go_wp2_with fail
          clear y0 y1 y2 y3 y4
          go_loopw [4, 67] (fun s i wr => ∃ (k : Nat) (A' : Option Addr) (n' c' : Nat), k ≤ n3 ∧ i = .int .i64 k ∧ s = .slice A' n' c' ∧ n' ≤ 45 + 3 * k ∧ Hid (Rd wr A' n' c' (u8s (h3 ++ (C.take k).flatMap enc3))) ∧ Hid (Bx w ⟨fr, A1, n1, c1, P, A2, n2, c2, W, A3, n3, c3, C, tr⟩ wr)) (fun _ i _ => n3 - (intOf i).toNat)
          case atStart => exact ⟨0, A', n', c', Nat.zero_le _, rfl, rfl, by omega, Lib.hid (by simpa using HR3.out), HXr⟩
          case round =>
            obtain ⟨k, A', n', c', hk, rfl, rfl, hn', HR, HXr⟩ := hrel
            by_cases hlt : k < n3
            · obtain ⟨r, b', o, hr, hok, hA, hbl, q0, q1, q2⟩ := (HO.out.below HXr.out.bel).C.at_ hlt
              dsimp only at hr hA
              subst hA
              have HF := Lib.hid (flat_next enc3 hr)
              clear hr hok
              go_wp2_with fail
              refine (singles_any A' n' c' _ (some ⟨wr.heap.size + 1, 0, none⟩) 3 3 [r.a, r.b, r.c] _ ((HR.out.alloc _).alloc _) (ints_rd_at [r.a, r.b, r.c] 3 (by simp) (by simp)) (by omega) (by omega)).mono ?_
              rintro e w5 ⟨A5, n5, c5, rfl, hR5, hb5⟩
              have HX5 := Lib.hid (((HXr.out.alloc _).alloc _).step hb5)
              have HN5 := Lib.hid (show n5 ≤ 45 + 3 * (k + 1) from by
                have h1 := Rd.bytes hR5
                have h2 := Rd.bytes HR.out
                simp only [List.length_append, flat_len, List.length_cons, List.length_nil] at h1 h2
                omega)
              have HR5 := Lib.hid hR5
              clear hb5 hR5 q0 q1 q2
              go_wp2_with fail
              go_roundw
              case rel => exact ⟨k + 1, A5, n5, c5, by omega, by go_num, rfl, HN5.out, Lib.hid (by
                  have h := HR5.out
                  rw [HF.out]
                  simpa [enc3, List.flatMap_cons] using h), HX5⟩
              case measure => simp [intOf]; omega
            · obtain rfl : n3 = k := by omega
              have HR4 := Lib.hid (show Rd wr A' n' c' (u8s (h3 ++ C.flatMap enc3)) from by
                have h := HR.out
                rwa [List.take_of_length_le (by have := HL3.out; omega)] at h)
              go_wp2_with fail
              go_ret2
              exact ⟨A', n', c', rfl, by rw [HE.out]; exact HR4.out, HXr.out.bel⟩
end Go.Proofs.Ytcgnlkckgfaomaa.TabP
