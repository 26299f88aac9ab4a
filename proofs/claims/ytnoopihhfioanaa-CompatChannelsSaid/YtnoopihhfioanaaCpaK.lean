/- How long a table is; the laws' example: an image for one partition is not for the other one. No conditions but those each law names. -/
import Derived.Test.YtnoopihhfioanaaCpaN
import Derived.Test.YtnoopihhfioanaaCpaA
import Derived.Test.YtnoopihhfioanaaTabE0
import Derived.Deep.RegionHeld3
namespace Go.Proofs.Ytnoopihhfioanaa.CpaK
open Go.RowKit Go.Proofs.Ytnoopihhfioanaa.Kit Go.Proofs.Ytnoopihhfioanaa.Byt Go.Proofs.Ytnoopihhfioanaa.Mem Go.Proofs.Ytnoopihhfioanaa.TabA Go.Proofs.Ytnoopihhfioanaa.TabB Go.Proofs.Ytnoopihhfioanaa.TabC Go.Proofs.Ytnoopihhfioanaa.TabD Go.Proofs.Ytnoopihhfioanaa.TabE
open Go.Proofs.Ytnoopihhfioanaa.CpaM (Tri3 chk pof PortBad From To)
open Go.Proofs.Ytnoopihhfioanaa.CpaN (check_any)
open Go.Proofs.Ytnoopihhfioanaa.ImgA (Im)
open Go.Proofs.Ytnoopihhfioanaa.BitM (hb pw)
set_option maxHeartbeats 400000 in
theorem long_any (t : Ta) (w : World) (h : t.ok w) (b : Bool) (hb : b = true ↔ huge t) : Calls Try.prog 8 #[t.val] w (Yes w b) := by
  obtain ⟨fr, A1, n1, c1, P, A2, n2, c2, W, A3, n3, c3, C, tr⟩ := t
  have hm1 : n1 ≤ 9223372036854775807 := h.P.le
  have hm2 : n2 ≤ 9223372036854775807 := h.W.le
  have hm3 : n3 ≤ 9223372036854775807 := h.C.le
  have HB := Lib.hid (show b = true ↔ 20 < n1 ∨ 40 < n2 ∨ 20 < n3 from hb)
  clear h hb
  show Calls _ _ #[.agg #[.int .i64 fr, .slice A1 n1 c1, .slice A2 n2 c2, .slice A3 n3 c3, .int .i64 tr]] w _
  by_cases h1 : 20 < n1
  · have hbt := Lib.hid (HB.out.2 (.inl h1))
    go_enter Try.func8, Try.ntmps8
    go_wp2
    go_ret
    exact ⟨by rw [hbt.out]; rfl, (Below.refl _ _).alloc (Nat.le_refl _) _⟩
  · by_cases h2 : 40 < n2
    · have hbt := Lib.hid (HB.out.2 (.inr (.inl h2)))
      go_enter Try.func8, Try.ntmps8
      go_wp2
      go_ret
      exact ⟨by rw [hbt.out]; rfl, (Below.refl _ _).alloc (Nat.le_refl _) _⟩
    · by_cases h3 : 20 < n3
      · have hbt := Lib.hid (HB.out.2 (.inr (.inr h3)))
        go_enter Try.func8, Try.ntmps8
        go_wp2
        go_ret
        exact ⟨by rw [hbt.out]; simp; omega, (Below.refl _ _).alloc (Nat.le_refl _) _⟩
      · have hbt := Lib.hid (show b = false from by rw [Bool.eq_false_iff]; intro hb; have := HB.out.1 hb; omega)
        go_enter Try.func8, Try.ntmps8
        go_wp2
        go_ret
        exact ⟨by rw [hbt.out]; simp; omega, (Below.refl _ _).alloc (Nat.le_refl _) _⟩

def exP : List Tri := [⟨4, 4, 0⟩, ⟨4, 4, 0⟩]
def exW : List Tri := [⟨0, 0, 1⟩]
def exC : List Tri := [⟨0, 1, 0⟩]
def ex (g1 g2 g3 : Nat) : Ta := ⟨4, some ⟨g1, 0, none⟩, 2, 2, exP, some ⟨g2, 0, none⟩, 1, 1, exW, some ⟨g3, 0, none⟩, 1, 1, exC, 1⟩
theorem ex_right (g1 g2 g3 : Nat) : right (ex g1 g2 g3) := by
  refine ⟨⟨by show (1 : Int) ≤ 4; omega, by show (4 : Int) ≤ 64; omega⟩, ⟨by show (1 : Int) ≤ 1; omega, by show (1 : Int) ≤ 7; omega⟩, ⟨⟨by show 2 ≤ 2; omega, by show 2 ≤ 4; omega⟩, ?_⟩, ⟨by show 1 ≤ 8; omega, ?_, 0, _, rfl, rfl⟩, ⟨by show 1 ≤ 4; omega, ?_⟩⟩
  · intro k r hr
    match k, hr with
    | 0, hr => injection hr with hr; subst hr; simp [PartOk]
    | 1, hr => injection hr with hr; subst hr; simp [PartOk]
    | k + 2, hr => simp [ex, exP] at hr
  · intro k r hr
    match k, hr with
    | 0, hr => injection hr with hr; subst hr; simp [WinOk, endAt, ex, exP]
    | k + 1, hr => simp [ex, exW] at hr
  · intro k r hr
    match k, hr with
    | 0, hr => injection hr with hr; subst hr; simp [ChanOk, ex, exP]
    | k + 1, hr => simp [ex, exC] at hr
theorem exP_ok : ∀ r ∈ exP, r.ok := by
  intro r hr
  simp only [exP, List.mem_cons, List.not_mem_nil, or_false] at hr
  rcases hr with rfl | rfl <;> exact ⟨by decide, by decide, by decide, by decide, by decide, by decide⟩
theorem exW_ok : ∀ r ∈ exW, r.ok := by
  intro r hr
  simp only [exW, List.mem_cons, List.not_mem_nil, or_false] at hr
  rcases hr with rfl <;> exact ⟨by decide, by decide, by decide, by decide, by decide, by decide⟩
theorem exC_ok : ∀ r ∈ exC, r.ok := by
  intro r hr
  simp only [exC, List.mem_cons, List.not_mem_nil, or_false] at hr
  rcases hr with rfl <;> exact ⟨by decide, by decide, by decide, by decide, by decide, by decide⟩
theorem ex_ok {w : World} {g1 g2 g3 : Nat} {t1 t2 t3 : TypeId} (h1 : Blk w g1 t1 (tcells exP)) (h2 : Blk w g2 t2 (tcells exW)) (h3 : Blk w g3 t3 (tcells exC)) : (ex g1 g2 g3).ok w :=
  ⟨Tris.of_blk (R := exP) (c := 2) (xs := []) (by simpa using h1) (Nat.le_refl _) (by decide) exP_ok, Tris.of_blk (R := exW) (c := 1) (xs := []) (by simpa using h2) (Nat.le_refl _) (by decide) exW_ok, Tris.of_blk (R := exC) (c := 1) (xs := []) (by simpa using h3) (Nat.le_refl _) (by decide) exC_ok,
    by show -9223372036854775808 ≤ (4 : Int); omega, by show (4 : Int) ≤ 9223372036854775807; omega, by show -9223372036854775808 ≤ (1 : Int); omega, by show (1 : Int) ≤ 9223372036854775807; omega⟩
set_option maxRecDepth 100000 in
theorem example_any (w : World) : Calls Try.prog 16 #[] w fun e w' => ∃ g1 g2 g3, e = .returned (ex g1 g2 g3).val ∧ (ex g1 g2 g3).ok w' ∧ Below w.heap.size w w' := by
  go_enter Try.func16, Try.ntmps16
  go_wp2
  have b0 : ∀ o, Below w.heap.size w (w.alloc o) := fun o => (Below.refl _ _).alloc (Nat.le_refl _) _
  refine ret_row (g := w.heap.size) (t := 26) (cs := #[.int .i64 4, .slice (some ⟨w.heap.size + 1 + 1, 0, none⟩) 2 2, .slice (some ⟨w.heap.size + 1 + 1 + 1, 0, none⟩) 1 1, .slice (some ⟨w.heap.size + 1 + 1 + 1 + 1, 0, none⟩) 1 1, .int .i64 1]) Try.results16 rfl rfl (alloc_old (alloc_old (alloc_old (alloc_old (heap_alloc_new w _))))) Try.underlying26 rfl size_table ?_
  refine ⟨_, _, _, rfl, ex_ok (t1 := 46) (t2 := 60) (t3 := 41) ?_ ?_ ?_, ?_⟩
  · refine Blk.alloc (Blk.alloc ?_ _) _
    have h := Blk.new ((w.alloc (.cells #[.int .i64 4, .slice (some ⟨w.heap.size + 1 + 1, 0, none⟩) 2 2, .slice (some ⟨w.heap.size + 1 + 1 + 1, 0, none⟩) 1 1, .slice (some ⟨w.heap.size + 1 + 1 + 1 + 1, 0, none⟩) 1 1, .int .i64 1] 26)).alloc (.cells #[.int .i64 4, .int .i64 4, .int .i64 0] 46)) 46 (tcells exP)
    simpa [tcells, exP, Tri.cells] using h
  · refine Blk.alloc ?_ _
    have h := Blk.new (((w.alloc (.cells #[.int .i64 4, .slice (some ⟨w.heap.size + 1 + 1, 0, none⟩) 2 2, .slice (some ⟨w.heap.size + 1 + 1 + 1, 0, none⟩) 1 1, .slice (some ⟨w.heap.size + 1 + 1 + 1 + 1, 0, none⟩) 1 1, .int .i64 1] 26)).alloc (.cells #[.int .i64 4, .int .i64 4, .int .i64 0] 46)).alloc (.cells #[.int .i64 4, .int .i64 4, .int .i64 0, .int .i64 4, .int .i64 4, .int .i64 0] 46)) 60 (tcells exW)
    simpa [tcells, exW, Tri.cells] using h
  · have h := Blk.new ((((w.alloc (.cells #[.int .i64 4, .slice (some ⟨w.heap.size + 1 + 1, 0, none⟩) 2 2, .slice (some ⟨w.heap.size + 1 + 1 + 1, 0, none⟩) 1 1, .slice (some ⟨w.heap.size + 1 + 1 + 1 + 1, 0, none⟩) 1 1, .int .i64 1] 26)).alloc (.cells #[.int .i64 4, .int .i64 4, .int .i64 0] 46)).alloc (.cells #[.int .i64 4, .int .i64 4, .int .i64 0, .int .i64 4, .int .i64 4, .int .i64 0] 46)).alloc (.cells #[.int .i64 0, .int .i64 0, .int .i64 1] 60)) 41 (tcells exC)
    simpa [tcells, exC, Tri.cells] using h
  · exact ((((b0 _).alloc (by simp) _).alloc (by simp; omega) _).alloc (by simp; omega) _).alloc (by simp; omega) _
def img (g : Nat) : Im := ⟨0, 2, 0, 4, 4, 1, 0, some ⟨g, 0, none⟩, 1, 1, [0]⟩
theorem img_right (g : Nat) : Go.Proofs.Ytnoopihhfioanaa.ImgB.right (img g) := by
  unfold Go.Proofs.Ytnoopihhfioanaa.ImgB.right img
  simp
theorem hb_one (k : Nat) (hk : k < 4) (h : hb 1 k = true) : k = 0 := by
  match k, hk, h with
  | 0, _, _ => rfl
  | 1, _, h => exact absurd h (by decide)
  | 2, _, h => exact absurd h (by decide)
  | 3, _, h => exact absurd h (by decide)
theorem hb_none (k : Nat) (hk : k < 4) : hb 0 k = false := by
  match k, hk with
  | 0, _ => decide
  | 1, _ => decide
  | 2, _ => decide
  | 3, _ => decide
theorem ports (g g1 g2 g3 : Nat) : ¬ PortBad (ex g1 g2 g3) 0 (img g) := by
  rintro ⟨k, hk, ⟨h1, h2⟩ | ⟨h1, _⟩⟩
  · have := hb_one k hk h1
    subst this
    exact h2 ⟨⟨0, 1, 0⟩, rfl, rfl⟩
  · have := hb_none k hk
    have h1 : hb 0 k = true := h1
    rw [this] at h1
    cases h1
/-- What Check finds of the example. -/
theorem ex_chk {br bi bx : Bool} {g g1 g2 g3 : Nat} {p v : Int} (h : Tri3 br bi bx (ex g1 g2 g3) p (img g)) :
    (p = 1 → chk br bi bx (ex g1 g2 g3) p (img g) v = 12) ∧ (p = 0 → v = 1 → chk br bi bx (ex g1 g2 g3) p (img g) v = 0) ∧ (p = 0 → v = 2 → chk br bi bx (ex g1 g2 g3) p (img g) v = 13) := by
  have hr : br = true := h.rt.2 (ex_right _ _ _)
  have hi : bi = true := h.ri.2 (img_right _)
  subst hr hi
  have q : ∀ v, p = 0 → chk true true bx (ex g1 g2 g3) p (img g) v = if (2 : Int) ≤ v then 13 else 0 := fun v e => by
    subst e
    have hx : bx = false := by
      rw [Bool.eq_false_iff]
      intro hb
      exact ports _ _ _ _ (h.rx.1 hb)
    subst hx
    unfold chk
    rw [if_neg (by simp), if_neg (by simp [ex]), if_neg (by simp [img, pof, ex, exP]), if_neg (by simp [img, pof, ex, exP]), if_neg (by simp)]
    rfl
  refine ⟨fun e => ?_, fun e e2 => ?_, fun e e2 => ?_⟩
  · subst e
    unfold chk
    rw [if_neg (by simp), if_neg (by simp [ex]), if_pos (by simp [img])]
  · rw [q v e, e2]; rfl
  · rw [q v e, e2]; rfl
theorem chk_ex (g g1 g2 g3 : Nat) (p v x : Int) (hx : (p = 1 ∧ x = 12) ∨ (p = 0 ∧ v = 1 ∧ x = 0) ∨ (p = 0 ∧ v = 2 ∧ x = 13)) (hv : 0 ≤ v ∧ v ≤ 9) (w : World) (ht : (ex g1 g2 g3).ok w) (hi : Go.Proofs.Ytnoopihhfioanaa.ImgA.Im.ok w (img g)) :
    Calls Try.prog 10 #[(ex g1 g2 g3).val, .int .i64 p, (img g).val, .int .i64 v] w fun e w' => e = .returned (.int .i64 x) ∧ Below w.heap.size w w' := by
  obtain ⟨br, bi, bx, h3⟩ := Go.Proofs.Ytnoopihhfioanaa.CpaM.tri3 (ex g1 g2 g3) p (img g)
  have hc := ex_chk (v := v) h3
  have h := check_any (ex g1 g2 g3) p v (img g) w ht hi (by unfold Go.Proofs.Ytnoopihhfioanaa.CpaN.n64; omega) (by unfold Go.Proofs.Ytnoopihhfioanaa.CpaN.n64; omega) br bi bx h3
  have e : chk br bi bx (ex g1 g2 g3) p (img g) v = x := by
    rcases hx with ⟨h1, rfl⟩ | ⟨h1, h2, rfl⟩ | ⟨h1, h2, rfl⟩
    · exact hc.1 h1
    · exact hc.2.1 h1 h2
    · exact hc.2.2 h1 h2
  rw [e] at h
  exact h
theorem img_new (w : World) : Blk ((w.alloc (.cells #[.int .u8 0] 5)).alloc (.cells (img w.heap.size).cells.toArray 29)) (w.heap.size + 1) 29 (img w.heap.size).cells ∧ Go.Proofs.Ytnoopihhfioanaa.ImgA.Im.ok ((w.alloc (.cells #[.int .u8 0] 5)).alloc (.cells (img w.heap.size).cells.toArray 29)) (img w.heap.size) ∧ Below w.heap.size w ((w.alloc (.cells #[.int .u8 0] 5)).alloc (.cells (img w.heap.size).cells.toArray 29)) := by
  have e1 : (w.alloc (.cells #[.int .u8 0] 5)).heap.size = w.heap.size + 1 := by simp
  have B := Blk.new (w.alloc (.cells #[.int .u8 0] 5)) 29 (img w.heap.size).cells
  rw [e1] at B
  refine ⟨B, ⟨?_, by simp [img]⟩, ((Below.refl _ _).alloc (Nat.le_refl _) _).alloc (by omega) _⟩
  refine Rd.alloc ?_ _
  refine ⟨rfl, Nat.le_refl _, by show 1 ≤ 9223372036854775807; omega, fun _ => ⟨w.heap.size, 0, rfl, by simp, fun j u hu => ?_⟩⟩
  rw [Nat.zero_add]
  exact (Blk.new w 5 [.int .u8 0]).cell hu
set_option maxRecDepth 100000 in
set_option maxHeartbeats 3200000 in
theorem wakes_any (w : World) : Calls Try.prog 7 #[] w fun e w' => e = .returned (.bool true) ∧ Below w.heap.size w w' := by
  obtain ⟨hx, hi, hb⟩ := img_new w
  have HB := Lib.hid (show Below w.heap.size w ((w.alloc (.cells #[.int .u8 0] 5)).alloc (.cells #[.int .i64 0, .int .i64 2, .int .i64 0, .int .i64 4, .int .i64 4, .int .i64 1, .int .i64 0, .slice (some ⟨w.heap.size, 0, none⟩) 1 1] 29)) from hb)
  have HX := Lib.hid (show Blk ((w.alloc (.cells #[.int .u8 0] 5)).alloc (.cells #[.int .i64 0, .int .i64 2, .int .i64 0, .int .i64 4, .int .i64 4, .int .i64 1, .int .i64 0, .slice (some ⟨w.heap.size, 0, none⟩) 1 1] 29)) (w.heap.size + 1) 29 [.int .i64 0, .int .i64 2, .int .i64 0, .int .i64 4, .int .i64 4, .int .i64 1, .int .i64 0, .slice (some ⟨w.heap.size, 0, none⟩) 1 1] from hx)
  have HI := Lib.hid (show Go.Proofs.Ytnoopihhfioanaa.ImgA.Im.ok ((w.alloc (.cells #[.int .u8 0] 5)).alloc (.cells #[.int .i64 0, .int .i64 2, .int .i64 0, .int .i64 4, .int .i64 4, .int .i64 1, .int .i64 0, .slice (some ⟨w.heap.size, 0, none⟩) 1 1] 29)) (img w.heap.size) from hi)
  clear hx hi hb
  go_enter Try.func7, Try.ntmps7
  go_upto_region 2 with (fail)
  obtain ⟨w0, hw0⟩ : ∃ w0, w0 = ((w.alloc (.cells #[.int .u8 0] 5)).alloc (.cells #[.int .i64 0, .int .i64 2, .int .i64 0, .int .i64 4, .int .i64 4, .int .i64 1, .int .i64 0, .slice (some ⟨w.heap.size, 0, none⟩) 1 1] 29)) := ⟨_, rfl⟩
  rw [← hw0] at HB HX HI ⊢
  have HX0 := HX
  have HI0 := HI
  clear hw0 HX HI
  have HD := Lib.hid ((Below.refl w0.heap.size w0).drew)
  have c0 := HX0.out.cell (i := 0) rfl
  have c1 := HX0.out.cell (i := 1) rfl
  have c2 := HX0.out.cell (i := 2) rfl
  have c3 := HX0.out.cell (i := 3) rfl
  have c4 := HX0.out.cell (i := 4) rfl
  have c5 := HX0.out.cell (i := 5) rfl
  have c6 := HX0.out.cell (i := 6) rfl
  have c7 := HX0.out.cell (i := 7) rfl
  go_region_held3 (fun w' => w'.cell? ⟨w.heap.size + 1, 0, none⟩ = some (.int .i64 0) ∧ w'.cell? ⟨w.heap.size + 1, 1, none⟩ = some (.int .i64 2) ∧ w'.cell? ⟨w.heap.size + 1, 2, none⟩ = some (.int .i64 0) ∧ w'.cell? ⟨w.heap.size + 1, 3, none⟩ = some (.int .i64 4) ∧ w'.cell? ⟨w.heap.size + 1, 4, none⟩ = some (.int .i64 4) ∧ w'.cell? ⟨w.heap.size + 1, 5, none⟩ = some (.int .i64 1) ∧ w'.cell? ⟨w.heap.size + 1, 6, none⟩ = some (.int .i64 0) ∧ w'.cell? ⟨w.heap.size + 1, 7, none⟩ = some (.slice (some ⟨w.heap.size, 0, none⟩) 1 1))
    (first | go_keep | exact HXE1.out | exact HXC1.out | exact HXE2.out | exact HXC2.out | exact HXE3.out | exact HXC3.out)
    (first
     | (go_at_call 16; have hq := HM2; clear hq; refine (example_any _).mono ?_; rintro e we3 ⟨g1, g2, g3, rfl, hok, hbe⟩; have HL3 := Lib.hid (HM2.out.trans (hbe.mono HM2.out.size)); have HT3 := Lib.hid hok; have HXE3 := Lib.hid (show we3.cell? ⟨w.heap.size + 1, 0, none⟩ = some (.int .i64 0) ∧ we3.cell? ⟨w.heap.size + 1, 1, none⟩ = some (.int .i64 2) ∧ we3.cell? ⟨w.heap.size + 1, 2, none⟩ = some (.int .i64 0) ∧ we3.cell? ⟨w.heap.size + 1, 3, none⟩ = some (.int .i64 4) ∧ we3.cell? ⟨w.heap.size + 1, 4, none⟩ = some (.int .i64 4) ∧ we3.cell? ⟨w.heap.size + 1, 5, none⟩ = some (.int .i64 1) ∧ we3.cell? ⟨w.heap.size + 1, 6, none⟩ = some (.int .i64 0) ∧ we3.cell? ⟨w.heap.size + 1, 7, none⟩ = some (.slice (some ⟨w.heap.size, 0, none⟩) 1 1) from (fun h => ⟨h.cell rfl, h.cell rfl, h.cell rfl, h.cell rfl, h.cell rfl, h.cell rfl, h.cell rfl, h.cell rfl⟩) (HX0.out.below HL3.out)); clear hok hbe)
     | (go_at_call 16; have hq := HM1; clear hq; refine (example_any _).mono ?_; rintro e we2 ⟨g1, g2, g3, rfl, hok, hbe⟩; have HL2 := Lib.hid (HM1.out.trans (hbe.mono HM1.out.size)); have HT2 := Lib.hid hok; have HXE2 := Lib.hid (show we2.cell? ⟨w.heap.size + 1, 0, none⟩ = some (.int .i64 0) ∧ we2.cell? ⟨w.heap.size + 1, 1, none⟩ = some (.int .i64 2) ∧ we2.cell? ⟨w.heap.size + 1, 2, none⟩ = some (.int .i64 0) ∧ we2.cell? ⟨w.heap.size + 1, 3, none⟩ = some (.int .i64 4) ∧ we2.cell? ⟨w.heap.size + 1, 4, none⟩ = some (.int .i64 4) ∧ we2.cell? ⟨w.heap.size + 1, 5, none⟩ = some (.int .i64 1) ∧ we2.cell? ⟨w.heap.size + 1, 6, none⟩ = some (.int .i64 0) ∧ we2.cell? ⟨w.heap.size + 1, 7, none⟩ = some (.slice (some ⟨w.heap.size, 0, none⟩) 1 1) from (fun h => ⟨h.cell rfl, h.cell rfl, h.cell rfl, h.cell rfl, h.cell rfl, h.cell rfl, h.cell rfl, h.cell rfl⟩) (HX0.out.below HL2.out)); clear hok hbe)
     | (go_at_call 16; refine (example_any _).mono ?_; rintro e we1 ⟨g1, g2, g3, rfl, hok, hbe⟩; have HL1 := Lib.hid (HD.out.trans (hbe.mono HD.out.size)); have HT1 := Lib.hid hok; have HXE1 := Lib.hid (show we1.cell? ⟨w.heap.size + 1, 0, none⟩ = some (.int .i64 0) ∧ we1.cell? ⟨w.heap.size + 1, 1, none⟩ = some (.int .i64 2) ∧ we1.cell? ⟨w.heap.size + 1, 2, none⟩ = some (.int .i64 0) ∧ we1.cell? ⟨w.heap.size + 1, 3, none⟩ = some (.int .i64 4) ∧ we1.cell? ⟨w.heap.size + 1, 4, none⟩ = some (.int .i64 4) ∧ we1.cell? ⟨w.heap.size + 1, 5, none⟩ = some (.int .i64 1) ∧ we1.cell? ⟨w.heap.size + 1, 6, none⟩ = some (.int .i64 0) ∧ we1.cell? ⟨w.heap.size + 1, 7, none⟩ = some (.slice (some ⟨w.heap.size, 0, none⟩) 1 1) from (fun h => ⟨h.cell rfl, h.cell rfl, h.cell rfl, h.cell rfl, h.cell rfl, h.cell rfl, h.cell rfl, h.cell rfl⟩) (HX0.out.below HL1.out)); clear hok hbe)
     | (go_at_call 10; have hq := HL3; clear hq; refine (chk_ex w.heap.size _ _ _ 0 2 13 (.inr (.inr ⟨rfl, rfl, rfl⟩)) (by omega) _ HT3.out (HI0.out.below HL3.out)).mono ?_; rintro e wc3 ⟨rfl, hbc⟩; have HM3 := Lib.hid (HL3.out.trans (hbc.mono HL3.out.size)); have HXC3 := Lib.hid (show wc3.cell? ⟨w.heap.size + 1, 0, none⟩ = some (.int .i64 0) ∧ wc3.cell? ⟨w.heap.size + 1, 1, none⟩ = some (.int .i64 2) ∧ wc3.cell? ⟨w.heap.size + 1, 2, none⟩ = some (.int .i64 0) ∧ wc3.cell? ⟨w.heap.size + 1, 3, none⟩ = some (.int .i64 4) ∧ wc3.cell? ⟨w.heap.size + 1, 4, none⟩ = some (.int .i64 4) ∧ wc3.cell? ⟨w.heap.size + 1, 5, none⟩ = some (.int .i64 1) ∧ wc3.cell? ⟨w.heap.size + 1, 6, none⟩ = some (.int .i64 0) ∧ wc3.cell? ⟨w.heap.size + 1, 7, none⟩ = some (.slice (some ⟨w.heap.size, 0, none⟩) 1 1) from (fun h => ⟨h.cell rfl, h.cell rfl, h.cell rfl, h.cell rfl, h.cell rfl, h.cell rfl, h.cell rfl, h.cell rfl⟩) (HX0.out.below HM3.out)); clear hbc)
     | (go_at_call 10; have hq := HL2; clear hq; refine (chk_ex w.heap.size _ _ _ 0 1 0 (.inr (.inl ⟨rfl, rfl, rfl⟩)) (by omega) _ HT2.out (HI0.out.below HL2.out)).mono ?_; rintro e wc2 ⟨rfl, hbc⟩; have HM2 := Lib.hid (HL2.out.trans (hbc.mono HL2.out.size)); have HXC2 := Lib.hid (show wc2.cell? ⟨w.heap.size + 1, 0, none⟩ = some (.int .i64 0) ∧ wc2.cell? ⟨w.heap.size + 1, 1, none⟩ = some (.int .i64 2) ∧ wc2.cell? ⟨w.heap.size + 1, 2, none⟩ = some (.int .i64 0) ∧ wc2.cell? ⟨w.heap.size + 1, 3, none⟩ = some (.int .i64 4) ∧ wc2.cell? ⟨w.heap.size + 1, 4, none⟩ = some (.int .i64 4) ∧ wc2.cell? ⟨w.heap.size + 1, 5, none⟩ = some (.int .i64 1) ∧ wc2.cell? ⟨w.heap.size + 1, 6, none⟩ = some (.int .i64 0) ∧ wc2.cell? ⟨w.heap.size + 1, 7, none⟩ = some (.slice (some ⟨w.heap.size, 0, none⟩) 1 1) from (fun h => ⟨h.cell rfl, h.cell rfl, h.cell rfl, h.cell rfl, h.cell rfl, h.cell rfl, h.cell rfl, h.cell rfl⟩) (HX0.out.below HM2.out)); clear hbc)
     | (go_at_call 10; refine (chk_ex w.heap.size _ _ _ 1 1 12 (.inl ⟨rfl, rfl⟩) (by omega) _ HT1.out (HI0.out.below HL1.out)).mono ?_; rintro e wc1 ⟨rfl, hbc⟩; have HM1 := Lib.hid (HL1.out.trans (hbc.mono HL1.out.size)); have HXC1 := Lib.hid (show wc1.cell? ⟨w.heap.size + 1, 0, none⟩ = some (.int .i64 0) ∧ wc1.cell? ⟨w.heap.size + 1, 1, none⟩ = some (.int .i64 2) ∧ wc1.cell? ⟨w.heap.size + 1, 2, none⟩ = some (.int .i64 0) ∧ wc1.cell? ⟨w.heap.size + 1, 3, none⟩ = some (.int .i64 4) ∧ wc1.cell? ⟨w.heap.size + 1, 4, none⟩ = some (.int .i64 4) ∧ wc1.cell? ⟨w.heap.size + 1, 5, none⟩ = some (.int .i64 1) ∧ wc1.cell? ⟨w.heap.size + 1, 6, none⟩ = some (.int .i64 0) ∧ wc1.cell? ⟨w.heap.size + 1, 7, none⟩ = some (.slice (some ⟨w.heap.size, 0, none⟩) 1 1) from (fun h => ⟨h.cell rfl, h.cell rfl, h.cell rfl, h.cell rfl, h.cell rfl, h.cell rfl, h.cell rfl, h.cell rfl⟩) (HX0.out.below HM1.out)); clear hbc))
  all_goals
    go_wp2_with fail
    go_ret
    exact ⟨rfl, HB.out.trans (HM3.out.mono HB.out.size)⟩
end Go.Proofs.Ytnoopihhfioanaa.CpaK
