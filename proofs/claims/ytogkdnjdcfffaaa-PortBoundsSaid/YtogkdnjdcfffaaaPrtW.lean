/- The laws' example holds; what is too long. No conditions. -/
import Derived.Test.YtogkdnjdcfffaaaPrtH
namespace Go.Proofs.Ytogkdnjdcfffaaa.PrtW
open Go.RowKit Go.Proofs.Ytogkdnjdcfffaaa.Kit Go.Proofs.Ytogkdnjdcfffaaa.Byt Go.Proofs.Ytogkdnjdcfffaaa.Mem Go.Proofs.Ytogkdnjdcfffaaa.TabI Go.Proofs.Ytogkdnjdcfffaaa.PrtM Go.Proofs.Ytogkdnjdcfffaaa.PrtA Go.Proofs.Ytogkdnjdcfffaaa.PrtB Go.Proofs.Ytogkdnjdcfffaaa.PrtC Go.Proofs.Ytogkdnjdcfffaaa.PrtD Go.Proofs.Ytogkdnjdcfffaaa.PrtE Go.Proofs.Ytogkdnjdcfffaaa.PrtF Go.Proofs.Ytogkdnjdcfffaaa.PrtG Go.Proofs.Ytogkdnjdcfffaaa.PrtH
open Go.Proofs.Ytogkdnjdcfffaaa.TabA (Tri Tris Ta)
open Go.Proofs.Ytogkdnjdcfffaaa.TabB (Bx Yes PartOk)
open Go.Proofs.Ytogkdnjdcfffaaa.TabC (WinOk endAt)
open Go.Proofs.Ytogkdnjdcfffaaa.TabD (right bool_of huge)
open Go.Proofs.Ytogkdnjdcfffaaa.TabE (tcells Tris.of_blk ret_row size_table)

def exP : List Tri := [⟨1, 1, 0⟩, ⟨1, 1, 0⟩]
def exW : List Tri := [⟨0, 0, 1⟩]
def exC : List Tri := [⟨0, 1, 2⟩]
def ex (g1 g2 g3 : Nat) : Ta := ⟨4, some ⟨g1, 0, none⟩, 2, 2, exP, some ⟨g2, 0, none⟩, 1, 1, exW, some ⟨g3, 0, none⟩, 1, 1, exC, 1⟩
theorem ex_right (g1 g2 g3 : Nat) : right (ex g1 g2 g3) := by
  refine ⟨⟨by show (1 : Int) ≤ 4; omega, by show (4 : Int) ≤ 64; omega⟩, ⟨by show (1 : Int) ≤ 1; omega, by show (1 : Int) ≤ 7; omega⟩, ⟨⟨by show 2 ≤ 2; omega, by show 2 ≤ 4; omega⟩, ?_⟩, ⟨by show 1 ≤ 8; omega, ?_, 0, _, rfl, rfl⟩, ⟨by show 1 ≤ 4; omega, ?_⟩⟩
  · intro k r hr
    match k, hr with
    | 0, hr => injection hr with hr; subst hr; simp [PartOk]
    | 1, hr => injection hr with hr; subst hr; simp [PartOk]
    | k + 2, hr => simp [ex, exP] at hr
  · intro k r hr
    match k, hr with
    | 0, hr => injection hr with hr; subst hr; simp [WinOk, endAt, ex, exP]
    | k + 1, hr => simp [ex, exW] at hr
  · intro k r hr
    match k, hr with
    | 0, hr => injection hr with hr; subst hr; simp [Go.Proofs.Ytogkdnjdcfffaaa.TabC.ChanOk, ex, exP]
    | k + 1, hr => simp [ex, exC] at hr
theorem exP_ok : ∀ r ∈ exP, r.ok := by
  intro r hr
  simp only [exP, List.mem_cons, List.not_mem_nil, or_false] at hr
  rcases hr with rfl | rfl <;> exact ⟨by decide, by decide, by decide, by decide, by decide, by decide⟩
theorem exW_ok : ∀ r ∈ exW, r.ok := by
  intro r hr
  simp only [exW, List.mem_cons, List.not_mem_nil, or_false] at hr
  subst hr
  exact ⟨by decide, by decide, by decide, by decide, by decide, by decide⟩
theorem exC_ok : ∀ r ∈ exC, r.ok := by
  intro r hr
  simp only [exC, List.mem_cons, List.not_mem_nil, or_false] at hr
  subst hr
  exact ⟨by decide, by decide, by decide, by decide, by decide, by decide⟩
theorem ex_ok {w : World} {g1 g2 g3 : Nat} {t1 t2 t3 : TypeId} (h1 : Blk w g1 t1 (tcells exP)) (h2 : Blk w g2 t2 (tcells exW)) (h3 : Blk w g3 t3 (tcells exC)) : (ex g1 g2 g3).ok w :=
  ⟨Tris.of_blk (R := exP) (c := 2) (xs := []) (by simpa using h1) (Nat.le_refl _) (by decide) exP_ok, Tris.of_blk (R := exW) (c := 1) (xs := []) (by simpa using h2) (Nat.le_refl _) (by decide) exW_ok, Tris.of_blk (R := exC) (c := 1) (xs := []) (by simpa using h3) (Nat.le_refl _) (by decide) exC_ok,
    by show -9223372036854775808 ≤ (4 : Int); omega, by show (4 : Int) ≤ 9223372036854775807; omega, by show -9223372036854775808 ≤ (1 : Int); omega, by show (1 : Int) ≤ 9223372036854775807; omega⟩
theorem five (w : World) (o0 o1 : Obj) (t2 t3 t4 : TypeId) (x2 x3 x4 : List Value) :
    Blk (((((w.alloc o0).alloc o1).alloc (.cells x2.toArray t2)).alloc (.cells x3.toArray t3)).alloc (.cells x4.toArray t4)) (w.heap.size + 1 + 1) t2 x2 ∧
    Blk (((((w.alloc o0).alloc o1).alloc (.cells x2.toArray t2)).alloc (.cells x3.toArray t3)).alloc (.cells x4.toArray t4)) (w.heap.size + 1 + 1 + 1) t3 x3 ∧
    Blk (((((w.alloc o0).alloc o1).alloc (.cells x2.toArray t2)).alloc (.cells x3.toArray t3)).alloc (.cells x4.toArray t4)) (w.heap.size + 1 + 1 + 1 + 1) t4 x4 ∧
    Below w.heap.size w (((((w.alloc o0).alloc o1).alloc (.cells x2.toArray t2)).alloc (.cells x3.toArray t3)).alloc (.cells x4.toArray t4)) := by
  refine ⟨?_, ?_, ?_, ?_⟩
  · have h := ((Blk.new ((w.alloc o0).alloc o1) t2 x2).alloc (.cells x3.toArray t3)).alloc (.cells x4.toArray t4)
    rwa [World.size_alloc, World.size_alloc] at h
  · have h := (Blk.new (((w.alloc o0).alloc o1).alloc (.cells x2.toArray t2)) t3 x3).alloc (.cells x4.toArray t4)
    rwa [World.size_alloc, World.size_alloc, World.size_alloc] at h
  · have h := Blk.new ((((w.alloc o0).alloc o1).alloc (.cells x2.toArray t2)).alloc (.cells x3.toArray t3)) t4 x4
    rwa [World.size_alloc, World.size_alloc, World.size_alloc, World.size_alloc] at h
  · exact ((((Below.refl _ w).alloc (Nat.le_refl _) _).alloc (by simp) _).alloc (by simp; omega) _).alloc (by simp; omega) _ |>.alloc (by simp; omega) _
theorem example_any (w : World) : Calls Try.prog 22 #[] w fun e w' => ∃ g1 g2 g3, e = .returned (ex g1 g2 g3).val ∧ (ex g1 g2 g3).ok w' ∧ Below w.heap.size w w' := by
  go_enter Try.func22, Try.ntmps22
  go_wp2
  obtain ⟨b2, b3, b4, hb⟩ := five w (.cells #[.int .i64 4, .slice (some ⟨w.heap.size + 1 + 1, 0, none⟩) 2 2, .slice (some ⟨w.heap.size + 1 + 1 + 1, 0, none⟩) 1 1, .slice (some ⟨w.heap.size + 1 + 1 + 1 + 1, 0, none⟩) 1 1, .int .i64 1] 26) (.cells #[.int .i64 1, .int .i64 1, .int .i64 0] 72) 72 75 56 (tcells exP) (tcells exW) (tcells exC)
  refine ret_row (g := w.heap.size) (t := 26) (cs := #[.int .i64 4, .slice (some ⟨w.heap.size + 1 + 1, 0, none⟩) 2 2, .slice (some ⟨w.heap.size + 1 + 1 + 1, 0, none⟩) 1 1, .slice (some ⟨w.heap.size + 1 + 1 + 1 + 1, 0, none⟩) 1 1, .int .i64 1]) Try.results22 rfl rfl (alloc_old (alloc_old (alloc_old (alloc_old (heap_alloc_new w _))))) Try.underlying26 rfl size_table ?_
  exact ⟨_, _, _, rfl, ex_ok b2 b3 b4, hb⟩
section
variable {B S n c : Nat} {w : World} {ρ : Nat → Lab} {A : Option Addr} {Q : Nat → Nat} {L : Nat → List Int}
theorem ex_send (h : Chs B w ρ S A n c Q exC L) (l l' : List Int) (y : Int) (v : Bool) (hl : L 0 = l) (h0 : 0 ≤ y) (h1 : y ≤ 65535) (hv : v = !full 2 l) (hl' : l' = sndL 2 l y) :
    Calls Try.prog 14 #[.pointer (some ⟨S, 0, none⟩), .int .i64 0, .int .i64 0, .int .i64 y] w (Lft B w ρ S A n c Q exC (up L 0 l') (.tuple #[.bool v, .int .i64 0])) := by
  subst hl
  subst hv
  subst hl'
  exact send_yes h (k := 0) (r := ⟨0, 1, 2⟩) rfl 0 y rfl h0 h1
theorem ex_get (h : Chs B w ρ S A n c Q exC L) (l l' : List Int) (x : Int) (v : Bool) (hl : L 0 = l) (hx : x = getN l) (hv : v = getB l) (hl' : l' = getL 2 l) :
    Calls Try.prog 16 #[.pointer (some ⟨S, 0, none⟩), .int .i64 1, .int .i64 0] w (Lft B w ρ S A n c Q exC (up L 0 l') (.tuple #[.int .i64 x, .bool v, .int .i64 0])) := by
  subst hl
  subst hx
  subst hv
  subst hl'
  exact get_yes h (k := 0) (r := ⟨0, 1, 2⟩) rfl 1 rfl
end
set_option maxRecDepth 100000 in
theorem wakes_any (w : World) : Calls Try.prog 8 #[] w (Yes w true) := by
  go_enter Try.func8, Try.ntmps8
  go_wp2_with fail
  refine (example_any _).mono ?_
  rintro e w1 ⟨g1, g2, g3, rfl, hok, hb1⟩
  have HO := Lib.hid hok
  have HB1 := Lib.hid hb1
  clear hok hb1
  go_wp2_with fail
  refine (new_yes (ex g1 g2 g3) _ HO.out (ex_right _ _ _)).mono ?_
  rintro e w2 ⟨S, ρ, A, c, Q, rfl, h0, hb2⟩
  have H0 := Lib.hid (show Chs w1.heap.size w2 ρ S A 1 c Q exC none_ from h0)
  have HB2 := Lib.hid (HB1.out.trans (hb2.mono HB1.out.size))
  clear h0 hb2 HO
  go_wp2_with fail
  refine (ex_send H0.out [] [1] 1 true rfl (by omega) (by omega) rfl rfl).mono ?_
  rintro e w3 ⟨rfl, ρ3, h3, s3⟩
  have H3 := Lib.hid h3
  have HB3 := Lib.hid (HB2.out.trans ((s3.below H0.out.bd (fun h => h) H0.out.base).mono HB1.out.size))
  clear h3 s3
  go_wp2_with fail
  refine (ex_send H3.out [1] [1, 2] 2 true (up_same _ _ _) (by omega) (by omega) rfl rfl).mono ?_
  rintro e w4 ⟨rfl, ρ4, h4, s4⟩
  have H4 := Lib.hid h4
  have HB4 := Lib.hid (HB3.out.trans ((s4.below H3.out.bd (fun h => h) H3.out.base).mono HB1.out.size))
  clear h4 s4
  go_wp2_with fail
  refine (ex_send H4.out [1, 2] [1, 2] 3 false (up_same _ _ _) (by omega) (by omega) rfl rfl).mono ?_
  rintro e w5 ⟨rfl, ρ5, h5, s5⟩
  have H5 := Lib.hid h5
  have HB5 := Lib.hid (HB4.out.trans ((s5.below H4.out.bd (fun h => h) H4.out.base).mono HB1.out.size))
  clear h5 s5
  go_wp2_with fail
  refine (ex_get H5.out [1, 2] [2] 1 true (up_same _ _ _) rfl rfl rfl).mono ?_
  rintro e w6 ⟨rfl, ρ6, h6, s6⟩
  have H6 := Lib.hid h6
  have HB6 := Lib.hid (HB5.out.trans ((s6.below H5.out.bd (fun h => h) H5.out.base).mono HB1.out.size))
  clear h6 s6
  go_wp2_with fail
  refine (ex_get H6.out [2] [] 2 true (up_same _ _ _) rfl rfl rfl).mono ?_
  rintro e w7 ⟨rfl, ρ7, h7, s7⟩
  have H7 := Lib.hid h7
  have HB7 := Lib.hid (HB6.out.trans ((s7.below H6.out.bd (fun h => h) H6.out.base).mono HB1.out.size))
  clear h7 s7
  go_wp2_with fail
  refine (ex_get H7.out [] [] 0 false (up_same _ _ _) rfl rfl rfl).mono ?_
  rintro e w8 ⟨rfl, ρ8, h8, s8⟩
  have H8 := Lib.hid h8
  have HB8 := Lib.hid (HB7.out.trans ((s8.below H7.out.bd (fun h => h) H7.out.base).mono HB1.out.size))
  clear h8 s8
  go_wp2_with fail
  go_ret
  exact ⟨rfl, HB8.out⟩
end Go.Proofs.Ytogkdnjdcfffaaa.PrtW
