/- The laws' example holds; what is too long. No conditions. -/
import Derived.Test.YtliiinffkcgcaaaPrtH
namespace Go.Proofs.Ytliiinffkcgcaaa.PrtW
open Go.RowKit Go.Proofs.Ytliiinffkcgcaaa.Kit Go.Proofs.Ytliiinffkcgcaaa.Byt Go.Proofs.Ytliiinffkcgcaaa.Mem Go.Proofs.Ytliiinffkcgcaaa.TabI Go.Proofs.Ytliiinffkcgcaaa.PrtM Go.Proofs.Ytliiinffkcgcaaa.PrtA Go.Proofs.Ytliiinffkcgcaaa.PrtB Go.Proofs.Ytliiinffkcgcaaa.PrtC Go.Proofs.Ytliiinffkcgcaaa.PrtD Go.Proofs.Ytliiinffkcgcaaa.PrtE Go.Proofs.Ytliiinffkcgcaaa.PrtF Go.Proofs.Ytliiinffkcgcaaa.PrtG Go.Proofs.Ytliiinffkcgcaaa.PrtH
open Go.Proofs.Ytliiinffkcgcaaa.TabA (Tri Tris Ta)
open Go.Proofs.Ytliiinffkcgcaaa.TabB (Bx Yes PartOk)
open Go.Proofs.Ytliiinffkcgcaaa.TabC (WinOk endAt)
open Go.Proofs.Ytliiinffkcgcaaa.TabD (right bool_of huge)
open Go.Proofs.Ytliiinffkcgcaaa.TabE (tcells Tris.of_blk ret_row size_table)

def exP : List Tri := [⟨1, 1, 0⟩, ⟨1, 1, 0⟩]
def exW : List Tri := [⟨0, 0, 1⟩]
def exC : List Tri := [⟨0, 1, 2⟩]
def ex (g1 g2 g3 : Nat) : Ta := ⟨4, some ⟨g1, 0, none⟩, 2, 2, exP, some ⟨g2, 0, none⟩, 1, 1, exW, some ⟨g3, 0, none⟩, 1, 1, exC, 1⟩
theorem ex_right (g1 g2 g3 : Nat) : right (ex g1 g2 g3) := by
  refine ⟨⟨by show (1 : Int) ≤ 4; omega, by show (4 : Int) ≤ 64; omega⟩, ⟨by show (1 : Int) ≤ 1; omega, by show (1 : Int) ≤ 7; omega⟩, ⟨⟨by show 2 ≤ 2; omega, by show 2 ≤ 4; omega⟩, ?_⟩, ⟨by show 1 ≤ 8; omega, ?_, 0, _, rfl, rfl⟩, ⟨by show 1 ≤ 4; omega, ?_⟩⟩
  · intro k r hr
    match k, hr with
    | 0, hr => injection hr with hr; subst hr; simp [PartOk]
    | 1, hr => injection hr with hr; subst hr; simp [PartOk]
    | k + 2, hr => simp [ex, exP] at hr
  · intro k r hr
    match k, hr with
    | 0, hr => injection hr with hr; subst hr; simp [WinOk, endAt, ex, exP]
    | k + 1, hr => simp [ex, exW] at hr
  · intro k r hr
    match k, hr with
    | 0, hr => injection hr with hr; subst hr; simp [Go.Proofs.Ytliiinffkcgcaaa.TabC.ChanOk, ex, exP]
    | k + 1, hr => simp [ex, exC] at hr
theorem exP_ok : ∀ r ∈ exP, r.ok := by
  intro r hr
  simp only [exP, List.mem_cons, List.not_mem_nil, or_false] at hr
  rcases hr with rfl | rfl <;> exact ⟨by decide, by decide, by decide, by decide, by decide, by decide⟩
theorem exW_ok : ∀ r ∈ exW, r.ok := by
  intro r hr
  simp only [exW, List.mem_cons, List.not_mem_nil, or_false] at hr
  subst hr
  exact ⟨by decide, by decide, by decide, by decide, by decide, by decide⟩
theorem exC_ok : ∀ r ∈ exC, r.ok := by
  intro r hr
  simp only [exC, List.mem_cons, List.not_mem_nil, or_false] at hr
  subst hr
  exact ⟨by decide, by decide, by decide, by decide, by decide, by decide⟩
theorem ex_ok {w : World} {g1 g2 g3 : Nat} {t1 t2 t3 : TypeId} (h1 : Blk w g1 t1 (tcells exP)) (h2 : Blk w g2 t2 (tcells exW)) (h3 : Blk w g3 t3 (tcells exC)) : (ex g1 g2 g3).ok w :=
  ⟨Tris.of_blk (R := exP) (c := 2) (xs := []) (by simpa using h1) (Nat.le_refl _) (by decide) exP_ok, Tris.of_blk (R := exW) (c := 1) (xs := []) (by simpa using h2) (Nat.le_refl _) (by decide) exW_ok, Tris.of_blk (R := exC) (c := 1) (xs := []) (by simpa using h3) (Nat.le_refl _) (by decide) exC_ok,
    by show -9223372036854775808 ≤ (4 : Int); omega, by show (4 : Int) ≤ 9223372036854775807; omega, by show -9223372036854775808 ≤ (1 : Int); omega, by show (1 : Int) ≤ 9223372036854775807; omega⟩
theorem five (w : World) (o0 o1 : Obj) (t2 t3 t4 : TypeId) (x2 x3 x4 : List Value) :
    Blk (((((w.alloc o0).alloc o1).alloc (.cells x2.toArray t2)).alloc (.cells x3.toArray t3)).alloc (.cells x4.toArray t4)) (w.heap.size + 1 + 1) t2 x2 ∧
    Blk (((((w.alloc o0).alloc o1).alloc (.cells x2.toArray t2)).alloc (.cells x3.toArray t3)).alloc (.cells x4.toArray t4)) (w.heap.size + 1 + 1 + 1) t3 x3 ∧
    Blk (((((w.alloc o0).alloc o1).alloc (.cells x2.toArray t2)).alloc (.cells x3.toArray t3)).alloc (.cells x4.toArray t4)) (w.heap.size + 1 + 1 + 1 + 1) t4 x4 ∧
    Below w.heap.size w (((((w.alloc o0).alloc o1).alloc (.cells x2.toArray t2)).alloc (.cells x3.toArray t3)).alloc (.cells x4.toArray t4)) := by
  refine ⟨?_, ?_, ?_, ?_⟩
  · have h := ((Blk.new ((w.alloc o0).alloc o1) t2 x2).alloc (.cells x3.toArray t3)).alloc (.cells x4.toArray t4)
    rwa [World.size_alloc, World.size_alloc] at h
  · have h := (Blk.new (((w.alloc o0).alloc o1).alloc (.cells x2.toArray t2)) t3 x3).alloc (.cells x4.toArray t4)
    rwa [World.size_alloc, World.size_alloc, World.size_alloc] at h
  · have h := Blk.new ((((w.alloc o0).alloc o1).alloc (.cells x2.toArray t2)).alloc (.cells x3.toArray t3)) t4 x4
    rwa [World.size_alloc, World.size_alloc, World.size_alloc, World.size_alloc] at h
  · exact ((((Below.refl _ w).alloc (Nat.le_refl _) _).alloc (by simp) _).alloc (by simp; omega) _).alloc (by simp; omega) _ |>.alloc (by simp; omega) _
section
variable {B S n c : Nat} {w : World} {ρ : Nat → Lab} {A : Option Addr} {Q : Nat → Nat} {L : Nat → List Int}
theorem ex_send (h : Chs B w ρ S A n c Q exC L) (l l' : List Int) (y : Int) (v : Bool) (hl : L 0 = l) (h0 : 0 ≤ y) (h1 : y ≤ 65535) (hv : v = !full 2 l) (hl' : l' = sndL 2 l y) :
    Calls Try.prog 19 #[.pointer (some ⟨S, 0, none⟩), .int .i64 0, .int .i64 0, .int .i64 y] w (Lft B w ρ S A n c Q exC (up L 0 l') (.tuple #[.bool v, .int .i64 0])) := by
  subst hl
  subst hv
  subst hl'
  exact send_yes h (k := 0) (r := ⟨0, 1, 2⟩) rfl 0 y rfl h0 h1
theorem ex_get (h : Chs B w ρ S A n c Q exC L) (l l' : List Int) (x : Int) (v : Bool) (hl : L 0 = l) (hx : x = getN l) (hv : v = getB l) (hl' : l' = getL 2 l) :
    Calls Try.prog 103 #[.pointer (some ⟨S, 0, none⟩), .int .i64 1, .int .i64 0] w (Lft B w ρ S A n c Q exC (up L 0 l') (.tuple #[.int .i64 x, .bool v, .int .i64 0])) := by
  subst hl
  subst hx
  subst hv
  subst hl'
  exact get_yes h (k := 0) (r := ⟨0, 1, 2⟩) rfl 1 rfl
end
end Go.Proofs.Ytliiinffkcgcaaa.PrtW
