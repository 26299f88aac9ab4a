/- The laws' example holds. No conditions. -/
import Derived.Test.YtcgnlkckgfaomaaTabD
namespace Go.Proofs.Ytcgnlkckgfaomaa.TabE
open Go.RowKit Go.Proofs.Ytcgnlkckgfaomaa.Kit Go.Proofs.Ytcgnlkckgfaomaa.Byt Go.Proofs.Ytcgnlkckgfaomaa.Mem Go.Proofs.Ytcgnlkckgfaomaa.TabA Go.Proofs.Ytcgnlkckgfaomaa.TabB Go.Proofs.Ytcgnlkckgfaomaa.TabC Go.Proofs.Ytcgnlkckgfaomaa.TabD

/-- A block known whole that holds threes, one behind the other. -/
def tcells (R : List Tri) : List Value := R.flatMap Tri.cells
theorem tcells_cons (r : Tri) (R : List Tri) : tcells (r :: R) = .int .i64 r.a :: .int .i64 r.b :: .int .i64 r.c :: tcells R := rfl
theorem tcells_len : (R : List Tri) → (tcells R).length = R.length * 3
  | [] => rfl
  | r :: R => by rw [tcells_cons]; simp [tcells_len R]; omega
theorem tcells_at {R : List Tri} {k : Nat} {r : Tri} (h : R[k]? = some r) {j : Nat} {u : Value} (hj : r.cells[j]? = some u) : (tcells R)[k * 3 + j]? = some u := by
  induction R generalizing k with
  | nil => simp at h
  | cons r' R ih =>
    cases k with
    | zero =>
      simp at h
      subst h
      have hl : j < 3 := by have := (List.getElem?_eq_some_iff.1 hj).1; simpa [Tri.cells] using this
      rw [tcells_cons]
      match j, hl with
      | 0, _ => simpa [Tri.cells] using hj
      | 1, _ => simpa [Tri.cells] using hj
      | 2, _ => simpa [Tri.cells] using hj
    | succ k =>
      rw [tcells_cons, show (k + 1) * 3 + j = k * 3 + j + 1 + 1 + 1 by omega]
      simpa using ih (by simpa using h)
theorem Tris.of_blk {w : World} {g c : Nat} {t : TypeId} {R : List Tri} {xs : List Value} (hB : Blk w g t (tcells R ++ xs)) (hc : R.length ≤ c) (hm : c ≤ 9223372036854775807) (hok : ∀ r ∈ R, r.ok) : Tris w (some ⟨g, 0, none⟩) R.length c R :=
  ⟨rfl, hc, hm, hok, fun _ => ⟨g, 0, rfl, hB.lt, fun k r hr j u hu => hB.cell (by
    have := tcells_at hr hu
    have hl := (List.getElem?_eq_some_iff.1 this).1
    rw [Nat.zero_add, List.getElem?_append_left hl]
    exact this)⟩⟩

def exP : List Tri := [⟨1, 1, 0⟩, ⟨1, 1, 0⟩]
def exW : List Tri := [⟨0, 0, 4⟩, ⟨1, 5, 5⟩]
def ex (g1 g2 : Nat) : Ta := ⟨10, some ⟨g1, 0, none⟩, 2, 2, exP, some ⟨g2, 0, none⟩, 2, 2, exW, none, 0, 0, [], 1⟩
theorem ex_right (g1 g2 : Nat) : right (ex g1 g2) := by
  refine ⟨⟨by show (1 : Int) ≤ 10; omega, by show (10 : Int) ≤ 64; omega⟩, ⟨by show (1 : Int) ≤ 1; omega, by show (1 : Int) ≤ 7; omega⟩, ⟨⟨by show 2 ≤ 2; omega, by show 2 ≤ 4; omega⟩, ?_⟩, ⟨by show 2 ≤ 8; omega, ?_, 0, _, rfl, rfl⟩, ⟨by show 0 ≤ 4; omega, ?_⟩⟩
  · intro k r hr
    match k, hr with
    | 0, hr => injection hr with hr; subst hr; simp [PartOk]
    | 1, hr => injection hr with hr; subst hr; simp [PartOk]
    | k + 2, hr => simp [ex, exP] at hr
  · intro k r hr
    match k, hr with
    | 0, hr => injection hr with hr; subst hr; simp [WinOk, endAt, ex, exP]
    | 1, hr => injection hr with hr; subst hr; simp [WinOk, endAt, ex, exP, exW]
    | k + 2, hr => simp [ex, exW] at hr
  · intro k r hr
    simp [ex] at hr
theorem ex4 (g1 g2 : Nat) : winOf (ex g1 g2) 4 = -1 := by simp [winOf, ex, exW, findW]
theorem ex5 (g1 g2 : Nat) : winOf (ex g1 g2) 5 = 1 := by simp [winOf, ex, exW, findW]

theorem ret_row {P : Program} {fn : Func} {p : Tmp} {ty : TypeId} {R : Ending → World → Prop} {a : Act} {w : World} {g : Nat} {t : TypeId} {cs : Array Value} {fr : Nat × Nat} {d : TypeDesc} (h : fn.results = #[.cell p ty]) (h0 : a.defers = [])
    (hp : a.tmps.getD p undef = .pointer (some ⟨g, 0, none⟩)) (hg : w.heap[g]? = some (.cells cs t fr)) (hu : P.underlying ty = some d) (hd : (match d with | .struct _ | .array _ _ => true | _ => false) = true) (hi : (P.info? ty).map (·.size) = some cs.size)
    (hR : R (.returned (.agg cs)) w) : bodyPost P fn R .ret a w :=
  bodyPost_ret (results_cell_row h _ w g t cs fr d hp hg hu hd hi) h0 hR
theorem size_table : (Try.prog.info? 26).map (·.size) = some 5 := by kernel_rfl
theorem exP_ok : ∀ r ∈ exP, r.ok := by
  intro r hr
  simp only [exP, List.mem_cons, List.not_mem_nil, or_false] at hr
  rcases hr with rfl | rfl <;> exact ⟨by decide, by decide, by decide, by decide, by decide, by decide⟩
theorem exW_ok : ∀ r ∈ exW, r.ok := by
  intro r hr
  simp only [exW, List.mem_cons, List.not_mem_nil, or_false] at hr
  rcases hr with rfl | rfl <;> exact ⟨by decide, by decide, by decide, by decide, by decide, by decide⟩
theorem ex_ok {w : World} {g1 g2 : Nat} {t1 t2 : TypeId} (h1 : Blk w g1 t1 (tcells exP)) (h2 : Blk w g2 t2 (tcells exW)) : (ex g1 g2).ok w :=
  ⟨Tris.of_blk (R := exP) (c := 2) (xs := []) (by simpa using h1) (Nat.le_refl _) (by decide) exP_ok, Tris.of_blk (R := exW) (c := 2) (xs := []) (by simpa using h2) (Nat.le_refl _) (by decide) exW_ok, Tris.nil w,
    by show -9223372036854775808 ≤ (10 : Int); omega, by show (10 : Int) ≤ 9223372036854775807; omega, by show -9223372036854775808 ≤ (1 : Int); omega, by show (1 : Int) ≤ 9223372036854775807; omega⟩

theorem example_any (w : World) : Calls Try.prog 26 #[] w fun e w' => ∃ g1 g2, e = .returned (ex g1 g2).val ∧ (ex g1 g2).ok w' ∧ Below w.heap.size w w' := by
  go_enter Try.func26, Try.ntmps26
  go_wp2
  have b0 : ∀ o, Below w.heap.size w (w.alloc o) := fun o => (Below.refl _ _).alloc (Nat.le_refl _) _
  refine ret_row (g := w.heap.size) (t := 26) (cs := #[.int .i64 10, .slice (some ⟨w.heap.size + 1 + 1, 0, none⟩) 2 2, .slice (some ⟨w.heap.size + 1 + 1 + 1, 0, none⟩) 2 2, .slice none 0 0, .int .i64 1]) Try.results26 rfl rfl (alloc_old (alloc_old (alloc_old (heap_alloc_new w _)))) Try.underlying26 rfl size_table ?_
  refine ⟨_, _, rfl, ex_ok (t1 := 57) (t2 := 46) ?_ ?_, ?_⟩
  · refine Blk.alloc ?_ _
    have h := Blk.new ((w.alloc (.cells #[.int .i64 10, .slice (some ⟨w.heap.size + 1 + 1, 0, none⟩) 2 2, .slice (some ⟨w.heap.size + 1 + 1 + 1, 0, none⟩) 2 2, .slice none 0 0, .int .i64 1] 26)).alloc (.cells #[.int .i64 1, .int .i64 1, .int .i64 0] 57)) 57 (tcells exP)
    simpa [tcells, exP, Tri.cells] using h
  · have h := Blk.new (((w.alloc (.cells #[.int .i64 10, .slice (some ⟨w.heap.size + 1 + 1, 0, none⟩) 2 2, .slice (some ⟨w.heap.size + 1 + 1 + 1, 0, none⟩) 2 2, .slice none 0 0, .int .i64 1] 26)).alloc (.cells #[.int .i64 1, .int .i64 1, .int .i64 0] 57)).alloc (.cells #[.int .i64 1, .int .i64 1, .int .i64 0, .int .i64 1, .int .i64 1, .int .i64 0] 57)) 46 (tcells exW)
    simpa [tcells, exW, Tri.cells] using h
  · exact (((b0 _).alloc (by simp) _).alloc (by simp; omega) _).alloc (by simp; omega) _

theorem wakes_any (w : World) : Calls Try.prog 9 #[] w (Yes w true) := by
  go_enter Try.func9, Try.ntmps9
  go_wp2_with fail
  refine (example_any _).mono ?_
  rintro e w2 ⟨g1, g2, rfl, hok2, hb2⟩
  have HO2 := Lib.hid hok2
  have HB2 := Lib.hid hb2
  clear hok2 hb2
  go_wp2_with fail
  refine (window_yes (ex g1 g2) 4 _ HO2.out (ex_right _ _)).mono ?_
  rintro e w3 ⟨rfl, hb3⟩
  rw [ex4]
  have HB3 := Lib.hid (HB2.out.trans (hb3.mono HB2.out.size))
  clear hb3
  go_wp2_with fail
  refine (example_any _).mono ?_
  rintro e w4 ⟨g3, g4, rfl, hok4, hb4⟩
  have HO4 := Lib.hid hok4
  have HB4 := Lib.hid (HB3.out.trans (hb4.mono HB3.out.size))
  clear hok4 hb4
  go_wp2_with fail
  refine (window_yes (ex g3 g4) 5 _ HO4.out (ex_right _ _)).mono ?_
  rintro e w5 ⟨rfl, hb5⟩
  rw [ex5]
  have HB5 := Lib.hid (HB4.out.trans (hb5.mono HB4.out.size))
  clear hb5
  go_wp2_with fail
  go_ret
  exact ⟨rfl, HB5.out⟩
end Go.Proofs.Ytcgnlkckgfaomaa.TabE
