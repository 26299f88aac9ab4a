/- Threes in a block, cell by cell. No conditions but those each law names. -/
import Derived.Test.YtliiinffkcgcaaaTabD0
namespace Go.Proofs.Ytliiinffkcgcaaa.TabE
open Go.RowKit Go.Proofs.Ytliiinffkcgcaaa.Kit Go.Proofs.Ytliiinffkcgcaaa.Byt Go.Proofs.Ytliiinffkcgcaaa.Mem Go.Proofs.Ytliiinffkcgcaaa.TabA Go.Proofs.Ytliiinffkcgcaaa.TabB Go.Proofs.Ytliiinffkcgcaaa.TabC Go.Proofs.Ytliiinffkcgcaaa.TabD

/-- A block known whole that holds threes, one behind the other. -/
def tcells (R : List Tri) : List Value := R.flatMap Tri.cells
theorem tcells_cons (r : Tri) (R : List Tri) : tcells (r :: R) = .int .i64 r.a :: .int .i64 r.b :: .int .i64 r.c :: tcells R := rfl
theorem tcells_len : (R : List Tri) → (tcells R).length = R.length * 3
  | [] => rfl
  | r :: R => by rw [tcells_cons]; simp [tcells_len R]; omega
theorem tcells_at {R : List Tri} {k : Nat} {r : Tri} (h : R[k]? = some r) {j : Nat} {u : Value} (hj : r.cells[j]? = some u) : (tcells R)[k * 3 + j]? = some u := by
  induction R generalizing k with
  | nil => simp at h
  | cons r' R ih =>
    cases k with
    | zero =>
      simp at h
      subst h
      have hl : j < 3 := by have := (List.getElem?_eq_some_iff.1 hj).1; simpa [Tri.cells] using this
      rw [tcells_cons]
      match j, hl with
      | 0, _ => simpa [Tri.cells] using hj
      | 1, _ => simpa [Tri.cells] using hj
      | 2, _ => simpa [Tri.cells] using hj
    | succ k =>
      rw [tcells_cons, show (k + 1) * 3 + j = k * 3 + j + 1 + 1 + 1 by omega]
      simpa using ih (by simpa using h)
theorem Tris.of_blk {w : World} {g c : Nat} {t : TypeId} {R : List Tri} {xs : List Value} (hB : Blk w g t (tcells R ++ xs)) (hc : R.length ≤ c) (hm : c ≤ 9223372036854775807) (hok : ∀ r ∈ R, r.ok) : Tris w (some ⟨g, 0, none⟩) R.length c R :=
  ⟨rfl, hc, hm, hok, fun _ => ⟨g, 0, rfl, hB.lt, fun k r hr j u hu => hB.cell (by
    have := tcells_at hr hu
    have hl := (List.getElem?_eq_some_iff.1 this).1
    rw [Nat.zero_add, List.getElem?_append_left hl]
    exact this)⟩⟩

theorem ret_row {P : Program} {fn : Func} {p : Tmp} {ty : TypeId} {R : Ending → World → Prop} {a : Act} {w : World} {g : Nat} {t : TypeId} {cs : Array Value} {fr : Nat × Nat} {d : TypeDesc} (h : fn.results = #[.cell p ty]) (h0 : a.defers = [])
    (hp : a.tmps.getD p undef = .pointer (some ⟨g, 0, none⟩)) (hg : w.heap[g]? = some (.cells cs t fr)) (hu : P.underlying ty = some d) (hd : (match d with | .struct _ | .array _ _ => true | _ => false) = true) (hi : (P.info? ty).map (·.size) = some cs.size)
    (hR : R (.returned (.agg cs)) w) : bodyPost P fn R .ret a w :=
  bodyPost_ret (results_cell_row h _ w g t cs fr d hp hg hu hd hi) h0 hR
theorem size_table : (Try.prog.info? 26).map (·.size) = some 5 := by kernel_rfl
end Go.Proofs.Ytliiinffkcgcaaa.TabE
