/- The code's All. Condition: the bytes lie as the facts say. -/
import Derived.Test.YtliiinffkcgcaaaOpsN2
namespace Go.Proofs.Ytliiinffkcgcaaa.OpsN
open Go.RowKit Go.Proofs.Ytliiinffkcgcaaa.Kit Go.Proofs.Ytliiinffkcgcaaa.Byt Go.Proofs.Ytliiinffkcgcaaa.Mem Go.Proofs.Ytliiinffkcgcaaa.OpsM Go.Proofs.Ytliiinffkcgcaaa.OpsA

def pcs (p : Int × Int) : List Value := [.int .i64 p.1, .int .i64 p.2]
theorem pcs_at : ∀ (R : List (Int × Int)) (j : Nat) (p : Int × Int), R[j]? = some p → (R.flatMap pcs)[j * 2]? = some (.int .i64 p.1) ∧ (R.flatMap pcs)[j * 2 + 1]? = some (.int .i64 p.2) := by
  intro R
  induction R with
  | nil => intro j p hj; simp at hj
  | cons q R ih =>
    intro j p hj
    cases j with
    | zero => simp only [List.getElem?_cons_zero, Option.some.injEq] at hj; subst hj; exact ⟨rfl, rfl⟩
    | succ j =>
      rw [List.getElem?_cons_succ] at hj
      have := ih j p hj
      rw [List.flatMap_cons, show (j + 1) * 2 = j * 2 + 2 from by omega]
      exact this
theorem pcs_len (R : List (Int × Int)) : (R.flatMap pcs).length = R.length * 2 := by
  induction R with
  | nil => rfl
  | cons p R ih =>
    rw [List.flatMap_cons, List.length_append, ih, List.length_cons]
    show 2 + R.length * 2 = _
    omega
theorem Prs.own {w : World} {base : Nat} {e : TypeId} {A : Option Addr} {n c : Nat} {R : List (Int × Int)} (h : w.ownsRow base e 2 (.slice A n c) n (R.flatMap pcs)) (hR : ∀ p ∈ R, n64 p.1 ∧ n64 p.2) : Prs w A n c R := by
  have hl : R.length = n := by have := h.1; rw [pcs_len] at this; omega
  rcases h.2 with ⟨hv, h0⟩ | ⟨g, cap', cur, hv, _, hh, hnc, hcm, hcs, htk⟩
  · simp only [Value.slice.injEq] at hv
    obtain ⟨rfl, rfl, rfl⟩ := hv
    exact ⟨hl, by omega, by omega, hR, fun h => by omega⟩
  · simp only [Value.slice.injEq] at hv
    obtain ⟨rfl, _, rfl⟩ := hv
    unfold maxLen at hcm
    have hcell : ∀ i u, (R.flatMap pcs)[i]? = some u → w.cell? ⟨g, 0 + i, none⟩ = some u := by
      intro i u hu
      rw [← htk, List.getElem?_take] at hu
      split at hu
      · rw [Nat.zero_add]
        have h3 : cur.toList.toArray = cur := by simp
        exact (show Blk w g e cur.toList from by unfold Blk; rw [h3]; exact hh).cell hu
      · cases hu
    refine ⟨hl, by omega, by omega, hR, fun _ => ⟨g, 0, rfl, lt_of_block hh, fun j p hj => ?_⟩⟩
    obtain ⟨h1, h2⟩ := pcs_at R j p hj
    exact ⟨hcell _ _ h1, by have := hcell _ _ h2; rw [← Nat.add_assoc] at this; exact this⟩
theorem at1_b {x : List Nat} {o a : Int} {n : Nat} (hx : ∀ b ∈ x, b < 256) (h : at1 x = some (o, a, n)) : 0 ≤ a ∧ a < 256 := by
  match x with
  | [] => simp [at1] at h
  | [q] =>
    simp only [at1] at h
    split at h <;> (try contradiction)
    split at h <;> (try contradiction)
    simp only [Option.some.injEq, Prod.mk.injEq] at h
    omega
  | q :: b :: r =>
    have := hx b (by simp)
    simp only [at1] at h
    split at h <;> (try contradiction)
    split at h <;> simp only [Option.some.injEq, Prod.mk.injEq] at h <;> omega
theorem info_ins : (Try.prog.info? 107).map (fun i => (i.zero, i.size, i.bytes)) = some (some (.agg #[.int .i64 0, .int .i64 0]), 2, 16) := by kernel_rfl
theorem one_pcs (p : Int × Int) : ∀ u ∈ pcs p, u.oneCell' = true := by
  intro u hu
  simp only [pcs, List.mem_cons, List.not_mem_nil, or_false] at hu
  rcases hu with rfl | rfl <;> rfl
section
variable {P : Program} {ops : Array Oper} {rest : List Oper} {o : Oper} {a : Act} {w : World} {Q : Exit → Act → World → Prop}
theorem wpList_append_at (hgd : o.guard = none) (s x : Operand) (t : TypeId)
    (ho : o.op = .call { callee := .builtin .append, args := #[s, x], argTypes := #[t, t] })
    (base : Nat) (e : TypeId) (i : TypeInfo) (z : Value) (size bytes : Nat) (ht : P.underlying t = some (.slice e)) (hi : P.info? e = some i) (hz : i.zero = some z)
    (hsize : i.size = size) (hby : i.bytes = bytes) (hzs : z.cells.size = size) (hsz : 0 < size)
    (v : Value) (n : Nat) (xs : List Value) (hs : a.eval s = v) (hown : w.ownsRow base e size v n xs)
    (ad : Addr) (m c : Nat) (news : List Value) (hx : a.eval x = .slice (some ad) m c) (hl : news.length = m * size) (hnews : ∀ j u, news[j]? = some u → w.cell? (ad.add j) = some u) (h1 : ∀ u ∈ news, u.oneCell' = true)
    (h63 : n + m ≤ maxLen) (hbytes : (n + m) * bytes ≤ 140737488355328) (hbase : base ≤ w.heap.size)
    (h : ∀ A' n' c' w', Hid (n' = n + m) → Hid (w'.ownsRow base e size (.slice A' n' c') n' (xs ++ news)) → w.grownBy w' v.ownBlock → Hid ((Value.slice A' n' c').ownBlock = v.ownBlock ∨ (Value.slice A' n' c').ownBlock = some w.heap.size) → wpList P ops Q rest (a.put o.dst (.slice A' n' c')) w') : wpList P ops Q (o :: rest) a w :=
  wpList_plain hgd fun _ hK => wp_append_at s x t ho base e i z size bytes ht hi hz hsize hby hzs hsz v n xs hs hown ad m c news hx hl hnews h1 h63 hbytes hbase fun A' n' c' w' h2 h3 h4 h5 => hK _ _ (h A' n' c' w' h2 h3 h4 h5)
end
theorem new_pcs (w : World) (T : TypeId) (p : Int × Int) : ∀ j u, (pcs p)[j]? = some u → (w.alloc (.cells #[.int .i64 p.1, .int .i64 p.2] T)).cell? ((⟨w.heap.size, 0, none⟩ : Addr).add j) = some u := fun j u hu => by
  rw [Addr.add_lit, Nat.zero_add]
  exact (Blk.new w T (pcs p)).cell hu
theorem below_addW {w0 w w' : World} {v : Value} {base size : Nat} {e : TypeId} {n : Nat} {xs : List Value} (hb : Below w0.heap.size w0 w) (hown : w.ownsRow base e size v n xs) (hbase : w0.heap.size ≤ base) (hg : w.grownBy w' v.ownBlock) : Below w0.heap.size w0 w' :=
  hb.grown hg hb.size fun k hk => by have := hown.lt k hk; omega
theorem own_belowW {w w' : World} {v : Value} {base size : Nat} {e : TypeId} {n : Nat} {xs : List Value} (h : w.ownsRow base e size v n xs) (hb : Below w.heap.size w w') : w'.ownsRow base e size v n xs :=
  h.kept (row := none) ⟨hb.os, hb.tape, hb.output, hb.size, fun k hk _ => hb.block k hk⟩ (by
    rcases hv : v.ownBlock with _ | g
    · exact .inl rfl
    · exact .inr (by simp))
end Go.Proofs.Ytliiinffkcgcaaa.OpsN
