/- A table that was copied into a box of its own, beside the one that came in; a list of it laid anew. Conditions: the tables lie as the facts say. -/
import Derived.Test.YtogkdnjdcfffaaaTabF
import Derived.Handy
namespace Go.Proofs.Ytogkdnjdcfffaaa.TabG
open Go.RowKit Go.Proofs.Ytogkdnjdcfffaaa.Kit Go.Proofs.Ytogkdnjdcfffaaa.Byt Go.Proofs.Ytogkdnjdcfffaaa.Mem Go.Proofs.Ytogkdnjdcfffaaa.TabA Go.Proofs.Ytogkdnjdcfffaaa.TabB Go.Proofs.Ytogkdnjdcfffaaa.TabC Go.Proofs.Ytogkdnjdcfffaaa.TabD Go.Proofs.Ytogkdnjdcfffaaa.TabE Go.Proofs.Ytogkdnjdcfffaaa.TabF

theorem tris_keep {F : Nat → Prop} {w w' : World} {A : Option Addr} {n c : Nat} {R : List Tri} (h : Tris w A n c R) (k : Keep F w w') (hA : 0 < n → ∀ b o, A = some ⟨b, o, none⟩ → ¬ F b) : Tris w' A n c R :=
  ⟨h.1, h.2.1, h.2.2.1, h.2.2.2.1, fun hp => by
    obtain ⟨b, o, hA', hb, hc⟩ := h.2.2.2.2 hp
    exact ⟨b, o, hA', Nat.lt_of_lt_of_le hb k.size, fun i r hr j u hu => (World.cell?_of_block (k.block b hb (hA hp b o hA'))).trans (hc i r hr j u hu)⟩⟩
def off (g n : Nat) (A : Option Addr) : Prop := 0 < n → ∀ b o, A = some ⟨b, o, none⟩ → b ≠ g
theorem off_low {w : World} {g n c : Nat} {A : Option Addr} {R : List Tri} (h : Tris w A n c R) (hg : w.heap.size ≤ g) : off g n A := fun hp b o hA => by
  obtain ⟨b', o', hA', hb, _⟩ := h.2.2.2.2 hp
  rw [hA] at hA'
  injection hA' with hA'
  injection hA' with h1 _
  omega
theorem off_own {w : World} {base g n c : Nat} {e : TypeId} {A : Option Addr} {xs : List Value} (h : w.ownsRow base e 3 (.slice A n c) n xs) (hg : g < base) : off g n A := fun hp b o hA => by
  rcases h.2 with ⟨hv, h0⟩ | ⟨g', cap', cur, hv, hb, _⟩
  · omega
  · simp only [Value.slice.injEq] at hv
    obtain ⟨rfl, _, _⟩ := hv
    injection hA with hA
    injection hA with h1 _
    omega
structure At2 (w : World) (t : Ta) (gx : Nat) (X : Ta) (wr : World) : Prop where
  bx : Bx w t wr
  xb : Blk wr gx 26 X.cells
  xok : X.ok wr
  lo : w.heap.size < gx
  oP : off gx X.n1 X.A1
  oW : off gx X.n2 X.A2
  oC : off gx X.n3 X.A3
section
variable {w wa w6 w' : World} {t X : Ta} {gx : Nat}
theorem At2.new (h : Bx w t wa) (ht : t.ok w) : At2 w t wa.heap.size t (wa.alloc (.cells t.cells.toArray 26)) :=
  ⟨h.alloc _, Blk.new wa _ _, ht.below (h.alloc _).bel, h.sz, off_low ht.P (Nat.le_of_lt h.sz), off_low ht.W (Nat.le_of_lt h.sz), off_low ht.C (Nat.le_of_lt h.sz)⟩
theorem At2.step (h : At2 w t gx X wa) (hb : Below wa.heap.size wa w') : At2 w t gx X w' :=
  ⟨h.bx.step hb, h.xb.below hb, h.xok.below hb, h.lo, h.oP, h.oW, h.oC⟩
theorem At2.cell (h : At2 w t gx X wa) : wa.cell? ⟨gx, 0, none⟩ = some (.int .i64 X.fr) ∧ wa.cell? ⟨gx, 1, none⟩ = some (.slice X.A1 X.n1 X.c1) ∧ wa.cell? ⟨gx, 2, none⟩ = some (.slice X.A2 X.n2 X.c2) ∧ wa.cell? ⟨gx, 3, none⟩ = some (.slice X.A3 X.n3 X.c3) ∧ wa.cell? ⟨gx, 4, none⟩ = some (.int .i64 X.tr) :=
  ⟨h.xb.cell rfl, h.xb.cell rfl, h.xb.cell rfl, h.xb.cell rfl, h.xb.cell rfl⟩
theorem At2.putC (h : At2 w t gx X wa) (hb : Below wa.heap.size wa w6) {e : TypeId} {A : Option Addr} {n c : Nat} {R : List Tri} (ho : w6.ownsRow wa.heap.size e 3 (.slice A n c) n (tcells R)) (hR : ∀ r ∈ R, r.ok) :
    At2 w t gx { X with A3 := A, n3 := n, c3 := c, C := R } (w6.setCell ⟨gx, 3, none⟩ (.slice A n c)) := by
  have h6 := h.step hb
  have hg := h.xb.lt
  have hlo := h.lo
  have k : Keep (fun k => k = gx) w6 (w6.setCell ⟨gx, 3, none⟩ (.slice A n c)) := Keep.set w6 3 _ rfl
  have oC := off_own ho hg
  exact ⟨⟨h6.bx.blk.far (by show w.heap.size ≠ gx; omega) _, h6.bx.bel.setCell (by show w.heap.size ≤ gx; omega) _⟩, h6.xb.set 3 _,
    ⟨tris_keep h6.xok.P k h.oP, tris_keep h6.xok.W k h.oW, tris_keep (Tris.of_own ho hR) k oC, h6.xok.f0, h6.xok.f1, h6.xok.t0, h6.xok.t1⟩, h.lo, h.oP, h.oW, oC⟩
theorem At2.putW (h : At2 w t gx X wa) (hb : Below wa.heap.size wa w6) {e : TypeId} {A : Option Addr} {n c : Nat} {R : List Tri} (ho : w6.ownsRow wa.heap.size e 3 (.slice A n c) n (tcells R)) (hR : ∀ r ∈ R, r.ok) :
    At2 w t gx { X with A2 := A, n2 := n, c2 := c, W := R } (w6.setCell ⟨gx, 2, none⟩ (.slice A n c)) := by
  have h6 := h.step hb
  have hg := h.xb.lt
  have hlo := h.lo
  have k : Keep (fun k => k = gx) w6 (w6.setCell ⟨gx, 2, none⟩ (.slice A n c)) := Keep.set w6 2 _ rfl
  have oW := off_own ho hg
  exact ⟨⟨h6.bx.blk.far (by show w.heap.size ≠ gx; omega) _, h6.bx.bel.setCell (by show w.heap.size ≤ gx; omega) _⟩, h6.xb.set 2 _,
    ⟨tris_keep h6.xok.P k h.oP, tris_keep (Tris.of_own ho hR) k oW, tris_keep h6.xok.C k h.oC, h6.xok.f0, h6.xok.f1, h6.xok.t0, h6.xok.t1⟩, h.lo, h.oP, oW, h.oC⟩
end
/-- Where a part of a list of threes begins. -/
theorem rest_at {b o n c Q : Nat} {R : List Tri} (hq : Q ≤ n) (hc : n ≤ c) :
    ∃ ad : Addr, (if c = Q then some (⟨b, o, none⟩ : Addr) else some ⟨b, o + Q * 3, none⟩) = some ad ∧ ∀ w, Tris w (some ⟨b, o, none⟩) n c R → ∀ j u, (tcells (R.drop Q))[j]? = some u → w.cell? (ad.add j) = some u := by
  by_cases h : c = Q
  · refine ⟨_, by rw [if_pos h], fun w hT j u hu => ?_⟩
    have hn : n = Q := by omega
    rw [List.drop_of_length_le (by rw [hT.1]; omega)] at hu
    simp [tcells] at hu
  · exact ⟨_, by rw [if_neg h], fun w hT => Tris.rest hT Q⟩
section
variable {P : Program} {o : Oper} {a : Act} {w : World} {K : Act → World → Prop} {Q : Exit → Act → World → Prop}
/-- An append of threes, from a slice that may be nil. -/
theorem wp_add3 (s x : Operand) (t : TypeId)
    (ho : o.op = .call { callee := .builtin .append, args := #[s, x], argTypes := #[t, t] })
    (base : Nat) (e : TypeId) (i : TypeInfo) (z : Value) (bytes : Nat) (ht : P.underlying t = some (.slice e)) (hi : P.info? e = some i) (hz : i.zero = some z)
    (hsize : i.size = 3) (hby : i.bytes = bytes) (hzs : z.cells.size = 3)
    (v : Value) (n : Nat) (xs : List Value) (hs : a.eval s = v) (hown : w.ownsRow base e 3 v n xs)
    (A : Option Addr) (m c : Nat) (R : List Tri) (hx : a.eval x = .slice A m c) (hT : Tris w A m c R)
    (h63 : n + m ≤ 1000000000) (hbytes : bytes ≤ 1000) (hbase : base ≤ w.heap.size)
    (h : ∀ A' n' c' w', Hid (n' = n + m) → Hid (w'.ownsRow base e 3 (.slice A' n' c') n' (xs ++ tcells R)) → w.grownBy w' v.ownBlock → K (a.put o.dst (.slice A' n' c')) w') : o.wp P a w K Q := by
  have hmul : (n + m) * bytes ≤ 140737488355328 := by
    have := Nat.mul_le_mul h63 hbytes
    omega
  rcases A with _ | ad
  · have h0 : m = 0 := by
      rcases Nat.eq_zero_or_pos m with h | h
      · exact h
      · obtain ⟨b, o, hA, _⟩ := hT.2.2.2.2 h
        cases hA
    subst h0
    have h0 : R = [] := List.eq_nil_of_length_eq_zero hT.1
    subst h0
    have hrun : (Builtin.append_ #[t, t] o.type #[v, .slice none 0 c]).run P w = .ok v w := by
      rcases hown.2 with ⟨rfl, _⟩ | ⟨g, cap, cur, rfl, _, _, hnc, _⟩
      · simp [Builtin.append_, run_underlying ht, sizeOf, typeInfo, hi, Builtin.lenOf, Builtin.firstCells]
      · simp [Builtin.append_, run_underlying ht, sizeOf, typeInfo, hi, Builtin.lenOf, Builtin.firstCells, hnc, storeCells]
    unfold Oper.wp execOp
    simp only [ho, resolve, invoke, builtin, Sem.run_bind, Sem.run_pure, Result.andThen_ok, List.map_toArray, List.map_cons, List.map_nil, hs, hx, hrun]
    have h6 := hown
    rcases h6.2 with ⟨rfl, h0⟩ | ⟨g, cap, cur, rfl, _⟩
    · exact h none 0 0 w (Lib.hid (by omega)) (Lib.hid (by rw [h0] at hown; simpa [tcells] using hown)) (World.grownBy.refl w _)
    · exact h _ _ _ w (Lib.hid (by omega)) (Lib.hid (by simpa [tcells] using hown)) (World.grownBy.refl w _)
  · refine wp_append_at s x t ho base e i z 3 bytes ht hi hz hsize hby hzs (by omega) v n xs hs hown ad m c (tcells R) hx (by rw [tcells_len, hT.1]) ?_ (tcells_one R) (by unfold maxLen; omega) hmul hbase fun A' n' c' w' h1 h2 h3 _ => h A' n' c' w' h1 h2 h3
    intro j u hu
    have hm : 0 < m := by
      obtain ⟨k, q, r, _, hr, _⟩ := tcells_get hu
      have := (List.getElem?_eq_some_iff.1 hr).1
      have := hT.1
      omega
    obtain ⟨b, o, hA, _⟩ := hT.2.2.2.2 hm
    injection hA with hA
    subst hA
    exact Tris.first hT R.length j u (by rw [List.take_of_length_le (Nat.le_refl _)]; exact hu)
end
end Go.Proofs.Ytogkdnjdcfffaaa.TabG
