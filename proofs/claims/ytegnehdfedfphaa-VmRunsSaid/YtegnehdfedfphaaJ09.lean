/- One three left out of a list of threes; what an append of threes makes. No conditions but those each law names. A table that was copied into a box of its own, beside the one that came in; a list of it laid anew. Conditions: the tables lie as the facts say. New and Drain by the document; its calls, whatever is asked. Conditions: tables and channels lie as the facts say; numbers of 64 bits. New by the document. Conditions: the table lies as the facts say. Both channels beside each other, the program's and the document's. No conditions but those each law names. The reference's machine in memory, labelled: pop, push. Conditions: it lies as the facts say. -/
import Derived.Test.YtegnehdfedfphaaJ03
import Derived.Handy
import Derived.Test.YtegnehdfedfphaaPrtU
import Derived.Test.YtegnehdfedfphaaPrtV
import Derived.Test.YtegnehdfedfphaaJ06
import Derived.Test.YtegnehdfedfphaaJ08
namespace Go.Proofs.Ytegnehdfedfphaa.TabF
open Go.RowKit Go.Proofs.Ytegnehdfedfphaa.Kit Go.Proofs.Ytegnehdfedfphaa.Byt Go.Proofs.Ytegnehdfedfphaa.Mem Go.Proofs.Ytegnehdfedfphaa.TabA Go.Proofs.Ytegnehdfedfphaa.TabB Go.Proofs.Ytegnehdfedfphaa.TabC Go.Proofs.Ytegnehdfedfphaa.TabD Go.Proofs.Ytegnehdfedfphaa.TabE

/-- The list without its i-th three. -/
def out (R : List Tri) (i : Nat) : List Tri := R.take i ++ R.drop (i + 1)
theorem out_len {R : List Tri} {i : Nat} (h : i < R.length) : (out R i).length + 1 = R.length := by simp [out]; omega
theorem out_at {R : List Tri} {i : Nat} (h : i < R.length) (k : Nat) : (out R i)[k]? = if k < i then R[k]? else R[k + 1]? := by
  unfold out
  by_cases hk : k < i
  · rw [if_pos hk, List.getElem?_append_left (by simp; omega), List.getElem?_take, if_pos hk]
  · rw [if_neg hk, List.getElem?_append_right (by simp; omega), List.getElem?_drop]
    congr 1
    simp
    omega
theorem out_chans {m : Nat} {C : List Tri} {i : Nat} (hi : i < C.length) (h : ChansOk m C) : ChansOk m (out C i) := by
  refine ⟨by have := out_len hi; have := h.1; omega, fun k r hr => ?_⟩
  rw [out_at hi] at hr
  split at hr
  · exact h.2 _ _ hr
  · exact h.2 _ _ hr
theorem endAt_out_lt {W : List Tri} {i : Nat} (hi : i < W.length) : ∀ k, k ≤ i → endAt (out W i) k = endAt W k
  | 0, _ => rfl
  | k + 1, hk => by
    have : (out W i)[k]? = W[k]? := by rw [out_at hi, if_pos (by omega)]
    simp only [endAt, this]
theorem endAt_out_ge {W : List Tri} {i : Nat} (hi : i < W.length) {k : Nat} (hk : i ≤ k) : endAt (out W i) (k + 1) = endAt W (k + 2) := by
  have : (out W i)[k]? = W[k + 1]? := by rw [out_at hi, if_neg (by omega)]
  simp only [endAt, this]
theorem out_wins {m : Nat} {fr : Int} {W : List Tri} {i : Nat} (hi : i < W.length) (h : ∀ (k : Nat) (r : Tri), W[k]? = some r → WinOk m fr W k r) : ∀ (k : Nat) (r : Tri), (out W i)[k]? = some r → WinOk m fr (out W i) k r := by
  intro k r hr
  have hr0 := hr
  rw [out_at hi] at hr
  split at hr
  · rename_i hk
    have := h k r hr
    exact ⟨this.1, by rw [endAt_out_lt hi k (by omega)]; exact this.2.1, this.2.2⟩
  · rename_i hk
    have h1 := h (k + 1) r hr
    refine ⟨h1.1, ?_, h1.2.2⟩
    rcases Nat.lt_or_ge i k with hlt | hge
    · obtain ⟨k', rfl⟩ : ∃ k', k = k' + 1 := ⟨k - 1, by omega⟩
      rw [endAt_out_ge hi (by omega)]
      exact h1.2.1
    · obtain rfl : k = i := by omega
      rw [endAt_out_lt hi k (Nat.le_refl _)]
      have hw : W[k]? = some W[k] := List.getElem?_eq_getElem hi
      obtain ⟨_, _, _, _, _, v5⟩ := WinOk.bounds h hw
      have := (WinOk.bounds h hw).2.1
      have h2 := h1.2.1
      rw [endAt_next hw] at h2
      omega
theorem tcells_app (R S : List Tri) : tcells (R ++ S) = tcells R ++ tcells S := by simp [tcells]
theorem tcells_one (R : List Tri) : ∀ u ∈ tcells R, u.oneCell' = true := by
  intro u hu
  simp only [tcells, List.mem_flatMap, Tri.cells, List.mem_cons, List.not_mem_nil, or_false] at hu
  obtain ⟨r, _, rfl | rfl | rfl⟩ := hu <;> rfl
theorem tcells_get {R : List Tri} {j : Nat} {u : Value} (h : (tcells R)[j]? = some u) : ∃ (k q : Nat) (r : Tri), j = k * 3 + q ∧ R[k]? = some r ∧ r.cells[q]? = some u := by
  induction R generalizing j with
  | nil => simp [tcells] at h
  | cons r R ih =>
    rw [tcells_cons] at h
    match j, h with
    | 0, h => exact ⟨0, 0, r, rfl, rfl, by simpa [Tri.cells] using h⟩
    | 1, h => exact ⟨0, 1, r, rfl, rfl, by simpa [Tri.cells] using h⟩
    | 2, h => exact ⟨0, 2, r, rfl, rfl, by simpa [Tri.cells] using h⟩
    | j + 3, h =>
      obtain ⟨k, q, r', e, h1, h2⟩ := ih (j := j) (by simpa using h)
      exact ⟨k + 1, q, r', by omega, by simpa using h1, h2⟩
/-- The cells of a part of what lies at A. -/
theorem Tris.part {w : World} {b o n c : Nat} {R : List Tri} (h : Tris w (some ⟨b, o, none⟩) n c R) (lo m : Nat) : ∀ j u, (tcells ((R.drop lo).take m))[j]? = some u → w.cell? ((⟨b, o + lo * 3, none⟩ : Addr).add j) = some u := by
  intro j u hu
  obtain ⟨k, q, r, rfl, hr, hq⟩ := tcells_get hu
  rw [List.getElem?_take] at hr
  split at hr
  · rw [List.getElem?_drop] at hr
    have hl := (List.getElem?_eq_some_iff.1 hr).1
    obtain ⟨b', o', hA, _, hc⟩ := h.2.2.2.2 (by have := h.1; omega)
    injection hA with hA
    injection hA with h1 h2
    subst h1 h2
    have := hc (lo + k) r hr q u hq
    rw [Addr.add_lit]
    rw [show o + lo * 3 + (k * 3 + q) = o + (lo + k) * 3 + q by omega]
    exact this
  · cases hr
theorem Tris.first {w : World} {b o n c : Nat} {R : List Tri} (h : Tris w (some ⟨b, o, none⟩) n c R) (m : Nat) : ∀ j u, (tcells (R.take m))[j]? = some u → w.cell? ((⟨b, o, none⟩ : Addr).add j) = some u := by
  have := Tris.part h 0 m
  simpa using this
theorem Tris.rest {w : World} {b o n c : Nat} {R : List Tri} (h : Tris w (some ⟨b, o, none⟩) n c R) (lo : Nat) : ∀ j u, (tcells (R.drop lo))[j]? = some u → w.cell? ((⟨b, o + lo * 3, none⟩ : Addr).add j) = some u := by
  have := Tris.part h lo R.length
  rwa [List.take_of_length_le (by simp)] at this
theorem Tris.of_own {w : World} {base n c : Nat} {e : TypeId} {A : Option Addr} {R : List Tri} (h : w.ownsRow base e 3 (.slice A n c) n (tcells R)) (hok : ∀ r ∈ R, r.ok) : Tris w A n c R := by
  have hl : R.length = n := by have := h.1; rw [tcells_len] at this; omega
  rcases h.2 with ⟨hv, h0⟩ | ⟨g, cap', cur, hv, _, hh, hnc, hcm, _, _⟩
  · simp only [Value.slice.injEq] at hv
    obtain ⟨rfl, rfl, rfl⟩ := hv
    exact ⟨hl, by omega, by omega, hok, fun h => by omega⟩
  · simp only [Value.slice.injEq] at hv
    obtain ⟨rfl, _, rfl⟩ := hv
    unfold maxLen at hcm
    refine ⟨hl, by omega, by omega, hok, fun _ => ⟨g, 0, rfl, lt_some hh, fun k r hr j u hu => ?_⟩⟩
    have := h.cells (g := g) rfl _ u (tcells_at hr hu)
    rw [Nat.zero_add]
    simpa [Addr.add_lit] using this
/-- An empty slice that was just written out owns nothing. -/
theorem emptied3 (w : World) (e : TypeId) (base : Nat) (hb : base ≤ w.heap.size) : (w.alloc (.cells #[] e)).ownsRow base e 3 (.slice (some ⟨w.heap.size, 0, none⟩) 0 0) 0 [] :=
  ⟨by simp, .inr ⟨w.heap.size, 0, #[], rfl, hb, heap_alloc_new w _, by simp, by unfold maxLen; omega, by simp, by simp⟩⟩
theorem out_ok {R : List Tri} (h : ∀ r ∈ R, r.ok) (i : Nat) : ∀ r ∈ out R i, r.ok := fun r hr => by
  rcases List.mem_append.1 hr with h1 | h1
  · exact h r (List.mem_of_mem_take h1)
  · exact h r (List.mem_of_mem_drop h1)
theorem info_of {t : TypeId} {z : Value} {size bytes : Nat} (h : (Try.prog.info? t).map (fun i => (i.zero, i.size, i.bytes)) = some (some z, size, bytes)) : ∃ i, Try.prog.info? t = some i ∧ i.zero = some z ∧ i.size = size ∧ i.bytes = bytes := by
  cases hi : Try.prog.info? t with
  | none => rw [hi] at h; cases h
  | some i =>
    rw [hi] at h
    simp at h
    exact ⟨i, rfl, h.1, h.2.1, h.2.2⟩
theorem info_chan : (Try.prog.info? 59).map (fun i => (i.zero, i.size, i.bytes)) = some (some (.agg #[.int .i64 0, .int .i64 0, .int .i64 0]), 3, 24) := by kernel_rfl
theorem info_win : (Try.prog.info? 83).map (fun i => (i.zero, i.size, i.bytes)) = some (some (.agg #[.int .i64 0, .int .i64 0, .int .i64 0]), 3, 24) := by kernel_rfl
theorem info_prt : (Try.prog.info? 80).map (fun i => (i.zero, i.size, i.bytes)) = some (some (.agg #[.int .i64 0, .int .i64 0, .int .i64 0]), 3, 24) := by kernel_rfl
end Go.Proofs.Ytegnehdfedfphaa.TabF
namespace Go.Proofs.Ytegnehdfedfphaa.TabG
open Go.RowKit Go.Proofs.Ytegnehdfedfphaa.Kit Go.Proofs.Ytegnehdfedfphaa.Byt Go.Proofs.Ytegnehdfedfphaa.Mem Go.Proofs.Ytegnehdfedfphaa.TabA Go.Proofs.Ytegnehdfedfphaa.TabB Go.Proofs.Ytegnehdfedfphaa.TabC Go.Proofs.Ytegnehdfedfphaa.TabD Go.Proofs.Ytegnehdfedfphaa.TabE Go.Proofs.Ytegnehdfedfphaa.TabF

theorem tris_keep {F : Nat → Prop} {w w' : World} {A : Option Addr} {n c : Nat} {R : List Tri} (h : Tris w A n c R) (k : Keep F w w') (hA : 0 < n → ∀ b o, A = some ⟨b, o, none⟩ → ¬ F b) : Tris w' A n c R :=
  ⟨h.1, h.2.1, h.2.2.1, h.2.2.2.1, fun hp => by
    obtain ⟨b, o, hA', hb, hc⟩ := h.2.2.2.2 hp
    exact ⟨b, o, hA', Nat.lt_of_lt_of_le hb k.size, fun i r hr j u hu => (World.cell?_of_block (k.block b hb (hA hp b o hA'))).trans (hc i r hr j u hu)⟩⟩
def off (g n : Nat) (A : Option Addr) : Prop := 0 < n → ∀ b o, A = some ⟨b, o, none⟩ → b ≠ g
theorem off_low {w : World} {g n c : Nat} {A : Option Addr} {R : List Tri} (h : Tris w A n c R) (hg : w.heap.size ≤ g) : off g n A := fun hp b o hA => by
  obtain ⟨b', o', hA', hb, _⟩ := h.2.2.2.2 hp
  rw [hA] at hA'
  injection hA' with hA'
  injection hA' with h1 _
  omega
theorem off_own {w : World} {base g n c : Nat} {e : TypeId} {A : Option Addr} {xs : List Value} (h : w.ownsRow base e 3 (.slice A n c) n xs) (hg : g < base) : off g n A := fun hp b o hA => by
  rcases h.2 with ⟨hv, h0⟩ | ⟨g', cap', cur, hv, hb, _⟩
  · omega
  · simp only [Value.slice.injEq] at hv
    obtain ⟨rfl, _, _⟩ := hv
    injection hA with hA
    injection hA with h1 _
    omega
structure At2 (w : World) (t : Ta) (gx : Nat) (X : Ta) (wr : World) : Prop where
  bx : Bx w t wr
  xb : Blk wr gx 26 X.cells
  xok : X.ok wr
  lo : w.heap.size < gx
  oP : off gx X.n1 X.A1
  oW : off gx X.n2 X.A2
  oC : off gx X.n3 X.A3
section
variable {w wa w6 w' : World} {t X : Ta} {gx : Nat}
theorem At2.new (h : Bx w t wa) (ht : t.ok w) : At2 w t wa.heap.size t (wa.alloc (.cells t.cells.toArray 26)) :=
  ⟨h.alloc _, Blk.new wa _ _, ht.below (h.alloc _).bel, h.sz, off_low ht.P (Nat.le_of_lt h.sz), off_low ht.W (Nat.le_of_lt h.sz), off_low ht.C (Nat.le_of_lt h.sz)⟩
theorem At2.step (h : At2 w t gx X wa) (hb : Below wa.heap.size wa w') : At2 w t gx X w' :=
  ⟨h.bx.step hb, h.xb.below hb, h.xok.below hb, h.lo, h.oP, h.oW, h.oC⟩
theorem At2.cell (h : At2 w t gx X wa) : wa.cell? ⟨gx, 0, none⟩ = some (.int .i64 X.fr) ∧ wa.cell? ⟨gx, 1, none⟩ = some (.slice X.A1 X.n1 X.c1) ∧ wa.cell? ⟨gx, 2, none⟩ = some (.slice X.A2 X.n2 X.c2) ∧ wa.cell? ⟨gx, 3, none⟩ = some (.slice X.A3 X.n3 X.c3) ∧ wa.cell? ⟨gx, 4, none⟩ = some (.int .i64 X.tr) :=
  ⟨h.xb.cell rfl, h.xb.cell rfl, h.xb.cell rfl, h.xb.cell rfl, h.xb.cell rfl⟩
theorem At2.putC (h : At2 w t gx X wa) (hb : Below wa.heap.size wa w6) {e : TypeId} {A : Option Addr} {n c : Nat} {R : List Tri} (ho : w6.ownsRow wa.heap.size e 3 (.slice A n c) n (tcells R)) (hR : ∀ r ∈ R, r.ok) :
    At2 w t gx { X with A3 := A, n3 := n, c3 := c, C := R } (w6.setCell ⟨gx, 3, none⟩ (.slice A n c)) := by
  have h6 := h.step hb
  have hg := h.xb.lt
  have hlo := h.lo
  have k : Keep (fun k => k = gx) w6 (w6.setCell ⟨gx, 3, none⟩ (.slice A n c)) := Keep.set w6 3 _ rfl
  have oC := off_own ho hg
  exact ⟨⟨h6.bx.blk.far (by show w.heap.size ≠ gx; omega) _, h6.bx.bel.setCell (by show w.heap.size ≤ gx; omega) _⟩, h6.xb.set 3 _,
    ⟨tris_keep h6.xok.P k h.oP, tris_keep h6.xok.W k h.oW, tris_keep (Tris.of_own ho hR) k oC, h6.xok.f0, h6.xok.f1, h6.xok.t0, h6.xok.t1⟩, h.lo, h.oP, h.oW, oC⟩
theorem At2.putW (h : At2 w t gx X wa) (hb : Below wa.heap.size wa w6) {e : TypeId} {A : Option Addr} {n c : Nat} {R : List Tri} (ho : w6.ownsRow wa.heap.size e 3 (.slice A n c) n (tcells R)) (hR : ∀ r ∈ R, r.ok) :
    At2 w t gx { X with A2 := A, n2 := n, c2 := c, W := R } (w6.setCell ⟨gx, 2, none⟩ (.slice A n c)) := by
  have h6 := h.step hb
  have hg := h.xb.lt
  have hlo := h.lo
  have k : Keep (fun k => k = gx) w6 (w6.setCell ⟨gx, 2, none⟩ (.slice A n c)) := Keep.set w6 2 _ rfl
  have oW := off_own ho hg
  exact ⟨⟨h6.bx.blk.far (by show w.heap.size ≠ gx; omega) _, h6.bx.bel.setCell (by show w.heap.size ≤ gx; omega) _⟩, h6.xb.set 2 _,
    ⟨tris_keep h6.xok.P k h.oP, tris_keep (Tris.of_own ho hR) k oW, tris_keep h6.xok.C k h.oC, h6.xok.f0, h6.xok.f1, h6.xok.t0, h6.xok.t1⟩, h.lo, h.oP, oW, h.oC⟩
end
/-- Where a part of a list of threes begins. -/
theorem rest_at {b o n c Q : Nat} {R : List Tri} (hq : Q ≤ n) (hc : n ≤ c) :
    ∃ ad : Addr, (if c = Q then some (⟨b, o, none⟩ : Addr) else some ⟨b, o + Q * 3, none⟩) = some ad ∧ ∀ w, Tris w (some ⟨b, o, none⟩) n c R → ∀ j u, (tcells (R.drop Q))[j]? = some u → w.cell? (ad.add j) = some u := by
  by_cases h : c = Q
  · refine ⟨_, by rw [if_pos h], fun w hT j u hu => ?_⟩
    have hn : n = Q := by omega
    rw [List.drop_of_length_le (by rw [hT.1]; omega)] at hu
    simp [tcells] at hu
  · exact ⟨_, by rw [if_neg h], fun w hT => Tris.rest hT Q⟩
section
variable {P : Program} {o : Oper} {a : Act} {w : World} {K : Act → World → Prop} {Q : Exit → Act → World → Prop}
/-- An append of threes, from a slice that may be nil. -/
theorem wp_add3 (s x : Operand) (t : TypeId)
    (ho : o.op = .call { callee := .builtin .append, args := #[s, x], argTypes := #[t, t] })
    (base : Nat) (e : TypeId) (i : TypeInfo) (z : Value) (bytes : Nat) (ht : P.underlying t = some (.slice e)) (hi : P.info? e = some i) (hz : i.zero = some z)
    (hsize : i.size = 3) (hby : i.bytes = bytes) (hzs : z.cells.size = 3)
    (v : Value) (n : Nat) (xs : List Value) (hs : a.eval s = v) (hown : w.ownsRow base e 3 v n xs)
    (A : Option Addr) (m c : Nat) (R : List Tri) (hx : a.eval x = .slice A m c) (hT : Tris w A m c R)
    (h63 : n + m ≤ 1000000000) (hbytes : bytes ≤ 1000) (hbase : base ≤ w.heap.size)
    (h : ∀ A' n' c' w', Hid (n' = n + m) → Hid (w'.ownsRow base e 3 (.slice A' n' c') n' (xs ++ tcells R)) → w.grownBy w' v.ownBlock → K (a.put o.dst (.slice A' n' c')) w') : o.wp P a w K Q := by
  have hmul : (n + m) * bytes ≤ 140737488355328 := by
    have := Nat.mul_le_mul h63 hbytes
    omega
  rcases A with _ | ad
  · have h0 : m = 0 := by
      rcases Nat.eq_zero_or_pos m with h | h
      · exact h
      · obtain ⟨b, o, hA, _⟩ := hT.2.2.2.2 h
        cases hA
    subst h0
    have h0 : R = [] := List.eq_nil_of_length_eq_zero hT.1
    subst h0
    have hrun : (Builtin.append_ #[t, t] o.type #[v, .slice none 0 c]).run P w = .ok v w := by
      rcases hown.2 with ⟨rfl, _⟩ | ⟨g, cap, cur, rfl, _, _, hnc, _⟩
      · simp [Builtin.append_, run_underlying ht, sizeOf, typeInfo, hi, Builtin.lenOf, Builtin.firstCells]
      · simp [Builtin.append_, run_underlying ht, sizeOf, typeInfo, hi, Builtin.lenOf, Builtin.firstCells, hnc, storeCells]
    unfold Oper.wp execOp
    simp only [ho, resolve, invoke, builtin, Sem.run_bind, Sem.run_pure, Result.andThen_ok, List.map_toArray, List.map_cons, List.map_nil, hs, hx, hrun]
    have h6 := hown
    rcases h6.2 with ⟨rfl, h0⟩ | ⟨g, cap, cur, rfl, _⟩
    · exact h none 0 0 w (Lib.hid (by omega)) (Lib.hid (by rw [h0] at hown; simpa [tcells] using hown)) (World.grownBy.refl w _)
    · exact h _ _ _ w (Lib.hid (by omega)) (Lib.hid (by simpa [tcells] using hown)) (World.grownBy.refl w _)
  · refine wp_append_at s x t ho base e i z 3 bytes ht hi hz hsize hby hzs (by omega) v n xs hs hown ad m c (tcells R) hx (by rw [tcells_len, hT.1]) ?_ (tcells_one R) (by unfold maxLen; omega) hmul hbase fun A' n' c' w' h1 h2 h3 _ => h A' n' c' w' h1 h2 h3
    intro j u hu
    have hm : 0 < m := by
      obtain ⟨k, q, r, _, hr, _⟩ := tcells_get hu
      have := (List.getElem?_eq_some_iff.1 hr).1
      have := hT.1
      omega
    obtain ⟨b, o, hA, _⟩ := hT.2.2.2.2 hm
    injection hA with hA
    subst hA
    exact Tris.first hT R.length j u (by rw [List.take_of_length_le (Nat.le_refl _)]; exact hu)
end
end Go.Proofs.Ytegnehdfedfphaa.TabG
namespace Go.Proofs.Ytegnehdfedfphaa.PrtX
open Go.RowKit Go.Proofs.Ytegnehdfedfphaa.Kit Go.Proofs.Ytegnehdfedfphaa.Byt Go.Proofs.Ytegnehdfedfphaa.Mem Go.Proofs.Ytegnehdfedfphaa.TabI Go.Proofs.Ytegnehdfedfphaa.PrtM Go.Proofs.Ytegnehdfedfphaa.PrtA Go.Proofs.Ytegnehdfedfphaa.PrtB Go.Proofs.Ytegnehdfedfphaa.PrtC Go.Proofs.Ytegnehdfedfphaa.PrtD Go.Proofs.Ytegnehdfedfphaa.PrtR Go.Proofs.Ytegnehdfedfphaa.PrtS Go.Proofs.Ytegnehdfedfphaa.PrtT Go.Proofs.Ytegnehdfedfphaa.PrtU Go.Proofs.Ytegnehdfedfphaa.PrtV
open Go.Proofs.Ytegnehdfedfphaa.TabA (Tri Tris Ta)
open Go.Proofs.Ytegnehdfedfphaa.TabB (Bx)
open Go.Proofs.Ytegnehdfedfphaa.TabE (tcells tcells_at tcells_len)

section
variable {B X gl n c : Nat} {w : World} {ρ : Nat → Lab} {A : Option Addr} {C : List Tri} {L : Nat → List Int} {r : Tri}
/-- What a list is at most. -/
def Fits (C : List Tri) (L : Nat → List Int) : Prop := ∀ (k : Nat) (r : Tri), C[k]? = some r → (0 ≤ r.c ∧ r.c ≤ 4) ∧ (L k).length ≤ 4
theorem rsend_any (h : Rf B w ρ X gl A n c C L) (hF : Fits C L) (p k y : Int) :
    Calls Try.prog 17 #[.pointer (some ⟨X, 0, none⟩), .int .i64 p, .int .i64 k, .int .i64 y] w (Rft B w ρ X gl A n c C (snds C L p k y).2 (.agg #[.int .i64 0, .bool (snds C L p k y).1.1, .int .i64 (snds C L p k y).1.2])) := by
  cases hk : sndOk C p k with
  | false =>
    rw [snds_no hk]
    refine (rsend_no h p k y hk).mono ?_
    rintro e w' ⟨rfl, hb⟩
    exact Rft.same h _ hb
  | true =>
    obtain ⟨k', r, rfl, hr, ha⟩ : ∃ (k' : Nat) (r : Tri), k = k' ∧ C[k']? = some r ∧ r.a = p := by
      unfold sndOk chan at hk
      split at hk
      · cases hk
      · rename_i r hc
        split at hc
        · rename_i h0
          exact ⟨k.toNat, r, by omega, hc, by simpa using hk⟩
        · cases hc
    by_cases hy : y < 0 ∨ 65535 < y
    · rw [snds_range hk hy]
      refine (rsend_range h hr p y ha hy).mono ?_
      rintro e w' ⟨rfl, hb⟩
      exact Rft.same h _ hb
    · rw [snds_yes hr ha (by omega) (by omega)]
      obtain ⟨f1, f2⟩ := hF k' r hr
      cases hf : full r.c (L k') with
      | true =>
        have hfu := hf
        unfold full at hfu
        simp only [decide_eq_true_eq] at hfu
        have hu : up L k' (sndL r.c (L k') y) = L := by rw [sndL, if_neg hfu.1, if_pos hf, up_self]
        refine (rsend_full h hr p y ha (by omega) (by omega) hfu.1 hfu.2).mono ?_
        rintro e w' ⟨rfl, hb⟩
        rw [hu]
        exact Rft.same h _ hb
      | false => exact rsend_yes h hr p y ha (by omega) (by omega) hf (by omega) f1.1
theorem rget_any (h : Rf B w ρ X gl A n c C L) (hF : Fits C L) (p k : Int) :
    Calls Try.prog 48 #[.pointer (some ⟨X, 0, none⟩), .int .i64 p, .int .i64 k] w (Rft B w ρ X gl A n c C (gets C L p k).2 (.agg #[.int .i64 (gets C L p k).1.1, .bool (gets C L p k).1.2.1, .int .i64 (gets C L p k).1.2.2])) := by
  cases hk : getOk C p k with
  | false =>
    rw [gets_no hk]
    refine (rget_no h p k hk).mono ?_
    rintro e w' ⟨rfl, hb⟩
    exact Rft.same h _ hb
  | true =>
    obtain ⟨k', r, rfl, hr, hb⟩ : ∃ (k' : Nat) (r : Tri), k = k' ∧ C[k']? = some r ∧ r.b = p := by
      unfold getOk chan at hk
      split at hk
      · cases hk
      · rename_i r hc
        split at hc
        · rename_i h0
          exact ⟨k.toNat, r, by omega, hc, by simpa using hk⟩
        · cases hc
    rw [gets_yes hr hb]
    cases hL : L k' with
    | nil =>
      have hu : up L k' (getL r.c []) = L := by
        have : getL r.c [] = L k' := by rw [hL]; unfold getL; split <;> rfl
        rw [this, up_self]
      refine (rget_none h hr p hb hL).mono ?_
      rintro e w' ⟨rfl, hbl⟩
      rw [hu]
      exact Rft.same h _ hbl
    | cons x l =>
      by_cases hd : r.c = 0
      · have hu : up L k' (getL r.c (x :: l)) = L := by rw [getL, if_pos hd, ← hL, up_self]
        refine (rget_keep h hr p hb hd hL).mono ?_
        rintro e w' ⟨rfl, hbl⟩
        rw [hu]
        exact Rft.same h _ hbl
      · have hu : getL r.c (x :: l) = l := by rw [getL, if_neg hd]; rfl
        rw [hu]
        exact rget_cut h hr p hb (by have := (hF k' r hr).1.1; omega) hL
theorem fits_chs {S : Nat} {Q : Nat → Nat} (h : Chs B w ρ S A n c Q C L) : Fits C L := fun k r hr => by
  have h4 := (h.ok r (List.mem_of_getElem? hr)).2
  refine ⟨h4, ?_⟩
  rcases (h.head k r hr).2 with ⟨h0, x, b, h1, h2, h3⟩ | ⟨h0, A1, n1, c1, h1, h2, h3, _⟩
  · cases b with
    | true => rw [h2 rfl]; simp
    | false => rw [(h3 rfl).1]; simp
  · have := own_len h2
    omega
end
end Go.Proofs.Ytegnehdfedfphaa.PrtX
namespace Go.Proofs.Ytegnehdfedfphaa.PrtY
open Go.RowKit Go.Proofs.Ytegnehdfedfphaa.Kit Go.Proofs.Ytegnehdfedfphaa.Byt Go.Proofs.Ytegnehdfedfphaa.Mem Go.Proofs.Ytegnehdfedfphaa.TabI Go.Proofs.Ytegnehdfedfphaa.PrtM Go.Proofs.Ytegnehdfedfphaa.PrtA Go.Proofs.Ytegnehdfedfphaa.PrtB Go.Proofs.Ytegnehdfedfphaa.PrtC Go.Proofs.Ytegnehdfedfphaa.PrtD Go.Proofs.Ytegnehdfedfphaa.PrtR Go.Proofs.Ytegnehdfedfphaa.PrtS Go.Proofs.Ytegnehdfedfphaa.PrtT Go.Proofs.Ytegnehdfedfphaa.PrtU Go.Proofs.Ytegnehdfedfphaa.PrtV Go.Proofs.Ytegnehdfedfphaa.PrtX
open Go.Proofs.Ytegnehdfedfphaa.TabA (Tri Tris Ta)
open Go.Proofs.Ytegnehdfedfphaa.TabB (Bx)
open Go.Proofs.Ytegnehdfedfphaa.TabE (tcells tcells_at tcells_len)
open Go.Proofs.Ytegnehdfedfphaa.TabG (wp_add3)

theorem info_chan : (Try.prog.info? 59).map (fun i => (i.zero, i.size, i.bytes)) = some (some (.agg #[.int .i64 0, .int .i64 0, .int .i64 0]), 3, 24) := by kernel_rfl
theorem info_ints : (Try.prog.info? 64).map (fun i => (i.zero, i.size, i.bytes)) = some (some (.slice none 0 0), 1, 24) := by kernel_rfl
def RefN (l : Lab) : Prop := l = .rset ∨ l = .rlist ∨ l = .rdata
theorem Tris.of_own {w : World} {B : Nat} {e : TypeId} {A : Option Addr} {n c : Nat} {R : List Tri} (h : w.ownsRow B e 3 (.slice A n c) n (tcells R)) (hl : R.length = n) (hok : ∀ r ∈ R, r.ok) : Tris w A n c R := by
  rcases h.2 with ⟨hv, h0⟩ | ⟨g, cap, cur, hv, hb, hg, hnc, hcm, _⟩
  · simp only [Value.slice.injEq] at hv
    obtain ⟨rfl, rfl, rfl⟩ := hv
    exact ⟨hl, by omega, by omega, hok, fun hp => absurd hp (by omega)⟩
  · simp only [Value.slice.injEq] at hv
    obtain ⟨rfl, _, rfl⟩ := hv
    unfold maxLen at hcm
    refine ⟨hl, hnc, by omega, hok, fun _ => ⟨g, 0, rfl, lt_of_block hg, fun k r hr j u hu => ?_⟩⟩
    have h1 := h.cells (g := g) rfl (k * 3 + j) u (tcells_at hr hu)
    rw [Addr.add_lit] at h1
    rw [Nat.zero_add] at h1 ⊢
    exact h1
theorem below_own {W w5 : World} (h : W.drew.grownBy w5 (Value.slice none 0 0).ownBlock) : Below W.heap.size W w5 :=
  ⟨h.os, h.tape, h.output, h.size, fun i hi => h.block i hi (fun e => by cases e)⟩
/-- What New leaves: the labels of before, and its own. -/
theorem Rf.start {B : Nat} {w W w5 : World} {ρ : Nat → Lab} {gl X n n5 c5 : Nat} {A5 : Option Addr} {C : List Tri} (hbd : Bd B w ρ) (hB : B ≤ w.heap.size) (hgl : w.heap.size ≤ gl) (hX : gl < X)
    (h1 : Blk W gl 64 (List.replicate n (.slice none 0 0))) (h2 : Blk W X 74 [.slice none 0 0, .slice (some ⟨gl, 0, none⟩) n n]) (hb : Below w.heap.size w W) (hg : Below W.heap.size W w5)
    (hown : w5.ownsRow W.heap.size 59 3 (.slice A5 n5 c5) n5 (tcells C)) (hlen : C.length = n) (hn5 : n5 = n) (h4 : n ≤ 4) (hok : ∀ r ∈ C, r.ok) :
    ∃ ρ', Rf B (w5.setCell ⟨X, 0, none⟩ (.slice A5 n5 c5)) ρ' X gl A5 n c5 C (fun _ => []) ∧ Stp RefN w ρ (w5.setCell ⟨X, 0, none⟩ (.slice A5 n5 c5)) ρ' ∧ Below w.heap.size w (w5.setCell ⟨X, 0, none⟩ (.slice A5 n5 c5)) := by
  subst hn5
  have hXl := h2.lt
  have hs5 := hg.size
  have hsw := hb.size
  obtain ⟨ρ', hρ'⟩ : ∃ ρ' : Nat → Lab, ρ' = fun i => if i = X then .rset else if i = gl then .rlist else if W.heap.size ≤ i ∧ (Value.slice A5 n5 c5).ownBlock = some i then .rdata else ρ i := ⟨_, rfl⟩
  have hlt : ∀ i, i < w.heap.size → ρ' i = ρ i := fun i hi => by rw [hρ']; simp only [if_neg (show ¬ i = X by omega), if_neg (show ¬ i = gl by omega), if_neg (show ¬ (W.heap.size ≤ i ∧ (Value.slice A5 n5 c5).ownBlock = some i) by omega)]
  have hout : ∀ i, w.heap.size ≤ i → ρ i = .out := fun i hi => Classical.byContradiction fun hn => by have := (hbd i hn).2; omega
  have hbel : Below w.heap.size w (w5.setCell ⟨X, 0, none⟩ (.slice A5 n5 c5)) := (hb.trans (hg.mono hsw)).setCell (by simp; omega) _
  have hsz : (w5.setCell ⟨X, 0, none⟩ (.slice A5 n5 c5)).heap.size = w5.heap.size := by simp [World.setCell]
  have hown' : (w5.setCell ⟨X, 0, none⟩ (.slice A5 n5 c5)).ownsRow W.heap.size 59 3 (.slice A5 n5 c5) n5 (tcells C) := (Keep.set (F := fun i => i = X) w5 0 (.slice A5 n5 c5) rfl).own hown fun g hg2 e => by have := (hown.lt g hg2).1; omega
  have hst : Stp RefN w ρ (w5.setCell ⟨X, 0, none⟩ (.slice A5 n5 c5)) ρ' := ⟨Keep.of_below hbel, hlt, fun i hi => by
    rw [hρ']
    by_cases e1 : i = X
    · exact .inr ⟨.inl (if_pos e1), by rw [hsz]; omega⟩
    · simp only [if_neg e1]
      by_cases e2 : i = gl
      · exact .inr ⟨.inr (.inl (if_pos e2)), by rw [hsz]; omega⟩
      · simp only [if_neg e2]
        by_cases e3 : W.heap.size ≤ i ∧ (Value.slice A5 n5 c5).ownBlock = some i
        · exact .inr ⟨.inr (.inr (if_pos e3)), (hown'.lt i e3.2).2⟩
        · exact .inl (by rw [if_neg e3]; exact hout i hi)⟩
  refine ⟨ρ', ⟨hbd.step hB hst, by rw [hsz]; omega, ?_, by rw [hρ']; exact if_pos rfl, Tris.of_own hown' hlen hok, fun hp b o hA => ?_, by rw [hρ']; simp only [if_neg (show ¬ gl = X by omega), if_pos], ⟨_, (h1.below hg).far (by simp; omega) _, by simp, fun k v hv => ?_⟩, h4⟩, hst, hbel⟩
  · exact (h2.below hg).set 0 _
  · have h6 : (Value.slice A5 n5 c5).ownBlock = some b := by rw [hA]; rfl
    have h7 := (hown.lt b h6).1
    rw [hρ']
    simp only [if_neg (show ¬ b = X by omega), if_neg (show ¬ b = gl by omega), if_pos (show W.heap.size ≤ b ∧ (Value.slice A5 n5 c5).ownBlock = some b from ⟨h7, h6⟩)]
  · rw [List.getElem?_replicate] at hv
    split at hv
    · injection hv with hv
      subst hv
      exact ⟨none, 0, 0, rfl, Rd.nil _, fun hp => absurd hp (by omega)⟩
    · cases hv
set_option maxRecDepth 100000 in
set_option maxHeartbeats 3200000 in
theorem rnew_any (t : Ta) {B : Nat} {w : World} {ρ : Nat → Lab} (h : t.ok w) (h4 : t.n3 ≤ 4) (hbd : Bd B w ρ) (hB : B ≤ w.heap.size) :
    Calls Try.prog 12 #[t.val] w fun e w' => ∃ X gl A c ρ', e = .returned (.pointer (some ⟨X, 0, none⟩)) ∧ Rf B w' ρ' X gl A t.n3 c t.C (fun _ => []) ∧ Stp RefN w ρ w' ρ' ∧ Below w.heap.size w w' := by
  obtain ⟨iC, hiC, hzC, hsC, hbC⟩ := info_of info_chan
  obtain ⟨iS, hiS, hzS, hsS, hbS⟩ := info_of info_ints
  have HX := Lib.hid (Bx.new w t)
  have HT := Lib.hid h.C
  have HBD := Lib.hid hbd
  have HBB := Lib.hid hB
  have HOK := Lib.hid h.C.2.2.2.1
  have HLN := Lib.hid h.C.1
  obtain ⟨y0, y1, y2, y3, y4⟩ := HX.out.cell
  clear h hbd hB
  obtain ⟨fr, A1, n1, c1, P, A2, n2, c2, W, A3, n3, c3, C, tr⟩ := t
  dsimp only at y0 y1 y2 y3 y4 HT HOK HLN h4
  show Calls _ _ #[.agg #[.int .i64 fr, .slice A1 n1 c1, .slice A2 n2 c2, .slice A3 n3 c3, .int .i64 tr]] w fun e w' => ∃ X gl A c ρ', e = .returned (.pointer (some ⟨X, 0, none⟩)) ∧ Rf B w' ρ' X gl A n3 c C (fun _ => []) ∧ Stp RefN w ρ w' ρ' ∧ Below w.heap.size w w'
  obtain ⟨wx, hwx⟩ : ∃ wx, wx = w.alloc (.cells (Ta.cells ⟨fr, A1, n1, c1, P, A2, n2, c2, W, A3, n3, c3, C, tr⟩).toArray 26) := ⟨_, rfl⟩
  go_enter Try.func12, Try.ntmps12
  go_wp2_with (refine wpList_make_room _ rfl (.tmp 6) (.tmp 6) 72 rfl 64 iS (.slice none 0 0) 24 Try.underlying72 hiS hzS hsS hbS rfl .i64 .i64 n3 n3 n3 n3 rfl rfl rfl rfl (Nat.le_refl _) (by omega) (by omega) ?_; intro w3 hB3 hb3 hs3; have HB3 := Lib.hid hb3; have HS3 := Lib.hid hs3; have y3' := hb3.cell (p := ⟨w.heap.size, 3, none⟩) (by simp); clear hb3 hs3)
  have hgl : (w.alloc (.cells #[.int .i64 fr, .slice A1 n1 c1, .slice A2 n2 c2, .slice A3 n3 c3, .int .i64 tr] 26)).heap.size = w.heap.size + 1 := by simp
  have hz3 : w3.heap.size = w.heap.size + 1 + 1 := by rw [HS3.out, hgl]
  obtain ⟨wX, hwX⟩ : ∃ wX, wX = w3.alloc (.cells #[.slice none 0 0, .slice (some ⟨w.heap.size + 1, 0, none⟩) n3 n3] 74) := ⟨_, rfl⟩
  have HBel : Hid (Below w.heap.size w wX) := Lib.hid (by
    rw [hwX]
    have h1 := (Below.refl w.heap.size w).alloc (Nat.le_refl _) (.cells #[.int .i64 fr, .slice A1 n1 c1, .slice A2 n2 c2, .slice A3 n3 c3, .int .i64 tr] 26)
    exact (h1.trans (HB3.out.mono h1.size)).alloc (by omega) _)
  have HBX : Hid (Blk wX w3.heap.size 74 [.slice none 0 0, .slice (some ⟨w.heap.size + 1, 0, none⟩) n3 n3]) := Lib.hid (by rw [hwX]; exact Blk.new w3 _ _)
  have HBG : Hid (Blk wX (w.heap.size + 1) 64 (List.replicate n3 (.slice none 0 0))) := Lib.hid (by
    rw [hwX]
    have h1 := hB3.out
    rw [hgl] at h1
    exact Blk.alloc h1 _)
  have HTX := Lib.hid (HT.out.below HBel.out)
  have q3 : wX.cell? ⟨w.heap.size, 3, none⟩ = some (.slice A3 n3 c3) := by
    rw [hwX]
    exact ((((Below.refl w3.heap.size w3).alloc (Nat.le_refl _) _).cell (p := ⟨w.heap.size, 3, none⟩) (by show w.heap.size < w3.heap.size; omega)).trans y3').trans y3
  obtain ⟨Xb, hXb⟩ : ∃ Xb, Xb = w3.heap.size := ⟨_, rfl⟩
  have hXg : w.heap.size + 1 < Xb := by omega
  rw [← hXb] at HBX
  have x0 := HBX.out.cell (i := 0) rfl
  clear y0 y1 y2 y3 y4 y3' hB3 HB3 HS3
  rw [← hwX, ← hXb]
  clear hwX hwx hgl hz3 hXb
  have HTd := Lib.hid (show Tris wX.drew A3 n3 c3 C from HTX.out)
  go_region_law (first
    | (rw [if_pos (by rfl)]; have e8 := World.ownsRow_nil wX.drew wX.heap.size 59 3; have e9 : 0 + n3 ≤ 1000000000 := (by omega); refine wp_add3 (.tmp 14) (.tmp 16) 24 rfl wX.heap.size 59 iC (.agg #[.int .i64 0, .int .i64 0, .int .i64 0]) 24 Try.underlying24 hiC hzC hsC hbC rfl (.slice none 0 0) 0 [] rfl e8 A3 n3 c3 C rfl HTd.out e9 (by omega) (Nat.le_refl _) ?_; intro A5 n5 c5 w5 hn5 hown5 hg5; have HB5 := Lib.hid (below_own hg5); have HX5 := Lib.hid (HBX.out.below HB5.out); have z0 := HX5.out.cell (i := 0) rfl; have z1 := HX5.out.frozen 0; clear e8 e9 hg5))
  all_goals
    go_wp2_with fail
    go_ret
    have hn : n5 = n3 := by have := hn5.out; omega
    obtain ⟨ρ', g1, g2, g3⟩ := Rf.start HBD.out HBB.out (by omega) (by omega) HBG.out HBX.out HBel.out HB5.out (by have q := hown5.out; rw [List.nil_append] at q; exact q) HLN.out hn h4 HOK.out
    exact ⟨_, _, A5, c5, ρ', rfl, g1, g2, g3⟩
end Go.Proofs.Ytegnehdfedfphaa.PrtY
namespace Go.Proofs.Ytegnehdfedfphaa.PrtZ
open Go.RowKit Go.Proofs.Ytegnehdfedfphaa.Kit Go.Proofs.Ytegnehdfedfphaa.Byt Go.Proofs.Ytegnehdfedfphaa.Mem Go.Proofs.Ytegnehdfedfphaa.TabI Go.Proofs.Ytegnehdfedfphaa.PrtM Go.Proofs.Ytegnehdfedfphaa.PrtA Go.Proofs.Ytegnehdfedfphaa.PrtB Go.Proofs.Ytegnehdfedfphaa.PrtC Go.Proofs.Ytegnehdfedfphaa.PrtD Go.Proofs.Ytegnehdfedfphaa.PrtE Go.Proofs.Ytegnehdfedfphaa.PrtF Go.Proofs.Ytegnehdfedfphaa.PrtR Go.Proofs.Ytegnehdfedfphaa.PrtX Go.Proofs.Ytegnehdfedfphaa.PrtY
open Go.Proofs.Ytegnehdfedfphaa.TabA (Tri Tris Ta)

structure Two (B : Nat) (w : World) (ρ : Nat → Lab) (S : Nat) (A : Option Addr) (c : Nat) (Q : Nat → Nat) (X gl : Nat) (A' : Option Addr) (c' n : Nat) (C : List Tri) (L : Nat → List Int) : Prop where
  chs : Chs B w ρ S A n c Q C L
  rf : Rf B w ρ X gl A' n c' C L
section
variable {F : Lab → Prop} {B S X gl n c c' g : Nat} {w w' w0 : World} {ρ ρ' : Nat → Lab} {A A' : Option Addr} {Q : Nat → Nat} {C : List Tri} {L L' : Nat → List Int} {t : TypeId} {xs : List Value} {v : Value} {e : Ending}
theorem Two.below (h : Two B w ρ S A c Q X gl A' c' n C L) (hb : Below w.heap.size w w') : Two B w' ρ S A c Q X gl A' c' n C L := ⟨h.chs.below hb, h.rf.below hb⟩
theorem stp_blk (hs : Stp F w ρ w' ρ') (hF : ¬ F .out) (hB : Blk w g t xs) (hg : ρ g = .out) : Blk w' g t xs ∧ ρ' g = .out := ⟨hs.keep.blk hB (by rw [hg]; exact hF), by rw [hs.old g hB.lt]; exact hg⟩
theorem Two.out (h : Two B w ρ S A c Q X gl A' c' n C L) : ρ w.heap.size = .out := Classical.byContradiction fun hn => by have := (h.chs.bd _ hn).2; omega
/-- Behind a call of the program. -/
theorem Two.prog (h : Two B w ρ S A c Q X gl A' c' n C L) (H : Lft B w ρ S A n c Q C L' v e w') : e = .returned v ∧ ∃ ρ', Chs B w' ρ' S A n c Q C L' ∧ Rf B w' ρ' X gl A' n c' C L ∧ Stp Prog w ρ w' ρ' ∧ Below B w w' := by
  obtain ⟨he, ρ', h1, h2⟩ := H
  exact ⟨he, ρ', h1, h.rf.carry h2 id id id, h2, h2.below h.chs.bd id h.chs.base⟩
/-- Behind a call of the document's. -/
theorem two_ref (h : Chs B w ρ S A n c Q C L') (H : Rft B w ρ X gl A' n c' C L' v e w') : e = .returned v ∧ ∃ ρ', Two B w' ρ' S A c Q X gl A' c' n C L' ∧ Stp Ref w ρ w' ρ' ∧ Below B w w' := by
  obtain ⟨he, ρ', h1, h2⟩ := H
  have hr : ∀ l, Ref l → l = .rlist ∨ l = .rdata := fun l h => h
  exact ⟨he, ρ', ⟨h.carry h2 (by rintro (e | e) <;> cases e) (by rintro (e | e) <;> cases e) (fun k => by rintro (e | e) <;> cases e) (fun k => by rintro (e | e) <;> cases e), h1⟩, h2, h2.below h.bd (by rintro (e | e) <;> cases e) h.base⟩
end
end Go.Proofs.Ytegnehdfedfphaa.PrtZ
namespace Go.Proofs.Ytegnehdfedfphaa.VmrE
open Go.RowKit Go.Proofs.Ytegnehdfedfphaa.Kit Go.Proofs.Ytegnehdfedfphaa.Byt Go.Proofs.Ytegnehdfedfphaa.Mem Go.Proofs.Ytegnehdfedfphaa.OpsM Go.Proofs.Ytegnehdfedfphaa.VmcM Go.Proofs.Ytegnehdfedfphaa.VmrA Go.Proofs.Ytegnehdfedfphaa.VmrB
open Go.Proofs.Ytegnehdfedfphaa.ImgA (Im)
open Go.Proofs.Ytegnehdfedfphaa.TabI (i64s i64s_len i64s_one)
open Go.Proofs.Ytegnehdfedfphaa.PrtA (Lab Stp Bd)

/-- What the reference's machine may touch. -/
def Rl (l : Lab) : Prop := l = .own 10 ∨ l = .own 11
theorem rl_out : ¬ Rl .out := by rintro (e | e) <;> cases e
/-- The reference's machine at N. -/
structure Rm (B : Nat) (w : World) (ρ : Nat → Lab) (N : Nat) (i : Im) (A : Option Addr) (n c : Nat) (D : Option Addr) (m d : Nat) (z : Z) : Prop where
  bd : Bd B w ρ
  base : B ≤ w.heap.size
  blk : Blk w N 69 (rc i z A n c D m d)
  ln : ρ N = .own 10
  st : Rd w A n c (i64s z.st)
  ls : 0 < n → ∀ b o, A = some ⟨b, o, none⟩ → ρ b = .out
  mem : w.ownsRow B 3 1 (.slice D m d) m (i64s z.mem)
  lm : ∀ g, (Value.slice D m d).ownBlock = some g → ρ g = .own 11
  code : i.ok w
  lc : 0 < i.n → ∀ b o, i.A = some ⟨b, o, none⟩ → ρ b = .out
  n8 : n ≤ 8
  m16 : m ≤ 16
  mm : (m : Int) = i.m
  nst : ∀ x ∈ z.st, num x
  nme : ∀ x ∈ z.mem, num x
section
variable {B N n c m d : Nat} {A D : Option Addr} {i : Im} {z u : Z} {w w' w2 : World} {ρ ρ' : Nat → Lab} {F : Lab → Prop} {r : Value} {e : Ending}
theorem Rm.len (h : Rm B w ρ N i A n c D m d z) : z.st.length = n := by have := h.st.1; rwa [i64s_len] at this
theorem Rm.lenm (h : Rm B w ρ N i A n c D m d z) : z.mem.length = m := by have := h.mem.1; rw [i64s_len] at this; omega
/-- Something else has changed. -/
theorem Rm.carry (h : Rm B w ρ N i A n c D m d z) (hs : Stp F w ρ w' ρ') (h0 : ¬ F .out) (h1 : ¬ F (.own 10)) (h2 : ¬ F (.own 11)) : Rm B w' ρ' N i A n c D m d z where
  bd := h.bd.step h.base hs
  base := Nat.le_trans h.base hs.keep.size
  blk := hs.keep.blk h.blk (by rw [h.ln]; exact h1)
  ln := by rw [hs.old N h.blk.lt]; exact h.ln
  st := hs.keep.rd h.st fun hp b o hA => by rw [h.ls hp b o hA]; exact h0
  ls := fun hp b o hA => by
    obtain ⟨b', o', hA', hb, _⟩ := h.st.2.2.2 hp
    rw [hA'] at hA
    injection hA with hA
    injection hA with e1 _
    subst e1
    rw [hs.old b' hb]
    exact h.ls hp b' o' hA'
  mem := hs.keep.own h.mem fun g hg hf => h2 (h.lm g hg ▸ hf)
  lm := fun g hg => by rw [hs.old g (h.mem.lt g hg).2]; exact h.lm g hg
  code := ⟨hs.keep.rd h.code.code fun hp b o hA => by rw [h.lc hp b o hA]; exact h0, h.code.byt⟩
  lc := fun hp b o hA => by
    obtain ⟨b', o', hA', hb, _⟩ := h.code.code.2.2.2 hp
    rw [hA'] at hA
    injection hA with hA
    injection hA with e1 _
    subst e1
    rw [hs.old b' hb]
    exact h.lc hp b' o' hA'
  n8 := h.n8
  m16 := h.m16
  mm := h.mm
  nst := h.nst
  nme := h.nme
theorem Rm.below (h : Rm B w ρ N i A n c D m d z) (hb : Below w.heap.size w w') : Rm B w' ρ N i A n c D m d z := h.carry (F := fun _ => False) (Stp.of_below h.bd hb) id id id
theorem Rm.top_num (h : Rm B w ρ N i A n c D m d z) (hn : 0 < n) : num (top z.st) := by
  have hl := h.len
  unfold top
  rw [List.getLastD_eq_getLast?, List.getLast?_eq_getElem?]
  have hk : z.st.length - 1 < z.st.length := by omega
  rw [List.getElem?_eq_getElem hk]
  exact h.nst _ (List.getElem_mem hk)
/-- What a call on the reference's machine leaves. -/
def Rs (B : Nat) (w : World) (ρ : Nat → Lab) (N : Nat) (i : Im) (D : Option Addr) (m d : Nat) (z : Z) (r : Value) (e : Ending) (w' : World) : Prop :=
  e = .returned r ∧ (∃ A n c, Rm B w' ρ N i A n c D m d z) ∧ Stp Rl w ρ w' ρ
theorem n_keep {k : Nat} {x : Value} (h : Rm B w ρ N i A n c D m d z) : Stp Rl w ρ (w.setCell ⟨N, k, none⟩ x) ρ :=
  ⟨Keep.set w k x (by rw [h.ln]; exact .inl rfl), fun _ _ => rfl, fun j hj => .inl (Classical.byContradiction fun hn => by have := (h.bd j hn).2; omega)⟩
/-- Its stack is another one. -/
theorem Rm.stk {A2 : Option Addr} {n2 c2 : Nat} {l : List Int} (h : Rm B w ρ N i A n c D m d z) (hR : Rd w A2 n2 c2 (i64s l)) (hl : 0 < n2 → ∀ b o, A2 = some ⟨b, o, none⟩ → ρ b = .out) (hn : n2 ≤ 8) (hx : ∀ x ∈ l, num x) :
    Rm B (w.setCell ⟨N, 9, none⟩ (.slice A2 n2 c2)) ρ N i A2 n2 c2 D m d { z with st := l } := by
  have hk : Keep (fun j => j = N) w (w.setCell ⟨N, 9, none⟩ (.slice A2 n2 c2)) := Keep.set w 9 _ rfl
  have hne : ∀ b, ρ b = .out → ¬ b = N := fun b hb e => by rw [e, h.ln] at hb; cases hb
  refine ⟨fun j hj => ⟨(h.bd j hj).1, by simpa using (h.bd j hj).2⟩, by simpa using h.base, h.blk.set 9 _, h.ln, hk.rd hR fun hp b o hA => hne b (hl hp b o hA), hl, hk.own h.mem fun g hg e => by have := h.lm g hg; rw [e, h.ln] at this; injection this with this; omega, h.lm, ⟨hk.rd h.code.code fun hp b o hA => hne b (h.lc hp b o hA), h.code.byt⟩, h.lc, hn, h.m16, h.mm, hx, h.nme⟩
theorem take_drop {l : List Int} {k : Nat} (h : l.length = k + 1) : (i64s l).take k = i64s l.dropLast := by
  unfold i64s
  rw [← List.map_take, List.dropLast_eq_take, h]
  rfl
theorem pop_rm (h : Rm B w ρ N i A n c D m d z) (hn : 0 < n) : Calls Try.prog 33 #[.pointer (some ⟨N, 0, none⟩)] w (Rs B w ρ N i D m d { z with st := z.st.dropLast } (.int .i64 (top z.st))) :=
  (pop_any h.blk h.st hn (by have := h.n8; omega)).mono fun e w' ⟨h1, h2⟩ => by
    subst h2
    obtain ⟨k, rfl⟩ : ∃ k, n = k + 1 := ⟨n - 1, by omega⟩
    have h3 := h.st.take (k := k) (by omega)
    rw [take_drop h.len] at h3
    have hl := h.n8
    exact ⟨h1, ⟨A, k, c, h.stk (l := z.st.dropLast) h3 (fun _ b o hA => h.ls (by omega) b o hA) (by omega) fun x hx => h.nst x ((List.dropLast_sublist _).subset hx)⟩, n_keep h⟩
theorem push_num {x : Int} : num (x % 65536) := ⟨by omega, by omega⟩
theorem push_rm (h : Rm B w ρ N i A n c D m d z) (hn : n < 8) (x : Int) (hx : -9223372036854775808 ≤ x ∧ x ≤ 9223372036854775807) : Calls Try.prog 49 #[.pointer (some ⟨N, 0, none⟩), .int .i64 x] w (Rs B w ρ N i D m d { z with st := VmcM.push x z.st } (.tuple #[])) :=
  (push_any x hx h.blk h.st (by omega)).mono fun e w' ⟨h1, A', c', w1, h2, h3, h4⟩ => by
    subst h3
    have hb := h.below h2
    have s1 : Stp Rl w ρ w1 ρ := Stp.of_below h.bd h2
    have hnew : ∀ b o, A' = some ⟨b, o, none⟩ → ρ b = .out := fun b o hA => Classical.byContradiction fun hq => by
      have h5 := (h.bd b hq).2
      have h6 := (h4.lt b (by rw [hA]; rfl)).1
      omega
    exact ⟨h1, ⟨A', n + 1, c', hb.stk (l := VmcM.push x z.st) (Rd.own h4) (fun _ b o hA => hnew b o hA) (by omega) fun y hy => by
      unfold VmcM.push at hy
      rcases List.mem_append.1 hy with hy | hy
      · exact h.nst y hy
      · simp at hy; subst hy; exact push_num⟩, s1.trans (n_keep hb)⟩
theorem Rs.trans {_F : Ending → World → Prop} (h1 : Stp Rl w ρ w' ρ) (h : Rs B w' ρ N i D m d z r e w2) : Rs B w ρ N i D m d z r e w2 := ⟨h.1, h.2.1, h1.trans h.2.2⟩
end
end Go.Proofs.Ytegnehdfedfphaa.VmrE
