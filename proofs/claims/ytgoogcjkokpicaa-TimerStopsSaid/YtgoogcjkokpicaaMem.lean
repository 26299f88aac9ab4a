/- Blocks that are known whole: a load of a block or of a part of it, a store of many cells, a copy, a clear; what keeps all but some blocks. Over any program; no conditions but those each law names. -/
import Derived.Test.YtgoogcjkokpicaaByt
import Derived.Deep.MidRow
import Derived.Laws.CopyRow
import Derived.Laws.CopyOwn
namespace Go.Proofs.Ytgoogcjkokpicaa.Mem
open Go.RowKit Go.Proofs.Ytgoogcjkokpicaa.Kit Go.Proofs.Ytgoogcjkokpicaa.Byt

theorem lt_some {w : World} {G : Nat} {o : Obj} (hg : w.heap[G]? = some o) : G < w.heap.size := by
  rcases Nat.lt_or_ge G w.heap.size with h | h
  · exact h
  · rw [Array.getElem?_eq_none h] at hg; cases hg
theorem alloc_old {w : World} {o o' : Obj} {G : Nat} (h : w.heap[G]? = some o') : (w.alloc o).heap[G]? = some o' := (Below.heap_alloc w o G (lt_some h)).trans h
theorem block_below {w w' : World} {G : Nat} {o : Obj} (hg : w.heap[G]? = some o) (hb : Below w.heap.size w w') : w'.heap[G]? = some o := by
  exact (hb.block G (lt_some hg)).trans hg
theorem setL {w : World} {G : Nat} {t : TypeId} {C : List Value} (hg : w.heap[G]? = some (.cells C.toArray t (0, 0))) (k : Nat) (v : Value) : (w.setCell ⟨G, k, none⟩ v).heap[G]? = some (.cells (C.set k v).toArray t (0, 0)) := by
  rw [heap_setCell_same w G k _ _ _ hg, List.setIfInBounds_toArray]

/-- A block that is known whole. -/
def Blk (w : World) (g : Nat) (t : TypeId) (xs : List Value) : Prop := w.heap[g]? = some (.cells xs.toArray t (0, 0))
section
variable {w w' : World} {g : Nat} {t : TypeId} {xs : List Value}
theorem Blk.cell (h : Blk w g t xs) {i : Nat} {v : Value} (hi : xs[i]? = some v) : w.cell? ⟨g, i, none⟩ = some v := by
  rw [cell_of_row w g i _ _ _ h]
  simpa using hi
theorem Blk.byte {bs : List Nat} (h : Blk w g t (u8n bs)) {i : Nat} (hi : i < bs.length) : w.cell? ⟨g, i, none⟩ = some (.int .u8 (bs.getD i 0 : Nat)) :=
  h.cell (by simp [u8n, hi])
theorem Blk.frozen (h : Blk w g t xs) (i : Nat) : w.frozen? ⟨g, i, none⟩ = false := frozen_of_row w g i _ _ h
theorem Blk.set (h : Blk w g t xs) (i : Nat) (v : Value) : Blk (w.setCell ⟨g, i, none⟩ v) g t (xs.set i v) := setL h i v
theorem Blk.below (h : Blk w g t xs) (hb : Below w.heap.size w w') : Blk w' g t xs := block_below h hb
theorem Blk.lt (h : Blk w g t xs) : g < w.heap.size := lt_some h
theorem Blk.alloc (h : Blk w g t xs) (o : Obj) : Blk (w.alloc o) g t xs := alloc_old h
theorem Blk.far (h : Blk w g t xs) {p : Addr} (hp : g ≠ p.block) (u : Value) : Blk (w.setCell p u) g t xs := (Below.heap_setCell w p u g hp).trans h
theorem Blk.new (w : World) (t : TypeId) (xs : List Value) : Blk (w.alloc (.cells xs.toArray t)) w.heap.size t xs := heap_alloc_new w _
end

/-- All that was there is as it was, but what block g holds. -/
def Only (g : Nat) (w w' : World) : Prop := w.grownBy w' (some g) ∧ w'.heap.size = w.heap.size
theorem Only.below {g B : Nat} {w0 w w' : World} (h : Only g w w') (hb : Below B w0 w) (hg : B ≤ g) (hs : B ≤ w.heap.size) : Below B w0 w' := hb.grown h.1 hs fun k hk => by injection hk with hk; omega
theorem Only.blk {g k : Nat} {w w' : World} {t : TypeId} {xs : List Value} (h : Only g w w') (hB : Blk w k t xs) (hne : k ≠ g) : Blk w' k t xs :=
  (h.1.block k hB.lt (by simpa using hne)).trans hB
theorem Only.refl (g : Nat) (w : World) : Only g w w := ⟨World.grownBy.refl w _, rfl⟩
theorem Only.row (w : World) (g : Nat) (cs : Array Value) : Only g w (w.setRow g cs) :=
  ⟨⟨rfl, rfl, rfl, by simp [World.setRow], fun i _ hne => setRow_other w g i cs (by simpa using hne)⟩, by simp [World.setRow]⟩
theorem Only.drew {g : Nat} {w w' : World} (h : Only g w w') : Only g w w'.drew := ⟨⟨h.1.os, h.1.tape, h.1.output, h.1.size, h.1.block⟩, h.2⟩
theorem Only.of_drew {g : Nat} {w w' : World} (h : Only g w.drew w') : Only g w w' := ⟨⟨h.1.os, h.1.tape, h.1.output, h.1.size, h.1.block⟩, h.2⟩
theorem Only.trans {g : Nat} {a b c : World} (h : Only g a b) (k : Only g b c) : Only g a c :=
  ⟨⟨k.1.os.trans h.1.os, k.1.tape.trans h.1.tape, k.1.output.trans h.1.output, Nat.le_trans h.1.size k.1.size, fun i hi hne => (k.1.block i (by rw [h.2]; exact hi) hne).trans (h.1.block i hi hne)⟩, k.2.trans h.2⟩
theorem Only.set (w : World) (g i : Nat) (v : Value) : Only g w (w.setCell ⟨g, i, none⟩ v) :=
  ⟨⟨rfl, rfl, rfl, by simp [World.setCell], fun k _ hne => Below.heap_setCell w _ v k (by simpa using hne)⟩, by simp [World.setCell]⟩

section
variable {P : Program} {ops : Array Oper} {rest : List Oper} {o : Oper} {a : Act} {w : World} {Q : Exit → Act → World → Prop}
theorem wpList_load_blk (hgd : o.guard = none) (ty : TypeId) (x : Operand) (ho : o.op = .load ty x) (g : Nat) (hx : a.eval x = .pointer (some ⟨g, 0, none⟩))
    {t : TypeId} {xs : List Value} {d : TypeDesc} (hB : Blk w g t xs) (hu : P.underlying ty = some d) (hd : (match d with | .struct _ | .array _ _ => true | _ => false) = true) (hi : (P.info? ty).map (·.size) = some xs.length)
    (h : wpList P ops Q rest (a.put o.dst (.agg xs.toArray)) w) : wpList P ops Q (o :: rest) a w :=
  wpList_load_row hgd ty x ho g hx t xs.toArray (0, 0) d hB hu hd (by simpa using hi) h
/-- What lies in a block from a place on. -/
theorem Blk.range {g off : Nat} {t : TypeId} {xs cs : List Value} (hB : Blk w g t xs) (hc : (xs.drop off).take cs.length = cs) : w.rangeAt g off cs := fun j v hv => by
  refine hB.cell ?_
  have hj := (List.getElem?_eq_some_iff.1 hv).1
  rw [← hv, ← hc, List.getElem?_take, if_pos hj, List.getElem?_drop]
theorem wpList_load_part (hgd : o.guard = none) (ty : TypeId) (x : Operand) (ho : o.op = .load ty x) (g off : Nat) (hx : a.eval x = .pointer (some ⟨g, off, none⟩))
    {t : TypeId} {xs : List Value} (cs : List Value) {d : TypeDesc} (hB : Blk w g t xs) (hc : (xs.drop off).take cs.length = cs) (hu : P.underlying ty = some d) (hd : d.isRow = true) (hi : (P.info? ty).map (·.size) = some cs.length)
    (h : wpList P ops Q rest (a.put o.dst (.agg cs.toArray)) w) : wpList P ops Q (o :: rest) a w :=
  wpList_load_mid hgd ty x ho g off hx cs d (hB.range hc) hu hd hi h
theorem run_store_part (w : World) (ty : TypeId) (g off : Nat) {t : TypeId} {xs : List Value} (cs : List Value) (hB : Blk w g t xs) (hfit : off + cs.length ≤ xs.length) (hi : (P.info? ty).map (·.size) = some cs.length) (h1 : ∀ v ∈ cs, v.oneCell' = true) :
    (storeVar ty ⟨g, off, none⟩ (.agg cs.toArray)).run P w = .ok () (w.setRow g (splice xs off cs).toArray) := by
  have hst := run_storeCells_at P g off t cs 0 xs.toArray w hB (by simpa using hfit) h1
  cases hq : P.info? ty with
  | none => simp [hq] at hi
  | some i =>
    have hs : i.size = cs.length := by simpa [hq] using hi
    simp only [Nat.add_zero] at hst
    simp [storeVar, sizeOf, typeInfo, hq, Value.cells, hs, hst, splice]
theorem wpList_store_part (hgd : o.guard = none) (ty : TypeId) (x y : Operand) (ho : o.op = .store ty x y) (g off : Nat) (hx : a.eval x = .pointer (some ⟨g, off, none⟩))
    {t : TypeId} {xs : List Value} (cs : List Value) (hy : a.eval y = .agg cs.toArray) (hB : Blk w g t xs) (hfit : off + cs.length ≤ xs.length) (hi : (P.info? ty).map (·.size) = some cs.length) (h1 : ∀ v ∈ cs, v.oneCell' = true)
    (h : ∀ w', Hid (Blk w' g t (splice xs off cs)) → Hid (Only g w w') → wpList P ops Q rest (a.put o.dst undef) w') : wpList P ops Q (o :: rest) a w := by
  refine wpList_plain hgd fun K hK => ?_
  unfold Oper.wp execOp
  simp only [ho, hx, hy, Instr.storeAt, Instr.sureAddr, Sem.run_bind, Sem.run_pure, Result.andThen_ok, run_store_part w ty g off cs hB hfit hi h1]
  exact hK _ _ (h _ (Lib.hid (setRow_heap w g _ _ t _ hB)) (Lib.hid (Only.row w g _)))
theorem wp_store_part {K : Act → World → Prop} (ty : TypeId) (x y : Operand) (ho : o.op = .store ty x y) (g off : Nat) (hx : a.eval x = .pointer (some ⟨g, off, none⟩))
    {t : TypeId} {xs : List Value} (cs : List Value) (hy : a.eval y = .agg cs.toArray) (hB : Blk w g t xs) (hfit : off + cs.length ≤ xs.length) (hi : (P.info? ty).map (·.size) = some cs.length) (h1 : ∀ v ∈ cs, v.oneCell' = true)
    (h : ∀ w', Hid (Blk w' g t (splice xs off cs)) → Hid (Only g w w') → K (a.put o.dst undef) w') : o.wp P a w K Q := by
  unfold Oper.wp execOp
  simp only [ho, hx, hy, Instr.storeAt, Instr.sureAddr, Sem.run_bind, Sem.run_pure, Result.andThen_ok, run_store_part w ty g off cs hB hfit hi h1]
  exact h _ (Lib.hid (setRow_heap w g _ _ t _ hB)) (Lib.hid (Only.row w g _))
theorem splice_all {α : Type} {xs cs : List α} (h : xs.length = cs.length) : splice xs 0 cs = cs := by
  simp [splice, h ▸ List.drop_length]
theorem wpList_store_blk (hgd : o.guard = none) (ty : TypeId) (x y : Operand) (ho : o.op = .store ty x y) (g : Nat) (hx : a.eval x = .pointer (some ⟨g, 0, none⟩))
    {t : TypeId} {xs : List Value} (cs : List Value) (hy : a.eval y = .agg cs.toArray) (hB : Blk w g t xs) (hfit : xs.length = cs.length) (hi : (P.info? ty).map (·.size) = some cs.length) (h1 : ∀ v ∈ cs, v.oneCell' = true)
    (h : ∀ w', Hid (Blk w' g t cs) → Hid (Only g w w') → wpList P ops Q rest (a.put o.dst undef) w') : wpList P ops Q (o :: rest) a w :=
  wpList_store_part hgd ty x y ho g 0 hx cs hy hB (by omega) hi h1 (by rw [splice_all hfit]; exact h)
theorem run_index_one {t e : TypeId} {n k : Nat} {xs : List Value} {v : Value} (ht : P.underlying t = some (.array n e)) (hd : ∃ d, P.underlying e = some (.int d)) (hi : (P.info? e).map (·.size) = some 1) (hk : k < n) (hv : xs[k]? = some v) (w : World) :
    (Instr.index t (.agg xs.toArray) (.int .i64 (k : Int))).run P w = .ok v w := by
  obtain ⟨d, hd⟩ := hd
  cases hq : P.info? e with
  | none => simp [hq] at hi
  | some i =>
    have hs : i.size = 1 := by simpa [hq] using hi
    simp [Instr.index, run_underlying ht, asIntOf, sizeOf, typeInfo, hq, hs, hk, part, isAgg, run_underlying hd, hv]
/-- A copy into a part of a block. -/
theorem wpList_copy_part (hgd : o.guard = none) (d s : Operand) (dT sT : TypeId) (ho : o.op = .call { callee := .builtin .copy, args := #[d, s], argTypes := #[dT, sT] }) (elem : TypeId) (hu : P.underlying dT = some (.slice elem)) (hsz : (P.info? elem).map (·.size) = some 1)
    (g off dLen dCap : Nat) (hd : a.eval d = .slice (some ⟨g, off, none⟩) dLen dCap) {A : Option Addr} {n c : Nat} {ys : List Value} (hs : a.eval s = .slice A n c) (hR : Rd w A n c ys) (h1 : ∀ v ∈ ys, v.oneCell' = true)
    {t : TypeId} {xs : List Value} (hB : Blk w g t xs) (hfit : off + dLen ≤ xs.length)
    (h : ∀ w' m, Hid (m = min n dLen) → Hid (Blk w' g t (splice xs off (ys.take m))) → Hid (Only g w w') → wpList P ops Q rest (a.put o.dst (.int .i64 (m : Nat))) w') : wpList P ops Q (o :: rest) a w := by
  have hl := hR.len
  have hcl : (ys.take (min n dLen)).length = min n dLen := by simp; omega
  by_cases h0 : min n dLen = 0
  · refine wpList_copy_nothing hgd d s dT sT ho elem hu hsz (some ⟨g, off, none⟩) A dLen dCap n c hd hs h0 ?_
    exact h w 0 (Lib.hid h0.symm) (Lib.hid (by simpa [splice] using hB)) (Lib.hid (Only.refl g w))
  · obtain ⟨b, oo, hA, _, hj⟩ := hR.2.2.2 (by omega)
    subst hA
    refine wpList_copy_own hgd d s dT sT ho elem hu hsz g off dLen dCap ⟨b, oo, none⟩ n c hd hs xs.toArray t hB (ys.take (min n dLen)) hcl (fun j v hv => ?_) (by rw [hcl]; simp; omega) (fun v hv => h1 v (List.mem_of_mem_take hv)) ?_
    · rw [Addr.add_lit]
      rw [List.getElem?_take] at hv
      split at hv
      · exact hj j v hv
      · cases hv
    · have h2 := h (w.setRow g (splice xs off (ys.take (min n dLen))).toArray) (min n dLen) (Lib.hid rfl) (Lib.hid (setRow_heap w g _ _ t _ hB)) (Lib.hid (Only.row w g _))
      rw [hcl]
      simpa [splice, goInt, hcl] using h2
end

/-! ### what keeps all but some blocks -/

/-- All that was there is as it was, but the blocks of F. -/
structure Keep (F : Nat → Prop) (w w' : World) : Prop where
  os : w'.os = w.os
  tape : w'.tape = w.tape
  output : w'.output = w.output
  size : w.heap.size ≤ w'.heap.size
  block : ∀ k, k < w.heap.size → ¬ F k → w'.heap[k]? = w.heap[k]?
section
variable {F G : Nat → Prop} {a b c w w' : World} {B g : Nat}
theorem Keep.refl (F : Nat → Prop) (w : World) : Keep F w w := ⟨rfl, rfl, rfl, Nat.le_refl _, fun _ _ _ => rfl⟩
theorem Keep.trans (h : Keep F a b) (k : Keep G b c) (hf : ∀ k, G k → F k ∨ a.heap.size ≤ k) : Keep F a c :=
  ⟨k.os.trans h.os, k.tape.trans h.tape, k.output.trans h.output, Nat.le_trans h.size k.size, fun i hi hn => (k.block i (Nat.lt_of_lt_of_le hi h.size) fun hg => by
    rcases hf i hg with h1 | h1
    · exact hn h1
    · omega).trans (h.block i hi hn)⟩
theorem Keep.of_below (h : Below w.heap.size w w') : Keep F w w' := ⟨h.os, h.tape, h.output, h.size, fun i hi _ => h.block i hi⟩
theorem Keep.below (h : Keep F w w') (hF : ∀ k, F k → B ≤ k) (hs : B ≤ w.heap.size) : Below B w w' :=
  ⟨h.os, h.tape, h.output, h.size, fun i hi => h.block i (by omega) fun hf => by have := hF i hf; omega⟩
theorem Keep.grown {row : Option Nat} (h : w.grownBy w' row) (hr : ∀ k, row = some k → F k) : Keep F w w' :=
  ⟨h.os, h.tape, h.output, h.size, fun i hi hn => h.block i hi fun he => hn (hr i he.symm)⟩
theorem Keep.only (h : Only g w w') (hg : F g) : Keep F w w' := Keep.grown h.1 fun k hk => by injection hk with hk; exact hk ▸ hg
theorem Keep.drewN (h : Keep F w w') (n : Nat) : Keep F w (w'.drewN n) := ⟨h.os, h.tape, h.output, h.size, h.block⟩
theorem Keep.drew (h : Keep F w w') : Keep F w w'.drew := ⟨h.os, h.tape, h.output, h.size, h.block⟩
theorem Keep.set (w : World) (i : Nat) (v : Value) (hg : F g) : Keep F w (w.setCell ⟨g, i, none⟩ v) := Keep.only (Only.set w g i v) hg
theorem Keep.mono (h : Keep F w w') (hf : ∀ k, k < w.heap.size → F k → G k) : Keep G w w' := ⟨h.os, h.tape, h.output, h.size, fun i hi hn => h.block i hi fun hF => hn (hf i hi hF)⟩
theorem Keep.blk {t : TypeId} {xs : List Value} (h : Keep F w w') (hB : Blk w g t xs) (hg : ¬ F g) : Blk w' g t xs := (h.block g hB.lt hg).trans hB
theorem Keep.rd {A : Option Addr} {n c : Nat} {xs : List Value} (h : Keep F w w') (hR : Rd w A n c xs) (hA : 0 < n → ∀ b o, A = some ⟨b, o, none⟩ → ¬ F b) : Rd w' A n c xs :=
  ⟨hR.1, hR.2.1, hR.2.2.1, fun hp => by
    obtain ⟨b, o, he, hb, hj⟩ := hR.2.2.2 hp
    refine ⟨b, o, he, Nat.lt_of_lt_of_le hb h.size, fun j u hu => ?_⟩
    exact (World.cell?_of_block (h.block b hb (hA hp b o he))).trans (hj j u hu)⟩
theorem Keep.own {base : Nat} {e : TypeId} {size n : Nat} {v : Value} {xs : List Value} (h : Keep F w w') (ho : w.ownsRow base e size v n xs) (hv : ∀ k, v.ownBlock = some k → ¬ F k) : w'.ownsRow base e size v n xs := by
  refine ⟨ho.1, ?_⟩
  rcases ho.2 with hn | ⟨g, cap, cur, rfl, hb, hgg, rest⟩
  · exact .inl hn
  · exact .inr ⟨g, cap, cur, rfl, hb, (h.block g (lt_some hgg) (hv g rfl)).trans hgg, rest⟩
end

/-! ### clear -/

theorem rep_one {zs : List Value} (h1 : ∀ u ∈ zs, u.oneCell' = true) (n : Nat) : ∀ u ∈ (Builtin.zeroCells zs.toArray n).toList, u.oneCell' = true := by
  intro u hu
  simp only [Builtin.zeroCells, List.mem_map, Array.toList_map, Array.toList_range] at hu
  obtain ⟨i, hi, rfl⟩ := hu
  simp only [List.size_toArray] at hi
  have hz : 0 < zs.length := by
    rcases Nat.eq_zero_or_pos zs.length with h | h
    · rw [h] at hi; simp at hi
    · exact h
  have hm := Nat.mod_lt i hz
  refine h1 _ ?_
  simp [hm]

section
variable {P : Program} {ops : Array Oper} {rest : List Oper} {o : Oper} {a : Act} {w : World} {Q : Exit → Act → World → Prop}
theorem run_clear_own (w : World) (t e ty : TypeId) (z : Value) {zs : List Value} (ht : P.underlying t = some (.slice e)) (hv : ∀ w, (zeroValue e).run P w = .ok z w) (hz : z.cells = zs.toArray) (h1 : ∀ u ∈ zs, u.oneCell' = true)
    {base n c : Nat} {A : Option Addr} {xs : List Value} (ho : w.ownsRow base e zs.length (.slice A n c) n xs) :
    ∃ w' ys, (Builtin.clear_ #[t] ty #[.slice A n c]).run P w = .ok (.tuple #[]) w' ∧ w'.ownsRow base e zs.length (.slice A n c) n ys ∧ w.grownBy w' (Value.slice A n c).ownBlock ∧ w'.heap.size = w.heap.size := by
  rcases ho.2 with ⟨hv0, h0⟩ | ⟨g, cap', cur, hv0, hb, hh, hnc, hcm, hcs, hx⟩
  · simp only [Value.slice.injEq] at hv0
    obtain ⟨rfl, rfl, rfl⟩ := hv0
    exact ⟨w, xs, by simp [Builtin.clear_, run_underlying ht], ho, World.grownBy.refl w _, rfl⟩
  · simp only [Value.slice.injEq] at hv0
    obtain ⟨rfl, _, rfl⟩ := hv0
    rcases Nat.eq_zero_or_pos n with h0 | h0
    · subst h0
      exact ⟨w, xs, by simp [Builtin.clear_, run_underlying ht], ho, World.grownBy.refl w _, rfl⟩
    · have hzl : (Builtin.zeroCells zs.toArray n).toList.length = n * zs.length := by simp [Builtin.zeroCells]
      have hle : n * zs.length ≤ c * zs.length := Nat.mul_le_mul_right _ hnc
      have hst := run_storeCells_at P g 0 e (Builtin.zeroCells zs.toArray n).toList 0 cur w hh (by rw [hzl]; omega) (rep_one h1 n)
      obtain ⟨ZC, hZC⟩ : ∃ ZC, ZC = (Builtin.zeroCells zs.toArray n).toList := ⟨_, rfl⟩
      rw [← hZC] at hst hzl
      simp only [Nat.zero_add, List.take_zero, List.nil_append] at hst
      refine ⟨w.setRow g (ZC ++ cur.toList.drop ZC.length).toArray, ZC, ?_, ⟨hzl, .inr ⟨g, c, _, rfl, hb, setRow_heap w g _ _ e _ hh, hnc, hcm, ?_, ?_⟩⟩, (Only.row w g _).1, (Only.row w g _).2⟩
      · obtain ⟨m, rfl⟩ : ∃ m, n = m + 1 := ⟨n - 1, by omega⟩
        simp [Builtin.clear_, run_underlying ht, hv, hz, ← hZC, hst]
      · simp [hzl, hcs]; omega
      · rw [← hzl]; simp
theorem wpList_clear_own (hgd : o.guard = none) (x : Operand) (t e : TypeId) (ho : o.op = .call { callee := .builtin .clear, args := #[x], argTypes := #[t] }) (z : Value) {zs : List Value} (ht : P.underlying t = some (.slice e)) (hv : ∀ w, (zeroValue e).run P w = .ok z w) (hz : z.cells = zs.toArray) (h1 : ∀ u ∈ zs, u.oneCell' = true)
    {base n c : Nat} {A : Option Addr} {xs : List Value} (hx : a.eval x = .slice A n c) {size : Nat} (hs : size = zs.length) (hown : w.ownsRow base e size (.slice A n c) n xs)
    (h : ∀ w' ys, Hid (w'.ownsRow base e size (.slice A n c) n ys) → w.grownBy w' (Value.slice A n c).ownBlock → Hid (w'.heap.size = w.heap.size) → wpList P ops Q rest (a.put o.dst (.tuple #[])) w') : wpList P ops Q (o :: rest) a w := by
  subst hs
  refine wpList_plain hgd fun K hK => ?_
  obtain ⟨w', ys, hrun, h2, h3, h4⟩ := run_clear_own (P := P) w t e o.type z ht hv hz h1 hown
  unfold Oper.wp execOp
  simp only [ho, resolve, invoke, builtin, Sem.run_bind, Sem.run_pure, Result.andThen_ok, List.map_toArray, List.map_cons, List.map_nil, hx, hrun]
  exact hK _ _ (h w' ys h2 h3 h4)
/-- An append of elements of several cells each: where the new block lies, too. -/
theorem wp_append_at {K : Act → World → Prop} (s x : Operand) (t : TypeId)
    (ho : o.op = .call { callee := .builtin .append, args := #[s, x], argTypes := #[t, t] })
    (base : Nat) (e : TypeId) (i : TypeInfo) (z : Value) (size bytes : Nat) (ht : P.underlying t = some (.slice e)) (hi : P.info? e = some i) (hz : i.zero = some z)
    (hsize : i.size = size) (hby : i.bytes = bytes) (hzs : z.cells.size = size) (hsz : 0 < size)
    (v : Value) (n : Nat) (xs : List Value) (hs : a.eval s = v) (hown : w.ownsRow base e size v n xs)
    (ad : Addr) (m c : Nat) (news : List Value) (hx : a.eval x = .slice (some ad) m c) (hl : news.length = m * size) (hnews : ∀ j u, news[j]? = some u → w.cell? (ad.add j) = some u) (h1 : ∀ u ∈ news, u.oneCell' = true)
    (h63 : n + m ≤ maxLen) (hbytes : (n + m) * bytes ≤ 140737488355328) (hbase : base ≤ w.heap.size)
    (h : ∀ A' n' c' w', Hid (n' = n + m) → Hid (w'.ownsRow base e size (.slice A' n' c') n' (xs ++ news)) → w.grownBy w' v.ownBlock → Hid ((Value.slice A' n' c').ownBlock = v.ownBlock ∨ (Value.slice A' n' c').ownBlock = some w.heap.size) → K (a.put o.dst (.slice A' n' c')) w') : o.wp P a w K Q := by
  obtain ⟨v', w', hrun, h2, h3, _, h5⟩ := run_append_own_at (P := P) (w := w) base t o.type e i z size bytes ht hi hz hsize hby hzs hsz v n xs hown ad m c news hl hnews h1 h63 hbytes hbase
  unfold Oper.wp execOp
  simp only [ho, resolve, invoke, builtin, Sem.run_bind, Sem.run_pure, Result.andThen_ok, List.map_toArray, List.map_cons, List.map_nil, hs, hx, hrun]
  have h6 := h2
  rcases h6.2 with ⟨rfl, h0⟩ | ⟨g, cap, cur, rfl, _⟩
  · exact h none 0 0 w' h0.symm (by rw [h0] at h2; exact h2) h3 h5
  · exact h _ _ _ w' rfl h2 h3 h5
end
end Go.Proofs.Ytgoogcjkokpicaa.Mem
