/- General laws on slices of one-cell elements over any program: a make with room to spare, an append from any source, what a row of the call's own reads as. No conditions but those each law names. Slices of bytes, and of slices of bytes, as lists of numbers; how what came in reads. Over any program; no conditions but those each law names. Blocks that are known whole: a load of a block or of a part of it, a store of many cells, a copy, a clear; what keeps all but some blocks. Over any program; no conditions but those each law names. A program image in plain terms, and as it lies in memory; an image that came in; its own box. No conditions but those each law names. Instructions in plain terms, and a slice of them in memory. No conditions but those each law names. Sets of blocks, in plain terms, and by the reference. No conditions but those each law names. A machine in plain terms: its state as the document has it (Z), as the program has it (V); what an instruction does, and a tick. No conditions but those each law names. What is missing of a set, by the reference. No conditions. What an instruction works on, in memory; the program's small functions on it: need, take, lay, layTruth. Conditions: it lies as the facts say. The program's take, lay and layTruth. Conditions: what is worked on lies as the facts say; numbers are below 2^62. The program's deeds without a channel. Conditions: what is worked on lies as the facts say. Sets of blocks in plain terms: with a block. No conditions; nothing of the program. Sets of blocks in plain terms: with many blocks, the whole set, sets that are alike. No conditions; nothing of the program. The runs of a set, in plain terms. No conditions but those each law names; nothing of the program. Bits of numbers as the program reckons them, and the program's small functions on sets. Conditions: numbers are 64-bit ones. -/
import Derived.Test.YtegnehdfedfphaaChecked
import Derived.WalkKit
import Derived.WalkSpells
import Derived.WalkLawsBesides
import Derived.WalkSmall
import Derived.OpenShut
import Derived.Deep.QuietTactic
import Derived.BigQuiet
import Derived.Maps.AppendAt
import Derived.Laws.CopyOwn
import Derived.Deep.AppendLies
import Derived.Deep.DeepCutAuto
import Derived.Lib.SlBytesConst
import Derived.Lib.Hide
import Derived.Deep.Matrix
import Derived.Deep.MidRow
import Derived.Laws.CopyRow
import Derived.Deep.Slices
import Derived.Deep.Fields
import Derived.Deep.Strs
import Derived.WideShapes
import Derived.Laws.StructEq
namespace Go.Proofs.Ytegnehdfedfphaa.Kit
open Go.RowKit

theorem ret_int {k : IntKind} {a b : Int} (h : a = b) : Ending.returned (.int k a) = .returned (.int k b) := by rw [h]
theorem ret_bool {a b : Bool} (h : a = b) : Ending.returned (.bool a) = .returned (.bool b) := by rw [h]

/-! ### what reads as a list -/

/-- The slice at A, n long, of c places, holds these cells, one each; all lie in blocks that are there. -/
def Rd (w : World) (A : Option Addr) (n c : Nat) (xs : List Value) : Prop :=
  xs.length = n ∧ n ≤ c ∧ c ≤ 9223372036854775807 ∧ (0 < n → ∃ b o, A = some ⟨b, o, none⟩ ∧ b < w.heap.size ∧ ∀ j u, xs[j]? = some u → w.cell? ⟨b, o + j, none⟩ = some u)

section
variable {w w' : World} {A : Option Addr} {n c : Nat} {xs : List Value}
theorem Rd.len (h : Rd w A n c xs) : xs.length = n := h.1
theorem Rd.le (h : Rd w A n c xs) : n ≤ c := h.2.1
theorem Rd.cap (h : Rd w A n c xs) : c ≤ 9223372036854775807 := h.2.2.1
theorem Rd.same (h : Rd w A n c xs) (hs : w.heap.size ≤ w'.heap.size) (hc : ∀ p : Addr, p.block < w.heap.size → w'.cell? p = w.cell? p) : Rd w' A n c xs :=
  ⟨h.1, h.2.1, h.2.2.1, fun hp => by
    obtain ⟨b, o, hA, hb, hj⟩ := h.2.2.2 hp
    exact ⟨b, o, hA, by omega, fun j u hu => (hc ⟨b, o + j, none⟩ hb).trans (hj j u hu)⟩⟩
theorem Rd.below (h : Rd w A n c xs) (hb : Below w.heap.size w w') : Rd w' A n c xs := h.same hb.size fun _ hp => hb.cell hp
theorem Rd.alloc (h : Rd w A n c xs) (o : Obj) : Rd (w.alloc o) A n c xs := h.below ((Below.refl _ _).alloc (Nat.le_refl _) o)
theorem Rd.drewN (h : Rd w A n c xs) (k : Nat) : Rd (w.drewN k) A n c xs := h
theorem Rd.nil (w : World) : Rd w none 0 0 [] := ⟨by simp, by omega, by omega, fun h => absurd h (by simp)⟩
theorem Rd.empty (w : World) (A : Option Addr) {c : Nat} (hc : c ≤ 9223372036854775807) : Rd w A 0 c [] := ⟨by simp, by omega, hc, fun h => absurd h (by simp)⟩
theorem Rd.at_ (h : Rd w A n c xs) {k : Nat} (hk : k < n) : ∃ b o, A = some ⟨b, o, none⟩ ∧ w.cell? ⟨b, o + k, none⟩ = some (xs[k]'(by rw [h.1]; exact hk)) := by
  obtain ⟨b, o, hA, _, hj⟩ := h.2.2.2 (by omega)
  exact ⟨b, o, hA, hj k _ (List.getElem?_eq_getElem (by rw [h.1]; exact hk))⟩
theorem Rd.grown {row : Option Nat} (h : Rd w A n c xs) (hg : w.grownBy w' row) (hr : ∀ g, row = some g → ∀ b o, A = some ⟨b, o, none⟩ → b ≠ g) : Rd w' A n c xs :=
  ⟨h.1, h.2.1, h.2.2.1, fun hp => by
    obtain ⟨b, o, hA, hb, hj⟩ := h.2.2.2 hp
    refine ⟨b, o, hA, by have := hg.size; omega, fun j u hu => ?_⟩
    refine (World.cell?_of_block (hg.block b hb ?_)).trans (hj j u hu)
    intro he
    exact hr b he.symm b o hA rfl⟩
theorem Rd.own {base : Nat} {e : TypeId} (h : w.ownsRow base e 1 (.slice A n c) n xs) : Rd w A n c xs := by
  have hl : xs.length = n := by simpa using h.1
  rcases h.2 with ⟨hv, h0⟩ | ⟨g, cap', cur, hv, _, hh, hnc, hcm, _, _⟩
  · simp only [Value.slice.injEq] at hv
    obtain ⟨rfl, rfl, rfl⟩ := hv
    exact ⟨by omega, by omega, by omega, fun h => by omega⟩
  · simp only [Value.slice.injEq] at hv
    obtain ⟨rfl, _, rfl⟩ := hv
    unfold maxLen at hcm
    refine ⟨hl, by omega, by omega, fun _ => ⟨g, 0, rfl, lt_of_block hh, fun j u hu => ?_⟩⟩
    have := h.cells (g := g) rfl j u hu
    simpa [Addr.add_lit] using this
theorem Rd.take (h : Rd w A n c xs) {k : Nat} (hk : k ≤ n) : Rd w A k c (xs.take k) :=
  ⟨by have := h.1; simp; omega, by have := h.2.1; omega, h.2.2.1, fun hp => by
    obtain ⟨b, o, hA, hb, hj⟩ := h.2.2.2 (by omega)
    exact ⟨b, o, hA, hb, fun j u hu => hj j u (by
      rw [List.getElem?_take] at hu
      split at hu
      · exact hu
      · cases hu)⟩⟩
theorem Rd.src (h : Rd w A n c xs) (hb : Below w.heap.size w w') (h0 : 0 < xs.length) : ∃ ad, A = some ad ∧ ∀ j v, xs[j]? = some v → w'.cell? (ad.add j) = some v := by
  obtain ⟨b, o, hA, _, hj⟩ := (h.below hb).2.2.2 (by have := h.1; omega)
  exact ⟨_, hA, fun j v hv => by rw [Addr.add_lit]; exact hj j v hv⟩
end

/-! ### make with room -/

section
variable {P : Program} {ops : Array Oper} {rest : List Oper} {o : Oper} {a : Act} {Q : Exit → Act → World → Prop}

/-- 'make([]T, m, n)' of one-cell elements: a new block of n zeros, of which m are the slice's. -/
theorem wpList_make_room (w : World) (hg : o.guard = none) (l c : Operand) (t : TypeId) (hop : o.op = Op.makeSlice t l c)
    (e : TypeId) (i : TypeInfo) (z : Value) (bytes : Nat) (h1 : P.underlying t = some (.slice e)) (h2 : P.info? e = some i) (h3 : i.zero = some z) (h4 : i.size = 1) (h5 : i.bytes = bytes) (hz : z.cells = #[z])
    (kl kc : IntKind) (L C : Int) (m n : Nat) (hl : a.eval l = .int kl L) (hc : a.eval c = .int kc C) (hL : L = (m : Int)) (hC : C = (n : Int)) (hmn : m ≤ n) (b2 : bytes * n ≤ 281474976710656) (b3 : n ≤ 9223372036854775807)
    (hK : ∀ w', Hid (w'.heap[w.heap.size]? = some (.cells (List.replicate n z).toArray e (0, 0))) → Below w.heap.size w w' → w'.heap.size = w.heap.size + 1 →
      wpList P ops Q rest (a.put o.dst (.slice (some ⟨w.heap.size, 0, none⟩) m n)) w') :
    wpList P ops Q (o :: rest) a w := by
  refine wpList_plain hg fun K hK' => ?_
  subst hL hC h5
  have hb' : (i.bytes : Int) * (n : Int) ≤ 281474976710656 := by
    have h : ((i.bytes * n : Nat) : Int) ≤ 281474976710656 := by omega
    rwa [Int.natCast_mul] at h
  have hrun := run_make (P := P) w t e i z h1 h2 h3 kl kc m n (by omega) (by omega) hb' (by omega)
  simp only [Int.toNat_natCast, h4, Nat.mul_one, hz] at hrun
  have hm : madeCells #[z] n = (List.replicate n z).toArray := by
    apply Array.ext'
    rw [toList_madeCells_one]
  rw [hm] at hrun
  unfold Oper.wp
  simp [execOp, hop, hl, hc, hrun, Result.andThen]
  refine hK' _ _ (hK _ ?_ ((Below.refl _ _).alloc (Nat.le_refl _) _) (by simp))
  exact heap_alloc_new w _

/-- A block that is known whole is a row of the call's own. -/
theorem own_of_block {w : World} {g : Nat} {cur : List Value} {e : TypeId} (h : w.heap[g]? = some (.cells cur.toArray e (0, 0))) {base n : Nat} (hb : base ≤ g) (hn : n ≤ cur.length) (hm : cur.length ≤ 9223372036854775807) :
    w.ownsRow base e 1 (.slice (some ⟨g, 0, none⟩) n cur.length) n (cur.take n) :=
  ⟨by simp; omega, .inr ⟨g, cur.length, cur.toArray, rfl, hb, h, hn, by unfold maxLen; omega, by simp, by simp⟩⟩

/-! ### append from any source -/

theorem run_add (w : World) (base : Nat) (t ty e : TypeId) (i : TypeInfo) (z : Value) (bytes : Nat) (ht : P.underlying t = some (.slice e)) (hi : P.info? e = some i) (hz : i.zero = some z)
    (hsize : i.size = 1) (hby : i.bytes = bytes) (hzs : z.cells = #[z])
    (v : Value) (n : Nat) (xs : List Value) (hown : w.ownsRow base e 1 v n xs)
    (A : Option Addr) (m c : Nat) (news : List Value) (hr : Rd w A m c news) (h1 : ∀ u ∈ news, u.oneCell' = true)
    (h63 : n + m ≤ 9223372036854775807) (hbytes : (n + m) * bytes ≤ 140737488355328) (hbase : base ≤ w.heap.size) :
    ∃ v' w', (Builtin.append_ #[t, t] ty #[v, .slice A m c]).run P w = .ok v' w' ∧ w'.ownsRow base e 1 v' (n + m) (xs ++ news) ∧ w.grownBy w' v.ownBlock ∧
      (v'.ownBlock = v.ownBlock ∨ v'.ownBlock = some w.heap.size) := by
  rcases A with _ | ad
  · have h0 : m = 0 := by
      rcases Nat.eq_zero_or_pos m with h | h
      · exact h
      · obtain ⟨b, o, hA, _⟩ := hr.2.2.2 h
        cases hA
    subst h0
    have h0 : news = [] := List.eq_nil_of_length_eq_zero hr.1
    subst h0
    have hrun : (Builtin.append_ #[t, t] ty #[v, .slice none 0 c]).run P w = .ok v w := by
      rcases hown.2 with ⟨rfl, _⟩ | ⟨g, cap, cur, rfl, _, _, hnc, _⟩
      · simp [Builtin.append_, run_underlying ht, sizeOf, typeInfo, hi, Builtin.lenOf, Builtin.firstCells]
      · simp [Builtin.append_, run_underlying ht, sizeOf, typeInfo, hi, Builtin.lenOf, Builtin.firstCells, hnc, storeCells]
    exact ⟨v, w, hrun, by simpa using hown, World.grownBy.refl w _, .inl rfl⟩
  · have hcells : ∀ j u, news[j]? = some u → w.cell? (ad.add j) = some u := by
      intro j u hu
      have hp : 0 < news.length := by have := (List.getElem?_eq_some_iff.1 hu).1; omega
      obtain ⟨b, o, hA, _, hc⟩ := hr.2.2.2 (by have := hr.1; omega)
      injection hA with hA
      subst hA
      rw [Addr.add_lit]
      exact hc j u hu
    obtain ⟨v', w', hrun, h2, h3, _, h5⟩ := run_append_own_at (P := P) w base t ty e i z 1 bytes ht hi hz hsize hby (by rw [hzs]; rfl) (by omega) v n xs hown ad m c news (by rw [hr.1]; simp) hcells h1 (by unfold maxLen; omega) hbytes hbase
    exact ⟨v', w', hrun, h2, h3, h5⟩

theorem wp_add {K : Act → World → Prop} (w : World) (s x : Operand) (t : TypeId)
    (ho : o.op = .call { callee := .builtin .append, args := #[s, x], argTypes := #[t, t] })
    (base : Nat) (e : TypeId) (i : TypeInfo) (z : Value) (bytes : Nat) (ht : P.underlying t = some (.slice e)) (hi : P.info? e = some i) (hz : i.zero = some z)
    (hsize : i.size = 1) (hby : i.bytes = bytes) (hzs : z.cells = #[z])
    (v : Value) (n : Nat) (xs : List Value) (hs : a.eval s = v) (hown : w.ownsRow base e 1 v n xs)
    (A : Option Addr) (m c : Nat) (news : List Value) (hx : a.eval x = .slice A m c) (hr : Rd w A m c news) (h1 : ∀ u ∈ news, u.oneCell' = true)
    (h63 : n + m ≤ 9223372036854775807) (hbytes : (n + m) * bytes ≤ 140737488355328) (hbase : base ≤ w.heap.size)
    (h : ∀ v' w', w'.ownsRow base e 1 v' (n + m) (xs ++ news) → w.grownBy w' v.ownBlock → (v'.ownBlock = v.ownBlock ∨ v'.ownBlock = some w.heap.size) → K (a.put o.dst v') w') : o.wp P a w K Q := by
  obtain ⟨v', w', hrun, h2, h3, h4⟩ := run_add (P := P) w base t o.type e i z bytes ht hi hz hsize hby hzs v n xs hown A m c news hr h1 h63 hbytes hbase
  unfold Oper.wp execOp
  simp only [ho, resolve, invoke, builtin, Sem.run_bind, Sem.run_pure, Result.andThen_ok, List.map_toArray, List.map_cons, List.map_nil, hs, hx, hrun]
  exact h v' w' h2 h3 h4

theorem wpList_add (w : World) (hgd : o.guard = none) (s x : Operand) (t : TypeId)
    (ho : o.op = .call { callee := .builtin .append, args := #[s, x], argTypes := #[t, t] })
    (base : Nat) (e : TypeId) (i : TypeInfo) (z : Value) (bytes : Nat) (ht : P.underlying t = some (.slice e)) (hi : P.info? e = some i) (hz : i.zero = some z)
    (hsize : i.size = 1) (hby : i.bytes = bytes) (hzs : z.cells = #[z])
    (v : Value) (n : Nat) (xs : List Value) (hs : a.eval s = v) (hown : w.ownsRow base e 1 v n xs)
    (A : Option Addr) (m c : Nat) (news : List Value) (hx : a.eval x = .slice A m c) (hr : Rd w A m c news) (h1 : ∀ u ∈ news, u.oneCell' = true)
    (h63 : n + m ≤ 9223372036854775807) (hbytes : (n + m) * bytes ≤ 140737488355328) (hbase : base ≤ w.heap.size)
    (h : ∀ A' n' c' w', Hid (n' = n + m) → w'.ownsRow base e 1 (.slice A' n' c') n' (xs ++ news) → w.grownBy w' v.ownBlock → ((Value.slice A' n' c').ownBlock = v.ownBlock ∨ (Value.slice A' n' c').ownBlock = some w.heap.size) → wpList P ops Q rest (a.put o.dst (.slice A' n' c')) w') : wpList P ops Q (o :: rest) a w :=
  wpList_plain hgd fun _ hK => wp_add w s x t ho base e i z bytes ht hi hz hsize hby hzs v n xs hs hown A m c news hx hr h1 h63 hbytes hbase fun v' w' h2 h3 h4 => by
    have h5 := h2
    rcases h5.2 with ⟨rfl, h0⟩ | ⟨g, cap, cur, rfl, _⟩
    · exact hK _ _ (h none 0 0 w' h0.symm (by rw [h0] at h2; exact h2) h3 h4)
    · exact hK _ _ (h _ _ _ w' rfl h2 h3 h4)
end

/-- What an append leaves below the base. -/
theorem below_add {w0 w w' : World} {v : Value} {base : Nat} {e : TypeId} {n : Nat} {xs : List Value} (hb : Below w0.heap.size w0 w) (hown : w.ownsRow base e 1 v n xs) (hbase : w0.heap.size ≤ base) (hg : w.grownBy w' v.ownBlock) : Below w0.heap.size w0 w' :=
  hb.grown hg hb.size fun k hk => by have := hown.lt k hk; omega

theorem u8_one (zs : List Int) : ∀ u ∈ zs.map (Value.int .u8), u.oneCell' = true := ints_oneCell _ _
theorem toList_replicate (n : Nat) (z : Int) : List.replicate n (Value.int .u8 z) = (List.replicate n z).map (Value.int .u8) := by simp
theorem own_below {w w' : World} {v : Value} {base : Nat} {e : TypeId} {n : Nat} {xs : List Value} (h : w.ownsRow base e 1 v n xs) (hb : Below w.heap.size w w') : w'.ownsRow base e 1 v n xs :=
  h.kept (row := none) ⟨hb.os, hb.tape, hb.output, hb.size, fun k hk _ => hb.block k hk⟩ (by
    rcases hv : v.ownBlock with _ | g
    · exact .inl rfl
    · exact .inr (by simp))
/-- An empty slice that was just written out owns nothing. -/
theorem emptied (w : World) (e : TypeId) : (w.alloc (.cells #[] e)).ownsRow w.heap.size e 1 (.slice (some ⟨w.heap.size, 0, none⟩) 0 0) 0 [] := by
  have h := own_of_block (w := w.alloc (.cells #[] e)) (g := w.heap.size) (cur := []) (e := e) (base := w.heap.size) (n := 0) (heap_alloc_new w _) (Nat.le_refl _) (by simp) (by simp)
  simpa using h
theorem size_alloc (w : World) (o : Obj) : w.heap.size ≤ (w.alloc o).heap.size := ((Below.refl w.heap.size w).alloc (Nat.le_refl _) o).size
theorem i64_bd {a : Int} (h : (Lit.int .i64 a).wf = true) : -9223372036854775808 ≤ a ∧ a ≤ 9223372036854775807 :=
  bounds_i64 h
theorem new_one (w : World) (v : Value) (t : TypeId) : ∀ j u, [v][j]? = some u → (w.alloc (.cells #[v] t)).cell? ((⟨w.heap.size, 0, none⟩ : Addr).add j) = some u := by
  intro j u hj
  match j, hj with
  | 0, hj =>
    simp at hj
    subst hj
    rw [Addr.add_lit, cell_of_row _ _ _ _ _ _ (heap_alloc_new w _)]
    rfl
/-- A slice of integers that came in: nil, or a row of cells of which the first are its elements. -/
def Row (k : IntKind) (w : World) (a : Option Addr) (len cap : Nat) (zs : List Int) : Prop :=
  (a = none ∧ len = 0 ∧ cap = 0 ∧ zs = []) ∨
  ∃ x, a = some x ∧ len ≤ cap ∧ cap ≤ maxLen ∧ zs.length = cap ∧ (∀ i, i < zs.length → w.cell? (x.add i) = some (.int k (zs.getD i 0))) ∧ ∀ n ∈ zs, (Lit.int k n).wf = true

theorem Row.rd {k : IntKind} {w : World} {a : Option Addr} {len cap : Nat} {zs : List Int} (h : Row k w a len cap zs) :
    ∃ xs : List Int, Rd w a len cap (xs.map (Value.int k)) ∧ ∀ n ∈ xs, (Lit.int k n).wf = true := by
  rcases h with ⟨rfl, rfl, rfl, rfl⟩ | ⟨x, rfl, hl, hm, hz, hc, hw⟩
  · exact ⟨[], Rd.nil w, by simp⟩
  · unfold maxLen at hm
    refine ⟨zs.take len, ⟨by simp; omega, hl, by omega, fun hp => ?_⟩, fun n hn => hw n (List.mem_of_mem_take hn)⟩
    obtain ⟨b, off, spot⟩ := x
    have hc0 := hc 0 (by omega)
    have hspot : spot = none := by simpa [Addr.add] using World.cell?_spot hc0
    subst hspot
    refine ⟨b, off, rfl, ?_, fun j u hu => ?_⟩
    · have := block_lt_of_cell hc0
      simpa [Addr.add] using this
    · have hj : j < len := by
        have := (List.getElem?_eq_some_iff.1 hu).1
        simp at this
        omega
      have := hc j (by omega)
      rw [Addr.add_lit] at this
      rw [this]
      simp only [List.getElem?_map, List.getElem?_take, hj, if_pos] at hu
      rw [List.getElem?_eq_getElem (by omega)] at hu
      simp only [Option.map_some, Option.some.injEq] at hu
      rw [← hu, List.getD_eq_getElem?_getD, List.getElem?_eq_getElem (by omega)]
      rfl

end Go.Proofs.Ytegnehdfedfphaa.Kit
namespace Go.Proofs.Ytegnehdfedfphaa.Byt
open Go.RowKit Go.Proofs.Ytegnehdfedfphaa.Kit

/-- Bytes as cells. -/
def u8n (xs : List Nat) : List Value := xs.map fun n : Nat => Value.int .u8 (n : Int)
theorem u8n_one (xs : List Nat) : ∀ u ∈ u8n xs, u.oneCell' = true := by
  intro u hu
  simp only [u8n, List.mem_map] at hu
  obtain ⟨n, _, rfl⟩ := hu
  rfl
theorem u8n_len (xs : List Nat) : (u8n xs).length = xs.length := List.length_map ..
theorem u8n_app (xs ys : List Nat) : u8n xs ++ u8n ys = u8n (xs ++ ys) := by simp [u8n]
theorem Rd.nats {w : World} {A : Option Addr} {n c : Nat} {xs : List Nat} (h : Rd w A n c (u8n xs)) : xs.length = n := by have := h.len; rwa [u8n_len] at this
theorem Rd.nat {w : World} {A : Option Addr} {n c : Nat} {xs : List Nat} (h : Rd w A n c (u8n xs)) {k : Nat} (hk : k < xs.length) : ∃ b o, A = some ⟨b, o, none⟩ ∧ w.cell? ⟨b, o + k, none⟩ = some (.int .u8 (xs[k] : Nat)) := by
  obtain ⟨b, o, hA, hc⟩ := Rd.at_ h (k := k) (by have := Rd.nats h; omega)
  exact ⟨b, o, hA, by simpa [u8n] using hc⟩
/-- Bytes that came in, as numbers. -/
theorem Row.nats {w : World} {a : Option Addr} {len cap : Nat} {zs : List Int} (h : Row .u8 w a len cap zs) :
    ∃ xs : List Nat, Rd w a len cap (u8n xs) ∧ ∀ n ∈ xs, n < 256 := by
  obtain ⟨xs, hx, hw⟩ := Row.rd h
  have hb : ∀ n ∈ xs, 0 ≤ n ∧ n ≤ 255 := fun n hn => bounds_u8 (hw n hn)
  refine ⟨xs.map Int.toNat, ?_, ?_⟩
  · have : u8n (xs.map Int.toNat) = xs.map (Value.int .u8) := by
      simp only [u8n, List.map_map]
      apply List.map_congr_left
      intro n hn
      have := (hb n hn).1
      simp [Int.toNat_of_nonneg this]
    rw [this]
    exact hx
  · intro n hn
    simp only [List.mem_map] at hn
    obtain ⟨m, hm, rfl⟩ := hn
    have := hb m hm
    omega
theorem take_snoc {xs : List Nat} {k : Nat} (h : k < xs.length) : xs.take (k + 1) = xs.take k ++ [xs[k]] := List.take_succ_eq_append_getElem h

/-! ### slices of slices of bytes -/

structure Sl where
  A : Option Addr
  n : Nat
  c : Nat
  xs : List Nat
def Sl.val (s : Sl) : Value := .slice s.A s.n s.c
def Sl.ok (w : World) (s : Sl) : Prop := Rd w s.A s.n s.c (u8n s.xs) ∧ ∀ c ∈ s.xs, c < 256
/-- The slice at A is these slices of bytes. -/
def Rds (w : World) (A : Option Addr) (n c : Nat) (R : List Sl) : Prop := Rd w A n c (R.map Sl.val) ∧ ∀ s ∈ R, s.ok w
theorem Rds.len {w : World} {A : Option Addr} {n c : Nat} {R : List Sl} (h : Rds w A n c R) : R.length = n := by have := h.1.len; rwa [List.length_map] at this
theorem Sl.ok.below {w w' : World} {s : Sl} (h : s.ok w) (hb : Below w.heap.size w w') : s.ok w' := ⟨h.1.below hb, h.2⟩
theorem Rds.below {w w' : World} {A : Option Addr} {n c : Nat} {R : List Sl} (h : Rds w A n c R) (hb : Below w.heap.size w w') : Rds w' A n c R :=
  ⟨h.1.below hb, fun s hs => (h.2 s hs).below hb⟩
theorem Rds.at_ {w : World} {A : Option Addr} {n c : Nat} {R : List Sl} (h : Rds w A n c R) {k : Nat} (hk : k < R.length) : ∃ b o, A = some ⟨b, o, none⟩ ∧ w.cell? ⟨b, o + k, none⟩ = some (.slice R[k].A R[k].n R[k].c) := by
  obtain ⟨b, o, hA, hc⟩ := Rd.at_ h.1 (k := k) (by have := Rds.len h; omega)
  exact ⟨b, o, hA, by simpa [Sl.val] using hc⟩
def cat (R : List Sl) : List Nat := R.flatMap Sl.xs
theorem cat_nil : cat [] = [] := rfl
theorem cat_snoc {R : List Sl} {k : Nat} (h : k < R.length) : cat (R.take (k + 1)) = cat (R.take k) ++ R[k].xs := by
  unfold cat
  rw [List.take_succ_eq_append_getElem h, List.flatMap_append]
  simp
theorem cat_lt {w : World} {R : List Sl} (h : ∀ s ∈ R, s.ok w) : ∀ c ∈ cat R, c < 256 := by
  intro c hc
  simp only [cat, List.mem_flatMap] at hc
  obtain ⟨s, hs, hx⟩ := hc
  exact (h s hs).2 c hx

/-- A slice of slices of bytes that came in. -/
theorem open_rows {H : Type} {enc : TypeId × Value → H} {P : Program} {w : World} {base : Nat} {t e q : TypeId} {v : Value} {d : DataW H} {p : List MemPlace} (ht : P.underlying t = some (.slice e)) (he : P.underlying e = some (.slice q)) (hq : P.underlying q = some (.int .u8))
    (ce : P.cellsOf e = 1) (cq : P.cellsOf q = 1) (h : DataW.Trod enc P w 0 (fun _ => true) true t v d p) (o : Value.okWide P w .any base t v) :
    ∃ A n c R, v = .slice A n c ∧ Rds w A n c R := by
  obtain ⟨a, n, c, rfl⟩ := Go.WideShapes.okWide_slice ht o
  obtain ⟨fuel, hf⟩ := h
  rcases Go.Deep.open_int_rows ht he hq ce cq hf with ⟨hcs, _⟩ | ⟨x, len, cap, A, L, C, Z, hcs, _, hl, hm, _, hr⟩
  · simp [Value.cells] at hcs
    obtain ⟨rfl, rfl, rfl⟩ := hcs
    exact ⟨none, 0, 0, [], rfl, Rd.nil w, by simp⟩
  · simp [Value.cells] at hcs
    obtain ⟨rfl, rfl, rfl⟩ := hcs
    have each : ∀ r, r < n → ∃ xs : List Nat, Rd w (A r) (L r) (C r) (u8n xs) ∧ ∀ c ∈ xs, c < 256 := by
      intro r hr'
      obtain ⟨hc, h1, h2, h3, h4, h5, h6⟩ := hr r (by omega)
      refine Row.nats (zs := Z r) ?_
      rcases hA : A r with _ | a'
      · have hC := h5 hA
        exact .inl ⟨rfl, by omega, hC, List.eq_nil_of_length_eq_zero (by omega)⟩
      · exact .inr ⟨a', rfl, h1, h2, h3, fun i hi => (h6 a' hA).2 i (by omega), h4⟩
    obtain ⟨f, hf2⟩ := Go.Deep.choose_lt each
    refine ⟨some x, n, c, (List.range n).map fun r => ⟨A r, L r, C r, f r⟩, rfl, ⟨by simp, hl, by unfold maxLen at hm; omega, fun hp => ?_⟩, ?_⟩
    · obtain ⟨b, off, spot⟩ := x
      have hc0 := (hr 0 (by omega)).1
      have hspot : spot = none := by simpa [Addr.add] using World.cell?_spot hc0
      subst hspot
      refine ⟨b, off, rfl, ?_, fun j u hu => ?_⟩
      · have := block_lt_of_cell hc0
        simpa [Addr.add] using this
      · have hj : j < n := by
          have := (List.getElem?_eq_some_iff.1 hu).1
          simpa using this
        have := (hr j (by omega)).1
        rw [Addr.add_lit] at this
        rw [this]
        simp only [List.map_map, List.getElem?_map, List.getElem?_range hj, Option.map_some, Option.some.injEq] at hu
        rw [← hu]
        rfl
    · intro s hs
      simp only [List.mem_map, List.mem_range] at hs
      obtain ⟨r, hr', rfl⟩ := hs
      exact hf2 r hr'

end Go.Proofs.Ytegnehdfedfphaa.Byt
namespace Go.Proofs.Ytegnehdfedfphaa.Mem
open Go.RowKit Go.Proofs.Ytegnehdfedfphaa.Kit Go.Proofs.Ytegnehdfedfphaa.Byt

theorem lt_some {w : World} {G : Nat} {o : Obj} (hg : w.heap[G]? = some o) : G < w.heap.size := by
  rcases Nat.lt_or_ge G w.heap.size with h | h
  · exact h
  · rw [Array.getElem?_eq_none h] at hg; cases hg
theorem alloc_old {w : World} {o o' : Obj} {G : Nat} (h : w.heap[G]? = some o') : (w.alloc o).heap[G]? = some o' := (Below.heap_alloc w o G (lt_some h)).trans h
theorem block_below {w w' : World} {G : Nat} {o : Obj} (hg : w.heap[G]? = some o) (hb : Below w.heap.size w w') : w'.heap[G]? = some o := by
  exact (hb.block G (lt_some hg)).trans hg
theorem setL {w : World} {G : Nat} {t : TypeId} {C : List Value} (hg : w.heap[G]? = some (.cells C.toArray t (0, 0))) (k : Nat) (v : Value) : (w.setCell ⟨G, k, none⟩ v).heap[G]? = some (.cells (C.set k v).toArray t (0, 0)) := by
  rw [heap_setCell_same w G k _ _ _ hg, List.setIfInBounds_toArray]

/-- A block that is known whole. -/
def Blk (w : World) (g : Nat) (t : TypeId) (xs : List Value) : Prop := w.heap[g]? = some (.cells xs.toArray t (0, 0))
section
variable {w w' : World} {g : Nat} {t : TypeId} {xs : List Value}
theorem Blk.cell (h : Blk w g t xs) {i : Nat} {v : Value} (hi : xs[i]? = some v) : w.cell? ⟨g, i, none⟩ = some v := by
  rw [cell_of_row w g i _ _ _ h]
  simpa using hi
theorem Blk.byte {bs : List Nat} (h : Blk w g t (u8n bs)) {i : Nat} (hi : i < bs.length) : w.cell? ⟨g, i, none⟩ = some (.int .u8 (bs.getD i 0 : Nat)) :=
  h.cell (by simp [u8n, hi])
theorem Blk.frozen (h : Blk w g t xs) (i : Nat) : w.frozen? ⟨g, i, none⟩ = false := frozen_of_row w g i _ _ h
theorem Blk.set (h : Blk w g t xs) (i : Nat) (v : Value) : Blk (w.setCell ⟨g, i, none⟩ v) g t (xs.set i v) := setL h i v
theorem Blk.below (h : Blk w g t xs) (hb : Below w.heap.size w w') : Blk w' g t xs := block_below h hb
theorem Blk.lt (h : Blk w g t xs) : g < w.heap.size := lt_some h
theorem Blk.alloc (h : Blk w g t xs) (o : Obj) : Blk (w.alloc o) g t xs := alloc_old h
theorem Blk.far (h : Blk w g t xs) {p : Addr} (hp : g ≠ p.block) (u : Value) : Blk (w.setCell p u) g t xs := (Below.heap_setCell w p u g hp).trans h
theorem Blk.new (w : World) (t : TypeId) (xs : List Value) : Blk (w.alloc (.cells xs.toArray t)) w.heap.size t xs := heap_alloc_new w _
end

/-- All that was there is as it was, but what block g holds. -/
def Only (g : Nat) (w w' : World) : Prop := w.grownBy w' (some g) ∧ w'.heap.size = w.heap.size
theorem Only.below {g B : Nat} {w0 w w' : World} (h : Only g w w') (hb : Below B w0 w) (hg : B ≤ g) (hs : B ≤ w.heap.size) : Below B w0 w' := hb.grown h.1 hs fun k hk => by injection hk with hk; omega
theorem Only.blk {g k : Nat} {w w' : World} {t : TypeId} {xs : List Value} (h : Only g w w') (hB : Blk w k t xs) (hne : k ≠ g) : Blk w' k t xs :=
  (h.1.block k hB.lt (by simpa using hne)).trans hB
theorem Only.refl (g : Nat) (w : World) : Only g w w := ⟨World.grownBy.refl w _, rfl⟩
theorem Only.row (w : World) (g : Nat) (cs : Array Value) : Only g w (w.setRow g cs) :=
  ⟨⟨rfl, rfl, rfl, by simp [World.setRow], fun i _ hne => setRow_other w g i cs (by simpa using hne)⟩, by simp [World.setRow]⟩
theorem Only.drew {g : Nat} {w w' : World} (h : Only g w w') : Only g w w'.drew := ⟨⟨h.1.os, h.1.tape, h.1.output, h.1.size, h.1.block⟩, h.2⟩
theorem Only.of_drew {g : Nat} {w w' : World} (h : Only g w.drew w') : Only g w w' := ⟨⟨h.1.os, h.1.tape, h.1.output, h.1.size, h.1.block⟩, h.2⟩
theorem Only.trans {g : Nat} {a b c : World} (h : Only g a b) (k : Only g b c) : Only g a c :=
  ⟨⟨k.1.os.trans h.1.os, k.1.tape.trans h.1.tape, k.1.output.trans h.1.output, Nat.le_trans h.1.size k.1.size, fun i hi hne => (k.1.block i (by rw [h.2]; exact hi) hne).trans (h.1.block i hi hne)⟩, k.2.trans h.2⟩
theorem Only.set (w : World) (g i : Nat) (v : Value) : Only g w (w.setCell ⟨g, i, none⟩ v) :=
  ⟨⟨rfl, rfl, rfl, by simp [World.setCell], fun k _ hne => Below.heap_setCell w _ v k (by simpa using hne)⟩, by simp [World.setCell]⟩

section
variable {P : Program} {ops : Array Oper} {rest : List Oper} {o : Oper} {a : Act} {w : World} {Q : Exit → Act → World → Prop}
theorem wpList_load_blk (hgd : o.guard = none) (ty : TypeId) (x : Operand) (ho : o.op = .load ty x) (g : Nat) (hx : a.eval x = .pointer (some ⟨g, 0, none⟩))
    {t : TypeId} {xs : List Value} {d : TypeDesc} (hB : Blk w g t xs) (hu : P.underlying ty = some d) (hd : (match d with | .struct _ | .array _ _ => true | _ => false) = true) (hi : (P.info? ty).map (·.size) = some xs.length)
    (h : wpList P ops Q rest (a.put o.dst (.agg xs.toArray)) w) : wpList P ops Q (o :: rest) a w :=
  wpList_load_row hgd ty x ho g hx t xs.toArray (0, 0) d hB hu hd (by simpa using hi) h
/-- What lies in a block from a place on. -/
theorem Blk.range {g off : Nat} {t : TypeId} {xs cs : List Value} (hB : Blk w g t xs) (hc : (xs.drop off).take cs.length = cs) : w.rangeAt g off cs := fun j v hv => by
  refine hB.cell ?_
  have hj := (List.getElem?_eq_some_iff.1 hv).1
  rw [← hv, ← hc, List.getElem?_take, if_pos hj, List.getElem?_drop]
theorem wpList_load_part (hgd : o.guard = none) (ty : TypeId) (x : Operand) (ho : o.op = .load ty x) (g off : Nat) (hx : a.eval x = .pointer (some ⟨g, off, none⟩))
    {t : TypeId} {xs : List Value} (cs : List Value) {d : TypeDesc} (hB : Blk w g t xs) (hc : (xs.drop off).take cs.length = cs) (hu : P.underlying ty = some d) (hd : d.isRow = true) (hi : (P.info? ty).map (·.size) = some cs.length)
    (h : wpList P ops Q rest (a.put o.dst (.agg cs.toArray)) w) : wpList P ops Q (o :: rest) a w :=
  wpList_load_mid hgd ty x ho g off hx cs d (hB.range hc) hu hd hi h
theorem run_store_part (w : World) (ty : TypeId) (g off : Nat) {t : TypeId} {xs : List Value} (cs : List Value) (hB : Blk w g t xs) (hfit : off + cs.length ≤ xs.length) (hi : (P.info? ty).map (·.size) = some cs.length) (h1 : ∀ v ∈ cs, v.oneCell' = true) :
    (storeVar ty ⟨g, off, none⟩ (.agg cs.toArray)).run P w = .ok () (w.setRow g (splice xs off cs).toArray) := by
  have hst := run_storeCells_at P g off t cs 0 xs.toArray w hB (by simpa using hfit) h1
  cases hq : P.info? ty with
  | none => simp [hq] at hi
  | some i =>
    have hs : i.size = cs.length := by simpa [hq] using hi
    simp only [Nat.add_zero] at hst
    simp [storeVar, sizeOf, typeInfo, hq, Value.cells, hs, hst, splice]
theorem wpList_store_part (hgd : o.guard = none) (ty : TypeId) (x y : Operand) (ho : o.op = .store ty x y) (g off : Nat) (hx : a.eval x = .pointer (some ⟨g, off, none⟩))
    {t : TypeId} {xs : List Value} (cs : List Value) (hy : a.eval y = .agg cs.toArray) (hB : Blk w g t xs) (hfit : off + cs.length ≤ xs.length) (hi : (P.info? ty).map (·.size) = some cs.length) (h1 : ∀ v ∈ cs, v.oneCell' = true)
    (h : ∀ w', Hid (Blk w' g t (splice xs off cs)) → Hid (Only g w w') → wpList P ops Q rest (a.put o.dst undef) w') : wpList P ops Q (o :: rest) a w := by
  refine wpList_plain hgd fun K hK => ?_
  unfold Oper.wp execOp
  simp only [ho, hx, hy, Instr.storeAt, Instr.sureAddr, Sem.run_bind, Sem.run_pure, Result.andThen_ok, run_store_part w ty g off cs hB hfit hi h1]
  exact hK _ _ (h _ (Lib.hid (setRow_heap w g _ _ t _ hB)) (Lib.hid (Only.row w g _)))
theorem wp_store_part {K : Act → World → Prop} (ty : TypeId) (x y : Operand) (ho : o.op = .store ty x y) (g off : Nat) (hx : a.eval x = .pointer (some ⟨g, off, none⟩))
    {t : TypeId} {xs : List Value} (cs : List Value) (hy : a.eval y = .agg cs.toArray) (hB : Blk w g t xs) (hfit : off + cs.length ≤ xs.length) (hi : (P.info? ty).map (·.size) = some cs.length) (h1 : ∀ v ∈ cs, v.oneCell' = true)
    (h : ∀ w', Hid (Blk w' g t (splice xs off cs)) → Hid (Only g w w') → K (a.put o.dst undef) w') : o.wp P a w K Q := by
  unfold Oper.wp execOp
  simp only [ho, hx, hy, Instr.storeAt, Instr.sureAddr, Sem.run_bind, Sem.run_pure, Result.andThen_ok, run_store_part w ty g off cs hB hfit hi h1]
  exact h _ (Lib.hid (setRow_heap w g _ _ t _ hB)) (Lib.hid (Only.row w g _))
theorem splice_all {α : Type} {xs cs : List α} (h : xs.length = cs.length) : splice xs 0 cs = cs := by
  simp [splice, h ▸ List.drop_length]
theorem wpList_store_blk (hgd : o.guard = none) (ty : TypeId) (x y : Operand) (ho : o.op = .store ty x y) (g : Nat) (hx : a.eval x = .pointer (some ⟨g, 0, none⟩))
    {t : TypeId} {xs : List Value} (cs : List Value) (hy : a.eval y = .agg cs.toArray) (hB : Blk w g t xs) (hfit : xs.length = cs.length) (hi : (P.info? ty).map (·.size) = some cs.length) (h1 : ∀ v ∈ cs, v.oneCell' = true)
    (h : ∀ w', Hid (Blk w' g t cs) → Hid (Only g w w') → wpList P ops Q rest (a.put o.dst undef) w') : wpList P ops Q (o :: rest) a w :=
  wpList_store_part hgd ty x y ho g 0 hx cs hy hB (by omega) hi h1 (by rw [splice_all hfit]; exact h)
theorem run_index_one {t e : TypeId} {n k : Nat} {xs : List Value} {v : Value} (ht : P.underlying t = some (.array n e)) (hd : ∃ d, P.underlying e = some (.int d)) (hi : (P.info? e).map (·.size) = some 1) (hk : k < n) (hv : xs[k]? = some v) (w : World) :
    (Instr.index t (.agg xs.toArray) (.int .i64 (k : Int))).run P w = .ok v w := by
  obtain ⟨d, hd⟩ := hd
  cases hq : P.info? e with
  | none => simp [hq] at hi
  | some i =>
    have hs : i.size = 1 := by simpa [hq] using hi
    simp [Instr.index, run_underlying ht, asIntOf, sizeOf, typeInfo, hq, hs, hk, part, isAgg, run_underlying hd, hv]
/-- A copy into a part of a block. -/
theorem wpList_copy_part (hgd : o.guard = none) (d s : Operand) (dT sT : TypeId) (ho : o.op = .call { callee := .builtin .copy, args := #[d, s], argTypes := #[dT, sT] }) (elem : TypeId) (hu : P.underlying dT = some (.slice elem)) (hsz : (P.info? elem).map (·.size) = some 1)
    (g off dLen dCap : Nat) (hd : a.eval d = .slice (some ⟨g, off, none⟩) dLen dCap) {A : Option Addr} {n c : Nat} {ys : List Value} (hs : a.eval s = .slice A n c) (hR : Rd w A n c ys) (h1 : ∀ v ∈ ys, v.oneCell' = true)
    {t : TypeId} {xs : List Value} (hB : Blk w g t xs) (hfit : off + dLen ≤ xs.length)
    (h : ∀ w' m, Hid (m = min n dLen) → Hid (Blk w' g t (splice xs off (ys.take m))) → Hid (Only g w w') → wpList P ops Q rest (a.put o.dst (.int .i64 (m : Nat))) w') : wpList P ops Q (o :: rest) a w := by
  have hl := hR.len
  have hcl : (ys.take (min n dLen)).length = min n dLen := by simp; omega
  by_cases h0 : min n dLen = 0
  · refine wpList_copy_nothing hgd d s dT sT ho elem hu hsz (some ⟨g, off, none⟩) A dLen dCap n c hd hs h0 ?_
    exact h w 0 (Lib.hid h0.symm) (Lib.hid (by simpa [splice] using hB)) (Lib.hid (Only.refl g w))
  · obtain ⟨b, oo, hA, _, hj⟩ := hR.2.2.2 (by omega)
    subst hA
    refine wpList_copy_own hgd d s dT sT ho elem hu hsz g off dLen dCap ⟨b, oo, none⟩ n c hd hs xs.toArray t hB (ys.take (min n dLen)) hcl (fun j v hv => ?_) (by rw [hcl]; simp; omega) (fun v hv => h1 v (List.mem_of_mem_take hv)) ?_
    · rw [Addr.add_lit]
      rw [List.getElem?_take] at hv
      split at hv
      · exact hj j v hv
      · cases hv
    · have h2 := h (w.setRow g (splice xs off (ys.take (min n dLen))).toArray) (min n dLen) (Lib.hid rfl) (Lib.hid (setRow_heap w g _ _ t _ hB)) (Lib.hid (Only.row w g _))
      rw [hcl]
      simpa [splice, goInt, hcl] using h2
end

/-! ### what keeps all but some blocks -/

/-- All that was there is as it was, but the blocks of F. -/
structure Keep (F : Nat → Prop) (w w' : World) : Prop where
  os : w'.os = w.os
  tape : w'.tape = w.tape
  output : w'.output = w.output
  size : w.heap.size ≤ w'.heap.size
  block : ∀ k, k < w.heap.size → ¬ F k → w'.heap[k]? = w.heap[k]?
section
variable {F G : Nat → Prop} {a b c w w' : World} {B g : Nat}
theorem Keep.refl (F : Nat → Prop) (w : World) : Keep F w w := ⟨rfl, rfl, rfl, Nat.le_refl _, fun _ _ _ => rfl⟩
theorem Keep.trans (h : Keep F a b) (k : Keep G b c) (hf : ∀ k, G k → F k ∨ a.heap.size ≤ k) : Keep F a c :=
  ⟨k.os.trans h.os, k.tape.trans h.tape, k.output.trans h.output, Nat.le_trans h.size k.size, fun i hi hn => (k.block i (Nat.lt_of_lt_of_le hi h.size) fun hg => by
    rcases hf i hg with h1 | h1
    · exact hn h1
    · omega).trans (h.block i hi hn)⟩
theorem Keep.of_below (h : Below w.heap.size w w') : Keep F w w' := ⟨h.os, h.tape, h.output, h.size, fun i hi _ => h.block i hi⟩
theorem Keep.below (h : Keep F w w') (hF : ∀ k, F k → B ≤ k) (hs : B ≤ w.heap.size) : Below B w w' :=
  ⟨h.os, h.tape, h.output, h.size, fun i hi => h.block i (by omega) fun hf => by have := hF i hf; omega⟩
theorem Keep.grown {row : Option Nat} (h : w.grownBy w' row) (hr : ∀ k, row = some k → F k) : Keep F w w' :=
  ⟨h.os, h.tape, h.output, h.size, fun i hi hn => h.block i hi fun he => hn (hr i he.symm)⟩
theorem Keep.only (h : Only g w w') (hg : F g) : Keep F w w' := Keep.grown h.1 fun k hk => by injection hk with hk; exact hk ▸ hg
theorem Keep.drewN (h : Keep F w w') (n : Nat) : Keep F w (w'.drewN n) := ⟨h.os, h.tape, h.output, h.size, h.block⟩
theorem Keep.drew (h : Keep F w w') : Keep F w w'.drew := ⟨h.os, h.tape, h.output, h.size, h.block⟩
theorem Keep.set (w : World) (i : Nat) (v : Value) (hg : F g) : Keep F w (w.setCell ⟨g, i, none⟩ v) := Keep.only (Only.set w g i v) hg
theorem Keep.mono (h : Keep F w w') (hf : ∀ k, k < w.heap.size → F k → G k) : Keep G w w' := ⟨h.os, h.tape, h.output, h.size, fun i hi hn => h.block i hi fun hF => hn (hf i hi hF)⟩
theorem Keep.blk {t : TypeId} {xs : List Value} (h : Keep F w w') (hB : Blk w g t xs) (hg : ¬ F g) : Blk w' g t xs := (h.block g hB.lt hg).trans hB
theorem Keep.rd {A : Option Addr} {n c : Nat} {xs : List Value} (h : Keep F w w') (hR : Rd w A n c xs) (hA : 0 < n → ∀ b o, A = some ⟨b, o, none⟩ → ¬ F b) : Rd w' A n c xs :=
  ⟨hR.1, hR.2.1, hR.2.2.1, fun hp => by
    obtain ⟨b, o, he, hb, hj⟩ := hR.2.2.2 hp
    refine ⟨b, o, he, Nat.lt_of_lt_of_le hb h.size, fun j u hu => ?_⟩
    exact (World.cell?_of_block (h.block b hb (hA hp b o he))).trans (hj j u hu)⟩
theorem Keep.own {base : Nat} {e : TypeId} {size n : Nat} {v : Value} {xs : List Value} (h : Keep F w w') (ho : w.ownsRow base e size v n xs) (hv : ∀ k, v.ownBlock = some k → ¬ F k) : w'.ownsRow base e size v n xs := by
  refine ⟨ho.1, ?_⟩
  rcases ho.2 with hn | ⟨g, cap, cur, rfl, hb, hgg, rest⟩
  · exact .inl hn
  · exact .inr ⟨g, cap, cur, rfl, hb, (h.block g (lt_some hgg) (hv g rfl)).trans hgg, rest⟩
end

/-! ### clear -/

theorem rep_one {zs : List Value} (h1 : ∀ u ∈ zs, u.oneCell' = true) (n : Nat) : ∀ u ∈ (Builtin.zeroCells zs.toArray n).toList, u.oneCell' = true := by
  intro u hu
  simp only [Builtin.zeroCells, List.mem_map, Array.toList_map, Array.toList_range] at hu
  obtain ⟨i, hi, rfl⟩ := hu
  simp only [List.size_toArray] at hi
  have hz : 0 < zs.length := by
    rcases Nat.eq_zero_or_pos zs.length with h | h
    · rw [h] at hi; simp at hi
    · exact h
  have hm := Nat.mod_lt i hz
  refine h1 _ ?_
  simp [hm]

section
variable {P : Program} {ops : Array Oper} {rest : List Oper} {o : Oper} {a : Act} {w : World} {Q : Exit → Act → World → Prop}
theorem run_clear_own (w : World) (t e ty : TypeId) (z : Value) {zs : List Value} (ht : P.underlying t = some (.slice e)) (hv : ∀ w, (zeroValue e).run P w = .ok z w) (hz : z.cells = zs.toArray) (h1 : ∀ u ∈ zs, u.oneCell' = true)
    {base n c : Nat} {A : Option Addr} {xs : List Value} (ho : w.ownsRow base e zs.length (.slice A n c) n xs) :
    ∃ w' ys, (Builtin.clear_ #[t] ty #[.slice A n c]).run P w = .ok (.tuple #[]) w' ∧ w'.ownsRow base e zs.length (.slice A n c) n ys ∧ w.grownBy w' (Value.slice A n c).ownBlock ∧ w'.heap.size = w.heap.size := by
  rcases ho.2 with ⟨hv0, h0⟩ | ⟨g, cap', cur, hv0, hb, hh, hnc, hcm, hcs, hx⟩
  · simp only [Value.slice.injEq] at hv0
    obtain ⟨rfl, rfl, rfl⟩ := hv0
    exact ⟨w, xs, by simp [Builtin.clear_, run_underlying ht], ho, World.grownBy.refl w _, rfl⟩
  · simp only [Value.slice.injEq] at hv0
    obtain ⟨rfl, _, rfl⟩ := hv0
    rcases Nat.eq_zero_or_pos n with h0 | h0
    · subst h0
      exact ⟨w, xs, by simp [Builtin.clear_, run_underlying ht], ho, World.grownBy.refl w _, rfl⟩
    · have hzl : (Builtin.zeroCells zs.toArray n).toList.length = n * zs.length := by simp [Builtin.zeroCells]
      have hle : n * zs.length ≤ c * zs.length := Nat.mul_le_mul_right _ hnc
      have hst := run_storeCells_at P g 0 e (Builtin.zeroCells zs.toArray n).toList 0 cur w hh (by rw [hzl]; omega) (rep_one h1 n)
      obtain ⟨ZC, hZC⟩ : ∃ ZC, ZC = (Builtin.zeroCells zs.toArray n).toList := ⟨_, rfl⟩
      rw [← hZC] at hst hzl
      simp only [Nat.zero_add, List.take_zero, List.nil_append] at hst
      refine ⟨w.setRow g (ZC ++ cur.toList.drop ZC.length).toArray, ZC, ?_, ⟨hzl, .inr ⟨g, c, _, rfl, hb, setRow_heap w g _ _ e _ hh, hnc, hcm, ?_, ?_⟩⟩, (Only.row w g _).1, (Only.row w g _).2⟩
      · obtain ⟨m, rfl⟩ : ∃ m, n = m + 1 := ⟨n - 1, by omega⟩
        simp [Builtin.clear_, run_underlying ht, hv, hz, ← hZC, hst]
      · simp [hzl, hcs]; omega
      · rw [← hzl]; simp
theorem wpList_clear_own (hgd : o.guard = none) (x : Operand) (t e : TypeId) (ho : o.op = .call { callee := .builtin .clear, args := #[x], argTypes := #[t] }) (z : Value) {zs : List Value} (ht : P.underlying t = some (.slice e)) (hv : ∀ w, (zeroValue e).run P w = .ok z w) (hz : z.cells = zs.toArray) (h1 : ∀ u ∈ zs, u.oneCell' = true)
    {base n c : Nat} {A : Option Addr} {xs : List Value} (hx : a.eval x = .slice A n c) {size : Nat} (hs : size = zs.length) (hown : w.ownsRow base e size (.slice A n c) n xs)
    (h : ∀ w' ys, Hid (w'.ownsRow base e size (.slice A n c) n ys) → w.grownBy w' (Value.slice A n c).ownBlock → Hid (w'.heap.size = w.heap.size) → wpList P ops Q rest (a.put o.dst (.tuple #[])) w') : wpList P ops Q (o :: rest) a w := by
  subst hs
  refine wpList_plain hgd fun K hK => ?_
  obtain ⟨w', ys, hrun, h2, h3, h4⟩ := run_clear_own (P := P) w t e o.type z ht hv hz h1 hown
  unfold Oper.wp execOp
  simp only [ho, resolve, invoke, builtin, Sem.run_bind, Sem.run_pure, Result.andThen_ok, List.map_toArray, List.map_cons, List.map_nil, hx, hrun]
  exact hK _ _ (h w' ys h2 h3 h4)
/-- An append of elements of several cells each: where the new block lies, too. -/
theorem wp_append_at {K : Act → World → Prop} (s x : Operand) (t : TypeId)
    (ho : o.op = .call { callee := .builtin .append, args := #[s, x], argTypes := #[t, t] })
    (base : Nat) (e : TypeId) (i : TypeInfo) (z : Value) (size bytes : Nat) (ht : P.underlying t = some (.slice e)) (hi : P.info? e = some i) (hz : i.zero = some z)
    (hsize : i.size = size) (hby : i.bytes = bytes) (hzs : z.cells.size = size) (hsz : 0 < size)
    (v : Value) (n : Nat) (xs : List Value) (hs : a.eval s = v) (hown : w.ownsRow base e size v n xs)
    (ad : Addr) (m c : Nat) (news : List Value) (hx : a.eval x = .slice (some ad) m c) (hl : news.length = m * size) (hnews : ∀ j u, news[j]? = some u → w.cell? (ad.add j) = some u) (h1 : ∀ u ∈ news, u.oneCell' = true)
    (h63 : n + m ≤ maxLen) (hbytes : (n + m) * bytes ≤ 140737488355328) (hbase : base ≤ w.heap.size)
    (h : ∀ A' n' c' w', Hid (n' = n + m) → Hid (w'.ownsRow base e size (.slice A' n' c') n' (xs ++ news)) → w.grownBy w' v.ownBlock → Hid ((Value.slice A' n' c').ownBlock = v.ownBlock ∨ (Value.slice A' n' c').ownBlock = some w.heap.size) → K (a.put o.dst (.slice A' n' c')) w') : o.wp P a w K Q := by
  obtain ⟨v', w', hrun, h2, h3, _, h5⟩ := run_append_own_at (P := P) (w := w) base t o.type e i z size bytes ht hi hz hsize hby hzs hsz v n xs hown ad m c news hl hnews h1 h63 hbytes hbase
  unfold Oper.wp execOp
  simp only [ho, resolve, invoke, builtin, Sem.run_bind, Sem.run_pure, Result.andThen_ok, List.map_toArray, List.map_cons, List.map_nil, hs, hx, hrun]
  have h6 := h2
  rcases h6.2 with ⟨rfl, h0⟩ | ⟨g, cap, cur, rfl, _⟩
  · exact h none 0 0 w' h0.symm (by rw [h0] at h2; exact h2) h3 h5
  · exact h _ _ _ w' rfl h2 h3 h5
end
end Go.Proofs.Ytegnehdfedfphaa.Mem
namespace Go.Proofs.Ytegnehdfedfphaa.ImgA
open Go.RowKit Go.Proofs.Ytegnehdfedfphaa.Kit Go.Proofs.Ytegnehdfedfphaa.Byt Go.Proofs.Ytegnehdfedfphaa.Mem

/-- Bytes that came in, inside something. -/
theorem open_bytes {H : Type} {enc : TypeId × Value → H} {w : World} {t e : TypeId} {fuel : Nat} {cs : List Value} {x : DataW H × List MemPlace} {P : Program}
    (ht : P.underlying t = some (.slice e)) (he : P.underlying e = some (.int .u8)) (hc : P.cellsOf e = 1) (h : DataW.trod enc P w 0 (fun _ => true) true fuel t cs = some x) :
    ∃ A n c xs, cs = [.slice A n c] ∧ Rd w A n c (u8n xs) ∧ ∀ u ∈ xs, u < 256 := by
  rcases Go.Deep.open_slice1 ht hc h with ⟨hcs, _⟩ | ⟨a, n, c, m, q, V, D, Pl, hcs, _, hl, hm, hmm, _, hi⟩
  · exact ⟨none, 0, 0, [], hcs, Rd.nil w, by simp⟩
  · have each : ∀ i, i < n → ∃ u : Nat, u < 256 ∧ w.cell? (a.add i) = some (.int .u8 (u : Int)) := by
      intro i hin
      obtain ⟨h1, h2⟩ := hi i (by rw [hmm]; simp; omega)
      obtain ⟨v, q, _, wv⟩ := DataW.trod_int he h2
      have hb := bounds_u8 wv
      obtain hv : V i = .int .u8 v := by simpa using q
      exact ⟨v.toNat, by omega, by rw [h1, hv, Int.toNat_of_nonneg hb.1]⟩
    obtain ⟨f, hf2⟩ := Go.Deep.choose_lt each
    refine ⟨some a, n, c, (List.range n).map f, hcs, ⟨by simp [u8n], hl, by unfold maxLen at hm; omega, fun hp => ?_⟩, ?_⟩
    · obtain ⟨b, off, spot⟩ := a
      have hc0 := (hf2 0 hp).2
      have hspot : spot = none := by simpa [Addr.add] using World.cell?_spot hc0
      subst hspot
      refine ⟨b, off, rfl, ?_, fun j u hu => ?_⟩
      · have := block_lt_of_cell hc0
        simpa [Addr.add] using this
      · have hj : j < n := by
          have := (List.getElem?_eq_some_iff.1 hu).1
          simpa [u8n] using this
        simp only [u8n, List.map_map, List.getElem?_map, List.getElem?_range hj, Option.map_some, Option.some.injEq] at hu
        subst hu
        have := (hf2 j hj).2
        rwa [Addr.add_lit] at this
    · intro u hu
      simp only [List.mem_map, List.mem_range] at hu
      obtain ⟨i, hi', rfl⟩ := hu
      exact (hf2 i hi').1

/-- An image, and how it lies. -/
structure Im where
  p : Int
  v : Int
  h : Int
  m : Int
  f : Int
  s : Int
  r : Int
  A : Option Addr
  n : Nat
  c : Nat
  xs : List Nat
@[reducible] def Im.val (i : Im) : Value := .agg #[.int .i64 i.p, .int .i64 i.v, .int .i64 i.h, .int .i64 i.m, .int .i64 i.f, .int .i64 i.s, .int .i64 i.r, .slice i.A i.n i.c]
def Im.cells (i : Im) : List Value := [.int .i64 i.p, .int .i64 i.v, .int .i64 i.h, .int .i64 i.m, .int .i64 i.f, .int .i64 i.s, .int .i64 i.r, .slice i.A i.n i.c]
structure Im.ok (w : World) (i : Im) : Prop where
  code : Rd w i.A i.n i.c (u8n i.xs)
  byt : ∀ u ∈ i.xs, u < 256
theorem Im.ok.len {w : World} {i : Im} (h : i.ok w) : i.xs.length = i.n := Rd.nats h.code
theorem Im.ok.below {w w' : World} {i : Im} (h : i.ok w) (hb : Below w.heap.size w w') : i.ok w' := ⟨h.code.below hb, h.byt⟩
theorem Im.ok.alloc {w : World} {i : Im} (h : i.ok w) (o : Obj) : i.ok (w.alloc o) := h.below ((Below.refl _ _).alloc (Nat.le_refl _) o)

set_option maxRecDepth 100000 in
theorem open_image {H : Type} {enc : TypeId × Value → H} {w : World} {base : Nat} {v : Value} {d : DataW H} {p : List MemPlace} (h : DataW.Trod enc Try.prog w 0 (fun _ => true) true 29 v d p) (o : Value.okWide Try.prog w .any base 29 v) :
    ∃ i : Im, v = i.val ∧ i.ok w := by
  obtain ⟨cs, rfl, hs⟩ := Go.WideShapes.okWide_struct Try.underlying29 o
  obtain ⟨fuel, hf⟩ := h
  have hC : Try.prog.cellsOf 29 = 8 := by kernel_rfl
  rw [hC] at hs
  obtain ⟨cs, rfl⟩ : ∃ l : List Value, cs = l.toArray := ⟨cs.toList, by simp⟩
  have hcs : (Value.agg cs.toArray).cells.toList = cs := by simp [Value.cells]
  rw [hcs] at hf
  obtain ⟨ys, n', _, _, _, hyl, hfl⟩ := DataW.trod_struct Try.underlying29 hf
  match cs, hs with
  | [c0, c1, c2, c3, c4, c5, c6, c7], _ =>
    have ci : Try.prog.cellsOf 3 = 1 := by kernel_rfl
    have cb : Try.prog.cellsOf 27 = 1 := by kernel_rfl
    match ys, hyl with
    | [y0, y1, y2, y3, y4, y5, y6, y7], _ =>
      have e0 : DataW.trod enc Try.prog w 0 (fun _ => true) true n' 3 (([c0, c1, c2, c3, c4, c5, c6, c7].drop 0).take (Try.prog.cellsOf 3)) = some y0 := hfl 0 _ rfl
      have e1 : DataW.trod enc Try.prog w 0 (fun _ => true) true n' 3 (([c0, c1, c2, c3, c4, c5, c6, c7].drop 1).take (Try.prog.cellsOf 3)) = some y1 := hfl 1 _ rfl
      have e2 : DataW.trod enc Try.prog w 0 (fun _ => true) true n' 3 (([c0, c1, c2, c3, c4, c5, c6, c7].drop 2).take (Try.prog.cellsOf 3)) = some y2 := hfl 2 _ rfl
      have e3 : DataW.trod enc Try.prog w 0 (fun _ => true) true n' 3 (([c0, c1, c2, c3, c4, c5, c6, c7].drop 3).take (Try.prog.cellsOf 3)) = some y3 := hfl 3 _ rfl
      have e4 : DataW.trod enc Try.prog w 0 (fun _ => true) true n' 3 (([c0, c1, c2, c3, c4, c5, c6, c7].drop 4).take (Try.prog.cellsOf 3)) = some y4 := hfl 4 _ rfl
      have e5 : DataW.trod enc Try.prog w 0 (fun _ => true) true n' 3 (([c0, c1, c2, c3, c4, c5, c6, c7].drop 5).take (Try.prog.cellsOf 3)) = some y5 := hfl 5 _ rfl
      have e6 : DataW.trod enc Try.prog w 0 (fun _ => true) true n' 3 (([c0, c1, c2, c3, c4, c5, c6, c7].drop 6).take (Try.prog.cellsOf 3)) = some y6 := hfl 6 _ rfl
      have e7 : DataW.trod enc Try.prog w 0 (fun _ => true) true n' 27 (([c0, c1, c2, c3, c4, c5, c6, c7].drop 7).take (Try.prog.cellsOf 27)) = some y7 := hfl 7 _ rfl
      rw [ci] at e0 e1 e2 e3 e4 e5 e6
      rw [cb] at e7
      obtain ⟨v0, q0, _, _⟩ := DataW.trod_int (x := y0) Try.underlying3 e0
      obtain ⟨v1, q1, _, _⟩ := DataW.trod_int (x := y1) Try.underlying3 e1
      obtain ⟨v2, q2, _, _⟩ := DataW.trod_int (x := y2) Try.underlying3 e2
      obtain ⟨v3, q3, _, _⟩ := DataW.trod_int (x := y3) Try.underlying3 e3
      obtain ⟨v4, q4, _, _⟩ := DataW.trod_int (x := y4) Try.underlying3 e4
      obtain ⟨v5, q5, _, _⟩ := DataW.trod_int (x := y5) Try.underlying3 e5
      obtain ⟨v6, q6, _, _⟩ := DataW.trod_int (x := y6) Try.underlying3 e6
      obtain ⟨A, n, c, xs, q7, hr, hx⟩ := open_bytes Try.underlying27 Try.underlying5 (by kernel_rfl) e7
      obtain rfl : c0 = _ := by simpa using q0
      obtain rfl : c1 = _ := by simpa using q1
      obtain rfl : c2 = _ := by simpa using q2
      obtain rfl : c3 = _ := by simpa using q3
      obtain rfl : c4 = _ := by simpa using q4
      obtain rfl : c5 = _ := by simpa using q5
      obtain rfl : c6 = _ := by simpa using q6
      obtain rfl : c7 = _ := by simpa using q7
      exact ⟨⟨v0, v1, v2, v3, v4, v5, v6, A, n, c, xs⟩, rfl, hr, hx⟩

/-- The world only has more than w; this bool comes back. -/
def Yes (w : World) (b : Bool) (e : Ending) (w' : World) : Prop := e = .returned (.bool b) ∧ Below w.heap.size w w'
/-- The image's own box, and all that was there. -/
structure Bx (w : World) (g : Nat) (i : Im) (wr : World) : Prop where
  blk : Blk wr g 29 i.cells
  new_ : w.heap.size ≤ g
  bel : Below w.heap.size w wr
theorem Bx.new (w : World) (i : Im) : Bx w w.heap.size i (w.alloc (.cells i.cells.toArray 29)) := ⟨Blk.new w _ _, Nat.le_refl _, (Below.refl _ _).alloc (Nat.le_refl _) _⟩
theorem Bx.step {w wr w' : World} {g : Nat} {i : Im} (h : Bx w g i wr) (hb : Below wr.heap.size wr w') : Bx w g i w' := ⟨h.blk.below hb, h.new_, h.bel.trans (hb.mono h.bel.size)⟩
theorem Bx.alloc {w wr : World} {g : Nat} {i : Im} (h : Bx w g i wr) (o : Obj) : Bx w g i (wr.alloc o) := h.step ((Below.refl _ _).alloc (Nat.le_refl _) o)
theorem Bx.drewN {w wr : World} {g : Nat} {i : Im} (h : Bx w g i wr) (n : Nat) : Bx w g i (wr.drewN n) := h.step ⟨rfl, rfl, rfl, Nat.le_refl _, fun _ _ => rfl⟩
theorem Bx.cell {w wr : World} {g : Nat} {i : Im} (h : Bx w g i wr) : wr.cell? ⟨g, 0, none⟩ = some (.int .i64 i.p) ∧ wr.cell? ⟨g, 1, none⟩ = some (.int .i64 i.v) ∧ wr.cell? ⟨g, 2, none⟩ = some (.int .i64 i.h) ∧ wr.cell? ⟨g, 3, none⟩ = some (.int .i64 i.m) ∧ wr.cell? ⟨g, 4, none⟩ = some (.int .i64 i.f) ∧ wr.cell? ⟨g, 5, none⟩ = some (.int .i64 i.s) ∧ wr.cell? ⟨g, 6, none⟩ = some (.int .i64 i.r) ∧ wr.cell? ⟨g, 7, none⟩ = some (.slice i.A i.n i.c) :=
  ⟨h.blk.cell rfl, h.blk.cell rfl, h.blk.cell rfl, h.blk.cell rfl, h.blk.cell rfl, h.blk.cell rfl, h.blk.cell rfl, h.blk.cell rfl⟩
theorem Bx.sz {w wr : World} {g : Nat} {i : Im} (h : Bx w g i wr) : w.heap.size < wr.heap.size := Nat.lt_of_le_of_lt h.new_ h.blk.lt
end Go.Proofs.Ytegnehdfedfphaa.ImgA
namespace Go.Proofs.Ytegnehdfedfphaa.OpsM
open Go.RowKit Go.Proofs.Ytegnehdfedfphaa.Kit Go.Proofs.Ytegnehdfedfphaa.Byt Go.Proofs.Ytegnehdfedfphaa.Mem

def n64 (x : Int) : Prop := -9223372036854775808 ≤ x ∧ x ≤ 9223372036854775807
/-- Has an instruction an argument? Is it right? Its bytes. -/
def hasA (o : Int) : Bool := decide (o = 1 ∨ 10 ≤ o ∧ o ≤ 15)
def ok (o a : Int) : Bool := decide (0 ≤ o ∧ o ≤ 18 ∧ 0 ≤ a ∧ a ≤ 255 ∧ (hasA o = true ∨ a = 0))
def bts (p : Int × Int) : List Nat := if hasA p.1 then [p.1.toNat, p.2.toNat] else [p.1.toNat]
theorem hasA_yes {o : Int} (h : o = 1 ∨ 10 ≤ o ∧ o ≤ 15) : hasA o = true := by simpa [hasA] using h
theorem hasA_no {o : Int} (h : ¬ (o = 1 ∨ 10 ≤ o ∧ o ≤ 15)) : hasA o = false := by simpa [hasA] using h
theorem ok_iff {o a : Int} : ok o a = true ↔ 0 ≤ o ∧ o ≤ 18 ∧ 0 ≤ a ∧ a ≤ 255 ∧ (hasA o = true ∨ a = 0) := by simp [ok]
/-- The instruction that these bytes begin with, and how many of them it takes. -/
def at1 : List Nat → Option (Int × Int × Nat)
  | [] => none
  | o :: r => if 18 < o then none else if hasA o then (match r with | [] => none | a :: _ => some ((o : Int), (a : Int), 2)) else some ((o : Int), 0, 1)
/-- All that these bytes tell. -/
def tell : List Nat → Option (List (Int × Int))
  | [] => some []
  | [o] => if 18 < o then none else if hasA o then none else some [((o : Int), 0)]
  | o :: a :: r => if 18 < o then none else if hasA o then (tell r).map (((o : Int), (a : Int)) :: ·) else (tell (a :: r)).map (((o : Int), 0) :: ·)
theorem tell_none {x : List Nat} (h0 : x ≠ []) (h : at1 x = none) : tell x = none := by
  match x with
  | [] => exact absurd rfl h0
  | [o] =>
    simp only [at1] at h
    rw [tell]
    split <;> (try rfl)
    split <;> simp_all
  | o :: a :: r =>
    simp only [at1] at h
    rw [tell]
    split <;> (try rfl)
    split <;> simp_all
theorem tell_some {x : List Nat} {o a : Int} {n : Nat} (h : at1 x = some (o, a, n)) : tell x = (tell (x.drop n)).map ((o, a) :: ·) := by
  match x with
  | [] => simp [at1] at h
  | [q] =>
    simp only [at1] at h
    split at h <;> (try contradiction)
    split at h <;> (try contradiction)
    simp only [Option.some.injEq, Prod.mk.injEq] at h
    obtain ⟨rfl, rfl, rfl⟩ := h
    rw [tell, if_neg (by assumption), if_neg (by simp_all)]
    rfl
  | q :: b :: r =>
    simp only [at1] at h
    split at h <;> (try contradiction)
    split at h <;> simp only [Option.some.injEq, Prod.mk.injEq] at h <;> obtain ⟨rfl, rfl, rfl⟩ := h
    · rw [tell, if_neg (by assumption), if_pos (by assumption)]; rfl
    · rw [tell, if_neg (by assumption), if_neg (by simp_all)]; rfl
theorem at1_n {x : List Nat} {o a : Int} {n : Nat} (h : at1 x = some (o, a, n)) : 1 ≤ n ∧ n ≤ x.length ∧ 0 ≤ o ∧ o ≤ 18 := by
  match x with
  | [] => simp [at1] at h
  | [q] =>
    simp only [at1] at h
    split at h <;> (try contradiction)
    split at h <;> (try contradiction)
    simp only [Option.some.injEq, Prod.mk.injEq] at h
    obtain ⟨rfl, rfl, rfl⟩ := h
    simp
    omega
  | q :: b :: r =>
    simp only [at1] at h
    split at h <;> (try contradiction)
    split at h <;> simp only [Option.some.injEq, Prod.mk.injEq] at h <;> obtain ⟨rfl, rfl, rfl⟩ := h <;> simp <;> omega
/-- What is put begins with just that instruction. -/
theorem at1_bts {o a : Int} (h : ok o a = true) (r : List Nat) : at1 (bts (o, a) ++ r) = some (o, a, (bts (o, a)).length) := by
  obtain ⟨h1, h2, h3, h4, h5⟩ := ok_iff.1 h
  unfold bts
  cases ho : hasA o
  · rw [if_neg (by simp)]
    have ha : a = 0 := by rw [ho] at h5; simpa using h5
    show (if 18 < o.toNat then none else _) = _
    have e : ((o.toNat : Nat) : Int) = o := by omega
    rw [if_neg (by omega), e, ho, if_neg (by simp), ha]
    rfl
  · rw [if_pos rfl]
    show (if 18 < o.toNat then none else _) = _
    have e : ((o.toNat : Nat) : Int) = o := by omega
    rw [if_neg (by omega), e, ho, if_pos rfl]
    have e2 : ((a.toNat : Nat) : Int) = a := by omega
    show some (o, ((a.toNat : Nat) : Int), 2) = _
    rw [e2]
    rfl
theorem bts_len (p : Int × Int) : (bts p).length = if hasA p.1 then 2 else 1 := by unfold bts; split <;> rfl
/-- What is put is all. -/
theorem tell_puts (l : List (Int × Int)) (h : ∀ p ∈ l, ok p.1 p.2 = true) : tell (l.flatMap bts) = some l := by
  induction l with
  | nil => rfl
  | cons p l ih =>
    obtain ⟨o, a⟩ := p
    rw [List.flatMap_cons, tell_some (at1_bts (h (o, a) (List.mem_cons_self ..)) _), List.drop_left, ih fun p hp => h p (List.mem_cons_of_mem _ hp)]
    rfl

/-! ### a slice of instructions -/
def Prs (w : World) (A : Option Addr) (n c : Nat) (R : List (Int × Int)) : Prop :=
  R.length = n ∧ n ≤ c ∧ c ≤ 9223372036854775807 ∧ (∀ p ∈ R, n64 p.1 ∧ n64 p.2) ∧ (0 < n → ∃ b o, A = some ⟨b, o, none⟩ ∧ b < w.heap.size ∧ ∀ j p, R[j]? = some p → w.cell? ⟨b, o + j * 2, none⟩ = some (.int .i64 p.1) ∧ w.cell? ⟨b, o + j * 2 + 1, none⟩ = some (.int .i64 p.2))
theorem Prs.below {w w' : World} {A : Option Addr} {n c : Nat} {R : List (Int × Int)} (h : Prs w A n c R) (hb : Below w.heap.size w w') : Prs w' A n c R :=
  ⟨h.1, h.2.1, h.2.2.1, h.2.2.2.1, fun hp => by
    obtain ⟨b, o, hA, hlt, hc⟩ := h.2.2.2.2 hp
    refine ⟨b, o, hA, Nat.lt_of_lt_of_le hlt hb.size, fun j p hj => ?_⟩
    have h1 := hc j p hj
    exact ⟨(hb.cell (p := ⟨b, o + j * 2, none⟩) hlt).trans h1.1, (hb.cell (p := ⟨b, o + j * 2 + 1, none⟩) hlt).trans h1.2⟩⟩
theorem Prs.at_ {w : World} {A : Option Addr} {n c : Nat} {R : List (Int × Int)} (h : Prs w A n c R) {k : Nat} (hk : k < n) : ∃ (a m : Int) (b o : Nat), R[k]? = some (a, m) ∧ n64 a ∧ n64 m ∧ A = some ⟨b, o, none⟩ ∧ w.cell? ⟨b, o + k * 2, none⟩ = some (.int .i64 a) ∧ w.cell? ⟨b, o + k * 2 + 1, none⟩ = some (.int .i64 m) := by
  obtain ⟨b, o, hA, _, hc⟩ := h.2.2.2.2 (by omega)
  have hl : k < R.length := by have := h.1; omega
  have h1 := hc k R[k] (List.getElem?_eq_getElem hl)
  have h2 := h.2.2.2.1 _ (List.getElem_mem hl)
  exact ⟨R[k].1, R[k].2, b, o, List.getElem?_eq_getElem hl, h2.1, h2.2, hA, h1.1, h1.2⟩
theorem Prs.le {w : World} {A : Option Addr} {n c : Nat} {R : List (Int × Int)} (h : Prs w A n c R) : n ≤ 9223372036854775807 := by have := h.2.1; have := h.2.2.1; omega
theorem Prs.nil (w : World) : Prs w none 0 0 [] := ⟨rfl, by omega, by omega, by simp, fun h => absurd h (by simp)⟩
/-- A slice that was just built of one, or of two. -/
theorem Prs.block {w : World} {g : Nat} {t : TypeId} {cs : List Value} {R : List (Int × Int)} (h : Blk w g t cs) (hc : cs = R.flatMap fun p => [.int .i64 p.1, .int .i64 p.2]) (hR : ∀ p ∈ R, n64 p.1 ∧ n64 p.2) (hl : R.length ≤ 9223372036854775807) : Prs w (some ⟨g, 0, none⟩) R.length R.length R := by
  refine ⟨rfl, Nat.le_refl _, hl, hR, fun _ => ⟨g, 0, rfl, h.lt, fun j p hj => ?_⟩⟩
  have key : ∀ (R : List (Int × Int)) (j : Nat) (p : Int × Int), R[j]? = some p → (R.flatMap fun p => [Value.int .i64 p.1, Value.int .i64 p.2])[j * 2]? = some (.int .i64 p.1) ∧ (R.flatMap fun p => [Value.int .i64 p.1, Value.int .i64 p.2])[j * 2 + 1]? = some (.int .i64 p.2) := by
    intro R
    induction R with
    | nil => intro j p hj; simp at hj
    | cons q R ih =>
      intro j p hj
      cases j with
      | zero => simp only [List.getElem?_cons_zero, Option.some.injEq] at hj; subst hj; exact ⟨rfl, rfl⟩
      | succ j =>
        rw [List.getElem?_cons_succ] at hj
        have := ih j p hj
        rw [List.flatMap_cons, show (j + 1) * 2 = j * 2 + 2 from by omega]
        exact this
  have := key R j p hj
  rw [← hc] at this
  rw [show 0 + j * 2 = j * 2 from by omega]
  exact ⟨h.cell this.1, h.cell this.2⟩
/-- Are two instructions one? -/
theorem ieq (o a q b : Int) (w : World) : (Op.equalIn 10000 106 (.agg #[.int .i64 o, .int .i64 a]) (.agg #[.int .i64 q, .int .i64 b])).run Try.prog w = .ok (decide (o = q ∧ a = b)) w := by
  have ht : Try.prog.underlying 106 = some (.struct (Try.prog.fieldsOf 106)) := by kernel_rfl
  have hp : Try.prog.stoodInHeld 106 = false := by kernel_rfl
  rw [show (10000 : Nat) = 9999 + 1 from rfl, run_equalIn_struct w 9999 _ _ _ ht hp]
  have e : decide (o = q ∧ a = b) = ((o == q) && (a == b)) := by rw [Bool.eq_iff_iff]; simp
  rw [e]
  simp [go_sem, Op.eqFields, Try.underlying106, Try.underlying3]
  (repeat' split) <;> simp [*]
end Go.Proofs.Ytegnehdfedfphaa.OpsM
namespace Go.Proofs.Ytegnehdfedfphaa.BitM
open Go.RowKit Go.Proofs.Ytegnehdfedfphaa.Kit

/-- Two to the i. -/
def pw (i : Int) : Int := 2 ^ i.toNat
/-- Is the block in the set? -/
def hb (s i : Int) : Bool := decide (0 ≤ i ∧ i ≤ 15 ∧ s / pw i % 2 = 1)
theorem pw_zero : pw 0 = 1 := rfl
theorem pw_succ (k : Nat) : pw ((k : Int) + 1) = pw k + pw k := by
  unfold pw
  rw [show ((k : Int) + 1).toNat = k + 1 from by omega, show ((k : Int)).toNat = k from by omega, Int.pow_succ]
  omega
theorem pw_bd (k : Nat) (h : k ≤ 16) : 1 ≤ pw k ∧ pw k ≤ 65536 := by
  unfold pw
  have h1 : (1 : Int) ≤ 2 ^ k := by exact_mod_cast Nat.one_le_two_pow
  have h2 : (2 : Int) ^ k ≤ 2 ^ 16 := by exact_mod_cast Nat.pow_le_pow_right (by decide) h
  rw [show ((k : Int)).toNat = k from by omega]
  exact ⟨h1, by simpa using h2⟩
theorem pw_half (k : Nat) (h : k ≤ 15) : pw k ≤ 32768 := by
  have := pw_bd (k + 1) (by omega)
  have e := pw_succ k
  rw [Int.natCast_add] at this
  have : pw ((k : Int) + 1) ≤ 65536 := this.2
  omega
/-- The low sixteen bits tell it as well. -/
theorem low_bit (s : Int) (k : Nat) (h : k ≤ 15) : (s % 65536) / pw k % 2 = s / pw k % 2 := by
  have e : (65536 : Int) = pw k * (2 * pw ((15 - k : Nat) : Int)) := by
    unfold pw
    rw [show ((k : Int)).toNat = k from by omega, show (((15 - k : Nat)) : Int).toNat = 15 - k from by omega]
    have h2 : (2 : Int) ^ (k + (15 - k + 1)) = 2 ^ k * 2 ^ (15 - k + 1) := Int.pow_add ..
    rw [Int.pow_succ, show k + (15 - k + 1) = 16 from by omega] at h2
    rw [Int.mul_comm 2 (2 ^ (15 - k)), ← h2]
    rfl
  have h1 := (pw_bd k (by omega)).1
  have e2 : s % 65536 = s + pw k * (2 * (pw ((15 - k : Nat) : Int) * (-(s / 65536)))) := by
    have e3 : pw k * (2 * (pw ((15 - k : Nat) : Int) * (-(s / 65536)))) = 65536 * (-(s / 65536)) := by rw [e, ← Int.mul_assoc, ← Int.mul_assoc, ← Int.mul_assoc]
    rw [e3]
    omega
  rw [e2, Int.add_mul_ediv_left _ _ (by omega)]
  omega
theorem tmod16 (s : Int) : (s.tmod 65536 < 0 ∧ s.tmod 65536 + 65536 = s % 65536) ∨ (0 ≤ s.tmod 65536 ∧ s.tmod 65536 = s % 65536) := by
  have h := Int.tmod_add_mul_tdiv s 65536
  have h1 := Int.tmod_lt_of_pos s (show (0 : Int) < 65536 by decide)
  have h2 := Int.lt_tmod_of_pos s (show (0 : Int) < 65536 by decide)
  omega
theorem ret_i {a b : Int} (h : a = b) : Ending.returned (.int .i64 a) = .returned (.int .i64 b) := by rw [h]
set_option maxRecDepth 100000 in
theorem rpower_any (i : Nat) (w : World) (hi : i ≤ 16) : Calls Try.prog 74 #[.int .i64 (i : Nat)] w fun e w' => e = .returned (.int .i64 (pw i)) ∧ w = w' := by
  go_enter Try.func74, Try.ntmps74
  go_wp2
  go_loopw [3, 4] (fun n k wr => ∃ (j : Nat) (q : Int), j ≤ i ∧ n = .int .i64 q ∧ k = .int .i64 j ∧ Hid (q = pw j) ∧ w = wr) (fun _ k _ => i - (intOf k).toNat)
  case atStart => exact ⟨0, 1, by omega, rfl, rfl, Lib.hid rfl, rfl⟩
  case round =>
    obtain ⟨j, q, hj, rfl, rfl, hq, rfl⟩ := hrel
    have hb := pw_bd j (by omega)
    rw [← hq.out] at hb
    by_cases hlt : j < i
    · have hn := Lib.hid (pw_succ j)
      rw [← hq.out] at hn
      go_wp2
      go_roundw
      case rel => exact ⟨j + 1, q + q, by omega, rfl, by simp, Lib.hid (by rw [Int.natCast_add]; exact hn.out.symm), trivial⟩
      case measure => simp [intOf]; omega
    · obtain rfl : j = i := by omega
      go_wp2
      go_ret
      exact ⟨ret_i hq.out, rfl⟩
theorem wrap_in {n : Int} (h0 : 0 ≤ n) (h1 : n < 4294967296) : wrap64 n = n := by unfold wrap64; omega
theorem ret_b {a b : Bool} (h : a = b) : Ending.returned (.bool a) = .returned (.bool b) := by rw [h]
set_option maxRecDepth 100000 in
theorem rhas_any (s i : Int) (w : World) : Calls Try.prog 46 #[.int .i64 s, .int .i64 i] w fun e w' => e = .returned (.bool (hb s i)) ∧ w = w' := by
  by_cases h0 : i < 0
  · have H := Lib.hid (show false = hb s i from by unfold hb; symm; simp; omega)
    go_enter Try.func46, Try.ntmps46
    go_wp2
    go_ret
    exact ⟨ret_b H.out, rfl⟩
  · by_cases h15 : 15 < i
    · have H := Lib.hid (show false = hb s i from by unfold hb; symm; simp; omega)
      go_enter Try.func46, Try.ntmps46
      go_wp2
      go_ret
      exact ⟨ret_b H.out, rfl⟩
    · obtain ⟨k, rfl⟩ : ∃ k : Nat, i = k := ⟨i.toNat, by omega⟩
      have HP := Lib.hid (fun w' => rpower_any k w' (by omega))
      have hpb := pw_bd k (by omega)
      have hlb := Lib.hid (low_bit s k (by omega))
      have H : Hid (∀ L : Int, L = s % 65536 → ((wrap64 ((wrap64 L).tdiv (pw k))).tmod 2 == 1) = hb s k ∧ ((wrap64 (L.tdiv (pw k))).tmod 2 == 1) = hb s k) := Lib.hid (fun L hL => by
        have hL0 : 0 ≤ L := by omega
        have hq0 : 0 ≤ L / pw k := Int.ediv_nonneg hL0 (by omega)
        have hq1 : L / pw k ≤ L := Int.ediv_le_self _ hL0
        have hv : ((L / pw k).tmod 2 == 1) = hb s k := by
          rw [Int.tmod_eq_emod_of_nonneg hq0, hL, hlb.out]
          unfold hb
          have : (0 ≤ (k : Int) ∧ (k : Int) ≤ 15) := by omega
          simp [this]
          rfl
        rw [wrap_in hL0 (by omega), Int.tdiv_eq_ediv_of_nonneg hL0, wrap_in hq0 (by omega)]
        exact ⟨hv, hv⟩)
      obtain ⟨P, hP⟩ : ∃ P, P = pw k := ⟨_, rfl⟩
      rw [← hP] at HP hpb
      rw [← hP] at H
      clear hP hlb
      rcases tmod16 s with ⟨hn, he⟩ | ⟨hn, he⟩
      · have H2 := Lib.hid (H.out _ he).1
        clear H he
        go_enter Try.func46, Try.ntmps46
        go_wp2_with (go_at_call 74; refine (HP.out _).mono ?_; rintro e w' ⟨rfl, rfl⟩)
        go_ret
        exact ⟨ret_b H2.out, rfl⟩
      · have H2 := Lib.hid (H.out _ he).2
        clear H he
        go_enter Try.func46, Try.ntmps46
        go_wp2_with (go_at_call 74; refine (HP.out _).mono ?_; rintro e w' ⟨rfl, rfl⟩)
        go_ret
        exact ⟨ret_b H2.out, rfl⟩
end Go.Proofs.Ytegnehdfedfphaa.BitM
namespace Go.Proofs.Ytegnehdfedfphaa.VmcM
open Go.RowKit Go.Proofs.Ytegnehdfedfphaa.Kit Go.Proofs.Ytegnehdfedfphaa.Byt Go.Proofs.Ytegnehdfedfphaa.OpsM
open Go.Proofs.Ytegnehdfedfphaa.ImgA (Im)
open Go.Proofs.Ytegnehdfedfphaa.BitM (hb)

/-- A machine's state, as the document tells it. -/
structure Z where
  pc : Int
  st : List Int
  mem : List Int
  tk : Int
  ft : Int
/-- The same, as the program has it: a stack of eight places, of which so many count, sixteen words. -/
structure V where
  pc : Int
  s : List Int
  h : Nat
  m : List Int
  tk : Int
  ft : Int
def num (x : Int) : Prop := 0 ≤ x ∧ x ≤ 65535
structure V.ok (v : V) : Prop where
  ls : v.s.length = 8
  lm : v.m.length = 16
  h8 : v.h ≤ 8
  ns : ∀ x ∈ v.s, num x
  nm : ∀ x ∈ v.m, num x
def V.z (v : V) (k : Nat) : Z := ⟨v.pc, v.s.take v.h, v.m.take k, v.tk, v.ft⟩

/-! ### what the program's deeds do -/
def need (b : Bool) (e : Int) (v : V) : V := if b = false ∧ v.ft = 0 then { v with ft := e } else v
def takeN (v : V) : Int := if v.h = 0 then 0 else v.s.getD (v.h - 1) 0
def takeV (v : V) : V := if v.h = 0 then need false 5 v else { v with h := v.h - 1 }
def lay (n : Int) (v : V) : V := if v.h < 8 then { v with s := v.s.set v.h (n % 65536), h := v.h + 1 } else need false 14 v
def tru (b : Bool) : Int := if b then 1 else 0
def two (f : Int → Int → Int) (v : V) : V := lay (f (takeN (takeV v)) (takeN v)) (takeV (takeV v))
def sum (o : Int) (a b : Int) : Int := if o = 5 then a + b else if o = 6 then a - b else if o = 7 then a * b else if o = 8 then tru (decide (a < b)) else tru (decide (a = b))
def swp (v : V) : V := lay (takeN (takeV v)) (lay (takeN v) (takeV (takeV v)))
def dupl (v : V) : V := lay (takeN v) (lay (takeN v) (takeV v))
def stor (i : Im) (a : Int) (v : V) : V := if a < i.m then { takeV v with m := (takeV v).m.set a.toNat (takeN v) } else need false 3 v
def loa (i : Im) (a : Int) (v : V) : V := if a < i.m then lay (v.m.getD a.toNat 0) v else need false 3 v
def jmp (i : Im) (a : Int) (v : V) : V := { need (decide (a < (i.n : Int))) 3 v with pc := a }
def zer (i : Im) (a : Int) (v : V) : V :=
  let u := need (decide (a < (i.n : Int))) 3 v
  if takeN u = 0 then { takeV u with pc := a } else takeV u
/-- All deeds but those with a channel. -/
def deed (i : Im) (o a : Int) (v : V) : V :=
  if o = 1 then lay a v else if o = 2 then takeV v else if o = 3 then dupl v else if o = 4 then swp v
  else if 5 ≤ o ∧ o ≤ 9 then two (sum o) v else if o = 10 then loa i a v else if o = 11 then stor i a v
  else if o = 12 then jmp i a v else if o = 13 then zer i a v else if o = 17 then need false 16 v
  else if o = 18 then lay v.tk v else v

/-! ### the document -/
def takes (o : Int) : Nat := if o = 2 ∨ o = 3 ∨ o = 11 ∨ o = 13 ∨ o = 14 then 1 else if o = 4 ∨ 5 ≤ o ∧ o ≤ 9 then 2 else 0
def lays (o : Int) : Nat := if o = 1 ∨ o = 10 ∨ o = 18 ∨ 5 ≤ o ∧ o ≤ 9 then 1 else if o = 3 ∨ o = 4 ∨ o = 15 then 2 else 0
def flt (i : Im) (h : Nat) (o a : Int) : Int :=
  if o = 17 then 16
  else if (o = 10 ∨ o = 11) ∧ i.m ≤ a ∨ (o = 12 ∨ o = 13) ∧ (i.n : Int) ≤ a then 3
  else if o = 14 ∧ hb i.s a = false ∨ o = 15 ∧ hb i.r a = false then 15
  else if h < takes o then 5 else if 8 + takes o < h + lays o then 14 else 0
def top (l : List Int) : Int := l.getLastD 0
def push (x : Int) (l : List Int) : List Int := l ++ [x % 65536]
/-- The stack and the memory behind an instruction that goes well (none with a channel). -/
def stk (o a : Int) (z : Z) : List Int :=
  if o = 1 then push a z.st else if o = 2 then z.st.dropLast else if o = 3 then push (top z.st) (push (top z.st) z.st.dropLast)
  else if o = 4 then push (top z.st.dropLast) (push (top z.st) z.st.dropLast.dropLast)
  else if 5 ≤ o ∧ o ≤ 9 then push (sum o (top z.st.dropLast) (top z.st)) z.st.dropLast.dropLast
  else if o = 10 then push (z.mem.getD a.toNat 0) z.st
  else if o = 11 ∨ o = 13 then z.st.dropLast else if o = 18 then push z.tk z.st else z.st
def mry (o a : Int) (z : Z) : List Int := if o = 11 then z.mem.set a.toNat (top z.st) else z.mem
def pcs (o a nx : Int) (z : Z) : Int := if o = 12 ∨ o = 13 ∧ top z.st = 0 then a else nx
def eff (o a nx : Int) (z : Z) : Z := ⟨pcs o a nx z, stk o a z, mry o a z, z.tk, z.ft⟩

/-! ### they are one -/
theorem need_true (e : Int) (v : V) : need true e v = v := if_neg (by simp)
theorem need_ft {b : Bool} {e : Int} {v : V} (h : v.ft ≠ 0) : need b e v = v := if_neg (fun hh => h hh.2)
theorem need_no {e : Int} {v : V} (h : v.ft = 0) : need false e v = { v with ft := e } := if_pos ⟨rfl, h⟩
theorem need_h (b : Bool) (e : Int) (v : V) : (need b e v).h = v.h ∧ (need b e v).s = v.s ∧ (need b e v).m = v.m ∧ (need b e v).pc = v.pc ∧ (need b e v).tk = v.tk := by unfold need; split <;> exact ⟨rfl, rfl, rfl, rfl, rfl⟩
theorem need_keep {b : Bool} {e : Int} {v : V} (h : v.ft ≠ 0) : (need b e v).ft = v.ft := by rw [need_ft h]
theorem take_keep {v : V} (h : v.ft ≠ 0) : (takeV v).ft = v.ft := by unfold takeV; split; exact need_keep h; rfl
theorem lay_keep {n : Int} {v : V} (h : v.ft ≠ 0) : (lay n v).ft = v.ft := by unfold lay; split; rfl; exact need_keep h
theorem V.ok.need {v : V} (h : v.ok) (b : Bool) (e : Int) : (VmcM.need b e v).ok := by
  obtain ⟨h1, h2, h3, _, _⟩ := need_h b e v
  exact ⟨h2 ▸ h.ls, h3 ▸ h.lm, h1 ▸ h.h8, h2 ▸ h.ns, h3 ▸ h.nm⟩
theorem V.ok.takeV {v : V} (h : v.ok) : (VmcM.takeV v).ok := by
  unfold VmcM.takeV
  split
  · exact h.need _ _
  · exact ⟨h.ls, h.lm, by have := h.h8; show v.h - 1 ≤ 8; omega, h.ns, h.nm⟩
theorem num_mod (n : Int) : num (n % 65536) := ⟨by omega, by omega⟩
theorem V.ok.lay {v : V} (h : v.ok) (n : Int) : (VmcM.lay n v).ok := by
  unfold VmcM.lay
  split
  · rename_i h8
    exact ⟨by show (v.s.set v.h _).length = 8; rw [List.length_set]; exact h.ls, h.lm, by show v.h + 1 ≤ 8; omega, fun x hx => by
      rcases List.mem_or_eq_of_mem_set hx with h1 | h1
      · exact h.ns x h1
      · rw [h1]; exact num_mod n, h.nm⟩
  · exact h.need _ _
theorem V.ok.takeN {v : V} (h : v.ok) : num (VmcM.takeN v) := by
  unfold VmcM.takeN
  split
  · exact ⟨by omega, by omega⟩
  · have h1 : v.h - 1 < v.s.length := by have := h.ls; have := h.h8; omega
    rw [List.getD_eq_getElem?_getD, List.getElem?_eq_getElem h1]
    exact h.ns _ (List.getElem_mem h1)
theorem num_mod_id {n : Int} (h : num n) : n % 65536 = n := by obtain ⟨h1, h2⟩ := h; omega
theorem V.ok.word {v : V} (h : v.ok) (k : Nat) : num (v.m.getD k 0) := by
  rw [List.getD_eq_getElem?_getD]
  by_cases h1 : k < v.m.length
  · rw [List.getElem?_eq_getElem h1]
    exact h.nm _ (List.getElem_mem h1)
  · rw [List.getElem?_eq_none (by omega)]
    exact ⟨by decide, by decide⟩
theorem V.ok.setm {v : V} (h : v.ok) (k : Nat) {x : Int} (hx : num x) : ({ v with m := v.m.set k x } : V).ok :=
  ⟨h.ls, by show (v.m.set k x).length = 16; rw [List.length_set]; exact h.lm, h.h8, h.ns, fun y hy => by
    rcases List.mem_or_eq_of_mem_set hy with h1 | h1
    · exact h.nm y h1
    · rw [h1]; exact hx⟩
theorem V.ok.stk {v : V} (h : v.ok) {x : Int} (hx : num x) : ({ v with s := v.s.set v.h x } : V).ok := ⟨by show (v.s.set v.h x).length = 8; rw [List.length_set]; exact h.ls, h.lm, h.h8, fun y hy => by
    rcases List.mem_or_eq_of_mem_set hy with h1 | h1
    · exact h.ns y h1
    · rw [h1]; exact hx, h.nm⟩
theorem V.ok.pc {v : V} (h : v.ok) (p : Int) : ({ v with pc := p } : V).ok := ⟨h.ls, h.lm, h.h8, h.ns, h.nm⟩
theorem V.ok.ft {v : V} (h : v.ok) (p : Int) : ({ v with ft := p } : V).ok := ⟨h.ls, h.lm, h.h8, h.ns, h.nm⟩
theorem V.ok.tk {v : V} (h : v.ok) (p : Int) : ({ v with tk := p } : V).ok := ⟨h.ls, h.lm, h.h8, h.ns, h.nm⟩
theorem V.ok.deed {v : V} (h : v.ok) (i : Im) (o a : Int) : (VmcM.deed i o a v).ok := by
  unfold VmcM.deed
  repeat' split
  · exact h.lay _
  · exact h.takeV
  · exact (h.takeV.lay _).lay _
  · exact (h.takeV.takeV.lay _).lay _
  · exact h.takeV.takeV.lay _
  · unfold loa; split
    · exact h.lay _
    · exact h.need _ _
  · unfold stor; split
    · exact h.takeV.setm _ h.takeN
    · exact h.need _ _
  · exact (h.need _ _).pc _
  · unfold zer
    dsimp only
    split
    · exact ((h.need _ _).takeV).pc _
    · exact (h.need _ _).takeV
  · exact h.need _ _
  · exact h.lay _
  · exact h

theorem take_set {s : List Int} {h : Nat} {x : Int} (hl : h < s.length) : (s.set h x).take (h + 1) = s.take h ++ [x] := by
  rw [List.take_succ_eq_append_getElem (by rw [List.length_set]; exact hl), List.getElem_set_self, List.take_set_of_le (Nat.le_refl _)]
theorem take_drop {s : List Int} {h : Nat} (hl : h ≤ s.length) : s.take (h - 1) = (s.take h).dropLast := by
  rw [List.dropLast_eq_take, List.take_take, List.length_take]
  congr 1
  omega
theorem top_take {s : List Int} {h : Nat} (h0 : h ≠ 0) (hl : h ≤ s.length) : s.getD (h - 1) 0 = top (s.take h) := by
  unfold top
  rw [List.getLastD_eq_getLast?, List.getLast?_take, if_neg h0, List.getD_eq_getElem?_getD, List.getElem?_eq_getElem (by omega)]
  rfl

section
variable {v : V} {k : Nat} {n : Int}
theorem lay_z (h : v.ok) (h8 : v.h < 8) : (lay n v).z k = ⟨v.pc, push n (v.z k).st, (v.z k).mem, v.tk, v.ft⟩ := by
  unfold lay
  rw [if_pos h8]
  show Z.mk _ ((v.s.set v.h (n % 65536)).take (v.h + 1)) _ _ _ = _
  rw [take_set (by rw [h.ls]; exact h8)]
  rfl
theorem lay_no (h8 : v.h = 8) (h0 : v.ft = 0) : (lay n v).ft = 14 := by
  unfold lay
  rw [if_neg (by omega), need_no h0]
theorem take_z (h : v.ok) (h0 : v.h ≠ 0) : (takeV v).z k = ⟨v.pc, (v.z k).st.dropLast, (v.z k).mem, v.tk, v.ft⟩ := by
  unfold takeV
  rw [if_neg h0]
  show Z.mk _ (v.s.take (v.h - 1)) _ _ _ = _
  rw [take_drop (by rw [h.ls]; exact h.h8)]
  rfl
theorem take_top (h : v.ok) (h0 : v.h ≠ 0) : takeN v = top (v.z k).st := by
  unfold takeN
  rw [if_neg h0]
  exact top_take h0 (by rw [h.ls]; exact h.h8)
theorem take_h (h0 : v.h ≠ 0) : (takeV v).h = v.h - 1 ∧ (takeV v).ft = v.ft ∧ (takeV v).pc = v.pc ∧ (takeV v).tk = v.tk ∧ (takeV v).m = v.m := by
  unfold takeV
  rw [if_neg h0]
  exact ⟨rfl, rfl, rfl, rfl, rfl⟩
theorem take_no (h0 : v.h = 0) (hf : v.ft = 0) : (takeV v).ft = 5 := by
  unfold takeV
  rw [if_pos h0, need_no hf]
theorem lay_h (h8 : v.h < 8) : (lay n v).h = v.h + 1 ∧ (lay n v).ft = v.ft ∧ (lay n v).pc = v.pc ∧ (lay n v).tk = v.tk ∧ (lay n v).m = v.m := by
  unfold lay
  rw [if_pos h8]
  exact ⟨rfl, rfl, rfl, rfl, rfl⟩
/-- Two that are taken, one that is laid. -/
theorem two_z (f : Int → Int → Int) (h : v.ok) (h2 : 2 ≤ v.h) : (two f v).z k = ⟨v.pc, push (f (top (v.z k).st.dropLast) (top (v.z k).st)) (v.z k).st.dropLast.dropLast, (v.z k).mem, v.tk, v.ft⟩ := by
  obtain ⟨a1, a2, a3, a4, a5⟩ := take_h (v := v) (by omega)
  obtain ⟨b1, b2, b3, b4, b5⟩ := take_h (v := takeV v) (by omega)
  have e1 := take_z (k := k) h (by omega)
  have e2 := take_z (k := k) h.takeV (by omega)
  have t1 := take_top (k := k) h (by omega)
  have t2 := take_top (k := k) h.takeV (by omega)
  have h8 := h.h8
  unfold two
  rw [lay_z h.takeV.takeV (by omega), t1, t2, e2, e1, b3, a3, b4, a4, b2, a2]
theorem two_no (f : Int → Int → Int) (h2 : v.h < 2) (hf : v.ft = 0) : (two f v).ft = 5 := by
  unfold two
  by_cases h0 : v.h = 0
  · have e := take_no h0 hf
    rw [lay_keep (by rw [take_keep (by rw [e]; decide), e]; decide), take_keep (by rw [e]; decide), e]
  · obtain ⟨a1, a2, _⟩ := take_h h0
    have e := take_no (v := takeV v) (by omega) (by rw [a2, hf])
    rw [lay_keep (by rw [e]; decide), e]
theorem swp_z (h : v.ok) (h2 : 2 ≤ v.h) : (swp v).z k = ⟨v.pc, push (top (v.z k).st.dropLast) (push (top (v.z k).st) (v.z k).st.dropLast.dropLast), (v.z k).mem, v.tk, v.ft⟩ := by
  obtain ⟨a1, a2, a3, a4, a5⟩ := take_h (v := v) (by omega)
  obtain ⟨b1, b2, b3, b4, b5⟩ := take_h (v := takeV v) (by omega)
  have h8 := h.h8
  obtain ⟨c1, c2, c3, c4, c5⟩ := lay_h (v := takeV (takeV v)) (n := takeN v) (by omega)
  have e1 := take_z (k := k) h (by omega)
  have e2 := take_z (k := k) h.takeV (by omega)
  have t1 := take_top (k := k) h (by omega)
  have t2 := take_top (k := k) h.takeV (by omega)
  unfold swp
  rw [lay_z (h.takeV.takeV.lay _) (by omega), lay_z h.takeV.takeV (by omega), c2, c3, c4, t1, t2, e2, e1, b3, a3, b4, a4, b2, a2]
theorem swp_no (h2 : v.h < 2) (hf : v.ft = 0) : (swp v).ft = 5 := by
  unfold swp
  have key : (takeV (takeV v)).ft = 5 := by
    by_cases h0 : v.h = 0
    · have e := take_no h0 hf
      rw [take_keep (by rw [e]; decide), e]
    · obtain ⟨a1, a2, _⟩ := take_h h0
      exact take_no (v := takeV v) (by omega) (by rw [a2, hf])
  have k2 : (lay (takeN v) (takeV (takeV v))).ft = 5 := by rw [lay_keep (by rw [key]; decide), key]
  rw [lay_keep (by rw [k2]; decide), k2]
theorem dup_z (h : v.ok) (h1 : v.h ≠ 0) (h7 : v.h ≠ 8) : (dupl v).z k = ⟨v.pc, push (top (v.z k).st) (push (top (v.z k).st) (v.z k).st.dropLast), (v.z k).mem, v.tk, v.ft⟩ := by
  obtain ⟨a1, a2, a3, a4, a5⟩ := take_h (v := v) h1
  have h8 := h.h8
  obtain ⟨c1, c2, c3, c4, c5⟩ := lay_h (v := takeV v) (n := takeN v) (by omega)
  have e1 := take_z (k := k) h h1
  have t1 := take_top (k := k) h h1
  unfold dupl
  rw [lay_z (h.takeV.lay _) (by omega), lay_z h.takeV (by omega), c2, c3, c4, t1, e1, a3, a4, a2]
theorem dup_no (h1 : v.h = 0) (hf : v.ft = 0) : (dupl v).ft = 5 := by
  have e := take_no h1 hf
  have k2 : (lay (takeN v) (takeV v)).ft = 5 := by rw [lay_keep (by rw [e]; decide), e]
  unfold dupl
  rw [lay_keep (by rw [k2]; decide), k2]
theorem dup_full (h1 : v.h = 8) (hf : v.ft = 0) : (dupl v).ft = 14 := by
  obtain ⟨a1, a2, a3, a4, a5⟩ := take_h (v := v) (by omega)
  obtain ⟨c1, c2, c3, c4, c5⟩ := lay_h (v := takeV v) (n := takeN v) (by omega)
  unfold dupl
  exact lay_no (by omega) (by rw [c2, a2, hf])
end
theorem getD_take {l : List Int} {a k : Nat} (h : a < k) : (l.take k).getD a 0 = l.getD a 0 := by
  rw [List.getD_eq_getElem?_getD, List.getD_eq_getElem?_getD, List.getElem?_take, if_pos h]
theorem set_take (l : List Int) (a k : Nat) (x : Int) : (l.set a x).take k = (l.take k).set a x := by
  rw [List.take_set]
theorem two_case {i : Im} {v : V} {a : Int} (h : v.ok) (hf : v.ft = 0) (o : Int) (ho : 5 ≤ o ∧ o ≤ 9) : (flt i v.h o a ≠ 0 → (deed i o a v).ft = flt i v.h o a) ∧ (flt i v.h o a = 0 → (deed i o a v).z i.m.toNat = eff o a v.pc (v.z i.m.toNat)) := by
  have h8 := h.h8
  have e1 : deed i o a v = two (sum o) v := by
    unfold deed
    rw [if_neg (by omega), if_neg (by omega), if_neg (by omega), if_neg (by omega), if_pos ho]
  have t2 : takes o = 2 := by
    unfold takes
    rw [if_neg (by omega), if_pos (Or.inr ho)]
  have l1 : lays o = 1 := by
    unfold lays
    rw [if_pos (by omega)]
  have ef : flt i v.h o a = if v.h < 2 then 5 else 0 := by
    unfold flt
    rw [if_neg (by omega), if_neg (by omega), if_neg (fun hh => by rcases hh with ⟨h1, _⟩ | ⟨h1, _⟩ <;> omega), t2, l1]
    by_cases h2 : v.h < 2
    · rw [if_pos h2, if_pos h2]
    · rw [if_neg h2, if_neg h2, if_neg (by omega)]
  rw [e1, ef]
  by_cases h2 : v.h < 2
  · rw [if_pos h2]
    exact ⟨fun _ => two_no _ h2 hf, fun h => absurd h (by decide)⟩
  · rw [if_neg h2]
    refine ⟨fun h => absurd rfl h, fun _ => (two_z _ h (by omega)).trans ?_⟩
    unfold eff pcs stk mry
    rw [if_neg (by omega), if_neg (by omega), if_neg (by omega), if_neg (by omega), if_neg (by omega), if_pos ho, if_neg (by omega)]
    rfl
/-- A deed without a channel: it fails as the document says, or does what it says. -/
theorem deed_z {i : Im} {v : V} (h : v.ok) (hf : v.ft = 0) (hm : 0 ≤ i.m) {o a : Int} (ho : 0 ≤ o ∧ o ≤ 18) (h14 : o ≠ 14) (h15 : o ≠ 15) (ha : 0 ≤ a) :
    (flt i v.h o a ≠ 0 → (deed i o a v).ft = flt i v.h o a) ∧ (flt i v.h o a = 0 → (deed i o a v).z i.m.toNat = eff o a v.pc (v.z i.m.toNat)) := by
  have h8 := h.h8
  obtain ⟨o, rfl⟩ : ∃ q : Nat, o = q := ⟨o.toNat, by omega⟩
  have hq : o ≤ 18 := by omega
  have e0 : ∀ n : Nat, n ≤ 18 → n ≠ 14 → n ≠ 15 → ((flt i v.h (n : Int) a ≠ 0 → (deed i (n : Int) a v).ft = flt i v.h (n : Int) a) ∧ (flt i v.h (n : Int) a = 0 → (deed i (n : Int) a v).z i.m.toNat = eff (n : Int) a v.pc (v.z i.m.toNat))) := by
    intro n hn h1 h2
    match n, hn with
    | 0, _ => exact ⟨fun hh => absurd (by simp [flt, takes, lays]; omega) hh, fun _ => by simp [deed, eff, pcs, stk, mry, V.z]⟩
    | 16, _ => exact ⟨fun hh => absurd (by simp [flt, takes, lays]; omega) hh, fun _ => by simp [deed, eff, pcs, stk, mry, V.z]⟩
    | 17, _ => exact ⟨fun _ => by simp [deed, flt, need_no hf], fun hh => by simp [flt] at hh⟩
    | 1, _ =>
      by_cases hh : v.h = 8
      · have e : flt i v.h 1 a = 14 := by simp [flt, takes, lays, hh]
        exact ⟨fun _ => by rw [show ((1 : Nat) : Int) = 1 from rfl, e]; exact lay_no hh hf, fun h => by rw [show ((1 : Nat) : Int) = 1 from rfl, e] at h; exact absurd h (by decide)⟩
      · have e : flt i v.h 1 a = 0 := by simp [flt, takes, lays]; omega
        exact ⟨fun h => absurd e h, fun _ => (lay_z h (by omega)).trans (by simp [eff, pcs, stk, mry, V.z])⟩
    | 18, _ =>
      by_cases hh : v.h = 8
      · have e : flt i v.h 18 a = 14 := by simp [flt, takes, lays, hh]
        exact ⟨fun _ => by rw [show ((18 : Nat) : Int) = 18 from rfl, e]; exact lay_no hh hf, fun h => by rw [show ((18 : Nat) : Int) = 18 from rfl, e] at h; exact absurd h (by decide)⟩
      · have e : flt i v.h 18 a = 0 := by simp [flt, takes, lays]; omega
        exact ⟨fun h => absurd e h, fun _ => (lay_z h (by omega)).trans (by simp [eff, pcs, stk, mry, V.z])⟩
    | 2, _ =>
      by_cases hh : v.h = 0
      · have e : flt i v.h 2 a = 5 := by simp [flt, takes, hh]
        exact ⟨fun _ => by rw [show ((2 : Nat) : Int) = 2 from rfl, e]; exact take_no hh hf, fun h => by rw [show ((2 : Nat) : Int) = 2 from rfl, e] at h; exact absurd h (by decide)⟩
      · have e : flt i v.h 2 a = 0 := by simp [flt, takes, lays]; omega
        exact ⟨fun h => absurd e h, fun _ => (take_z h hh).trans (by simp [eff, pcs, stk, mry, V.z])⟩
    | 3, _ =>
      by_cases hh : v.h = 0
      · have e : flt i v.h 3 a = 5 := by simp [flt, takes, hh]
        exact ⟨fun _ => by rw [show ((3 : Nat) : Int) = 3 from rfl, e]; exact dup_no hh hf, fun h => by rw [show ((3 : Nat) : Int) = 3 from rfl, e] at h; exact absurd h (by decide)⟩
      · by_cases h9 : v.h = 8
        · have e : flt i v.h 3 a = 14 := by simp [flt, takes, lays, h9]
          exact ⟨fun _ => by rw [show ((3 : Nat) : Int) = 3 from rfl, e]; exact dup_full h9 hf, fun h => by rw [show ((3 : Nat) : Int) = 3 from rfl, e] at h; exact absurd h (by decide)⟩
        · have e : flt i v.h 3 a = 0 := by simp [flt, takes, lays]; omega
          exact ⟨fun h => absurd e h, fun _ => (dup_z h hh h9).trans (by simp [eff, pcs, stk, mry, V.z])⟩
    | 4, _ =>
      by_cases hh : v.h < 2
      · have e : flt i v.h 4 a = 5 := by simp [flt, takes, hh]
        exact ⟨fun _ => by rw [show ((4 : Nat) : Int) = 4 from rfl, e]; exact swp_no hh hf, fun h => by rw [show ((4 : Nat) : Int) = 4 from rfl, e] at h; exact absurd h (by decide)⟩
      · have e : flt i v.h 4 a = 0 := by simp [flt, takes, lays]; omega
        exact ⟨fun h => absurd e h, fun _ => (swp_z h (by omega)).trans (by simp [eff, pcs, stk, mry, V.z])⟩
    | 10, _ =>
      by_cases hr : a < i.m
      · by_cases hh : v.h = 8
        · have e : flt i v.h 10 a = 14 := by simp [flt, takes, lays, hh, hr]
          exact ⟨fun _ => by rw [show ((10 : Nat) : Int) = 10 from rfl, e]; show (loa i a v).ft = 14; unfold loa; rw [if_pos hr]; exact lay_no hh hf, fun h => by rw [show ((10 : Nat) : Int) = 10 from rfl, e] at h; exact absurd h (by decide)⟩
        · have e : flt i v.h 10 a = 0 := by simp [flt, takes, lays]; omega
          refine ⟨fun h => absurd e h, fun _ => ?_⟩
          show (loa i a v).z _ = _
          unfold loa
          rw [if_pos hr, lay_z h (by omega), eff]
          show _ = Z.mk _ (push (((v.m.take i.m.toNat)).getD a.toNat 0) _) _ _ _
          rw [getD_take (by omega)]
          simp [pcs, mry, V.z]
      · have e : flt i v.h 10 a = 3 := by simp [flt]; omega
        exact ⟨fun _ => by rw [show ((10 : Nat) : Int) = 10 from rfl, e]; show (loa i a v).ft = 3; unfold loa; rw [if_neg hr, need_no hf], fun h => by rw [show ((10 : Nat) : Int) = 10 from rfl, e] at h; exact absurd h (by decide)⟩
    | 11, _ =>
      by_cases hr : a < i.m
      · by_cases hh : v.h = 0
        · have e : flt i v.h 11 a = 5 := by simp [flt, takes, hh, hr]
          exact ⟨fun _ => by rw [show ((11 : Nat) : Int) = 11 from rfl, e]; show (stor i a v).ft = 5; unfold stor; rw [if_pos hr]; exact take_no hh hf, fun h => by rw [show ((11 : Nat) : Int) = 11 from rfl, e] at h; exact absurd h (by decide)⟩
        · have e : flt i v.h 11 a = 0 := by simp [flt, takes, lays]; omega
          refine ⟨fun h => absurd e h, fun _ => ?_⟩
          show (stor i a v).z _ = _
          unfold stor
          have e1 := take_z (k := i.m.toNat) h hh
          have t1 := take_top (k := i.m.toNat) h hh
          obtain ⟨a1, a2, a3, a4, a5⟩ := take_h (v := v) hh
          rw [if_pos hr, t1]
          show Z.mk _ _ (((takeV v).m.set a.toNat _).take i.m.toNat) _ _ = _
          rw [set_take, a5]
          have e2 := congrArg Z.st e1
          simp only [V.z] at e2 ⊢
          rw [e2]
          simp [eff, pcs, stk, mry, a2, a3, a4]
      · have e : flt i v.h 11 a = 3 := by simp [flt]; omega
        exact ⟨fun _ => by rw [show ((11 : Nat) : Int) = 11 from rfl, e]; show (stor i a v).ft = 3; unfold stor; rw [if_neg hr, need_no hf], fun h => by rw [show ((11 : Nat) : Int) = 11 from rfl, e] at h; exact absurd h (by decide)⟩
    | 12, _ =>
      by_cases hr : a < (i.n : Int)
      · have e : flt i v.h 12 a = 0 := by simp [flt, takes, lays]; omega
        refine ⟨fun h => absurd e h, fun _ => ?_⟩
        show (jmp i a v).z _ = _
        unfold jmp
        rw [show decide (a < (i.n : Int)) = true from decide_eq_true hr, need_true]
        simp [eff, pcs, stk, mry, V.z]
      · have e : flt i v.h 12 a = 3 := by simp [flt]; omega
        exact ⟨fun _ => by rw [show ((12 : Nat) : Int) = 12 from rfl, e]; show (jmp i a v).ft = 3; unfold jmp; rw [show decide (a < (i.n : Int)) = false from decide_eq_false hr, need_no hf], fun h => by rw [show ((12 : Nat) : Int) = 12 from rfl, e] at h; exact absurd h (by decide)⟩
    | 13, _ =>
      by_cases hr : a < (i.n : Int)
      · have hzr : zer i a v = if takeN v = 0 then { takeV v with pc := a } else takeV v := by
          unfold zer
          rw [show decide (a < (i.n : Int)) = true from decide_eq_true hr, need_true]
        by_cases hh : v.h = 0
        · have e : flt i v.h 13 a = 5 := by simp [flt, takes, hh, hr]
          refine ⟨fun _ => ?_, fun h => by rw [show ((13 : Nat) : Int) = 13 from rfl, e] at h; exact absurd h (by decide)⟩
          rw [show ((13 : Nat) : Int) = 13 from rfl, e]
          show (zer i a v).ft = 5
          rw [hzr]
          split
          · exact take_no hh hf
          · exact take_no hh hf
        · have e : flt i v.h 13 a = 0 := by simp [flt, takes, lays]; omega
          refine ⟨fun h => absurd e h, fun _ => ?_⟩
          show (zer i a v).z _ = _
          have e1 := take_z (k := i.m.toNat) h hh
          have t1 := take_top (k := i.m.toNat) h hh
          obtain ⟨a1, a2, a3, a4, a5⟩ := take_h (v := v) hh
          rw [hzr, t1]
          by_cases ht : top (v.z i.m.toNat).st = 0
          · rw [if_pos ht]
            have e2 := congrArg Z.st e1
            have e3 := congrArg Z.mem e1
            simp only [V.z] at e2 e3 ht ⊢
            rw [e2, e3]
            simp [eff, pcs, stk, mry, a2, a4, ht]
          · rw [if_neg ht, e1]
            simp only [V.z] at ht
            simp [eff, pcs, stk, mry, ht, V.z]
      · have e : flt i v.h 13 a = 3 := by simp [flt]; omega
        refine ⟨fun _ => ?_, fun h => by rw [show ((13 : Nat) : Int) = 13 from rfl, e] at h; exact absurd h (by decide)⟩
        rw [show ((13 : Nat) : Int) = 13 from rfl, e]
        show (zer i a v).ft = 3
        unfold zer
        rw [show decide (a < (i.n : Int)) = false from decide_eq_false hr, need_no hf]
        have e3 : (takeV { v with ft := 3 }).ft = 3 := by rw [take_keep (by show (3 : Int) ≠ 0; decide)]
        dsimp only
        split
        · exact e3
        · exact e3
    | n + 19, hn => omega
    | 5, _ => exact two_case h hf 5 (by decide)
    | 6, _ => exact two_case h hf 6 (by decide)
    | 7, _ => exact two_case h hf 7 (by decide)
    | 8, _ => exact two_case h hf 8 (by decide)
    | 9, _ => exact two_case h hf 9 (by decide)
    | 14, _ => exact absurd rfl h1
    | 15, _ => exact absurd rfl h2
  exact e0 o hq (by omega) (by omega)
end Go.Proofs.Ytegnehdfedfphaa.VmcM
namespace Go.Proofs.Ytegnehdfedfphaa.BitA
open Go.RowKit Go.Proofs.Ytegnehdfedfphaa.Kit Go.Proofs.Ytegnehdfedfphaa.Mem Go.Proofs.Ytegnehdfedfphaa.BitM

def i64s (l : List Int) : List Value := l.map (Value.int .i64)
theorem i64s_one (l : List Int) : ∀ u ∈ i64s l, u.oneCell' = true := ints_oneCell _ _
theorem i64s_app (l m : List Int) : i64s l ++ i64s m = i64s (l ++ m) := by simp [i64s]
theorem i64s_len (l : List Int) : (i64s l).length = l.length := List.length_map ..
theorem i64s_rd (w : World) (x : Int) : Rd (w.alloc (.cells #[.int .i64 x] 3)) (some ⟨w.heap.size, 0, none⟩) 1 1 (i64s [x]) := by
  have h := own_of_block (w := w.alloc (.cells #[.int .i64 x] 3)) (g := w.heap.size) (cur := [.int .i64 x]) (e := 3) (base := w.heap.size) (n := 1) (heap_alloc_new w _) (Nat.le_refl _) (by simp) (by simp)
  exact Rd.own h
theorem info_int : (Try.prog.info? 3).map (fun i => (i.zero, i.size, i.bytes)) = some (some (.int .i64 0), 1, 8) := by kernel_rfl
/-- How many blocks are asked of. -/
def lim (n : Int) : Nat := (if n < 0 then 0 else if 16 < n then 16 else n).toNat
theorem lim_le (n : Int) : lim n ≤ 16 := by unfold lim; repeat (first | omega | split)
/-- What of the first k blocks isn't there. -/
def miss (s : Int) : Nat → List Int
  | 0 => []
  | k + 1 => miss s k ++ (if hb s k then [] else [(k : Int)])
def Hands (w : World) (l : List Int) (e : Ending) (w' : World) : Prop := ∃ A n c, e = .returned (.slice A n c) ∧ Rd w' A n c (i64s l) ∧ Below w.heap.size w w'
end Go.Proofs.Ytegnehdfedfphaa.BitA
namespace Go.Proofs.Ytegnehdfedfphaa.VmcA
open Go.RowKit Go.Proofs.Ytegnehdfedfphaa.Kit Go.Proofs.Ytegnehdfedfphaa.Byt Go.Proofs.Ytegnehdfedfphaa.Mem Go.Proofs.Ytegnehdfedfphaa.VmcM
open Go.Proofs.Ytegnehdfedfphaa.ImgA (Im)
open Go.Proofs.Ytegnehdfedfphaa.BitA (i64s)

/-- The cells of a state. -/
def scells (v : V) : List Value := .int .i64 v.pc :: (i64s v.s ++ (.int .i64 v.h :: (i64s v.m ++ [.int .i64 v.tk, .int .i64 v.ft])))
theorem i64s_at {l : List Int} {k : Nat} (h : k < l.length) : (i64s l)[k]? = some (.int .i64 (l.getD k 0)) := by
  unfold i64s
  rw [List.getElem?_map, List.getD_eq_getElem?_getD, List.getElem?_eq_getElem h]
  rfl
theorem i64s_set (l : List Int) (k : Nat) (x : Int) : (i64s l).set k (.int .i64 x) = i64s (l.set k x) := by
  unfold i64s
  rw [List.map_set]
section
variable {v : V} (h : v.ok)
include h
theorem sc_len : (scells v).length = 28 := by
  simp [scells, i64s, h.ls, h.lm]
theorem sc_s {k : Nat} (hk : k < 8) : (scells v)[1 + k]? = some (.int .i64 (v.s.getD k 0)) := by
  unfold scells
  rw [show 1 + k = k + 1 by omega, List.getElem?_cons_succ, List.getElem?_append_left (by simp [i64s, h.ls]; omega)]
  exact i64s_at (by rw [h.ls]; exact hk)
theorem sc_tail (j : Nat) : (scells v)[9 + j]? = (Value.int .i64 v.h :: (i64s v.m ++ [.int .i64 v.tk, .int .i64 v.ft]))[j]? := by
  unfold scells
  rw [show 9 + j = (8 + j) + 1 by omega, List.getElem?_cons_succ, List.getElem?_append_right (by simp [i64s, h.ls])]
  congr 1
  simp [i64s, h.ls]
theorem sc_h : (scells v)[9]? = some (.int .i64 v.h) := sc_tail h 0
theorem sc_m {k : Nat} (hk : k < 16) : (scells v)[10 + k]? = some (.int .i64 (v.m.getD k 0)) := by
  have e := sc_tail h (k + 1)
  rw [show 9 + (k + 1) = 10 + k by omega] at e
  rw [e, List.getElem?_cons_succ, List.getElem?_append_left (by simp [i64s, h.lm]; omega)]
  exact i64s_at (by rw [h.lm]; exact hk)
theorem sc_two (j : Nat) : (scells v)[26 + j]? = [Value.int .i64 v.tk, .int .i64 v.ft][j]? := by
  have e := sc_tail h (17 + j)
  rw [show 9 + (17 + j) = 26 + j by omega] at e
  rw [e, show 17 + j = (16 + j) + 1 by omega, List.getElem?_cons_succ, List.getElem?_append_right (by simp [i64s, h.lm])]
  congr 1
  simp [i64s, h.lm]
theorem sc_tk : (scells v)[26]? = some (.int .i64 v.tk) := sc_two h 0
theorem sc_ft : (scells v)[27]? = some (.int .i64 v.ft) := sc_two h 1
theorem set_s {k : Nat} (hk : k < 8) (x : Int) : (scells v).set (1 + k) (.int .i64 x) = scells { v with s := v.s.set k x } := by
  unfold scells
  rw [show 1 + k = k + 1 by omega, List.set_cons_succ, List.set_append_left _ _ (by simp [i64s, h.ls]; omega), i64s_set]
theorem set_tail (j : Nat) (y : Value) : (scells v).set (9 + j) y = .int .i64 v.pc :: (i64s v.s ++ ((Value.int .i64 v.h :: (i64s v.m ++ [.int .i64 v.tk, .int .i64 v.ft])).set j y)) := by
  unfold scells
  rw [show 9 + j = (8 + j) + 1 by omega, List.set_cons_succ, List.set_append_right _ _ (by simp [i64s, h.ls])]
  congr 3
  simp [i64s, h.ls]
theorem set_h (x : Nat) : (scells v).set 9 (.int .i64 x) = scells { v with h := x } := set_tail h 0 _
theorem set_m {k : Nat} (hk : k < 16) (x : Int) : (scells v).set (10 + k) (.int .i64 x) = scells { v with m := v.m.set k x } := by
  have e := set_tail h (k + 1) (.int .i64 x)
  rw [show 9 + (k + 1) = 10 + k by omega] at e
  rw [e, List.set_cons_succ, List.set_append_left _ _ (by simp [i64s, h.lm]; omega), i64s_set]
  rfl
theorem set_two (j : Nat) (y : Value) : (scells v).set (26 + j) y = .int .i64 v.pc :: (i64s v.s ++ (Value.int .i64 v.h :: (i64s v.m ++ ([.int .i64 v.tk, .int .i64 v.ft].set j y)))) := by
  have e := set_tail h (17 + j) y
  rw [show 9 + (17 + j) = 26 + j by omega] at e
  rw [e, show 17 + j = (16 + j) + 1 by omega, List.set_cons_succ, List.set_append_right _ _ (by simp [i64s, h.lm])]
  congr 4
  simp [i64s, h.lm]
theorem set_tk (x : Int) : (scells v).set 26 (.int .i64 x) = scells { v with tk := x } := set_two h 0 _
theorem set_ft (x : Int) : (scells v).set 27 (.int .i64 x) = scells { v with ft := x } := set_two h 1 _
end
theorem sc_pc (v : V) : (scells v)[0]? = some (.int .i64 v.pc) := rfl
theorem set_pc (v : V) (x : Int) : (scells v).set 0 (.int .i64 x) = scells { v with pc := x } := rfl

/-- The cells of what an instruction works on: the ports, what is told, whether the tick ends. -/
def wt (i : Im) (P : Value) (o : Nat) (e : Bool) : List Value := i.cells ++ [P, .pointer (some ⟨o, 0, none⟩), .bool e]
def wc (v : V) (i : Im) (P : Value) (o : Nat) (e : Bool) : List Value := scells v ++ wt i P o e
section
variable {v : V} {i : Im} {P : Value} {o b : Nat} {e : Bool} {w : World}
theorem wc_at (_h : v.ok) {k : Nat} {x : Value} (hx : (scells v)[k]? = some x) : (wc v i P o e)[k]? = some x := by
  unfold wc
  rw [List.getElem?_append_left (List.getElem?_eq_some_iff.1 hx).1]
  exact hx
theorem wc_tail (h : v.ok) (k : Nat) : (wc v i P o e)[28 + k]? = (wt i P o e)[k]? := by
  unfold wc
  rw [List.getElem?_append_right (by rw [sc_len h]; omega), sc_len h]
  congr 1
  omega
theorem wc_set (h : v.ok) {k : Nat} {x : Value} {u : V} (hk : k < 28) (hx : (scells v).set k x = scells u) : (wc v i P o e).set k x = wc u i P o e := by
  unfold wc
  rw [List.set_append_left _ _ (by rw [sc_len h]; exact hk), hx]
theorem wc_ends (h : v.ok) (e' : Bool) : (wc v i P o e).set 38 (.bool e') = wc v i P o e' := by
  unfold wc
  rw [List.set_append_right _ _ (by rw [sc_len h]; omega), sc_len h]
  rfl
/-- It lies in block b. -/
def Wb (w : World) (b : Nat) (v : V) (i : Im) (P : Value) (o : Nat) (e : Bool) : Prop := Blk w b 128 (wc v i P o e)
theorem Wb.at_ (hB : Wb w b v i P o e) (h : v.ok) {k : Nat} {x : Value} (hx : (scells v)[k]? = some x) : w.cell? ⟨b, k, none⟩ = some x := Blk.cell hB (wc_at h hx)
theorem Wb.tail (hB : Wb w b v i P o e) (h : v.ok) {k : Nat} {x : Value} (hx : (wt i P o e)[k]? = some x) : w.cell? ⟨b, 28 + k, none⟩ = some x := Blk.cell hB ((wc_tail h k).trans hx)
theorem Wb.frozen (hB : Wb w b v i P o e) (k : Nat) : w.frozen? ⟨b, k, none⟩ = false := Blk.frozen hB k
theorem Wb.put (hB : Wb w b v i P o e) (h : v.ok) {k : Nat} {x : Value} {u : V} (hk : k < 28) (hx : (scells v).set k x = scells u) : Wb (w.setCell ⟨b, k, none⟩ x) b u i P o e := by
  have hs := Blk.set hB k x
  rw [wc_set h hk hx] at hs
  exact hs
theorem Wb.only (hB : Wb w b v i P o e) {w' : World} {g : Nat} (ho : Only g w w') (hg : b ≠ g) : Wb w' b v i P o e := ho.blk hB hg
theorem Wb.drewN (hB : Wb w b v i P o e) (n : Nat) : Wb (w.drewN n) b v i P o e := hB
theorem only_drewN {g : Nat} {w' : World} (h : Only g w w') (n : Nat) : Only g w (w'.drewN n) := ⟨⟨h.1.os, h.1.tape, h.1.output, h.1.size, h.1.block⟩, h.2⟩
/-- What a function leaves that works on it alone. -/
def Did (b : Nat) (i : Im) (P : Value) (o : Nat) (w : World) (r : Value) (u : V) (f : Bool) (en : Ending) (w' : World) : Prop := en = .returned r ∧ Wb w' b u i P o f ∧ Only b w w'
theorem need_any (h : v.ok) (hB : Wb w b v i P o e) (hs : Bool) (x : Int) : Calls Try.prog 75 #[.pointer (some ⟨b, 0, none⟩), .bool hs, .int .i64 x] w (Did b i P o w (.bool hs) (need hs x v) e) := by
  have c27 := hB.at_ h (sc_ft h)
  have z27 := hB.frozen 27
  have HB := Lib.hid hB
  have HP := Lib.hid (fun (y : Int) => hB.put h (by omega) (set_ft h y))
  clear hB
  cases hs
  · by_cases hf : v.ft = 0
    · have e2 := Lib.hid (need_no (e := x) hf)
      rw [hf] at c27
      go_enter Try.func75, Try.ntmps75
      go_wp2
      go_ret
      refine ⟨rfl, ?_, Only.set w b 27 _⟩
      rw [e2.out]
      exact HP.out x
    · have e2 := Lib.hid (need_ft (b := false) (e := x) hf)
      go_enter Try.func75, Try.ntmps75
      go_wp2
      go_ret
      exact ⟨rfl, by rw [e2.out]; exact HB.out, Only.refl _ _⟩
  · go_enter Try.func75, Try.ntmps75
    go_wp2
    go_ret
    exact ⟨rfl, by rw [need_true]; exact HB.out, Only.refl _ _⟩
theorem need_yes (b : Nat) (x : Int) (w : World) : Calls Try.prog 75 #[.pointer (some ⟨b, 0, none⟩), .bool true, .int .i64 x] w fun e w' => e = .returned (.bool true) ∧ w' = w := by
  go_enter Try.func75, Try.ntmps75
  go_wp2
  go_ret
  exact ⟨rfl, rfl⟩
end
end Go.Proofs.Ytegnehdfedfphaa.VmcA
namespace Go.Proofs.Ytegnehdfedfphaa.VmcB
open Go.RowKit Go.Proofs.Ytegnehdfedfphaa.Kit Go.Proofs.Ytegnehdfedfphaa.Byt Go.Proofs.Ytegnehdfedfphaa.Mem Go.Proofs.Ytegnehdfedfphaa.VmcM Go.Proofs.Ytegnehdfedfphaa.VmcA
open Go.Proofs.Ytegnehdfedfphaa.ImgA (Im)
open Go.Proofs.Ytegnehdfedfphaa.BitA (i64s)

theorem and16 (n : Int) : bits .and .i64 n 65535 = n % 65536 := by
  have h3 : (BitVec.ofInt 64 65535).toNat = 2 ^ 16 - 1 := by decide
  have key : (BitVec.ofInt 64 n &&& BitVec.ofInt 64 65535).toNat = (n % ((2 ^ 64 : Nat) : Int)).toNat % 2 ^ 16 := by
    rw [BitVec.toNat_and, BitVec.toNat_ofInt, h3, Nat.and_two_pow_sub_one_eq_mod]
  show IntKind.i64.wrap ((BitVec.ofInt 64 n &&& BitVec.ofInt 64 65535).toNat : Nat) = n % 65536
  rw [key, IntKind.wrap_i64]
  omega
section
variable {v : V} {i : Im} {P : Value} {o b : Nat} {e : Bool} {w : World}
set_option maxRecDepth 100000 in
theorem take_any (h : v.ok) (hB : Wb w b v i P o e) : Calls Try.prog 76 #[.pointer (some ⟨b, 0, none⟩)] w (Did b i P o w (.int .i64 (takeN v)) (takeV v) e) := by
  have c9 := hB.at_ h (sc_h h)
  have z9 := hB.frozen 9
  have h8 := h.h8
  by_cases h0 : v.h = 0
  · have HN := Lib.hid (need_any h hB false 5)
    have e1 : takeN v = 0 := if_pos h0
    have e2 : takeV v = need false 5 v := if_pos h0
    rw [e1, e2]
    rw [h0] at c9
    clear hB h e1 e2
    go_enter Try.func76, Try.ntmps76
    go_wp2_with (go_at_call 75; refine HN.out.mono ?_; rintro en w1 ⟨rfl, h1, h2⟩; have H1 := Lib.hid h1; have H2 := Lib.hid h2; clear h1 h2)
    go_ret
    exact ⟨rfl, H1.out, H2.out⟩
  · have hk := hB.at_ h (sc_s h (k := v.h - 1) (by omega))
    have hb1 := hB.put h (k := 9) (by omega) (set_h h (v.h - 1))
    have e1 : takeN v = v.s.getD (v.h - 1) 0 := if_neg h0
    have e2 : takeV v = { v with h := v.h - 1 } := if_neg h0
    rw [e1, e2]
    obtain ⟨x, hx⟩ : ∃ x, x = v.s.getD (v.h - 1) 0 := ⟨_, rfl⟩
    obtain ⟨k, hk'⟩ : ∃ k, k + 1 = v.h := ⟨v.h - 1, by omega⟩
    have ek : v.h - 1 = k := by omega
    rw [ek] at hb1 hx hk
    rw [ek, ← hx]
    rw [← hx] at hk
    rw [← hk', Int.natCast_add] at c9
    have hp : (0 : Int) < (k : Int) + 1 := by omega
    have hp1 : (k : Int) + 1 ≤ 8 := by omega
    have hk1 := (World.cell?_setCell_other w ⟨b, 9, none⟩ ⟨b, 1 + k, none⟩ (.int .i64 k) (by simp)).trans hk
    have HB1 := Lib.hid hb1
    have HO := Lib.hid (Only.set w b 9 (.int .i64 k))
    clear hB h hb1 e1 e2 ek hx hk'
    go_enter Try.func76, Try.ntmps76
    go_wp2_with (go_at_call 75; refine (need_yes _ _ _).mono ?_; rintro en w1 ⟨rfl, rfl⟩)
    go_quiet (fail)
    go_wp2
    go_ret
    exact ⟨rfl, HB1.out.drewN nq, only_drewN HO.out nq⟩
set_option maxRecDepth 100000 in
theorem lay_any (h : v.ok) (hB : Wb w b v i P o e) (n : Int) : Calls Try.prog 56 #[.pointer (some ⟨b, 0, none⟩), .int .i64 n] w (Did b i P o w (.tuple #[]) (lay n v) e) := by
  have c9 := hB.at_ h (sc_h h)
  have z9 := hB.frozen 9
  by_cases h8 : v.h < 8
  · have hk := hB.at_ h (sc_s h (k := v.h) h8)
    have zk := hB.frozen (1 + v.h)
    have e1 : lay n v = { v with s := v.s.set v.h (n % 65536), h := v.h + 1 } := if_pos h8
    rw [e1]
    have e0 := and16 n
    have h2 := hB.put h (k := 1 + v.h) (by omega) (set_s h h8 (n % 65536))
    have o2 := Only.set w b (1 + v.h) (.int .i64 (n % 65536))
    have h3 := h2.put (k := 9) (V.ok.stk h (num_mod n)) (by omega) (set_h (V.ok.stk h (num_mod n)) (v.h + 1))
    have o3 := o2.trans (Only.set (w.setCell ⟨b, 1 + v.h, none⟩ (.int .i64 (n % 65536))) b 9 (.int .i64 ((v.h + 1 : Nat) : Int)))
    rw [Int.natCast_add] at h3 o3
    obtain ⟨x, hx⟩ : ∃ x, x = v.s.getD v.h 0 := ⟨_, rfl⟩
    obtain ⟨y, hy⟩ : ∃ y, y = n % 65536 := ⟨_, rfl⟩
    obtain ⟨k, hk'⟩ : ∃ k, k = v.h := ⟨_, rfl⟩
    rw [← hx, ← hk'] at hk
    rw [← hk'] at c9 zk
    rw [← hk', ← hy] at h3 o3 ⊢
    rw [← hy] at e0
    have c91 := (World.cell?_setCell_other (w := w) (a := ⟨b, 1 + k, none⟩) (b := ⟨b, 9, none⟩) (v := .int .i64 y) (by simp)).trans c9
    have hlt : (k : Int) < 8 := by omega
    have HB3 := Lib.hid h3
    have HO3 := Lib.hid o3
    clear hB h h2 h3 o2 o3 e1 hx hy hk' h8
    go_enter Try.func56, Try.ntmps56
    go_wp2_with (go_at_call 75; refine (need_yes _ _ _).mono ?_; rintro en w1 ⟨rfl, rfl⟩)
    go_region
    go_wp2
    go_end0
    exact ⟨rfl, HB3.out, HO3.out.drew⟩
  · have HN := Lib.hid (need_any h hB false 14)
    have e2 : lay n v = need false 14 v := if_neg h8
    have hlt : ¬ (v.h : Int) < 8 := by omega
    rw [e2]
    clear hB h e2 h8
    go_enter Try.func56, Try.ntmps56
    go_wp2_with (go_at_call 75; refine HN.out.mono ?_; rintro en w1 ⟨rfl, h1, h2⟩; have H1 := Lib.hid h1; have H2 := Lib.hid h2; clear h1 h2)
    first | go_end0 | refine bodyPost_ret (results_none rfl _ _ _) rfl ?_
    exact ⟨rfl, H1.out, H2.out⟩
set_option maxRecDepth 100000 in
theorem truth_any (h : v.ok) (hB : Wb w b v i P o e) (t : Bool) : Calls Try.prog 77 #[.pointer (some ⟨b, 0, none⟩), .bool t] w (Did b i P o w (.tuple #[]) (lay (tru t) v) e) := by
  have HL := Lib.hid (lay_any h hB (tru t))
  clear hB h
  cases t
  all_goals
    go_enter Try.func77, Try.ntmps77
    go_wp2_with (go_at_call 56; refine HL.out.mono ?_; rintro en w1 ⟨rfl, h1, h2⟩; have H1 := Lib.hid h1; have H2 := Lib.hid h2; clear h1 h2)
    first | go_end0 | refine bodyPost_ret (results_none rfl _ _ _) rfl ?_
    exact ⟨rfl, H1.out, H2.out⟩
end
end Go.Proofs.Ytegnehdfedfphaa.VmcB
namespace Go.Proofs.Ytegnehdfedfphaa.VmcC
open Go.RowKit Go.Proofs.Ytegnehdfedfphaa.Kit Go.Proofs.Ytegnehdfedfphaa.Byt Go.Proofs.Ytegnehdfedfphaa.Mem Go.Proofs.Ytegnehdfedfphaa.VmcM Go.Proofs.Ytegnehdfedfphaa.VmcA Go.Proofs.Ytegnehdfedfphaa.VmcB
open Go.Proofs.Ytegnehdfedfphaa.ImgA (Im)
open Go.Proofs.Ytegnehdfedfphaa.BitA (i64s)

section
variable {v : V} {i : Im} {P : Value} {o b : Nat} {e : Bool} {w : World} {a : Int}
set_option maxRecDepth 100000 in
theorem yield_any (h : v.ok) (hB : Wb w b v i P o e) (a : Int) : Calls Try.prog 55 #[.pointer (some ⟨b, 0, none⟩), .int .i64 a] w (Did b i P o w (.tuple #[]) (v) true) := by
  have c38 := hB.tail h (k := 10) (x := .bool e) rfl
  have z38 := hB.frozen 38
  have hs := Blk.set hB 38 (.bool true)
  rw [wc_ends h true] at hs
  have HS := Lib.hid hs
  clear hB hs h
  go_enter Try.func55, Try.ntmps55
  go_wp2
  first | go_end0 | refine bodyPost_ret (results_none rfl _ _ _) rfl ?_
  exact ⟨rfl, HS.out, Only.set w b 38 _⟩
set_option maxRecDepth 100000 in
theorem drop_any (h : v.ok) (hB : Wb w b v i P o e) (a : Int) : Calls Try.prog 57 #[.pointer (some ⟨b, 0, none⟩), .int .i64 a] w (Did b i P o w (.tuple #[]) (takeV v) e) := by
  have HT := Lib.hid (take_any h hB)
  clear hB h
  go_enter Try.func57, Try.ntmps57
  go_wp2_with fail
  refine (HT.out).mono ?_
  rintro en w1 ⟨rfl, p1, q1⟩
  have P1 := Lib.hid p1
  have Q1 := Lib.hid q1
  clear p1 q1
  go_wp2
  first | go_end0 | refine bodyPost_ret (results_none rfl _ _ _) rfl ?_
  exact ⟨rfl, P1.out, Q1.out⟩
set_option maxRecDepth 100000 in
theorem now_any (h : v.ok) (hB : Wb w b v i P o e) (a : Int) : Calls Try.prog 73 #[.pointer (some ⟨b, 0, none⟩), .int .i64 a] w (Did b i P o w (.tuple #[]) (lay v.tk v) e) := by
  have c26 := hB.at_ h (sc_tk h)
  have HL := Lib.hid (lay_any h hB v.tk)
  clear hB h
  go_enter Try.func73, Try.ntmps73
  go_wp2_with fail
  refine (HL.out).mono ?_
  rintro en w1 ⟨rfl, p1, q1⟩
  have P1 := Lib.hid p1
  have Q1 := Lib.hid q1
  clear p1 q1
  go_wp2
  first | go_end0 | refine bodyPost_ret (results_none rfl _ _ _) rfl ?_
  exact ⟨rfl, P1.out, Q1.out⟩
set_option maxRecDepth 100000 in
theorem halt_any (h : v.ok) (hB : Wb w b v i P o e) (a : Int) : Calls Try.prog 72 #[.pointer (some ⟨b, 0, none⟩), .int .i64 a] w (Did b i P o w (.tuple #[]) (need false 16 v) e) := by
  have HN := Lib.hid (need_any h hB false 16)
  clear hB h
  go_enter Try.func72, Try.ntmps72
  go_wp2_with fail
  refine (HN.out).mono ?_
  rintro en w1 ⟨rfl, p1, q1⟩
  have P1 := Lib.hid p1
  have Q1 := Lib.hid q1
  clear p1 q1
  go_wp2
  first | go_end0 | refine bodyPost_ret (results_none rfl _ _ _) rfl ?_
  exact ⟨rfl, P1.out, Q1.out⟩
set_option maxRecDepth 100000 in
theorem dup_any (h : v.ok) (hB : Wb w b v i P o e) (a : Int) : Calls Try.prog 58 #[.pointer (some ⟨b, 0, none⟩), .int .i64 a] w (Did b i P o w (.tuple #[]) (dupl v) e) := by
  unfold dupl
  obtain ⟨x, hx⟩ : ∃ x, x = takeN v := ⟨_, rfl⟩
  obtain ⟨u, hu⟩ : ∃ u, u = takeV v := ⟨_, rfl⟩
  have ku : u.ok := hu ▸ h.takeV
  have nx : num x := hx ▸ h.takeN
  have T1 := take_any h hB
  rw [← hx, ← hu] at T1 ⊢
  have HT1 := Lib.hid T1
  obtain ⟨u2, hu2⟩ : ∃ u2, u2 = lay x u := ⟨_, rfl⟩
  have ku2 : u2.ok := hu2 ▸ ku.lay x
  have HL := Lib.hid (fun w' (hw : Wb w' b u i P o e) => hu2 ▸ lay_any ku hw x)
  have HL2 := Lib.hid (fun w' (hw : Wb w' b u2 i P o e) => lay_any ku2 hw x)
  rw [← hu2]
  clear T1 hx hu hu2 hB h nx
  go_enter Try.func58, Try.ntmps58
  go_wp2_with fail
  refine (HT1.out).mono ?_
  rintro en w1 ⟨rfl, p1, q1⟩
  have P1 := Lib.hid p1
  have Q1 := Lib.hid q1
  clear p1 q1
  go_wp2_with fail
  refine (HL.out _ P1.out).mono ?_
  rintro en w2 ⟨rfl, p2, q2⟩
  have P2 := Lib.hid p2
  have Q2 := Lib.hid q2
  clear p2 q2
  go_wp2_with fail
  refine (HL2.out _ P2.out).mono ?_
  rintro en w3 ⟨rfl, p3, q3⟩
  have P3 := Lib.hid p3
  have Q3 := Lib.hid q3
  clear p3 q3
  go_wp2
  first | go_end0 | refine bodyPost_ret (results_none rfl _ _ _) rfl ?_
  exact ⟨rfl, P3.out, (Q1.out.trans Q2.out).trans Q3.out⟩
set_option maxRecDepth 100000 in
theorem swap_any (h : v.ok) (hB : Wb w b v i P o e) (a : Int) : Calls Try.prog 59 #[.pointer (some ⟨b, 0, none⟩), .int .i64 a] w (Did b i P o w (.tuple #[]) (swp v) e) := by
  unfold swp
  obtain ⟨x, hx⟩ : ∃ x, x = takeN v := ⟨_, rfl⟩
  obtain ⟨u, hu⟩ : ∃ u, u = takeV v := ⟨_, rfl⟩
  have ku : u.ok := hu ▸ h.takeV
  have nx : num x := hx ▸ h.takeN
  have T1 := take_any h hB
  rw [← hx, ← hu] at T1 ⊢
  have HT1 := Lib.hid T1
  obtain ⟨y, hy⟩ : ∃ y, y = takeN u := ⟨_, rfl⟩
  obtain ⟨u2, hu2⟩ : ∃ u2, u2 = takeV u := ⟨_, rfl⟩
  have ku2 : u2.ok := hu2 ▸ ku.takeV
  have ny : num y := hy ▸ ku.takeN
  have HT2 := Lib.hid (show ∀ w', Wb w' b u i P o e → Calls Try.prog 76 #[.pointer (some ⟨b, 0, none⟩)] w' (Did b i P o w' (.int .i64 y) u2 e) from fun w' hw => by have T2 := take_any ku hw; rwa [← hy, ← hu2] at T2)
  rw [← hy, ← hu2]
  obtain ⟨u3, hu3⟩ : ∃ u3, u3 = lay x u2 := ⟨_, rfl⟩
  have ku3 : u3.ok := hu3 ▸ ku2.lay x
  have HL := Lib.hid (fun w' (hw : Wb w' b u2 i P o e) => hu3 ▸ lay_any ku2 hw x)
  have HL2 := Lib.hid (fun w' (hw : Wb w' b u3 i P o e) => lay_any ku3 hw y)
  rw [← hu3]
  clear T1 hx hu hu2 hu3 hy hB h nx ny
  go_enter Try.func59, Try.ntmps59
  go_wp2_with fail
  refine (HT1.out).mono ?_
  rintro en w1 ⟨rfl, p1, q1⟩
  have P1 := Lib.hid p1
  have Q1 := Lib.hid q1
  clear p1 q1
  go_wp2_with fail
  refine (HT2.out _ P1.out).mono ?_
  rintro en w2 ⟨rfl, p2, q2⟩
  have P2 := Lib.hid p2
  have Q2 := Lib.hid q2
  clear p2 q2
  go_wp2_with fail
  refine (HL.out _ P2.out).mono ?_
  rintro en w3 ⟨rfl, p3, q3⟩
  have P3 := Lib.hid p3
  have Q3 := Lib.hid q3
  clear p3 q3
  go_wp2_with fail
  refine (HL2.out _ P3.out).mono ?_
  rintro en w4 ⟨rfl, p4, q4⟩
  have P4 := Lib.hid p4
  have Q4 := Lib.hid q4
  clear p4 q4
  go_wp2
  first | go_end0 | refine bodyPost_ret (results_none rfl _ _ _) rfl ?_
  exact ⟨rfl, P4.out, ((Q1.out.trans Q2.out).trans Q3.out).trans Q4.out⟩
set_option maxRecDepth 100000 in
theorem add_any (h : v.ok) (hB : Wb w b v i P o e) (a : Int) : Calls Try.prog 60 #[.pointer (some ⟨b, 0, none⟩), .int .i64 a] w (Did b i P o w (.tuple #[]) (two (sum 5) v) e) := by
  unfold two
  obtain ⟨x, hx⟩ : ∃ x, x = takeN v := ⟨_, rfl⟩
  obtain ⟨u, hu⟩ : ∃ u, u = takeV v := ⟨_, rfl⟩
  have ku : u.ok := hu ▸ h.takeV
  have nx : num x := hx ▸ h.takeN
  have T1 := take_any h hB
  rw [← hx, ← hu] at T1 ⊢
  have HT1 := Lib.hid T1
  obtain ⟨y, hy⟩ : ∃ y, y = takeN u := ⟨_, rfl⟩
  obtain ⟨u2, hu2⟩ : ∃ u2, u2 = takeV u := ⟨_, rfl⟩
  have ku2 : u2.ok := hu2 ▸ ku.takeV
  have ny : num y := hy ▸ ku.takeN
  have HT2 := Lib.hid (show ∀ w', Wb w' b u i P o e → Calls Try.prog 76 #[.pointer (some ⟨b, 0, none⟩)] w' (Did b i P o w' (.int .i64 y) u2 e) from fun w' hw => by have T2 := take_any ku hw; rwa [← hy, ← hu2] at T2)
  rw [← hy, ← hu2]
  rw [show sum 5 y x = y + x from rfl]
  have n1 := nx.1
  have n2 := nx.2
  have n3 := ny.1
  have n4 := ny.2
  have HL := Lib.hid (fun w' (hw : Wb w' b u2 i P o e) => lay_any ku2 hw (y + x))
  clear T1 hx hu hu2 hy hB h nx ny
  go_enter Try.func60, Try.ntmps60
  go_wp2_with fail
  refine (HT1.out).mono ?_
  rintro en w1 ⟨rfl, p1, q1⟩
  have P1 := Lib.hid p1
  have Q1 := Lib.hid q1
  clear p1 q1
  go_wp2_with fail
  refine (HT2.out _ P1.out).mono ?_
  rintro en w2 ⟨rfl, p2, q2⟩
  have P2 := Lib.hid p2
  have Q2 := Lib.hid q2
  clear p2 q2
  go_wp2_with fail
  refine (HL.out _ P2.out).mono ?_
  rintro en w3 ⟨rfl, p3, q3⟩
  have P3 := Lib.hid p3
  have Q3 := Lib.hid q3
  clear p3 q3
  go_wp2
  first | go_end0 | refine bodyPost_ret (results_none rfl _ _ _) rfl ?_
  exact ⟨rfl, P3.out, (Q1.out.trans Q2.out).trans Q3.out⟩
set_option maxRecDepth 100000 in
theorem sub_any (h : v.ok) (hB : Wb w b v i P o e) (a : Int) : Calls Try.prog 61 #[.pointer (some ⟨b, 0, none⟩), .int .i64 a] w (Did b i P o w (.tuple #[]) (two (sum 6) v) e) := by
  unfold two
  obtain ⟨x, hx⟩ : ∃ x, x = takeN v := ⟨_, rfl⟩
  obtain ⟨u, hu⟩ : ∃ u, u = takeV v := ⟨_, rfl⟩
  have ku : u.ok := hu ▸ h.takeV
  have nx : num x := hx ▸ h.takeN
  have T1 := take_any h hB
  rw [← hx, ← hu] at T1 ⊢
  have HT1 := Lib.hid T1
  obtain ⟨y, hy⟩ : ∃ y, y = takeN u := ⟨_, rfl⟩
  obtain ⟨u2, hu2⟩ : ∃ u2, u2 = takeV u := ⟨_, rfl⟩
  have ku2 : u2.ok := hu2 ▸ ku.takeV
  have ny : num y := hy ▸ ku.takeN
  have HT2 := Lib.hid (show ∀ w', Wb w' b u i P o e → Calls Try.prog 76 #[.pointer (some ⟨b, 0, none⟩)] w' (Did b i P o w' (.int .i64 y) u2 e) from fun w' hw => by have T2 := take_any ku hw; rwa [← hy, ← hu2] at T2)
  rw [← hy, ← hu2]
  rw [show sum 6 y x = y - x from rfl]
  have n1 := nx.1
  have n2 := nx.2
  have n3 := ny.1
  have n4 := ny.2
  have HL := Lib.hid (fun w' (hw : Wb w' b u2 i P o e) => lay_any ku2 hw (y - x))
  clear T1 hx hu hu2 hy hB h nx ny
  go_enter Try.func61, Try.ntmps61
  go_wp2_with fail
  refine (HT1.out).mono ?_
  rintro en w1 ⟨rfl, p1, q1⟩
  have P1 := Lib.hid p1
  have Q1 := Lib.hid q1
  clear p1 q1
  go_wp2_with fail
  refine (HT2.out _ P1.out).mono ?_
  rintro en w2 ⟨rfl, p2, q2⟩
  have P2 := Lib.hid p2
  have Q2 := Lib.hid q2
  clear p2 q2
  go_wp2_with fail
  refine (HL.out _ P2.out).mono ?_
  rintro en w3 ⟨rfl, p3, q3⟩
  have P3 := Lib.hid p3
  have Q3 := Lib.hid q3
  clear p3 q3
  go_wp2
  first | go_end0 | refine bodyPost_ret (results_none rfl _ _ _) rfl ?_
  exact ⟨rfl, P3.out, (Q1.out.trans Q2.out).trans Q3.out⟩
set_option maxRecDepth 100000 in
theorem mul_any (h : v.ok) (hB : Wb w b v i P o e) (a : Int) : Calls Try.prog 62 #[.pointer (some ⟨b, 0, none⟩), .int .i64 a] w (Did b i P o w (.tuple #[]) (two (sum 7) v) e) := by
  unfold two
  obtain ⟨x, hx⟩ : ∃ x, x = takeN v := ⟨_, rfl⟩
  obtain ⟨u, hu⟩ : ∃ u, u = takeV v := ⟨_, rfl⟩
  have ku : u.ok := hu ▸ h.takeV
  have nx : num x := hx ▸ h.takeN
  have T1 := take_any h hB
  rw [← hx, ← hu] at T1 ⊢
  have HT1 := Lib.hid T1
  obtain ⟨y, hy⟩ : ∃ y, y = takeN u := ⟨_, rfl⟩
  obtain ⟨u2, hu2⟩ : ∃ u2, u2 = takeV u := ⟨_, rfl⟩
  have ku2 : u2.ok := hu2 ▸ ku.takeV
  have ny : num y := hy ▸ ku.takeN
  have HT2 := Lib.hid (show ∀ w', Wb w' b u i P o e → Calls Try.prog 76 #[.pointer (some ⟨b, 0, none⟩)] w' (Did b i P o w' (.int .i64 y) u2 e) from fun w' hw => by have T2 := take_any ku hw; rwa [← hy, ← hu2] at T2)
  rw [← hy, ← hu2]
  rw [show sum 7 y x = y * x from rfl]
  have n1 := nx.1
  have n2 := nx.2
  have n3 := ny.1
  have n4 := ny.2
  have n5 : 0 ≤ y * x := Int.mul_nonneg n3 n1
  have n6 : y * x ≤ 65535 * 65535 := Int.mul_le_mul n4 n2 n1 (by omega)
  have n7 : y * x ≤ 4294836225 := n6
  have HL := Lib.hid (fun w' (hw : Wb w' b u2 i P o e) => lay_any ku2 hw (y * x))
  clear T1 hx hu hu2 hy hB h nx ny
  go_enter Try.func62, Try.ntmps62
  go_wp2_with fail
  refine (HT1.out).mono ?_
  rintro en w1 ⟨rfl, p1, q1⟩
  have P1 := Lib.hid p1
  have Q1 := Lib.hid q1
  clear p1 q1
  go_wp2_with fail
  refine (HT2.out _ P1.out).mono ?_
  rintro en w2 ⟨rfl, p2, q2⟩
  have P2 := Lib.hid p2
  have Q2 := Lib.hid q2
  clear p2 q2
  go_wp2_with fail
  refine (HL.out _ P2.out).mono ?_
  rintro en w3 ⟨rfl, p3, q3⟩
  have P3 := Lib.hid p3
  have Q3 := Lib.hid q3
  clear p3 q3
  go_wp2
  first | go_end0 | refine bodyPost_ret (results_none rfl _ _ _) rfl ?_
  exact ⟨rfl, P3.out, (Q1.out.trans Q2.out).trans Q3.out⟩
set_option maxRecDepth 100000 in
theorem less_any (h : v.ok) (hB : Wb w b v i P o e) (a : Int) : Calls Try.prog 63 #[.pointer (some ⟨b, 0, none⟩), .int .i64 a] w (Did b i P o w (.tuple #[]) (two (sum 8) v) e) := by
  unfold two
  obtain ⟨x, hx⟩ : ∃ x, x = takeN v := ⟨_, rfl⟩
  obtain ⟨u, hu⟩ : ∃ u, u = takeV v := ⟨_, rfl⟩
  have ku : u.ok := hu ▸ h.takeV
  have nx : num x := hx ▸ h.takeN
  have T1 := take_any h hB
  rw [← hx, ← hu] at T1 ⊢
  have HT1 := Lib.hid T1
  obtain ⟨y, hy⟩ : ∃ y, y = takeN u := ⟨_, rfl⟩
  obtain ⟨u2, hu2⟩ : ∃ u2, u2 = takeV u := ⟨_, rfl⟩
  have ku2 : u2.ok := hu2 ▸ ku.takeV
  have ny : num y := hy ▸ ku.takeN
  have HT2 := Lib.hid (show ∀ w', Wb w' b u i P o e → Calls Try.prog 76 #[.pointer (some ⟨b, 0, none⟩)] w' (Did b i P o w' (.int .i64 y) u2 e) from fun w' hw => by have T2 := take_any ku hw; rwa [← hy, ← hu2] at T2)
  rw [← hy, ← hu2]
  rw [show sum 8 y x = tru (decide (y < x)) from rfl]
  have n1 := nx.1
  have n2 := nx.2
  have n3 := ny.1
  have n4 := ny.2
  have HL := Lib.hid (fun w' (hw : Wb w' b u2 i P o e) => truth_any ku2 hw (decide (y < x)))
  clear T1 hx hu hu2 hy hB h nx ny
  go_enter Try.func63, Try.ntmps63
  go_wp2_with fail
  refine (HT1.out).mono ?_
  rintro en w1 ⟨rfl, p1, q1⟩
  have P1 := Lib.hid p1
  have Q1 := Lib.hid q1
  clear p1 q1
  go_wp2_with fail
  refine (HT2.out _ P1.out).mono ?_
  rintro en w2 ⟨rfl, p2, q2⟩
  have P2 := Lib.hid p2
  have Q2 := Lib.hid q2
  clear p2 q2
  go_wp2_with fail
  refine (HL.out _ P2.out).mono ?_
  rintro en w3 ⟨rfl, p3, q3⟩
  have P3 := Lib.hid p3
  have Q3 := Lib.hid q3
  clear p3 q3
  go_wp2
  first | go_end0 | refine bodyPost_ret (results_none rfl _ _ _) rfl ?_
  exact ⟨rfl, P3.out, (Q1.out.trans Q2.out).trans Q3.out⟩
set_option maxRecDepth 100000 in
theorem same_any (h : v.ok) (hB : Wb w b v i P o e) (a : Int) : Calls Try.prog 64 #[.pointer (some ⟨b, 0, none⟩), .int .i64 a] w (Did b i P o w (.tuple #[]) (two (sum 9) v) e) := by
  unfold two
  obtain ⟨x, hx⟩ : ∃ x, x = takeN v := ⟨_, rfl⟩
  obtain ⟨u, hu⟩ : ∃ u, u = takeV v := ⟨_, rfl⟩
  have ku : u.ok := hu ▸ h.takeV
  have nx : num x := hx ▸ h.takeN
  have T1 := take_any h hB
  rw [← hx, ← hu] at T1 ⊢
  have HT1 := Lib.hid T1
  obtain ⟨y, hy⟩ : ∃ y, y = takeN u := ⟨_, rfl⟩
  obtain ⟨u2, hu2⟩ : ∃ u2, u2 = takeV u := ⟨_, rfl⟩
  have ku2 : u2.ok := hu2 ▸ ku.takeV
  have ny : num y := hy ▸ ku.takeN
  have HT2 := Lib.hid (show ∀ w', Wb w' b u i P o e → Calls Try.prog 76 #[.pointer (some ⟨b, 0, none⟩)] w' (Did b i P o w' (.int .i64 y) u2 e) from fun w' hw => by have T2 := take_any ku hw; rwa [← hy, ← hu2] at T2)
  rw [← hy, ← hu2]
  rw [show sum 9 y x = tru (decide (y = x)) from rfl]
  have n1 := nx.1
  have n2 := nx.2
  have n3 := ny.1
  have n4 := ny.2
  have HL := Lib.hid (fun w' (hw : Wb w' b u2 i P o e) => truth_any ku2 hw (decide (y = x)))
  clear T1 hx hu hu2 hy hB h nx ny
  go_enter Try.func64, Try.ntmps64
  go_wp2_with fail
  refine (HT1.out).mono ?_
  rintro en w1 ⟨rfl, p1, q1⟩
  have P1 := Lib.hid p1
  have Q1 := Lib.hid q1
  clear p1 q1
  go_wp2_with fail
  refine (HT2.out _ P1.out).mono ?_
  rintro en w2 ⟨rfl, p2, q2⟩
  have P2 := Lib.hid p2
  have Q2 := Lib.hid q2
  clear p2 q2
  go_wp2_with fail
  refine (HL.out _ P2.out).mono ?_
  rintro en w3 ⟨rfl, p3, q3⟩
  have P3 := Lib.hid p3
  have Q3 := Lib.hid q3
  clear p3 q3
  go_wp2
  first | go_end0 | refine bodyPost_ret (results_none rfl _ _ _) rfl ?_
  exact ⟨rfl, P3.out, (Q1.out.trans Q2.out).trans Q3.out⟩
end
end Go.Proofs.Ytegnehdfedfphaa.VmcC
namespace Go.Proofs.Ytegnehdfedfphaa.BitB
open Go.RowKit Go.Proofs.Ytegnehdfedfphaa.Kit Go.Proofs.Ytegnehdfedfphaa.BitM

/-- The set, and the block. -/
def wv (s i : Int) : Int := if 0 ≤ i ∧ i ≤ 15 ∧ hb s i = false then s + pw i else s
theorem pw_add (a b : Nat) : pw ((a + b : Nat) : Int) = pw a * pw b := by
  unfold pw
  rw [show (((a + b : Nat)) : Int).toNat = a + b from by omega, show ((a : Int)).toNat = a from by omega, show ((b : Int)).toNat = b from by omega]
  exact Int.pow_add ..
theorem pw_pos (k : Nat) : 1 ≤ pw k := by
  unfold pw
  rw [show ((k : Int)).toNat = k from by omega]
  exact_mod_cast Nat.one_le_two_pow
theorem hb_nat (s : Int) {k : Nat} (h : k ≤ 15) : hb s k = decide (s / pw k % 2 = 1) := by
  unfold hb
  have : (0 ≤ (k : Int) ∧ (k : Int) ≤ 15) := by omega
  simp [this]
theorem up_low (s : Int) {i k : Nat} (h : k < i) : (s + pw i) / pw k % 2 = s / pw k % 2 := by
  have e : pw i = pw k * (2 * pw ((i - k - 1 : Nat) : Int)) := by
    have h1 := pw_add k (1 + (i - k - 1))
    have h2 := pw_add 1 (i - k - 1)
    rw [show k + (1 + (i - k - 1)) = i from by omega] at h1
    rw [h1, h2]
    rfl
  have hp := pw_pos k
  rw [e, Int.add_mul_ediv_left _ _ (by omega)]
  omega
theorem up_same (s : Int) (i : Nat) : (s + pw i) / pw i = s / pw i + 1 := by
  have hp := pw_pos i
  have h := Int.add_mul_ediv_left s 1 (show pw i ≠ 0 by omega)
  rwa [Int.mul_one] at h
theorem up_high (s : Int) {i k : Nat} (h : i < k) (h0 : s / pw i % 2 = 0) : (s + pw i) / pw k = s / pw k := by
  have e : pw k = pw i * (2 * pw ((k - i - 1 : Nat) : Int)) := by
    have h1 := pw_add i (1 + (k - i - 1))
    have h2 := pw_add 1 (k - i - 1)
    rw [show i + (1 + (k - i - 1)) = k from by omega] at h1
    rw [h1, h2]
    rfl
  have hp := pw_pos i
  rw [e, ← Int.ediv_ediv_of_nonneg (by omega), ← Int.ediv_ediv_of_nonneg (by omega), ← Int.ediv_ediv_of_nonneg (by omega), ← Int.ediv_ediv_of_nonneg (by omega), up_same]
  rw [show (s / pw i + 1) / 2 = s / pw i / 2 from by omega]
/-- With a block it is there, all others as they were. -/
theorem hb_wv (s i : Int) {k : Nat} (hk : k ≤ 15) : hb (wv s i) k = (hb s k || decide ((k : Int) = i)) := by
  unfold wv
  by_cases hi : 0 ≤ i ∧ i ≤ 15 ∧ hb s i = false
  · rw [if_pos hi]
    obtain ⟨j, rfl⟩ : ∃ j : Nat, i = j := ⟨i.toNat, by omega⟩
    have hj : j ≤ 15 := by omega
    have h0 := hi.2.2
    rw [hb_nat s hj] at h0
    have h0' : s / pw j % 2 = 0 := by have := of_decide_eq_false h0; omega
    rw [hb_nat _ hk, hb_nat _ hk]
    rcases Nat.lt_trichotomy k j with h | h | h
    · rw [up_low s h]
      simp; omega
    · subst h
      rw [up_same]
      simp; omega
    · rw [up_high s h h0']
      simp; omega
  · rw [if_neg hi]
    by_cases he : (k : Int) = i
    · subst he
      have : hb s k = true := by
        cases h : hb s k
        · exact absurd ⟨by omega, by omega, h⟩ hi
        · rfl
      simp [this]
    · simp [he]
end Go.Proofs.Ytegnehdfedfphaa.BitB
namespace Go.Proofs.Ytegnehdfedfphaa.BitC
open Go.RowKit Go.Proofs.Ytegnehdfedfphaa.Kit Go.Proofs.Ytegnehdfedfphaa.Mem Go.Proofs.Ytegnehdfedfphaa.BitM Go.Proofs.Ytegnehdfedfphaa.BitA Go.Proofs.Ytegnehdfedfphaa.BitB

theorem wv_no {s : Int} {k : Nat} (h : k ≤ 15) (h0 : hb s k = false) : wv s k = s + pw k := by
  unfold wv
  rw [if_pos ⟨by omega, by omega, h0⟩]
/-- With a block more a set of so many blocks is one still. -/
theorem more_lt {h : Int} {m k : Nat} (_ : 0 ≤ h) (h1 : h < 2 ^ m) (hk : k < m) (hm : m ≤ 16) (hn : hb h k = false) : h + pw k < 2 ^ m := by
  -- the bit k of h is 0, so h + 2^k has the bits of h, and k
  rw [hb_nat _ (by omega)] at hn
  have hn' : h / pw k % 2 = 0 := by have := of_decide_eq_false hn; omega
  have e : (2 : Int) ^ m = pw k * (2 * pw ((m - k - 1 : Nat) : Int)) := by
    have h2 := pw_add k (1 + (m - k - 1))
    have h3 := pw_add 1 (m - k - 1)
    rw [show k + (1 + (m - k - 1)) = m from by omega] at h2
    have h4 : (2 : Int) ^ m = pw m := by unfold pw; rw [show ((m : Int)).toNat = m from by omega]
    rw [h4, h2, h3]
    rfl
  have hp := pw_pos k
  have hq := pw_pos (m - k - 1)
  obtain ⟨P, hP⟩ : ∃ P, P = pw k := ⟨_, rfl⟩
  obtain ⟨Q, hQ⟩ : ∃ Q, Q = pw ((m - k - 1 : Nat) : Int) := ⟨_, rfl⟩
  rw [e] at h1 ⊢
  rw [← hP] at hp hn' h1 ⊢
  rw [← hQ] at hq h1 ⊢
  have h5 : h / P < 2 * Q := Int.ediv_lt_of_lt_mul (by omega) (by rw [Int.mul_comm]; exact h1)
  have h6 : h / P + 2 ≤ 2 * Q := by omega
  have h7 := Int.lt_ediv_add_one_mul_self h (show 0 < P by omega)
  have h8 := Int.mul_le_mul_of_nonneg_right h6 (show 0 ≤ P by omega)
  rw [Int.mul_comm (2 * Q) P, show h / P + 2 = (h / P + 1) + 1 from by omega, Int.add_mul] at h8
  omega
def fw (s : Int) (l : List Int) : Int := l.foldl wv s
theorem hb_fw (s : Int) (l : List Int) {k : Nat} (hk : k ≤ 15) : hb (fw s l) k = (hb s k || decide ((k : Int) ∈ l)) := by
  induction l generalizing s with
  | nil => simp [fw]
  | cons x l ih =>
    show hb (fw (wv s x) l) k = _
    rw [ih, hb_wv s x hk, Bool.or_assoc]
    simp
theorem mem_miss (s : Int) (m : Nat) {k : Nat} (hk : k < m) (h : hb s k = false) : (k : Int) ∈ miss s m := by
  induction m with
  | zero => omega
  | succ m ih =>
    rw [miss, List.mem_append]
    by_cases he : k = m
    · subst he; exact .inr (by rw [h]; simp)
    · exact .inl (ih (by omega))
theorem miss_in (s : Int) (m : Nat) : ∀ x ∈ miss s m, 0 ≤ x ∧ x < m := by
  induction m with
  | zero => intro x hx; simp [miss] at hx
  | succ m ih =>
    intro x hx
    rw [miss, List.mem_append] at hx
    rcases hx with hx | hx
    · have := ih x hx; omega
    · by_cases h : hb s m = true
      · rw [if_pos h] at hx; simp at hx
      · rw [if_neg h] at hx; simp at hx; omega
theorem miss_nil (s : Int) (m : Nat) (h : ∀ k, k < m → hb s k = true) : miss s m = [] := by
  induction m with
  | zero => rfl
  | succ m ih => rw [miss, ih (fun k hk => h k (by omega)), h m (by omega)]; rfl
theorem all_in (s : Int) (m : Nat) (hm : m ≤ 16) : miss (fw s (miss s m)) m = [] := miss_nil _ _ fun k hk => by
  rw [hb_fw s _ (by omega)]
  cases h : hb s k
  · simp [mem_miss s m hk h]
  · rfl
theorem fw_next (s : Int) (l : List Int) {j : Nat} (h : j < l.length) : fw s (l.take (j + 1)) = wv (fw s (l.take j)) (l.getD j 0) := by
  unfold fw
  rw [List.take_add_one, List.foldl_append, List.getElem?_eq_getElem h, List.getD_eq_getElem?_getD, List.getElem?_eq_getElem h]
  rfl
theorem at_int {w : World} {A : Option Addr} {n c : Nat} {l : List Int} (h : Rd w A n c (i64s l)) {k : Nat} (hk : k < n) : ∃ b o, A = some ⟨b, o, none⟩ ∧ w.cell? ⟨b, o + k, none⟩ = some (.int .i64 (l.getD k 0)) := by
  obtain ⟨b, o, hA, hc⟩ := Rd.at_ h hk
  have hl : k < l.length := by have := h.len; rw [i64s_len] at this; omega
  exact ⟨b, o, hA, by rw [hc]; simp [i64s, List.getD_eq_getElem?_getD, List.getElem?_eq_getElem hl]⟩
/-! ### sets within sixteen blocks -/
def small (s : Int) : Prop := 0 ≤ s ∧ s < 65536
theorem pw16 : (2 : Int) ^ 16 = 65536 := by decide
theorem wv_small {s i : Int} (h : small s) : small (wv s i) := by
  unfold wv
  split
  · rename_i hc
    obtain ⟨j, rfl⟩ : ∃ j : Nat, i = j := ⟨i.toNat, by omega⟩
    have hp := pw_pos j
    have h1 := more_lt (m := 16) h.1 (by rw [pw16]; exact h.2) (show j < 16 by omega) (by omega) hc.2.2
    rw [pw16] at h1
    exact ⟨by have := h.1; omega, h1⟩
  · exact h
theorem fw_small {s : Int} {l : List Int} (h : small s) : small (fw s l) := by
  induction l generalizing s with
  | nil => exact h
  | cons x l ih => exact ih (wv_small h)
theorem bit_nat (n : Nat) {k : Nat} (h : k ≤ 15) : hb (n : Int) k = n.testBit k := by
  rw [hb_nat _ h, Nat.testBit_eq_decide_div_mod_eq]
  have e : pw k = ((2 ^ k : Nat) : Int) := by
    unfold pw
    rw [show ((k : Int)).toNat = k from by omega]
    simp
  rw [e, Bool.eq_iff_iff]
  simp only [decide_eq_true_eq]
  omega
/-- Two sets that have the same blocks are one. -/
theorem small_ext {s t : Int} (hs : small s) (ht : small t) (h : ∀ k : Nat, k ≤ 15 → hb s k = hb t k) : s = t := by
  obtain ⟨a, rfl⟩ : ∃ a : Nat, s = a := ⟨s.toNat, by have := hs.1; omega⟩
  obtain ⟨b, rfl⟩ : ∃ b : Nat, t = b := ⟨t.toNat, by have := ht.1; omega⟩
  have e : a = b := by
    refine Nat.eq_of_testBit_eq fun k => ?_
    by_cases hk : k ≤ 15
    · rw [← bit_nat a hk, ← bit_nat b hk]; exact h k hk
    · have h2 : 65536 ≤ 2 ^ k := by
        have := Nat.pow_le_pow_right (show 0 < 2 by decide) (show 16 ≤ k by omega)
        simpa using this
      rw [Nat.testBit_lt_two_pow (by have := hs.2; omega), Nat.testBit_lt_two_pow (by have := ht.2; omega)]
  rw [e]
theorem zero_small : small 0 := ⟨Int.le_refl 0, by decide⟩
theorem zero_no (k : Nat) : hb 0 k = false := by unfold hb; simp
/-- The whole set. -/
theorem all_small {k : Nat} (h : k ≤ 16) : small (pw k - 1) := by have := pw_bd k h; exact ⟨by omega, by omega⟩
theorem hb_all {k i : Nat} (hi : i ≤ 15) : hb (pw k - 1) i = decide (i < k) := by
  have hp := pw_pos k
  have e : pw k = ((2 ^ k : Nat) : Int) := by
    unfold pw
    rw [show ((k : Int)).toNat = k from by omega]
    simp
  have e2 : pw k - 1 = ((2 ^ k - 1 : Nat) : Int) := by rw [e]; have := Nat.one_le_two_pow (n := k); omega
  rw [e2, bit_nat _ hi, Nat.testBit_two_pow_sub_one]
theorem miss_len_all {k : Nat} (_ : k ≤ 16) : ∀ m : Nat, m ≤ 16 → (miss (pw k - 1) m).length = m - k := by
  intro m
  induction m with
  | zero => intro _; simp [miss]
  | succ m ih =>
    intro hm
    rw [miss, List.length_append, ih (by omega), hb_all (by omega)]
    by_cases e : m < k
    · simp [e]; omega
    · simp [e]; omega
theorem lim_nat {k : Nat} (h : k ≤ 16) : lim (k : Int) = k := by unfold lim; repeat (first | omega | split)
/-- Of a set of which one block of the first ones is left out just that one is missing. -/
theorem miss_one {s : Int} {o : Nat} : ∀ m : Nat, (∀ i : Nat, i < m → hb s i = !decide (i = o)) → miss s m = if o < m then [(o : Int)] else [] := by
  intro m
  induction m with
  | zero => intro _; rfl
  | succ m ih =>
    intro h
    rw [miss, ih (fun i hi => h i (by omega)), h m (by omega)]
    by_cases e : m = o
    · subst e; simp
    · by_cases e2 : o < m
      · simp [e, e2, show o < m + 1 by omega]
      · simp [e, e2, show ¬ o < m + 1 by omega]
end Go.Proofs.Ytegnehdfedfphaa.BitC
namespace Go.Proofs.Ytegnehdfedfphaa.BitR
open Go.RowKit Go.Proofs.Ytegnehdfedfphaa.Kit Go.Proofs.Ytegnehdfedfphaa.Mem Go.Proofs.Ytegnehdfedfphaa.BitM Go.Proofs.Ytegnehdfedfphaa.BitA Go.Proofs.Ytegnehdfedfphaa.BitB Go.Proofs.Ytegnehdfedfphaa.BitC

/-- Where runs end; how many blocks they have; runs, and one block more behind them. -/
def en (R : List (Int × Int)) : Int := match R.getLast? with | some p => p.1 + p.2 | none => 0
def tot : List (Int × Int) → Int
  | [] => 0
  | p :: R => p.2 + tot R
def ext (R : List (Int × Int)) (k : Int) : List (Int × Int) := match R.getLast? with | some p => if p.1 + p.2 = k then R.dropLast ++ [(p.1, p.2 + 1)] else R ++ [(k, 1)] | none => [(k, 1)]
/-- The runs of what is there of the first blocks. -/
def runs (s : Int) : Nat → List (Int × Int)
  | 0 => []
  | k + 1 => if hb s k then ext (runs s k) k else runs s k
theorem en_snoc (R : List (Int × Int)) (a n : Int) : en (R ++ [(a, n)]) = a + n := by unfold en; rw [List.getLast?_append]; rfl
theorem ext_join (R : List (Int × Int)) (a n : Int) : ext (R ++ [(a, n)]) (a + n) = R ++ [(a, n + 1)] := by
  unfold ext
  rw [List.getLast?_append]
  simp
theorem ext_new (R : List (Int × Int)) (a n k : Int) (h : a + n ≠ k) : ext (R ++ [(a, n)]) k = R ++ [(a, n)] ++ [(k, 1)] := by
  unfold ext
  rw [List.getLast?_append]
  simp [h]
theorem tot_app (R S : List (Int × Int)) : tot (R ++ S) = tot R + tot S := by
  induction R with
  | nil => simp [tot]
  | cons p R ih => simp only [List.cons_append, tot, ih]; omega
theorem tot_snoc (R : List (Int × Int)) (a n : Int) : tot (R ++ [(a, n)]) = tot R + n := by rw [tot_app]; simp [tot]

/-- These runs are what is there up to their end, and none touches the next one. -/
inductive Ok (s : Int) : List (Int × Int) → Prop
  | nil : Ok s []
  | snoc (R : List (Int × Int)) (a n : Int) : Ok s R → 1 ≤ n → en R ≤ a → (R ≠ [] → en R ≠ a) → (∀ i, en R ≤ i → i < a → hb s i = false) → (∀ i, a ≤ i → i < a + n → hb s i = true) → Ok s (R ++ [(a, n)])
theorem Ok.last {s : Int} {R : List (Int × Int)} {a n : Int} (h : Ok s (R ++ [(a, n)])) : Ok s R ∧ 1 ≤ n ∧ en R ≤ a ∧ (R ≠ [] → en R ≠ a) ∧ (∀ i, en R ≤ i → i < a → hb s i = false) ∧ (∀ i, a ≤ i → i < a + n → hb s i = true) := by
  generalize hQ : R ++ [(a, n)] = Q at h
  cases h with
  | nil => simp at hQ
  | snoc R' a' n' h0 h1 h2 h3 h4 h5 =>
    have hl : R.length = R'.length := by have := congrArg List.length hQ; simp at this; omega
    obtain ⟨rfl, e⟩ := List.append_inj hQ hl
    simp only [List.cons.injEq, Prod.mk.injEq, and_true] at e
    obtain ⟨rfl, rfl⟩ := e
    exact ⟨h0, h1, h2, h3, h4, h5⟩
theorem Ok.nonneg {s : Int} {R : List (Int × Int)} (h : Ok s R) : 0 ≤ en R := by
  induction h with
  | nil => exact Int.le_refl 0
  | snoc R a n _ h1 h2 _ _ _ ih => rw [en_snoc]; omega
/-- The runs of a set are so; behind them nothing is there. -/
theorem runs_ok (s : Int) (m : Nat) : Ok s (runs s m) ∧ en (runs s m) ≤ m ∧ (∀ i, en (runs s m) ≤ i → i < m → hb s i = false) ∧ tot (runs s m) + (miss s m).length = m := by
  induction m with
  | zero => exact ⟨.nil, Int.le_refl 0, fun i h1 h2 => by have : en (runs s 0) = 0 := rfl; simp at h2; omega, rfl⟩
  | succ m ih =>
    obtain ⟨h1, h2, h3, h4⟩ := ih
    cases hm : hb s m
    · have e : runs s (m + 1) = runs s m := by
        show (if hb s m then ext (runs s m) m else runs s m) = _
        rw [hm]; rfl
      have e2 : miss s (m + 1) = miss s m ++ [(m : Int)] := by rw [miss, hm]; rfl
      rw [e, e2]
      refine ⟨h1, by omega, fun i i1 i2 => ?_, by simp; omega⟩
      by_cases hi : i = m
      · rw [hi]; exact hm
      · exact h3 i i1 (by omega)
    · have e : runs s (m + 1) = ext (runs s m) m := by
        show (if hb s m then ext (runs s m) m else runs s m) = _
        rw [hm]; rfl
      have e2 : miss s (m + 1) = miss s m := by rw [miss, hm]; simp
      rw [e, e2]
      rcases List.eq_nil_or_concat (runs s m) with hn | ⟨R, ⟨a, n⟩, hR⟩
      · rw [hn] at h1 h2 h3 h4 ⊢
        have e3 : ext [] (m : Int) = [] ++ [((m : Int), (1 : Int))] := rfl
        rw [e3, en_snoc, tot_snoc]
        have e0 : en [] = 0 := rfl
        rw [e0] at h3
        have ht : tot [] = 0 := rfl
        refine ⟨.snoc [] m 1 .nil (by omega) (by rw [e0]; omega) (fun h => absurd rfl h) (fun i i1 i2 => h3 i (by rw [e0] at i1; exact i1) i2) (fun i i1 i2 => by rw [show i = m from by omega]; exact hm), by omega, fun i i1 i2 => by omega, by omega⟩
      · rw [List.concat_eq_append] at hR
        rw [hR] at h1 h2 h3 h4 ⊢
        rw [en_snoc] at h2 h3
        rw [tot_snoc] at h4
        obtain ⟨g0, g1, g2, g3, g4, g5⟩ := h1.last
        by_cases hj : a + n = m
        · rw [← hj, ext_join, en_snoc, tot_snoc]
          refine ⟨.snoc R a (n + 1) g0 (by omega) g2 g3 g4 (fun i i1 i2 => ?_), by omega, fun i i1 i2 => by omega, by omega⟩
          by_cases hi : i = m
          · rw [hi]; exact hm
          · exact g5 i i1 (by omega)
        · rw [ext_new R a n m hj, en_snoc, tot_snoc, tot_snoc]
          refine ⟨.snoc _ m 1 h1 (by omega) (by rw [en_snoc]; omega) (fun _ => by rw [en_snoc]; exact hj) (fun i i1 i2 => h3 i (by rw [en_snoc] at i1; exact i1) i2) (fun i i1 i2 => by rw [show i = m from by omega]; exact hm), by omega, fun i i1 i2 => by omega, by omega⟩
/-- One run at its place, and the ones ahead of it. -/
theorem Ok.at_ {s : Int} {R : List (Int × Int)} (h : Ok s R) {j : Nat} {a n : Int} (hj : R[j]? = some (a, n)) : 1 ≤ n ∧ en (R.take j) ≤ a ∧ (0 < j → en (R.take j) ≠ a) ∧ (∀ i, en (R.take j) ≤ i → i < a → hb s i = false) ∧ (∀ i, a ≤ i → i < a + n → hb s i = true) ∧ a + n ≤ en R := by
  induction h with
  | nil => simp at hj
  | snoc R a' n' h0 h1 h2 h3 h4 h5 ih =>
    rw [en_snoc]
    by_cases hl : j < R.length
    · rw [List.getElem?_append_left hl] at hj
      rw [List.take_append_of_le_length (by omega)]
      obtain ⟨q1, q2, q3, q4, q5, q6⟩ := ih hj
      exact ⟨q1, q2, q3, q4, q5, by omega⟩
    · rw [List.getElem?_append_right (by omega)] at hj
      have hj0 : j - R.length = 0 := by
        have := (List.getElem?_eq_some_iff.1 hj).1
        simp at this; omega
      rw [hj0] at hj
      simp only [List.getElem?_cons_zero, Option.some.injEq, Prod.mk.injEq] at hj
      obtain ⟨rfl, rfl⟩ := hj
      have : j = R.length := by omega
      rw [this, List.take_append_of_le_length (Nat.le_refl _), List.take_length]
      exact ⟨h1, h2, fun hp => h3 (fun e => by rw [e] at hp; simp at hp), h4, h5, Int.le_refl _⟩
theorem Ok.take {s : Int} {R : List (Int × Int)} (h : Ok s R) (j : Nat) : Ok s (R.take j) := by
  induction h with
  | nil => rw [List.take_nil]; exact .nil
  | snoc R a n h0 h1 h2 h3 h4 h5 ih =>
    by_cases hj : j ≤ R.length
    · rw [List.take_append_of_le_length hj]; exact ih
    · rw [List.take_of_length_le (by simp; omega)]
      exact .snoc R a n h0 h1 h2 h3 h4 h5
theorem Ok.tot {s : Int} {R : List (Int × Int)} (h : Ok s R) : 0 ≤ tot R ∧ tot R ≤ en R := by
  induction h with
  | nil => exact ⟨Int.le_refl 0, Int.le_refl 0⟩
  | snoc R a n h0 h1 h2 h3 h4 h5 ih => rw [tot_snoc, en_snoc]; omega
theorem en_take {R : List (Int × Int)} {j : Nat} {a n : Int} (hj : R[j]? = some (a, n)) : en (R.take (j + 1)) = a + n := by
  rw [List.take_add_one, hj]
  exact en_snoc _ _ _
theorem tot_take {R : List (Int × Int)} {j : Nat} {a n : Int} (hj : R[j]? = some (a, n)) : tot (R.take (j + 1)) = tot (R.take j) + n := by
  rw [List.take_add_one, hj]
  exact tot_snoc _ _ _

/-- The whole set is one run. -/
theorem runs_all {k : Nat} : ∀ m : Nat, m + 1 ≤ k → m ≤ 15 → runs (pw k - 1) (m + 1) = [((0 : Int), ((m + 1 : Nat) : Int))] := by
  intro m
  induction m with
  | zero =>
    intro h1 _
    show (if hb (pw k - 1) ((0 : Nat) : Int) then ext (runs (pw k - 1) 0) ((0 : Nat) : Int) else runs (pw k - 1) 0) = _
    rw [hb_all (by omega), if_pos (by simp; omega)]
    rfl
  | succ m ih =>
    intro h1 h2
    show (if hb (pw k - 1) ((m + 1 : Nat) : Int) then ext (runs (pw k - 1) (m + 1)) ((m + 1 : Nat) : Int) else runs (pw k - 1) (m + 1)) = _
    rw [hb_all (by omega), if_pos (by simp; omega), ih (by omega) (by omega)]
    have := ext_join [] 0 ((m + 1 : Nat) : Int)
    rw [List.nil_append, Int.zero_add] at this
    rw [this]
    simp
/-! ### slices of pairs -/
/-- A slice of pairs reads as this list. -/
def Prs (w : World) (A : Option Addr) (n c : Nat) (R : List (Int × Int)) : Prop :=
  R.length = n ∧ n ≤ c ∧ c ≤ 9223372036854775807 ∧ (0 < n → ∃ b o, A = some ⟨b, o, none⟩ ∧ b < w.heap.size ∧ ∀ j p, R[j]? = some p → w.cell? ⟨b, o + j * 2, none⟩ = some (.int .i64 p.1) ∧ w.cell? ⟨b, o + j * 2 + 1, none⟩ = some (.int .i64 p.2))
theorem Prs.below {w w' : World} {A : Option Addr} {n c : Nat} {R : List (Int × Int)} (h : Prs w A n c R) (hb : Below w.heap.size w w') : Prs w' A n c R :=
  ⟨h.1, h.2.1, h.2.2.1, fun hp => by
    obtain ⟨b, o, hA, hlt, hc⟩ := h.2.2.2 hp
    refine ⟨b, o, hA, Nat.lt_of_lt_of_le hlt hb.size, fun j p hj => ?_⟩
    have h1 := hc j p hj
    exact ⟨(hb.cell (p := ⟨b, o + j * 2, none⟩) hlt).trans h1.1, (hb.cell (p := ⟨b, o + j * 2 + 1, none⟩) hlt).trans h1.2⟩⟩
theorem Prs.at_ {w : World} {A : Option Addr} {n c : Nat} {R : List (Int × Int)} (h : Prs w A n c R) {k : Nat} (hk : k < n) : ∃ (a m : Int) (b o : Nat), R[k]? = some (a, m) ∧ A = some ⟨b, o, none⟩ ∧ w.cell? ⟨b, o + k * 2, none⟩ = some (.int .i64 a) ∧ w.cell? ⟨b, o + k * 2 + 1, none⟩ = some (.int .i64 m) := by
  obtain ⟨b, o, hA, _, hc⟩ := h.2.2.2 (by omega)
  have hl : k < R.length := by have := h.1; omega
  have h1 := hc k R[k] (List.getElem?_eq_getElem hl)
  exact ⟨R[k].1, R[k].2, b, o, List.getElem?_eq_getElem hl, hA, h1.1, h1.2⟩
/-- Pairs are handed back, and all that was there is as it was. -/
def HandsP (w : World) (R : List (Int × Int)) (e : Ending) (w' : World) : Prop := ∃ A n c, e = .returned (.slice A n c) ∧ Prs w' A n c R ∧ Below w.heap.size w w'
end Go.Proofs.Ytegnehdfedfphaa.BitR
namespace Go.Proofs.Ytegnehdfedfphaa.BitO
open Go.RowKit Go.Proofs.Ytegnehdfedfphaa.Kit Go.Proofs.Ytegnehdfedfphaa.Mem Go.Proofs.Ytegnehdfedfphaa.BitM Go.Proofs.Ytegnehdfedfphaa.BitA Go.Proofs.Ytegnehdfedfphaa.BitB Go.Proofs.Ytegnehdfedfphaa.BitC Go.Proofs.Ytegnehdfedfphaa.BitR
def n64 (x : Int) : Prop := -9223372036854775808 ≤ x ∧ x ≤ 9223372036854775807
theorem and1 (n : Int) : bits .and .i64 n 1 = n % 2 := by
  have h3 : (BitVec.ofInt 64 1).toNat = 2 ^ 1 - 1 := by decide
  have key : (BitVec.ofInt 64 n &&& BitVec.ofInt 64 1).toNat = (n % ((2 ^ 64 : Nat) : Int)).toNat % 2 ^ 1 := by
    rw [BitVec.toNat_and, BitVec.toNat_ofInt, h3, Nat.and_two_pow_sub_one_eq_mod]
  show IntKind.i64.wrap ((BitVec.ofInt 64 n &&& BitVec.ofInt 64 1).toNat : Nat) = n % 2
  rw [key, IntKind.wrap_i64]
  omega
theorem shr_has (s : Int) {k : Nat} (h : k ≤ 15) : (bits .and .i64 (s / 2 ^ k) 1 == 1) = hb s k := by
  rw [and1, hb_nat s h]
  unfold pw
  rw [show ((k : Int)).toNat = k from by omega]
  rfl
theorem wrap_pw {k : Nat} (h : k ≤ 16) : wrap64 (2 ^ k) = pw k := by
  have hb := pw_bd k h
  have : (2 : Int) ^ k = pw k := by unfold pw; rw [show ((k : Int)).toNat = k from by omega]
  rw [this]
  exact wrap_in (by omega) (by omega)
theorem or_with (s : Int) {k : Nat} (hs : n64 s) (h : k ≤ 15) : bits .or .i64 s (pw k) = wv s k := by
  have hhf := pw_half k h
  have hp := pw_pos k
  have e2 : BitVec.ofInt 64 (pw k) = BitVec.twoPow 64 k := by
    apply BitVec.eq_of_toNat_eq
    rw [BitVec.toNat_ofInt, BitVec.toNat_twoPow]
    have e : pw k = ((2 ^ k : Nat) : Int) := by
      unfold pw
      rw [show ((k : Int)).toNat = k from by omega]
      simp
    rw [e]
    omega
  have ht : (BitVec.ofInt 64 s).getLsbD k = hb s k := by
    rw [BitVec.getLsbD, BitVec.toNat_ofInt, ← bit_nat _ h, hb_nat _ h, hb_nat _ h]
    have h1 := low_bit s k h
    have h2 := low_bit (((s % ((2 ^ 64 : Nat) : Int)).toNat : Nat) : Int) k h
    have h3 : ((((s % ((2 ^ 64 : Nat) : Int)).toNat : Nat) : Int)) % 65536 = s % 65536 := by omega
    rw [h3] at h2
    rw [← h2, h1]
  show IntKind.i64.wrap ((BitVec.ofInt 64 s ||| BitVec.ofInt 64 (pw k)).toNat : Nat) = wv s k
  unfold wv
  by_cases hc : hb s k = true
  · rw [if_neg (by rw [hc]; simp)]
    have : BitVec.ofInt 64 s ||| BitVec.ofInt 64 (pw k) = BitVec.ofInt 64 s := by
      rw [e2]
      ext i hi
      rw [BitVec.getElem_or, BitVec.getElem_twoPow]
      by_cases hik : i = k
      · subst hik
        have : (BitVec.ofInt 64 s)[i] = true := by rw [← BitVec.getLsbD_eq_getElem, ht, hc]
        simp [this]
      · simp [hik]
    rw [this, BitVec.toNat_ofInt, IntKind.wrap_i64]
    have := hs.1
    have := hs.2
    omega
  · have hf : hb s k = false := by simpa using hc
    rw [if_pos ⟨by omega, by omega, hf⟩]
    have h0 : BitVec.ofInt 64 s &&& BitVec.ofInt 64 (pw k) = 0#64 := by
      rw [e2, BitVec.and_twoPow, ht, hf]
      rfl
    rw [← BitVec.add_eq_or_of_and_eq_zero _ _ h0, ← BitVec.ofInt_add, BitVec.toNat_ofInt, IntKind.wrap_i64]
    have hr : s + pw k ≤ 9223372036854775807 := by
      rw [hb_nat s h] at hf
      have h1 : s / pw k % 2 = 0 := by have := of_decide_eq_false hf; omega
      have e : (9223372036854775808 : Int) = pw k * (2 * pw ((62 - k : Nat) : Int)) := by
        have h2 := pw_add k (1 + (62 - k))
        have h3 := pw_add 1 (62 - k)
        rw [show k + (1 + (62 - k)) = 63 from by omega] at h2
        have h4 : (9223372036854775808 : Int) = pw ((63 : Nat) : Int) := by decide
        rw [h4, h2, h3]
        rfl
      obtain ⟨P, hP⟩ : ∃ P, P = pw k := ⟨_, rfl⟩
      obtain ⟨Q, hQ⟩ : ∃ Q, Q = pw ((62 - k : Nat) : Int) := ⟨_, rfl⟩
      rw [← hP] at h1 hp e ⊢
      rw [← hQ] at e
      have h5 : s / P < 2 * Q := Int.ediv_lt_of_lt_mul (by omega) (by rw [Int.mul_comm, ← e]; have := hs.2; omega)
      have h6 : s / P + 2 ≤ 2 * Q := by omega
      have h7 := Int.lt_ediv_add_one_mul_self s (show 0 < P by omega)
      have h8 := Int.mul_le_mul_of_nonneg_right h6 (show 0 ≤ P by omega)
      rw [Int.mul_comm (2 * Q) P, ← e, show s / P + 2 = (s / P + 1) + 1 from by omega, Int.add_mul] at h8
      omega
    have := hs.1
    omega
/-- Turned round: what was there is missing. -/
theorem hb_not (s : Int) {k : Nat} (h : k ≤ 15) : hb (-1 - s) k = !hb s k := by
  rw [hb_nat _ h, hb_nat _ h]
  have hp := pw_pos k
  obtain ⟨P, hP⟩ : ∃ P, P = pw k := ⟨_, rfl⟩
  rw [← hP] at hp ⊢
  have h1 := Int.mul_ediv_add_emod s P
  have h2 := Int.emod_nonneg s (show P ≠ 0 by omega)
  have h3 := Int.emod_lt_of_pos s (show 0 < P by omega)
  have e : (-1 - s) / P = -1 - s / P := by
    have e1 : -1 - s = (P - 1 - s % P) + P * (-1 - s / P) := by
      rw [Int.mul_sub, Int.mul_neg, Int.mul_one]; omega
    rw [e1, Int.add_mul_ediv_left _ _ (by omega), Int.ediv_eq_zero_of_lt (by omega) (by omega)]
    omega
  rw [e, Bool.eq_iff_iff]
  simp
  omega

end Go.Proofs.Ytegnehdfedfphaa.BitO
