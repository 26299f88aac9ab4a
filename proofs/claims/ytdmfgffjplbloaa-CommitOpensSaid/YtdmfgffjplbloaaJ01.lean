/- General laws on slices of one-cell elements over any program: a make with room to spare, an append from any source, what a row of the call's own reads as. No conditions but those each law names. Slices of bytes, and of slices of bytes, as lists of numbers; how what came in reads. Over any program; no conditions but those each law names. Blocks that are known whole: a load of a block or of a part of it, a store of many cells, a copy, a clear; what keeps all but some blocks. Over any program; no conditions but those each law names. A disk in plain terms, and as it lies in memory; the small calls on it. Conditions: the disk lies as the facts say. -/
import Derived.Test.YtdmfgffjplbloaaChecked
import Derived.WalkKit
import Derived.WalkSpells
import Derived.WalkLawsBesides
import Derived.WalkSmall
import Derived.OpenShut
import Derived.Deep.QuietTactic
import Derived.BigQuiet
import Derived.Maps.AppendAt
import Derived.Laws.CopyOwn
import Derived.Deep.AppendLies
import Derived.Deep.DeepCutAuto
import Derived.Lib.SlBytesConst
import Derived.Lib.Hide
import Derived.Deep.Matrix
import Derived.Deep.MidRow
import Derived.Laws.CopyRow
namespace Go.Proofs.Ytdmfgffjplbloaa.Kit
open Go.RowKit

theorem ret_int {k : IntKind} {a b : Int} (h : a = b) : Ending.returned (.int k a) = .returned (.int k b) := by rw [h]
theorem ret_bool {a b : Bool} (h : a = b) : Ending.returned (.bool a) = .returned (.bool b) := by rw [h]

/-! ### what reads as a list -/

/-- The slice at A, n long, of c places, holds these cells, one each; all lie in blocks that are there. -/
def Rd (w : World) (A : Option Addr) (n c : Nat) (xs : List Value) : Prop :=
  xs.length = n ∧ n ≤ c ∧ c ≤ 9223372036854775807 ∧ (0 < n → ∃ b o, A = some ⟨b, o, none⟩ ∧ b < w.heap.size ∧ ∀ j u, xs[j]? = some u → w.cell? ⟨b, o + j, none⟩ = some u)

section
variable {w w' : World} {A : Option Addr} {n c : Nat} {xs : List Value}
theorem Rd.len (h : Rd w A n c xs) : xs.length = n := h.1
theorem Rd.le (h : Rd w A n c xs) : n ≤ c := h.2.1
theorem Rd.cap (h : Rd w A n c xs) : c ≤ 9223372036854775807 := h.2.2.1
theorem Rd.same (h : Rd w A n c xs) (hs : w.heap.size ≤ w'.heap.size) (hc : ∀ p : Addr, p.block < w.heap.size → w'.cell? p = w.cell? p) : Rd w' A n c xs :=
  ⟨h.1, h.2.1, h.2.2.1, fun hp => by
    obtain ⟨b, o, hA, hb, hj⟩ := h.2.2.2 hp
    exact ⟨b, o, hA, by omega, fun j u hu => (hc ⟨b, o + j, none⟩ hb).trans (hj j u hu)⟩⟩
theorem Rd.below (h : Rd w A n c xs) (hb : Below w.heap.size w w') : Rd w' A n c xs := h.same hb.size fun _ hp => hb.cell hp
theorem Rd.alloc (h : Rd w A n c xs) (o : Obj) : Rd (w.alloc o) A n c xs := h.below ((Below.refl _ _).alloc (Nat.le_refl _) o)
theorem Rd.drewN (h : Rd w A n c xs) (k : Nat) : Rd (w.drewN k) A n c xs := h
theorem Rd.nil (w : World) : Rd w none 0 0 [] := ⟨by simp, by omega, by omega, fun h => absurd h (by simp)⟩
theorem Rd.empty (w : World) (A : Option Addr) {c : Nat} (hc : c ≤ 9223372036854775807) : Rd w A 0 c [] := ⟨by simp, by omega, hc, fun h => absurd h (by simp)⟩
theorem Rd.at_ (h : Rd w A n c xs) {k : Nat} (hk : k < n) : ∃ b o, A = some ⟨b, o, none⟩ ∧ w.cell? ⟨b, o + k, none⟩ = some (xs[k]'(by rw [h.1]; exact hk)) := by
  obtain ⟨b, o, hA, _, hj⟩ := h.2.2.2 (by omega)
  exact ⟨b, o, hA, hj k _ (List.getElem?_eq_getElem (by rw [h.1]; exact hk))⟩
theorem Rd.grown {row : Option Nat} (h : Rd w A n c xs) (hg : w.grownBy w' row) (hr : ∀ g, row = some g → ∀ b o, A = some ⟨b, o, none⟩ → b ≠ g) : Rd w' A n c xs :=
  ⟨h.1, h.2.1, h.2.2.1, fun hp => by
    obtain ⟨b, o, hA, hb, hj⟩ := h.2.2.2 hp
    refine ⟨b, o, hA, by have := hg.size; omega, fun j u hu => ?_⟩
    refine (World.cell?_of_block (hg.block b hb ?_)).trans (hj j u hu)
    intro he
    exact hr b he.symm b o hA rfl⟩
theorem Rd.own {base : Nat} {e : TypeId} (h : w.ownsRow base e 1 (.slice A n c) n xs) : Rd w A n c xs := by
  have hl : xs.length = n := by simpa using h.1
  rcases h.2 with ⟨hv, h0⟩ | ⟨g, cap', cur, hv, _, hh, hnc, hcm, _, _⟩
  · simp only [Value.slice.injEq] at hv
    obtain ⟨rfl, rfl, rfl⟩ := hv
    exact ⟨by omega, by omega, by omega, fun h => by omega⟩
  · simp only [Value.slice.injEq] at hv
    obtain ⟨rfl, _, rfl⟩ := hv
    unfold maxLen at hcm
    refine ⟨hl, by omega, by omega, fun _ => ⟨g, 0, rfl, lt_of_block hh, fun j u hu => ?_⟩⟩
    have := h.cells (g := g) rfl j u hu
    simpa [Addr.add_lit] using this
theorem Rd.take (h : Rd w A n c xs) {k : Nat} (hk : k ≤ n) : Rd w A k c (xs.take k) :=
  ⟨by have := h.1; simp; omega, by have := h.2.1; omega, h.2.2.1, fun hp => by
    obtain ⟨b, o, hA, hb, hj⟩ := h.2.2.2 (by omega)
    exact ⟨b, o, hA, hb, fun j u hu => hj j u (by
      rw [List.getElem?_take] at hu
      split at hu
      · exact hu
      · cases hu)⟩⟩
theorem Rd.src (h : Rd w A n c xs) (hb : Below w.heap.size w w') (h0 : 0 < xs.length) : ∃ ad, A = some ad ∧ ∀ j v, xs[j]? = some v → w'.cell? (ad.add j) = some v := by
  obtain ⟨b, o, hA, _, hj⟩ := (h.below hb).2.2.2 (by have := h.1; omega)
  exact ⟨_, hA, fun j v hv => by rw [Addr.add_lit]; exact hj j v hv⟩
end

/-! ### make with room -/

section
variable {P : Program} {ops : Array Oper} {rest : List Oper} {o : Oper} {a : Act} {Q : Exit → Act → World → Prop}

/-- 'make([]T, m, n)' of one-cell elements: a new block of n zeros, of which m are the slice's. -/
theorem wpList_make_room (w : World) (hg : o.guard = none) (l c : Operand) (t : TypeId) (hop : o.op = Op.makeSlice t l c)
    (e : TypeId) (i : TypeInfo) (z : Value) (bytes : Nat) (h1 : P.underlying t = some (.slice e)) (h2 : P.info? e = some i) (h3 : i.zero = some z) (h4 : i.size = 1) (h5 : i.bytes = bytes) (hz : z.cells = #[z])
    (kl kc : IntKind) (L C : Int) (m n : Nat) (hl : a.eval l = .int kl L) (hc : a.eval c = .int kc C) (hL : L = (m : Int)) (hC : C = (n : Int)) (hmn : m ≤ n) (b2 : bytes * n ≤ 281474976710656) (b3 : n ≤ 9223372036854775807)
    (hK : ∀ w', Hid (w'.heap[w.heap.size]? = some (.cells (List.replicate n z).toArray e (0, 0))) → Below w.heap.size w w' → w'.heap.size = w.heap.size + 1 →
      wpList P ops Q rest (a.put o.dst (.slice (some ⟨w.heap.size, 0, none⟩) m n)) w') :
    wpList P ops Q (o :: rest) a w := by
  refine wpList_plain hg fun K hK' => ?_
  subst hL hC h5
  have hb' : (i.bytes : Int) * (n : Int) ≤ 281474976710656 := by
    have h : ((i.bytes * n : Nat) : Int) ≤ 281474976710656 := by omega
    rwa [Int.natCast_mul] at h
  have hrun := run_make (P := P) w t e i z h1 h2 h3 kl kc m n (by omega) (by omega) hb' (by omega)
  simp only [Int.toNat_natCast, h4, Nat.mul_one, hz] at hrun
  have hm : madeCells #[z] n = (List.replicate n z).toArray := by
    apply Array.ext'
    rw [toList_madeCells_one]
  rw [hm] at hrun
  unfold Oper.wp
  simp [execOp, hop, hl, hc, hrun, Result.andThen]
  refine hK' _ _ (hK _ ?_ ((Below.refl _ _).alloc (Nat.le_refl _) _) (by simp))
  exact heap_alloc_new w _

/-- A block that is known whole is a row of the call's own. -/
theorem own_of_block {w : World} {g : Nat} {cur : List Value} {e : TypeId} (h : w.heap[g]? = some (.cells cur.toArray e (0, 0))) {base n : Nat} (hb : base ≤ g) (hn : n ≤ cur.length) (hm : cur.length ≤ 9223372036854775807) :
    w.ownsRow base e 1 (.slice (some ⟨g, 0, none⟩) n cur.length) n (cur.take n) :=
  ⟨by simp; omega, .inr ⟨g, cur.length, cur.toArray, rfl, hb, h, hn, by unfold maxLen; omega, by simp, by simp⟩⟩

/-! ### append from any source -/

theorem run_add (w : World) (base : Nat) (t ty e : TypeId) (i : TypeInfo) (z : Value) (bytes : Nat) (ht : P.underlying t = some (.slice e)) (hi : P.info? e = some i) (hz : i.zero = some z)
    (hsize : i.size = 1) (hby : i.bytes = bytes) (hzs : z.cells = #[z])
    (v : Value) (n : Nat) (xs : List Value) (hown : w.ownsRow base e 1 v n xs)
    (A : Option Addr) (m c : Nat) (news : List Value) (hr : Rd w A m c news) (h1 : ∀ u ∈ news, u.oneCell' = true)
    (h63 : n + m ≤ 9223372036854775807) (hbytes : (n + m) * bytes ≤ 140737488355328) (hbase : base ≤ w.heap.size) :
    ∃ v' w', (Builtin.append_ #[t, t] ty #[v, .slice A m c]).run P w = .ok v' w' ∧ w'.ownsRow base e 1 v' (n + m) (xs ++ news) ∧ w.grownBy w' v.ownBlock ∧
      (v'.ownBlock = v.ownBlock ∨ v'.ownBlock = some w.heap.size) := by
  rcases A with _ | ad
  · have h0 : m = 0 := by
      rcases Nat.eq_zero_or_pos m with h | h
      · exact h
      · obtain ⟨b, o, hA, _⟩ := hr.2.2.2 h
        cases hA
    subst h0
    have h0 : news = [] := List.eq_nil_of_length_eq_zero hr.1
    subst h0
    have hrun : (Builtin.append_ #[t, t] ty #[v, .slice none 0 c]).run P w = .ok v w := by
      rcases hown.2 with ⟨rfl, _⟩ | ⟨g, cap, cur, rfl, _, _, hnc, _⟩
      · simp [Builtin.append_, run_underlying ht, sizeOf, typeInfo, hi, Builtin.lenOf, Builtin.firstCells]
      · simp [Builtin.append_, run_underlying ht, sizeOf, typeInfo, hi, Builtin.lenOf, Builtin.firstCells, hnc, storeCells]
    exact ⟨v, w, hrun, by simpa using hown, World.grownBy.refl w _, .inl rfl⟩
  · have hcells : ∀ j u, news[j]? = some u → w.cell? (ad.add j) = some u := by
      intro j u hu
      have hp : 0 < news.length := by have := (List.getElem?_eq_some_iff.1 hu).1; omega
      obtain ⟨b, o, hA, _, hc⟩ := hr.2.2.2 (by have := hr.1; omega)
      injection hA with hA
      subst hA
      rw [Addr.add_lit]
      exact hc j u hu
    obtain ⟨v', w', hrun, h2, h3, _, h5⟩ := run_append_own_at (P := P) w base t ty e i z 1 bytes ht hi hz hsize hby (by rw [hzs]; rfl) (by omega) v n xs hown ad m c news (by rw [hr.1]; simp) hcells h1 (by unfold maxLen; omega) hbytes hbase
    exact ⟨v', w', hrun, h2, h3, h5⟩

theorem wp_add {K : Act → World → Prop} (w : World) (s x : Operand) (t : TypeId)
    (ho : o.op = .call { callee := .builtin .append, args := #[s, x], argTypes := #[t, t] })
    (base : Nat) (e : TypeId) (i : TypeInfo) (z : Value) (bytes : Nat) (ht : P.underlying t = some (.slice e)) (hi : P.info? e = some i) (hz : i.zero = some z)
    (hsize : i.size = 1) (hby : i.bytes = bytes) (hzs : z.cells = #[z])
    (v : Value) (n : Nat) (xs : List Value) (hs : a.eval s = v) (hown : w.ownsRow base e 1 v n xs)
    (A : Option Addr) (m c : Nat) (news : List Value) (hx : a.eval x = .slice A m c) (hr : Rd w A m c news) (h1 : ∀ u ∈ news, u.oneCell' = true)
    (h63 : n + m ≤ 9223372036854775807) (hbytes : (n + m) * bytes ≤ 140737488355328) (hbase : base ≤ w.heap.size)
    (h : ∀ v' w', w'.ownsRow base e 1 v' (n + m) (xs ++ news) → w.grownBy w' v.ownBlock → (v'.ownBlock = v.ownBlock ∨ v'.ownBlock = some w.heap.size) → K (a.put o.dst v') w') : o.wp P a w K Q := by
  obtain ⟨v', w', hrun, h2, h3, h4⟩ := run_add (P := P) w base t o.type e i z bytes ht hi hz hsize hby hzs v n xs hown A m c news hr h1 h63 hbytes hbase
  unfold Oper.wp execOp
  simp only [ho, resolve, invoke, builtin, Sem.run_bind, Sem.run_pure, Result.andThen_ok, List.map_toArray, List.map_cons, List.map_nil, hs, hx, hrun]
  exact h v' w' h2 h3 h4

theorem wpList_add (w : World) (hgd : o.guard = none) (s x : Operand) (t : TypeId)
    (ho : o.op = .call { callee := .builtin .append, args := #[s, x], argTypes := #[t, t] })
    (base : Nat) (e : TypeId) (i : TypeInfo) (z : Value) (bytes : Nat) (ht : P.underlying t = some (.slice e)) (hi : P.info? e = some i) (hz : i.zero = some z)
    (hsize : i.size = 1) (hby : i.bytes = bytes) (hzs : z.cells = #[z])
    (v : Value) (n : Nat) (xs : List Value) (hs : a.eval s = v) (hown : w.ownsRow base e 1 v n xs)
    (A : Option Addr) (m c : Nat) (news : List Value) (hx : a.eval x = .slice A m c) (hr : Rd w A m c news) (h1 : ∀ u ∈ news, u.oneCell' = true)
    (h63 : n + m ≤ 9223372036854775807) (hbytes : (n + m) * bytes ≤ 140737488355328) (hbase : base ≤ w.heap.size)
    (h : ∀ A' n' c' w', Hid (n' = n + m) → w'.ownsRow base e 1 (.slice A' n' c') n' (xs ++ news) → w.grownBy w' v.ownBlock → ((Value.slice A' n' c').ownBlock = v.ownBlock ∨ (Value.slice A' n' c').ownBlock = some w.heap.size) → wpList P ops Q rest (a.put o.dst (.slice A' n' c')) w') : wpList P ops Q (o :: rest) a w :=
  wpList_plain hgd fun _ hK => wp_add w s x t ho base e i z bytes ht hi hz hsize hby hzs v n xs hs hown A m c news hx hr h1 h63 hbytes hbase fun v' w' h2 h3 h4 => by
    have h5 := h2
    rcases h5.2 with ⟨rfl, h0⟩ | ⟨g, cap, cur, rfl, _⟩
    · exact hK _ _ (h none 0 0 w' h0.symm (by rw [h0] at h2; exact h2) h3 h4)
    · exact hK _ _ (h _ _ _ w' rfl h2 h3 h4)
end

/-- What an append leaves below the base. -/
theorem below_add {w0 w w' : World} {v : Value} {base : Nat} {e : TypeId} {n : Nat} {xs : List Value} (hb : Below w0.heap.size w0 w) (hown : w.ownsRow base e 1 v n xs) (hbase : w0.heap.size ≤ base) (hg : w.grownBy w' v.ownBlock) : Below w0.heap.size w0 w' :=
  hb.grown hg hb.size fun k hk => by have := hown.lt k hk; omega

theorem u8_one (zs : List Int) : ∀ u ∈ zs.map (Value.int .u8), u.oneCell' = true := ints_oneCell _ _
theorem toList_replicate (n : Nat) (z : Int) : List.replicate n (Value.int .u8 z) = (List.replicate n z).map (Value.int .u8) := by simp
theorem own_below {w w' : World} {v : Value} {base : Nat} {e : TypeId} {n : Nat} {xs : List Value} (h : w.ownsRow base e 1 v n xs) (hb : Below w.heap.size w w') : w'.ownsRow base e 1 v n xs :=
  h.kept (row := none) ⟨hb.os, hb.tape, hb.output, hb.size, fun k hk _ => hb.block k hk⟩ (by
    rcases hv : v.ownBlock with _ | g
    · exact .inl rfl
    · exact .inr (by simp))
/-- An empty slice that was just written out owns nothing. -/
theorem emptied (w : World) (e : TypeId) : (w.alloc (.cells #[] e)).ownsRow w.heap.size e 1 (.slice (some ⟨w.heap.size, 0, none⟩) 0 0) 0 [] := by
  have h := own_of_block (w := w.alloc (.cells #[] e)) (g := w.heap.size) (cur := []) (e := e) (base := w.heap.size) (n := 0) (heap_alloc_new w _) (Nat.le_refl _) (by simp) (by simp)
  simpa using h
theorem size_alloc (w : World) (o : Obj) : w.heap.size ≤ (w.alloc o).heap.size := ((Below.refl w.heap.size w).alloc (Nat.le_refl _) o).size
theorem i64_bd {a : Int} (h : (Lit.int .i64 a).wf = true) : -9223372036854775808 ≤ a ∧ a ≤ 9223372036854775807 :=
  bounds_i64 h
theorem new_one (w : World) (v : Value) (t : TypeId) : ∀ j u, [v][j]? = some u → (w.alloc (.cells #[v] t)).cell? ((⟨w.heap.size, 0, none⟩ : Addr).add j) = some u := by
  intro j u hj
  match j, hj with
  | 0, hj =>
    simp at hj
    subst hj
    rw [Addr.add_lit, cell_of_row _ _ _ _ _ _ (heap_alloc_new w _)]
    rfl
/-- A slice of integers that came in: nil, or a row of cells of which the first are its elements. -/
def Row (k : IntKind) (w : World) (a : Option Addr) (len cap : Nat) (zs : List Int) : Prop :=
  (a = none ∧ len = 0 ∧ cap = 0 ∧ zs = []) ∨
  ∃ x, a = some x ∧ len ≤ cap ∧ cap ≤ maxLen ∧ zs.length = cap ∧ (∀ i, i < zs.length → w.cell? (x.add i) = some (.int k (zs.getD i 0))) ∧ ∀ n ∈ zs, (Lit.int k n).wf = true

theorem Row.rd {k : IntKind} {w : World} {a : Option Addr} {len cap : Nat} {zs : List Int} (h : Row k w a len cap zs) :
    ∃ xs : List Int, Rd w a len cap (xs.map (Value.int k)) ∧ ∀ n ∈ xs, (Lit.int k n).wf = true := by
  rcases h with ⟨rfl, rfl, rfl, rfl⟩ | ⟨x, rfl, hl, hm, hz, hc, hw⟩
  · exact ⟨[], Rd.nil w, by simp⟩
  · unfold maxLen at hm
    refine ⟨zs.take len, ⟨by simp; omega, hl, by omega, fun hp => ?_⟩, fun n hn => hw n (List.mem_of_mem_take hn)⟩
    obtain ⟨b, off, spot⟩ := x
    have hc0 := hc 0 (by omega)
    have hspot : spot = none := by simpa [Addr.add] using World.cell?_spot hc0
    subst hspot
    refine ⟨b, off, rfl, ?_, fun j u hu => ?_⟩
    · have := block_lt_of_cell hc0
      simpa [Addr.add] using this
    · have hj : j < len := by
        have := (List.getElem?_eq_some_iff.1 hu).1
        simp at this
        omega
      have := hc j (by omega)
      rw [Addr.add_lit] at this
      rw [this]
      simp only [List.getElem?_map, List.getElem?_take, hj, if_pos] at hu
      rw [List.getElem?_eq_getElem (by omega)] at hu
      simp only [Option.map_some, Option.some.injEq] at hu
      rw [← hu, List.getD_eq_getElem?_getD, List.getElem?_eq_getElem (by omega)]
      rfl

end Go.Proofs.Ytdmfgffjplbloaa.Kit
namespace Go.Proofs.Ytdmfgffjplbloaa.Byt
open Go.RowKit Go.Proofs.Ytdmfgffjplbloaa.Kit

/-- Bytes as cells. -/
def u8n (xs : List Nat) : List Value := xs.map fun n : Nat => Value.int .u8 (n : Int)
theorem u8n_one (xs : List Nat) : ∀ u ∈ u8n xs, u.oneCell' = true := by
  intro u hu
  simp only [u8n, List.mem_map] at hu
  obtain ⟨n, _, rfl⟩ := hu
  rfl
theorem u8n_len (xs : List Nat) : (u8n xs).length = xs.length := List.length_map ..
theorem u8n_app (xs ys : List Nat) : u8n xs ++ u8n ys = u8n (xs ++ ys) := by simp [u8n]
theorem Rd.nats {w : World} {A : Option Addr} {n c : Nat} {xs : List Nat} (h : Rd w A n c (u8n xs)) : xs.length = n := by have := h.len; rwa [u8n_len] at this
theorem Rd.nat {w : World} {A : Option Addr} {n c : Nat} {xs : List Nat} (h : Rd w A n c (u8n xs)) {k : Nat} (hk : k < xs.length) : ∃ b o, A = some ⟨b, o, none⟩ ∧ w.cell? ⟨b, o + k, none⟩ = some (.int .u8 (xs[k] : Nat)) := by
  obtain ⟨b, o, hA, hc⟩ := Rd.at_ h (k := k) (by have := Rd.nats h; omega)
  exact ⟨b, o, hA, by simpa [u8n] using hc⟩
/-- Bytes that came in, as numbers. -/
theorem Row.nats {w : World} {a : Option Addr} {len cap : Nat} {zs : List Int} (h : Row .u8 w a len cap zs) :
    ∃ xs : List Nat, Rd w a len cap (u8n xs) ∧ ∀ n ∈ xs, n < 256 := by
  obtain ⟨xs, hx, hw⟩ := Row.rd h
  have hb : ∀ n ∈ xs, 0 ≤ n ∧ n ≤ 255 := fun n hn => bounds_u8 (hw n hn)
  refine ⟨xs.map Int.toNat, ?_, ?_⟩
  · have : u8n (xs.map Int.toNat) = xs.map (Value.int .u8) := by
      simp only [u8n, List.map_map]
      apply List.map_congr_left
      intro n hn
      have := (hb n hn).1
      simp [Int.toNat_of_nonneg this]
    rw [this]
    exact hx
  · intro n hn
    simp only [List.mem_map] at hn
    obtain ⟨m, hm, rfl⟩ := hn
    have := hb m hm
    omega
theorem take_snoc {xs : List Nat} {k : Nat} (h : k < xs.length) : xs.take (k + 1) = xs.take k ++ [xs[k]] := List.take_succ_eq_append_getElem h

/-! ### slices of slices of bytes -/

structure Sl where
  A : Option Addr
  n : Nat
  c : Nat
  xs : List Nat
def Sl.val (s : Sl) : Value := .slice s.A s.n s.c
def Sl.ok (w : World) (s : Sl) : Prop := Rd w s.A s.n s.c (u8n s.xs) ∧ ∀ c ∈ s.xs, c < 256
/-- The slice at A is these slices of bytes. -/
def Rds (w : World) (A : Option Addr) (n c : Nat) (R : List Sl) : Prop := Rd w A n c (R.map Sl.val) ∧ ∀ s ∈ R, s.ok w
theorem Rds.len {w : World} {A : Option Addr} {n c : Nat} {R : List Sl} (h : Rds w A n c R) : R.length = n := by have := h.1.len; rwa [List.length_map] at this
theorem Sl.ok.below {w w' : World} {s : Sl} (h : s.ok w) (hb : Below w.heap.size w w') : s.ok w' := ⟨h.1.below hb, h.2⟩
theorem Rds.below {w w' : World} {A : Option Addr} {n c : Nat} {R : List Sl} (h : Rds w A n c R) (hb : Below w.heap.size w w') : Rds w' A n c R :=
  ⟨h.1.below hb, fun s hs => (h.2 s hs).below hb⟩
theorem Rds.at_ {w : World} {A : Option Addr} {n c : Nat} {R : List Sl} (h : Rds w A n c R) {k : Nat} (hk : k < R.length) : ∃ b o, A = some ⟨b, o, none⟩ ∧ w.cell? ⟨b, o + k, none⟩ = some (.slice R[k].A R[k].n R[k].c) := by
  obtain ⟨b, o, hA, hc⟩ := Rd.at_ h.1 (k := k) (by have := Rds.len h; omega)
  exact ⟨b, o, hA, by simpa [Sl.val] using hc⟩
def cat (R : List Sl) : List Nat := R.flatMap Sl.xs
theorem cat_nil : cat [] = [] := rfl
theorem cat_snoc {R : List Sl} {k : Nat} (h : k < R.length) : cat (R.take (k + 1)) = cat (R.take k) ++ R[k].xs := by
  unfold cat
  rw [List.take_succ_eq_append_getElem h, List.flatMap_append]
  simp
theorem cat_lt {w : World} {R : List Sl} (h : ∀ s ∈ R, s.ok w) : ∀ c ∈ cat R, c < 256 := by
  intro c hc
  simp only [cat, List.mem_flatMap] at hc
  obtain ⟨s, hs, hx⟩ := hc
  exact (h s hs).2 c hx

/-- A slice of slices of bytes that came in. -/
theorem open_rows {H : Type} {enc : TypeId × Value → H} {P : Program} {w : World} {base : Nat} {t e q : TypeId} {v : Value} {d : DataW H} {p : List MemPlace} (ht : P.underlying t = some (.slice e)) (he : P.underlying e = some (.slice q)) (hq : P.underlying q = some (.int .u8))
    (ce : P.cellsOf e = 1) (cq : P.cellsOf q = 1) (h : DataW.Trod enc P w 0 (fun _ => true) true t v d p) (o : Value.okWide P w .any base t v) :
    ∃ A n c R, v = .slice A n c ∧ Rds w A n c R := by
  obtain ⟨a, n, c, rfl⟩ := Go.WideShapes.okWide_slice ht o
  obtain ⟨fuel, hf⟩ := h
  rcases Go.Deep.open_int_rows ht he hq ce cq hf with ⟨hcs, _⟩ | ⟨x, len, cap, A, L, C, Z, hcs, _, hl, hm, _, hr⟩
  · simp [Value.cells] at hcs
    obtain ⟨rfl, rfl, rfl⟩ := hcs
    exact ⟨none, 0, 0, [], rfl, Rd.nil w, by simp⟩
  · simp [Value.cells] at hcs
    obtain ⟨rfl, rfl, rfl⟩ := hcs
    have each : ∀ r, r < n → ∃ xs : List Nat, Rd w (A r) (L r) (C r) (u8n xs) ∧ ∀ c ∈ xs, c < 256 := by
      intro r hr'
      obtain ⟨hc, h1, h2, h3, h4, h5, h6⟩ := hr r (by omega)
      refine Row.nats (zs := Z r) ?_
      rcases hA : A r with _ | a'
      · have hC := h5 hA
        exact .inl ⟨rfl, by omega, hC, List.eq_nil_of_length_eq_zero (by omega)⟩
      · exact .inr ⟨a', rfl, h1, h2, h3, fun i hi => (h6 a' hA).2 i (by omega), h4⟩
    obtain ⟨f, hf2⟩ := Go.Deep.choose_lt each
    refine ⟨some x, n, c, (List.range n).map fun r => ⟨A r, L r, C r, f r⟩, rfl, ⟨by simp, hl, by unfold maxLen at hm; omega, fun hp => ?_⟩, ?_⟩
    · obtain ⟨b, off, spot⟩ := x
      have hc0 := (hr 0 (by omega)).1
      have hspot : spot = none := by simpa [Addr.add] using World.cell?_spot hc0
      subst hspot
      refine ⟨b, off, rfl, ?_, fun j u hu => ?_⟩
      · have := block_lt_of_cell hc0
        simpa [Addr.add] using this
      · have hj : j < n := by
          have := (List.getElem?_eq_some_iff.1 hu).1
          simpa using this
        have := (hr j (by omega)).1
        rw [Addr.add_lit] at this
        rw [this]
        simp only [List.map_map, List.getElem?_map, List.getElem?_range hj, Option.map_some, Option.some.injEq] at hu
        rw [← hu]
        rfl
    · intro s hs
      simp only [List.mem_map, List.mem_range] at hs
      obtain ⟨r, hr', rfl⟩ := hs
      exact hf2 r hr'

end Go.Proofs.Ytdmfgffjplbloaa.Byt
namespace Go.Proofs.Ytdmfgffjplbloaa.Mem
open Go.RowKit Go.Proofs.Ytdmfgffjplbloaa.Kit Go.Proofs.Ytdmfgffjplbloaa.Byt

theorem lt_some {w : World} {G : Nat} {o : Obj} (hg : w.heap[G]? = some o) : G < w.heap.size := by
  rcases Nat.lt_or_ge G w.heap.size with h | h
  · exact h
  · rw [Array.getElem?_eq_none h] at hg; cases hg
theorem alloc_old {w : World} {o o' : Obj} {G : Nat} (h : w.heap[G]? = some o') : (w.alloc o).heap[G]? = some o' := (Below.heap_alloc w o G (lt_some h)).trans h
theorem block_below {w w' : World} {G : Nat} {o : Obj} (hg : w.heap[G]? = some o) (hb : Below w.heap.size w w') : w'.heap[G]? = some o := by
  exact (hb.block G (lt_some hg)).trans hg
theorem setL {w : World} {G : Nat} {t : TypeId} {C : List Value} (hg : w.heap[G]? = some (.cells C.toArray t (0, 0))) (k : Nat) (v : Value) : (w.setCell ⟨G, k, none⟩ v).heap[G]? = some (.cells (C.set k v).toArray t (0, 0)) := by
  rw [heap_setCell_same w G k _ _ _ hg, List.setIfInBounds_toArray]

/-- A block that is known whole. -/
def Blk (w : World) (g : Nat) (t : TypeId) (xs : List Value) : Prop := w.heap[g]? = some (.cells xs.toArray t (0, 0))
section
variable {w w' : World} {g : Nat} {t : TypeId} {xs : List Value}
theorem Blk.cell (h : Blk w g t xs) {i : Nat} {v : Value} (hi : xs[i]? = some v) : w.cell? ⟨g, i, none⟩ = some v := by
  rw [cell_of_row w g i _ _ _ h]
  simpa using hi
theorem Blk.byte {bs : List Nat} (h : Blk w g t (u8n bs)) {i : Nat} (hi : i < bs.length) : w.cell? ⟨g, i, none⟩ = some (.int .u8 (bs.getD i 0 : Nat)) :=
  h.cell (by simp [u8n, hi])
theorem Blk.frozen (h : Blk w g t xs) (i : Nat) : w.frozen? ⟨g, i, none⟩ = false := frozen_of_row w g i _ _ h
theorem Blk.set (h : Blk w g t xs) (i : Nat) (v : Value) : Blk (w.setCell ⟨g, i, none⟩ v) g t (xs.set i v) := setL h i v
theorem Blk.below (h : Blk w g t xs) (hb : Below w.heap.size w w') : Blk w' g t xs := block_below h hb
theorem Blk.lt (h : Blk w g t xs) : g < w.heap.size := lt_some h
theorem Blk.alloc (h : Blk w g t xs) (o : Obj) : Blk (w.alloc o) g t xs := alloc_old h
theorem Blk.far (h : Blk w g t xs) {p : Addr} (hp : g ≠ p.block) (u : Value) : Blk (w.setCell p u) g t xs := (Below.heap_setCell w p u g hp).trans h
theorem Blk.new (w : World) (t : TypeId) (xs : List Value) : Blk (w.alloc (.cells xs.toArray t)) w.heap.size t xs := heap_alloc_new w _
end

/-- All that was there is as it was, but what block g holds. -/
def Only (g : Nat) (w w' : World) : Prop := w.grownBy w' (some g) ∧ w'.heap.size = w.heap.size
theorem Only.below {g B : Nat} {w0 w w' : World} (h : Only g w w') (hb : Below B w0 w) (hg : B ≤ g) (hs : B ≤ w.heap.size) : Below B w0 w' := hb.grown h.1 hs fun k hk => by injection hk with hk; omega
theorem Only.blk {g k : Nat} {w w' : World} {t : TypeId} {xs : List Value} (h : Only g w w') (hB : Blk w k t xs) (hne : k ≠ g) : Blk w' k t xs :=
  (h.1.block k hB.lt (by simpa using hne)).trans hB
theorem Only.refl (g : Nat) (w : World) : Only g w w := ⟨World.grownBy.refl w _, rfl⟩
theorem Only.row (w : World) (g : Nat) (cs : Array Value) : Only g w (w.setRow g cs) :=
  ⟨⟨rfl, rfl, rfl, by simp [World.setRow], fun i _ hne => setRow_other w g i cs (by simpa using hne)⟩, by simp [World.setRow]⟩
theorem Only.drew {g : Nat} {w w' : World} (h : Only g w w') : Only g w w'.drew := ⟨⟨h.1.os, h.1.tape, h.1.output, h.1.size, h.1.block⟩, h.2⟩
theorem Only.of_drew {g : Nat} {w w' : World} (h : Only g w.drew w') : Only g w w' := ⟨⟨h.1.os, h.1.tape, h.1.output, h.1.size, h.1.block⟩, h.2⟩
theorem Only.trans {g : Nat} {a b c : World} (h : Only g a b) (k : Only g b c) : Only g a c :=
  ⟨⟨k.1.os.trans h.1.os, k.1.tape.trans h.1.tape, k.1.output.trans h.1.output, Nat.le_trans h.1.size k.1.size, fun i hi hne => (k.1.block i (by rw [h.2]; exact hi) hne).trans (h.1.block i hi hne)⟩, k.2.trans h.2⟩
theorem Only.set (w : World) (g i : Nat) (v : Value) : Only g w (w.setCell ⟨g, i, none⟩ v) :=
  ⟨⟨rfl, rfl, rfl, by simp [World.setCell], fun k _ hne => Below.heap_setCell w _ v k (by simpa using hne)⟩, by simp [World.setCell]⟩

section
variable {P : Program} {ops : Array Oper} {rest : List Oper} {o : Oper} {a : Act} {w : World} {Q : Exit → Act → World → Prop}
theorem wpList_load_blk (hgd : o.guard = none) (ty : TypeId) (x : Operand) (ho : o.op = .load ty x) (g : Nat) (hx : a.eval x = .pointer (some ⟨g, 0, none⟩))
    {t : TypeId} {xs : List Value} {d : TypeDesc} (hB : Blk w g t xs) (hu : P.underlying ty = some d) (hd : (match d with | .struct _ | .array _ _ => true | _ => false) = true) (hi : (P.info? ty).map (·.size) = some xs.length)
    (h : wpList P ops Q rest (a.put o.dst (.agg xs.toArray)) w) : wpList P ops Q (o :: rest) a w :=
  wpList_load_row hgd ty x ho g hx t xs.toArray (0, 0) d hB hu hd (by simpa using hi) h
/-- What lies in a block from a place on. -/
theorem Blk.range {g off : Nat} {t : TypeId} {xs cs : List Value} (hB : Blk w g t xs) (hc : (xs.drop off).take cs.length = cs) : w.rangeAt g off cs := fun j v hv => by
  refine hB.cell ?_
  have hj := (List.getElem?_eq_some_iff.1 hv).1
  rw [← hv, ← hc, List.getElem?_take, if_pos hj, List.getElem?_drop]
theorem wpList_load_part (hgd : o.guard = none) (ty : TypeId) (x : Operand) (ho : o.op = .load ty x) (g off : Nat) (hx : a.eval x = .pointer (some ⟨g, off, none⟩))
    {t : TypeId} {xs : List Value} (cs : List Value) {d : TypeDesc} (hB : Blk w g t xs) (hc : (xs.drop off).take cs.length = cs) (hu : P.underlying ty = some d) (hd : d.isRow = true) (hi : (P.info? ty).map (·.size) = some cs.length)
    (h : wpList P ops Q rest (a.put o.dst (.agg cs.toArray)) w) : wpList P ops Q (o :: rest) a w :=
  wpList_load_mid hgd ty x ho g off hx cs d (hB.range hc) hu hd hi h
theorem run_store_part (w : World) (ty : TypeId) (g off : Nat) {t : TypeId} {xs : List Value} (cs : List Value) (hB : Blk w g t xs) (hfit : off + cs.length ≤ xs.length) (hi : (P.info? ty).map (·.size) = some cs.length) (h1 : ∀ v ∈ cs, v.oneCell' = true) :
    (storeVar ty ⟨g, off, none⟩ (.agg cs.toArray)).run P w = .ok () (w.setRow g (splice xs off cs).toArray) := by
  have hst := run_storeCells_at P g off t cs 0 xs.toArray w hB (by simpa using hfit) h1
  cases hq : P.info? ty with
  | none => simp [hq] at hi
  | some i =>
    have hs : i.size = cs.length := by simpa [hq] using hi
    simp only [Nat.add_zero] at hst
    simp [storeVar, sizeOf, typeInfo, hq, Value.cells, hs, hst, splice]
theorem wpList_store_part (hgd : o.guard = none) (ty : TypeId) (x y : Operand) (ho : o.op = .store ty x y) (g off : Nat) (hx : a.eval x = .pointer (some ⟨g, off, none⟩))
    {t : TypeId} {xs : List Value} (cs : List Value) (hy : a.eval y = .agg cs.toArray) (hB : Blk w g t xs) (hfit : off + cs.length ≤ xs.length) (hi : (P.info? ty).map (·.size) = some cs.length) (h1 : ∀ v ∈ cs, v.oneCell' = true)
    (h : ∀ w', Hid (Blk w' g t (splice xs off cs)) → Hid (Only g w w') → wpList P ops Q rest (a.put o.dst undef) w') : wpList P ops Q (o :: rest) a w := by
  refine wpList_plain hgd fun K hK => ?_
  unfold Oper.wp execOp
  simp only [ho, hx, hy, Instr.storeAt, Instr.sureAddr, Sem.run_bind, Sem.run_pure, Result.andThen_ok, run_store_part w ty g off cs hB hfit hi h1]
  exact hK _ _ (h _ (Lib.hid (setRow_heap w g _ _ t _ hB)) (Lib.hid (Only.row w g _)))
theorem wp_store_part {K : Act → World → Prop} (ty : TypeId) (x y : Operand) (ho : o.op = .store ty x y) (g off : Nat) (hx : a.eval x = .pointer (some ⟨g, off, none⟩))
    {t : TypeId} {xs : List Value} (cs : List Value) (hy : a.eval y = .agg cs.toArray) (hB : Blk w g t xs) (hfit : off + cs.length ≤ xs.length) (hi : (P.info? ty).map (·.size) = some cs.length) (h1 : ∀ v ∈ cs, v.oneCell' = true)
    (h : ∀ w', Hid (Blk w' g t (splice xs off cs)) → Hid (Only g w w') → K (a.put o.dst undef) w') : o.wp P a w K Q := by
  unfold Oper.wp execOp
  simp only [ho, hx, hy, Instr.storeAt, Instr.sureAddr, Sem.run_bind, Sem.run_pure, Result.andThen_ok, run_store_part w ty g off cs hB hfit hi h1]
  exact h _ (Lib.hid (setRow_heap w g _ _ t _ hB)) (Lib.hid (Only.row w g _))
theorem splice_all {α : Type} {xs cs : List α} (h : xs.length = cs.length) : splice xs 0 cs = cs := by
  simp [splice, h ▸ List.drop_length]
theorem wpList_store_blk (hgd : o.guard = none) (ty : TypeId) (x y : Operand) (ho : o.op = .store ty x y) (g : Nat) (hx : a.eval x = .pointer (some ⟨g, 0, none⟩))
    {t : TypeId} {xs : List Value} (cs : List Value) (hy : a.eval y = .agg cs.toArray) (hB : Blk w g t xs) (hfit : xs.length = cs.length) (hi : (P.info? ty).map (·.size) = some cs.length) (h1 : ∀ v ∈ cs, v.oneCell' = true)
    (h : ∀ w', Hid (Blk w' g t cs) → Hid (Only g w w') → wpList P ops Q rest (a.put o.dst undef) w') : wpList P ops Q (o :: rest) a w :=
  wpList_store_part hgd ty x y ho g 0 hx cs hy hB (by omega) hi h1 (by rw [splice_all hfit]; exact h)
theorem run_index_one {t e : TypeId} {n k : Nat} {xs : List Value} {v : Value} (ht : P.underlying t = some (.array n e)) (hd : ∃ d, P.underlying e = some (.int d)) (hi : (P.info? e).map (·.size) = some 1) (hk : k < n) (hv : xs[k]? = some v) (w : World) :
    (Instr.index t (.agg xs.toArray) (.int .i64 (k : Int))).run P w = .ok v w := by
  obtain ⟨d, hd⟩ := hd
  cases hq : P.info? e with
  | none => simp [hq] at hi
  | some i =>
    have hs : i.size = 1 := by simpa [hq] using hi
    simp [Instr.index, run_underlying ht, asIntOf, sizeOf, typeInfo, hq, hs, hk, part, isAgg, run_underlying hd, hv]
/-- A copy into a part of a block. -/
theorem wpList_copy_part (hgd : o.guard = none) (d s : Operand) (dT sT : TypeId) (ho : o.op = .call { callee := .builtin .copy, args := #[d, s], argTypes := #[dT, sT] }) (elem : TypeId) (hu : P.underlying dT = some (.slice elem)) (hsz : (P.info? elem).map (·.size) = some 1)
    (g off dLen dCap : Nat) (hd : a.eval d = .slice (some ⟨g, off, none⟩) dLen dCap) {A : Option Addr} {n c : Nat} {ys : List Value} (hs : a.eval s = .slice A n c) (hR : Rd w A n c ys) (h1 : ∀ v ∈ ys, v.oneCell' = true)
    {t : TypeId} {xs : List Value} (hB : Blk w g t xs) (hfit : off + dLen ≤ xs.length)
    (h : ∀ w' m, Hid (m = min n dLen) → Hid (Blk w' g t (splice xs off (ys.take m))) → Hid (Only g w w') → wpList P ops Q rest (a.put o.dst (.int .i64 (m : Nat))) w') : wpList P ops Q (o :: rest) a w := by
  have hl := hR.len
  have hcl : (ys.take (min n dLen)).length = min n dLen := by simp; omega
  by_cases h0 : min n dLen = 0
  · refine wpList_copy_nothing hgd d s dT sT ho elem hu hsz (some ⟨g, off, none⟩) A dLen dCap n c hd hs h0 ?_
    exact h w 0 (Lib.hid h0.symm) (Lib.hid (by simpa [splice] using hB)) (Lib.hid (Only.refl g w))
  · obtain ⟨b, oo, hA, _, hj⟩ := hR.2.2.2 (by omega)
    subst hA
    refine wpList_copy_own hgd d s dT sT ho elem hu hsz g off dLen dCap ⟨b, oo, none⟩ n c hd hs xs.toArray t hB (ys.take (min n dLen)) hcl (fun j v hv => ?_) (by rw [hcl]; simp; omega) (fun v hv => h1 v (List.mem_of_mem_take hv)) ?_
    · rw [Addr.add_lit]
      rw [List.getElem?_take] at hv
      split at hv
      · exact hj j v hv
      · cases hv
    · have h2 := h (w.setRow g (splice xs off (ys.take (min n dLen))).toArray) (min n dLen) (Lib.hid rfl) (Lib.hid (setRow_heap w g _ _ t _ hB)) (Lib.hid (Only.row w g _))
      rw [hcl]
      simpa [splice, goInt, hcl] using h2
end

/-! ### what keeps all but some blocks -/

/-- All that was there is as it was, but the blocks of F. -/
structure Keep (F : Nat → Prop) (w w' : World) : Prop where
  os : w'.os = w.os
  tape : w'.tape = w.tape
  output : w'.output = w.output
  size : w.heap.size ≤ w'.heap.size
  block : ∀ k, k < w.heap.size → ¬ F k → w'.heap[k]? = w.heap[k]?
section
variable {F G : Nat → Prop} {a b c w w' : World} {B g : Nat}
theorem Keep.refl (F : Nat → Prop) (w : World) : Keep F w w := ⟨rfl, rfl, rfl, Nat.le_refl _, fun _ _ _ => rfl⟩
theorem Keep.trans (h : Keep F a b) (k : Keep G b c) (hf : ∀ k, G k → F k ∨ a.heap.size ≤ k) : Keep F a c :=
  ⟨k.os.trans h.os, k.tape.trans h.tape, k.output.trans h.output, Nat.le_trans h.size k.size, fun i hi hn => (k.block i (Nat.lt_of_lt_of_le hi h.size) fun hg => by
    rcases hf i hg with h1 | h1
    · exact hn h1
    · omega).trans (h.block i hi hn)⟩
theorem Keep.of_below (h : Below w.heap.size w w') : Keep F w w' := ⟨h.os, h.tape, h.output, h.size, fun i hi _ => h.block i hi⟩
theorem Keep.below (h : Keep F w w') (hF : ∀ k, F k → B ≤ k) (hs : B ≤ w.heap.size) : Below B w w' :=
  ⟨h.os, h.tape, h.output, h.size, fun i hi => h.block i (by omega) fun hf => by have := hF i hf; omega⟩
theorem Keep.grown {row : Option Nat} (h : w.grownBy w' row) (hr : ∀ k, row = some k → F k) : Keep F w w' :=
  ⟨h.os, h.tape, h.output, h.size, fun i hi hn => h.block i hi fun he => hn (hr i he.symm)⟩
theorem Keep.only (h : Only g w w') (hg : F g) : Keep F w w' := Keep.grown h.1 fun k hk => by injection hk with hk; exact hk ▸ hg
theorem Keep.drewN (h : Keep F w w') (n : Nat) : Keep F w (w'.drewN n) := ⟨h.os, h.tape, h.output, h.size, h.block⟩
theorem Keep.drew (h : Keep F w w') : Keep F w w'.drew := ⟨h.os, h.tape, h.output, h.size, h.block⟩
theorem Keep.set (w : World) (i : Nat) (v : Value) (hg : F g) : Keep F w (w.setCell ⟨g, i, none⟩ v) := Keep.only (Only.set w g i v) hg
theorem Keep.mono (h : Keep F w w') (hf : ∀ k, k < w.heap.size → F k → G k) : Keep G w w' := ⟨h.os, h.tape, h.output, h.size, fun i hi hn => h.block i hi fun hF => hn (hf i hi hF)⟩
theorem Keep.blk {t : TypeId} {xs : List Value} (h : Keep F w w') (hB : Blk w g t xs) (hg : ¬ F g) : Blk w' g t xs := (h.block g hB.lt hg).trans hB
theorem Keep.rd {A : Option Addr} {n c : Nat} {xs : List Value} (h : Keep F w w') (hR : Rd w A n c xs) (hA : 0 < n → ∀ b o, A = some ⟨b, o, none⟩ → ¬ F b) : Rd w' A n c xs :=
  ⟨hR.1, hR.2.1, hR.2.2.1, fun hp => by
    obtain ⟨b, o, he, hb, hj⟩ := hR.2.2.2 hp
    refine ⟨b, o, he, Nat.lt_of_lt_of_le hb h.size, fun j u hu => ?_⟩
    exact (World.cell?_of_block (h.block b hb (hA hp b o he))).trans (hj j u hu)⟩
theorem Keep.own {base : Nat} {e : TypeId} {size n : Nat} {v : Value} {xs : List Value} (h : Keep F w w') (ho : w.ownsRow base e size v n xs) (hv : ∀ k, v.ownBlock = some k → ¬ F k) : w'.ownsRow base e size v n xs := by
  refine ⟨ho.1, ?_⟩
  rcases ho.2 with hn | ⟨g, cap, cur, rfl, hb, hgg, rest⟩
  · exact .inl hn
  · exact .inr ⟨g, cap, cur, rfl, hb, (h.block g (lt_some hgg) (hv g rfl)).trans hgg, rest⟩
end

/-! ### clear -/

theorem rep_one {zs : List Value} (h1 : ∀ u ∈ zs, u.oneCell' = true) (n : Nat) : ∀ u ∈ (Builtin.zeroCells zs.toArray n).toList, u.oneCell' = true := by
  intro u hu
  simp only [Builtin.zeroCells, List.mem_map, Array.toList_map, Array.toList_range] at hu
  obtain ⟨i, hi, rfl⟩ := hu
  simp only [List.size_toArray] at hi
  have hz : 0 < zs.length := by
    rcases Nat.eq_zero_or_pos zs.length with h | h
    · rw [h] at hi; simp at hi
    · exact h
  have hm := Nat.mod_lt i hz
  refine h1 _ ?_
  simp [hm]

section
variable {P : Program} {ops : Array Oper} {rest : List Oper} {o : Oper} {a : Act} {w : World} {Q : Exit → Act → World → Prop}
theorem run_clear_own (w : World) (t e ty : TypeId) (z : Value) {zs : List Value} (ht : P.underlying t = some (.slice e)) (hv : ∀ w, (zeroValue e).run P w = .ok z w) (hz : z.cells = zs.toArray) (h1 : ∀ u ∈ zs, u.oneCell' = true)
    {base n c : Nat} {A : Option Addr} {xs : List Value} (ho : w.ownsRow base e zs.length (.slice A n c) n xs) :
    ∃ w' ys, (Builtin.clear_ #[t] ty #[.slice A n c]).run P w = .ok (.tuple #[]) w' ∧ w'.ownsRow base e zs.length (.slice A n c) n ys ∧ w.grownBy w' (Value.slice A n c).ownBlock ∧ w'.heap.size = w.heap.size := by
  rcases ho.2 with ⟨hv0, h0⟩ | ⟨g, cap', cur, hv0, hb, hh, hnc, hcm, hcs, hx⟩
  · simp only [Value.slice.injEq] at hv0
    obtain ⟨rfl, rfl, rfl⟩ := hv0
    exact ⟨w, xs, by simp [Builtin.clear_, run_underlying ht], ho, World.grownBy.refl w _, rfl⟩
  · simp only [Value.slice.injEq] at hv0
    obtain ⟨rfl, _, rfl⟩ := hv0
    rcases Nat.eq_zero_or_pos n with h0 | h0
    · subst h0
      exact ⟨w, xs, by simp [Builtin.clear_, run_underlying ht], ho, World.grownBy.refl w _, rfl⟩
    · have hzl : (Builtin.zeroCells zs.toArray n).toList.length = n * zs.length := by simp [Builtin.zeroCells]
      have hle : n * zs.length ≤ c * zs.length := Nat.mul_le_mul_right _ hnc
      have hst := run_storeCells_at P g 0 e (Builtin.zeroCells zs.toArray n).toList 0 cur w hh (by rw [hzl]; omega) (rep_one h1 n)
      obtain ⟨ZC, hZC⟩ : ∃ ZC, ZC = (Builtin.zeroCells zs.toArray n).toList := ⟨_, rfl⟩
      rw [← hZC] at hst hzl
      simp only [Nat.zero_add, List.take_zero, List.nil_append] at hst
      refine ⟨w.setRow g (ZC ++ cur.toList.drop ZC.length).toArray, ZC, ?_, ⟨hzl, .inr ⟨g, c, _, rfl, hb, setRow_heap w g _ _ e _ hh, hnc, hcm, ?_, ?_⟩⟩, (Only.row w g _).1, (Only.row w g _).2⟩
      · obtain ⟨m, rfl⟩ : ∃ m, n = m + 1 := ⟨n - 1, by omega⟩
        simp [Builtin.clear_, run_underlying ht, hv, hz, ← hZC, hst]
      · simp [hzl, hcs]; omega
      · rw [← hzl]; simp
theorem wpList_clear_own (hgd : o.guard = none) (x : Operand) (t e : TypeId) (ho : o.op = .call { callee := .builtin .clear, args := #[x], argTypes := #[t] }) (z : Value) {zs : List Value} (ht : P.underlying t = some (.slice e)) (hv : ∀ w, (zeroValue e).run P w = .ok z w) (hz : z.cells = zs.toArray) (h1 : ∀ u ∈ zs, u.oneCell' = true)
    {base n c : Nat} {A : Option Addr} {xs : List Value} (hx : a.eval x = .slice A n c) {size : Nat} (hs : size = zs.length) (hown : w.ownsRow base e size (.slice A n c) n xs)
    (h : ∀ w' ys, Hid (w'.ownsRow base e size (.slice A n c) n ys) → w.grownBy w' (Value.slice A n c).ownBlock → Hid (w'.heap.size = w.heap.size) → wpList P ops Q rest (a.put o.dst (.tuple #[])) w') : wpList P ops Q (o :: rest) a w := by
  subst hs
  refine wpList_plain hgd fun K hK => ?_
  obtain ⟨w', ys, hrun, h2, h3, h4⟩ := run_clear_own (P := P) w t e o.type z ht hv hz h1 hown
  unfold Oper.wp execOp
  simp only [ho, resolve, invoke, builtin, Sem.run_bind, Sem.run_pure, Result.andThen_ok, List.map_toArray, List.map_cons, List.map_nil, hx, hrun]
  exact hK _ _ (h w' ys h2 h3 h4)
/-- An append of elements of several cells each: where the new block lies, too. -/
theorem wp_append_at {K : Act → World → Prop} (s x : Operand) (t : TypeId)
    (ho : o.op = .call { callee := .builtin .append, args := #[s, x], argTypes := #[t, t] })
    (base : Nat) (e : TypeId) (i : TypeInfo) (z : Value) (size bytes : Nat) (ht : P.underlying t = some (.slice e)) (hi : P.info? e = some i) (hz : i.zero = some z)
    (hsize : i.size = size) (hby : i.bytes = bytes) (hzs : z.cells.size = size) (hsz : 0 < size)
    (v : Value) (n : Nat) (xs : List Value) (hs : a.eval s = v) (hown : w.ownsRow base e size v n xs)
    (ad : Addr) (m c : Nat) (news : List Value) (hx : a.eval x = .slice (some ad) m c) (hl : news.length = m * size) (hnews : ∀ j u, news[j]? = some u → w.cell? (ad.add j) = some u) (h1 : ∀ u ∈ news, u.oneCell' = true)
    (h63 : n + m ≤ maxLen) (hbytes : (n + m) * bytes ≤ 140737488355328) (hbase : base ≤ w.heap.size)
    (h : ∀ A' n' c' w', Hid (n' = n + m) → Hid (w'.ownsRow base e size (.slice A' n' c') n' (xs ++ news)) → w.grownBy w' v.ownBlock → Hid ((Value.slice A' n' c').ownBlock = v.ownBlock ∨ (Value.slice A' n' c').ownBlock = some w.heap.size) → K (a.put o.dst (.slice A' n' c')) w') : o.wp P a w K Q := by
  obtain ⟨v', w', hrun, h2, h3, _, h5⟩ := run_append_own_at (P := P) (w := w) base t o.type e i z size bytes ht hi hz hsize hby hzs hsz v n xs hown ad m c news hl hnews h1 h63 hbytes hbase
  unfold Oper.wp execOp
  simp only [ho, resolve, invoke, builtin, Sem.run_bind, Sem.run_pure, Result.andThen_ok, List.map_toArray, List.map_cons, List.map_nil, hs, hx, hrun]
  have h6 := h2
  rcases h6.2 with ⟨rfl, h0⟩ | ⟨g, cap, cur, rfl, _⟩
  · exact h none 0 0 w' h0.symm (by rw [h0] at h2; exact h2) h3 h5
  · exact h _ _ _ w' rfl h2 h3 h5
end
end Go.Proofs.Ytdmfgffjplbloaa.Mem
namespace Go.Proofs.Ytdmfgffjplbloaa.DskA
open Go.RowKit Go.Proofs.Ytdmfgffjplbloaa.Kit Go.Proofs.Ytdmfgffjplbloaa.Byt Go.Proofs.Ytdmfgffjplbloaa.Mem

/-- What a disk is: its sectors, what waits, the fuse, whether it is down. -/
structure St where
  S : List (List Nat)
  L : List (Nat × List Nat)
  fuse : Int
  down : Bool
structure St.ok (s : St) : Prop where
  pos : 1 ≤ s.S.length
  most : s.S.length ≤ 128
  sec : ∀ x ∈ s.S, x.length = 64
  wait : ∀ p ∈ s.L, p.1 < s.S.length ∧ p.2.length = 64
  lo : -9223372036854775808 ≤ s.fuse
  hi : s.fuse ≤ 9223372036854775807
/-- A write that waits, as it lies. -/
structure Wr where
  at_ : Nat
  b : Nat
  c : Nat
  bs : List Nat
def Wr.cells (e : Wr) : List Value := [.int .i64 (e.at_ : Int), .slice (some ⟨e.b, 0, none⟩) 64 e.c]
def wc (E : List Wr) : List Value := E.flatMap Wr.cells
theorem wc_len (E : List Wr) : (wc E).length = E.length * 2 := by
  induction E with
  | nil => rfl
  | cons e E ih => simp only [wc, List.flatMap_cons, List.length_append] at ih ⊢; rw [ih]; simp [Wr.cells]; omega
theorem wc_app (E E' : List Wr) : wc (E ++ E') = wc E ++ wc E' := by simp [wc]
theorem wc_at {E : List Wr} {k : Nat} (h : k < E.length) : (wc E)[2 * k]? = some (.int .i64 (E[k].at_ : Int)) ∧ (wc E)[2 * k + 1]? = some (.slice (some ⟨E[k].b, 0, none⟩) 64 E[k].c) := by
  induction E generalizing k with
  | nil => simp at h
  | cons e E ih =>
    have hc : wc (e :: E) = .int .i64 (e.at_ : Int) :: .slice (some ⟨e.b, 0, none⟩) 64 e.c :: wc E := rfl
    rw [hc]
    cases k with
    | zero => exact ⟨rfl, rfl⟩
    | succ k =>
      have := ih (k := k) (by simpa using h)
      rw [show 2 * (k + 1) = 2 * k + 1 + 1 by omega]
      simpa using this
def hd (gl N : Nat) (A : Option Addr) (n c : Nat) (f : Int) (d : Bool) : List Value := [.slice (some ⟨gl, 0, none⟩) N N, .slice A n c, .int .i64 f, .bool d]

/-- Block g holds the disk s; its blocks are those of F. -/
structure At (w : World) (F : Nat → Prop) (g : Nat) (s : St) (gl : Nat) (A : Option Addr) (n c : Nat) (E : List Wr) : Prop where
  head : Blk w g 59 (hd gl s.S.length A n c s.fuse s.down)
  laid : Blk w gl 91 (u8n s.S.flatten)
  own : w.ownsRow 0 71 2 (.slice A n c) n (wc E)
  list : s.L = E.map fun e => (e.at_, e.bs)
  ent : ∀ e ∈ E, Rd w (some ⟨e.b, 0, none⟩) 64 e.c (u8n e.bs) ∧ F e.b ∧ e.b ≠ g ∧ e.b ≠ gl ∧ ∀ k, (Value.slice A n c).ownBlock = some k → e.b ≠ k
  fg : F g
  fl : F gl
  ne : gl ≠ g
  fw : ∀ k, (Value.slice A n c).ownBlock = some k → F k ∧ k ≠ g ∧ k ≠ gl
  lt : ∀ k, F k → k < w.heap.size
  ok : s.ok
def Dk (w : World) (F : Nat → Prop) (g : Nat) (s : St) : Prop := ∃ gl A n c E, At w F g s gl A n c E

section
variable {w w' : World} {F G : Nat → Prop} {g gl n c : Nat} {s : St} {A : Option Addr} {E : List Wr}
theorem At.len (h : At w F g s gl A n c E) : E.length = n := by
  have := h.own.1
  rw [wc_len] at this
  omega
theorem At.long (h : At w F g s gl A n c E) : s.L.length = n := by rw [h.list, List.length_map, h.len]
theorem At.cells (h : At w F g s gl A n c E) : w.cell? ⟨g, 0, none⟩ = some (.slice (some ⟨gl, 0, none⟩) s.S.length s.S.length) ∧ w.cell? ⟨g, 1, none⟩ = some (.slice A n c) ∧ w.cell? ⟨g, 2, none⟩ = some (.int .i64 s.fuse) ∧ w.cell? ⟨g, 3, none⟩ = some (.bool s.down) :=
  ⟨h.head.cell rfl, h.head.cell rfl, h.head.cell rfl, h.head.cell rfl⟩
theorem At.keep (h : At w F g s gl A n c E) (k : Keep G w w') (hd : ∀ k, F k → ¬ G k) : At w' F g s gl A n c E :=
  ⟨k.blk h.head (hd _ h.fg), k.blk h.laid (hd _ h.fl), k.own h.own fun i hi => hd i (h.fw i hi).1, h.list, fun e he => by
    obtain ⟨h1, h2, h3, h4, h5⟩ := h.ent e he
    exact ⟨k.rd h1 fun _ b o hb => by injection hb with hb; injection hb with hb _; exact hb ▸ hd _ h2, h2, h3, h4, h5⟩,
    h.fg, h.fl, h.ne, h.fw, fun i hi => Nat.lt_of_lt_of_le (h.lt i hi) k.size, h.ok⟩
theorem Dk.keep (h : Dk w F g s) (k : Keep G w w') (hd : ∀ k, F k → ¬ G k) : Dk w' F g s := by
  obtain ⟨gl, A, n, c, E, h⟩ := h
  exact ⟨gl, A, n, c, E, h.keep k hd⟩
theorem Dk.below (h : Dk w F g s) (hb : Below w.heap.size w w') : Dk w' F g s := h.keep (Keep.of_below (F := fun _ => False) hb) fun _ _ h => h
theorem Dk.lt (h : Dk w F g s) : ∀ k, F k → k < w.heap.size := by obtain ⟨_, _, _, _, _, h⟩ := h; exact h.lt
theorem Dk.ok (h : Dk w F g s) : s.ok := by obtain ⟨_, _, _, _, _, h⟩ := h; exact h.ok
/-- The head alone was written: fuse and down. -/
theorem At.heads {f : Int} {d : Bool} (h : At w F g s gl A n c E) (h' : Blk w' g 59 (hd gl s.S.length A n c f d)) (k : Keep (fun i => i = g) w w') (lo : -9223372036854775808 ≤ f) (hi : f ≤ 9223372036854775807) : At w' F g { s with fuse := f, down := d } gl A n c E :=
  ⟨h', k.blk h.laid h.ne, k.own h.own fun i hi => (h.fw i hi).2.1, h.list, fun e he => by
    obtain ⟨h1, h2, h3, h4, h5⟩ := h.ent e he
    exact ⟨k.rd h1 fun _ b o hb => by injection hb with hb; injection hb with hb _; exact hb ▸ h3, h2, h3, h4, h5⟩,
    h.fg, h.fl, h.ne, h.fw, fun i hi => Nat.lt_of_lt_of_le (h.lt i hi) k.size, ⟨h.ok.pos, h.ok.most, h.ok.sec, h.ok.wait, lo, hi⟩⟩
theorem At.fuse (h : At w F g s gl A n c E) {f : Int} (lo : -9223372036854775808 ≤ f) (hi : f ≤ 9223372036854775807) : At (w.setCell ⟨g, 2, none⟩ (.int .i64 f)) F g { s with fuse := f } gl A n c E :=
  h.heads (f := f) (d := s.down) (h.head.set 2 _) (Keep.set w 2 _ rfl) lo hi
theorem At.down_ (h : At w F g s gl A n c E) (d : Bool) : At (w.setCell ⟨g, 3, none⟩ (.bool d)) F g { s with down := d } gl A n c E :=
  h.heads (f := s.fuse) (d := d) (h.head.set 3 _) (Keep.set w 3 _ rfl) h.ok.lo h.ok.hi
end

/-- What a call on the disk hands back and leaves. -/
def Got (F : Nat → Prop) (g : Nat) (w : World) (v : Value) (s' : St) (e : Ending) (w' : World) : Prop :=
  e = .returned v ∧ ∃ F', Dk w' F' g s' ∧ Keep F w w' ∧ ∀ k, F' k → F k ∨ w.heap.size ≤ k

/-- Does a call go on? -/
def spend (s : St) : Bool × St :=
  if s.fuse = 0 then (false, { s with down := true }) else if s.down then (false, s) else (true, if 0 < s.fuse then { s with fuse := s.fuse - 1 } else s)

def inB (s : St) (i : Int) : Bool := decide (0 ≤ i ∧ i < (s.S.length : Int))
theorem has_any (F : Nat → Prop) (g : Nat) (s : St) (i : Int) (w : World) (hD : Dk w F g s) :
    Calls Try.prog 31 #[.pointer (some ⟨g, 0, none⟩), .int .i64 i] w fun e w' => e = .returned (.bool (inB s i)) ∧ w = w' := by
  obtain ⟨gl, A, n, c, E, h⟩ := hD
  obtain ⟨c0, _, _, _⟩ := h.cells
  have hp := h.ok.pos
  have hm := h.ok.most
  clear h
  obtain ⟨N, hN⟩ : ∃ N, N = s.S.length := ⟨_, rfl⟩
  unfold inB
  rw [← hN] at c0 hp hm ⊢
  clear hN
  by_cases h0 : 0 ≤ i
  · go_enter Try.func31, Try.ntmps31
    go_wp2
    go_ret
    exact ⟨ret_bool (by simp [h0]), rfl⟩
  · go_enter Try.func31, Try.ntmps31
    go_wp2
    go_ret
    exact ⟨ret_bool (by rw [Bool.eq_iff_iff]; simp; omega), rfl⟩

theorem len_any (F : Nat → Prop) (g : Nat) (s : St) (w : World) (hD : Dk w F g s) : Calls Try.prog 21 #[.pointer (some ⟨g, 0, none⟩)] w fun e w' => e = .returned (.int .i64 (s.S.length : Nat)) ∧ w = w' := by
  obtain ⟨gl, A, n, c, E, h⟩ := hD
  obtain ⟨c0, _, _, _⟩ := h.cells
  clear h
  go_enter Try.func21, Try.ntmps21
  go_wp2
  go_ret
  exact ⟨rfl, rfl⟩
theorem len_nil (w : World) : Calls Try.prog 21 #[.pointer none] w fun e w' => e = .returned (.int .i64 0) ∧ w = w' := by
  go_enter Try.func21, Try.ntmps21
  go_wp2
  go_ret
  exact ⟨rfl, rfl⟩

theorem fuse_nil (i : Int) (w : World) : Calls Try.prog 12 #[.pointer none, .int .i64 i] w fun e w' => e = .returned (.tuple #[]) ∧ w = w' := by
  go_enter Try.func12, Try.ntmps12
  go_wp2
  go_end0
  exact ⟨rfl, rfl⟩
theorem fuse_any (F : Nat → Prop) (g : Nat) (s : St) (i : Int) (w : World) (hD : Dk w F g s) (lo : -9223372036854775808 ≤ i) (hi : i ≤ 9223372036854775807) :
    Calls Try.prog 12 #[.pointer (some ⟨g, 0, none⟩), .int .i64 i] w (Got F g w (.tuple #[]) { s with fuse := i }) := by
  obtain ⟨gl, A, n, c, E, h⟩ := hD
  obtain ⟨_, _, c2, _⟩ := h.cells
  have f2 := h.head.frozen 2
  have H := Lib.hid h
  clear h
  go_enter Try.func12, Try.ntmps12
  go_wp2
  go_end0
  exact ⟨rfl, F, ⟨gl, A, n, c, E, H.out.fuse lo hi⟩, Keep.set _ _ _ H.out.fg, fun k hk => .inl hk⟩

set_option maxHeartbeats 400000 in
theorem spend_any (F : Nat → Prop) (g : Nat) (s : St) (w : World) (hD : Dk w F g s) :
    Calls Try.prog 32 #[.pointer (some ⟨g, 0, none⟩)] w (Got F g w (.bool (spend s).1) (spend s).2) := by
  obtain ⟨gl, A, n, c, E, h⟩ := hD
  obtain ⟨_, _, c2, c3⟩ := h.cells
  have f2 := h.head.frozen 2
  have f3 := h.head.frozen 3
  have lo := h.ok.lo
  have hi := h.ok.hi
  have H := Lib.hid h
  clear h
  unfold spend
  by_cases h0 : s.fuse = 0
  · rw [if_pos h0]
    rw [h0] at c2
    go_enter Try.func32, Try.ntmps32
    go_wp2
    go_ret
    exact ⟨rfl, F, ⟨gl, A, n, c, E, H.out.down_ true⟩, Keep.set _ _ _ H.out.fg, fun k hk => .inl hk⟩
  · rw [if_neg h0]
    have h0' : (s.fuse == 0) = false := by simpa using h0
    have H0 := Lib.hid h0
    clear h0
    cases hd : s.down with
    | true =>
      rw [hd] at c3
      rw [if_pos rfl]
      have Hd := Lib.hid hd
      clear hd
      go_enter Try.func32, Try.ntmps32
      go_wp2
      go_ret
      exact ⟨rfl, F, ⟨gl, A, n, c, E, H.out⟩, Keep.refl _ _, fun k hk => .inl hk⟩
    | false =>
      rw [hd] at c3
      rw [if_neg (by simp)]
      have Hd := Lib.hid hd
      clear hd
      by_cases hp : 0 < s.fuse
      · rw [if_pos hp]
        go_enter Try.func32, Try.ntmps32
        go_wp2
        go_ret
        have hA := H.out.fuse (f := s.fuse - 1) (by omega) (by omega)
        rw [Hd.out] at hA
        exact ⟨rfl, F, ⟨gl, A, n, c, E, hA⟩, Keep.set _ _ _ H.out.fg, fun k hk => .inl hk⟩
      · rw [if_neg hp]
        go_enter Try.func32, Try.ntmps32
        go_wp2
        go_ret
        exact ⟨rfl, F, ⟨gl, A, n, c, E, H.out⟩, Keep.refl _ _, fun k hk => .inl hk⟩

theorem all_any (i : Int) (w : World) : Calls Try.prog 53 #[.int .i64 i] w fun e w' => e = .returned (.bool true) ∧ w = w' := by
  go_enter Try.func53, Try.ntmps53
  go_wp2
  go_ret
  exact ⟨rfl, rfl⟩
end Go.Proofs.Ytdmfgffjplbloaa.DskA
