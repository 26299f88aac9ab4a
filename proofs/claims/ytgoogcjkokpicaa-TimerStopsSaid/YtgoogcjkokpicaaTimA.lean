/- Timers in memory: the heap's row and its entries; its methods through the interface; Less. Conditions: they lie as the facts say. -/
import Derived.Test.YtgoogcjkokpicaaTimM
import Derived.Test.YtgoogcjkokpicaaMem
import Derived.Laws.OwnMore
namespace Go.Proofs.Ytgoogcjkokpicaa.TimA
open Go.RowKit Go.Proofs.Ytgoogcjkokpicaa.Kit Go.Proofs.Ytgoogcjkokpicaa.Byt Go.Proofs.Ytgoogcjkokpicaa.Mem Go.Proofs.Ytgoogcjkokpicaa.TimM

abbrev hw (x : Int) : Prop := (Lit.int .i64 x).wf = true
def pt (e : En) : Value := .pointer (some ⟨e.b, 0, none⟩)
def pts (E : List En) : List Value := E.map pt
def ecells (e : En) (k : Nat) : List Value := [.int .i64 e.name, .int .i64 e.tick, .int .i64 (k : Nat)]
/-- The heap in memory: F its blocks, tb the Timers' box, mb its map; the row is A, n, c; E what is set. -/
structure HpA (B : Nat) (w : World) (F : Nat → Prop) (tb mb : Nat) (A : Option Addr) (n c : Nat) (E : List En) : Prop where
  bd : ∀ i, F i → B ≤ i ∧ i < w.heap.size
  base : B ≤ w.heap.size
  box : Blk w tb 55 [.slice A n c, .map (some mb)]
  ftb : F tb
  row : w.ownsRow B 56 1 (.slice A n c) n (pts E)
  frow : ∀ g, (Value.slice A n c).ownBlock = some g → F g ∧ g ≠ tb ∧ ∀ e ∈ E, e.b ≠ g
  len : E.length = n
  most : n ≤ 1000
  ent : ∀ k, k < n → Blk w (at_ E k).b 59 (ecells (at_ E k) k)
  en : ∀ e ∈ E, F e.b ∧ e.b ≠ tb ∧ hw e.name ∧ hw e.tick
  nd : ∀ i j, i < n → j < n → (at_ E i).b = (at_ E j).b → i = j
theorem drewN_add (w : World) (a b : Nat) : (w.drewN a).drewN b = w.drewN (a + b) := by simp [World.drewN, Nat.add_assoc]
section
variable {B tb mb n c : Nat} {F : Nat → Prop} {w w' : World} {A : Option Addr} {E : List En}
theorem HpA.drewN (h : HpA B w F tb mb A n c E) (k : Nat) : HpA B (w.drewN k) F tb mb A n c E :=
  ⟨h.bd, h.base, h.box, h.ftb, h.row, h.frow, h.len, h.most, h.ent, h.en, h.nd⟩
theorem HpA.drew (h : HpA B w F tb mb A n c E) : HpA B w.drew F tb mb A n c E :=
  ⟨h.bd, h.base, h.box, h.ftb, h.row, h.frow, h.len, h.most, h.ent, h.en, h.nd⟩
/-- Something else has changed. -/
theorem HpA.keep {G : Nat → Prop} (h : HpA B w F tb mb A n c E) (hk : Keep G w w') (hG : ∀ i, G i → F i → False) : HpA B w' F tb mb A n c E where
  bd := fun i hi => ⟨(h.bd i hi).1, by have := (h.bd i hi).2; have := hk.size; omega⟩
  base := Nat.le_trans h.base hk.size
  box := hk.blk h.box fun hg => hG _ hg h.ftb
  ftb := h.ftb
  row := hk.own h.row fun g hg hf => hG _ hf (h.frow g hg).1
  frow := h.frow
  len := h.len
  most := h.most
  ent := fun k hk' => hk.blk (h.ent k hk') fun hg => hG _ hg (h.en _ (at_mem (by rw [h.len]; exact hk'))).1
  en := h.en
  nd := h.nd
theorem HpA.some_ (h : HpA B w F tb mb A n c E) (hn : 0 < n) : ∃ g ys, A = some ⟨g, 0, none⟩ ∧ B ≤ g ∧ Blk w g 56 ys ∧ ys.length = c ∧ ys.take n = pts E ∧ n ≤ c ∧ c ≤ 9223372036854775807 := by
  rcases h.row.2 with ⟨hv, h0⟩ | ⟨g, cap, cur, hv, hb, hg, hnc, hcm, hcs, ht⟩
  · omega
  · simp only [Value.slice.injEq] at hv
    obtain ⟨rfl, _, rfl⟩ := hv
    unfold maxLen at hcm
    rw [Nat.mul_one] at hcs ht
    exact ⟨g, cur.toList, rfl, hb, by unfold Blk; rw [hg], by simpa using hcs, ht, hnc, hcm⟩
theorem pts_at {k : Nat} (h : k < E.length) : (pts E)[k]? = some (pt (at_ E k)) := by unfold pts; rw [List.getElem?_map, at_some h]; rfl
theorem HpA.cell {g : Nat} (h : HpA B w F tb mb (some ⟨g, 0, none⟩) n c E) {k : Nat} (hk : k < n) : w.cell? ⟨g, k, none⟩ = some (pt (at_ E k)) := by
  have := h.row.cells (g := g) rfl k _ (pts_at (by rw [h.len]; exact hk))
  simpa [Addr.add_lit] using this
theorem HpA.name (h : HpA B w F tb mb A n c E) {k : Nat} (hk : k < n) : w.cell? ⟨(at_ E k).b, 0, none⟩ = some (.int .i64 (at_ E k).name) := (h.ent k hk).cell (i := 0) rfl
theorem HpA.tick (h : HpA B w F tb mb A n c E) {k : Nat} (hk : k < n) : w.cell? ⟨(at_ E k).b, 1, none⟩ = some (.int .i64 (at_ E k).tick) := (h.ent k hk).cell (i := 1) rfl
theorem HpA.place (h : HpA B w F tb mb A n c E) {k : Nat} (hk : k < n) : w.cell? ⟨(at_ E k).b, 2, none⟩ = some (.int .i64 (k : Nat)) := (h.ent k hk).cell (i := 2) rfl
end

/-! ### the methods, through the interface -/
theorem load_order (w : World) (a : Addr) (v : Value) (h : w.cell? a = some v) : (loadVar 53 a).run Try.prog w = .ok v w := by
  have e1 : (isAgg 53).run Try.prog w = .ok false w := by kernel_rfl
  simp [loadVar, e1, Sem.run_bind, Result.andThen, h]
theorem chk_order (w : World) (a : Addr) (s : String) : (Builtin.ssaWrapNilChk_ #[61] 61 #[.pointer (some a), strVal "", strVal s]).run Try.prog w = .ok (.pointer (some a)) w := by kernel_rfl
theorem recv_order (w : World) (a : Addr) (v : Value) (h : w.cell? a = some v) (s : String) : (receiverAt 61 (.val (.pointer (some a))) false (some s)).run Try.prog w = .ok v w := by
  unfold receiverAt
  simp [Sem.run_bind, Place.get, chk_order, asAddr, load_order w a v h]
theorem meth_len (m : Nat) (w : World) (a : Addr) (v : Value) (h : w.cell? a = some v) : (method (m + 1) 61 (.pointer (some a)) "Len").run Try.prog w = .ok (42, v) w := by
  unfold method
  simp [Sem.run_bind, Try.t61, follow, recv_order w a v h]
theorem meth_less (m : Nat) (w : World) (a : Addr) (v : Value) (h : w.cell? a = some v) : (method (m + 1) 61 (.pointer (some a)) "Less").run Try.prog w = .ok (43, v) w := by
  unfold method
  simp [Sem.run_bind, Try.t61, follow, recv_order w a v h]
theorem meth_swap (m : Nat) (w : World) (a : Addr) (v : Value) (h : w.cell? a = some v) : (method (m + 1) 61 (.pointer (some a)) "Swap").run Try.prog w = .ok (44, v) w := by
  unfold method
  simp [Sem.run_bind, Try.t61, follow, recv_order w a v h]
theorem meth_pop (m : Nat) (w : World) (a : Addr) : (method (m + 1) 61 (.pointer (some a)) "Pop").run Try.prog w = .ok (45, .pointer (some a)) w := by kernel_rfl
theorem meth_push (m : Nat) (w : World) (a : Addr) : (method (m + 1) 61 (.pointer (some a)) "Push").run Try.prog w = .ok (46, .pointer (some a)) w := by kernel_rfl
def hv (tb : Nat) : Value := .iface 61 (.pointer (some ⟨tb, 0, none⟩))

section
variable {B tb mb n c g : Nat} {F : Nat → Prop} {w w' : World} {E : List En}
theorem less_any (h : HpA B w F tb mb (some ⟨g, 0, none⟩) n c E) {i j : Nat} (hi : i < n) (hj : j < n) :
    Calls Try.prog 43 #[.slice (some ⟨g, 0, none⟩) n c, .int .i64 (i : Nat), .int .i64 (j : Nat)] w fun e w' => e = .returned (.bool (ls (at_ E i).nt (at_ E j).nt)) ∧ ∃ k, w' = w.drewN k := by
  have hm := h.most
  have ci := h.cell hi
  have cj := h.cell hj
  have ni := h.name hi
  have nj := h.name hj
  have ti := h.tick hi
  have tj := h.tick hj
  clear h
  unfold ls En.nt
  simp only [pt] at ci cj
  generalize at_ E i = x at ci ni ti ⊢
  generalize at_ E j = y at cj nj tj ⊢
  by_cases he : x.tick = y.tick
  · have hd : (x.tick != y.tick) = false := by simp [he]
    rw [if_pos he]
    clear he
    go_enter Try.func43, Try.ntmps43
    go_wp2
    go_quiet (fail)
    go_wp2
    go_quiet (fail)
    go_wp2
    go_ret
    exact ⟨rfl, _, drewN_add _ _ _⟩
  · have hd : (x.tick != y.tick) = true := by simpa using he
    rw [if_neg he]
    clear he
    go_enter Try.func43, Try.ntmps43
    go_wp2
    go_quiet (fail)
    go_wp2
    go_quiet (fail)
    go_wp2
    go_ret
    exact ⟨rfl, _, drewN_add _ _ _⟩
end
end Go.Proofs.Ytgoogcjkokpicaa.TimA
