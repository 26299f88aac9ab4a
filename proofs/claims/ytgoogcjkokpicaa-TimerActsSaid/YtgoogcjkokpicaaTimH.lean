/- Timers in memory: container/heap's Push; a map from names to blocks. Conditions: they lie as the facts say. -/
import Derived.Test.YtgoogcjkokpicaaTimG
import Derived.Maps.OwnSet
namespace Go.Proofs.Ytgoogcjkokpicaa.TimH
open Go.RowKit Go.Proofs.Ytgoogcjkokpicaa.Kit Go.Proofs.Ytgoogcjkokpicaa.Byt Go.Proofs.Ytgoogcjkokpicaa.Mem Go.Proofs.Ytgoogcjkokpicaa.TimM Go.Proofs.Ytgoogcjkokpicaa.TimA Go.Proofs.Ytgoogcjkokpicaa.TimB Go.Proofs.Ytgoogcjkokpicaa.TimC Go.Proofs.Ytgoogcjkokpicaa.TimD Go.Proofs.Ytgoogcjkokpicaa.TimE Go.Proofs.Ytgoogcjkokpicaa.TimG
open Go.Maps (Keyed)

section
variable {B tb mb n c g m k i : Nat} {F : Nat → Prop} {w w' w2 : World} {A : Option Addr} {E : List En} {Q R : List En → Prop}
set_option maxHeartbeats 2000000 in
set_option maxRecDepth 100000 in
theorem push_any {x : En} (h : HpA B w F tb mb A n c E) (hn : n < 1000) (hE : Blk w x.b 59 (ecells x 0)) (hB : B ≤ x.b) (hF : ¬ F x.b) (h1 : hw x.name) (h2 : hw x.tick) (hH : Hp (at_ E) n) :
    Calls Try.prog 21 #[.iface 61 (.pointer (some ⟨tb, 0, none⟩)), .iface 56 (pt x)] w fun e w' => e = .returned (.tuple #[]) ∧ Psh B w F tb mb n E x (fun E' => Hp (at_ E') (n + 1)) w' := by
  have hP := fun (q : Nat) (w : World) => meth_push q w ⟨tb, 0, none⟩
  have hl := h.len
  have hs1 : ((n + 1 : Nat) : Int) - 1 = (n : Nat) := by omega
  have hp := Lib.hid (pushm_any h hn hE hB hF h1 h2)
  have HH := Lib.hid hH
  clear h hE hB hF h1 h2 hH
  go_enter Try.func21, Try.ntmps21
  go_wp2_with fail
  refine hp.out.mono ?_
  rintro e w1 ⟨rfl, F1, A1, c1, E1, a1, a2, a3, a4, a6, a5⟩
  subst a5
  obtain ⟨g, ys, rfl, _⟩ := a1.some_ (by omega)
  have hM := fun (q : Nat) => meth_len q w1 ⟨tb, 0, none⟩ _ (a1.box.cell (i := 0) rfl)
  have hu := Lib.hid (up_any a1 (j := n) (m := n + 1) (by omega) (Nat.le_refl _) (HH.out.more fun x hx => at_app (by omega)))
  have HT := Lib.hid (show ∀ w2, Upd B w1 F1 tb mb (some ⟨g, 0, none⟩) (n + 1) c1 (n + 1) (E ++ [x]) (fun E' => Hp (at_ E') (n + 1)) w2 → Psh B w F tb mb n E x (fun E' => Hp (at_ E') (n + 1)) w2 from by
    rintro w2 ⟨E2, b1, b2, b3, b4, b5⟩
    exact ⟨F1, _, c1, E2, b1, b2, a3.trans b4 fun i hi => (a4 i hi).elim (fun h => .inl (.inl h)) fun h => h.elim (fun h => .inl (.inr h)) .inr, a4, a6, b5⟩)
  clear a1 a2 a3 a4 a6
  go_wp2_with fail
  refine (len_any _ _ _ _).mono ?_
  rintro e w2 ⟨rfl, rfl⟩
  go_wp2_with fail
  refine hu.out.mono ?_
  rintro e w3 ⟨rfl, h3⟩
  have H3 := Lib.hid (HT.out _ h3)
  clear h3
  go_wp2
  go_end0
  exact ⟨rfl, H3.out⟩
end

/-! ### the map -/
def rp (v : Value) : Option (DataW Value × List MemPlace) := some (.held v, [])
def pv : Option Nat → Value
  | none => .pointer none
  | some b => .pointer (some ⟨b, 0, none⟩)
/-- Block mb is a map of at most N entries: at the name k the block f k. -/
def Mp (w : World) (mb N : Nat) (f : Int → Option Nat) : Prop :=
  ∃ D : DataW Value, w.ownsMap Try.prog 3 rp mb N D ∧ ∀ k, hw k → Maps.has D (.int .i64 k) = (f k).isSome ∧ ∀ b, f k = some b → ∀ z, D.atKey (.int .i64 k) z = .held (pv (some b))
theorem law : Keyed Try.prog 3 := Maps.int_keyed Try.underlying3
theorem zero_pe (w : World) : (zeroValue 56).run Try.prog w = .ok (.pointer none) w := by kernel_rfl
theorem kof {k : Int} (h : hw k) : keyOf Try.prog 3 (.int .i64 k) = some (.int .i64 k) := Maps.keyOf_int_mk Try.underlying3 h
def upf (f : Int → Option Nat) (k : Int) (o : Option Nat) : Int → Option Nat := fun j => if j = k then o else f j
theorem upf_same (f : Int → Option Nat) (k : Int) (o : Option Nat) : upf f k o k = o := if_pos rfl
theorem upf_other {f : Int → Option Nat} {k j : Int} (h : j ≠ k) (o : Option Nat) : upf f k o j = f j := if_neg h
theorem isK (k : Int) : WideAt.IsKeyLit (.int .i64 k) := trivial
section
variable {w w' : World} {mb N : Nat} {f : Int → Option Nat} {k : Int}
theorem Mp.lt (h : Mp w mb N f) : mb < w.heap.size := by obtain ⟨D, h, _⟩ := h; exact h.lt
theorem Mp.keep {G : Nat → Prop} (h : Mp w mb N f) (hk : Keep G w w') (hG : ¬ G mb) : Mp w' mb N f := by
  have hlt := h.lt
  obtain ⟨D, ⟨es, clock, hb, r⟩, h2⟩ := h
  exact ⟨D, ⟨es, clock, (hk.block mb hlt hG).trans hb, r⟩, h2⟩
theorem Mp.made (w : World) : Mp (w.alloc (.map #[] 0)) w.heap.size 0 (fun _ => none) :=
  ⟨_, World.ownsMap_made w _ _ _, fun k _ => ⟨rfl, fun b hb => by cases hb⟩⟩
theorem Mp.put {b : Nat} {D : DataW Value} (hk : hw k) (h : ∀ k, hw k → Maps.has D (.int .i64 k) = (f k).isSome ∧ ∀ b, f k = some b → ∀ z, D.atKey (.int .i64 k) z = .held (pv (some b))) (hD : Maps.IsMap D) (hw' : w'.ownsMap Try.prog 3 rp mb N (D.put (.int .i64 k) (.held (pv (some b))))) :
    Mp w' mb N (upf f k (some b)) := by
  refine ⟨_, hw', fun j hj => ?_⟩
  by_cases e : j = k
  · subst e
    rw [upf_same]
    exact ⟨Maps.has_put_same hD (isK _) _, fun b' hb' z => by injection hb' with hb'; subst hb'; exact Maps.atKey_put_same hD (isK _) _ _⟩
  · have hne : Lit.int .i64 j ≠ Lit.int .i64 k := fun h => e (by injection h)
    rw [upf_other e]
    exact ⟨(Maps.has_put_other hne _).trans (h j hj).1, fun b' hb' z => (Maps.atKey_put_other hne _ _).trans ((h j hj).2 b' hb' z)⟩
theorem Mp.del {D : DataW Value} (h : ∀ k, hw k → Maps.has D (.int .i64 k) = (f k).isSome ∧ ∀ b, f k = some b → ∀ z, D.atKey (.int .i64 k) z = .held (pv (some b))) (hw' : w'.ownsMap Try.prog 3 rp mb N (D.del (.int .i64 k))) :
    Mp w' mb N (upf f k none) := by
  refine ⟨_, hw', fun j hj => ?_⟩
  by_cases e : j = k
  · subst e
    rw [upf_same]
    exact ⟨Maps.has_del_same, fun b' hb' => by cases hb'⟩
  · have hne : Lit.int .i64 j ≠ Lit.int .i64 k := fun h => e (by injection h)
    rw [upf_other e]
    exact ⟨(Maps.has_del_other hne).trans (h j hj).1, fun b' hb' z => (Maps.atKey_del_other hne _).trans ((h j hj).2 b' hb' z)⟩
end
section
variable {w : World} {mb N : Nat} {f : Int → Option Nat} {k : Int} {ops : Array Oper} {rest : List Oper} {o : Oper} {a : Act} {Q : Exit → Act → World → Prop}
theorem wpList_look (hg : o.guard = none) (m x : Operand) (hop : o.op = Op.lookup 51 m x true) (hM : Mp w mb N f) (hk : hw k) (hm : a.eval m = .map (some mb)) (hx : a.eval x = .int .i64 k)
    (hK : wpList Try.prog ops Q rest (a.put o.dst (.tuple #[pv (f k), .bool (f k).isSome])) w) : wpList Try.prog ops Q (o :: rest) a w := by
  obtain ⟨D, hown, h2⟩ := hM
  obtain ⟨e1, e2⟩ := h2 k hk
  refine wpList_lookup_own_ok w hg m x _ hop 3 56 law Try.underlying51 rp (zero_pe w) (.held (.pointer none)) [] rfl mb N D hm hown _ _ hx (kof hk) fun v ps hv => ?_
  have hv' : v = pv (f k) := by
    injection hv with hv
    injection hv with hv _
    cases hf : f k with
    | none =>
      rw [hf] at e1
      rw [Maps.atKey_of_not_has e1] at hv
      injection hv
    | some b =>
      rw [e2 b hf] at hv
      injection hv
  rw [e1, hv']
  exact hK
theorem wpList_put (hg : o.guard = none) (m x v : Operand) (hop : o.op = Op.mapUpdate 51 m x v) (hM : Mp w mb N f) (hN : N < 1000) (hk : hw k) (b : Nat) (hm : a.eval m = .map (some mb)) (hx : a.eval x = .int .i64 k) (hv : a.eval v = .pointer (some ⟨b, 0, none⟩))
    (hK : ∀ w', Mp w' mb (N + 1) (upf f k (some b)) → Keep (fun i => i = mb) w w' → wpList Try.prog ops Q rest (a.put o.dst undef) w') : wpList Try.prog ops Q (o :: rest) a w := by
  obtain ⟨D, hown, h2⟩ := hM
  refine wpList_mapUpdate_in w hg m x v _ hop 3 56 law Try.underlying51 rp mb N D hm hown (by unfold maxLen; omega) _ _ _ hx hv (kof hk) (.held (pv (some b))) [] rfl fun w' h3 h4 => ?_
  exact hK w' (Mp.put hk h2 hown.isMap h3) (Keep.grown h4.grown fun i hi => by injection hi with hi; exact hi.symm)
theorem wpList_del (m x : Operand) (hop : o.op = Op.call { callee := Callee.builtin Builtin.delete, args := #[m, x], argTypes := #[51, 3] }) (hg : o.guard = none) (hM : Mp w mb N f) (hk : hw k) (hm : a.eval m = .map (some mb)) (hx : a.eval x = .int .i64 k)
    (hK : ∀ w', Mp w' mb N (upf f k none) → Keep (fun i => i = mb) w w' → wpList Try.prog ops Q rest (a.put o.dst (.tuple #[])) w') : wpList Try.prog ops Q (o :: rest) a w := by
  obtain ⟨D, hown, h2⟩ := hM
  refine wpList_delete_own w hg m x _ 3 hop 56 law Try.underlying51 rp mb N D hm hown _ _ hx (kof hk) fun w' h3 h4 => ?_
  exact hK w' (Mp.del h2 h3) (Keep.grown h4.grown fun i hi => by injection hi with hi; exact hi.symm)
end
end Go.Proofs.Ytgoogcjkokpicaa.TimH
