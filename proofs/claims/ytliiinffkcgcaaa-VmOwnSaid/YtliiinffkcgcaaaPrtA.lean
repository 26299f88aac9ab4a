/- The program's channels in memory: each block has a label. No conditions but those each law names. -/
import Derived.Test.YtliiinffkcgcaaaPrtM
namespace Go.Proofs.Ytliiinffkcgcaaa.PrtA
open Go.RowKit Go.Proofs.Ytliiinffkcgcaaa.Kit Go.Proofs.Ytliiinffkcgcaaa.Byt Go.Proofs.Ytliiinffkcgcaaa.Mem Go.Proofs.Ytliiinffkcgcaaa.TabI Go.Proofs.Ytliiinffkcgcaaa.PrtM
open Go.Proofs.Ytliiinffkcgcaaa.TabA (Tri Tris)

/-- What a block is there for. -/
inductive Lab
  | out | set | list | head (k : Nat) | row (k : Nat) | rset | rlist | rdata | own (k : Nat)
/-- What was labelled so may have changed, and what is new is labelled so; all else is as it was. -/
structure Stp (F : Lab → Prop) (w : World) (ρ : Nat → Lab) (w' : World) (ρ' : Nat → Lab) : Prop where
  keep : Keep (fun i => F (ρ i)) w w'
  old : ∀ i, i < w.heap.size → ρ' i = ρ i
  new : ∀ i, w.heap.size ≤ i → ρ' i = .out ∨ (F (ρ' i) ∧ i < w'.heap.size)
def Bd (B : Nat) (w : World) (ρ : Nat → Lab) : Prop := ∀ i, ρ i ≠ .out → B ≤ i ∧ i < w.heap.size
section
variable {F G : Lab → Prop} {B : Nat} {w w' w2 : World} {ρ ρ' ρ2 : Nat → Lab}
theorem Stp.refl (F : Lab → Prop) (h : Bd B w ρ) : Stp F w ρ w ρ := ⟨Keep.refl _ _, fun _ _ => rfl, fun i hi => .inl (Classical.byContradiction fun hn => by have := (h i hn).2; omega)⟩
theorem Stp.of_below (h : Bd B w ρ) (hb : Below w.heap.size w w') : Stp F w ρ w' ρ := ⟨Keep.of_below hb, fun _ _ => rfl, fun i hi => .inl (Classical.byContradiction fun hn => by have := (h i hn).2; omega)⟩
theorem Bd.step (hB : Bd B w ρ) (hBw : B ≤ w.heap.size) (h : Stp F w ρ w' ρ') : Bd B w' ρ' := fun i hn => by
  rcases Nat.lt_or_ge i w.heap.size with h1 | h1
  · rw [h.old i h1] at hn
    exact ⟨(hB i hn).1, by have := h.keep.size; omega⟩
  · rcases h.new i h1 with h2 | h2
    · exact absurd h2 hn
    · exact ⟨by omega, h2.2⟩
theorem Stp.trans (h : Stp F w ρ w' ρ') (k : Stp F w' ρ' w2 ρ2) : Stp F w ρ w2 ρ2 :=
  ⟨h.keep.trans k.keep fun i hi => by
      rcases Nat.lt_or_ge i w.heap.size with h1 | h1
      · rw [h.old i h1] at hi; exact .inl hi
      · exact .inr h1,
    fun i hi => (k.old i (Nat.lt_of_lt_of_le hi h.keep.size)).trans (h.old i hi),
    fun i hi => by
      rcases Nat.lt_or_ge i w'.heap.size with h1 | h1
      · rw [k.old i h1]
        exact (h.new i hi).imp id fun h2 => ⟨h2.1, by have := k.keep.size; omega⟩
      · exact k.new i h1⟩
theorem Stp.mono (h : Stp F w ρ w' ρ') (hf : ∀ l, F l → G l) : Stp G w ρ w' ρ' := ⟨h.keep.mono fun _ _ h => hf _ h, h.old, fun i hi => (h.new i hi).imp id fun h2 => ⟨hf _ h2.1, h2.2⟩⟩
theorem Stp.below (h : Stp F w ρ w' ρ') (hB : Bd B w ρ) (hF : ¬ F .out) (hw : B ≤ w.heap.size) : Below B w w' := h.keep.below (fun k hk => (hB k fun e => hF (e ▸ hk)).1) hw
theorem Stp.drew (h : Stp F w ρ w' ρ') : Stp F w ρ w'.drew ρ' := ⟨h.keep.drew, h.old, h.new⟩
theorem Stp.drewN (h : Stp F w ρ w' ρ') (n : Nat) : Stp F w ρ (w'.drewN n) ρ' := ⟨h.keep.drewN n, h.old, h.new⟩
end

/-- The dynamic type of a channel's content. -/
def kind (d : Int) : TypeId := if d = 0 then 120 else 123
def ccells (r : Tri) (q : Nat) : List Value := [.int .i64 r.a, .int .i64 r.b, .iface (kind r.c) (.pointer (some ⟨q, 0, none⟩))]
def lcells (Q : Nat → Nat) : Nat → List Tri → List Value
  | _, [] => []
  | k, r :: R => ccells r (Q k) ++ lcells Q (k + 1) R
theorem lcells_len (Q : Nat → Nat) : ∀ (k : Nat) (R : List Tri), (lcells Q k R).length = R.length * 3
  | _, [] => rfl
  | k, r :: R => by rw [lcells, List.length_append, lcells_len Q (k + 1) R]; simp [ccells]; omega
theorem lcells_at (Q : Nat → Nat) {r : Tri} {u : Value} {i : Nat} : ∀ (k j : Nat) (R : List Tri), R[j]? = some r → (ccells r (Q (k + j)))[i]? = some u → (lcells Q k R)[j * 3 + i]? = some u
  | k, j, [], h, _ => by simp at h
  | k, 0, r' :: R, h, hu => by
    simp at h
    subst h
    rw [Nat.add_zero] at hu
    rw [lcells, Nat.zero_mul, Nat.zero_add, List.getElem?_append_left (List.getElem?_eq_some_iff.1 hu).1]
    exact hu
  | k, j + 1, r' :: R, h, hu => by
    rw [lcells, List.getElem?_append_right (by simp [ccells]; omega), show (j + 1) * 3 + i - (ccells r' (Q k)).length = j * 3 + i by simp [ccells]; omega]
    exact lcells_at Q (k + 1) j R (by simpa using h) (by rw [show k + 1 + j = k + (j + 1) by omega]; exact hu)
theorem lcells_snoc (Q : Nat → Nat) (r : Tri) : ∀ (k : Nat) (R : List Tri), lcells Q k (R ++ [r]) = lcells Q k R ++ ccells r (Q (k + R.length))
  | k, [] => by simp [lcells]
  | k, r' :: R => by
    rw [List.cons_append, lcells, lcells, lcells_snoc Q r (k + 1) R, List.append_assoc]
    congr 3
    rw [List.length_cons, show k + 1 + R.length = k + (R.length + 1) by omega]
theorem lcells_congr {Q Q' : Nat → Nat} : ∀ (k : Nat) (R : List Tri), (∀ j, k ≤ j → j < k + R.length → Q' j = Q j) → lcells Q' k R = lcells Q k R
  | _, [], _ => rfl
  | k, r :: R, h => by
    rw [lcells, lcells, h k (Nat.le_refl _) (by simp), lcells_congr (k + 1) R fun j h1 h2 => h j (by omega) (by simp; omega)]

/-- What a channel's content is. -/
def Cont (B : Nat) (w : World) (ρ : Nat → Lab) (k q : Nat) (d : Int) (l : List Int) : Prop :=
  (d = 0 ∧ ∃ (x : Int) (b : Bool), Blk w q 122 [.int .i64 x, .bool b] ∧ (b = true → l = [x]) ∧ (b = false → l = [] ∧ x = 0)) ∨
  (d ≠ 0 ∧ ∃ (A : Option Addr) (n c : Nat), Blk w q 125 [.int .i64 d, .slice A n c] ∧ w.ownsRow B 3 1 (.slice A n c) n (i64s l) ∧ (n : Int) ≤ d ∧ ∀ g, (Value.slice A n c).ownBlock = some g → ρ g = .row k)
structure Chs (B : Nat) (w : World) (ρ : Nat → Lab) (S : Nat) (A : Option Addr) (n c : Nat) (Q : Nat → Nat) (C : List Tri) (L : Nat → List Int) : Prop where
  bd : Bd B w ρ
  base : B ≤ w.heap.size
  set : Blk w S 95 [.slice A n c]
  lset : ρ S = .set
  list : w.ownsRow B 100 3 (.slice A n c) n (lcells Q 0 C)
  llist : ∀ g, (Value.slice A n c).ownBlock = some g → ρ g = .list
  len : C.length = n
  most : n ≤ 4
  ok : ∀ r ∈ C, r.ok ∧ 0 ≤ r.c ∧ r.c ≤ 4
  head : ∀ (k : Nat) (r : Tri), C[k]? = some r → ρ (Q k) = .head k ∧ Cont B w ρ k (Q k) r.c (L k)
/-- What the program's calls may touch. -/
def Prog : Lab → Prop
  | .head _ => True
  | .row _ => True
  | _ => False
def Mine (k : Nat) : Lab → Prop := fun l => l = .head k ∨ l = .row k
theorem Mine.prog {k : Nat} {l : Lab} (h : Mine k l) : Prog l := by rcases h with rfl | rfl <;> trivial
section
variable {F : Lab → Prop} {B S n c k q : Nat} {w w' : World} {ρ ρ' : Nat → Lab} {A : Option Addr} {Q : Nat → Nat} {C : List Tri} {L : Nat → List Int} {l : List Int} {d : Int} {r : Tri}
theorem own_len {e : TypeId} {v : Value} {l : List Int} (h : w.ownsRow B e 1 v n (i64s l)) : l.length = n := by have := h.1; rw [i64s_len] at this; omega
theorem Cont.carry (h : Cont B w ρ k q d l) (hs : Stp F w ρ w' ρ') (hq : ¬ F (ρ q)) (hr : ¬ F (.row k)) : Cont B w' ρ' k q d l := by
  rcases h with ⟨h0, x, b, h1, h2⟩ | ⟨h0, A, n, c, h1, h2, h3, h4⟩
  · exact .inl ⟨h0, x, b, hs.keep.blk h1 hq, h2⟩
  · exact .inr ⟨h0, A, n, c, hs.keep.blk h1 hq, hs.keep.own h2 fun g hg hf => hr (h4 g hg ▸ hf), h3, fun g hg => by rw [hs.old g (h2.lt g hg).2]; exact h4 g hg⟩
/-- Something else has changed. -/
theorem Chs.carry (h : Chs B w ρ S A n c Q C L) (hs : Stp F w ρ w' ρ') (h1 : ¬ F .set) (h2 : ¬ F .list) (h3 : ∀ k, ¬ F (.head k)) (h4 : ∀ k, ¬ F (.row k)) : Chs B w' ρ' S A n c Q C L where
  bd := h.bd.step h.base hs
  base := Nat.le_trans h.base hs.keep.size
  set := hs.keep.blk h.set (by rw [h.lset]; exact h1)
  lset := by rw [hs.old S h.set.lt]; exact h.lset
  list := hs.keep.own h.list fun g hg hf => h2 (h.llist g hg ▸ hf)
  llist := fun g hg => by rw [hs.old g (h.list.lt g hg).2]; exact h.llist g hg
  len := h.len
  most := h.most
  ok := h.ok
  head := fun k r hr => by
    obtain ⟨e1, e2⟩ := h.head k r hr
    have hq : Q k < w.heap.size := (h.bd (Q k) (by rw [e1]; intro e; cases e)).2
    exact ⟨by rw [hs.old _ hq]; exact e1, e2.carry hs (by rw [e1]; exact h3 k) (h4 k)⟩
theorem Chs.below (h : Chs B w ρ S A n c Q C L) (hb : Below w.heap.size w w') : Chs B w' ρ S A n c Q C L := h.carry (F := fun _ => False) (Stp.of_below h.bd hb) id id (fun _ => id) fun _ => id
/-- One channel's content has changed. -/
theorem Chs.turn (h : Chs B w ρ S A n c Q C L) (hr : C[k]? = some r) (hs : Stp (Mine k) w ρ w' ρ') (hc : Cont B w' ρ' k (Q k) r.c l) : Chs B w' ρ' S A n c Q C (up L k l) where
  bd := h.bd.step h.base hs
  base := Nat.le_trans h.base hs.keep.size
  set := hs.keep.blk h.set (by rw [h.lset]; rintro (e | e) <;> cases e)
  lset := by rw [hs.old S h.set.lt]; exact h.lset
  list := hs.keep.own h.list fun g hg hf => by rw [h.llist g hg] at hf; rcases hf with e | e <;> cases e
  llist := fun g hg => by rw [hs.old g (h.list.lt g hg).2]; exact h.llist g hg
  len := h.len
  most := h.most
  ok := h.ok
  head := fun j r' hr' => by
    obtain ⟨e1, e2⟩ := h.head j r' hr'
    have hq : Q j < w.heap.size := (h.bd (Q j) (by rw [e1]; intro e; cases e)).2
    refine ⟨by rw [hs.old _ hq]; exact e1, ?_⟩
    by_cases hj : j = k
    · subst hj
      rw [hr] at hr'
      injection hr' with hr'
      subst hr'
      rw [up_same]
      exact hc
    · rw [up_other hj]
      refine e2.carry hs ?_ ?_
      · rw [e1]
        rintro (e | e)
        · injection e with e; exact hj e
        · cases e
      · rintro (e | e)
        · cases e
        · injection e with e; exact hj e
/-- A channel, as it lies. -/
theorem Chs.at_ (h : Chs B w ρ S A n c Q C L) {k : Nat} (hk : k < n) : ∃ (r : Tri) (b o : Nat), C[k]? = some r ∧ (r.ok ∧ 0 ≤ r.c ∧ r.c ≤ 4) ∧ A = some ⟨b, o, none⟩ ∧ b < w.heap.size ∧ w.cell? ⟨b, o + k * 3, none⟩ = some (.int .i64 r.a) ∧ w.cell? ⟨b, o + k * 3 + 1, none⟩ = some (.int .i64 r.b) ∧ w.cell? ⟨b, o + k * 3 + 2, none⟩ = some (.iface (kind r.c) (.pointer (some ⟨Q k, 0, none⟩))) := by
  have hk' : k < C.length := by rw [h.len]; exact hk
  have hr := List.getElem?_eq_getElem hk'
  rcases h.list.2 with ⟨hv, h0⟩ | ⟨g, cap', cur, hv, _, hh, _⟩
  · omega
  · simp only [Value.slice.injEq] at hv
    obtain ⟨rfl, _, rfl⟩ := hv
    have hc := h.list.cells (g := g) rfl
    have ha : ∀ (i : Nat) (u : Value), (ccells C[k] (Q k))[i]? = some u → w.cell? ⟨g, 0 + k * 3 + i, none⟩ = some u := fun i u hu => by
      have h2 := hc (k * 3 + i) u (lcells_at Q 0 k C hr (by rw [Nat.zero_add]; exact hu))
      rw [Addr.add_lit] at h2
      rw [← h2, Nat.add_assoc]
    exact ⟨C[k], g, 0, hr, h.ok _ (List.getElem_mem hk'), rfl, lt_of_block hh, ha 0 _ rfl, ha 1 _ rfl, ha 2 _ rfl⟩
end
end Go.Proofs.Ytliiinffkcgcaaa.PrtA
