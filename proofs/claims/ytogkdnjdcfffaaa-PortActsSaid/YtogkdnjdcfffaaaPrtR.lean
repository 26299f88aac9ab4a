/- The document's own channels in memory. No conditions but those each law names. -/
import Derived.Test.YtogkdnjdcfffaaaPrtD
namespace Go.Proofs.Ytogkdnjdcfffaaa.PrtR
open Go.RowKit Go.Proofs.Ytogkdnjdcfffaaa.Kit Go.Proofs.Ytogkdnjdcfffaaa.Byt Go.Proofs.Ytogkdnjdcfffaaa.Mem Go.Proofs.Ytogkdnjdcfffaaa.TabI Go.Proofs.Ytogkdnjdcfffaaa.PrtM Go.Proofs.Ytogkdnjdcfffaaa.PrtA Go.Proofs.Ytogkdnjdcfffaaa.PrtB Go.Proofs.Ytogkdnjdcfffaaa.PrtC Go.Proofs.Ytogkdnjdcfffaaa.PrtD
open Go.Proofs.Ytogkdnjdcfffaaa.TabA (Tri Tris Ta)

theorem Tris.keep {F : Nat → Prop} {w w' : World} {A : Option Addr} {n c : Nat} {R : List Tri} (h : Tris w A n c R) (hk : Keep F w w') (hA : 0 < n → ∀ b o, A = some ⟨b, o, none⟩ → ¬ F b) : Tris w' A n c R :=
  ⟨h.1, h.2.1, h.2.2.1, h.2.2.2.1, fun hp => by
    obtain ⟨b, o, he, hbl, hc⟩ := h.2.2.2.2 hp
    exact ⟨b, o, he, Nat.lt_of_lt_of_le hbl hk.size, fun k r hr j u hu => (World.cell?_of_block (hk.block b hbl (hA hp b o he))).trans (hc k r hr j u hu)⟩⟩
def Ref (l : Lab) : Prop := l = .rlist ∨ l = .rdata
/-- One slice among those of the lists. -/
def Lies (w : World) (ρ : Nat → Lab) (v : Value) (l : List Int) : Prop := ∃ A m c, v = .slice A m c ∧ Rd w A m c (i64s l) ∧ (0 < m → ∀ b o, A = some ⟨b, o, none⟩ → ρ b = .rdata)
structure Rf (B : Nat) (w : World) (ρ : Nat → Lab) (X gl : Nat) (A : Option Addr) (n c : Nat) (C : List Tri) (L : Nat → List Int) : Prop where
  bd : Bd B w ρ
  base : B ≤ w.heap.size
  x : Blk w X 50 [.slice A n c, .slice (some ⟨gl, 0, none⟩) n n]
  lx : ρ X = .rset
  tri : Tris w A n c C
  lc : 0 < n → ∀ b o, A = some ⟨b, o, none⟩ → ρ b = .rdata
  ll : ρ gl = .rlist
  rows : ∃ V, Blk w gl 52 V ∧ V.length = n ∧ ∀ (k : Nat) (v : Value), V[k]? = some v → Lies w ρ v (L k)
  most : n ≤ 4
section
variable {F : Lab → Prop} {B X gl n c k : Nat} {w w' : World} {ρ ρ' : Nat → Lab} {A : Option Addr} {C : List Tri} {L : Nat → List Int} {l : List Int} {v : Value} {r : Tri}
theorem Lies.carry {G : Nat → Prop} (h : Lies w ρ v l) (hk : Keep G w w') (ho : ∀ i, i < w.heap.size → ρ' i = ρ i) (hG : ∀ b, ρ b = .rdata → ¬ G b) : Lies w' ρ' v l := by
  obtain ⟨A, m, c, rfl, h1, h2⟩ := h
  refine ⟨A, m, c, rfl, hk.rd h1 fun hp b o hA => hG b (h2 hp b o hA), fun hp b o hA => ?_⟩
  obtain ⟨b', o', hA', hbl, _⟩ := h1.2.2.2 hp
  rw [hA] at hA'
  injection hA' with hA'
  injection hA' with hb _
  subst hb
  rw [ho b hbl]
  exact h2 hp b o hA
theorem Rf.cellC (h : Rf B w ρ X gl A n c C L) (hp : 0 < n) : ∃ b o, A = some ⟨b, o, none⟩ ∧ b < w.heap.size ∧ ρ b = .rdata := by
  obtain ⟨b, o, hA, hbl, _⟩ := h.tri.2.2.2.2 hp
  exact ⟨b, o, hA, hbl, h.lc hp b o hA⟩
/-- Something else has changed. -/
theorem Rf.carry (h : Rf B w ρ X gl A n c C L) (hs : Stp F w ρ w' ρ') (h1 : ¬ F .rset) (h2 : ¬ F .rlist) (h3 : ¬ F .rdata) : Rf B w' ρ' X gl A n c C L where
  bd := h.bd.step h.base hs
  base := Nat.le_trans h.base hs.keep.size
  x := hs.keep.blk h.x (by rw [h.lx]; exact h1)
  lx := by rw [hs.old X h.x.lt]; exact h.lx
  tri := Tris.keep h.tri hs.keep fun hp b o hA => by rw [h.lc hp b o hA]; exact h3
  lc := fun hp b o hA => by
    obtain ⟨b', o', hA', hbl, hl⟩ := h.cellC hp
    rw [hA] at hA'
    injection hA' with hA'
    injection hA' with hb _
    subst hb
    rw [hs.old b hbl]
    exact hl
  ll := by
    obtain ⟨V, hV, _⟩ := h.rows
    rw [hs.old gl hV.lt]
    exact h.ll
  rows := by
    obtain ⟨V, hV, hl, hr⟩ := h.rows
    exact ⟨V, hs.keep.blk hV (by rw [h.ll]; exact h2), hl, fun k v hv => (hr k v hv).carry hs.keep hs.old fun b hb => by rw [hb]; exact h3⟩
  most := h.most
theorem Rf.below (h : Rf B w ρ X gl A n c C L) (hb : Below w.heap.size w w') : Rf B w' ρ X gl A n c C L := h.carry (F := fun _ => False) (Stp.of_below h.bd hb) id id id
/-- One list is another one. -/
theorem Rf.turn (h : Rf B w ρ X gl A n c C L) {V V' : List Value} (hV : Blk w gl 52 V) (hl : V.length = n) (hk : Keep (fun i => i = gl) w w') (ho : ∀ i, i < w.heap.size → ρ' i = ρ i) (hn : ∀ i, w.heap.size ≤ i → ρ' i = .out ∨ (ρ' i = .rdata ∧ i < w'.heap.size))
    (hV' : Blk w' gl 52 V') (hl' : V'.length = n) (hrest : ∀ j, j ≠ k → V'[j]? = V[j]?) (hnew : ∀ v, V'[k]? = some v → Lies w' ρ' v l) : Rf B w' ρ' X gl A n c C (up L k l) ∧ Stp Ref w ρ w' ρ' := by
  have hs : Stp Ref w ρ w' ρ' := ⟨hk.mono fun i _ hi => by rw [hi]; exact .inl h.ll, ho, fun i hi => (hn i hi).imp id fun h => ⟨.inr h.1, h.2⟩⟩
  have hXg : X ≠ gl := fun e => by have := h.lx; rw [e, h.ll] at this; cases this
  have hnd : ∀ b, ρ b = .rdata → ¬ b = gl := fun b hb e => by rw [e, h.ll] at hb; cases hb
  refine ⟨⟨h.bd.step h.base hs, Nat.le_trans h.base hk.size, hk.blk h.x hXg, by rw [ho X h.x.lt]; exact h.lx, Tris.keep h.tri hk fun hp b o hA => hnd b (h.lc hp b o hA), fun hp b o hA => ?_, by rw [ho gl hV.lt]; exact h.ll, ⟨V', hV', hl', fun j v hv => ?_⟩, h.most⟩, hs⟩
  · obtain ⟨b', o', hA', hbl, hlb⟩ := h.cellC hp
    rw [hA] at hA'
    injection hA' with hA'
    injection hA' with hb _
    subst hb
    rw [ho b hbl]
    exact hlb
  · by_cases hj : j = k
    · subst hj
      rw [up_same]
      exact hnew v hv
    · rw [up_other hj]
      rw [hrest j hj] at hv
      obtain ⟨V2, hV2, _, hr2⟩ := h.rows
      obtain rfl : V2 = V := by
        have h5 : some (Obj.cells V2.toArray 52 (0, 0)) = some (Obj.cells V.toArray 52 (0, 0)) := hV2.symm.trans hV
        injection h5 with h5
        injection h5 with h5 _
        exact List.toArray_inj h5
      exact (hr2 j v hv).carry hk ho hnd
/-- A list, as it lies. -/
theorem Rf.at_ (h : Rf B w ρ X gl A n c C L) {k : Nat} (hk : k < n) : ∃ (r : Tri) (b o : Nat) (A1 : Option Addr) (m c1 : Nat), C[k]? = some r ∧ r.ok ∧ A = some ⟨b, o, none⟩ ∧ b < w.heap.size ∧ w.cell? ⟨b, o + k * 3, none⟩ = some (.int .i64 r.a) ∧ w.cell? ⟨b, o + k * 3 + 1, none⟩ = some (.int .i64 r.b) ∧ w.cell? ⟨b, o + k * 3 + 2, none⟩ = some (.int .i64 r.c) ∧
    w.cell? ⟨gl, k, none⟩ = some (.slice A1 m c1) ∧ Rd w A1 m c1 (i64s (L k)) ∧ (0 < m → ∀ b o, A1 = some ⟨b, o, none⟩ → ρ b = .rdata) := by
  obtain ⟨r, b, o, hr, hok, hA, hbl, h0, h1, h2⟩ := h.tri.at_ hk
  obtain ⟨V, hV, hl, hv⟩ := h.rows
  have hk2 : k < V.length := by rw [hl]; exact hk
  obtain ⟨A1, m, c1, he, h3, h4⟩ := hv k _ (List.getElem?_eq_getElem hk2)
  exact ⟨r, b, o, A1, m, c1, hr, hok, hA, hbl, h0, h1, h2, hV.cell (by rw [List.getElem?_eq_getElem hk2, he]), h3, h4⟩
theorem size_told : (Try.prog.info? 42).map (·.size) = some 3 := by kernel_rfl
/-- What a call leaves. -/
def Rft (B : Nat) (w : World) (ρ : Nat → Lab) (X gl : Nat) (A : Option Addr) (n c : Nat) (C : List Tri) (L : Nat → List Int) (v : Value) (e : Ending) (w' : World) : Prop :=
  e = .returned v ∧ ∃ ρ', Rf B w' ρ' X gl A n c C L ∧ Stp Ref w ρ w' ρ'
theorem Rft.same (h : Rf B w ρ X gl A n c C L) (v : Value) {w' : World} (hb : Below w.heap.size w w') : Rft B w ρ X gl A n c C L v (.returned v) w' := ⟨rfl, ρ, h.below hb, Stp.of_below h.bd hb⟩
end
end Go.Proofs.Ytogkdnjdcfffaaa.PrtR
