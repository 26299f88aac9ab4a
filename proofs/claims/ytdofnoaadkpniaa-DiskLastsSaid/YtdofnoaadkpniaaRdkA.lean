/- The reference's disk as it lies in memory. No conditions but those each law names. -/
import Derived.Test.YtdofnoaadkpniaaDskF
namespace Go.Proofs.Ytdofnoaadkpniaa.RdkA
open Go.RowKit Go.Proofs.Ytdofnoaadkpniaa.Kit Go.Proofs.Ytdofnoaadkpniaa.Byt Go.Proofs.Ytdofnoaadkpniaa.Mem Go.Proofs.Ytdofnoaadkpniaa.DskA Go.Proofs.Ytdofnoaadkpniaa.DskB

structure Sv where
  A : Option Addr
  n : Nat
  c : Nat
def Sv.v (s : Sv) : Value := .slice s.A s.n s.c
def up {α : Type} (r : Nat → α) (j : Nat) (q : α) : Nat → α := fun i => if i = j then q else r i
theorem up_same {α : Type} (r : Nat → α) (j : Nat) (q : α) : up r j q j = q := if_pos rfl
theorem up_ne {α : Type} (r : Nat → α) {j i : Nat} (q : α) (h : i ≠ j) : up r j q i = r i := if_neg h
/-- The rows' elements: bytes, numbers, bytes. -/
def ty (j : Nat) : TypeId := if j = 1 then 3 else 31
def hdr (r : Nat → Sv) (f : Int) (d : Bool) : List Value := [(r 0).v, (r 1).v, (r 2).v, .int .i64 f, .bool d]
theorem hdr_up {r : Nat → Sv} {f : Int} {d : Bool} {j : Nat} (h : j < 3) (q : Sv) : (hdr r f d).set j q.v = hdr (up r j q) f d := by
  match j, h with
  | 0, _ => rfl
  | 1, _ => rfl
  | 2, _ => rfl
/-- The block g is a disk's; r are its rows, x what they hold. -/
structure RB (w : World) (F : Nat → Prop) (g : Nat) (r : Nat → Sv) (x : Nat → List Value) (f : Int) (d : Bool) : Prop where
  head : Blk w g 42 (hdr r f d)
  own : ∀ j, j < 3 → w.ownsRow 0 (ty j) 1 (r j).v (r j).n (x j)
  fg : F g
  fo : ∀ j, j < 3 → ∀ k, (r j).v.ownBlock = some k → F k ∧ k ≠ g ∧ ∀ i, i < 3 → i ≠ j → (r i).v.ownBlock ≠ some k
  lt : ∀ k, F k → k < w.heap.size
/-- Bytes that are read alone. -/
structure El (w : World) (F : Nat → Prop) (g : Nat) (r : Nat → Sv) (v : Sl) : Prop where
  rd : Rd w v.A v.n v.c (u8n v.xs)
  n64 : v.n = 64
  fp : ∀ b o, v.A = some ⟨b, o, none⟩ → F b ∧ b ≠ g ∧ ∀ i, i < 3 → (r i).v.ownBlock ≠ some b
/-- F, and all that was made since. -/
def Gr (F : Nat → Prop) (w w' : World) : Nat → Prop := fun k => F k ∨ (w.heap.size ≤ k ∧ k < w'.heap.size)

section
variable {w w1 w2 w3 w' : World} {F G : Nat → Prop} {g : Nat} {r : Nat → Sv} {x : Nat → List Value} {f : Int} {d : Bool}
theorem Gr.lt (h : ∀ k, F k → k < w.heap.size) (hs : w.heap.size ≤ w'.heap.size) : ∀ k, Gr F w w' k → k < w'.heap.size := by
  intro k hk
  rcases hk with hk | hk
  · exact Nat.lt_of_lt_of_le (h k hk) hs
  · exact hk.2
theorem Gr.ge (F : Nat → Prop) (w w' : World) : ∀ k, Gr F w w' k → F k ∨ w.heap.size ≤ k := fun _ hk => hk.elim .inl fun h => .inr h.1
theorem RB.keep (h : RB w F g r x f d) (k : Keep G w w') (hd : ∀ k, F k → ¬ G k) : RB w' (Gr F w w') g r x f d :=
  ⟨k.blk h.head (hd _ h.fg), fun j hj => k.own (h.own j hj) fun i hi => hd i (h.fo j hj i hi).1, .inl h.fg, fun j hj i hi => ⟨.inl (h.fo j hj i hi).1, (h.fo j hj i hi).2⟩, Gr.lt h.lt k.size⟩
theorem El.keep {v : Sl} (h : El w F g r v) (k : Keep G w w') (hd : ∀ k, F k → ¬ G k) : El w' (Gr F w w') g r v :=
  ⟨k.rd h.rd fun _ b o hA => hd b (h.fp b o hA).1, h.n64, fun b o hA => ⟨.inl (h.fp b o hA).1, (h.fp b o hA).2⟩⟩
theorem RB.below (h : RB w F g r x f d) (hb : Below w.heap.size w w') : RB w' (Gr F w w') g r x f d := h.keep (Keep.of_below (F := fun _ => False) hb) fun _ _ h => h
theorem El.below {v : Sl} (h : El w F g r v) (hb : Below w.heap.size w w') : El w' (Gr F w w') g r v := h.keep (Keep.of_below (F := fun _ => False) hb) fun _ _ h => h
/-- A row was appended to, and laid back. -/
theorem RB.grow (h : RB w F g r x f d) (hb : Below w.heap.size w w1) {j : Nat} (hj : j < 3) {q : Sv} {ys : List Value} (hown : w2.ownsRow 0 (ty j) 1 q.v q.n ys) (hg : w1.grownBy w2 (r j).v.ownBlock)
    (hat : q.v.ownBlock = (r j).v.ownBlock ∨ q.v.ownBlock = some w1.heap.size) (hw3 : w3 = w2.setCell ⟨g, j, none⟩ q.v) :
    RB w3 (Gr F w w3) g (up r j q) (up x j ys) f d ∧ (∀ v, El w F g r v → El w3 (Gr F w w3) g (up r j q) v) ∧ Keep F w w3 := by
  subst hw3
  have hs1 := hb.size
  have hs2 := hg.size
  have hs3 : (w2.setCell ⟨g, j, none⟩ q.v).heap.size = w2.heap.size := by simp [World.setCell]
  have hgl := h.lt g h.fg
  have kr : Keep (fun k => (r j).v.ownBlock = some k) w w2 := (Keep.of_below hb).trans (Keep.grown (F := fun k => (r j).v.ownBlock = some k) hg fun _ h => h) fun _ h => .inl h
  have ks : Keep (fun k => k = g) w2 (w2.setCell ⟨g, j, none⟩ q.v) := Keep.set _ _ _ rfl
  have hq : ∀ k, q.v.ownBlock = some k → ((r j).v.ownBlock = some k) ∨ (w.heap.size ≤ k ∧ k < w2.heap.size) := by
    intro k hk
    rcases hat with h1 | h1
    · exact .inl (h1 ▸ hk)
    · have := (hown.lt k hk).2
      rw [h1] at hk
      injection hk with hk
      exact .inr ⟨by omega, this⟩
  have hne : ∀ k, q.v.ownBlock = some k → k ≠ g := by
    intro k hk
    rcases hq k hk with h1 | h1
    · exact (h.fo j hj k h1).2.1
    · omega
  refine ⟨⟨?_, fun i hi => ?_, .inl h.fg, fun i hi k hk => ?_, ?_⟩, fun v hv => ?_, ?_⟩
  · rw [← hdr_up hj]
    exact (kr.blk h.head fun hk => (h.fo j hj g hk).2.1 rfl).set j _
  · by_cases hij : i = j
    · subst hij
      rw [up_same, up_same]
      exact ks.own hown fun k hk => hne k hk
    · rw [up_ne _ _ hij, up_ne _ _ hij]
      exact ks.own (kr.own (h.own i hi) fun k hk hk2 => (h.fo i hi k hk).2.2 j hj (Ne.symm hij) hk2) fun k hk => (h.fo i hi k hk).2.1
  · by_cases hij : i = j
    · subst hij
      rw [up_same] at hk
      refine ⟨?_, hne k hk, fun a ha hai => ?_⟩
      · rcases hq k hk with h1 | h1
        · exact .inl (h.fo i hi k h1).1
        · exact .inr (by omega)
      · rw [up_ne _ _ hai]
        intro hk2
        rcases hq k hk with h1 | h1
        · exact (h.fo i hi k h1).2.2 a ha hai hk2
        · have := h.lt k (h.fo a ha k hk2).1
          omega
    · rw [up_ne _ _ hij] at hk
      have h0 := h.fo i hi k hk
      refine ⟨.inl h0.1, h0.2.1, fun a ha hai => ?_⟩
      by_cases haj : a = j
      · subst haj
        rw [up_same]
        intro hk2
        rcases hq k hk2 with h1 | h1
        · exact h0.2.2 a ha hai h1
        · have := h.lt k h0.1
          omega
      · rw [up_ne _ _ haj]
        exact h0.2.2 a ha hai
  · exact Gr.lt h.lt (by omega)
  · refine ⟨ks.rd (kr.rd hv.rd fun _ b o hA hk => (hv.fp b o hA).2.2 j hj hk) fun _ b o hA hk => (hv.fp b o hA).2.1 hk, hv.n64, fun b o hA => ?_⟩
    have h0 := hv.fp b o hA
    refine ⟨.inl h0.1, h0.2.1, fun i hi => ?_⟩
    by_cases hij : i = j
    · subst hij
      rw [up_same]
      intro hk
      rcases hq b hk with h1 | h1
      · exact h0.2.2 i hi h1
      · have := h.lt b h0.1
        omega
    · rw [up_ne _ _ hij]
      exact h0.2.2 i hi
  · exact (kr.mono fun k _ hk => (h.fo j hj k hk).1).trans (Keep.set (F := F) _ _ _ h.fg) fun _ h => .inl h
/-- An element of a row was laid anew. -/
theorem RB.put (h : RB w F g r x f d) {j : Nat} (hj : j < 3) {b k : Nat} (hb : (r j).A = some ⟨b, 0, none⟩) (u : Value) (hw' : w' = w.setCell ⟨b, k, none⟩ u) :
    RB w' F g r (up x j ((x j).set k u)) f d ∧ (∀ v, El w F g r v → El w' F g r v) ∧ Keep F w w' := by
  subst hw'
  have hob : (r j).v.ownBlock = some b := by simp [Sv.v, hb, Value.ownBlock]
  have h0 := h.fo j hj b hob
  have ks : Keep (fun k => k = b) w (w.setCell ⟨b, k, none⟩ u) := Keep.set _ _ _ rfl
  have hs : (w.setCell ⟨b, k, none⟩ u).heap.size = w.heap.size := by simp [World.setCell]
  refine ⟨⟨ks.blk h.head fun hk => h0.2.1 hk.symm, fun i hi => ?_, h.fg, h.fo, fun i hi => by rw [hs]; exact h.lt i hi⟩, fun v hv => ⟨ks.rd hv.rd fun _ b' o hA hk => (hv.fp b' o hA).2.2 j hj (hk ▸ hob), hv.n64, hv.fp⟩, ks.mono fun k _ hk => hk ▸ h0.1⟩
  by_cases hij : i = j
  · subst hij
    rw [up_same]
    have ho := h.own i hi
    rw [Sv.v, hb] at ho
    rw [Sv.v, hb]
    exact (ho.stored k u).1
  · rw [up_ne _ _ hij]
    exact ks.own (h.own i hi) fun a ha hk => (h.fo i hi a ha).2.2 j hj (Ne.symm hij) (hk ▸ hob)
/-- A row was emptied. -/
theorem RB.nil (h : RB w F g r x f d) {j : Nat} (hj : j < 3) (hw' : w' = w.setCell ⟨g, j, none⟩ (.slice none 0 0)) :
    RB w' F g (up r j ⟨none, 0, 0⟩) (up x j []) f d ∧ (∀ v, El w F g r v → El w' F g (up r j ⟨none, 0, 0⟩) v) ∧ Keep F w w' := by
  subst hw'
  have ks : Keep (fun k => k = g) w (w.setCell ⟨g, j, none⟩ (.slice none 0 0)) := Keep.set _ _ _ rfl
  have hs : (w.setCell ⟨g, j, none⟩ (.slice none 0 0)).heap.size = w.heap.size := by simp [World.setCell]
  have hn : ∀ i, i < 3 → ∀ k, ((up r j ⟨none, 0, 0⟩) i).v.ownBlock = some k → i ≠ j ∧ (r i).v.ownBlock = some k := by
    intro i _ k hk
    by_cases hij : i = j
    · subst hij
      rw [up_same] at hk
      cases hk
    · rw [up_ne _ _ hij] at hk
      exact ⟨hij, hk⟩
  refine ⟨⟨?_, fun i hi => ?_, h.fg, fun i hi k hk => ?_, fun i hi => by rw [hs]; exact h.lt i hi⟩, fun v hv => ⟨ks.rd hv.rd fun _ b' o hA hk => (hv.fp b' o hA).2.1 hk, hv.n64, fun b o hA => ⟨(hv.fp b o hA).1, (hv.fp b o hA).2.1, fun i hi hk => (hv.fp b o hA).2.2 i hi (hn i hi b hk).2⟩⟩, ks.mono fun k _ hk => hk ▸ h.fg⟩
  · rw [← hdr_up hj]
    exact h.head.set j _
  · by_cases hij : i = j
    · subst hij
      rw [up_same, up_same]
      exact World.ownsRow_nil _ _ _ _
    · rw [up_ne _ _ hij, up_ne _ _ hij]
      exact ks.own (h.own i hi) fun k hk => (h.fo i hi k hk).2.1
  · have h1 := hn i hi k hk
    have h0 := h.fo i hi k h1.2
    exact ⟨h0.1, h0.2.1, fun a ha hai hk2 => h0.2.2 a ha hai (hn a ha k hk2).2⟩
/-- The fuse, and whether it is down. -/
theorem RB.heads (h : RB w F g r x f d) {f' : Int} {d' : Bool} {i : Nat} {u : Value} (he : (hdr r f d).set i u = hdr r f' d') (hw' : w' = w.setCell ⟨g, i, none⟩ u) :
    RB w' F g r x f' d' ∧ (∀ v, El w F g r v → El w' F g r v) ∧ Keep F w w' := by
  subst hw'
  have ks : Keep (fun k => k = g) w (w.setCell ⟨g, i, none⟩ u) := Keep.set _ _ _ rfl
  have hs : (w.setCell ⟨g, i, none⟩ u).heap.size = w.heap.size := by simp [World.setCell]
  exact ⟨⟨he ▸ h.head.set i u, fun j hj => ks.own (h.own j hj) fun k hk => (h.fo j hj k hk).2.1, h.fg, h.fo, fun i hi => by rw [hs]; exact h.lt i hi⟩, fun v hv => ⟨ks.rd hv.rd fun _ b' o hA hk => (hv.fp b' o hA).2.1 hk, hv.n64, hv.fp⟩, ks.mono fun k _ hk => hk ▸ h.fg⟩
theorem RB.cells (h : RB w F g r x f d) : w.cell? ⟨g, 0, none⟩ = some (.slice (r 0).A (r 0).n (r 0).c) ∧ w.cell? ⟨g, 1, none⟩ = some (.slice (r 1).A (r 1).n (r 1).c) ∧ w.cell? ⟨g, 2, none⟩ = some (.slice (r 2).A (r 2).n (r 2).c) ∧ w.cell? ⟨g, 3, none⟩ = some (.int .i64 f) ∧ w.cell? ⟨g, 4, none⟩ = some (.bool d) :=
  ⟨h.head.cell rfl, h.head.cell rfl, h.head.cell rfl, h.head.cell rfl, h.head.cell rfl⟩
end

/-- Block g holds the reference's disk s. -/
structure RA (w : World) (F : Nat → Prop) (g : Nat) (s : St) (r : Nat → Sv) (x : Nat → List Value) (V U : List Sl) : Prop where
  rb : RB w F g r x s.fuse s.down
  x0 : x 0 = V.map Sl.val
  x1 : x 1 = s.L.map fun p => Value.int .i64 (p.1 : Int)
  x2 : x 2 = U.map Sl.val
  hS : V.map Sl.xs = s.S
  hL : U.map Sl.xs = s.L.map (·.2)
  el : ∀ v, v ∈ V ∨ v ∈ U → El w F g r v
  ok : s.ok
def RD (w : World) (F : Nat → Prop) (g : Nat) (s : St) : Prop := ∃ r x V U, RA w F g s r x V U
section
variable {w w' : World} {F G : Nat → Prop} {g : Nat} {s : St} {r : Nat → Sv} {x : Nat → List Value} {V U : List Sl}
theorem RA.keep (h : RA w F g s r x V U) (k : Keep G w w') (hd : ∀ k, F k → ¬ G k) : RA w' (Gr F w w') g s r x V U := ⟨h.rb.keep k hd, h.x0, h.x1, h.x2, h.hS, h.hL, fun v hv => (h.el v hv).keep k hd, h.ok⟩
theorem RD.keep (h : RD w F g s) (k : Keep G w w') (hd : ∀ k, F k → ¬ G k) : RD w' (Gr F w w') g s := by
  obtain ⟨r, x, V, U, h⟩ := h
  exact ⟨r, x, V, U, h.keep k hd⟩
theorem RD.lt (h : RD w F g s) : ∀ k, F k → k < w.heap.size := by obtain ⟨_, _, _, _, h⟩ := h; exact h.rb.lt
theorem RA.n0 (h : RA w F g s r x V U) : (r 0).n = s.S.length := by
  have := (h.rb.own 0 (by omega)).1
  rw [h.x0, List.length_map, Nat.mul_one] at this
  rw [← this, ← h.hS, List.length_map]
theorem RA.n1 (h : RA w F g s r x V U) : (r 1).n = s.L.length := by
  have := (h.rb.own 1 (by omega)).1
  rw [h.x1, List.length_map, Nat.mul_one] at this
  exact this.symm
theorem RA.n2 (h : RA w F g s r x V U) : (r 2).n = s.L.length := by
  have := (h.rb.own 2 (by omega)).1
  have h2 := congrArg List.length h.hL
  rw [h.x2, List.length_map, Nat.mul_one] at this
  rw [List.length_map, List.length_map] at h2
  omega
end
/-- What a call on the reference's disk hands back and leaves. -/
def RGot (F : Nat → Prop) (g : Nat) (w : World) (v : Value) (s' : St) (e : Ending) (w' : World) : Prop :=
  e = .returned v ∧ ∃ F', RD w' F' g s' ∧ Keep F w w' ∧ ∀ k, F' k → F k ∨ w.heap.size ≤ k
end Go.Proofs.Ytdofnoaadkpniaa.RdkA
