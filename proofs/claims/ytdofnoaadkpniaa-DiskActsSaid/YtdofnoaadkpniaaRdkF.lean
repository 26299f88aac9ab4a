/- A disk and the reference's disk apart from each other. No conditions but those each law names. -/
import Derived.Test.YtdofnoaadkpniaaRdkE
namespace Go.Proofs.Ytdofnoaadkpniaa.RdkF
open Go.RowKit Go.Proofs.Ytdofnoaadkpniaa.Kit Go.Proofs.Ytdofnoaadkpniaa.Byt Go.Proofs.Ytdofnoaadkpniaa.Mem Go.Proofs.Ytdofnoaadkpniaa.DskA Go.Proofs.Ytdofnoaadkpniaa.DskB Go.Proofs.Ytdofnoaadkpniaa.DskE Go.Proofs.Ytdofnoaadkpniaa.DskF Go.Proofs.Ytdofnoaadkpniaa.RdkA Go.Proofs.Ytdofnoaadkpniaa.RdkB Go.Proofs.Ytdofnoaadkpniaa.RdkC Go.Proofs.Ytdofnoaadkpniaa.RdkD Go.Proofs.Ytdofnoaadkpniaa.RdkE

theorem rd_keep {w w' : World} {F G : Nat → Prop} {g : Nat} {s : St} (h : RD w F g s) (k : Keep G w w') (hd : ∀ k, F k → ¬ G k) : RD w' F g s := by
  obtain ⟨r, x, V, U, h⟩ := h
  exact ⟨r, x, V, U, ⟨k.blk h.rb.head (hd _ h.rb.fg), fun j hj => k.own (h.rb.own j hj) fun i hi => hd i (h.rb.fo j hj i hi).1, h.rb.fg, h.rb.fo, fun i hi => Nat.lt_of_lt_of_le (h.rb.lt i hi) k.size⟩, h.x0, h.x1, h.x2, h.hS, h.hL,
    fun v hv => ⟨k.rd (h.el v hv).rd fun _ b o hA => hd b ((h.el v hv).fp b o hA).1, (h.el v hv).n64, (h.el v hv).fp⟩, h.ok⟩
theorem rd_fuse {w : World} {F : Nat → Prop} {g : Nat} {s : St} (h : RD w F g s) (f : Int) (lo : -9223372036854775808 ≤ f) (hi : f ≤ 9223372036854775807) : RD (w.setCell ⟨g, 3, none⟩ (.int .i64 f)) F g { s with fuse := f } ∧ Keep F w (w.setCell ⟨g, 3, none⟩ (.int .i64 f)) := by
  obtain ⟨r, x, V, U, h⟩ := h
  have h5 := h.rb.heads (f' := f) (d' := s.down) (i := 3) (u := .int .i64 f) rfl (w' := w.setCell ⟨g, 3, none⟩ (.int .i64 f)) rfl
  exact ⟨⟨r, x, V, U, h5.1, h.x0, h.x1, h.x2, h.hS, h.hL, fun v hv => h5.2.1 v (h.el v hv), ⟨h.ok.pos, h.ok.most, h.ok.sec, h.ok.wait, lo, hi⟩⟩, h5.2.2⟩
theorem rd_down {w : World} {F : Nat → Prop} {g : Nat} {s : St} (h : RD w F g s) (d : Bool) : RD (w.setCell ⟨g, 4, none⟩ (.bool d)) F g { s with down := d } ∧ Keep F w (w.setCell ⟨g, 4, none⟩ (.bool d)) := by
  obtain ⟨r, x, V, U, h⟩ := h
  have h5 := h.rb.heads (f' := s.fuse) (d' := d) (i := 4) (u := .bool d) rfl (w' := w.setCell ⟨g, 4, none⟩ (.bool d)) rfl
  exact ⟨⟨r, x, V, U, h5.1, h.x0, h.x1, h.x2, h.hS, h.hL, fun v hv => h5.2.1 v (h.el v hv), ⟨h.ok.pos, h.ok.most, h.ok.sec, h.ok.wait, h.ok.lo, h.ok.hi⟩⟩, h5.2.2⟩
theorem rd_cells {w : World} {F : Nat → Prop} {g : Nat} {s : St} (h : RD w F g s) : (∃ A c, w.cell? ⟨g, 0, none⟩ = some (.slice A s.S.length c)) ∧ w.cell? ⟨g, 3, none⟩ = some (.int .i64 s.fuse) ∧ w.cell? ⟨g, 4, none⟩ = some (.bool s.down) ∧ w.frozen? ⟨g, 3, none⟩ = false ∧ w.frozen? ⟨g, 4, none⟩ = false := by
  obtain ⟨r, x, V, U, h⟩ := h
  obtain ⟨c0, _, _, c3, c4⟩ := h.rb.cells
  rw [h.n0] at c0
  exact ⟨⟨_, _, c0⟩, c3, c4, h.rb.head.frozen 3, h.rb.head.frozen 4⟩
structure Pr (w0 w : World) (F1 F2 : Nat → Prop) (g1 g2 : Nat) (s t : St) : Prop where
  a : Dk w F1 g1 s
  b : RD w F2 g2 t
  ap : ∀ k, F1 k → ¬ F2 k
  low1 : ∀ k, F1 k → w0.heap.size ≤ k
  low2 : ∀ k, F2 k → w0.heap.size ≤ k
  bel : Below w0.heap.size w0 w
section
variable {w0 w w' : World} {F1 F2 G : Nat → Prop} {g1 g2 : Nat} {s t s' : St} {v : Value} {e : Ending}
theorem Pr.keep (h : Pr w0 w F1 F2 g1 g2 s t) (k : Keep G w w') (h1 : ∀ k, F1 k → ¬ G k) (h2 : ∀ k, F2 k → ¬ G k) (h0 : ∀ k, G k → w0.heap.size ≤ k) : Pr w0 w' F1 F2 g1 g2 s t :=
  ⟨h.a.keep k h1, rd_keep h.b k h2, h.ap, h.low1, h.low2, h.bel.trans (k.below h0 h.bel.size)⟩
theorem Pr.under (h : Pr w0 w F1 F2 g1 g2 s t) (hb : Below w.heap.size w w') : Pr w0 w' F1 F2 g1 g2 s t :=
  h.keep (Keep.of_below (F := fun _ => False) hb) (fun _ _ h => h) (fun _ _ h => h) fun _ h => h.elim
theorem Pr.drew (h : Pr w0 w F1 F2 g1 g2 s t) : Pr w0 w.drew F1 F2 g1 g2 s t :=
  h.keep ((Keep.refl (fun _ => False) w).drew) (fun _ _ h => h) (fun _ _ h => h) fun _ h => h.elim
theorem Pr.left (h : Pr w0 w F1 F2 g1 g2 s t) (hg : Got F1 g1 w v s' e w') : e = .returned v ∧ ∃ F', Pr w0 w' F' F2 g1 g2 s' t ∧ Keep F1 w w' ∧ ∀ k, F' k → F1 k ∨ w.heap.size ≤ k := by
  obtain ⟨he, F', hD, hk, hf⟩ := hg
  have hs := h.bel.size
  refine ⟨he, F', ⟨hD, rd_keep h.b hk fun k h2 h1 => h.ap k h1 h2, fun k h1 h2 => ?_, fun k h1 => ?_, h.low2, h.bel.trans (hk.below h.low1 hs)⟩, hk, hf⟩
  · rcases hf k h1 with h3 | h3
    · exact h.ap k h3 h2
    · have := h.b.lt k h2; omega
  · rcases hf k h1 with h3 | h3
    · exact h.low1 k h3
    · omega
theorem Pr.right (h : Pr w0 w F1 F2 g1 g2 s t) (hg : RGot F2 g2 w v s' e w') : e = .returned v ∧ ∃ F', Pr w0 w' F1 F' g1 g2 s s' ∧ Keep F2 w w' ∧ ∀ k, F' k → F2 k ∨ w.heap.size ≤ k := by
  obtain ⟨he, F', hD, hk, hf⟩ := hg
  have hs := h.bel.size
  refine ⟨he, F', ⟨h.a.keep hk fun k h1 h2 => h.ap k h1 h2, hD, fun k h1 h2 => ?_, h.low1, fun k h1 => ?_, h.bel.trans (hk.below h.low2 hs)⟩, hk, hf⟩
  · rcases hf k h2 with h3 | h3
    · exact h.ap k h1 h3
    · have := h.a.lt k h1; omega
  · rcases hf k h1 with h3 | h3
    · exact h.low2 k h3
    · omega
end
/-- What the loop over the acts keeps. -/
def AInv (w0 : World) (g1 g2 k N : Nat) (wr : World) : Prop := ∃ F1 F2 s t, Pr w0 wr F1 F2 g1 g2 s t ∧ Sim s t ∧ s.L.length ≤ k ∧ s.S.length = N
theorem wst_len (s : St) (i : Int) (n : Nat) (bs : List Nat) : (wst s i n bs).S.length = s.S.length := by
  unfold wst
  split
  · split
    · split
      · show (spend s).2.S.length = _; rw [(spend_sl s).2]
      · rw [(spend_sl s).2]
    · rfl
  · rfl
theorem fst_len (s : St) : (fst_ s).S.length = s.S.length := by
  unfold fst_
  split
  · show (laidTo _ _ _ _).length = _; rw [laidTo_len, (spend_sl s).2]
  · rw [(spend_sl s).2]
theorem two_new {w0 w1 w2 w3 : World} {n : Int} {g1 g2 : Nat} {F1 F2 : Nat → Prop} (hb : Below w0.heap.size w0 w1) (hD : Dk w2 F1 g1 (newSt n)) (hb2 : Below w1.heap.size w1 w2) (hf1 : ∀ k, F1 k → w1.heap.size ≤ k) (hE : RD w3 F2 g2 (newSt n)) (hb3 : Below w2.heap.size w2 w3) (hf2 : ∀ k, F2 k → w2.heap.size ≤ k) :
    AInv w0 g1 g2 0 (cnt n) w3 := by
  have := hb.size
  have := hb2.size
  exact ⟨F1, F2, newSt n, newSt n, ⟨hD.below hb3, hE, fun k h1 h2 => by have := hD.lt k h1; have := hf2 k h2; omega, fun k hk => by have := hf1 k hk; omega, fun k hk => by have := hf2 k hk; omega, (hb.trans (hb2.mono hb.size)).trans (hb3.mono (by omega))⟩, ⟨rfl, rfl, rfl, fun _ => .inl rfl⟩, Nat.le_refl _, by simp [newSt]⟩
end Go.Proofs.Ytdofnoaadkpniaa.RdkF
