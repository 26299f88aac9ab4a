/- What an instruction works on, with the channels and what is told: send, get, confirm. Conditions: it lies as the facts say. -/
import Derived.Test.YtliiinffkcgcaaaVmcE
import Derived.Test.YtliiinffkcgcaaaVmcF
import Derived.Test.YtliiinffkcgcaaaOpsN3
namespace Go.Proofs.Ytliiinffkcgcaaa.VmcG
open Go.RowKit Go.Proofs.Ytliiinffkcgcaaa.Kit Go.Proofs.Ytliiinffkcgcaaa.Byt Go.Proofs.Ytliiinffkcgcaaa.Mem Go.Proofs.Ytliiinffkcgcaaa.VmcM Go.Proofs.Ytliiinffkcgcaaa.VmcA Go.Proofs.Ytliiinffkcgcaaa.VmcB Go.Proofs.Ytliiinffkcgcaaa.VmcD Go.Proofs.Ytliiinffkcgcaaa.VmcE Go.Proofs.Ytliiinffkcgcaaa.VmcF Go.Proofs.Ytliiinffkcgcaaa.PrtM Go.Proofs.Ytliiinffkcgcaaa.PrtA Go.Proofs.Ytliiinffkcgcaaa.PrtD Go.Proofs.Ytliiinffkcgcaaa.PrtE
open Go.Proofs.Ytliiinffkcgcaaa.ImgA (Im)
open Go.Proofs.Ytliiinffkcgcaaa.TabA (Tri)
open Go.Proofs.Ytliiinffkcgcaaa.BitM (hb)

theorem info_sent : (Try.prog.info? 79).map (fun i => (i.zero, i.size, i.bytes)) = some (some (.agg #[.int .i64 0, .int .i64 0]), 2, 16) := by kernel_rfl
/-- What is told, in its box: the messages' rows besides. -/
structure Ob (B : Nat) (w : World) (ρ : Nat → Lab) (ob : Nat) (A : Option Addr) (n c : Nat) (sn : List (Int × Int)) (cf : Bool) : Prop where
  blk : Blk w ob 51 [.slice A n c, .bool cf]
  lo : ρ ob = .own 2
  own : w.ownsRow B 79 2 (.slice A n c) n (sn.flatMap OpsN.pcs)
  row : ∀ g, (Value.slice A n c).ownBlock = some g → ρ g = .own 3
/-- What the program's machine may touch. -/
def Vm (l : Lab) : Prop := Prog l ∨ l = .own 2 ∨ l = .own 3 ∨ l = .own 4
structure Wk (B : Nat) (w : World) (ρ : Nat → Lab) (b : Nat) (i : Im) (ob S : Nat) (A : Option Addr) (n c : Nat) (Q : Nat → Nat) (C : List Tri) (r : R) : Prop where
  chs : Chs B w ρ S A n c Q C r.L
  wb : Wb w b r.v i (pv S) ob r.e
  lb : ρ b = .own 4
  ok : r.v.ok
  out : ∃ A1 n1 c1, Ob B w ρ ob A1 n1 c1 r.sn r.cf
section
variable {F : Lab → Prop} {B S n c n1 c1 b ob : Nat} {w w' : World} {ρ ρ' : Nat → Lab} {A A1 : Option Addr} {Q : Nat → Nat} {C : List Tri} {L L' : Nat → List Int} {i : Im} {r : R} {sn : List (Int × Int)} {cf f : Bool} {u : V} {v rv : Value} {e en : Ending}
theorem Ob.carry (h : Ob B w ρ ob A1 n1 c1 sn cf) (hs : Stp F w ρ w' ρ') (h2 : ¬ F (.own 2)) (h3 : ¬ F (.own 3)) : Ob B w' ρ' ob A1 n1 c1 sn cf where
  blk := hs.keep.blk h.blk (by rw [h.lo]; exact h2)
  lo := by rw [hs.old ob h.blk.lt]; exact h.lo
  own := hs.keep.own h.own fun g hg hf => h3 (h.row g hg ▸ hf)
  row := fun g hg => by rw [hs.old g (h.own.lt g hg).2]; exact h.row g hg
theorem stp_set (hbd : Bd B w ρ) (hk : Keep (fun i => F (ρ i)) w w') : Stp F w ρ w' ρ := ⟨hk, fun _ _ => rfl, fun i hi => .inl (Classical.byContradiction fun hn => by have := (hbd i hn).2; omega)⟩
/-- Only the work's own block has changed. -/
theorem Wk.did (h : Wk B w ρ b i ob S A n c Q C r) (hd : Did b i (pv S) ob w rv u f en w') (hu : u.ok) : en = .returned rv ∧ Wk B w' ρ b i ob S A n c Q C { r with v := u, e := f } ∧ Stp Vm w ρ w' ρ := by
  obtain ⟨h1, h2, h3⟩ := hd
  have hs : Stp (fun l => l = .own 4) w ρ w' ρ := stp_set h.chs.bd (Keep.only h3 h.lb)
  obtain ⟨A1, n1, c1, ho⟩ := h.out
  exact ⟨h1, ⟨h.chs.carry hs (fun e => by cases e) (fun e => by cases e) (fun k e => by cases e) (fun k e => by cases e), h2, h.lb, hu, A1, n1, c1, ho.carry hs (fun e => by injection e with e; omega) (fun e => by injection e with e; omega)⟩, hs.mono fun l hl => .inr (.inr (.inr hl))⟩
/-- Behind a call of the ports. -/
theorem Wk.port (h : Wk B w ρ b i ob S A n c Q C r) (H : Lft B w ρ S A n c Q C L' v e w') : e = .returned v ∧ ∃ ρ', Wk B w' ρ' b i ob S A n c Q C { r with L := L' } ∧ Stp Vm w ρ w' ρ' := by
  obtain ⟨he, ρ', h1, h2⟩ := H
  obtain ⟨A1, n1, c1, ho⟩ := h.out
  exact ⟨he, ρ', ⟨h1, h2.keep.blk h.wb (by rw [h.lb]; exact id), by rw [h2.old b (Blk.lt h.wb)]; exact h.lb, h.ok, A1, n1, c1, ho.carry h2 id id⟩, h2.mono fun l hl => .inl hl⟩
theorem Wk.below (h : Wk B w ρ b i ob S A n c Q C r) (hb : Below w.heap.size w w') : Wk B w' ρ b i ob S A n c Q C r := by
  obtain ⟨A1, n1, c1, ho⟩ := h.out
  have hs : Stp (fun _ => False) w ρ w' ρ := Stp.of_below h.chs.bd hb
  exact ⟨h.chs.below hb, Blk.below h.wb hb, h.lb, h.ok, A1, n1, c1, ho.carry hs id id⟩
/-- A deed's end. -/
def Deeds (B : Nat) (w : World) (ρ : Nat → Lab) (b : Nat) (i : Im) (ob S : Nat) (A : Option Addr) (n c : Nat) (Q : Nat → Nat) (C : List Tri) (r : R) (en : Ending) (w' : World) : Prop := en = .returned (.tuple #[]) ∧ ∃ ρ', Wk B w' ρ' b i ob S A n c Q C r ∧ Stp Vm w ρ w' ρ'
theorem Wk.deed (h : Wk B w ρ b i ob S A n c Q C r) (hd : Did b i (pv S) ob w (.tuple #[]) u f en w') (hu : u.ok) : Deeds B w ρ b i ob S A n c Q C { r with v := u, e := f } en w' := by
  obtain ⟨h1, h2, h3⟩ := h.did hd hu
  exact ⟨h1, ρ, h2, h3⟩
/-- A message more is told. -/
theorem Wk.sent (h : Wk B w ρ b i ob S A n c Q C r) {A1 A2 : Option Addr} {n1 c1 n2 c2 : Nat} {p : Int × Int} {T : TypeId} {w3 : World} (ho : Ob B w ρ ob A1 n1 c1 r.sn r.cf) (hn : n2 = n1 + 1)
    (hown : w3.ownsRow B 79 2 (.slice A2 n2 c2) n2 (r.sn.flatMap OpsN.pcs ++ OpsN.pcs p)) (hg : (w.alloc (.cells (OpsN.pcs p).toArray T)).grownBy w3 (Value.slice A1 n1 c1).ownBlock) (hat : (Value.slice A2 n2 c2).ownBlock = (Value.slice A1 n1 c1).ownBlock ∨ (Value.slice A2 n2 c2).ownBlock = some (w.alloc (.cells (OpsN.pcs p).toArray T)).heap.size) :
    ∃ ρ', Wk B (w3.setCell ⟨ob, 0, none⟩ (.slice A2 n2 c2)) ρ' b i ob S A n c Q C { r with sn := r.sn ++ [p] } ∧ Stp Vm w ρ (w3.setCell ⟨ob, 0, none⟩ (.slice A2 n2 c2)) ρ' := by
  obtain ⟨ρ', hρ⟩ : ∃ ρ' : Nat → Lab, ρ' = fun k => if (Value.slice A2 n2 c2).ownBlock = some k ∧ w.heap.size ≤ k then .own 3 else ρ k := ⟨_, rfl⟩
  have hold : ∀ k, k < w.heap.size → ρ' k = ρ k := fun k hk => by rw [hρ]; exact if_neg (fun hh => by omega)
  have hnb : ∀ k, (Value.slice A1 n1 c1).ownBlock = some k → k ≠ ob := fun k hk he => by
    have := ho.row k hk
    rw [he, ho.lo] at this
    injection this with this
    omega
  have hk1 : Keep (fun k => ρ k = .own 3) w w3 := ((Keep.of_below (F := fun k => ρ k = .own 3) ((Below.refl _ w).alloc (Nat.le_refl _) _)).trans (Keep.grown (F := fun k => (Value.slice A1 n1 c1).ownBlock = some k) hg fun _ h => h) fun k hk => .inl (ho.row k hk))
  have hk2 : Keep (fun k => ρ k = .own 3 ∨ ρ k = .own 2) w (w3.setCell ⟨ob, 0, none⟩ (.slice A2 n2 c2)) := (hk1.mono (G := fun k => ρ k = .own 3 ∨ ρ k = .own 2) fun _ _ h => .inl h).trans (Keep.set (F := fun k => k = ob) w3 0 _ rfl) fun k hk => .inl (.inr (hk ▸ ho.lo))
  have hlt3 : ∀ k, (Value.slice A2 n2 c2).ownBlock = some k → k < w3.heap.size := fun k hk => (hown.lt k hk).2
  have hs : Stp (fun l => l = .own 3 ∨ l = .own 2) w ρ (w3.setCell ⟨ob, 0, none⟩ (.slice A2 n2 c2)) ρ' := ⟨hk2, hold, fun k hk => by
    rw [hρ]
    dsimp only
    split
    · rename_i hh
      exact .inr ⟨.inl rfl, by have := hlt3 k hh.1; simpa [World.setCell] using this⟩
    · exact .inl (Classical.byContradiction fun hn => by have := (h.chs.bd _ hn).2; omega)⟩
  have hB3 : Blk w3 ob 51 [.slice A1 n1 c1, .bool r.cf] := by
    refine (hg.block ob ?_ ?_).trans (Blk.alloc ho.blk _)
    · have := ho.blk.lt; simp; omega
    · intro he; exact hnb ob he.symm rfl
  have hBs := Blk.set hB3 0 (.slice A2 n2 c2)
  refine ⟨ρ', ⟨h.chs.carry hs (fun e => by rcases e with e | e <;> cases e) (fun e => by rcases e with e | e <;> cases e) (fun k e => by rcases e with e | e <;> cases e) (fun k e => by rcases e with e | e <;> cases e),
    hs.keep.blk h.wb (by rw [h.lb]; rintro (e | e) <;> (injection e with e; omega)), by rw [hold b (Blk.lt h.wb)]; exact h.lb, h.ok, A2, n2, c2, hBs, ?_, ?_, ?_⟩, hs.mono fun l hl => by rcases hl with hl | hl; exact .inr (.inr (.inl hl)); exact .inr (.inl hl)⟩
  · rw [hold ob ho.blk.lt]; exact ho.lo
  · have h4 : (w3.setCell ⟨ob, 0, none⟩ (.slice A2 n2 c2)).ownsRow B 79 2 (.slice A2 n2 c2) n2 (r.sn.flatMap OpsN.pcs ++ OpsN.pcs p) := (Keep.set (F := fun k => k = ob) w3 0 _ rfl).own hown fun k hk he => by
      subst he
      rcases hat with e | e
      · rw [e] at hk; exact hnb _ hk rfl
      · rw [e] at hk
        injection hk with hk
        have := ho.blk.lt
        simp at hk
        omega
    rwa [List.flatMap_append, List.flatMap_singleton]
  · intro g hg2
    rcases hat with e | e
    · have h5 := ho.row g (e ▸ hg2)
      have h6 := (ho.own.lt g (e ▸ hg2)).2
      rw [hold g h6]; exact h5
    · rw [hρ]
      refine if_pos ⟨hg2, ?_⟩
      rw [e] at hg2
      injection hg2 with hg2
      simp at hg2
      omega
end
end Go.Proofs.Ytliiinffkcgcaaa.VmcG
