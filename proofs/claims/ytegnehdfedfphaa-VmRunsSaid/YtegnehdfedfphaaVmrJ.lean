/- The reference's tick: what it wants. Conditions: all lies as the facts say. -/
import Derived.Test.YtegnehdfedfphaaVmrI
import Derived.Test.YtegnehdfedfphaaJ06
namespace Go.Proofs.Ytegnehdfedfphaa.VmrJ
open Go.RowKit Go.Proofs.Ytegnehdfedfphaa.Kit Go.Proofs.Ytegnehdfedfphaa.Byt Go.Proofs.Ytegnehdfedfphaa.Mem Go.Proofs.Ytegnehdfedfphaa.OpsM Go.Proofs.Ytegnehdfedfphaa.OpsA Go.Proofs.Ytegnehdfedfphaa.VmcM Go.Proofs.Ytegnehdfedfphaa.VmcF Go.Proofs.Ytegnehdfedfphaa.VmcN Go.Proofs.Ytegnehdfedfphaa.VmrA Go.Proofs.Ytegnehdfedfphaa.VmrB Go.Proofs.Ytegnehdfedfphaa.VmrE Go.Proofs.Ytegnehdfedfphaa.VmrF Go.Proofs.Ytegnehdfedfphaa.VmrP Go.Proofs.Ytegnehdfedfphaa.VmrG Go.Proofs.Ytegnehdfedfphaa.VmrH Go.Proofs.Ytegnehdfedfphaa.PrtM
open Go.Proofs.Ytegnehdfedfphaa.ImgA (Im)
open Go.Proofs.Ytegnehdfedfphaa.TabA (Tri)
open Go.Proofs.Ytegnehdfedfphaa.TabI (i64s i64s_len i64s_one)
open Go.Proofs.Ytegnehdfedfphaa.PrtA (Lab Stp Bd)
open Go.Proofs.Ytegnehdfedfphaa.PrtR (Ref Rf Rft)
open Go.Proofs.Ytegnehdfedfphaa.BitM (hb)

/-! ### plain -/
section
variable {i : Im} {C : List Tri} {t : T} {o a : Int} {n : Nat}
theorem stp_none (h : atI i.xs t.z.pc = none) : stpT i C t = ⟨{ t.z with ft := 19 }, t.L, t.sn, t.cf, true⟩ := by unfold stpT; rw [h]; rfl
theorem stp_flt (h : atI i.xs t.z.pc = some (o, a, n)) (hf : flt i t.z.st.length o a ≠ 0) : stpT i C t = ⟨{ t.z with ft := flt i t.z.st.length o a }, t.L, t.sn, t.cf, true⟩ := by unfold stpT; rw [h]; exact if_pos hf
theorem stp_14 (h : atI i.xs t.z.pc = some (14, a, n)) (hf : flt i t.z.st.length 14 a = 0) : stpT i C t = sndT i C a (t.z.pc + n) t := by unfold stpT; rw [h]; exact (if_neg (fun q => q hf)).trans (if_pos rfl)
theorem stp_15 (h : atI i.xs t.z.pc = some (15, a, n)) (hf : flt i t.z.st.length 15 a = 0) : stpT i C t = getT i C a (t.z.pc + n) t := by unfold stpT; rw [h]; exact (if_neg (fun q => q hf)).trans ((if_neg (by decide)).trans (if_pos rfl))
theorem stp_else (h : atI i.xs t.z.pc = some (o, a, n)) (hf : flt i t.z.st.length o a = 0) (h14 : o ≠ 14) (h15 : o ≠ 15) : stpT i C t = ⟨eff o a (t.z.pc + n) t.z, t.L, t.sn, t.cf || decide (o = 16), decide (o = 0)⟩ := by unfold stpT; rw [h]; exact (if_neg (fun q => q hf)).trans ((if_neg h14).trans (if_neg h15))
theorem stpT_keeps (hx : ∀ u ∈ i.xs, u < 256) (hl : i.xs.length ≤ 96) (hp : 0 ≤ t.z.pc ∧ t.z.pc ≤ 1000) :
    (stpT i C t).z.tk = t.z.tk ∧ (0 ≤ (stpT i C t).z.pc ∧ (stpT i C t).z.pc ≤ 1000) ∧ (stpT i C t).sn.length ≤ t.sn.length + 1 ∧ ((stpT i C t).e = false → (stpT i C t).z.ft = t.z.ft) := by
  cases hat : atI i.xs t.z.pc with
  | none => rw [stp_none hat]; exact ⟨rfl, hp, Nat.le_succ _, fun h => by cases h⟩
  | some q =>
    obtain ⟨o, a, n⟩ := q
    obtain ⟨b1, b2, b3, b4, b5, b6⟩ := atI_b hx hat
    have hn : 0 ≤ t.z.pc + (n : Int) ∧ t.z.pc + (n : Int) ≤ 1000 := by omega
    by_cases hf : flt i t.z.st.length o a = 0
    · by_cases h14 : o = 14
      · subst h14
        rw [stp_14 hat hf]
        by_cases hs : (snds C t.L i.p a (top t.z.st)).1.2 = 0
        · rw [sndT_yes hs]; exact ⟨rfl, hn, by simp, fun _ => rfl⟩
        · rw [sndT_no hs]; exact ⟨rfl, hp, Nat.le_succ _, fun h => by cases h⟩
      · by_cases h15 : o = 15
        · subst h15
          rw [stp_15 hat hf]
          by_cases hs : (gets C t.L i.p a).1.2.2 = 0
          · rw [getT_yes hs]; exact ⟨rfl, hn, Nat.le_succ _, fun _ => rfl⟩
          · rw [getT_no hs]; exact ⟨rfl, hp, Nat.le_succ _, fun h => by cases h⟩
        · rw [stp_else hat hf h14 h15]
          refine ⟨rfl, ?_, Nat.le_succ _, fun _ => rfl⟩
          show 0 ≤ VmcM.pcs o a (t.z.pc + n) t.z ∧ VmcM.pcs o a (t.z.pc + n) t.z ≤ 1000
          unfold VmcM.pcs
          split
          · omega
          · exact hn
    · rw [stp_flt hat hf]; exact ⟨rfl, hp, Nat.le_succ _, fun h => by cases h⟩
theorem flt_oks (hf : flt i n o a = 0) : (o ≠ 13 → o ≠ 14 → o ≠ 15 → takes o ≤ n ∧ n + lays o ≤ 8 + takes o) ∧ (takes o ≤ n ∧ n + lays o ≤ 8 + takes o) ∧ (o = 10 ∨ o = 11 → a < i.m) ∧ o ≠ 17 ∧ (o = 12 ∨ o = 13 → a < i.n) := by
  unfold flt at hf
  split at hf
  · exact absurd hf (by decide)
  · rename_i h17
    split at hf
    · exact absurd hf (by decide)
    · rename_i h1
      split at hf
      · exact absurd hf (by decide)
      · split at hf
        · exact absurd hf (by decide)
        · rename_i h3
          split at hf
          · exact absurd hf (by decide)
          · rename_i h4
            refine ⟨fun _ _ _ => ⟨by omega, by omega⟩, ⟨by omega, by omega⟩, fun ho => ?_, h17, fun ho => ?_⟩
            · exact Int.lt_of_not_ge fun hh => h1 (.inl ⟨ho, hh⟩)
            · exact Int.lt_of_not_ge fun hh => h1 (.inr ⟨ho, hh⟩)
theorem flt_bd (i : Im) (h : Nat) (o a : Int) : 0 ≤ flt i h o a ∧ flt i h o a ≤ 19 := by
  unfold flt
  (repeat' split) <;> omega
end

/-! ### memory -/
section
variable {B N n c m d X gl nc c' ob rb : Nat} {A D A' : Option Addr} {i : Im} {C : List Tri} {z u : Z} {L L' : Nat → List Int} {sn : List (Int × Int)} {cf : Bool} {w w' w2 : World} {ρ ρ' : Nat → Lab} {e : Ending} {r v : Value} {a : Int}
/-- One number of the machine is another one. -/
theorem Rm.put {k : Nat} {x : Value} (h : Rm B w ρ N i A n c D m d z) (he : (rc i z A n c D m d).set k x = rc i u A n c D m d) (hs : u.st = z.st) (hm : u.mem = z.mem) :
    Rm B (w.setCell ⟨N, k, none⟩ x) ρ N i A n c D m d u := by
  have hk : Keep (fun j => j = N) w (w.setCell ⟨N, k, none⟩ x) := Keep.set w k _ rfl
  have hne : ∀ b, ρ b = .out → ¬ b = N := fun b hb e => by rw [e, h.ln] at hb; cases hb
  have hb := h.blk.set k x
  rw [he] at hb
  refine ⟨fun j hj => ⟨(h.bd j hj).1, by simpa using (h.bd j hj).2⟩, by simpa using h.base, hb, h.ln, by rw [hs]; exact hk.rd h.st fun hp b o hA => hne b (h.ls hp b o hA), h.ls, by rw [hm]; exact hk.own h.mem fun g hg e => by have := h.lm g hg; rw [e, h.ln] at this; injection this with this; omega, h.lm, ⟨hk.rd h.code.code fun hp b o hA => hne b (h.lc hp b o hA), h.code.byt⟩, h.lc, h.n8, h.m16, h.mm, by rw [hs]; exact h.nst, by rw [hm]; exact h.nme⟩
theorem Rw.put {k : Nat} {x : Value} (h : Rw B w ρ N i D m d X gl A' nc c' C ob z L sn cf) (he : ∀ A n c, (rc i z A n c D m d).set k x = rc i u A n c D m d) (hs : u.st = z.st) (hm : u.mem = z.mem) :
    Rw B (w.setCell ⟨N, k, none⟩ x) ρ N i D m d X gl A' nc c' C ob u L sn cf ∧ Stp Ra w ρ (w.setCell ⟨N, k, none⟩ x) ρ := by
  obtain ⟨A, n, c, h1⟩ := h.rm
  exact (h.mach (u := u) (r := .tuple #[]) (e := .returned (.tuple #[])) ⟨rfl, ⟨A, n, c, Rm.put h1 (he A n c) hs hm⟩, n_keep h1⟩).2
theorem Rw.pc (h : Rw B w ρ N i D m d X gl A' nc c' C ob z L sn cf) (p : Int) : Rw B (w.setCell ⟨N, 8, none⟩ (.int .i64 p)) ρ N i D m d X gl A' nc c' C ob { z with pc := p } L sn cf ∧ Stp Ra w ρ (w.setCell ⟨N, 8, none⟩ (.int .i64 p)) ρ := Rw.put h (fun _ _ _ => rfl) rfl rfl
theorem Rw.tks (h : Rw B w ρ N i D m d X gl A' nc c' C ob z L sn cf) (p : Int) : Rw B (w.setCell ⟨N, 11, none⟩ (.int .i64 p)) ρ N i D m d X gl A' nc c' C ob { z with tk := p } L sn cf ∧ Stp Ra w ρ (w.setCell ⟨N, 11, none⟩ (.int .i64 p)) ρ := Rw.put h (fun _ _ _ => rfl) rfl rfl
theorem Rw.ftt (h : Rw B w ρ N i D m d X gl A' nc c' C ob z L sn cf) (p : Int) : Rw B (w.setCell ⟨N, 12, none⟩ (.int .i64 p)) ρ N i D m d X gl A' nc c' C ob { z with ft := p } L sn cf ∧ Stp Ra w ρ (w.setCell ⟨N, 12, none⟩ (.int .i64 p)) ρ := Rw.put h (fun _ _ _ => rfl) rfl rfl
theorem Rw.conf (h : Rw B w ρ N i D m d X gl A' nc c' C ob z L sn cf) : Rw B (w.setCell ⟨ob, 1, none⟩ (.bool true)) ρ N i D m d X gl A' nc c' C ob z L sn true ∧ Stp Ra w ρ (w.setCell ⟨ob, 1, none⟩ (.bool true)) ρ := by
  obtain ⟨A, n, c, ho⟩ := h.ob
  have hk : Keep (fun j => j = ob) w (w.setCell ⟨ob, 1, none⟩ (.bool true)) := Keep.set w 1 _ rfl
  have hs : Stp (fun l => l = .own 12 ∨ l = .own 13) w ρ (w.setCell ⟨ob, 1, none⟩ (.bool true)) ρ := ⟨hk.mono fun j _ hj => by rw [hj, ho.lo]; exact .inl rfl, fun _ _ => rfl, fun j hj => .inl (Classical.byContradiction fun hq => by have := (h.bd j hq).2; omega)⟩
  exact Rw.told h hs ⟨ho.blk.set 1 _, ho.lo, hk.own ho.row fun g hg hq => by have := ho.lr g hg; rw [hq, ho.lo] at this; injection this with this; omega, ho.lr, ho.most⟩
/-- What a tick may touch: a box for what it hands back besides. -/
def Rk (l : Lab) : Prop := Ra l ∨ l = .own 14
theorem rk_out : ¬ Rk .out := by rintro (e | e); exact ra_out e; cases e
theorem ra_14 : ¬ Ra (.own 14) := by rintro ((e | e) | (e | e) | e | e) <;> first | (injection e with e; omega) | cases e
/-- The reference's machine and its channels. -/
structure Rq (B : Nat) (w : World) (ρ : Nat → Lab) (N : Nat) (i : Im) (D : Option Addr) (m d : Nat) (X gl : Nat) (A' : Option Addr) (nc c' : Nat) (C : List Tri) (z : Z) (L : Nat → List Int) : Prop where
  rm : ∃ A n c, Rm B w ρ N i A n c D m d z
  rf : Rf B w ρ X gl A' nc c' C L
  ft : Ft C L
theorem Rw.q (h : Rw B w ρ N i D m d X gl A' nc c' C ob z L sn cf) : Rq B w ρ N i D m d X gl A' nc c' C z L := ⟨h.rm, h.rf, h.ft⟩
theorem Rq.carry {F : Lab → Prop} (h : Rq B w ρ N i D m d X gl A' nc c' C z L) (hs : Stp F w ρ w' ρ') (h0 : ∀ l, l = .out ∨ Rl l ∨ l = .rset ∨ l = .rlist ∨ l = .rdata → ¬ F l) : Rq B w' ρ' N i D m d X gl A' nc c' C z L := by
  obtain ⟨⟨A, n, c, h1⟩, h2, h4⟩ := h
  exact ⟨⟨A, n, c, h1.carry hs (h0 _ (.inl rfl)) (h0 _ (.inr (.inl (.inl rfl)))) (h0 _ (.inr (.inl (.inr rfl))))⟩, h2.carry hs (h0 _ (.inr (.inr (.inl rfl)))) (h0 _ (.inr (.inr (.inr (.inl rfl))))) (h0 _ (.inr (.inr (.inr (.inr rfl))))), h4⟩
theorem Rq.below (h : Rq B w ρ N i D m d X gl A' nc c' C z L) (hb : Below w.heap.size w w') : Rq B w' ρ N i D m d X gl A' nc c' C z L := h.carry (F := fun _ => False) (Stp.of_below h.rf.bd hb) fun _ _ => id
/-- The two boxes of a tick, made anew. -/
theorem Rq.out (h : Rq B w ρ N i D m d X gl A' nc c' C z L) {wb : World} (hb : Below w.heap.size w wb) (hr : rb = w.heap.size) (ho : ob = w.heap.size + 1) (hR : Blk wb rb 53 [.slice none 0 0, .bool false]) (hO : Blk wb ob 53 [.slice none 0 0, .bool false]) :
    ∃ ρ', Rw B wb ρ' N i D m d X gl A' nc c' C ob z L [] false ∧ Stp Rk w ρ wb ρ' ∧ ρ' rb = .own 14 := by
  obtain ⟨ρ', hρ⟩ : ∃ ρ' : Nat → Lab, ρ' = fun k => if k = rb then .own 14 else if k = ob then .own 12 else ρ k := ⟨_, rfl⟩
  have e1 : ρ' rb = .own 14 := by rw [hρ]; exact if_pos rfl
  have e2 : ρ' ob = .own 12 := by rw [hρ]; exact (if_neg (by omega)).trans (if_pos rfl)
  have e3 : ∀ k, k ≠ rb → k ≠ ob → ρ' k = ρ k := fun k h1 h2 => by rw [hρ]; exact (if_neg h1).trans (if_neg h2)
  have hs : Stp (fun l => l = .own 12 ∨ l = .own 14) w ρ wb ρ' := ⟨Keep.of_below hb, fun k hk => e3 k (by omega) (by omega), fun k hk => by
    by_cases h1 : k = rb
    · rw [h1]; exact .inr ⟨.inr e1, hR.lt⟩
    · by_cases h2 : k = ob
      · rw [h2]; exact .inr ⟨.inl e2, hO.lt⟩
      · left
        rw [e3 k h1 h2]
        exact Classical.byContradiction fun hq => by have := (h.rf.bd k hq).2; omega⟩
  have hq := Rq.carry h hs (by
    rintro l (rfl | (rfl | rfl) | rfl | rfl | rfl) (q | q) <;> first | (injection q with q; omega) | cases q)
  exact ⟨ρ', ⟨hq.rm, hq.rf, ⟨none, 0, 0, hO, e2, World.ownsRow_nil wb B _ 2, (fun g hg => by cases hg), by omega⟩, hq.ft⟩, hs.mono fun l hl => hl.elim (fun q => .inl (.inr (.inr (.inl q)))) .inr, e1⟩
/-- What a tick leaves. -/
def Tkr (B : Nat) (w : World) (ρ : Nat → Lab) (N : Nat) (i : Im) (D : Option Addr) (m d : Nat) (X gl : Nat) (A' : Option Addr) (nc c' : Nat) (C : List Tri) (t : T) (e : Ending) (w' : World) : Prop :=
  ∃ A2 n2 c2 ρ', e = .returned (.agg #[.slice A2 n2 c2, .bool t.cf]) ∧ w'.ownsRow B 78 2 (.slice A2 n2 c2) n2 (t.sn.flatMap VmrG.pcs) ∧ (∀ g, (Value.slice A2 n2 c2).ownBlock = some g → ρ' g = .own 13) ∧ Rq B w' ρ' N i D m d X gl A' nc c' C t.z t.L ∧ Stp Rk w ρ w' ρ'
theorem size_rout : (Try.prog.info? 53).map (·.size) = some 2 := by kernel_rfl
/-- What is told is laid where it is handed back. -/
theorem tick_end {W : World} {ρk : Nat → Lab} {x0 x1 : Value} (h : Rw B W ρk N i D m d X gl A' nc c' C ob z L sn cf) (ho : Ob B W ρk ob A n c sn cf) (hs : Stp Rk w ρ W ρk) (hr : Blk W rb 53 [x0, x1]) (hl : ρk rb = .own 14)
    {W3 : World} (hW3 : W3 = (W.setCell ⟨rb, 0, none⟩ (.slice A n c)).setCell ⟨rb, 1, none⟩ (.bool cf)) (e : Bool) :
    Blk W3 rb 53 [.slice A n c, .bool cf] ∧ Tkr B w ρ N i D m d X gl A' nc c' C ⟨z, L, sn, cf, e⟩ (.returned (.agg #[.slice A n c, .bool cf])) W3 := by
  have hk : Keep (fun j => j = rb) W W3 := by
    rw [hW3]
    exact (Keep.set (F := fun j => j = rb) _ 0 _ rfl).trans (Keep.set (F := fun j => j = rb) _ 1 _ rfl) fun _ h => .inl h
  have s3 : Stp (fun l => l = .own 14) W ρk W3 ρk := ⟨hk.mono fun j _ hj => by rw [hj]; exact hl, fun _ _ => rfl, fun j hj => .inl (Classical.byContradiction fun hq => by have := (h.bd j hq).2; omega)⟩
  refine ⟨by rw [hW3]; exact (hr.set 0 _).set 1 _, A, n, c, ρk, rfl, ?_, ho.lr, ?_, hs.trans (s3.mono fun l hl => .inr hl)⟩
  · exact hk.own ho.row fun g hg hq => by have := ho.lr g hg; rw [hq, hl] at this; injection this with this; omega
  · exact Rq.carry (Rw.q h) s3 (by
      rintro l (rfl | (rfl | rfl) | rfl | rfl | rfl) q <;> first | (injection q with q; omega) | cases q)
end
end Go.Proofs.Ytegnehdfedfphaa.VmrJ
