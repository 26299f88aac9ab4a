/- One step of the program's machine, at an instruction. Conditions: the machine, the channels and what is told lie as the facts say; the image is right. -/
import Derived.Test.YtegnehdfedfphaaJ05
namespace Go.Proofs.Ytegnehdfedfphaa.VmcK
open Go.RowKit Go.Proofs.Ytegnehdfedfphaa.Kit Go.Proofs.Ytegnehdfedfphaa.Byt Go.Proofs.Ytegnehdfedfphaa.Mem Go.Proofs.Ytegnehdfedfphaa.OpsM Go.Proofs.Ytegnehdfedfphaa.OpsA Go.Proofs.Ytegnehdfedfphaa.VmcM Go.Proofs.Ytegnehdfedfphaa.VmcA Go.Proofs.Ytegnehdfedfphaa.VmcB Go.Proofs.Ytegnehdfedfphaa.VmcC Go.Proofs.Ytegnehdfedfphaa.VmcD Go.Proofs.Ytegnehdfedfphaa.VmcE Go.Proofs.Ytegnehdfedfphaa.VmcF Go.Proofs.Ytegnehdfedfphaa.VmcG Go.Proofs.Ytegnehdfedfphaa.VmcH Go.Proofs.Ytegnehdfedfphaa.VmcI Go.Proofs.Ytegnehdfedfphaa.VmcJ Go.Proofs.Ytegnehdfedfphaa.PrtM Go.Proofs.Ytegnehdfedfphaa.PrtA Go.Proofs.Ytegnehdfedfphaa.PrtD Go.Proofs.Ytegnehdfedfphaa.PrtE
open Go.Proofs.Ytegnehdfedfphaa.ImgA (Im)
open Go.Proofs.Ytegnehdfedfphaa.ImgB (right)
open Go.Proofs.Ytegnehdfedfphaa.TabA (Tri)
open Go.Proofs.Ytegnehdfedfphaa.BitA (i64s)
open Go.Proofs.Ytegnehdfedfphaa.BitM (hb)

theorem yieldsIf_build {P : Program} {ops : Array Oper} {S : World → Prop} {op : Oper} {a : Act} (hw : Region.wanted op (yielded ops a.tmps) = true) (t : TypeId) (parts : List (Nat × Operand)) (ho : op.op = .build t parts.toArray) {cells : List Value}
    (hb : P.built t (parts.map fun (i, x) => (i, a.eval x)) = some cells.toArray) : YieldsIf P ops S op (.agg cells.toArray) a :=
  .inl ⟨hw, fun w _ => by
    have hb' : P.built t (parts.toArray.map fun (i, x) => (i, a.eval x)).toList = some cells.toArray := by
      rw [← hb]
      simp
    unfold execOp
    simp only [ho, Sem.run_bind, run_build w t _ _ hb', Result.andThen_ok]
    rfl⟩
theorem yieldsIf_index {P : Program} {ops : Array Oper} {S : World → Prop} {op : Oper} {a : Act} {v : Value} (hw : Region.wanted op (yielded ops a.tmps) = true) (t : TypeId) (x y : Operand) (ho : op.op = .index t x y)
    (hb : ∀ w, (Instr.index t (a.eval x) (a.eval y)).run P w = .ok v w) : YieldsIf P ops S op v a :=
  .inl ⟨hw, fun w _ => by
    unfold execOp
    simp only [ho, Sem.run_bind, hb w, Result.andThen_ok]
    rfl⟩
theorem mc_splice {v u : V} (hv : v.ok) (hu : u.ok) (i : Im) : splice (mc i v) 8 (scells u) = mc i u := by
  unfold splice mc
  rw [List.take_left' (by rfl), List.drop_eq_nil_of_le (by rw [List.length_append, sc_len hv, sc_len hu]; show 8 + 28 ≤ 8 + 28; omega), List.append_nil]
section
variable {B S n c M ob b : Nat} {w w8 w9 : World} {ρ ρ8 : Nat → Lab} {A : Option Addr} {Q : Nat → Nat} {C : List Tri} {L : Nat → List Int} {i : Im} {v u : V} {RR : R}
/-- The machine's own block has changed, behind a deed. -/
theorem Mw.finish (h : Mw B w ρ M i S A n c Q C v L) (hn : 0 < i.n) (s8 : Stp Vm w ρ w8 ρ8) (h8 : Wk B w8 ρ8 b i ob S A n c Q C RR) (hk : Keep (fun j => j = M) w8 w9) (hB : Blk w9 M 90 (mc i u)) (hu : u.ok) :
    ∃ A2 n2 c2, Mw B w9 ρ8 M i S A n c Q C u RR.L ∧ Ob B w9 ρ8 ob A2 n2 c2 RR.sn RR.cf ∧ Stp Vm0 w ρ w9 ρ8 := by
  have lm8 : ρ8 M = .own 0 := by rw [s8.old M h.blk.lt]; exact h.lm
  have hs : Stp (fun l => l = .own 0) w8 ρ8 w9 ρ8 := stp_set h8.chs.bd (hk.mono fun j _ hj => hj ▸ lm8)
  obtain ⟨A2, n2, c2, ho⟩ := h8.out
  have hs0 : Stp Vm0 w ρ w9 ρ8 := (s8.mono fun l hl => .inl hl).trans (hs.mono fun l hl => .inr hl)
  exact ⟨A2, n2, c2, Mw.go h (h8.chs.carry hs (fun e => by cases e) (fun e => by cases e) (fun k e => by cases e) (fun k e => by cases e)) hs0 hB hu hn, ho.carry hs (fun e => by injection e with e; omega) (fun e => by injection e with e; omega), hs0⟩
end
theorem enter_fn {P : Program} {f : FuncId} {fn : Func} {c : Code} (hf : P.funcs[f]? = some fn) (hname : (fn.name == "runtime.NumGoroutine") = false) (hb : fn.body = some c) (args : Array Value) (w : World) :
    (callFunc f args).run P w = .ok (.enter f args) w := by
  have h1 : fn.name ≠ "runtime.NumGoroutine" := by simpa using hname
  simp [callFunc, hf, h1, hb]
set_option maxRecDepth 100000 in
theorem enter_deed {o : Nat} (ho : o ≤ 18) (args : Array Value) (w : World) : (callFunc (fnum o) args).run Try.prog w = .ok (.enter (fnum o) args) w := by
  have key : ∀ o : Nat, o ≤ 18 → (callFunc (fnum o) args).run Try.prog w = .ok (.enter (fnum o) args) w := by
    intro o ho
    match o, ho with
    | 0, _ => exact enter_fn Try.func55 rfl rfl _ _
    | 1, _ => exact enter_fn Try.func56 rfl rfl _ _
    | 2, _ => exact enter_fn Try.func57 rfl rfl _ _
    | 3, _ => exact enter_fn Try.func58 rfl rfl _ _
    | 4, _ => exact enter_fn Try.func59 rfl rfl _ _
    | 5, _ => exact enter_fn Try.func60 rfl rfl _ _
    | 6, _ => exact enter_fn Try.func61 rfl rfl _ _
    | 7, _ => exact enter_fn Try.func62 rfl rfl _ _
    | 8, _ => exact enter_fn Try.func63 rfl rfl _ _
    | 9, _ => exact enter_fn Try.func64 rfl rfl _ _
    | 10, _ => exact enter_fn Try.func65 rfl rfl _ _
    | 11, _ => exact enter_fn Try.func66 rfl rfl _ _
    | 12, _ => exact enter_fn Try.func67 rfl rfl _ _
    | 13, _ => exact enter_fn Try.func68 rfl rfl _ _
    | 14, _ => exact enter_fn Try.func69 rfl rfl _ _
    | 15, _ => exact enter_fn Try.func70 rfl rfl _ _
    | 16, _ => exact enter_fn Try.func71 rfl rfl _ _
    | 17, _ => exact enter_fn Try.func72 rfl rfl _ _
    | 18, _ => exact enter_fn Try.func73 rfl rfl _ _
    | o + 19, h => exact absurd h (by omega)
  exact key o ho
def z39 : List Value := [.int .i64 0, .int .i64 0, .int .i64 0, .int .i64 0, .int .i64 0, .int .i64 0, .int .i64 0, .int .i64 0, .int .i64 0, .int .i64 0, .int .i64 0, .int .i64 0, .int .i64 0, .int .i64 0, .int .i64 0, .int .i64 0, .int .i64 0, .int .i64 0, .int .i64 0, .int .i64 0, .int .i64 0, .int .i64 0, .int .i64 0, .int .i64 0, .int .i64 0, .int .i64 0, .int .i64 0, .int .i64 0, .int .i64 0, .int .i64 0, .int .i64 0, .int .i64 0, .int .i64 0, .int .i64 0, .int .i64 0, .slice none 0 0, .nilIface, .pointer none, .bool false]
theorem wc_len {v : V} (h : v.ok) (i : Im) (P : Value) (o : Nat) (e : Bool) : (wc v i P o e).length = 39 := by
  unfold wc
  rw [List.length_append, sc_len h]
  rfl
theorem sc_one (v : V) : ∀ u ∈ scells v, u.oneCell' = true := by
  intro u hu
  unfold scells i64s at hu
  simp only [List.mem_cons, List.mem_append, List.mem_map, List.not_mem_nil, or_false] at hu
  rcases hu with rfl | ⟨_, _, rfl⟩ | rfl | ⟨_, _, rfl⟩ | rfl | rfl <;> rfl
theorem im_one (i : Im) : ∀ u ∈ i.cells, u.oneCell' = true := by
  intro u hu
  unfold Im.cells at hu
  simp only [List.mem_cons, List.not_mem_nil, or_false] at hu
  rcases hu with rfl | rfl | rfl | rfl | rfl | rfl | rfl | rfl <;> rfl
theorem wc_one (v : V) (i : Im) (S o : Nat) (e : Bool) : ∀ u ∈ wc v i (pv S) o e, u.oneCell' = true := by
  intro u hu
  unfold wc wt at hu
  simp only [List.mem_append, List.mem_cons, List.not_mem_nil, or_false] at hu
  rcases hu with hu | hu | rfl | rfl | rfl
  · exact sc_one v u hu
  · exact im_one i u hu
  · rfl
  · rfl
  · rfl
section
variable {B S n c M ob n1 c1 : Nat} {w W w5 : World} {ρ : Nat → Lab} {A A1 : Option Addr} {Q : Nat → Nat} {C : List Tri} {L : Nat → List Int} {i : Im} {v : V} {sn : List (Int × Int)} {cf : Bool}
/-- The work is laid into new memory. -/
theorem lay_work (h : Mw B w ρ M i S A n c Q C v L) (ho : Ob B w ρ ob A1 n1 c1 sn cf) (hb : Below w.heap.size w W) (hk : Below W.heap.size W w5) (hB5 : Blk w5 W.heap.size 128 (wc v i (pv S) ob false)) :
    ∃ ρ', Wk B w5 ρ' W.heap.size i ob S A n c Q C ⟨v, L, sn, cf, false⟩ ∧ Stp Vm w ρ w5 ρ' ∧ (∀ k, w.heap.size ≤ k → k ≠ W.heap.size → ρ' k = .out) := by
  have hwl : w.heap.size ≤ W.heap.size := hb.size
  have hout : ρ W.heap.size = .out := Chs.newOut h.chs hwl
  have hs : Stp (fun l => l = .own 4) w ρ w5 (fun k => if k = W.heap.size then .own 4 else ρ k) := ⟨Keep.of_below (hb.trans (hk.mono hwl)), fun k hk => if_neg (by omega), fun k hk => by
    by_cases he : k = W.heap.size
    · rw [if_pos he]; exact .inr ⟨rfl, by rw [he]; exact hB5.lt⟩
    · rw [if_neg he]; exact .inl (Chs.newOut h.chs hk)⟩
  refine ⟨_, ⟨h.chs.carry hs (fun e => by cases e) (fun e => by cases e) (fun k e => by cases e) (fun k e => by cases e), hB5, if_pos rfl, h.ok, A1, n1, c1, ho.carry hs (fun e => by injection e with e; omega) (fun e => by injection e with e; omega)⟩, hs.mono fun l hl => .inr (.inr (.inr hl)), fun k hk hne => (if_neg hne).trans (Chs.newOut h.chs hk)⟩
end
section
variable {B S n c M ob n1 c1 : Nat} {w : World} {ρ : Nat → Lab} {A A1 : Option Addr} {Q : Nat → Nat} {C : List Tri} {L : Nat → List Int} {i : Im} {v : V} {sn : List (Int × Int)} {cf : Bool}
set_option maxRecDepth 100000 in
set_option maxHeartbeats 3200000 in
theorem step_some (h : Mw B w ρ M i S A n c Q C v L) (ho : Ob B w ρ ob A1 n1 c1 sn cf) (hf : v.ft = 0) (hi : right i) (hp : n64 v.pc) (hsn : sn.length ≤ 100000) {o a k : Nat} (hat : atI i.xs v.pc = some ((o : Int), (a : Int), k)) (ho18 : o ≤ 18) (ha : a ≤ 255) {RR : R} (hRR : RR = deedR i C o a ⟨{ v with pc := v.pc + k }, L, sn, cf, false⟩) :
    Calls Try.prog 29 #[.pointer (some ⟨M, 0, none⟩), pv S, .pointer (some ⟨ob, 0, none⟩)] w (Steps' B w ρ M i ob S A n c Q C (if RR.v.ft ≠ 0 then { RR with v := { v with ft := RR.v.ft }, e := true } else RR)) := by
  obtain ⟨G, hG⟩ : ∃ G, G = (if RR.v.ft ≠ 0 then { RR with v := { v with ft := RR.v.ft }, e := true } else RR) := ⟨_, rfl⟩
  rw [← hG]
  have HG := Lib.hid hG
  clear hG
  have m7 : w.cell? ⟨M, 7, none⟩ = some (.slice i.A i.n i.c) := h.blk.cell (i := 7) rfl
  have m8 : w.cell? ⟨M, 8, none⟩ = some (.int .i64 v.pc) := h.blk.cell (i := 8) ((mc_st i v 0).trans (sc_pc v))
  have hMl : M < w.heap.size := h.blk.lt
  have hne1 : ¬ M = w.heap.size := by omega
  have hne2 : ¬ w.heap.size = M := by omega
  have HAT := Lib.hid (fun w' (hb : Below w.heap.size w w') => OpsN.at_any i.A i.n i.c i.xs v.pc w' (h.code.below hb).code h.code.byt hp)
  have HF : Hid (∀ w' e w2, Finds w' v.pc (some ((o : Int), (a : Int), k)) e w2 → e = .returned (.tuple #[.agg #[.int .i64 (o : Int), .int .i64 (a : Int)], .int .i64 (v.pc + k), .int .i64 0]) ∧ Below w'.heap.size w' w2) := Lib.hid (fun w' e w2 hh => hh)
  rw [hat] at HAT
  obtain ⟨p, hp0⟩ : ∃ p, p = v.pc := ⟨_, rfl⟩
  obtain ⟨nx, hnx⟩ : ∃ nx, nx = v.pc + k := ⟨_, rfl⟩
  rw [← hnx] at HF hRR
  obtain ⟨Ai, hAi⟩ : ∃ Ai, Ai = i.A := ⟨_, rfl⟩
  obtain ⟨ni, hni⟩ : ∃ ni, ni = i.n := ⟨_, rfl⟩
  obtain ⟨ci, hci⟩ : ∃ ci, ci = i.c := ⟨_, rfl⟩
  rw [← hAi, ← hni, ← hci] at m7 HAT
  rw [← hp0] at m8 HAT HF
  have H := Lib.hid h
  have HO := Lib.hid ho
  have HI := Lib.hid hi
  have HRR := Lib.hid hRR
  have HSN := Lib.hid hsn
  have HFT := Lib.hid hf
  have hba := Lib.hid (below_ad w (.cells #[.int .i64 0, .int .i64 0] 106))
  have hbd := Lib.hid (show Below w.heap.size w w.drew from ⟨rfl, rfl, rfl, Nat.le_refl _, fun _ _ => rfl⟩)
  have HR8 := Lib.hid (show ∀ w', Blk w' M 90 (mc i v) → w'.rangeAt M 8 (scells v) from fun w' hB => Blk.range hB (by unfold mc; rw [List.drop_left' (by rfl), List.take_length]))
  have HR0 := Lib.hid (show ∀ w', Blk w' M 90 (mc i v) → w'.rangeAt M 0 i.cells from fun w' hB => Blk.range hB (by unfold mc; rw [List.drop_zero, List.take_left]))
  have HZ28 := Lib.hid (show (Try.prog.info? 88).map (·.size) = some (scells v).length from by rw [sc_len h.ok]; exact size_state)
  have HOK := Lib.hid h.ok
  have HNN := Lib.hid (show 0 < i.n from by have := hi.2.2.2.2.2.2.2; omega)
  have HBW := Lib.hid (built_work h.ok i S ob)
  have HCF := Lib.hid (fun args w' => enter_deed ho18 args w')
  have HIX := Lib.hid (fun w' => index_deed ho18 w')
  have HDD := Lib.hid (show ∀ w' ρ' b, Wk B w' ρ' b i ob S A n c Q C ⟨{ v with pc := nx }, L, sn, cf, false⟩ → Calls Try.prog (fnum o) #[.pointer (some ⟨b, 0, none⟩), .int .i64 a] w' (Deeds B w' ρ' b i ob S A n c Q C RR) from fun w' ρ' b hw => by rw [hRR]; exact VmcI.deed_any hw hi ho18 a ha hsn)
  clear h ho hi hf hsn hat hp hp0 hAi hni hci hnx hRR
  go_enter Try.func29, Try.ntmps29
  go_wp2_with fail
  go_region_held3 (fun w' => w'.cell? ⟨M, 7, none⟩ = some (.slice Ai ni ci) ∧ w'.cell? ⟨M, 8, none⟩ = some (.int .i64 p))
    (first | exact HSe.out | exact ⟨(World.cell?_setCell_far _ _ _ _ hne2).trans ((World.cell?_setCell_far _ _ _ _ hne2).trans HSe.out.1), (World.cell?_setCell_far _ _ _ _ hne2).trans ((World.cell?_setCell_far _ _ _ _ hne2).trans HSe.out.2)⟩ | exact ⟨(((Below.refl w2.heap.size w2).alloc (Nat.le_refl _) _).cell (p := ⟨M, 7, none⟩) hM2).trans HSe.out.1, (((Below.refl w2.heap.size w2).alloc (Nat.le_refl _) _).cell (p := ⟨M, 8, none⟩) hM2).trans HSe.out.2⟩ | go_keep)
    (first
      | (go_at_call 43; refine (HAT.out _ hbd.out).mono ?_; intro e w2 hf2; obtain ⟨rfl, hb2⟩ := HF.out _ _ _ hf2; clear hf2; have HB2 := Lib.hid (hbd.out.trans hb2); have hM2 : M < w2.heap.size := Nat.lt_of_lt_of_le hMl HB2.out.size; have hne3 : ¬ M = w2.heap.size := Nat.ne_of_lt hM2; have hne4 : ¬ w2.heap.size = M := fun e => hne3 e.symm; have HSe := Lib.hid (show w2.cell? ⟨M, 7, none⟩ = some (.slice Ai ni ci) ∧ w2.cell? ⟨M, 8, none⟩ = some (.int .i64 p) from ⟨(HB2.out.cell (p := ⟨M, 7, none⟩) hMl).trans m7, (HB2.out.cell (p := ⟨M, 8, none⟩) hMl).trans m8⟩); clear hb2)
      | (go_at_call 43; refine (HAT.out _ hba.out).mono ?_; intro e w2 hf2; obtain ⟨rfl, hb2⟩ := HF.out _ _ _ hf2; clear hf2; have HB2 := Lib.hid (hba.out.trans (hb2.mono hba.out.size)); have HSe := Lib.hid (show w2.cell? ⟨M, 7, none⟩ = some (.slice Ai ni ci) ∧ w2.cell? ⟨M, 8, none⟩ = some (.int .i64 p) from ⟨(HB2.out.cell (p := ⟨M, 7, none⟩) hMl).trans m7, (HB2.out.cell (p := ⟨M, 8, none⟩) hMl).trans m8⟩); have hbx := (show Blk (w.alloc (.cells #[.int .i64 0, .int .i64 0] 106)).drew w.heap.size 106 [.int .i64 0, .int .i64 0] from Blk.new w _ _).below hb2; have x0 := hbx.cell (i := 0) rfl; have x1 := hbx.cell (i := 1) rfl; have y0 := hbx.frozen 0; have y1 := hbx.frozen 1; have HBX := Lib.hid hbx; clear hbx hb2))
  focus
    have HB3 := Lib.hid (show Below w.heap.size w (w2.alloc (.cells #[.int .i64 (o : Int), .int .i64 (a : Int)] 106)) from HB2.out.alloc HB2.out.size _)
    have HI3 := Lib.hid (Blk.new w2 106 [.int .i64 (o : Int), .int .i64 (a : Int)])
    obtain ⟨W, hW⟩ : ∃ W, W = w2.alloc (.cells #[.int .i64 (o : Int), .int .i64 (a : Int)] 106) := ⟨_, rfl⟩
    obtain ⟨gi, hgi⟩ : ∃ gi, gi = w2.heap.size := ⟨_, rfl⟩
    rw [← hgi] at HI3
    have HI3 : Hid (Blk W gi 106 [.int .i64 (o : Int), .int .i64 (a : Int)]) := Lib.hid (by rw [hW]; exact HI3.out)
    have HGI : Hid (w.heap.size ≤ gi) := Lib.hid (by rw [hgi]; exact HB2.out.size)
    have HB3 : Hid (Below w.heap.size w W) := Lib.hid (by rw [hW]; exact HB3.out)
    rw [← hW, ← hgi]
    clear hM2 hne3 hne4 hW hgi
  rotate_left 1
  focus
    have HB3 := Lib.hid (show Below w.heap.size w ((w2.setCell ⟨w.heap.size, 0, none⟩ (.int .i64 (o : Int))).setCell ⟨w.heap.size, 1, none⟩ (.int .i64 (a : Int))) from (HB2.out.setCell (Nat.le_refl _) _).setCell (Nat.le_refl _) _)
    have HI3 := Lib.hid (show Blk ((w2.setCell ⟨w.heap.size, 0, none⟩ (.int .i64 (o : Int))).setCell ⟨w.heap.size, 1, none⟩ (.int .i64 (a : Int))) w.heap.size 106 [.int .i64 (o : Int), .int .i64 (a : Int)] from (HBX.out.set 0 (.int .i64 (o : Int))).set 1 (.int .i64 (a : Int)))
    obtain ⟨W, hW⟩ : ∃ W, W = (w2.setCell ⟨w.heap.size, 0, none⟩ (.int .i64 (o : Int))).setCell ⟨w.heap.size, 1, none⟩ (.int .i64 (a : Int)) := ⟨_, rfl⟩
    obtain ⟨gi, hgi⟩ : ∃ gi, gi = w.heap.size := ⟨_, rfl⟩
    have HI3 : Hid (Blk W gi 106 [.int .i64 (o : Int), .int .i64 (a : Int)]) := Lib.hid (by rw [hW, hgi]; exact HI3.out)
    have HGI : Hid (w.heap.size ≤ gi) := Lib.hid (by rw [hgi]; exact Nat.le_refl _)
    have HB3 : Hid (Below w.heap.size w W) := Lib.hid (by rw [hW]; exact HB3.out)
    rw [← hW, ← hgi]
    clear x0 x1 y0 y1 hW hgi
  all_goals
    have HM3 := Lib.hid (H.out.blk.below HB3.out)
    clear m7 m8 HAT HF HSe
    clear hne1 hne2
    go_wp2_with fail
    refine wp_region_held_drew (S := fun w' => Blk w' M 90 (mc i v)) (by kernel_rfl) HM3.out (fun hS => ?_)
    refine wpAnyH_take (i := 0) (v := .pointer (some ⟨M, 0, none⟩)) rfl (by kernel_rfl) (by kernel_rfl) (by kernel_rfl) (fun _ _ _ h => h) (Or.inl ⟨by rfl, fun w hS => (by first | rfl | (go_simp; done))⟩) hS ?_
    try simp only [Act.put, List.getElem_toArray, List.getElem_cons_zero, List.setIfInBounds_toArray, List.set_cons_zero, List.set_cons_succ]
    refine wpAnyH_take (i := 1) (v := .pointer (some ⟨M, 0, none⟩)) rfl (by kernel_rfl) (by kernel_rfl) (by kernel_rfl) (fun _ _ _ h => h) (Or.inl ⟨by rfl, fun w hS => (by first | rfl | (go_simp; done))⟩) hS ?_
    try simp only [Act.put, List.getElem_toArray, List.getElem_cons_succ, List.getElem_cons_zero, List.setIfInBounds_toArray, List.set_cons_zero, List.set_cons_succ]
    refine wpAnyH_take (i := 2) (v := .pointer (some ⟨M, 8, none⟩)) rfl (by kernel_rfl) (by kernel_rfl) (by kernel_rfl) (fun _ _ _ h => h) (Or.inl ⟨by rfl, fun w hS => (by first | rfl | (go_simp; done))⟩) hS ?_
    try simp only [Act.put, List.getElem_toArray, List.getElem_cons_succ, List.getElem_cons_zero, List.setIfInBounds_toArray, List.set_cons_zero, List.set_cons_succ]
    refine wpAnyH_take (i := 3) (v := .agg (scells v).toArray) rfl (by kernel_rfl) (by kernel_rfl) (by kernel_rfl) (fun _ _ _ h => h) (yieldsIf_load_mid (by rfl) 88 (.tmp 35) rfl M 8 rfl (scells v) _ (fun w hS => HR8.out _ hS) Try.underlying88 rfl HZ28.out) hS ?_
    try simp only [Act.put, List.getElem_toArray, List.getElem_cons_succ, List.getElem_cons_zero, List.setIfInBounds_toArray, List.set_cons_zero, List.set_cons_succ]
    refine wpAnyH_take (i := 4) (v := .pointer (some ⟨M, 0, none⟩)) rfl (by kernel_rfl) (by kernel_rfl) (by kernel_rfl) (fun _ _ _ h => h) (Or.inl ⟨by rfl, fun w hS => (by first | rfl | (go_simp; done))⟩) hS ?_
    try simp only [Act.put, List.getElem_toArray, List.getElem_cons_succ, List.getElem_cons_zero, List.setIfInBounds_toArray, List.set_cons_zero, List.set_cons_succ]
    refine wpAnyH_take (i := 5) (v := .pointer (some ⟨M, 0, none⟩)) rfl (by kernel_rfl) (by kernel_rfl) (by kernel_rfl) (fun _ _ _ h => h) (Or.inl ⟨by rfl, fun w hS => (by first | rfl | (go_simp; done))⟩) hS ?_
    try simp only [Act.put, List.getElem_toArray, List.getElem_cons_succ, List.getElem_cons_zero, List.setIfInBounds_toArray, List.set_cons_zero, List.set_cons_succ]
    refine wpAnyH_take (i := 6) (v := .pointer (some ⟨M, 0, none⟩)) rfl (by kernel_rfl) (by kernel_rfl) (by kernel_rfl) (fun _ _ _ h => h) (Or.inl ⟨by rfl, fun w hS => (by first | rfl | (go_simp; done))⟩) hS ?_
    try simp only [Act.put, List.getElem_toArray, List.getElem_cons_succ, List.getElem_cons_zero, List.setIfInBounds_toArray, List.set_cons_zero, List.set_cons_succ]
    refine wpAnyH_take (i := 7) (v := .agg i.cells.toArray) rfl (by kernel_rfl) (by kernel_rfl) (by kernel_rfl) (fun _ _ _ h => h) (yieldsIf_load_mid (by rfl) 29 (.tmp 39) rfl M 0 rfl i.cells _ (fun w hS => HR0.out _ hS) Try.underlying29 rfl size_image) hS ?_
    try simp only [Act.put, List.getElem_toArray, List.getElem_cons_succ, List.getElem_cons_zero, List.setIfInBounds_toArray, List.set_cons_zero, List.set_cons_succ]
    refine wpAnyH_take (i := 8) (v := pv S) rfl (by kernel_rfl) (by kernel_rfl) (by kernel_rfl) (fun _ _ _ h => h) (Or.inl ⟨by rfl, fun w hS => (by first | rfl | (go_simp; done))⟩) hS ?_
    try simp only [Act.put, List.getElem_toArray, List.getElem_cons_succ, List.getElem_cons_zero, List.setIfInBounds_toArray, List.set_cons_zero, List.set_cons_succ]
    refine wpAnyH_take (i := 9) (v := .pointer (some ⟨ob, 0, none⟩)) rfl (by kernel_rfl) (by kernel_rfl) (by kernel_rfl) (fun _ _ _ h => h) (Or.inl ⟨by rfl, fun w hS => (by first | rfl | (go_simp; done))⟩) hS ?_
    try simp only [Act.put, List.getElem_toArray, List.getElem_cons_succ, List.getElem_cons_zero, List.setIfInBounds_toArray, List.set_cons_zero, List.set_cons_succ]
    refine wpAnyH_take (i := 10) (v := .agg (wc v i (pv S) ob false).toArray) rfl (by kernel_rfl) (by kernel_rfl) (by kernel_rfl) (fun _ _ _ h => h) (yieldsIf_build (by rfl) 128 [(0, .tmp 36), (1, .tmp 40), (2, .tmp 41), (3, .tmp 42)] rfl HBW.out) hS ?_
    try simp only [Act.put, List.getElem_toArray, List.getElem_cons_succ, List.getElem_cons_zero, List.setIfInBounds_toArray, List.set_cons_zero, List.set_cons_succ]
    refine wpAnyH_ready (rs := [11]) (by kernel_rfl) (by simp) ?_
    refine AllReadyH.cons rfl (fun K hK => ?_) (AllReadyH.nil)
    rw [if_pos (by rfl)]
    go_simp
    refine hK.out _ _ (Blk.alloc hS _) (fun hS => ?_)
    clear hK K
    try simp only [Act.put, List.getElem_toArray, List.getElem_cons_succ, List.getElem_cons_zero, List.setIfInBounds_toArray, List.set_cons_zero, List.set_cons_succ]
    refine wpAnyH_ready (rs := [12]) (by kernel_rfl) (by simp) ?_
    refine AllReadyH.cons rfl (fun K hK => ?_) (AllReadyH.nil)
    rw [if_pos (by rfl)]
    refine wp_store_part 128 (.tmp 10) (.tmp 43) rfl _ 0 rfl (wc v i (pv S) ob false) rfl (show Blk (World.drew _) _ _ _ from Blk.new _ 128 z39) (by rw [wc_len HOK.out]; decide) (by rw [wc_len HOK.out]; exact size_work) (wc_one v i S ob false) ?_
    intro w5 hB5 ho5
    refine hK.out _ _ (ho5.out.blk hS (Nat.ne_of_lt HM3.out.lt)) (fun hS => ?_)
    clear hK K hS
    try simp only [Act.put, List.getElem_toArray, List.getElem_cons_succ, List.getElem_cons_zero]
    refine wpAnyH_done (by kernel_rfl) ?_ _
    rw [splice_all (by rw [wc_len HOK.out]; rfl)] at hB5
    have hk5 : Below W.heap.size W w5 := by
      have h1 := ho5.out.below (below_ad W (.cells z39.toArray 128)) (Nat.le_refl _) (below_ad W (.cells z39.toArray 128)).size
      exact h1
    obtain ⟨ρ5, h5, s5, o5⟩ := lay_work H.out HO.out HB3.out hk5 hB5.out
    obtain ⟨b, hb0⟩ : ∃ b, b = W.heap.size := ⟨_, rfl⟩
    rw [← hb0] at h5 ⊢
    have H5 := Lib.hid h5
    have S5 := Lib.hid s5
    have HIB : Hid (Blk w5 gi 106 [.int .i64 (o : Int), .int .i64 (a : Int)] ∧ ¬ gi = b ∧ ρ5 gi = .out) := Lib.hid ⟨HI3.out.below hk5, by have := HI3.out.lt; omega, o5 gi HGI.out (by have := HI3.out.lt; omega)⟩
    have HM5 := Lib.hid (show Blk w5 M 90 (mc i v) ∧ ρ5 M = .own 0 from ⟨s5.keep.blk H.out.blk (by rw [H.out.lm]; exact vm_own0), by rw [s5.old M H.out.blk.lt]; exact H.out.lm⟩)
    have c0 := h5.wb.at_ h5.ok (sc_pc v)
    have z0 := h5.wb.frozen 0
    have d6 := h5.did (u := { v with pc := nx }) (f := false) (rv := .tuple #[]) (w' := w5.setCell ⟨b, 0, none⟩ (.int .i64 nx)) ⟨rfl, h5.wb.put h5.ok (by omega) (set_pc v nx), Only.set w5 b 0 _⟩ (h5.ok.pc nx)
    obtain ⟨_, h6, s6⟩ := d6
    have H6 := Lib.hid h6
    have S6 := Lib.hid (s5.trans s6)
    clear hB5 ho5 hk5 h5 s5 hb0 HM3 HI3 o5 h6 s6 H5 S5
    go_wp2_with fail
    obtain ⟨w6, hw6⟩ : ∃ w6, w6 = w5.setCell ⟨b, 0, none⟩ (.int .i64 nx) := ⟨_, rfl⟩
    rw [← hw6] at H6 S6 ⊢
    have HIC := Lib.hid (show Blk w6 gi 106 [.int .i64 (o : Int), .int .i64 (a : Int)] from by rw [hw6]; exact Blk.far HIB.out.1 HIB.out.2.1 _)
    clear hw6 c0 z0
    refine wp_region_held_drew (S := fun w' => Blk w' gi 106 [.int .i64 (o : Int), .int .i64 (a : Int)]) (by kernel_rfl) HIC.out (fun hS => ?_)
    refine wpAnyH_take (i := 1) (v := .pointer (some ⟨gi, 0, none⟩)) rfl (by kernel_rfl) (by kernel_rfl) (by kernel_rfl) (fun _ _ _ h => h) (Or.inl ⟨by rfl, fun w hS => (by first | rfl | (go_simp; done))⟩) hS ?_
    try simp only [Act.put, List.getElem_toArray, List.getElem_cons_succ, List.getElem_cons_zero, List.setIfInBounds_toArray, List.set_cons_zero, List.set_cons_succ]
    refine wpAnyH_take (i := 2) (v := .int .i64 (o : Int)) rfl (by kernel_rfl) (by kernel_rfl) (by kernel_rfl) (fun _ _ _ h => h) (Or.inl ⟨by rfl, fun w hS => (by have h0 := Blk.cell hS (i := 0) rfl; go_simp; done)⟩) hS ?_
    try simp only [Act.put, List.getElem_toArray, List.getElem_cons_succ, List.getElem_cons_zero, List.setIfInBounds_toArray, List.set_cons_zero, List.set_cons_succ]
    refine wpAnyH_take (i := 4) (v := .pointer (some ⟨gi, 1, none⟩)) rfl (by kernel_rfl) (by kernel_rfl) (by kernel_rfl) (fun _ _ _ h => h) (Or.inl ⟨by rfl, fun w hS => (by first | rfl | (go_simp; done))⟩) hS ?_
    try simp only [Act.put, List.getElem_toArray, List.getElem_cons_succ, List.getElem_cons_zero, List.setIfInBounds_toArray, List.set_cons_zero, List.set_cons_succ]
    refine wpAnyH_take (i := 5) (v := .int .i64 (a : Int)) rfl (by kernel_rfl) (by kernel_rfl) (by kernel_rfl) (fun _ _ _ h => h) (Or.inl ⟨by rfl, fun w hS => (by have h0 := Blk.cell hS (i := 1) rfl; go_simp; done)⟩) hS ?_
    try simp only [Act.put, List.getElem_toArray, List.getElem_cons_succ, List.getElem_cons_zero, List.setIfInBounds_toArray, List.set_cons_zero, List.set_cons_succ]
    refine wpAnyH_ready (rs := [0]) (by kernel_rfl) (by simp) ?_
    refine AllReadyH.cons rfl (fun K hK => ?_) (AllReadyH.nil)
    rw [if_pos (by rfl)]
    go_simp
    refine (deeds_any _).mono ?_
    rintro e w7 ⟨rfl, hb7⟩
    dsimp only
    refine hK.out _ _ (Blk.below hS hb7) (fun hS => ?_)
    clear hK K
    try simp only [Act.put, List.getElem_toArray, List.getElem_cons_succ, List.getElem_cons_zero, List.setIfInBounds_toArray, List.set_cons_zero, List.set_cons_succ]
    refine wpAnyH_take (i := 3) (v := .func (.func (fnum o)) #[] #[]) rfl (by kernel_rfl) (by kernel_rfl) (by kernel_rfl) (fun _ _ _ h => h) (yieldsIf_index (by rfl) 130 (.tmp 47) (.tmp 49) rfl HIX.out) hS ?_
    try simp only [Act.put, List.getElem_toArray, List.getElem_cons_succ, List.getElem_cons_zero, List.setIfInBounds_toArray, List.set_cons_zero, List.set_cons_succ]
    refine wpAnyH_ready (rs := [6]) (by kernel_rfl) (by simp) ?_
    refine AllReadyH.cons rfl (fun K hK => ?_) (AllReadyH.nil)
    rw [if_pos (by rfl)]
    have hcf := HCF.out
    have hb7 : Below w6.heap.size w6 w7 := ⟨hb7.os, hb7.tape, hb7.output, hb7.size, hb7.block⟩
    have H7 := H6.out.below hb7
    have S7 := S6.out.trans (Stp.of_below H6.out.chs.bd (F := Vm) hb7)
    have HM7 := HM5
    go_simp
    refine (HDD.out _ _ _ H7).mono ?_
    intro e w8 hd
    obtain ⟨rfl, ρ8, h8, s8⟩ := hd
    dsimp only
    refine hK.out _ _ (s8.keep.blk hS (by rw [HIB.out.2.2]; exact out_vm)) (fun hS => ?_)
    clear hK K hS
    try simp only [Act.put, List.getElem_toArray, List.getElem_cons_succ, List.getElem_cons_zero, List.setIfInBounds_toArray, List.set_cons_zero, List.set_cons_succ]
    refine wpAnyH_done (by kernel_rfl) ?_ _
    have H8 := Lib.hid h8
    have S8 := Lib.hid (S7.trans s8)
    clear h8 s8 hcf H7 S7 hb7 H6 S6 HIB HIC
    have HM8 := Lib.hid (show Blk w8 M 90 (mc i v) from S8.out.keep.blk H.out.blk (by rw [H.out.lm]; exact vm_own0))
    have HBM := Lib.hid (show ¬ b = M from fun e => by have q1 := H8.out.lb; have q2 : ρ8 M = .own 0 := (by rw [S8.out.old M H.out.blk.lt]; exact H.out.lm); rw [e, q2] at q1; injection q1 with q1; omega)
    have c27 := H8.out.wb.at_ H8.out.ok (sc_ft H8.out.ok)
    have c35 := HM8.out.cell (i := 35) ((mc_st i v 27).trans (sc_ft HOK.out))
    have z35 := HM8.out.frozen 35
    by_cases hq : RR.v.ft = 0
    rotate_left 1
    focus
      have hG := HG.out
      rw [if_pos hq] at hG
      have HG := Lib.hid hG
      clear hG
      obtain ⟨y, hy⟩ : ∃ y, y = RR.v.ft := ⟨_, rfl⟩
      rw [← hy] at c27 hq HG
      have HY := Lib.hid hy
      clear hy
      go_wp2
      go_ret
      rw [HG.out]
      obtain ⟨A2, n2, c2, k1, k2, k3⟩ := Mw.finish H.out HNN.out S8.out H8.out (Keep.set (F := fun j => j = M) w8 35 (.int .i64 y) rfl) (u := { v with ft := y }) (by have hB := Blk.set HM8.out 35 (.int .i64 y); rw [show 35 = 8 + 27 from rfl, mc_set i (set_ft HOK.out y)] at hB; exact hB) (HOK.out.ft y)
      exact ⟨rfl, ρ8, A2, n2, c2, k1, k2, k3⟩
    rotate_left 1
    focus
      have hG := HG.out
      rw [if_neg (fun h => h hq)] at hG
      have HG := Lib.hid hG
      rw [hq] at c27
      clear hG hq c35 z35
      obtain ⟨ee, hee⟩ : ∃ ee, ee = RR.e := ⟨_, rfl⟩
      have HEE := Lib.hid hee
      have c38 : w8.cell? ⟨b, 38, none⟩ = some (.bool ee) := by rw [hee]; exact H8.out.wb.tail H8.out.ok (k := 10) rfl
      have c38' : ∀ w9, Only M w8 w9 → w9.cell? ⟨b, 38, none⟩ = some (.bool ee) := fun w9 ho => by rw [hee]; exact Wb.tail (H8.out.wb.only ho HBM.out) H8.out.ok (k := 10) rfl
      have HC38 := Lib.hid c38'
      clear hee c38 c38'
      go_wp2_with (first
        | (refine wpList_load_part rfl 88 (.tmp 66) rfl b 0 rfl (scells RR.v) H8.out.wb (by unfold wc; rw [List.drop_zero, List.take_left]) Try.underlying88 rfl (by rw [sc_len H8.out.ok]; exact size_state) ?_)
        | (refine wpList_store_part rfl 88 (.tmp 69) (.tmp 67) rfl M 8 rfl (scells RR.v) rfl HM8.out (by rw [mc_len HOK.out, sc_len H8.out.ok]; decide) (by rw [sc_len H8.out.ok]; exact size_state) (sc_one _) ?_; intro w9 hB9 ho9; have c38 := HC38.out _ ho9.out))
      go_ret
      rw [HG.out]
      obtain ⟨A2, n2, c2, k1, k2, k3⟩ := Mw.finish H.out HNN.out S8.out H8.out (Keep.only (F := fun j => j = M) ho9.out rfl) (u := RR.v) (by have hB := hB9.out; rw [mc_splice HOK.out H8.out.ok] at hB; exact hB) H8.out.ok
      exact ⟨by rw [HEE.out]; rfl, ρ8, A2, n2, c2, k1, k2, k3⟩
end
end Go.Proofs.Ytegnehdfedfphaa.VmcK
