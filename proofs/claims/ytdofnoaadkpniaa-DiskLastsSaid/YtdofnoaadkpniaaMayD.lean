/- An append to a list of the array. No conditions but those each law names. -/
import Derived.Test.YtdofnoaadkpniaaMayC
import Derived.Test.YtdofnoaadkpniaaRdkB
namespace Go.Proofs.Ytdofnoaadkpniaa.MayD
open Go.RowKit Go.Proofs.Ytdofnoaadkpniaa.Kit Go.Proofs.Ytdofnoaadkpniaa.Byt Go.Proofs.Ytdofnoaadkpniaa.Mem Go.Proofs.Ytdofnoaadkpniaa.DskA Go.Proofs.Ytdofnoaadkpniaa.DskB Go.Proofs.Ytdofnoaadkpniaa.DskD Go.Proofs.Ytdofnoaadkpniaa.DskE Go.Proofs.Ytdofnoaadkpniaa.DskF Go.Proofs.Ytdofnoaadkpniaa.RdkA Go.Proofs.Ytdofnoaadkpniaa.MayA Go.Proofs.Ytdofnoaadkpniaa.MayB Go.Proofs.Ytdofnoaadkpniaa.MayC

section
variable {P : Program} {o : Oper} {a : Act} {w : World} {Q : Exit → Act → World → Prop}
theorem wp_append_rm {K : Act → World → Prop} (sl x : Operand) (t : TypeId)
    (ho : o.op = .call { callee := .builtin .append, args := #[sl, x], argTypes := #[t, t] })
    (i : TypeInfo) (ht : P.underlying t = some (.slice 31)) (hi : P.info? 31 = some i) (hz : i.zero = some (.slice none 0 0)) (hsize : i.size = 1) (hby : i.bytes = 24)
    {s : Sv} {xs : List Value} (hs : a.eval sl = s.v) (hR : Rm w s xs) (hn : s.n ≤ 1000000) (u : Value) (hu : u.oneCell' = true)
    (ad : Addr) (m c : Nat) (hm : m = 1) (hx : a.eval x = .slice (some ad) m c) (hnews : ∀ j v, [u][j]? = some v → w.cell? (ad.add j) = some v)
    (h : ∀ A' n' c' w', Hid (Rm w' ⟨A', n', c'⟩ (xs ++ [u])) → Hid (w.grownBy w' s.v.ownBlock) → Hid ((Value.slice A' n' c').ownBlock = s.v.ownBlock ∨ ∀ k, (Value.slice A' n' c').ownBlock = some k → w.heap.size ≤ k) → K (a.put o.dst (.slice A' n' c')) w') : o.wp P a w K Q := by
  obtain ⟨⟨A', n', c'⟩, w', hrun, h2, h3, h4⟩ := run_append_rm (P := P) w t o.type i ht hi hz hsize hby hR hn u hu ad m c hm hnews
  unfold Oper.wp execOp
  simp only [ho, resolve, invoke, builtin, Sem.run_bind, Sem.run_pure, Result.andThen_ok, List.map_toArray, List.map_cons, List.map_nil, hs, hx, hrun]
  exact h A' n' c' w' h2 h3 h4
end
section
variable {w0 w3 w5 w6 w7 : World} {F G : Nat → Prop} {g gm j c : Nat} {s : St} {rv : Nat → Sv} {E : Nat → List Sl} {q : Sv} {A : Option Addr} {xs : List Nat} {o : Obj}
theorem Both.rowAt (hB : Both w0 w3 F G g gm s rv E 8) (hj : j < 8) (hb5 : Below w3.heap.size w3 w5) (o : Obj) : Rm (w5.alloc o) (rv j) ((E j).map Sl.val) := (hB.m.below (hb5.alloc hb5.size o)).row j hj
theorem Both.mid (hB : Both w0 w3 F G g gm s rv E 8) (hj : j < 8) (hb5 : Below w3.heap.size w3 w5) (hg : (w5.alloc o).grownBy w6 (rv j).v.ownBlock) : w6.cell? ⟨gm, j, none⟩ = some (.slice (rv j).A (rv j).n (rv j).c) ∧ w6.frozen? ⟨gm, j, none⟩ = false := by
  have h1 := (Keep.grown hg fun k hk => hk).blk (hB.m.below (hb5.alloc hb5.size o)).head fun hk => (hB.m.fo j hj gm hk).2.1 rfl
  exact ⟨h1.cell (hd8_at hj), h1.frozen j⟩
theorem Both.lowRow {k : Nat} {s1 : St} (hB : Both w0 w3 F G g gm s rv E 8) (hA : Acc s1 E k) (hj : j < 8) : (rv j).n ≤ k + 1 := by
  have h1 := (hB.m.row j hj).rd.1
  have h2 := hA.low j hj
  rw [List.length_map] at h1
  omega
theorem Both.drewN (h : Both w0 w3 F G g gm s rv E 8) (n : Nat) : Both w0 (w3.drewN n) F G g gm s rv E 8 :=
  ⟨h.u.drewN n, h.m.keep ((Keep.refl (fun _ => False) w3).drewN n) fun _ _ h => h, h.ap, h.low⟩
theorem rd_drewN {A : Option Addr} {n c : Nat} {xs : List Value} (h : Rd w3 A n c xs) (m : Nat) : Rd (w3.drewN m) A n c xs := ((Keep.refl (fun _ => False) w3).drewN m).rd h fun _ _ _ _ h => h
theorem Both.start (hB : Both w0 w3 F G g gm s rv E 8) (hj : j < 8) : ∃ b o, (rv j).A = some ⟨b, o, none⟩ := by
  obtain ⟨b, o, _, hA, _⟩ := hB.m.row j hj
  exact ⟨b, o, hA⟩
theorem Both.elem (hB : Both w0 w3 F G g gm s rv E 8) (hj : j < 8) {b o : Nat} (hA : (rv j).A = some ⟨b, o, none⟩) {q : Nat} (hq : q < (rv j).n) :
    ∃ v : Sl, w3.cell? ⟨b, o + q, none⟩ = some (.slice v.A 64 v.c) ∧ Rd w3 v.A 64 v.c (u8n v.xs) ∧ ((E j).map Sl.xs).take (q + 1) = ((E j).map Sl.xs).take q ++ [v.xs] := by
  have hR := (hB.m.row j hj).rd
  have hl : q < (E j).length := by have := hR.1; rw [List.length_map] at this; omega
  obtain ⟨b', o', hA', hc⟩ := Rd.at_ hR hq
  rw [hA] at hA'
  injection hA' with hA'
  injection hA' with h1 h2
  subst h1 h2
  have he := hB.m.el j hj (E j)[q] (List.getElem_mem hl)
  have h3 := he.n64
  have h4 := he.rd
  rw [h3] at h4
  refine ⟨(E j)[q], ?_, h4, ?_⟩
  · rw [hc, List.getElem_map, Sl.val, h3]
  · rw [List.take_succ_eq_append_getElem (by rw [List.length_map]; exact hl), List.getElem_map]
theorem Both.wide (hB : Both w0 w3 F G g gm s rv E 8) (hj : j < 8) : ((E j).map Sl.xs).length = (rv j).n ∧ (rv j).n ≤ (rv j).c ∧ (rv j).c ≤ 9223372036854775807 := by
  have hR := (hB.m.row j hj).rd
  refine ⟨?_, hR.2.1, hR.2.2.1⟩
  have := hR.1
  rw [List.length_map] at this ⊢
  exact this
theorem powered_facts (s : St) (K : Nat) (hS : s.S.length = 8) : (power K s).down = false ∧ (power K s).L = [] ∧ (power K s).S.length = 8 :=
  ⟨rfl, rfl, by show (laidTo _ _ _ _).length = 8; rw [laidTo_len]; exact hS⟩
/-- A list became longer by one. -/
theorem Both.appended (hB : Both w0 w3 F G g gm s rv E 8) (hj : j < 8) (hb5 : Below w3.heap.size w3 w5) (hR5 : Rd w5 A 64 c (u8n xs)) (hA5 : ∀ b o, A = some ⟨b, o, none⟩ → w3.heap.size ≤ b ∧ b < w5.heap.size)
    (hrm : Rm w6 q ((E j).map Sl.val ++ [.slice A 64 c])) (hg : (w5.alloc o).grownBy w6 (rv j).v.ownBlock) (hob : q.v.ownBlock = (rv j).v.ownBlock ∨ ∀ k, q.v.ownBlock = some k → (w5.alloc o).heap.size ≤ k) (hw7 : w7 = w6.setCell ⟨gm, j, none⟩ q.v) :
    ∃ G', Both w0 w7 F G' g gm s (up rv j q) (up E j (E j ++ [⟨A, 64, c, xs⟩])) 8 := by
  have hs5 := hb5.size
  have hs6 : w5.heap.size + 1 ≤ w6.heap.size := by have := hg.size; rwa [World.size_alloc] at this
  rw [World.size_alloc] at hob
  have ka : Keep (fun k => (rv j).v.ownBlock = some k) w3 (w5.alloc o) := Keep.of_below (hb5.alloc hs5 o)
  have kg : Keep (fun k => (rv j).v.ownBlock = some k) (w5.alloc o) w6 := Keep.grown hg fun k hk => hk
  have hold : ∀ k, (rv j).v.ownBlock = some k → k < w3.heap.size := fun k hk => hB.m.lt k (hB.m.fo j hj k hk).1
  have k5 : Keep (fun k => (rv j).v.ownBlock = some k) w5 w6 := (Keep.of_below ((Below.refl _ _).alloc (Nat.le_refl _) o)).trans kg fun k hk => .inl hk
  have hm := hB.m.put (w3 := w7) (j := j) hj (q := q) (e' := E j ++ [⟨A, 64, c, xs⟩]) (ka.trans kg fun k hk => .inl hk)
    (hob.imp id fun h k hk => by have := h k hk; omega)
    (by rw [List.map_append]; exact hrm)
    (fun v hv => by
      rcases List.mem_append.1 hv with hv | hv
      · exact .inl ⟨hv, hj⟩
      · obtain rfl := List.mem_singleton.1 hv
        refine .inr ⟨k5.rd hR5 fun _ b o hA hk => ?_, rfl, fun b o hA => ?_⟩
        · have h1 := hA5 b o hA
          have h2 := hold b hk
          omega
        · have h1 := hA5 b o hA
          refine ⟨h1.1, by omega, fun hk => ?_⟩
          rcases hob with h2 | h2
          · have := hold b (h2 ▸ hk); omega
          · have := h2 b hk; omega) (K' := 8) (fun i hi => .inr hi) (Nat.le_refl _) hw7
  exact ⟨_, hB.laid hm⟩
end
end Go.Proofs.Ytdofnoaadkpniaa.MayD
