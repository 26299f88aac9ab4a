/- Timers in memory: Set. Conditions: they lie as the facts say. -/
import Derived.Test.YtgoogcjkokpicaaTimJ
namespace Go.Proofs.Ytgoogcjkokpicaa.TimK
open Go.RowKit Go.Proofs.Ytgoogcjkokpicaa.Kit Go.Proofs.Ytgoogcjkokpicaa.Byt Go.Proofs.Ytgoogcjkokpicaa.Mem Go.Proofs.Ytgoogcjkokpicaa.TimM Go.Proofs.Ytgoogcjkokpicaa.TimA Go.Proofs.Ytgoogcjkokpicaa.TimB Go.Proofs.Ytgoogcjkokpicaa.TimC Go.Proofs.Ytgoogcjkokpicaa.TimD Go.Proofs.Ytgoogcjkokpicaa.TimE Go.Proofs.Ytgoogcjkokpicaa.TimF Go.Proofs.Ytgoogcjkokpicaa.TimG Go.Proofs.Ytgoogcjkokpicaa.TimH Go.Proofs.Ytgoogcjkokpicaa.TimN Go.Proofs.Ytgoogcjkokpicaa.TimI Go.Proofs.Ytgoogcjkokpicaa.TimJ

section
variable {B tb mb n c N g k i : Nat} {F G : Nat → Prop} {w w' w2 : World} {A : Option Addr} {E E1 E2 : List En} {f : Int → Option Nat} {X Y : Xs} {x y : En}
theorem set_at {j : Nat} (hi : i < E.length) : at_ (E.set i y) j = if j = i then y else at_ E j := by
  unfold at_
  rw [List.getD_eq_getElem?_getD, List.getD_eq_getElem?_getD, List.getElem?_set]
  by_cases e : i = j
  · subst e; simp [hi]
  · rw [if_neg e, if_neg (Ne.symm e)]
theorem hp_tick (h : HpA B w F tb mb A n c E) (hi : i < n) {t : Int} (ht : hw t) :
    HpA B (w.setCell ⟨(at_ E i).b, 1, none⟩ (.int .i64 t)) F tb mb A n c (E.set i ⟨(at_ E i).b, (at_ E i).name, t⟩) ∧ Keep F w (w.setCell ⟨(at_ E i).b, 1, none⟩ (.int .i64 t)) := by
  have hl := h.len
  have li : i < E.length := by omega
  have mi := at_mem li
  obtain ⟨e1, e2, e3, e4⟩ := h.en _ mi
  have hmem : ∀ e ∈ E.set i ⟨(at_ E i).b, (at_ E i).name, t⟩, e = ⟨(at_ E i).b, (at_ E i).name, t⟩ ∨ e ∈ E := fun e he => (List.mem_or_eq_of_mem_set he).symm
  refine ⟨⟨fun j hj => ⟨(h.bd j hj).1, by simpa using (h.bd j hj).2⟩, by simpa using h.base, h.box.far (p := ⟨_, 1, none⟩) e2.symm _, h.ftb, ?_, fun g hg => ?_, by simpa using hl, h.most, fun j hj => ?_, fun e he => ?_, fun a b ha hb e => ?_⟩, Keep.set w 1 _ e1⟩
  · have e : pts (E.set i ⟨(at_ E i).b, (at_ E i).name, t⟩) = pts E := by
      unfold pts
      rw [List.map_set]
      have h2 : pt ⟨(at_ E i).b, (at_ E i).name, t⟩ = (E.map pt)[i]'(by simpa using li) := by
        have := at_of (List.getElem?_eq_getElem li)
        simp [pt, this]
      rw [h2, List.set_getElem_self]
    rw [e]
    exact (Keep.set (F := fun j => j = (at_ E i).b) w 1 _ rfl).own h.row fun g hg e => (h.frow g hg).2.2 _ mi e.symm
  · obtain ⟨f1, f2, f3⟩ := h.frow g hg
    refine ⟨f1, f2, fun e he => ?_⟩
    rcases hmem e he with rfl | h3
    · have h3 := f3 _ mi
      exact h3
    · exact f3 e h3
  · rw [set_at li]
    by_cases e : j = i
    · subst e
      rw [if_pos rfl]
      exact (h.ent j hj).set 1 _
    · rw [if_neg e]
      exact (h.ent j hj).far (p := ⟨_, 1, none⟩) (fun e' => e (h.nd j i hj hi e')) _
  · rcases hmem e he with rfl | h3
    · exact ⟨e1, e2, e3, ht⟩
    · exact h.en e h3
  · have key : ∀ j, (at_ (E.set i ⟨(at_ E i).b, (at_ E i).name, t⟩) j).b = (at_ E j).b := fun j => by
      rw [set_at li]
      split
      · rename_i e; rw [e]
      · rfl
    rw [key, key] at e
    exact h.nd a b ha hb e
theorem Mp.more {M : Nat} (h : Mp w mb N f) (hN : N ≤ M) : Mp w mb M f := by
  obtain ⟨D, h1, h2⟩ := h
  exact ⟨D, h1.mono hN, h2⟩
/-- It was set to another tick. -/
theorem sx_again (h : Sx B w F tb mb A n c N E f X) (hN : N < 900) (hi : i < n) {t : Int} (ht : hw t) (hU : Upd B (w.setCell ⟨(at_ E i).b, 1, none⟩ (.int .i64 t)).drew F tb mb A n c n (E.set i ⟨(at_ E i).b, (at_ E i).name, t⟩) (fun E' => Hp (at_ E') n) w2) :
    (∃ E', Sx B w2 F tb mb A n c (N + 1) E' f (setX X (at_ E i).name t)) ∧ Keep F w w2 := by
  have hl := h.hp.len
  have li : i < E.length := by omega
  obtain ⟨b1, b2⟩ := hp_tick h.hp hi ht
  obtain ⟨E2, a1, a2, a3, a4, a5⟩ := hU
  have hk : Keep F w w2 := b2.drew.trans a4 fun _ h => .inl h
  refine ⟨⟨E2, a1, Mp.more (h.mp.keep hk h.nf) (by omega), h.nf, h.bm, by have := h.nN; omega, by omega, a5, ?_, h.un.set _ _, fun j hj => ?_, fun j hj hn => ?_⟩, hk⟩
  · have e1 : E = E.take i ++ at_ E i :: E.drop (i + 1) := by
      have h2 : at_ E i = E[i] := at_of (List.getElem?_eq_getElem li)
      rw [h2, ← List.drop_eq_getElem_cons li, List.take_append_drop]
    have e2 : E.set i ⟨(at_ E i).b, (at_ E i).name, t⟩ = E.take i ++ ⟨(at_ E i).b, (at_ E i).name, t⟩ :: E.drop (i + 1) := by
      rw [List.set_eq_take_append_cons_drop, if_pos li]
    have p1 : (ntE (E.take i) ++ ((at_ E i).name, (at_ E i).tick) :: ntE (E.drop (i + 1))).Perm X := by
      have := h.perm
      have e3 : ntE E = ntE (E.take i) ++ ((at_ E i).name, (at_ E i).tick) :: ntE (E.drop (i + 1)) := by
        have e4 : ntE (E.take i ++ at_ E i :: E.drop (i + 1)) = ntE (E.take i) ++ ((at_ E i).name, (at_ E i).tick) :: ntE (E.drop (i + 1)) := by simp [ntE, En.nt]
        rw [← e1] at e4
        exact e4
      rw [e3] at this
      exact this
    have p2 := set_mid (t := t) h.un p1
    have p3 : (ntE E2).Perm (ntE (E.set i ⟨(at_ E i).b, (at_ E i).name, t⟩)) := a2.map _
    refine p3.trans ?_
    rw [e2]
    have e5 : ntE (E.take i ++ ⟨(at_ E i).b, (at_ E i).name, t⟩ :: E.drop (i + 1)) = ntE (E.take i) ++ ((at_ E i).name, t) :: ntE (E.drop (i + 1)) := by simp [ntE, En.nt]
    rw [e5]
    exact p2
  · have hm := at_mem (E := E2) (k := j) (by rw [a1.len]; exact hj)
    rcases List.mem_or_eq_of_mem_set (a2.mem_iff.1 hm) with h3 | h3
    · exact sx_ye h _ h3
    · rw [h3]
      exact h.yes i hi
  · refine sx_none h j hj fun e he hn' => ?_
    obtain ⟨q, hq, rfl⟩ := mem_at.1 he
    have hq' : at_ (E.set i ⟨(at_ E i).b, (at_ E i).name, t⟩) q ∈ E2 := a2.mem_iff.2 (at_mem (by simpa using hq))
    obtain ⟨r, hr, hre⟩ := mem_at.1 hq'
    refine hn r (by rw [← a1.len]; exact hr) ?_
    rw [hre, set_at li]
    split
    · rename_i e; rw [← hn', e]
    · exact hn'
/-- It is set anew. -/
theorem sx_new (h : Sx B w F tb mb A n c N E f X) (hN : N < 900) {k t : Int} (hk : hw k) (hno : ∀ i, i < n → (at_ E i).name ≠ k) {w1 w2 w3 : World}
    (h1 : Mp w2 mb (N + 1) (upf f k (some w.heap.size))) (hk1 : Below w.heap.size w w1) (hs1 : w1.heap.size = w.heap.size + 1) (hk2 : Keep (fun i => i = mb) w1 w2)
    (hP : Psh B w2 F tb mb n E ⟨w.heap.size, k, t⟩ (fun E' => Hp (at_ E') (n + 1)) w3) (hG : ∀ i, G i ↔ F i ∨ i = mb) :
    Tu B w G tb (N + 1) (setX X k t) (.tuple #[]) (.returned (.tuple #[])) w3 := by
  obtain ⟨F', A', c', E', a1, a2, a3, a4, a6, a5⟩ := hP
  have hmb := h.mp.lt
  have hlt : ∀ i, F i → i < w.heap.size := fun i hi => (h.hp.bd i hi).2
  have hs2 := hk2.size
  have hno' : ∀ e ∈ E, e.name ≠ k := fun e he => by
    obtain ⟨i, hi, rfl⟩ := mem_at.1 he
    exact hno i (by rw [← h.hp.len]; exact hi)
  have hX : ∀ p ∈ X, p.1 ≠ k := fun p hp e => by
    obtain ⟨i, hi, e1, _⟩ := h.find (k := p.1) (t := p.2) hp
    exact hno i hi (e1.trans e)
  have hset : setX X k t = X ++ [(k, t)] := by unfold setX; rw [stop_none hX]
  have hmem : ∀ e, e ∈ E' ↔ e ∈ E ∨ e = ⟨w.heap.size, k, t⟩ := fun e => by rw [a2.mem_iff]; simp
  refine ⟨rfl, fun i => F' i ∨ i = mb, ⟨F', mb, A', n + 1, c', E', upf f k (some w.heap.size), ⟨a1, h1.keep a3 ?_, fun hf => ?_, h.bm, by have := h.nN; omega, by omega, a5, ?_, ?_, fun i hi => ?_, fun j hj hn => ?_⟩, fun _ => Iff.rfl⟩, ?_, fun i hi => ?_⟩
  · rintro (h2 | h2)
    · exact h.nf h2
    · have : mb = w.heap.size := h2
      omega
  · rcases a4 mb hf with h2 | h2 | h2
    · exact h.nf h2
    · have : mb = w.heap.size := h2
      omega
    · omega
  · rw [hset]
    have e : ntE (E ++ [⟨w.heap.size, k, t⟩]) = ntE E ++ [(k, t)] := by simp [ntE, En.nt]
    have p1 : (ntE E').Perm (ntE (E ++ [⟨w.heap.size, k, t⟩])) := a2.map _
    rw [e] at p1
    exact p1.trans (h.perm.append_right _)
  · exact h.un.set _ _
  · have hm := at_mem (E := E') (k := i) (by rw [a1.len]; exact hi)
    rcases (hmem _).1 hm with h2 | h2
    · rw [upf_other (hno' _ h2)]
      exact sx_ye h _ h2
    · rw [h2]
      exact upf_same _ _ _
  · have hjk : j ≠ k := fun e => by
      obtain ⟨r, hr, hre⟩ := mem_at.1 ((hmem ⟨w.heap.size, k, t⟩).2 (.inr rfl))
      exact hn r (by rw [← a1.len]; exact hr) (by rw [hre]; exact e.symm)
    rw [upf_other hjk]
    refine sx_none h j hj fun e he hn' => ?_
    obtain ⟨r, hr, hre⟩ := mem_at.1 ((hmem e).2 (.inl he))
    exact hn r (by rw [← a1.len]; exact hr) (by rw [hre]; exact hn')
  · have k1 : Keep G w w1 := Keep.of_below hk1
    refine (k1.trans hk2 fun i h2 => .inl ((hG i).2 (.inr h2))).trans a3 fun i h2 => ?_
    rcases h2 with h2 | h2
    · exact .inl ((hG i).2 (.inl h2))
    · right
      rw [h2]
      exact Nat.le_refl _
  · rcases hi with hi | hi
    · rcases a4 i hi with h2 | h2 | h2
      · exact .inl ((hG i).2 (.inl h2))
      · right
        rw [h2]
        exact Nat.le_refl _
      · exact .inr (by omega)
    · exact .inl ((hG i).2 (.inr hi))
set_option maxHeartbeats 2000000 in
set_option maxRecDepth 100000 in
theorem set_any (h : St B w G tb N X) (hN : N < 900) {k t : Int} (hk : hw k) (ht : hw t) : Calls Try.prog 9 #[.pointer (some ⟨tb, 0, none⟩), .int .i64 k, .int .i64 t] w (Tu B w G tb (N + 1) (setX X k t) (.tuple #[])) := by
  obtain ⟨F, mb, A, n, c, E, f, h1, h2⟩ := h
  have c1 := h1.hp.box.cell (i := 1) rfl
  have HM := Lib.hid h1.mp
  have HK := Lib.hid hk
  have HG := Lib.hid h2
  by_cases he : ∃ i, i < n ∧ (at_ E i).name = k
  · obtain ⟨i, hi, he⟩ := he
    have hf := h1.yes i hi
    rw [he] at hf
    have ci := (h1.hp.ent i hi).cell (i := 1) rfl
    have fi := (h1.hp.ent i hi).frozen 1
    have cp := h1.hp.place hi
    obtain ⟨g, ys, rfl, _⟩ := h1.hp.some_ (by omega)
    obtain ⟨b1, b2⟩ := hp_tick h1.hp hi ht
    have li : i < E.length := by rw [h1.hp.len]; exact hi
    have hd : D (at_ (E.set i ⟨(at_ E i).b, (at_ E i).name, t⟩)) n i i := h1.ord.hole fun j _ hne => by rw [set_at li, if_neg hne]
    have HFX := Lib.hid (fix_any b1.drew hi hd)
    have HA := Lib.hid (fun w2 => sx_again (w2 := w2) h1 hN hi ht)
    rw [he] at HA HFX
    clear h1 h2 he b1 b2 hd hk ht li
    generalize at_ E i = x at *
    go_enter Try.func9, Try.ntmps9
    go_wp2_with (at_lookup; refine wpList_look rfl _ _ rfl HM.out HK.out rfl rfl ?_; rw [hf]; unfold pv)
    have cp1 : (w.setCell ⟨x.b, 1, none⟩ (.int .i64 t)).cell? ⟨x.b, 2, none⟩ = some (.int .i64 (i : Nat)) := (World.cell?_setCell_other (w := w) (a := ⟨x.b, 1, none⟩) (b := ⟨x.b, 2, none⟩) (v := .int .i64 t) (by simp)).trans cp
    generalize w.setCell ⟨x.b, 1, none⟩ (.int .i64 t) = w1 at cp1 HFX HA ⊢
    clear ci fi cp c1
    go_still_tail 8, (by kernel_rfl)
    change wpList _ _ _ _ _ (World.drew _)
    go_wp2_with fail
    refine HFX.out.mono ?_
    rintro e w2 ⟨rfl, q⟩
    have Q := Lib.hid (HA.out w2 q)
    clear q HFX HA
    go_wp2
    refine bodyPost_ret (results_none rfl _ _ _) rfl ?_
    obtain ⟨⟨E', q1⟩, q2⟩ := Q.out
    exact ⟨rfl, fun i => F i ∨ i = mb, ⟨F, mb, _, n, c, E', f, q1, fun _ => Iff.rfl⟩, G_keep HG.out (q2.mono fun i _ h => .inl h), fun i hi => .inl ((HG.out i).2 hi)⟩
  · have hf : f k = none := h1.no k hk fun i hi e => he ⟨i, hi, e⟩
    have hno : ∀ i, i < n → (at_ E i).name ≠ k := fun i hi e => he ⟨i, hi, e⟩
    have hb1 : Below w.heap.size w (w.alloc (.cells #[.int .i64 k, .int .i64 t, .int .i64 0] 59)) := (Below.refl _ _).alloc (Nat.le_refl _) _
    have hs1 : (w.alloc (.cells #[.int .i64 k, .int .i64 t, .int .i64 0] 59)).heap.size = w.heap.size + 1 := by simp
    have hnm := h1.mp.lt
    have hE := Blk.new w 59 (ecells ⟨w.heap.size, k, t⟩ 0)
    have hFb : ¬ F w.heap.size := fun h => by have := (h1.hp.bd _ h).2; omega
    have HN := Lib.hid (fun w1 w2 w3 => sx_new (w1 := w1) (w2 := w2) (w3 := w3) (G := G) h1 hN hk (t := t) hno)
    have HM1 := Lib.hid (h1.mp.keep (Keep.of_below (F := fun _ => False) hb1) id)
    have c11 := (h1.hp.box.alloc (.cells #[.int .i64 k, .int .i64 t, .int .i64 0] 59)).cell (i := 1) rfl
    have htb := h1.hp.box.lt
    have HH := Lib.hid (fun w2 (hk2 : Keep (fun i => i = mb) (w.alloc (.cells #[.int .i64 k, .int .i64 t, .int .i64 0] 59)) w2) =>
      push_any (w := w2) (x := ⟨w.heap.size, k, t⟩) ((h1.hp.keep (Keep.of_below (F := fun _ => False) hb1) (fun _ h _ => h)).keep hk2 fun i e hi => h1.nf (e ▸ hi)) (by have := h1.nN; omega) (hk2.blk hE (by show ¬ w.heap.size = mb; omega)) h1.hp.base hFb hk ht h1.ord)
    have HB1 := Lib.hid hb1
    have HS1 := Lib.hid hs1
    have hN1 : N < 1000 := by omega
    clear h1 h2 he hno hb1 hs1 hnm hE hFb hk ht
    unfold pt at HH
    go_enter Try.func9, Try.ntmps9
    go_wp2_with (first
      | (at_lookup; refine wpList_look rfl _ _ rfl HM.out HK.out rfl rfl ?_; rw [hf]; unfold pv)
      | (at_mapUpdate; refine wpList_put rfl _ _ _ rfl HM1.out hN1 HK.out w.heap.size rfl rfl rfl ?_; intro w2 m2 k2; have M2 := Lib.hid m2; have K2 := Lib.hid k2; clear m2 k2)
      | (go_at_call 21; refine (HH.out _ K2.out).mono ?_; rintro e w3 ⟨rfl, q⟩; have Q := Lib.hid q; clear q))
    go_end0
    exact HN.out _ _ _ M2.out HB1.out HS1.out K2.out Q.out HG.out
end
end Go.Proofs.Ytgoogcjkokpicaa.TimK
