/- Timers in memory: take, Stop. Conditions: they lie as the facts say. -/
import Derived.Test.YtgoogcjkokpicaaTimI
import Derived.Test.YtgoogcjkokpicaaTimF
import Derived.StillTailTactics
namespace Go.Proofs.Ytgoogcjkokpicaa.TimJ
open Go.RowKit Go.Proofs.Ytgoogcjkokpicaa.Kit Go.Proofs.Ytgoogcjkokpicaa.Byt Go.Proofs.Ytgoogcjkokpicaa.Mem Go.Proofs.Ytgoogcjkokpicaa.TimM Go.Proofs.Ytgoogcjkokpicaa.TimA Go.Proofs.Ytgoogcjkokpicaa.TimB Go.Proofs.Ytgoogcjkokpicaa.TimC Go.Proofs.Ytgoogcjkokpicaa.TimD Go.Proofs.Ytgoogcjkokpicaa.TimE Go.Proofs.Ytgoogcjkokpicaa.TimF Go.Proofs.Ytgoogcjkokpicaa.TimG Go.Proofs.Ytgoogcjkokpicaa.TimH Go.Proofs.Ytgoogcjkokpicaa.TimN Go.Proofs.Ytgoogcjkokpicaa.TimI

theorem mem_at {E : List En} {e : En} : e ∈ E ↔ ∃ i, i < E.length ∧ at_ E i = e := by
  constructor
  · intro he
    obtain ⟨i, hi, hie⟩ := List.getElem_of_mem he
    exact ⟨i, hi, at_of (by rw [List.getElem?_eq_getElem hi, hie])⟩
  · rintro ⟨i, hi, rfl⟩
    exact at_mem hi
section
variable {B tb mb n c N g k i : Nat} {F G : Nat → Prop} {w w' w2 : World} {A : Option Addr} {E E1 : List En} {f : Int → Option Nat} {X Y : Xs} {x : En}
theorem sx_ye (h : Sx B w F tb mb A n c N E f X) : ∀ e ∈ E, f e.name = some e.b := fun e he => by
  obtain ⟨i, hi, rfl⟩ := mem_at.1 he
  exact h.yes i (by rw [← h.hp.len]; exact hi)
theorem sx_none (h : Sx B w F tb mb A n c N E f X) : ∀ k, hw k → (∀ e ∈ E, e.name ≠ k) → f k = none := fun k hk hn => h.no k hk fun i hi => hn _ (at_mem (by rw [h.hp.len]; exact hi))
theorem sx_taken (h : Sx B w F tb mb A n c N E f X) (hh : HpA B w' F tb mb (some ⟨g, 0, none⟩) k c E1) (hm : Mp w' mb N (upf f x.name none)) (hk : k ≤ N) (hp : (x :: E1).Perm E) (ho : Hp (at_ E1) k) :
    Sx B w' F tb mb (some ⟨g, 0, none⟩) k c N E1 (upf f x.name none) (stopX X x.name) := by
  have hl := hh.len
  have hpm : (x.nt :: ntE E1).Perm X := (hp.map En.nt).trans h.perm
  have hun := h.un.perm hpm.symm
  have hne : ∀ e ∈ E1, e.name ≠ x.name := fun e he hn => by
    unfold Un at hun
    rw [List.map_cons, List.nodup_cons] at hun
    exact hun.1 (List.mem_map.2 ⟨e.nt, List.mem_map.2 ⟨e, he, rfl⟩, hn⟩)
  refine ⟨hh, hm, h.nf, h.bm, hk, h.N9, ho, stop_take h.un hpm, h.un.stop _, fun i hi => ?_, fun j hj hn => ?_⟩
  · have he := at_mem (E := E1) (k := i) (by omega)
    rw [upf_other (hne _ he)]
    exact sx_ye h _ (hp.mem_iff.1 (List.mem_cons_of_mem _ he))
  · by_cases e : j = x.name
    · subst e; exact upf_same _ _ _
    · rw [upf_other e]
      refine sx_none h j hj fun e' he' hn' => ?_
      rcases List.mem_cons.1 (hp.mem_iff.2 he') with rfl | h1
      · exact e hn'.symm
      · obtain ⟨i, hi, rfl⟩ := mem_at.1 h1
        exact hn i (by omega) hn'
/-- One is taken out. -/
def Tk (B : Nat) (w : World) (F : Nat → Prop) (tb mb g c N k : Nat) (f : Int → Option Nat) (X : Xs) (x : En) (e : Ending) (w' : World) : Prop :=
  e = .returned (.int .i64 x.name) ∧ (∃ E1, Sx B w' F tb mb (some ⟨g, 0, none⟩) k c N E1 (upf f x.name none) (stopX X x.name)) ∧ Keep (fun i => F i ∨ i = mb) w w'
set_option maxHeartbeats 2000000 in
set_option maxRecDepth 100000 in
theorem take_any (h : Sx B w F tb mb (some ⟨g, 0, none⟩) (k + 1) c N E f X) (hi : i ≤ k) :
    Calls Try.prog 22 #[.pointer (some ⟨tb, 0, none⟩), .int .i64 (i : Nat)] w (Tk B w F tb mb g c N k f X (at_ E i)) := by
  have hr := Lib.hid (rem_any h.hp hi h.ord)
  have hTA := assert_pe
  have hx := (h.hp.en _ (at_mem (E := E) (k := i) (by rw [h.hp.len]; omega))).2.2.1
  have HX := Lib.hid hx
  have HT := Lib.hid (fun (w2 : World) (E1 : List En) => sx_taken h (w' := w2) (E1 := E1) (k := k) (x := at_ E i) (g := g))
  have HM := Lib.hid (fun (w1 : World) (hk : Keep F w w1) => h.mp.keep hk h.nf)
  have HN := Lib.hid (show k ≤ N from by have := h.nN; omega)
  have HF := Lib.hid h.nf
  clear h hx
  generalize at_ E i = x at *
  go_enter Try.func22, Try.ntmps22
  go_wp2_with fail
  refine hr.out.mono ?_
  rintro e w1 ⟨rfl, E1, a1, a2, a3, a4, p, a5⟩
  have hm := HM.out w1 a4
  have c1 := a1.box.cell (i := 1) rfl
  have x0 := a5.cell (i := 0) rfl
  have hxF := Lib.hid (show x.b ≠ mb from fun e => by
    obtain ⟨D, hD, _⟩ := hm
    obtain ⟨es, cl, hb, _⟩ := hD
    have h5 : w1.heap[x.b]? = some (.cells (ecells x p).toArray 59 (0, 0)) := a5
    rw [e, hb] at h5
    cases h5)
  have HM1 := Lib.hid hm
  have A1 := Lib.hid a1
  have A2 := Lib.hid a2
  have A3 := Lib.hid a3
  have A4 := Lib.hid a4
  have A5 := Lib.hid a5
  clear hm a1 a2 a3 a4 a5 hr HM
  unfold pt
  go_wp2_with fail
  go_still_tail 8, (by kernel_rfl)
  change wpList _ _ _ _ _ (World.drew _)
  refine wpList_del _ _ rfl rfl (show Mp w1.drew mb N f from HM1.out) HX.out rfl rfl ?_
  intro w2 m2 k2
  have M2 := Lib.hid m2
  have K2 := Lib.hid k2
  have x2 := (k2.blk (show Blk w1.drew x.b 59 (ecells x p) from A5.out) hxF.out).cell (i := 0) rfl
  clear m2 k2
  go_wp2
  go_ret
  refine ⟨rfl, ⟨E1, HT.out w2 E1 (A1.out.drew.keep K2.out fun i h1 h2 => HF.out (h1 ▸ h2)) M2.out HN.out A2.out A3.out⟩, ?_⟩
  exact (A4.out.drew.mono fun i _ h => .inl h).trans (K2.out.mono (G := fun i => F i ∨ i = mb) fun i _ h => .inr h) fun _ h => .inl h
theorem G_keep (hG : ∀ i, G i ↔ F i ∨ i = mb) (hk : Keep (fun i => F i ∨ i = mb) w w') : Keep G w w' := hk.mono fun i _ h => (hG i).2 h
set_option maxHeartbeats 2000000 in
set_option maxRecDepth 100000 in
theorem stop_any (h : St B w G tb N X) {k : Int} (hk : hw k) : Calls Try.prog 12 #[.pointer (some ⟨tb, 0, none⟩), .int .i64 k] w (Tu B w G tb N (stopX X k) (.bool (hasX X k))) := by
  have hst := h
  obtain ⟨F, mb, A, n, c, E, f, h1, h2⟩ := h
  have c1 := h1.hp.box.cell (i := 1) rfl
  have HM := Lib.hid h1.mp
  have HK := Lib.hid hk
  by_cases he : ∃ i, i < n ∧ (at_ E i).name = k
  · obtain ⟨i, hi, he⟩ := he
    have hf := h1.yes i hi
    rw [he] at hf
    have hx : hasX X k = true := has_iff.2 ⟨(at_ E i).tick, by rw [← he]; exact h1.mem hi⟩
    rw [hx]
    have ct := h1.hp.place hi
    obtain ⟨g, ys, rfl, _⟩ := h1.hp.some_ (by omega)
    obtain ⟨m, rfl⟩ : ∃ m, n = m + 1 := ⟨n - 1, by omega⟩
    have ht := take_any h1 (i := i) (by omega)
    rw [show (at_ E i) = at_ E i from rfl] at ht
    have HT := Lib.hid ht
    have HG := Lib.hid h2
    have hna := he
    have HNA := Lib.hid hna
    clear h1 h2 he hx ht hst hna
    generalize at_ E i = x at hf ct HT HNA ⊢
    go_enter Try.func12, Try.ntmps12
    go_wp2_with (first
      | (at_lookup; refine wpList_look rfl _ _ rfl HM.out HK.out rfl rfl ?_; rw [hf]; unfold pv)
      | (go_at_call 22; refine HT.out.mono ?_; rintro e w2 ⟨rfl, q1, q2⟩; have Q1 := Lib.hid q1; have Q2 := Lib.hid q2; clear q1 q2))
    go_ret
    refine ⟨rfl, ?_⟩
    obtain ⟨E1, q1⟩ := Q1.out
    rw [HNA.out] at q1
    exact ⟨fun i => F i ∨ i = mb, ⟨F, mb, _, m, c, E1, _, q1, fun _ => Iff.rfl⟩, G_keep HG.out Q2.out, fun i hi => .inl ((HG.out i).2 hi)⟩
  · have hf : f k = none := h1.no k hk fun i hi e => he ⟨i, hi, e⟩
    have hno : ∀ p ∈ X, p.1 ≠ k := fun p hp e => by
      obtain ⟨i, hi, e1, _⟩ := h1.find (k := p.1) (t := p.2) hp
      exact he ⟨i, hi, e1.trans e⟩
    have hx : hasX X k = false := by
      cases hh : hasX X k with
      | false => rfl
      | true =>
        obtain ⟨t, ht⟩ := has_iff.1 hh
        exact absurd rfl (hno _ ht)
    rw [hx, stop_none hno]
    have HST := Lib.hid hst
    clear h1 h2 he hx hno hst
    go_enter Try.func12, Try.ntmps12
    go_wp2_with (at_lookup; refine wpList_look rfl _ _ rfl HM.out HK.out rfl rfl ?_; rw [hf]; unfold pv)
    go_ret
    exact ⟨rfl, G, HST.out, Keep.refl _ _, fun i hi => .inl hi⟩
end
end Go.Proofs.Ytgoogcjkokpicaa.TimJ
