/- The program's channels: Len, Send, Get, Has. Conditions: they lie as the facts say; numbers of 64 bits. -/
import Derived.Test.YtliiinffkcgcaaaPrtC
namespace Go.Proofs.Ytliiinffkcgcaaa.PrtD
open Go.RowKit Go.Proofs.Ytliiinffkcgcaaa.Kit Go.Proofs.Ytliiinffkcgcaaa.Byt Go.Proofs.Ytliiinffkcgcaaa.Mem Go.Proofs.Ytliiinffkcgcaaa.TabI Go.Proofs.Ytliiinffkcgcaaa.PrtM Go.Proofs.Ytliiinffkcgcaaa.PrtA Go.Proofs.Ytliiinffkcgcaaa.PrtB Go.Proofs.Ytliiinffkcgcaaa.PrtC
open Go.Proofs.Ytliiinffkcgcaaa.TabA (Tri Tris)

section
variable {B S n c k : Nat} {w : World} {ρ : Nat → Lab} {A : Option Addr} {Q : Nat → Nat} {C : List Tri} {L : Nat → List Int} {r : Tri}
/-- What a call on a channel leaves. -/
def Lft (B : Nat) (w : World) (ρ : Nat → Lab) (S : Nat) (A : Option Addr) (n c : Nat) (Q : Nat → Nat) (C : List Tri) (L : Nat → List Int) (v : Value) (e : Ending) (w' : World) : Prop :=
  e = .returned v ∧ ∃ ρ', Chs B w' ρ' S A n c Q C L ∧ Stp Prog w ρ w' ρ'
theorem stp_mine (h : Bd B w ρ) {w' : World} (hk : Keep (fun i => Mine k (ρ i)) w w') : Stp (Mine k) w ρ w' ρ := ⟨hk, fun _ _ => rfl, fun i hi => .inl (Classical.byContradiction fun hn => by have := (h i hn).2; omega)⟩
theorem Lft.same (h : Chs B w ρ S A n c Q C L) (v : Value) {w' : World} (hb : Below w.heap.size w w') : Lft B w ρ S A n c Q C L v (.returned v) w' := ⟨rfl, ρ, h.below hb, Stp.of_below h.bd hb⟩
theorem Lft.below {v : Value} {e : Ending} {w' : World} (h : Chs B w ρ S A n c Q C L) (H : Lft B w ρ S A n c Q C L v e w') : Below B w w' := by
  obtain ⟨_, ρ', _, hs⟩ := H
  exact hs.below h.bd (fun h => h) h.base
theorem cont_send (h : Chs B w ρ S A n c Q C L) (hr : C[k]? = some r) (y : Int) :
    Calls Try.prog (if r.c = 0 then 108 else 112) #[.pointer (some ⟨Q k, 0, none⟩), .int .i64 y] w (Lft B w ρ S A n c Q C (up L k (sndL r.c (L k) y)) (.bool (!full r.c (L k)))) := by
  obtain ⟨e1, hc⟩ := h.head k r hr
  have hr4 := (h.ok r (List.mem_of_getElem? hr)).2
  rcases hc with ⟨h0, x, b, h1, h2, h3⟩ | ⟨h0, A1, n1, c1, h1, h2, h3, h4⟩
  · rw [if_pos h0]
    refine (samp_send h1 y).mono ?_
    rintro e w' ⟨rfl, hB, ho⟩
    have hs := stp_mine h.bd (k := k) (Keep.only (F := fun i => Mine k (ρ i)) ho (.inl e1))
    refine ⟨by rw [h0]; rfl, ρ, h.turn hr hs (.inl ⟨h0, y, true, hB, fun _ => by unfold sndL; rw [if_pos h0], fun h => by cases h⟩), hs.mono fun _ h => h.prog⟩
  · rw [if_neg h0]
    have hln := own_len h2
    have hq : ∀ g, (Value.slice A1 n1 c1).ownBlock = some g → g ≠ Q k := fun g hg e => by
      have h5 := h4 g hg
      rw [e, e1] at h5
      cases h5
    by_cases hd : (n1 : Int) = r.c
    · have hf : full r.c (L k) = true := by unfold full; rw [hln]; simp [h0, hd]
      rw [← hd] at h1
      refine (queue_send_full h1 y).mono ?_
      rintro e w' ⟨rfl, hb⟩
      have hu : up L k (sndL r.c (L k) y) = L := by rw [sndL, if_neg h0, if_pos hf, up_self]
      rw [hu, hf]
      exact Lft.same h _ hb
    · have hf : full r.c (L k) = false := by unfold full; rw [hln]; simp [hd]
      refine (queue_send_yes h1 h2 hq hd (by omega) h.base y).mono ?_
      rintro e w' ⟨rfl, A2, n2, c2, hB, hO, hk, hg⟩
      have hl2 := own_len hO
      have hmine : ∀ g, (Value.slice A1 n1 c1).ownBlock = some g → Mine k (ρ g) := fun g hg => .inr (h4 g hg)
      obtain ⟨ρ', hρ'⟩ : ∃ ρ' : Nat → Lab, ρ' = fun i => if w.heap.size ≤ i ∧ (Value.slice A2 n2 c2).ownBlock = some i then .row k else ρ i := ⟨_, rfl⟩
      have hs : Stp (Mine k) w ρ w' ρ' := ⟨hk.mono fun i _ hi => by
          rcases hi with rfl | hi
          · exact .inl e1
          · exact hmine i hi, fun i hi => by rw [hρ']; exact if_neg (by omega), fun i hi => by
          rw [hρ']
          by_cases hx : w.heap.size ≤ i ∧ (Value.slice A2 n2 c2).ownBlock = some i
          · refine .inr ?_
            simp only [if_pos hx]
            exact ⟨.inr rfl, (hO.lt i hx.2).2⟩
          · refine .inl ?_
            simp only [if_neg hx]
            exact Classical.byContradiction fun hn => by have := (h.bd i hn).2; omega⟩
      refine ⟨by rw [hf]; rfl, ρ', h.turn hr hs (.inr ⟨h0, A2, n2, c2, hB, ?_, ?_, fun g hg2 => ?_⟩), hs.mono fun _ h => h.prog⟩
      · rw [sndL, if_neg h0, if_neg (by rw [hf]; simp)]
        exact hO
      · rw [List.length_append, List.length_singleton] at hl2
        omega
      · rw [hρ']
        rcases hg g hg2 with h5 | h5
        · show (if _ then _ else _) = _
          split
          · rfl
          · exact h4 g h5
        · exact if_pos ⟨h5.1, hg2⟩
theorem cont_get (h : Chs B w ρ S A n c Q C L) (hr : C[k]? = some r) :
    Calls Try.prog (if r.c = 0 then 106 else 110) #[.pointer (some ⟨Q k, 0, none⟩)] w (Lft B w ρ S A n c Q C (up L k (getL r.c (L k))) (.tuple #[.int .i64 (getN (L k)), .bool (getB (L k))])) := by
  obtain ⟨e1, hc⟩ := h.head k r hr
  rcases hc with ⟨h0, x, b, h1, h2, h3⟩ | ⟨h0, A1, n1, c1, h1, h2, h3, h4⟩
  · rw [if_pos h0]
    refine (samp_get h1).mono ?_
    rintro e w' ⟨rfl, hb⟩
    have hu : up L k (getL r.c (L k)) = L := by rw [getL, if_pos h0, up_self]
    have hv : Value.tuple #[.int .i64 x, .bool b] = .tuple #[.int .i64 (getN (L k)), .bool (getB (L k))] := by
      cases b with
      | true => rw [h2 rfl]; rfl
      | false => rw [(h3 rfl).1, (h3 rfl).2]; rfl
    rw [hu, hv]
    exact Lft.same h _ hb
  · rw [if_neg h0]
    have hln := own_len h2
    have hq : ∀ g, (Value.slice A1 n1 c1).ownBlock = some g → g ≠ Q k := fun g hg e => by
      have h5 := h4 g hg
      rw [e, e1] at h5
      cases h5
    cases hL : L k with
    | nil =>
      obtain rfl : n1 = 0 := by rw [← hln, hL]; rfl
      refine (queue_get_no h1).mono ?_
      rintro e w' ⟨rfl, hb⟩
      have hu : up L k (getL r.c []) = L := by rw [getL, if_neg h0]; show up L k [] = L; rw [← hL, up_self]
      rw [hu]
      exact Lft.same h _ hb
    | cons x l =>
      rw [hL] at h2
      obtain ⟨g, cur, hA1, _⟩ := own_int h2 (by rw [← hln, hL]; simp)
      subst hA1
      refine (queue_get_yes h1 h2 (hq g rfl)).mono ?_
      rintro e w' ⟨rfl, m, hB, hO, hk⟩
      have hs := stp_mine h.bd (k := k) (hk.mono (G := fun i => Mine k (ρ i)) fun i _ hi => by
        rcases hi with rfl | rfl
        · exact .inl e1
        · exact .inr (h4 _ rfl))
      have hl2 := own_len hO
      have hl3 := own_len h2
      refine ⟨rfl, ρ, h.turn hr hs (.inr ⟨h0, _, m, _, hB, ?_, ?_, fun g' hg' => h4 g' hg'⟩), hs.mono fun _ h => h.prog⟩
      · rw [getL, if_neg h0]; exact hO
      · simp at hl3; omega
theorem cont_has (h : Chs B w ρ S A n c Q C L) (hr : C[k]? = some r) :
    Calls Try.prog (if r.c = 0 then 107 else 111) #[.pointer (some ⟨Q k, 0, none⟩)] w (News w (L k)) := by
  obtain ⟨e1, hc⟩ := h.head k r hr
  have hr4 := (h.ok r (List.mem_of_getElem? hr)).2
  rcases hc with ⟨h0, x, b, h1, h2, h3⟩ | ⟨h0, A1, n1, c1, h1, h2, h3, h4⟩
  · rw [if_pos h0]
    have hL : L k = if b = true then [x] else [] := by
      cases b with
      | true => rw [h2 rfl]; rfl
      | false => rw [(h3 rfl).1]; rfl
    rw [hL]
    exact samp_has h1
  · rw [if_neg h0]
    exact queue_has h1 h2 (by omega)
end
end Go.Proofs.Ytliiinffkcgcaaa.PrtD
