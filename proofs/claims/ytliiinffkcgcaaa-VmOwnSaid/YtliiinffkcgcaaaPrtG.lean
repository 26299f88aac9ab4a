/- Channels made of a table, by the program. Conditions: the table lies as the facts say. -/
import Derived.Test.YtliiinffkcgcaaaPrtF
namespace Go.Proofs.Ytliiinffkcgcaaa.PrtG
open Go.RowKit Go.Proofs.Ytliiinffkcgcaaa.Kit Go.Proofs.Ytliiinffkcgcaaa.Byt Go.Proofs.Ytliiinffkcgcaaa.Mem Go.Proofs.Ytliiinffkcgcaaa.TabI Go.Proofs.Ytliiinffkcgcaaa.PrtM Go.Proofs.Ytliiinffkcgcaaa.PrtA Go.Proofs.Ytliiinffkcgcaaa.PrtB Go.Proofs.Ytliiinffkcgcaaa.PrtC Go.Proofs.Ytliiinffkcgcaaa.PrtD Go.Proofs.Ytliiinffkcgcaaa.PrtE Go.Proofs.Ytliiinffkcgcaaa.PrtF
open Go.Proofs.Ytliiinffkcgcaaa.TabA (Tri Tris Ta)
open Go.Proofs.Ytliiinffkcgcaaa.TabB (Bx Yes)
open Go.Proofs.Ytliiinffkcgcaaa.TabD (right right_any bool_of)

def ecells (d : Int) : List Value := if d = 0 then [.int .i64 0, .bool false] else [.int .i64 d, .slice none 0 0]
def etype (d : Int) : TypeId := if d = 0 then 122 else 125
set_option maxRecDepth 100000 in
theorem empty_any (d : Int) (w : World) : Calls Try.prog 31 #[.int .i64 d] w fun e w' => e = .returned (.iface (kind d) (.pointer (some ⟨w.heap.size, 0, none⟩))) ∧ w.alloc (.cells (ecells d).toArray (etype d)) = w' := by
  by_cases hd : d = 0
  · subst hd
    go_enter Try.func31, Try.ntmps31
    go_wp2
    go_ret
    exact ⟨rfl, rfl⟩
  · rw [kind, ecells, etype, if_neg hd, if_neg hd, if_neg hd]
    have hb : (d == 0) = false := by simpa using hd
    go_enter Try.func31, Try.ntmps31
    go_wp2
    go_ret
    exact ⟨rfl, rfl⟩
theorem cont_empty {B k q : Nat} {w : World} {ρ : Nat → Lab} {d : Int} (h : Blk w q (etype d) (ecells d)) (h4 : 0 ≤ d) : Cont B w ρ k q d [] := by
  by_cases hd : d = 0
  · rw [etype, ecells, if_pos hd, if_pos hd] at h
    exact .inl ⟨hd, 0, false, h, fun h => (by cases h), fun _ => ⟨rfl, rfl⟩⟩
  · rw [etype, ecells, if_neg hd, if_neg hd] at h
    exact .inr ⟨hd, none, 0, 0, h, World.ownsRow_nil _ _ _ _, by omega, fun g hg => by cases hg⟩

def none_ : Nat → List Int := fun _ => []
section
variable {B S k c n' c' : Nat} {W wb w3 : World} {ρ : Nat → Lab} {A A' : Option Addr} {Q : Nat → Nat} {C : List Tri} {r : Tri}
/-- One channel more. -/
theorem Chs.more (h : Chs B W ρ S A k c Q (C.take k) none_) (hr : C[k]? = some r) (hok : r.ok ∧ 0 ≤ r.c ∧ r.c ≤ 4) (hk : k < 4)
    (hb : Below (W.heap.size + 1) (W.alloc (.cells (ecells r.c).toArray (etype r.c))) wb) (hsb : W.heap.size + 1 ≤ wb.heap.size)
    (hown : w3.ownsRow B 100 3 (.slice A' n' c') n' (lcells Q 0 (C.take k) ++ ccells r W.heap.size)) (hg : wb.grownBy w3 (Value.slice A k c).ownBlock)
    (hat : (Value.slice A' n' c').ownBlock = (Value.slice A k c).ownBlock ∨ (Value.slice A' n' c').ownBlock = some wb.heap.size) (hn : n' = k + 1) :
    ∃ ρ' Q', Chs B (w3.setCell ⟨S, 0, none⟩ (.slice A' n' c')) ρ' S A' n' c' Q' (C.take (k + 1)) none_ ∧ Below B W (w3.setCell ⟨S, 0, none⟩ (.slice A' n' c')) := by
  have hs3 := hg.size
  have hCk : (C.take (k + 1)) = C.take k ++ [r] := by
    obtain ⟨hl, he⟩ := List.getElem?_eq_some_iff.1 hr
    rw [List.take_succ_eq_append_getElem hl, he]
  have hlen : (C.take k).length = k := h.len
  have hSl := h.set.lt
  have hSo : (Value.slice A k c).ownBlock ≠ some S := fun e => by
    have := h.llist S e
    rw [h.lset] at this
    cases this
  have hold : ∀ g, (Value.slice A k c).ownBlock = some g → g < W.heap.size := fun g hg => (h.list.lt g hg).2
  obtain ⟨ρ', hρ'⟩ : ∃ ρ' : Nat → Lab, ρ' = fun i => if i = W.heap.size then .head k else if W.heap.size < i ∧ (Value.slice A' n' c').ownBlock = some i then .list else ρ i := ⟨_, rfl⟩
  have hlt : ∀ i, i < W.heap.size → ρ' i = ρ i := fun i hi => by rw [hρ']; simp only [if_neg (show ¬ i = W.heap.size by omega), if_neg (show ¬ (W.heap.size < i ∧ (Value.slice A' n' c').ownBlock = some i) by omega)]
  have hout : ∀ i, W.heap.size ≤ i → ρ i = .out := fun i hi => Classical.byContradiction fun hn => by have := (h.bd i hn).2; omega
  have hK1 : Keep (fun i => (Value.slice A k c).ownBlock = some i) W w3 :=
    ((Keep.of_below (w := W) (w' := wb) (F := fun i => (Value.slice A k c).ownBlock = some i) (((Below.refl W.heap.size W).alloc (Nat.le_refl _) (.cells (ecells r.c).toArray (etype r.c))).trans (hb.mono (by omega)))).trans (Keep.grown (F := fun i => (Value.slice A k c).ownBlock = some i) hg fun _ h => h) fun _ h => .inl h)
  have hK2 : Keep (fun i => i = S ∨ (Value.slice A k c).ownBlock = some i) W (w3.setCell ⟨S, 0, none⟩ (.slice A' n' c')) :=
    (hK1.mono fun _ _ h => .inr h).trans (Keep.set (F := fun i => i = S) w3 0 (.slice A' n' c') rfl) fun i hi => .inl (.inl hi)
  have hs4 : (w3.setCell ⟨S, 0, none⟩ (.slice A' n' c')).heap.size = w3.heap.size := by simp [World.setCell]
  have hown4 : (w3.setCell ⟨S, 0, none⟩ (.slice A' n' c')).ownsRow B 100 3 (.slice A' n' c') n' (lcells Q 0 (C.take k) ++ ccells r W.heap.size) :=
    (Keep.set (F := fun i => i = S) w3 0 (.slice A' n' c') rfl).own hown fun g hg2 e => by
      subst e
      rcases hat with e2 | e2
      · exact hSo (e2 ▸ hg2)
      · rw [e2] at hg2; injection hg2 with hg2; omega
  have hS : Stp (fun l => l = .set ∨ l = .list ∨ l = .head k) W ρ (w3.setCell ⟨S, 0, none⟩ (.slice A' n' c')) ρ' := ⟨hK2.mono fun i _ hi => by
      rcases hi with rfl | hi
      · exact .inl h.lset
      · exact .inr (.inl (h.llist i hi)), hlt, fun i hi => by
      by_cases h1 : i = W.heap.size
      · refine .inr ⟨.inr (.inr (by rw [hρ']; exact if_pos h1)), by rw [hs4]; omega⟩
      · by_cases h2 : W.heap.size < i ∧ (Value.slice A' n' c').ownBlock = some i
        · refine .inr ⟨.inr (.inl (by rw [hρ']; simp only [if_neg h1, if_pos h2])), (hown4.lt i h2.2).2⟩
        · exact .inl (by rw [hρ']; simp only [if_neg h1, if_neg h2]; exact hout i hi)⟩
  have hblk : Blk (w3.setCell ⟨S, 0, none⟩ (.slice A' n' c')) W.heap.size (etype r.c) (ecells r.c) := by
    have h1 : Blk wb W.heap.size (etype r.c) (ecells r.c) := (hb.block W.heap.size (by omega)).trans (Blk.new W _ _)
    have h2 : Blk w3 W.heap.size (etype r.c) (ecells r.c) := (hg.block _ (by omega) fun e => by have := hold _ e.symm; omega).trans h1
    exact (Keep.set (F := fun i => i = S) w3 0 (.slice A' n' c') rfl).blk h2 (by omega)
  have hbd := h.bd.step h.base hS
  refine ⟨ρ', fun j => if j = k then W.heap.size else Q j, ⟨hbd, Nat.le_trans h.base hS.keep.size, ?_, by rw [hlt S hSl]; exact h.lset, ?_, ?_, by rw [hCk]; simp [hlen, hn], by omega, ?_, ?_⟩, hS.below h.bd (by rintro (e | e | e) <;> cases e) h.base⟩
  · have h3 : Blk w3 S 95 [.slice A k c] := hK1.blk h.set fun e => hSo e
    exact h3.set 0 _
  · rw [hCk, lcells_snoc, lcells_congr (Q := Q) 0 (C.take k) (fun j _ hj => if_neg (by omega))]
    simp only [Nat.zero_add, hlen, if_pos]
    exact hown4
  · intro g hg2
    rcases hat with e2 | e2
    · rw [e2] at hg2
      rw [hlt g (hold g hg2)]
      exact h.llist g hg2
    · have hg3 := hg2
      rw [e2] at hg2
      injection hg2 with hg2
      rw [hρ']
      simp only [if_neg (show ¬ g = W.heap.size by omega), if_pos (show W.heap.size < g ∧ (Value.slice A' n' c').ownBlock = some g from ⟨by omega, hg3⟩)]
  · intro r' hr'
    rw [hCk, List.mem_append, List.mem_singleton] at hr'
    rcases hr' with hr' | rfl
    · exact h.ok r' hr'
    · exact hok
  · intro j r' hr'
    by_cases hj : j = k
    · subst hj
      have hr2 : r' = r := by
        rw [hCk, List.getElem?_append_right (by omega), hlen, Nat.sub_self] at hr'
        simpa using hr'.symm
      subst hr2
      simp only [if_pos]
      exact ⟨by rw [hρ']; simp, cont_empty hblk hok.2.1⟩
    · have hjk : j < k := by
        have := (List.getElem?_eq_some_iff.1 hr').1
        rw [hCk, List.length_append, hlen, List.length_singleton] at this
        omega
      rw [hCk, List.getElem?_append_left (by omega)] at hr'
      obtain ⟨e1, e2⟩ := h.head j r' hr'
      have hq : Q j < W.heap.size := (h.bd (Q j) (by rw [e1]; intro e; cases e)).2
      simp only [if_neg hj]
      refine ⟨by rw [hlt _ hq]; exact e1, e2.carry hS ?_ ?_⟩
      · rw [e1]
        rintro (e | e | e)
        · cases e
        · cases e
        · injection e with e; exact hj e
      · rintro (e | e | e) <;> cases e
end
end Go.Proofs.Ytliiinffkcgcaaa.PrtG
