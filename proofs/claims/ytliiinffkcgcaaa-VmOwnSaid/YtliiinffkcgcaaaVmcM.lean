/- A machine in plain terms: its state as the document has it (Z), as the program has it (V); what an instruction does, and a tick. No conditions but those each law names. -/
import Derived.Test.YtliiinffkcgcaaaImgA
import Derived.Test.YtliiinffkcgcaaaOpsM
import Derived.Test.YtliiinffkcgcaaaBitM
namespace Go.Proofs.Ytliiinffkcgcaaa.VmcM
open Go.RowKit Go.Proofs.Ytliiinffkcgcaaa.Kit Go.Proofs.Ytliiinffkcgcaaa.Byt Go.Proofs.Ytliiinffkcgcaaa.OpsM
open Go.Proofs.Ytliiinffkcgcaaa.ImgA (Im)
open Go.Proofs.Ytliiinffkcgcaaa.BitM (hb)

/-- A machine's state, as the document tells it. -/
structure Z where
  pc : Int
  st : List Int
  mem : List Int
  tk : Int
  ft : Int
/-- The same, as the program has it: a stack of eight places, of which so many count, sixteen words. -/
structure V where
  pc : Int
  s : List Int
  h : Nat
  m : List Int
  tk : Int
  ft : Int
def num (x : Int) : Prop := 0 ≤ x ∧ x ≤ 65535
structure V.ok (v : V) : Prop where
  ls : v.s.length = 8
  lm : v.m.length = 16
  h8 : v.h ≤ 8
  ns : ∀ x ∈ v.s, num x
  nm : ∀ x ∈ v.m, num x
def V.z (v : V) (k : Nat) : Z := ⟨v.pc, v.s.take v.h, v.m.take k, v.tk, v.ft⟩

/-! ### what the program's deeds do -/
def need (b : Bool) (e : Int) (v : V) : V := if b = false ∧ v.ft = 0 then { v with ft := e } else v
def takeN (v : V) : Int := if v.h = 0 then 0 else v.s.getD (v.h - 1) 0
def takeV (v : V) : V := if v.h = 0 then need false 5 v else { v with h := v.h - 1 }
def lay (n : Int) (v : V) : V := if v.h < 8 then { v with s := v.s.set v.h (n % 65536), h := v.h + 1 } else need false 14 v
def tru (b : Bool) : Int := if b then 1 else 0
def two (f : Int → Int → Int) (v : V) : V := lay (f (takeN (takeV v)) (takeN v)) (takeV (takeV v))
def sum (o : Int) (a b : Int) : Int := if o = 5 then a + b else if o = 6 then a - b else if o = 7 then a * b else if o = 8 then tru (decide (a < b)) else tru (decide (a = b))
def swp (v : V) : V := lay (takeN (takeV v)) (lay (takeN v) (takeV (takeV v)))
def dupl (v : V) : V := lay (takeN v) (lay (takeN v) (takeV v))
def stor (i : Im) (a : Int) (v : V) : V := if a < i.m then { takeV v with m := (takeV v).m.set a.toNat (takeN v) } else need false 3 v
def loa (i : Im) (a : Int) (v : V) : V := if a < i.m then lay (v.m.getD a.toNat 0) v else need false 3 v
def jmp (i : Im) (a : Int) (v : V) : V := { need (decide (a < (i.n : Int))) 3 v with pc := a }
def zer (i : Im) (a : Int) (v : V) : V :=
  let u := need (decide (a < (i.n : Int))) 3 v
  if takeN u = 0 then { takeV u with pc := a } else takeV u
/-- All deeds but those with a channel. -/
def deed (i : Im) (o a : Int) (v : V) : V :=
  if o = 1 then lay a v else if o = 2 then takeV v else if o = 3 then dupl v else if o = 4 then swp v
  else if 5 ≤ o ∧ o ≤ 9 then two (sum o) v else if o = 10 then loa i a v else if o = 11 then stor i a v
  else if o = 12 then jmp i a v else if o = 13 then zer i a v else if o = 17 then need false 16 v
  else if o = 18 then lay v.tk v else v

/-! ### the document -/
def takes (o : Int) : Nat := if o = 2 ∨ o = 3 ∨ o = 11 ∨ o = 13 ∨ o = 14 then 1 else if o = 4 ∨ 5 ≤ o ∧ o ≤ 9 then 2 else 0
def lays (o : Int) : Nat := if o = 1 ∨ o = 10 ∨ o = 18 ∨ 5 ≤ o ∧ o ≤ 9 then 1 else if o = 3 ∨ o = 4 ∨ o = 15 then 2 else 0
def flt (i : Im) (h : Nat) (o a : Int) : Int :=
  if o = 17 then 16
  else if (o = 10 ∨ o = 11) ∧ i.m ≤ a ∨ (o = 12 ∨ o = 13) ∧ (i.n : Int) ≤ a then 3
  else if o = 14 ∧ hb i.s a = false ∨ o = 15 ∧ hb i.r a = false then 15
  else if h < takes o then 5 else if 8 + takes o < h + lays o then 14 else 0
def top (l : List Int) : Int := l.getLastD 0
def push (x : Int) (l : List Int) : List Int := l ++ [x % 65536]
/-- The stack and the memory behind an instruction that goes well (none with a channel). -/
def stk (o a : Int) (z : Z) : List Int :=
  if o = 1 then push a z.st else if o = 2 then z.st.dropLast else if o = 3 then push (top z.st) (push (top z.st) z.st.dropLast)
  else if o = 4 then push (top z.st.dropLast) (push (top z.st) z.st.dropLast.dropLast)
  else if 5 ≤ o ∧ o ≤ 9 then push (sum o (top z.st.dropLast) (top z.st)) z.st.dropLast.dropLast
  else if o = 10 then push (z.mem.getD a.toNat 0) z.st
  else if o = 11 ∨ o = 13 then z.st.dropLast else if o = 18 then push z.tk z.st else z.st
def mry (o a : Int) (z : Z) : List Int := if o = 11 then z.mem.set a.toNat (top z.st) else z.mem
def pcs (o a nx : Int) (z : Z) : Int := if o = 12 ∨ o = 13 ∧ top z.st = 0 then a else nx
def eff (o a nx : Int) (z : Z) : Z := ⟨pcs o a nx z, stk o a z, mry o a z, z.tk, z.ft⟩

/-! ### they are one -/
theorem need_true (e : Int) (v : V) : need true e v = v := if_neg (by simp)
theorem need_ft {b : Bool} {e : Int} {v : V} (h : v.ft ≠ 0) : need b e v = v := if_neg (fun hh => h hh.2)
theorem need_no {e : Int} {v : V} (h : v.ft = 0) : need false e v = { v with ft := e } := if_pos ⟨rfl, h⟩
theorem need_h (b : Bool) (e : Int) (v : V) : (need b e v).h = v.h ∧ (need b e v).s = v.s ∧ (need b e v).m = v.m ∧ (need b e v).pc = v.pc ∧ (need b e v).tk = v.tk := by unfold need; split <;> exact ⟨rfl, rfl, rfl, rfl, rfl⟩
theorem need_keep {b : Bool} {e : Int} {v : V} (h : v.ft ≠ 0) : (need b e v).ft = v.ft := by rw [need_ft h]
theorem take_keep {v : V} (h : v.ft ≠ 0) : (takeV v).ft = v.ft := by unfold takeV; split; exact need_keep h; rfl
theorem lay_keep {n : Int} {v : V} (h : v.ft ≠ 0) : (lay n v).ft = v.ft := by unfold lay; split; rfl; exact need_keep h
theorem V.ok.need {v : V} (h : v.ok) (b : Bool) (e : Int) : (VmcM.need b e v).ok := by
  obtain ⟨h1, h2, h3, _, _⟩ := need_h b e v
  exact ⟨h2 ▸ h.ls, h3 ▸ h.lm, h1 ▸ h.h8, h2 ▸ h.ns, h3 ▸ h.nm⟩
theorem V.ok.takeV {v : V} (h : v.ok) : (VmcM.takeV v).ok := by
  unfold VmcM.takeV
  split
  · exact h.need _ _
  · exact ⟨h.ls, h.lm, by have := h.h8; show v.h - 1 ≤ 8; omega, h.ns, h.nm⟩
theorem num_mod (n : Int) : num (n % 65536) := ⟨by omega, by omega⟩
theorem V.ok.lay {v : V} (h : v.ok) (n : Int) : (VmcM.lay n v).ok := by
  unfold VmcM.lay
  split
  · rename_i h8
    exact ⟨by show (v.s.set v.h _).length = 8; rw [List.length_set]; exact h.ls, h.lm, by show v.h + 1 ≤ 8; omega, fun x hx => by
      rcases List.mem_or_eq_of_mem_set hx with h1 | h1
      · exact h.ns x h1
      · rw [h1]; exact num_mod n, h.nm⟩
  · exact h.need _ _
theorem V.ok.takeN {v : V} (h : v.ok) : num (VmcM.takeN v) := by
  unfold VmcM.takeN
  split
  · exact ⟨by omega, by omega⟩
  · have h1 : v.h - 1 < v.s.length := by have := h.ls; have := h.h8; omega
    rw [List.getD_eq_getElem?_getD, List.getElem?_eq_getElem h1]
    exact h.ns _ (List.getElem_mem h1)
theorem num_mod_id {n : Int} (h : num n) : n % 65536 = n := by obtain ⟨h1, h2⟩ := h; omega
theorem V.ok.word {v : V} (h : v.ok) (k : Nat) : num (v.m.getD k 0) := by
  rw [List.getD_eq_getElem?_getD]
  by_cases h1 : k < v.m.length
  · rw [List.getElem?_eq_getElem h1]
    exact h.nm _ (List.getElem_mem h1)
  · rw [List.getElem?_eq_none (by omega)]
    exact ⟨by decide, by decide⟩
theorem V.ok.setm {v : V} (h : v.ok) (k : Nat) {x : Int} (hx : num x) : ({ v with m := v.m.set k x } : V).ok :=
  ⟨h.ls, by show (v.m.set k x).length = 16; rw [List.length_set]; exact h.lm, h.h8, h.ns, fun y hy => by
    rcases List.mem_or_eq_of_mem_set hy with h1 | h1
    · exact h.nm y h1
    · rw [h1]; exact hx⟩
theorem V.ok.stk {v : V} (h : v.ok) {x : Int} (hx : num x) : ({ v with s := v.s.set v.h x } : V).ok := ⟨by show (v.s.set v.h x).length = 8; rw [List.length_set]; exact h.ls, h.lm, h.h8, fun y hy => by
    rcases List.mem_or_eq_of_mem_set hy with h1 | h1
    · exact h.ns y h1
    · rw [h1]; exact hx, h.nm⟩
theorem V.ok.pc {v : V} (h : v.ok) (p : Int) : ({ v with pc := p } : V).ok := ⟨h.ls, h.lm, h.h8, h.ns, h.nm⟩
theorem V.ok.ft {v : V} (h : v.ok) (p : Int) : ({ v with ft := p } : V).ok := ⟨h.ls, h.lm, h.h8, h.ns, h.nm⟩
theorem V.ok.tk {v : V} (h : v.ok) (p : Int) : ({ v with tk := p } : V).ok := ⟨h.ls, h.lm, h.h8, h.ns, h.nm⟩
theorem V.ok.deed {v : V} (h : v.ok) (i : Im) (o a : Int) : (VmcM.deed i o a v).ok := by
  unfold VmcM.deed
  repeat' split
  · exact h.lay _
  · exact h.takeV
  · exact (h.takeV.lay _).lay _
  · exact (h.takeV.takeV.lay _).lay _
  · exact h.takeV.takeV.lay _
  · unfold loa; split
    · exact h.lay _
    · exact h.need _ _
  · unfold stor; split
    · exact h.takeV.setm _ h.takeN
    · exact h.need _ _
  · exact (h.need _ _).pc _
  · unfold zer
    dsimp only
    split
    · exact ((h.need _ _).takeV).pc _
    · exact (h.need _ _).takeV
  · exact h.need _ _
  · exact h.lay _
  · exact h

theorem take_set {s : List Int} {h : Nat} {x : Int} (hl : h < s.length) : (s.set h x).take (h + 1) = s.take h ++ [x] := by
  rw [List.take_succ_eq_append_getElem (by rw [List.length_set]; exact hl), List.getElem_set_self, List.take_set_of_le (Nat.le_refl _)]
theorem take_drop {s : List Int} {h : Nat} (hl : h ≤ s.length) : s.take (h - 1) = (s.take h).dropLast := by
  rw [List.dropLast_eq_take, List.take_take, List.length_take]
  congr 1
  omega
theorem top_take {s : List Int} {h : Nat} (h0 : h ≠ 0) (hl : h ≤ s.length) : s.getD (h - 1) 0 = top (s.take h) := by
  unfold top
  rw [List.getLastD_eq_getLast?, List.getLast?_take, if_neg h0, List.getD_eq_getElem?_getD, List.getElem?_eq_getElem (by omega)]
  rfl

section
variable {v : V} {k : Nat} {n : Int}
theorem lay_z (h : v.ok) (h8 : v.h < 8) : (lay n v).z k = ⟨v.pc, push n (v.z k).st, (v.z k).mem, v.tk, v.ft⟩ := by
  unfold lay
  rw [if_pos h8]
  show Z.mk _ ((v.s.set v.h (n % 65536)).take (v.h + 1)) _ _ _ = _
  rw [take_set (by rw [h.ls]; exact h8)]
  rfl
theorem lay_no (h8 : v.h = 8) (h0 : v.ft = 0) : (lay n v).ft = 14 := by
  unfold lay
  rw [if_neg (by omega), need_no h0]
theorem take_z (h : v.ok) (h0 : v.h ≠ 0) : (takeV v).z k = ⟨v.pc, (v.z k).st.dropLast, (v.z k).mem, v.tk, v.ft⟩ := by
  unfold takeV
  rw [if_neg h0]
  show Z.mk _ (v.s.take (v.h - 1)) _ _ _ = _
  rw [take_drop (by rw [h.ls]; exact h.h8)]
  rfl
theorem take_top (h : v.ok) (h0 : v.h ≠ 0) : takeN v = top (v.z k).st := by
  unfold takeN
  rw [if_neg h0]
  exact top_take h0 (by rw [h.ls]; exact h.h8)
theorem take_h (h0 : v.h ≠ 0) : (takeV v).h = v.h - 1 ∧ (takeV v).ft = v.ft ∧ (takeV v).pc = v.pc ∧ (takeV v).tk = v.tk ∧ (takeV v).m = v.m := by
  unfold takeV
  rw [if_neg h0]
  exact ⟨rfl, rfl, rfl, rfl, rfl⟩
theorem take_no (h0 : v.h = 0) (hf : v.ft = 0) : (takeV v).ft = 5 := by
  unfold takeV
  rw [if_pos h0, need_no hf]
theorem lay_h (h8 : v.h < 8) : (lay n v).h = v.h + 1 ∧ (lay n v).ft = v.ft ∧ (lay n v).pc = v.pc ∧ (lay n v).tk = v.tk ∧ (lay n v).m = v.m := by
  unfold lay
  rw [if_pos h8]
  exact ⟨rfl, rfl, rfl, rfl, rfl⟩
/-- Two that are taken, one that is laid. -/
theorem two_z (f : Int → Int → Int) (h : v.ok) (h2 : 2 ≤ v.h) : (two f v).z k = ⟨v.pc, push (f (top (v.z k).st.dropLast) (top (v.z k).st)) (v.z k).st.dropLast.dropLast, (v.z k).mem, v.tk, v.ft⟩ := by
  obtain ⟨a1, a2, a3, a4, a5⟩ := take_h (v := v) (by omega)
  obtain ⟨b1, b2, b3, b4, b5⟩ := take_h (v := takeV v) (by omega)
  have e1 := take_z (k := k) h (by omega)
  have e2 := take_z (k := k) h.takeV (by omega)
  have t1 := take_top (k := k) h (by omega)
  have t2 := take_top (k := k) h.takeV (by omega)
  have h8 := h.h8
  unfold two
  rw [lay_z h.takeV.takeV (by omega), t1, t2, e2, e1, b3, a3, b4, a4, b2, a2]
theorem two_no (f : Int → Int → Int) (h2 : v.h < 2) (hf : v.ft = 0) : (two f v).ft = 5 := by
  unfold two
  by_cases h0 : v.h = 0
  · have e := take_no h0 hf
    rw [lay_keep (by rw [take_keep (by rw [e]; decide), e]; decide), take_keep (by rw [e]; decide), e]
  · obtain ⟨a1, a2, _⟩ := take_h h0
    have e := take_no (v := takeV v) (by omega) (by rw [a2, hf])
    rw [lay_keep (by rw [e]; decide), e]
theorem swp_z (h : v.ok) (h2 : 2 ≤ v.h) : (swp v).z k = ⟨v.pc, push (top (v.z k).st.dropLast) (push (top (v.z k).st) (v.z k).st.dropLast.dropLast), (v.z k).mem, v.tk, v.ft⟩ := by
  obtain ⟨a1, a2, a3, a4, a5⟩ := take_h (v := v) (by omega)
  obtain ⟨b1, b2, b3, b4, b5⟩ := take_h (v := takeV v) (by omega)
  have h8 := h.h8
  obtain ⟨c1, c2, c3, c4, c5⟩ := lay_h (v := takeV (takeV v)) (n := takeN v) (by omega)
  have e1 := take_z (k := k) h (by omega)
  have e2 := take_z (k := k) h.takeV (by omega)
  have t1 := take_top (k := k) h (by omega)
  have t2 := take_top (k := k) h.takeV (by omega)
  unfold swp
  rw [lay_z (h.takeV.takeV.lay _) (by omega), lay_z h.takeV.takeV (by omega), c2, c3, c4, t1, t2, e2, e1, b3, a3, b4, a4, b2, a2]
theorem swp_no (h2 : v.h < 2) (hf : v.ft = 0) : (swp v).ft = 5 := by
  unfold swp
  have key : (takeV (takeV v)).ft = 5 := by
    by_cases h0 : v.h = 0
    · have e := take_no h0 hf
      rw [take_keep (by rw [e]; decide), e]
    · obtain ⟨a1, a2, _⟩ := take_h h0
      exact take_no (v := takeV v) (by omega) (by rw [a2, hf])
  have k2 : (lay (takeN v) (takeV (takeV v))).ft = 5 := by rw [lay_keep (by rw [key]; decide), key]
  rw [lay_keep (by rw [k2]; decide), k2]
theorem dup_z (h : v.ok) (h1 : v.h ≠ 0) (h7 : v.h ≠ 8) : (dupl v).z k = ⟨v.pc, push (top (v.z k).st) (push (top (v.z k).st) (v.z k).st.dropLast), (v.z k).mem, v.tk, v.ft⟩ := by
  obtain ⟨a1, a2, a3, a4, a5⟩ := take_h (v := v) h1
  have h8 := h.h8
  obtain ⟨c1, c2, c3, c4, c5⟩ := lay_h (v := takeV v) (n := takeN v) (by omega)
  have e1 := take_z (k := k) h h1
  have t1 := take_top (k := k) h h1
  unfold dupl
  rw [lay_z (h.takeV.lay _) (by omega), lay_z h.takeV (by omega), c2, c3, c4, t1, e1, a3, a4, a2]
theorem dup_no (h1 : v.h = 0) (hf : v.ft = 0) : (dupl v).ft = 5 := by
  have e := take_no h1 hf
  have k2 : (lay (takeN v) (takeV v)).ft = 5 := by rw [lay_keep (by rw [e]; decide), e]
  unfold dupl
  rw [lay_keep (by rw [k2]; decide), k2]
theorem dup_full (h1 : v.h = 8) (hf : v.ft = 0) : (dupl v).ft = 14 := by
  obtain ⟨a1, a2, a3, a4, a5⟩ := take_h (v := v) (by omega)
  obtain ⟨c1, c2, c3, c4, c5⟩ := lay_h (v := takeV v) (n := takeN v) (by omega)
  unfold dupl
  exact lay_no (by omega) (by rw [c2, a2, hf])
end
theorem getD_take {l : List Int} {a k : Nat} (h : a < k) : (l.take k).getD a 0 = l.getD a 0 := by
  rw [List.getD_eq_getElem?_getD, List.getD_eq_getElem?_getD, List.getElem?_take, if_pos h]
theorem set_take (l : List Int) (a k : Nat) (x : Int) : (l.set a x).take k = (l.take k).set a x := by
  rw [List.take_set]
theorem two_case {i : Im} {v : V} {a : Int} (h : v.ok) (hf : v.ft = 0) (o : Int) (ho : 5 ≤ o ∧ o ≤ 9) : (flt i v.h o a ≠ 0 → (deed i o a v).ft = flt i v.h o a) ∧ (flt i v.h o a = 0 → (deed i o a v).z i.m.toNat = eff o a v.pc (v.z i.m.toNat)) := by
  have h8 := h.h8
  have e1 : deed i o a v = two (sum o) v := by
    unfold deed
    rw [if_neg (by omega), if_neg (by omega), if_neg (by omega), if_neg (by omega), if_pos ho]
  have t2 : takes o = 2 := by
    unfold takes
    rw [if_neg (by omega), if_pos (Or.inr ho)]
  have l1 : lays o = 1 := by
    unfold lays
    rw [if_pos (by omega)]
  have ef : flt i v.h o a = if v.h < 2 then 5 else 0 := by
    unfold flt
    rw [if_neg (by omega), if_neg (by omega), if_neg (fun hh => by rcases hh with ⟨h1, _⟩ | ⟨h1, _⟩ <;> omega), t2, l1]
    by_cases h2 : v.h < 2
    · rw [if_pos h2, if_pos h2]
    · rw [if_neg h2, if_neg h2, if_neg (by omega)]
  rw [e1, ef]
  by_cases h2 : v.h < 2
  · rw [if_pos h2]
    exact ⟨fun _ => two_no _ h2 hf, fun h => absurd h (by decide)⟩
  · rw [if_neg h2]
    refine ⟨fun h => absurd rfl h, fun _ => (two_z _ h (by omega)).trans ?_⟩
    unfold eff pcs stk mry
    rw [if_neg (by omega), if_neg (by omega), if_neg (by omega), if_neg (by omega), if_neg (by omega), if_pos ho, if_neg (by omega)]
    rfl
/-- A deed without a channel: it fails as the document says, or does what it says. -/
theorem deed_z {i : Im} {v : V} (h : v.ok) (hf : v.ft = 0) (hm : 0 ≤ i.m) {o a : Int} (ho : 0 ≤ o ∧ o ≤ 18) (h14 : o ≠ 14) (h15 : o ≠ 15) (ha : 0 ≤ a) :
    (flt i v.h o a ≠ 0 → (deed i o a v).ft = flt i v.h o a) ∧ (flt i v.h o a = 0 → (deed i o a v).z i.m.toNat = eff o a v.pc (v.z i.m.toNat)) := by
  have h8 := h.h8
  obtain ⟨o, rfl⟩ : ∃ q : Nat, o = q := ⟨o.toNat, by omega⟩
  have hq : o ≤ 18 := by omega
  have e0 : ∀ n : Nat, n ≤ 18 → n ≠ 14 → n ≠ 15 → ((flt i v.h (n : Int) a ≠ 0 → (deed i (n : Int) a v).ft = flt i v.h (n : Int) a) ∧ (flt i v.h (n : Int) a = 0 → (deed i (n : Int) a v).z i.m.toNat = eff (n : Int) a v.pc (v.z i.m.toNat))) := by
    intro n hn h1 h2
    match n, hn with
    | 0, _ => exact ⟨fun hh => absurd (by simp [flt, takes, lays]; omega) hh, fun _ => by simp [deed, eff, pcs, stk, mry, V.z]⟩
    | 16, _ => exact ⟨fun hh => absurd (by simp [flt, takes, lays]; omega) hh, fun _ => by simp [deed, eff, pcs, stk, mry, V.z]⟩
    | 17, _ => exact ⟨fun _ => by simp [deed, flt, need_no hf], fun hh => by simp [flt] at hh⟩
    | 1, _ =>
      by_cases hh : v.h = 8
      · have e : flt i v.h 1 a = 14 := by simp [flt, takes, lays, hh]
        exact ⟨fun _ => by rw [show ((1 : Nat) : Int) = 1 from rfl, e]; exact lay_no hh hf, fun h => by rw [show ((1 : Nat) : Int) = 1 from rfl, e] at h; exact absurd h (by decide)⟩
      · have e : flt i v.h 1 a = 0 := by simp [flt, takes, lays]; omega
        exact ⟨fun h => absurd e h, fun _ => (lay_z h (by omega)).trans (by simp [eff, pcs, stk, mry, V.z])⟩
    | 18, _ =>
      by_cases hh : v.h = 8
      · have e : flt i v.h 18 a = 14 := by simp [flt, takes, lays, hh]
        exact ⟨fun _ => by rw [show ((18 : Nat) : Int) = 18 from rfl, e]; exact lay_no hh hf, fun h => by rw [show ((18 : Nat) : Int) = 18 from rfl, e] at h; exact absurd h (by decide)⟩
      · have e : flt i v.h 18 a = 0 := by simp [flt, takes, lays]; omega
        exact ⟨fun h => absurd e h, fun _ => (lay_z h (by omega)).trans (by simp [eff, pcs, stk, mry, V.z])⟩
    | 2, _ =>
      by_cases hh : v.h = 0
      · have e : flt i v.h 2 a = 5 := by simp [flt, takes, hh]
        exact ⟨fun _ => by rw [show ((2 : Nat) : Int) = 2 from rfl, e]; exact take_no hh hf, fun h => by rw [show ((2 : Nat) : Int) = 2 from rfl, e] at h; exact absurd h (by decide)⟩
      · have e : flt i v.h 2 a = 0 := by simp [flt, takes, lays]; omega
        exact ⟨fun h => absurd e h, fun _ => (take_z h hh).trans (by simp [eff, pcs, stk, mry, V.z])⟩
    | 3, _ =>
      by_cases hh : v.h = 0
      · have e : flt i v.h 3 a = 5 := by simp [flt, takes, hh]
        exact ⟨fun _ => by rw [show ((3 : Nat) : Int) = 3 from rfl, e]; exact dup_no hh hf, fun h => by rw [show ((3 : Nat) : Int) = 3 from rfl, e] at h; exact absurd h (by decide)⟩
      · by_cases h9 : v.h = 8
        · have e : flt i v.h 3 a = 14 := by simp [flt, takes, lays, h9]
          exact ⟨fun _ => by rw [show ((3 : Nat) : Int) = 3 from rfl, e]; exact dup_full h9 hf, fun h => by rw [show ((3 : Nat) : Int) = 3 from rfl, e] at h; exact absurd h (by decide)⟩
        · have e : flt i v.h 3 a = 0 := by simp [flt, takes, lays]; omega
          exact ⟨fun h => absurd e h, fun _ => (dup_z h hh h9).trans (by simp [eff, pcs, stk, mry, V.z])⟩
    | 4, _ =>
      by_cases hh : v.h < 2
      · have e : flt i v.h 4 a = 5 := by simp [flt, takes, hh]
        exact ⟨fun _ => by rw [show ((4 : Nat) : Int) = 4 from rfl, e]; exact swp_no hh hf, fun h => by rw [show ((4 : Nat) : Int) = 4 from rfl, e] at h; exact absurd h (by decide)⟩
      · have e : flt i v.h 4 a = 0 := by simp [flt, takes, lays]; omega
        exact ⟨fun h => absurd e h, fun _ => (swp_z h (by omega)).trans (by simp [eff, pcs, stk, mry, V.z])⟩
    | 10, _ =>
      by_cases hr : a < i.m
      · by_cases hh : v.h = 8
        · have e : flt i v.h 10 a = 14 := by simp [flt, takes, lays, hh, hr]
          exact ⟨fun _ => by rw [show ((10 : Nat) : Int) = 10 from rfl, e]; show (loa i a v).ft = 14; unfold loa; rw [if_pos hr]; exact lay_no hh hf, fun h => by rw [show ((10 : Nat) : Int) = 10 from rfl, e] at h; exact absurd h (by decide)⟩
        · have e : flt i v.h 10 a = 0 := by simp [flt, takes, lays, hr]; omega
          refine ⟨fun h => absurd e h, fun _ => ?_⟩
          show (loa i a v).z _ = _
          unfold loa
          rw [if_pos hr, lay_z h (by omega), eff]
          show _ = Z.mk _ (push (((v.m.take i.m.toNat)).getD a.toNat 0) _) _ _ _
          rw [getD_take (by omega)]
          simp [pcs, mry, V.z]
      · have e : flt i v.h 10 a = 3 := by simp [flt]; omega
        exact ⟨fun _ => by rw [show ((10 : Nat) : Int) = 10 from rfl, e]; show (loa i a v).ft = 3; unfold loa; rw [if_neg hr, need_no hf], fun h => by rw [show ((10 : Nat) : Int) = 10 from rfl, e] at h; exact absurd h (by decide)⟩
    | 11, _ =>
      by_cases hr : a < i.m
      · by_cases hh : v.h = 0
        · have e : flt i v.h 11 a = 5 := by simp [flt, takes, lays, hh, hr]
          exact ⟨fun _ => by rw [show ((11 : Nat) : Int) = 11 from rfl, e]; show (stor i a v).ft = 5; unfold stor; rw [if_pos hr]; exact take_no hh hf, fun h => by rw [show ((11 : Nat) : Int) = 11 from rfl, e] at h; exact absurd h (by decide)⟩
        · have e : flt i v.h 11 a = 0 := by simp [flt, takes, lays, hr]; omega
          refine ⟨fun h => absurd e h, fun _ => ?_⟩
          show (stor i a v).z _ = _
          unfold stor
          have e1 := take_z (k := i.m.toNat) h hh
          have t1 := take_top (k := i.m.toNat) h hh
          obtain ⟨a1, a2, a3, a4, a5⟩ := take_h (v := v) hh
          rw [if_pos hr, t1]
          show Z.mk _ _ (((takeV v).m.set a.toNat _).take i.m.toNat) _ _ = _
          rw [set_take, a5]
          have e2 := congrArg Z.st e1
          simp only [V.z] at e2 ⊢
          rw [e2]
          simp [eff, pcs, stk, mry, a2, a3, a4]
      · have e : flt i v.h 11 a = 3 := by simp [flt]; omega
        exact ⟨fun _ => by rw [show ((11 : Nat) : Int) = 11 from rfl, e]; show (stor i a v).ft = 3; unfold stor; rw [if_neg hr, need_no hf], fun h => by rw [show ((11 : Nat) : Int) = 11 from rfl, e] at h; exact absurd h (by decide)⟩
    | 12, _ =>
      by_cases hr : a < (i.n : Int)
      · have e : flt i v.h 12 a = 0 := by simp [flt, takes, lays, hr]; omega
        refine ⟨fun h => absurd e h, fun _ => ?_⟩
        show (jmp i a v).z _ = _
        unfold jmp
        rw [show decide (a < (i.n : Int)) = true from decide_eq_true hr, need_true]
        simp [eff, pcs, stk, mry, V.z]
      · have e : flt i v.h 12 a = 3 := by simp [flt]; omega
        exact ⟨fun _ => by rw [show ((12 : Nat) : Int) = 12 from rfl, e]; show (jmp i a v).ft = 3; unfold jmp; rw [show decide (a < (i.n : Int)) = false from decide_eq_false hr, need_no hf], fun h => by rw [show ((12 : Nat) : Int) = 12 from rfl, e] at h; exact absurd h (by decide)⟩
    | 13, _ =>
      by_cases hr : a < (i.n : Int)
      · have hzr : zer i a v = if takeN v = 0 then { takeV v with pc := a } else takeV v := by
          unfold zer
          rw [show decide (a < (i.n : Int)) = true from decide_eq_true hr, need_true]
        by_cases hh : v.h = 0
        · have e : flt i v.h 13 a = 5 := by simp [flt, takes, lays, hh, hr]
          refine ⟨fun _ => ?_, fun h => by rw [show ((13 : Nat) : Int) = 13 from rfl, e] at h; exact absurd h (by decide)⟩
          rw [show ((13 : Nat) : Int) = 13 from rfl, e]
          show (zer i a v).ft = 5
          rw [hzr]
          split
          · exact take_no hh hf
          · exact take_no hh hf
        · have e : flt i v.h 13 a = 0 := by simp [flt, takes, lays, hr]; omega
          refine ⟨fun h => absurd e h, fun _ => ?_⟩
          show (zer i a v).z _ = _
          have e1 := take_z (k := i.m.toNat) h hh
          have t1 := take_top (k := i.m.toNat) h hh
          obtain ⟨a1, a2, a3, a4, a5⟩ := take_h (v := v) hh
          rw [hzr, t1]
          by_cases ht : top (v.z i.m.toNat).st = 0
          · rw [if_pos ht]
            have e2 := congrArg Z.st e1
            have e3 := congrArg Z.mem e1
            simp only [V.z] at e2 e3 ht ⊢
            rw [e2, e3]
            simp [eff, pcs, stk, mry, a2, a4, ht]
          · rw [if_neg ht, e1]
            simp only [V.z] at ht
            simp [eff, pcs, stk, mry, ht, V.z]
      · have e : flt i v.h 13 a = 3 := by simp [flt]; omega
        refine ⟨fun _ => ?_, fun h => by rw [show ((13 : Nat) : Int) = 13 from rfl, e] at h; exact absurd h (by decide)⟩
        rw [show ((13 : Nat) : Int) = 13 from rfl, e]
        show (zer i a v).ft = 3
        unfold zer
        rw [show decide (a < (i.n : Int)) = false from decide_eq_false hr, need_no hf]
        have e3 : (takeV { v with ft := 3 }).ft = 3 := by rw [take_keep (by show (3 : Int) ≠ 0; decide)]
        dsimp only
        split
        · exact e3
        · exact e3
    | n + 19, hn => omega
    | 5, _ => exact two_case h hf 5 (by decide)
    | 6, _ => exact two_case h hf 6 (by decide)
    | 7, _ => exact two_case h hf 7 (by decide)
    | 8, _ => exact two_case h hf 8 (by decide)
    | 9, _ => exact two_case h hf 9 (by decide)
    | 14, _ => exact absurd rfl h1
    | 15, _ => exact absurd rfl h2
  exact e0 o hq (by omega) (by omega)
end Go.Proofs.Ytliiinffkcgcaaa.VmcM
