/- Reading a table, in plain terms. No conditions but those each law names. -/
import Derived.Test.YtcgnlkckgfaomaaTabP
namespace Go.Proofs.Ytcgnlkckgfaomaa.TabS
open Go.RowKit Go.Proofs.Ytcgnlkckgfaomaa.Kit Go.Proofs.Ytcgnlkckgfaomaa.NumA Go.Proofs.Ytcgnlkckgfaomaa.NumB Go.Proofs.Ytcgnlkckgfaomaa.Mem Go.Proofs.Ytcgnlkckgfaomaa.TabA Go.Proofs.Ytcgnlkckgfaomaa.TabB Go.Proofs.Ytcgnlkckgfaomaa.TabC Go.Proofs.Ytcgnlkckgfaomaa.TabD Go.Proofs.Ytcgnlkckgfaomaa.TabE Go.Proofs.Ytcgnlkckgfaomaa.TabR Go.Proofs.Ytcgnlkckgfaomaa.TabP

/-- A reader, in plain terms: what is left, and the fault. -/
abbrev Rs := List Int × Int
def rn (k : Nat) (s : Rs) : Int × Rs := rdN k s.1 s.2
def rt (k : Nat) (s : Rs) : Tri × Rs := (⟨(rn 1 s).1, (rn 1 (rn 1 s).2).1, (rn k (rn 1 (rn 1 s).2).2).1⟩, (rn k (rn 1 (rn 1 s).2).2).2)
def rm (k : Nat) : Nat → Rs → List Tri × Rs
  | 0, s => ([], s)
  | n + 1, s => ((rm k n s).1 ++ [(rt k (rm k n s).2).1], (rt k (rm k n s).2).2)
def okB (s : Rs) : Prop := ∀ u ∈ s.1, 0 ≤ u ∧ u ≤ 255
theorem rn_ok {k : Nat} {s : Rs} (h : okB s) : okB (rn k s).2 := rdN_bytes h
theorem rt_ok {k : Nat} {s : Rs} (h : okB s) : okB (rt k s).2 := rn_ok (rn_ok (rn_ok h))
theorem rm_ok (k : Nat) : ∀ (n : Nat) {s : Rs}, okB s → okB (rm k n s).2
  | 0, _, h => h
  | n + 1, _, h => rt_ok (rm_ok k n h)
theorem rn_bd {k : Nat} (hk : k = 1 ∨ k = 2) {s : Rs} (h : okB s) : 0 ≤ (rn k s).1 ∧ (rn k s).1 < 256 ^ k := rdN_bd hk h
theorem rt_tri {k : Nat} (hk : k = 1 ∨ k = 2) {s : Rs} (h : okB s) : (rt k s).1.ok := by
  have h1 := rn_bd (.inl rfl) h
  have h2 := rn_bd (.inl rfl) (rn_ok (k := 1) h)
  have h3 := rn_bd hk (rn_ok (k := 1) (rn_ok (k := 1) h))
  have h4 : (256 : Int) ^ k ≤ 65536 := by rcases hk with rfl | rfl <;> decide
  have e1 : (256 : Int) ^ 1 = 256 := by decide
  rw [e1] at h1 h2
  exact ⟨by show _ ≤ (rn 1 s).1; omega, by show (rn 1 s).1 ≤ _; omega, by show _ ≤ (rn 1 (rn 1 s).2).1; omega, by show (rn 1 (rn 1 s).2).1 ≤ _; omega, by show _ ≤ (rn k (rn 1 (rn 1 s).2).2).1; omega, by show (rn k (rn 1 (rn 1 s).2).2).1 ≤ _; omega⟩
theorem rm_tri {k : Nat} (hk : k = 1 ∨ k = 2) : ∀ (n : Nat) {s : Rs}, okB s → ∀ r ∈ (rm k n s).1, r.ok
  | 0, _, _ => by simp [rm]
  | n + 1, _, h => fun r hr => by
    rcases List.mem_append.1 hr with h1 | h1
    · exact rm_tri hk n h r h1
    · rw [List.mem_singleton.1 h1]; exact rt_tri hk (rm_ok k n h)
theorem rm_len (k : Nat) : ∀ (n : Nat) (s : Rs), (rm k n s).1.length = n
  | 0, _ => rfl
  | n + 1, s => by simp [rm, rm_len k n s]
/-- A table in plain terms. -/
structure Pl where
  fr : Int
  tr : Int
  P : List Tri
  W : List Tri
  C : List Tri
def s2 (s : Rs) : Rs := (rn 1 (rn 1 s).2).2
def cnt (s : Rs) : Nat := (rn 1 s).1.toNat
def s5 (s : Rs) : Rs := (rn 1 (rn 1 (rn 1 (s2 s)).2).2).2
def nP (s : Rs) : Nat := cnt (s2 s)
def nW (s : Rs) : Nat := cnt (rn 1 (s2 s)).2
def nC (s : Rs) : Nat := cnt (rn 1 (rn 1 (s2 s)).2).2
def sP (s : Rs) : Rs := (rm 2 (nP s) (s5 s)).2
def sW (s : Rs) : Rs := (rm 1 (nW s) (sP s)).2
def sC (s : Rs) : Rs := (rm 1 (nC s) (sW s)).2
def told (s : Rs) : Pl := ⟨(rn 1 s).1, (rn 1 (rn 1 s).2).1, (rm 2 (nP s) (s5 s)).1, (rm 1 (nW s) (sP s)).1, (rm 1 (nC s) (sW s)).1⟩
def Pl.right (p : Pl) : Prop := TOk p.fr p.tr p.P p.W p.C
theorem cnt_int {s : Rs} (h : okB s) : (rn 1 s).1 = (cnt s : Int) ∧ cnt s ≤ 255 := by
  have h1 := rn_bd (.inl rfl) h
  have e1 : (256 : Int) ^ 1 = 256 := by decide
  rw [e1] at h1
  unfold cnt
  omega
end Go.Proofs.Ytcgnlkckgfaomaa.TabS
