/- A slot on a disk without a fuse, beside the document's own, in memory: what each call leaves; the law's example. Conditions: what lies lies as the facts say; numbers of 64 bits. An append behind a guard that holds. Over any program; no conditions but those the law names. The law's example: a slot of twenty bytes. No conditions. Acts on a slot that came in, as a list. No conditions but those each law names. A slot and what it might be, act by act, in plain terms. No conditions but those each law names. A slot on a disk, beside the document's own slots, in memory: what StageActs goes on with. No conditions but those each law names. -/
import Derived.Test.YthgmocipiknfpaaJ11
import Derived.Test.YthgmocipiknfpaaJ13
import Derived.Test.YthgmocipiknfpaaJ07
import Derived.Test.YthgmocipiknfpaaJ01
import Derived.Deep.Slices
import Derived.Deep.Fields
import Derived.WideShapes
import Derived.Test.YthgmocipiknfpaaJ03
namespace Go.Proofs.Ythgmocipiknfpaa.StgJ
open Go.RowKit Go.Proofs.Ythgmocipiknfpaa.Kit Go.Proofs.Ythgmocipiknfpaa.Byt Go.Proofs.Ythgmocipiknfpaa.Mem Go.Proofs.Ythgmocipiknfpaa.DskA Go.Proofs.Ythgmocipiknfpaa.DskE Go.Proofs.Ythgmocipiknfpaa.DskF Go.Proofs.Ythgmocipiknfpaa.RecM Go.Proofs.Ythgmocipiknfpaa.StgM Go.Proofs.Ythgmocipiknfpaa.StgP Go.Proofs.Ythgmocipiknfpaa.StgQ Go.Proofs.Ythgmocipiknfpaa.StgF Go.Proofs.Ythgmocipiknfpaa.StgI Go.Proofs.Ythgmocipiknfpaa.StgN
open Go.Proofs.Ythgmocipiknfpaa.RecA (n64 sval)
open Go.Proofs.Ythgmocipiknfpaa.DskB (newSt cnt zs)

/-! ### no fuse -/
section
variable {S0 : List (List Nat)} {s : St} {t : Slt} {x : Rf}
theorem free_B (h : Inv S0 s t x) (f : Free s) (n z : Int) : (pB s t n z).2.2 = (rB x n z).2 ∧ Inv S0 (pB s t n z).1 (pB s t n z).2.1 (rB x n z).1 ∧ Free (pB s t n z).1 ∧ (pB s t n z).2.1.p = t.p ∧ (pB s t n z).2.1.k = t.k := by
  have hp := put1_free f t.at_ (shut (fresh n z).bytes)
  have hne : (pB s t n z).2.2 ≠ 8 ∧ Free (pB s t n z).1 ∧ (pB s t n z).2.1.p = t.p ∧ (pB s t n z).2.1.k = t.k := by
    unfold pB
    split
    · rw [if_pos hp.1]
      exact ⟨by show (0 : Int) ≠ 8; omega, hp.2, rfl, rfl⟩
    · exact ⟨by show (3 : Int) ≠ 8; omega, f, rfl, rfl⟩
  rcases step_B h n z with ⟨h1, _, h2⟩ | ⟨h1, _⟩
  · exact ⟨h1, h2, hne.2⟩
  · exact absurd h1 hne.1
theorem free_C (h : Inv S0 s t x) (f : Free s) : (pC s t).2.2 = 0 ∧ Inv S0 (pC s t).1 (pC s t).2.1 Rf.none ∧ Free (pC s t).1 ∧ (pC s t).2.1.p = t.p ∧ (pC s t).2.1.k = t.k := by
  have hp := put1_free f t.at_ (zs 64)
  have hne : (pC s t).2.2 ≠ 8 ∧ Free (pC s t).1 ∧ (pC s t).2.1.p = t.p ∧ (pC s t).2.1.k = t.k := by
    unfold pC
    rw [if_pos hp.1]
    exact ⟨by show (0 : Int) ≠ 8; omega, hp.2, rfl, rfl⟩
  rcases step_C h with ⟨h1, h2⟩ | ⟨h1, _⟩
  · exact ⟨h1, h2, hne.2⟩
  · exact absurd h1 hne.1
theorem free_P (h : Inv S0 s t x) (f : Free s) (n no : Int) (d : List Nat) (hbd : byt d) : (pP s t n no d).2.2 = (rP x n no d).2 ∧ Inv S0 (pP s t n no d).1 (pP s t n no d).2.1 (rP x n no d).1 ∧ Free (pP s t n no d).1 ∧ (pP s t n no d).2.1.p = t.p ∧ (pP s t n no d).2.1.k = t.k := by
  have hp := put1_free f (t.dat (no.toNat / 4)) (sect s t no.toNat d)
  have hq := put1_free hp.2 t.at_ (shut (more t.g no).bytes)
  have hne : (pP s t n no d).2.2 ≠ 8 ∧ Free (pP s t n no d).1 ∧ (pP s t n no d).2.1.p = t.p ∧ (pP s t n no d).2.1.k = t.k := by
    unfold pP
    split
    · exact ⟨by show (16 : Int) ≠ 8; omega, f, rfl, rfl⟩
    split
    · exact ⟨by show (17 : Int) ≠ 8; omega, f, rfl, rfl⟩
    split
    · exact ⟨by show (3 : Int) ≠ 8; omega, f, rfl, rfl⟩
    split
    · exact ⟨by show (14 : Int) ≠ 8; omega, f, rfl, rfl⟩
    split
    · exact ⟨by show (0 : Int) ≠ 8; omega, f, rfl, rfl⟩
    rw [if_neg (fun e => e hp.1), if_neg (fun e => e hq.1)]
    exact ⟨by show (0 : Int) ≠ 8; omega, hq.2, rfl, rfl⟩
  rcases step_P h n no d hbd with ⟨h1, _, h2⟩ | ⟨h1, _⟩
  · exact ⟨h1, h2, hne.2⟩
  · exact absurd h1 hne.1
end
theorem getS_zs : (getS (zs 64)).2 ≠ 0 := by
  have e : wrong 83 8 (zs 64) = 2 := by
    have := wrong_same 83 0 64 8 (by omega)
    rw [if_pos rfl] at this
    exact this
  unfold getS
  rw [e, if_pos (by omega)]
  show (2 : Int) ≠ 0
  omega
/-- On a new disk a slot has no stage. -/
theorem new_inv (n : Int) (p k : Nat) (h : 10 * p + 2 + 4 * k + 4 ≤ cnt n) : Inv (newSt n).S (newSt n) (pO (newSt n) p k) Rf.none ∧ Free (newSt n) := by
  have hS : (newSt n).S.getD (10 * p + 2 + 4 * k) [] = zs 64 := new_getD n _ (by omega)
  have hr : Rep (newSt n).S (pO (newSt n) p k) Rf.none := ⟨fun e => (by cases e), fun _ => by rw [pO_at, hS]; exact getS_zs, fun i hi => (by simp [Rf.none] at hi)⟩
  have hl := pO_like (t := pO (newSt n) p k) (s := newSt n) rfl hr none_wf
  exact ⟨⟨⟨rfl, rfl, new_ok n⟩, hr, hl.1, hl.2, none_wf, by rw [pO_at, new_len]; exact h, ⟨rfl, fun _ _ => rfl⟩, Put2.new_byts n⟩, by show (-1 : Int) < 0; omega, rfl⟩

/-! ### in memory -/
structure Fr (w0 w : World) (F J : Nat → Prop) (g a p k : Nat) (S0 : List (List Nat)) (s : St) (x : Rf) : Prop where
  ex : ∃ t : Slt, DS w F J g a s t ∧ Inv S0 s t x ∧ t.p = p ∧ t.k = k
  free : Free s
  low : ∀ i, F i ∨ J i → w0.heap.size ≤ i
  bel : Below w0.heap.size w0 w
/-- What a call leaves. -/
def Fgo (w0 : World) (F J : Nat → Prop) (g a p k : Nat) (S0 : List (List Nat)) (w : World) (v : Value) (x' : Rf) (e : Ending) (w' : World) : Prop :=
  e = .returned v ∧ ∃ F' J' s', Fr w0 w' F' J' g a p k S0 s' x' ∧ Keep (fun i => F i ∨ J i) w w' ∧ (∀ i, F' i ∨ J' i → (F i ∨ J i) ∨ w.heap.size ≤ i)
section
variable {w0 w w' : World} {F J : Nat → Prop} {g a p k : Nat} {S0 : List (List Nat)} {s : St} {x : Rf}
theorem Fr.below (h : Fr w0 w F J g a p k S0 s x) (hb : Below w.heap.size w w') : Fr w0 w' F J g a p k S0 s x := by
  obtain ⟨t, h1, h2⟩ := h.ex
  exact ⟨⟨t, ⟨h1.dk.below hb, h1.sm.keep (Keep.of_below (F := fun _ => False) hb) (fun _ _ h => h), h1.dis, h1.most, h1.fits⟩, h2⟩, h.free, h.low, h.bel.trans (hb.mono h.bel.size)⟩
theorem Fr.lt (h : Fr w0 w F J g a p k S0 s x) : ∀ i, F i ∨ J i → i < w.heap.size := by
  obtain ⟨t, h1, h2⟩ := h.ex
  intro i hi
  rcases hi with hi | hi
  · exact h1.dk.lt i hi
  · exact h1.sm.lt i hi
theorem Sgo.fr {t t' : Slt} {s' : St} {x' : Rf} {v : Value} {e : Ending} (h : Fr w0 w F J g a p k S0 s x) (hD : DS w F J g a s t) (hI : Inv S0 s' t' x') (hf : Free s') (hp : t'.p = p) (hk : t'.k = k) (hpp : p ≤ 3) (hkk : k ≤ 1) (hg : Sgo F J g a w v s' t' e w') : Fgo w0 F J g a p k S0 w v x' e w' := by
  obtain ⟨he, F', J', h1, h2, h3, h4, h5, h6⟩ := hg
  have hs := h.bel.size
  refine ⟨he, F', J', s', ⟨⟨t', ⟨h1, h2, h3, by rw [hI.up.none_]; exact Nat.zero_le _, by rw [hp]; exact hpp, by rw [hk]; exact hkk, hI.len⟩, hI, hp, hk⟩, hf, fun i hi => ?_, h.bel.trans (h4.below h.low hs)⟩, h4, fun i hi => ?_⟩
  · rcases hi with hi | hi
    · rcases h5 i hi with h7 | h7
      · exact h.low i h7
      · omega
    · rcases h6 i hi with h7 | h7
      · exact h.low i h7
      · omega
  · rcases hi with hi | hi
    · exact h5 i hi
    · exact h6 i hi
theorem fr_begin (h : Fr w0 w F J g a p k S0 s x) (n z : Int) (hn : n64 n) (hz : n64 z) :
    Calls Try.prog 12 #[.pointer (some ⟨a, 0, none⟩), .int .i64 n, .int .i64 z] w (Fgo w0 F J g a p k S0 w (.int .i64 (rB x n z).2) (rB x n z).1) := by
  obtain ⟨t, h1, h2, hp, hk⟩ := h.ex
  have hf := free_B h2 h.free n z
  refine (begin_any F J g a s t n z w h1 hn hz).mono fun e w' hg => ?_
  have hh := Sgo.fr h h1 hf.2.1 hf.2.2.1 (hf.2.2.2.1.trans hp) (hf.2.2.2.2.trans hk) (hp ▸ h1.fits.1) (hk ▸ h1.fits.2.1) hg
  rw [hf.1] at hh
  exact hh
theorem fr_clear (h : Fr w0 w F J g a p k S0 s x) :
    Calls Try.prog 15 #[.pointer (some ⟨a, 0, none⟩)] w (Fgo w0 F J g a p k S0 w (.int .i64 0) Rf.none) := by
  obtain ⟨t, h1, h2, hp, hk⟩ := h.ex
  have hf := free_C h2 h.free
  refine (clear_any F J g a s t w h1).mono fun e w' hg => ?_
  have hh := Sgo.fr h h1 hf.2.1 hf.2.2.1 (hf.2.2.2.1.trans hp) (hf.2.2.2.2.trans hk) (hp ▸ h1.fits.1) (hk ▸ h1.fits.2.1) hg
  rw [hf.1] at hh
  exact hh
theorem right_of {t : Slt} (h : Inv S0 s t x) : t.has = true → t.g.right := fun e => by rw [h.g]; exact h.wf.right (by rw [← h.has]; exact e)
theorem fr_put (h : Fr w0 w F J g a p k S0 s x) (n no : Int) (D : Option Addr) (m d : Nat) (xs : List Nat) (hn : n64 n) (hno : n64 no) (hR : Rd w D m d (u8n xs)) (hb : byt xs) (hD : ∀ b o, D = some ⟨b, o, none⟩ → ¬ (F b ∨ J b)) :
    Calls Try.prog 13 #[.pointer (some ⟨a, 0, none⟩), .int .i64 n, .int .i64 no, .slice D m d] w (Fgo w0 F J g a p k S0 w (.int .i64 (rP x n no xs).2) (rP x n no xs).1) := by
  obtain ⟨t, h1, h2, hp, hk⟩ := h.ex
  have hf := free_P h2 h.free n no xs hb
  refine (put_any F J g a s t n no D m d xs w h1 hn hno (right_of h2) hR hb (fun b o e => ⟨fun hh => hD b o e (.inl hh), fun hh => hD b o e (.inr hh)⟩)).mono fun e w' hg => ?_
  have hh := Sgo.fr h h1 hf.2.1 hf.2.2.1 (hf.2.2.2.1.trans hp) (hf.2.2.2.2.trans hk) (hp ▸ h1.fits.1) (hk ▸ h1.fits.2.1) hg
  rw [hf.1] at hh
  exact hh
theorem fr_bytes (h : Fr w0 w F J g a p k S0 s x) :
    Calls Try.prog 23 #[.pointer (some ⟨a, 0, none⟩)] w fun e w' => ∃ B m d, e = .returned (.tuple #[.slice B m d, .int .i64 (rY x).2]) ∧ Rd w' B m d (u8n (rY x).1) ∧ Below w.heap.size w w' := by
  obtain ⟨t, h1, h2, hp, hk⟩ := h.ex
  have hY := same_Y h2
  have hh := bytes_any F J g a s t w h1 (right_of h2)
  rw [hY] at hh
  exact hh
end
end Go.Proofs.Ythgmocipiknfpaa.StgJ
namespace Go.Proofs.Ythgmocipiknfpaa.KitG
open Go.RowKit Go.Proofs.Ythgmocipiknfpaa.Kit
section
variable {P : Program} {ops : Array Oper} {rest : List Oper} {o : Oper} {a : Act} {Q : Exit → Act → World → Prop}
theorem wpList_add_if (w : World) (hgd : Region.wanted o (yielded ops a.tmps) = true) (s x : Operand) (t : TypeId)
    (ho : o.op = .call { callee := .builtin .append, args := #[s, x], argTypes := #[t, t] })
    (base : Nat) (e : TypeId) (i : TypeInfo) (z : Value) (bytes : Nat) (ht : P.underlying t = some (.slice e)) (hi : P.info? e = some i) (hz : i.zero = some z)
    (hsize : i.size = 1) (hby : i.bytes = bytes) (hzs : z.cells = #[z])
    (v : Value) (n : Nat) (xs : List Value) (hs : a.eval s = v) (hown : w.ownsRow base e 1 v n xs)
    (A : Option Addr) (m c : Nat) (news : List Value) (hx : a.eval x = .slice A m c) (hr : Rd w A m c news) (h1 : ∀ u ∈ news, u.oneCell' = true)
    (h63 : n + m ≤ 9223372036854775807) (hbytes : (n + m) * bytes ≤ 140737488355328) (hbase : base ≤ w.heap.size)
    (h : ∀ A' n' c' w', Hid (n' = n + m) → w'.ownsRow base e 1 (.slice A' n' c') n' (xs ++ news) → w.grownBy w' v.ownBlock → ((Value.slice A' n' c').ownBlock = v.ownBlock ∨ (Value.slice A' n' c').ownBlock = some w.heap.size) → wpList P ops Q rest (a.put o.dst (.slice A' n' c')) w') : wpList P ops Q (o :: rest) a w :=
  wpList_step fun _ hK => by
  rw [if_pos hgd]
  exact wp_add w s x t ho base e i z bytes ht hi hz hsize hby hzs v n xs hs hown A m c news hx hr h1 h63 hbytes hbase fun v' w' h2 h3 h4 => by
    have h5 := h2
    rcases h5.2 with ⟨rfl, h0⟩ | ⟨g, cap, cur, rfl, _⟩
    · exact hK _ _ (h none 0 0 w' h0.symm (by rw [h0] at h2; exact h2) h3 h4)
    · exact hK _ _ (h _ _ _ w' rfl h2 h3 h4)
end
end Go.Proofs.Ythgmocipiknfpaa.KitG
namespace Go.Proofs.Ythgmocipiknfpaa.StgK
open Go.RowKit Go.Proofs.Ythgmocipiknfpaa.Kit Go.Proofs.Ythgmocipiknfpaa.Byt Go.Proofs.Ythgmocipiknfpaa.Mem Go.Proofs.Ythgmocipiknfpaa.DskA Go.Proofs.Ythgmocipiknfpaa.DskE Go.Proofs.Ythgmocipiknfpaa.DskF Go.Proofs.Ythgmocipiknfpaa.RecM Go.Proofs.Ythgmocipiknfpaa.StgM Go.Proofs.Ythgmocipiknfpaa.StgP Go.Proofs.Ythgmocipiknfpaa.StgQ Go.Proofs.Ythgmocipiknfpaa.StgF Go.Proofs.Ythgmocipiknfpaa.StgI Go.Proofs.Ythgmocipiknfpaa.StgN Go.Proofs.Ythgmocipiknfpaa.StgJ Go.Proofs.Ythgmocipiknfpaa.Same Go.Proofs.Ythgmocipiknfpaa.KitG
open Go.Proofs.Ythgmocipiknfpaa.RecA (n64 sval)
open Go.Proofs.Ythgmocipiknfpaa.DskB (newSt cnt zs new_any)

/-- A slot on a new disk. -/
theorem fr_new {w0 w w' : World} {F J : Nat → Prop} {g a p k : Nat} {n : Int} (hD : Dk w F g (newSt n)) (hF : ∀ i, F i → w0.heap.size ≤ i) (hb : Below w0.heap.size w0 w) (hp : p ≤ 3) (hk : k ≤ 1) (hf : 10 * p + 2 + 4 * k + 4 ≤ cnt n) (hS : Sm w' J a g (pO (newSt n) p k)) (hJ : ∀ i, J i → w.heap.size ≤ i) (hb2 : Below w.heap.size w w') :
    Fr w0 w' F J g a p k (newSt n).S (newSt n) Rf.none := by
  have hi := new_inv n p k hf
  have hs := hb.size
  refine ⟨⟨pO (newSt n) p k, ⟨hD.below hb2, hS, fun i h1 h2 => ?_, Nat.zero_le _, hp, hk, by rw [pO_at, new_len]; exact hf⟩, hi.1, rfl, rfl⟩, hi.2, fun i h => ?_, hb.trans (hb2.mono hs)⟩
  · have := hD.lt i h1
    have := hJ i h2
    omega
  · rcases h with h | h
    · exact hF i h
    · have := hJ i h
      omega
def x1 : Rf := ⟨true, fresh 1 20, [[], []]⟩
def x2 : Rf := ⟨true, ⟨1, 20, 1⟩, [fb 1 16, []]⟩
def x3 : Rf := ⟨true, ⟨1, 20, 3⟩, [fb 1 16, fb 9 16]⟩
theorem s1 : rB Rf.none 1 20 = (x1, 0) := by unfold rB; rw [if_pos (by decide)]; rfl
theorem s2 : rP x1 1 0 (fb 1 16) = (x2, 0) := rfl
theorem s3 : rP x2 1 1 (fb 9 16) = (x3, 0) := rfl
theorem s4 : rY x3 = (fb 1 16 ++ (fb 9 16).take 4, 0) := rfl
theorem n1 : n64 1 := by unfold n64; omega
theorem n0 : n64 0 := by unfold n64; omega
theorem n20 : n64 20 := by unfold n64; omega
/-- Bytes that are newer than what the slot writes. -/
theorem newer {w0 w : World} {F J : Nat → Prop} {g a p k : Nat} {S0 : List (List Nat)} {s : St} {x : Rf} {D : Option Addr} (h : Fr w0 w F J g a p k S0 s x) (hD : ∀ q o, D = some ⟨q, o, none⟩ → w.heap.size ≤ q) : ∀ b o, D = some ⟨b, o, none⟩ → ¬ (F b ∨ J b) := fun b o e hh => by
  have h1 := hD b o e
  have h2 := h.lt b hh
  omega
set_option maxRecDepth 100000 in
set_option maxHeartbeats 6400000 in
theorem wakes_any (w : World) : Calls Try.prog 7 #[] w fun e w' => e = .returned (.bool true) ∧ Below w.heap.size w w' := by
  obtain ⟨i0, hi0, hz0, hz1, hz2⟩ := info_parts NumA.info8
  have hs1 := s1
  have hs2 := s2
  have hs3 := s3
  have hs4 := s4
  have H1 := Lib.hid hs1
  have H2 := Lib.hid hs2
  have H3 := Lib.hid hs3
  have H4 := Lib.hid hs4
  have hfl : (fb 1 16).length = 16 := fb_len 1 16
  have hfl9 : (fb 9 16).length = 16 := fb_len 9 16
  have HF1 := Lib.hid (show ∀ w', Calls Try.prog 14 #[.int .u8 1, .bool false] w' fun e w'' => ∃ D m d, e = .returned (.slice D m d) ∧ Rd w'' D m d (u8n (fb 1 16)) ∧ (∀ q o, D = some ⟨q, o, none⟩ → w'.heap.size ≤ q) ∧ Below w'.heap.size w' w'' from fun w' => fill_rd (b := 1) (by omega) false w')
  have HF9 := Lib.hid (show ∀ w', Calls Try.prog 14 #[.int .u8 9, .bool false] w' fun e w'' => ∃ D m d, e = .returned (.slice D m d) ∧ Rd w'' D m d (u8n (fb 9 16)) ∧ (∀ q o, D = some ⟨q, o, none⟩ → w'.heap.size ≤ q) ∧ Below w'.heap.size w' w'' from fun w' => fill_rd (b := 9) (by omega) false w')
  have HFO := Lib.hid (show ∀ w', Calls Try.prog 14 #[.int .u8 1, .bool false] w' (DskB.Fresh w' (fb 1 16)) from fun w' => fill_any 1 (by omega) false w')
  obtain ⟨b1, hb1⟩ : ∃ b, b = fb 1 16 := ⟨_, rfl⟩
  obtain ⟨b9, hb9⟩ : ∃ b, b = fb 9 16 := ⟨_, rfl⟩
  have HB1 := Lib.hid (show byt b1 from by rw [hb1]; exact fb_byt 1 16)
  have HB9 := Lib.hid (show byt b9 from by rw [hb9]; exact fb_byt 9 16)
  simp only [← hb1] at HF1 H2 H4 hfl HFO
  simp only [← hb9] at HF9 H3 H4 hfl9
  have HL1 := Lib.hid hfl
  have HL9 := Lib.hid hfl9
  clear hs1 hs2 hs3 hs4 hb1 hb9 hfl hfl9
  go_enter Try.func7, Try.ntmps7
  go_wp2_with fail
  refine (new_any 10 _).mono ?_
  rintro e w1 ⟨g, F1, rfl, hD1, hbl1, hf1⟩
  have HD1 := Lib.hid hD1
  have HBL1 := Lib.hid hbl1
  have HFF1 := Lib.hid hf1
  clear hD1 hbl1 hf1
  go_wp2_with fail
  refine (open_any F1 g (newSt 10) 0 1 w1 HD1.out (by omega) (by omega) (by decide) rfl (by simp [newSt]) (Put2.new_byts 10)).mono ?_
  rintro e w2 ⟨a, J2, rfl, hS2, hJ2, hb2⟩
  have R2 := Lib.hid (fr_new (w0 := w) (p := 0) (k := 1) HD1.out HFF1.out HBL1.out (by omega) (by omega) (by decide) hS2 hJ2 hb2)
  obtain ⟨Z0, hZ0⟩ : ∃ Z, Z = (newSt 10).S := ⟨_, rfl⟩
  obtain ⟨T0, hT0⟩ : ∃ Z, Z = (newSt 10) := ⟨_, rfl⟩
  rw [← hZ0, ← hT0] at R2
  clear hZ0 hT0 hS2 hJ2 hb2 HD1 HBL1 HFF1
  go_wp2_with fail
  refine (fr_begin R2.out 1 20 n1 n20).mono ?_
  intro e w3 hgo
  obtain ⟨rfl, F3, J3, t3, hR3, _⟩ := hgo
  have hv : (rB Rf.none 1 20).2 = 0 := by rw [H1.out]
  rw [hv]
  rw [show (rB Rf.none 1 20).1 = x1 from by rw [H1.out]] at hR3
  have R3 := Lib.hid hR3
  clear hR3 hv R2
  go_wp2_with fail
  refine (HF1.out _).mono ?_
  rintro e w4 ⟨D4, m4, d4, rfl, hr4, hn4, hb4⟩
  have R4 := Lib.hid (R3.out.below hb4)
  have HN4 := Lib.hid (fun b o (e : D4 = some ⟨b, o, none⟩) => newer R3.out hn4 b o e)
  have HR4 := Lib.hid hr4
  clear hr4 hn4 hb4 R3
  go_wp2_with fail
  refine (fr_put R4.out 1 0 D4 m4 d4 b1 n1 n0 HR4.out HB1.out HN4.out).mono ?_
  intro e w5 hgo
  obtain ⟨rfl, F5, J5, t5, hR5, _⟩ := hgo
  have hv : (rP x1 1 0 b1).2 = 0 := by rw [H2.out]
  rw [hv]
  rw [show (rP x1 1 0 b1).1 = x2 from by rw [H2.out]] at hR5
  have R5 := Lib.hid hR5
  clear hR5 hv R4 HR4 HN4
  go_wp2_with fail
  refine (HF9.out _).mono ?_
  rintro e w6 ⟨D6, m6, d6, rfl, hr6, hn6, hb6⟩
  have R6 := Lib.hid (R5.out.below hb6)
  have HN6 := Lib.hid (fun b o (e : D6 = some ⟨b, o, none⟩) => newer R5.out hn6 b o e)
  have HR6 := Lib.hid hr6
  clear hr6 hn6 hb6 R5
  go_wp2_with fail
  refine (fr_put R6.out 1 1 D6 m6 d6 b9 n1 n1 HR6.out HB9.out HN6.out).mono ?_
  intro e w7 hgo
  obtain ⟨rfl, F7, J7, t7, hR7, _⟩ := hgo
  have hv : (rP x2 1 1 b9).2 = 0 := by rw [H3.out]
  rw [hv]
  rw [show (rP x2 1 1 b9).1 = x3 from by rw [H3.out]] at hR7
  have R7 := Lib.hid hR7
  clear hR7 hv R6 HR6 HN6
  go_wp2_with fail
  have hby := fr_bytes R7.out
  rw [H4.out] at hby
  refine hby.mono ?_
  rintro e w8 ⟨B8, m8, d8, rfl, hr8, hb8⟩
  have HR8 := Lib.hid hr8
  have L8 := Lib.hid (R7.out.bel.trans (hb8.mono R7.out.bel.size))
  have HS8 := Lib.hid L8.out.size
  clear hr8 hb8 hby R7
  go_wp2_with fail
  refine (HFO.out _).mono ?_
  rintro e w9 ⟨D9, m9, d9, hm9, rfl, ho9, hb9⟩
  obtain rfl : 16 = m9 := by have := hm9.out; rw [HL1.out] at this; exact this.symm
  have HO9 := Lib.hid ho9
  have HR9 := Lib.hid (HR8.out.below hb9)
  have L9 := Lib.hid (L8.out.trans (hb9.mono L8.out.size))
  have HS9 := Lib.hid hb9.size
  have HB8 := Lib.hid (fun (h0 : 0 < m8) b o (e : B8 = some ⟨b, o, none⟩) => show b < w8.heap.size from by
    obtain ⟨b', o', e', hlt, _⟩ := HR8.out.2.2.2 h0
    rw [e] at e'
    injection e' with e'
    injection e' with e1 _
    omega)
  have HD9 := Lib.hid (fun i (hi : (Value.slice D9 16 d9).ownBlock = some i) => (ho9.lt i hi).1)
  clear ho9 hb9 hm9 L8 HR8
  go_wp2_with fail
  refine (HF9.out _).mono ?_
  rintro e w10 ⟨D10, m10, d10, rfl, hr10, hn10, hb10⟩
  obtain rfl : 16 = m10 := by have := Rd.nats hr10; rw [HL9.out] at this; exact this
  obtain ⟨q10, o10, rfl, _, _⟩ := hr10.2.2.2 (by omega)
  have hc10 := hr10.le
  have hcap10 := hr10.cap
  have HT10 := Lib.hid (show Rd w10 (some ⟨q10, o10, none⟩) 4 d10 (u8n (b9.take 4)) from by have h := hr10.take (k := 4) (by omega); simpa [u8n, List.map_take] using h)
  have HO10 := Lib.hid (own_below HO9.out hb10)
  have HR10 := Lib.hid (HR9.out.below hb10)
  have L10 := Lib.hid (L9.out.trans (hb10.mono L9.out.size))
  have hs10 : w8.heap.size ≤ w10.heap.size := by have := HS9.out; have := hb10.size; omega
  clear hr10 hn10 hb10 HO9 HR9 L9
  go_wp2_with (first
    | (at_builtin; refine wpList_add_if _ (by rfl) (.tmp 38) (.tmp 40) _ rfl w8.heap.size 5 i0 _ 1 Try.underlying43 hi0 hz0 hz1 hz2 rfl _ 16 _ rfl HO10.out (some ⟨q10, o10, none⟩) 4 d10 _ rfl HT10.out (u8n_one _) (by omega) (by omega) hs10 ?_; intro A11 n11 c11 w11 hn11 hown11 hg11 hat11; rw [u8n_app] at hown11; have HW11 := Lib.hid (show Keep (fun i => (Value.slice D9 16 d9).ownBlock = some i) w10 w11 from Keep.grown hg11 fun _ h => h); have HO11 := Lib.hid hown11; clear hown11 hg11 hat11)
    | fail)
  have hr11 : Rd w11 B8 m8 d8 (u8n (b1 ++ b9.take 4)) := HW11.out.rd HR10.out fun h0 b o e hi => by
    have h1 := HB8.out h0 b o e
    have h2 := HD9.out b hi
    omega
  have L11 := Lib.hid (show Below w.heap.size w w11 from L10.out.trans (HW11.out.below (B := w.heap.size) (fun i hi => by have h2 := HD9.out i hi; have := HS8.out; omega) L10.out.size))
  refine (same_n hr11 (Rd.own HO11.out)).mono ?_
  rintro e w12 ⟨rfl, nq, rfl⟩
  rw [show decide (b1 ++ b9.take 4 = b1 ++ b9.take 4) = true from by simp]
  clear hr11
  go_wp2
  go_ret
  exact ⟨rfl, below_drewN L11.out _⟩
end Go.Proofs.Ythgmocipiknfpaa.StgK
namespace Go.Proofs.Ythgmocipiknfpaa.StgL
open Go.RowKit Go.Proofs.Ythgmocipiknfpaa.Kit Go.Proofs.Ythgmocipiknfpaa.Byt Go.Proofs.Ythgmocipiknfpaa.Mem Go.Proofs.Ythgmocipiknfpaa.StgI

instance : Inhabited Ac := ⟨⟨0, 0, 0, 0, 0, false, 0⟩⟩
/-- The slice at A is these acts. -/
def Acts (w : World) (A : Option Addr) (n c : Nat) (R : List Ac) : Prop :=
  R.length = n ∧ n ≤ c ∧ c ≤ 9223372036854775807 ∧ (∀ r ∈ R, r.ok) ∧
  (0 < n → ∃ b o, A = some ⟨b, o, none⟩ ∧ b < w.heap.size ∧ ∀ k r, R[k]? = some r → ∀ j u, r.cells[j]? = some u → w.cell? ⟨b, o + k * 7 + j, none⟩ = some u)
theorem Acts.below {w w' : World} {A : Option Addr} {n c : Nat} {R : List Ac} (h : Acts w A n c R) (hb : Below w.heap.size w w') : Acts w' A n c R :=
  ⟨h.1, h.2.1, h.2.2.1, h.2.2.2.1, fun hp => by
    obtain ⟨b, o, hA, hbl, hc⟩ := h.2.2.2.2 hp
    exact ⟨b, o, hA, Nat.lt_of_lt_of_le hbl hb.size, fun k r hr j u hu => (hb.cell (p := ⟨b, o + k * 7 + j, none⟩) hbl).trans (hc k r hr j u hu)⟩⟩
/-- The k-th act's cells. -/
theorem Acts.at_ {w : World} {A : Option Addr} {n c : Nat} {R : List Ac} (h : Acts w A n c R) {k : Nat} (hk : k < n) :
    ∃ (r : Ac) (b o : Nat), R[k]? = some r ∧ r ∈ R ∧ r.ok ∧ A = some ⟨b, o, none⟩ ∧ b < w.heap.size ∧ w.cell? ⟨b, o + k * 7, none⟩ = some (.int .i64 r.k) ∧ w.cell? ⟨b, o + k * 7 + 1, none⟩ = some (.int .i64 r.n) ∧ w.cell? ⟨b, o + k * 7 + 2, none⟩ = some (.int .i64 r.z) ∧ w.cell? ⟨b, o + k * 7 + 3, none⟩ = some (.int .i64 r.no) ∧ w.cell? ⟨b, o + k * 7 + 4, none⟩ = some (.int .u8 (r.b : Nat)) ∧ w.cell? ⟨b, o + k * 7 + 5, none⟩ = some (.bool r.long) ∧ w.cell? ⟨b, o + k * 7 + 6, none⟩ = some (.int .u64 (r.keep : Nat)) := by
  obtain ⟨b, o, hA, hb, hc⟩ := h.2.2.2.2 (by omega)
  have hk' : k < R.length := by rw [h.1]; exact hk
  have hr := List.getElem?_eq_getElem hk'
  have hm := List.getElem_mem hk'
  exact ⟨R[k], b, o, hr, hm, h.2.2.2.1 _ hm, hA, hb, hc k _ hr 0 _ rfl, hc k _ hr 1 _ rfl, hc k _ hr 2 _ rfl, hc k _ hr 3 _ rfl, hc k _ hr 4 _ rfl, hc k _ hr 5 _ rfl, hc k _ hr 6 _ rfl⟩

set_option maxRecDepth 100000 in
theorem open_acts {H : Type} {enc : TypeId × Value → H} {w : World} {base : Nat} {v : Value} {d : DataW H} {p : List MemPlace} (h : DataW.Trod enc Try.prog w 0 (fun _ => true) true 22 v d p) (o : Value.okWide Try.prog w .any base 22 v) :
    ∃ A n c R, v = .slice A n c ∧ Acts w A n c R := by
  obtain ⟨a, n, c, rfl⟩ := Go.WideShapes.okWide_slice Try.underlying22 o
  obtain ⟨fuel, hf⟩ := h
  rcases Go.Deep.open_slice Try.underlying22 hf with ⟨hcs, _⟩ | ⟨x, len, cap, m, q, D, Pl, hcs, _, hl, hm, hmm, _, hi⟩
  · simp [Value.cells] at hcs
    obtain ⟨rfl, rfl, rfl⟩ := hcs
    exact ⟨none, 0, 0, [], rfl, rfl, by omega, by omega, by simp, fun h => absurd h (by simp)⟩
  · simp [Value.cells] at hcs
    obtain ⟨rfl, rfl, rfl⟩ := hcs
    have hC : Try.prog.cellsOf 38 = 7 := by kernel_rfl
    have each : ∀ i, i < n → ∃ r : Ac, r.ok ∧ ∀ j u, r.cells[j]? = some u → w.cell? (x.add (i * 7 + j)) = some u := by
      intro i hin
      obtain ⟨cs', hc, ht⟩ := hi i (by rw [hmm]; simp; omega)
      rw [hC] at hc
      obtain ⟨ys, n', _, _, _, hyl, hfl⟩ := DataW.trod_struct Try.underlying38 ht
      obtain ⟨_, hlen, hat⟩ := World.cells?_some hc
      match cs', hlen with
      | [c0, c1, c2, c3, c4, c5, c6], _ =>
        have c3' : Try.prog.cellsOf 3 = 1 := by kernel_rfl
        have c5' : Try.prog.cellsOf 5 = 1 := by kernel_rfl
        have c4' : Try.prog.cellsOf 4 = 1 := by kernel_rfl
        have c28' : Try.prog.cellsOf 36 = 1 := by kernel_rfl
        match ys, hyl with
        | [y0, y1, y2, y3, y4, y5, y6], _ =>
          have e0 : DataW.trod enc Try.prog w 0 (fun _ => true) true n' 3 (([c0, c1, c2, c3, c4, c5, c6].drop 0).take (Try.prog.cellsOf 3)) = some y0 := hfl 0 _ rfl
          rw [c3'] at e0
          have e1 : DataW.trod enc Try.prog w 0 (fun _ => true) true n' 3 (([c0, c1, c2, c3, c4, c5, c6].drop 1).take (Try.prog.cellsOf 3)) = some y1 := hfl 1 _ rfl
          rw [c3'] at e1
          have e2 : DataW.trod enc Try.prog w 0 (fun _ => true) true n' 3 (([c0, c1, c2, c3, c4, c5, c6].drop 2).take (Try.prog.cellsOf 3)) = some y2 := hfl 2 _ rfl
          rw [c3'] at e2
          have e3 : DataW.trod enc Try.prog w 0 (fun _ => true) true n' 3 (([c0, c1, c2, c3, c4, c5, c6].drop 3).take (Try.prog.cellsOf 3)) = some y3 := hfl 3 _ rfl
          rw [c3'] at e3
          have e4 : DataW.trod enc Try.prog w 0 (fun _ => true) true n' 5 (([c0, c1, c2, c3, c4, c5, c6].drop 4).take (Try.prog.cellsOf 5)) = some y4 := hfl 4 _ rfl
          rw [c5'] at e4
          have e5 : DataW.trod enc Try.prog w 0 (fun _ => true) true n' 4 (([c0, c1, c2, c3, c4, c5, c6].drop 5).take (Try.prog.cellsOf 4)) = some y5 := hfl 5 _ rfl
          rw [c4'] at e5
          have e6 : DataW.trod enc Try.prog w 0 (fun _ => true) true n' 36 (([c0, c1, c2, c3, c4, c5, c6].drop 6).take (Try.prog.cellsOf 36)) = some y6 := hfl 6 _ rfl
          rw [c28'] at e6
          obtain ⟨v0, q0, _, w0⟩ := DataW.trod_int (x := y0) Try.underlying3 e0
          obtain ⟨v1, q1, _, w1⟩ := DataW.trod_int (x := y1) Try.underlying3 e1
          obtain ⟨v2, q2, _, w2⟩ := DataW.trod_int (x := y2) Try.underlying3 e2
          obtain ⟨v3, q3, _, w3⟩ := DataW.trod_int (x := y3) Try.underlying3 e3
          obtain ⟨v4, q4, _, w4⟩ := DataW.trod_int (x := y4) Try.underlying5 e4
          obtain ⟨v5, q5, _⟩ := DataW.trod_bool (x := y5) Try.underlying4 e5
          obtain ⟨v6, q6, _, w6⟩ := DataW.trod_int (x := y6) Try.underlying36 e6
          obtain rfl : c0 = _ := by simpa using q0
          obtain rfl : c1 = _ := by simpa using q1
          obtain rfl : c2 = _ := by simpa using q2
          obtain rfl : c3 = _ := by simpa using q3
          obtain rfl : c4 = _ := by simpa using q4
          obtain rfl : c5 = _ := by simpa using q5
          obtain rfl : c6 = _ := by simpa using q6
          have b4 := bounds_u8 w4
          have b6 := bounds_u64 w6
          refine ⟨⟨v0, v1, v2, v3, v4.toNat, v5, v6.toNat⟩, ⟨bounds_i64 w0, bounds_i64 w1, bounds_i64 w2, bounds_i64 w3, by show v4.toNat < 256; omega, by show v6.toNat < 18446744073709551616; omega⟩, fun j u hu => ?_⟩
          have hj : j < 7 := by
            have := (List.getElem?_eq_some_iff.1 hu).1
            simpa [Ac.cells] using this
          have := hat j hj
          rw [Go.Deep.add_add] at this
          rw [this]
          simp only [Ac.cells, Int.toNat_of_nonneg b4.1, Int.toNat_of_nonneg b6.1] at hu
          exact hu
    obtain ⟨f, hf2⟩ := Go.Deep.choose_lt each
    refine ⟨some x, n, c, (List.range n).map f, rfl, by simp, hl, by unfold maxLen at hm; omega, ?_, fun hp => ?_⟩
    · intro r hr
      simp only [List.mem_map, List.mem_range] at hr
      obtain ⟨i, hi', rfl⟩ := hr
      exact (hf2 i hi').1
    · obtain ⟨b, off, spot⟩ := x
      have hc0 := (hf2 0 hp).2 0 _ rfl
      have hspot : spot = none := by simpa [Addr.add] using World.cell?_spot hc0
      subst hspot
      refine ⟨b, off, rfl, ?_, fun k r hr j u hu => ?_⟩
      · have := block_lt_of_cell hc0
        simpa [Addr.add] using this
      · have hk : k < n := by
          have := (List.getElem?_eq_some_iff.1 hr).1
          simpa using this
        simp only [List.getElem?_map, List.getElem?_range hk, Option.map_some, Option.some.injEq] at hr
        subst hr
        have := (hf2 k hk).2 j u hu
        rw [Addr.add_lit] at this
        rw [Nat.add_assoc]
        exact this
end Go.Proofs.Ythgmocipiknfpaa.StgL
namespace Go.Proofs.Ythgmocipiknfpaa.StgV
open Go.RowKit Go.Proofs.Ythgmocipiknfpaa.Kit Go.Proofs.Ythgmocipiknfpaa.Byt Go.Proofs.Ythgmocipiknfpaa.Mem Go.Proofs.Ythgmocipiknfpaa.DskA Go.Proofs.Ythgmocipiknfpaa.DskB Go.Proofs.Ythgmocipiknfpaa.DskD Go.Proofs.Ythgmocipiknfpaa.DskE Go.Proofs.Ythgmocipiknfpaa.DskF Go.Proofs.Ythgmocipiknfpaa.RecM Go.Proofs.Ythgmocipiknfpaa.BitM Go.Proofs.Ythgmocipiknfpaa.BitA Go.Proofs.Ythgmocipiknfpaa.BitB Go.Proofs.Ythgmocipiknfpaa.BitC Go.Proofs.Ythgmocipiknfpaa.StgM Go.Proofs.Ythgmocipiknfpaa.StgP Go.Proofs.Ythgmocipiknfpaa.StgQ Go.Proofs.Ythgmocipiknfpaa.StgI

section
variable {S0 : List (List Nat)} {s : St} {t : Slt} {x y : Rf}
theorem down_B (h : Dn S0 s t x y) (n z : Int) : (pB s t n z = (s, t, (rB x n z).2) ∧ (rB x n z).2 ≠ 8 ∧ (rB x n z).1 = x) ∨ pB s t n z = (s, t, 8) := by
  unfold pB rB
  by_cases hr : (fresh n z).right
  · rw [if_pos hr, put1_down h.down, if_neg (show ¬ ((s, (8 : Int)).2 = 0) from by show ¬ (8 : Int) = 0; omega)]
    exact .inr rfl
  · rw [if_neg hr, if_neg hr]
    exact .inl ⟨rfl, by show (3 : Int) ≠ 8; omega, rfl⟩
theorem down_C (h : Dn S0 s t x y) : pC s t = (s, t, 8) := by
  unfold pC
  rw [put1_down h.down, if_neg (show ¬ ((s, (8 : Int)).2 = 0) from by show ¬ (8 : Int) = 0; omega)]
theorem down_there (h : Dn S0 s t x y) {no : Nat} (hn : no < x.bl.length) : (hb t.g.h no = true ↔ x.bl.getD no [] ≠ []) := by
  rw [h.g]
  rcases h.wf.each no hn with h1 | h1
  · rw [h1.1, h1.2]; simp
  · rw [h1.2]
    refine ⟨fun _ e => ?_, fun _ => rfl⟩
    rw [e] at h1
    exact absurd h1.1 (by simp)
theorem down_P (h : Dn S0 s t x y) (n no : Int) (d : List Nat) : (pP s t n no d = (s, t, (rP x n no d).2) ∧ (rP x n no d).2 ≠ 8 ∧ (rP x n no d).1 = x) ∨ pP s t n no d = (s, t, 8) := by
  unfold pP rP
  rw [h.has]
  by_cases hh : x.has = false
  · rw [if_pos hh, if_pos hh]
    exact .inl ⟨rfl, by show (16 : Int) ≠ 8; omega, rfl⟩
  rw [if_neg hh, if_neg hh]
  have hh' : x.has = true := by simpa using hh
  rw [show t.g.s = x.g.s from by rw [h.g]]
  by_cases hs : n ≠ x.g.s
  · rw [if_pos hs, if_pos hs]
    exact .inl ⟨rfl, by show (17 : Int) ≠ 8; omega, rfl⟩
  rw [if_neg hs, if_neg hs]
  have hl := h.wf.len hh'
  rw [show t.g.z = x.g.z from by rw [h.g], ← hl]
  by_cases hno : no < 0 ∨ (x.bl.length : Int) ≤ no
  · rw [if_pos hno, if_pos hno]
    exact .inl ⟨rfl, by show (3 : Int) ≠ 8; omega, rfl⟩
  rw [if_neg hno, if_neg hno]
  by_cases hd : d.length ≠ 16
  · rw [if_pos hd, if_pos hd]
    exact .inl ⟨rfl, by show (14 : Int) ≠ 8; omega, rfl⟩
  rw [if_neg hd, if_neg hd]
  obtain ⟨k, rfl⟩ : ∃ k : Nat, no = k := ⟨no.toNat, by omega⟩
  have hk : k < x.bl.length := by omega
  rw [show ((k : Int)).toNat = k from by omega]
  by_cases hb1 : hb t.g.h k = true
  · rw [if_pos hb1, if_pos ((down_there h hk).1 hb1)]
    exact .inl ⟨rfl, by show (0 : Int) ≠ 8; omega, rfl⟩
  rw [if_neg hb1, put1_down h.down, if_pos (show (s, (8 : Int)).2 ≠ 0 from by show (8 : Int) ≠ 0; omega)]
  exact .inr rfl
/-- The code's act. -/
def pA (s : St) (t : Slt) (c : Ac) : St × Slt × Int := if c.k = 0 then pB s t c.n c.z else if c.k = 1 then pP s t c.n c.no c.bytes else pC s t
theorem act_up (h : Inv S0 s t x) (c : Ac) (hbc : byt c.bytes) : ((pA s t c).2.2 = (rD x c).2 ∧ (pA s t c).2.2 ≠ 8 ∧ Inv S0 (pA s t c).1 (pA s t c).2.1 (rD x c).1) ∨ ((pA s t c).2.2 = 8 ∧ (rD x c).2 = 0 ∧ (pA s t c).2.1 = t ∧ Dn S0 (pA s t c).1 t x (rD x c).1) := by
  unfold pA rD
  by_cases h0 : c.k = 0
  · rw [if_pos h0, if_pos h0]; exact step_B h c.n c.z
  rw [if_neg h0, if_neg h0]
  by_cases h1 : c.k = 1
  · rw [if_pos h1, if_pos h1]; exact step_P h c.n c.no c.bytes hbc
  rw [if_neg h1, if_neg h1]
  rcases step_C h with h2 | h2
  · exact .inl ⟨h2.1, by rw [h2.1]; omega, h2.2⟩
  · exact .inr ⟨h2.1, rfl, h2.2⟩
theorem act_dn (h : Dn S0 s t x y) (c : Ac) : (pA s t c = (s, t, (rD x c).2) ∧ (rD x c).2 ≠ 8 ∧ (rD x c).1 = x) ∨ pA s t c = (s, t, 8) := by
  unfold pA rD
  by_cases h0 : c.k = 0
  · rw [if_pos h0, if_pos h0]; exact down_B h c.n c.z
  rw [if_neg h0, if_neg h0]
  by_cases h1 : c.k = 1
  · rw [if_pos h1, if_pos h1]; exact down_P h c.n c.no c.bytes
  rw [if_neg h1, if_neg h1]
  exact .inr (down_C h)
/-- The slot, and what it might be. -/
def Lw (S0 : List (List Nat)) (s : St) (t : Slt) (x : Rf) : Option Rf → Prop
  | none => Inv S0 s t x
  | some y => Dn S0 s t x y
theorem Lw.byts {m : Option Rf} (h : Lw S0 s t x m) : Put2.Byts s := by
  cases m with
  | none => exact (show Inv S0 s t x from h).byts
  | some y => exact (show Dn S0 s t x y from h).byts
theorem Lw.wf {m : Option Rf} (h : Lw S0 s t x m) : x.wf := by
  cases m with
  | none => exact (show Inv S0 s t x from h).wf
  | some y => exact (show Dn S0 s t x y from h).wf
theorem Lw.len {m : Option Rf} (h : Lw S0 s t x m) : t.at_ + 4 ≤ s.S.length := by
  cases m with
  | none => exact (show Inv S0 s t x from h).len
  | some y => exact (show Dn S0 s t x y from h).len
theorem Lw.most {m : Option Rf} (h : Lw S0 s t x m) : s.L.length ≤ 1 := by
  cases m with
  | none => rw [(show Inv S0 s t x from h).up.none_]; exact Nat.zero_le _
  | some y => exact (show Dn S0 s t x y from h).most
theorem Lw.down {m : Option Rf} (h : Lw S0 s t x m) : s.down = m.isSome := by
  cases m with
  | none => exact (show Inv S0 s t x from h).up.up
  | some y => exact (show Dn S0 s t x y from h).down
theorem Lw.g {m : Option Rf} (h : Lw S0 s t x m) : t.has = x.has ∧ t.g = x.g := by
  cases m with
  | none => exact ⟨(show Inv S0 s t x from h).has, (show Inv S0 s t x from h).g⟩
  | some y => exact ⟨(show Dn S0 s t x y from h).has, (show Dn S0 s t x y from h).g⟩
theorem Lw.right {m : Option Rf} (h : Lw S0 s t x m) : t.has = true → t.g.right := fun e => by
  rw [h.g.2]
  exact h.wf.right (by rw [← h.g.1]; exact e)
theorem Lw.no {m : Option Rf} (h : Lw S0 s t x m) : t.has = false → t.g = Sg.none := fun e => by
  rw [h.g.2, h.wf.no (by rw [← h.g.1]; exact e)]
  rfl
/-- An act: a code that isn't ErrDown is the document's; else what was being done might be. -/
theorem Lw.act {m : Option Rf} (h : Lw S0 s t x m) (c : Ac) (hbc : byt c.bytes) :
    ((pA s t c).2.2 ≠ 8 → (pA s t c).2.2 = (rD x c).2 ∧ Lw S0 (pA s t c).1 (pA s t c).2.1 (rD x c).1 m) ∧
    ((pA s t c).2.2 = 8 → Lw S0 (pA s t c).1 (pA s t c).2.1 x (if (rD x c).2 = 0 ∧ m = none then some (rD x c).1 else m)) := by
  cases m with
  | none =>
    rcases act_up (show Inv S0 s t x from h) c hbc with ⟨h1, h2, h3⟩ | ⟨h1, h2, h3, h4⟩
    · exact ⟨fun _ => ⟨h1, h3⟩, fun e => absurd e h2⟩
    · refine ⟨fun e => absurd h1 e, fun _ => ?_⟩
      rw [if_pos ⟨h2, rfl⟩, h3]
      exact h4
  | some y =>
    rcases act_dn (show Dn S0 s t x y from h) c with ⟨h1, h2, h3⟩ | h1
    · rw [h1]
      refine ⟨fun _ => ⟨rfl, ?_⟩, fun e => absurd e h2⟩
      rw [h3]
      exact h
    · rw [h1]
      refine ⟨fun e => absurd rfl e, fun _ => ?_⟩
      rw [if_neg (show ¬ ((rD x c).2 = 0 ∧ (some y) = none) from fun e => by cases e.2)]
      exact h
theorem Lw.place {m : Option Rf} (h : Lw S0 s t x m) (c : Ac) : (pA s t c).2.1.p = t.p ∧ (pA s t c).2.1.k = t.k := by
  unfold pA pB pP pC
  repeat' split
  all_goals exact ⟨rfl, rfl⟩
/-- Power comes back. -/
theorem Lw.power {m : Option Rf} (h : Lw S0 s t x m) (K : Nat) :
    (m = none → Inv S0 (power K s) (pO (power K s) t.p t.k) x) ∧
    ∀ y, m = some y → (Inv S0 (power K s) (pO (power K s) t.p t.k) y) ∨ (Inv S0 (power K s) (pO (power K s) t.p t.k) x ∧ ¬ ((pO (power K s) t.p t.k).has = y.has ∧ (pO (power K s) t.p t.k).g = y.g)) := by
  cases m with
  | none => exact ⟨fun _ => power_up (show Inv S0 s t x from h) K, fun y e => (by cases e)⟩
  | some z => exact ⟨fun e => (by cases e), fun y e => (by cases e; exact power_dn (show Dn S0 s t x z from h) K)⟩
theorem Lw.wfm {y : Rf} (h : Lw S0 s t x (some y)) : y.wf := (show Dn S0 s t x y from h).wfy
/-- The fuse of a disk that is up. -/
theorem Lw.fuse (h : Lw S0 s t x none) (f : Int) (lo : -9223372036854775808 ≤ f) (hi : f ≤ 9223372036854775807) : Lw S0 { s with fuse := f } t x none := by
  have h' := (show Inv S0 s t x from h)
  exact (show Inv S0 { s with fuse := f } t x from ⟨⟨h'.up.up, h'.up.none_, ⟨h'.up.ok.pos, h'.up.ok.most, h'.up.ok.sec, h'.up.ok.wait, lo, hi⟩⟩, h'.rep, h'.has, h'.g, h'.wf, h'.len, h'.out, ⟨h'.byts.laid, h'.byts.wait⟩⟩)
theorem Lw.same (h : Lw S0 s t x none) : t.has = x.has ∧ t.g = x.g ∧ pY s t = rY x := ⟨h.g.1, h.g.2, same_Y (show Inv S0 s t x from h)⟩
/-- Behind the last act: the other sectors are as they were. -/
theorem Lw.last {m : Option Rf} (h : Lw S0 s t x m) (K : Nat) : (DskE.power K s).S.length = S0.length ∧ ∀ i, i < t.at_ ∨ t.at_ + 4 ≤ i → (DskE.power K s).S.getD i [] = S0.getD i [] := by
  cases m with
  | none =>
    have h' := (show Inv S0 s t x from h)
    have hS : (DskE.power K s).S = s.S := by rw [power_S, h'.up.none_]; rfl
    rw [hS]
    exact h'.out
  | some y => exact (show Dn S0 s t x y from h).out K
end
end Go.Proofs.Ythgmocipiknfpaa.StgV
namespace Go.Proofs.Ythgmocipiknfpaa.StgX
open Go.RowKit Go.Proofs.Ythgmocipiknfpaa.Kit Go.Proofs.Ythgmocipiknfpaa.Byt Go.Proofs.Ythgmocipiknfpaa.Mem Go.Proofs.Ythgmocipiknfpaa.DskA Go.Proofs.Ythgmocipiknfpaa.DskE Go.Proofs.Ythgmocipiknfpaa.RecM Go.Proofs.Ythgmocipiknfpaa.StgM Go.Proofs.Ythgmocipiknfpaa.StgP Go.Proofs.Ythgmocipiknfpaa.StgI Go.Proofs.Ythgmocipiknfpaa.StgA Go.Proofs.Ythgmocipiknfpaa.StgB Go.Proofs.Ythgmocipiknfpaa.StgD Go.Proofs.Ythgmocipiknfpaa.StgN Go.Proofs.Ythgmocipiknfpaa.StgV

/-- A slot of the document's own that nothing of the disk and its slot touches. -/
def Ro (w : World) (F J : Nat → Prop) (b : Nat) (x : Rf) : Prop := ∃ H N, RSl w H N b x ∧ ∀ i, H i ∨ N i → ¬ (F i ∨ J i)
theorem RSl.lt {w : World} {H N : Nat → Prop} {b : Nat} {x : Rf} (h : RSl w H N b x) : ∀ i, H i ∨ N i → i < w.heap.size := by
  obtain ⟨E, A, n, c, h⟩ := h
  intro i hi
  rcases hi with hi | hi
  · exact h.hlt i hi
  · exact h.nlt i hi
section
variable {w0 w w' : World} {F J F' J' : Nat → Prop} {b : Nat} {x : Rf}
theorem Ro.below (h : Ro w F J b x) (hb : Below w.heap.size w w') : Ro w' F J b x := by
  obtain ⟨H, N, h1, h2⟩ := h
  exact ⟨H, N, h1.below hb, h2⟩
theorem Ro.step (h : Ro w F J b x) (hk : Keep (fun i => F i ∨ J i) w w') (hg : ∀ i, F' i ∨ J' i → (F i ∨ J i) ∨ w.heap.size ≤ i) : Ro w' F' J' b x := by
  obtain ⟨H, N, h1, h2⟩ := h
  refine ⟨H, N, h1.keep hk (fun i hi => h2 i (.inl hi)) (fun i hi => h2 i (.inr hi)), fun i hi hh => ?_⟩
  rcases hg i hh with h3 | h3
  · exact h2 i hi h3
  · have := RSl.lt h1 i hi
    omega
/-- What might be, and where. -/
def Mo (w : World) (F J : Nat → Prop) : Option Rf → Option Nat → Prop
  | none, none => True
  | some y, some b => Ro w F J b y
  | _, _ => False
theorem Mo.below {m : Option Rf} {q : Option Nat} (h : Mo w F J m q) (hb : Below w.heap.size w w') : Mo w' F J m q := by
  cases m <;> cases q
  · exact trivial
  · exact h
  · exact h
  · exact Ro.below (show Ro w F J _ _ from h) hb
theorem Mo.step {m : Option Rf} {q : Option Nat} (h : Mo w F J m q) (hk : Keep (fun i => F i ∨ J i) w w') (hg : ∀ i, F' i ∨ J' i → (F i ∨ J i) ∨ w.heap.size ≤ i) : Mo w' F' J' m q := by
  cases m <;> cases q
  · exact trivial
  · exact h
  · exact h
  · exact Ro.step (show Ro w F J _ _ from h) hk hg
/-- A copy in a box of its own. -/
theorem copy_rs {H N : Nat → Prop} {a n c n' c' : Nat} {E : List Sl} {A A' : Option Addr} (h : RS w H N a x E A n c) (ho : w'.ownsRow w.heap.size 43 1 (.slice A' n' c') n' (E.map Sl.val)) (hb : Below w.heap.size w w') :
    ∃ H2, RSl (w'.alloc (.cells (hd x A' n' c').toArray 35)) H2 N w'.heap.size x ∧ ∀ i, H2 i → w.heap.size ≤ i := by
  have hs := hb.size
  have hb2 : Below w'.heap.size w' (w'.alloc (.cells (hd x A' n' c').toArray 35)) := (Below.refl _ _).alloc (Nat.le_refl _) _
  have hsz : (w'.alloc (.cells (hd x A' n' c').toArray 35)).heap.size = w'.heap.size + 1 := by simp
  refine ⟨fun i => i = w'.heap.size ∨ (Value.slice A' n' c').ownBlock = some i, ⟨E, A', n', c', ⟨Blk.new w' 35 (hd x A' n' c'), own_mono1 (own_below ho hb2) (Nat.zero_le _), h.bl, fun e he => ⟨((h.ent e he).1.below hb).below hb2, (h.ent e he).2⟩, .inl rfl, fun k hk => ⟨.inr hk, ?_⟩, fun k hk => ?_, fun k hk => ?_, fun k hk hn => ?_⟩⟩, fun i hi => ?_⟩
  · have := (ho.lt k hk).2
    omega
  · rcases hk with rfl | hk
    · omega
    · have := (ho.lt k hk).2
      omega
  · have := h.nlt k hk
    omega
  · have h1 := h.nlt k hn
    rcases hk with rfl | hk
    · omega
    · have := (ho.lt k hk).1
      omega
  · rcases hi with rfl | hi
    · exact hs
    · exact (ho.lt i hi).1
/-- A copy that was worked on is one that nothing touches. -/
theorem Ro.of {wb : World} {N H2 : Nat → Prop} {v : Value} {e : Ending} {x' : Rf} (h : Rgo H2 N b w v x' e w') (hH2 : ∀ i, H2 i → wb.heap.size ≤ i) (hN : ∀ i, N i → ¬ (F i ∨ J i)) (hF : ∀ i, F i ∨ J i → i < wb.heap.size) (hs : wb.heap.size ≤ w.heap.size) :
    e = .returned v ∧ Ro w' F J b x' ∧ Keep H2 w w' := by
  obtain ⟨he, H', N', h1, h2, h3, h4⟩ := h
  refine ⟨he, ⟨H', N', h1, fun i hi hh => ?_⟩, h2⟩
  have hlt := hF i hh
  rcases hi with hi | hi
  · rcases h3 i hi with h5 | h5
    · have := hH2 i h5; omega
    · omega
  · rcases h4 i hi with h5 | h5
    · exact hN i h5 hh
    · omega
end
/-- All of it. -/
structure Al (w0 w : World) (F J : Nat → Prop) (g a ax : Nat) (s : St) (t : Slt) (x : Rf) (m : Option Rf) (q : Option Nat) : Prop where
  ds : DS w F J g a s t
  rx : Ro w F J ax x
  mo : Mo w F J m q
  low : ∀ i, F i ∨ J i → w0.heap.size ≤ i
  bel : Below w0.heap.size w0 w
section
variable {w0 w w' : World} {F J : Nat → Prop} {g a ax : Nat} {s s' : St} {t t' : Slt} {x : Rf} {m : Option Rf} {q : Option Nat}
theorem Al.below (h : Al w0 w F J g a ax s t x m q) (hb : Below w.heap.size w w') : Al w0 w' F J g a ax s t x m q :=
  ⟨⟨h.ds.dk.below hb, h.ds.sm.keep (Keep.of_below (F := fun _ => False) hb) (fun _ _ h => h), h.ds.dis, h.ds.most, h.ds.fits⟩, h.rx.below hb, h.mo.below hb, h.low, h.bel.trans (hb.mono h.bel.size)⟩
theorem Al.lt (h : Al w0 w F J g a ax s t x m q) : ∀ i, F i ∨ J i → i < w.heap.size := by
  intro i hi
  rcases hi with hi | hi
  · exact h.ds.dk.lt i hi
  · exact h.ds.sm.lt i hi
theorem Al.newer (h : Al w0 w F J g a ax s t x m q) {D : Option Addr} (hD : ∀ i o, D = some ⟨i, o, none⟩ → w.heap.size ≤ i) : ∀ b o, D = some ⟨b, o, none⟩ → ¬ (F b ∨ J b) := fun b o e hh => by
  have h1 := hD b o e
  have h2 := h.lt b hh
  omega
/-- A call on the slot. -/
theorem Al.step {v : Value} {e : Ending} (h : Al w0 w F J g a ax s t x m q) (hg : Sgo F J g a w v s' t' e w') (hp : t'.p = t.p) (hk : t'.k = t.k) (hl : t'.at_ + 4 ≤ s'.S.length) (hm : s'.L.length ≤ 1) :
    e = .returned v ∧ ∃ F' J', Al w0 w' F' J' g a ax s' t' x m q ∧ Keep (fun i => F i ∨ J i) w w' ∧ (∀ i, F' i ∨ J' i → (F i ∨ J i) ∨ w.heap.size ≤ i) := by
  obtain ⟨he, F', J', h1, h2, h3, h4, h5, h6⟩ := hg
  have hs := h.bel.size
  have hgo : ∀ i, F' i ∨ J' i → (F i ∨ J i) ∨ w.heap.size ≤ i := fun i hi => by
    rcases hi with hi | hi
    · exact h5 i hi
    · exact h6 i hi
  refine ⟨he, F', J', ⟨⟨h1, h2, h3, by omega, by rw [hp]; exact h.ds.fits.1, by rw [hk]; exact h.ds.fits.2.1, hl⟩, h.rx.step h4 hgo, h.mo.step h4 hgo, fun i hi => ?_, h.bel.trans (h4.below h.low hs)⟩, h4, hgo⟩
  rcases hgo i hi with h7 | h7
  · exact h.low i h7
  · omega
/-- A call on the disk alone. -/
theorem got_sgo {v : Value} {e : Ending} (h : DS w F J g a s t) (hg : Got F g w v s' e w') : Sgo F J g a w v s' t e w' := by
  obtain ⟨he, F', h1, h2, h3⟩ := hg
  refine ⟨he, F', J, h1, h.sm.keep h2 (fun i hj hf => h.dis i hf hj), fun i hf hj => ?_, h2.mono (fun _ _ h => .inl h), fun i hi => (h3 i hi).imp .inl id, fun i hi => .inl (.inr hi)⟩
  rcases h3 i hf with h4 | h4
  · exact h.dis i h4 hj
  · have := h.sm.lt i hj
    omega
theorem Ro.again {J' : Nat → Prop} {b : Nat} (h : Ro w F J b x) (hJ : ∀ i, J' i → w.heap.size ≤ i) (hb : Below w.heap.size w w') : Ro w' F J' b x := by
  obtain ⟨H, N, h1, h2⟩ := h
  refine ⟨H, N, h1.below hb, fun i hi hh => ?_⟩
  rcases hh with hh | hh
  · exact h2 i hi (.inl hh)
  · have := hJ i hh
    have := RSl.lt h1 i hi
    omega
/-- The slot is opened again. -/
theorem Al.reopen {J' : Nat → Prop} {an : Nat} (h : Al w0 w F J g a ax s t x m q) (hS : Sm w' J' an g t') (hJ : ∀ i, J' i → w.heap.size ≤ i) (hb : Below w.heap.size w w') (hf : t'.p ≤ 3 ∧ t'.k ≤ 1 ∧ t'.at_ + 4 ≤ s.S.length) : Al w0 w' F J' g an ax s t' x m q := by
  have hs := h.bel.size
  refine ⟨⟨h.ds.dk.below hb, hS, fun i h1 h2 => ?_, h.ds.most, hf⟩, h.rx.again hJ hb, ?_, fun i hi => ?_, h.bel.trans (hb.mono hs)⟩
  · have := hJ i h2
    have := h.ds.dk.lt i h1
    omega
  · have hm := h.mo
    cases m <;> cases q
    · exact trivial
    · exact hm
    · exact hm
    · exact Ro.again (show Ro w F J _ _ from hm) hJ hb
  · rcases hi with hi | hi
    · exact h.low i (.inl hi)
    · have := hJ i hi
      omega
end
end Go.Proofs.Ythgmocipiknfpaa.StgX
