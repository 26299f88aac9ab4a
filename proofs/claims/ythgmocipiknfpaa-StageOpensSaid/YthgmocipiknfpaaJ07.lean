/- When a record is right, by the code: one of the last ways. Conditions: those the law names. When a record is right, by the code: one of the last ways. Conditions: those the law names. When a record is right, by the code: one of the last ways. Conditions: those the law names. When a record is right, by the code. No conditions. When a record is right, by the reference. Conditions: its numbers are of 64 bits. Small facts on a record's box and bytes that are written out. No conditions. Two slices of bytes held against each other by the reference. Conditions: each slice reads as the list that is named. What is wrong with a sector, by the reference. Conditions: the slice reads as the bytes that are named. A region that draws its order: operations that only read, and calls that only draw (or what else the class of worlds bears), and behind them all a chain of operations that may do what they like. Over any program; some operations may have been taken already. On the kit's own laws of quiet operations and of tails. The reference's reader: bytes, a number. Conditions: the reader's block is known, and its bytes read as the list that is named. The record and the stage that a sector tells, by the reference. Conditions: the slice reads as the bytes that are named. The stage that a sector tells, by the reference. Conditions: the slice reads as the bytes that are named. -/
import Derived.Test.YthgmocipiknfpaaJ04
import Derived.Test.YthgmocipiknfpaaJ01
import Derived.Deep.Quiet
import Derived.Deep.QuietTactic
import Derived.BigQuiet
import Derived.StillTail
import Derived.Test.YthgmocipiknfpaaTabR
namespace Go.Proofs.Ythgmocipiknfpaa.RecG
open Go.RowKit Go.Proofs.Ythgmocipiknfpaa.Kit Go.Proofs.Ythgmocipiknfpaa.Byt Go.Proofs.Ythgmocipiknfpaa.Mem Go.Proofs.Ythgmocipiknfpaa.RecM Go.Proofs.Ythgmocipiknfpaa.RecA
end Go.Proofs.Ythgmocipiknfpaa.RecG
namespace Go.Proofs.Ythgmocipiknfpaa.RecG
open Go.RowKit Go.Proofs.Ythgmocipiknfpaa.Kit Go.Proofs.Ythgmocipiknfpaa.Byt Go.Proofs.Ythgmocipiknfpaa.Mem Go.Proofs.Ythgmocipiknfpaa.RecM Go.Proofs.Ythgmocipiknfpaa.RecA
end Go.Proofs.Ythgmocipiknfpaa.RecG
namespace Go.Proofs.Ythgmocipiknfpaa.RecG
open Go.RowKit Go.Proofs.Ythgmocipiknfpaa.Kit Go.Proofs.Ythgmocipiknfpaa.Byt Go.Proofs.Ythgmocipiknfpaa.Mem Go.Proofs.Ythgmocipiknfpaa.RecM Go.Proofs.Ythgmocipiknfpaa.RecA
end Go.Proofs.Ythgmocipiknfpaa.RecG
namespace Go.Proofs.Ythgmocipiknfpaa.RecG
open Go.RowKit Go.Proofs.Ythgmocipiknfpaa.Kit Go.Proofs.Ythgmocipiknfpaa.Byt Go.Proofs.Ythgmocipiknfpaa.Mem Go.Proofs.Ythgmocipiknfpaa.RecM Go.Proofs.Ythgmocipiknfpaa.RecA
end Go.Proofs.Ythgmocipiknfpaa.RecG
namespace Go.Proofs.Ythgmocipiknfpaa.RecB
open Go.RowKit Go.Proofs.Ythgmocipiknfpaa.Kit Go.Proofs.Ythgmocipiknfpaa.Byt Go.Proofs.Ythgmocipiknfpaa.Mem Go.Proofs.Ythgmocipiknfpaa.RecM Go.Proofs.Ythgmocipiknfpaa.RecA


end Go.Proofs.Ythgmocipiknfpaa.RecB
namespace Go.Proofs.Ythgmocipiknfpaa.RecD
open Go.RowKit Go.Proofs.Ythgmocipiknfpaa.Kit Go.Proofs.Ythgmocipiknfpaa.Byt Go.Proofs.Ythgmocipiknfpaa.Mem Go.Proofs.Ythgmocipiknfpaa.RecM Go.Proofs.Ythgmocipiknfpaa.RecA Go.Proofs.Ythgmocipiknfpaa.RecC

theorem own_lit {w : World} (xs : List Nat) {n : Nat} (hn : xs.length = n) (h63 : n ≤ 1000) : (w.alloc (.cells (u8n xs).toArray 5)).ownsRow w.heap.size 5 1 (.slice (some ⟨w.heap.size, 0, none⟩) n n) n (u8n xs) := by
  have h := own_of_block (w := w.alloc (.cells (u8n xs).toArray 5)) (g := w.heap.size) (cur := u8n xs) (e := 5) (base := w.heap.size) (n := n) (heap_alloc_new w _) (Nat.le_refl _) (by rw [u8n_len]; omega) (by rw [u8n_len]; omega)
  rw [u8n_len, hn, List.take_of_length_le (by rw [u8n_len]; omega)] at h
  exact h
theorem Bx.cells6 {w wr : World} {g : Nat} {t : TypeId} {r : Rc} (h : Bx w g t (rcells r) wr) : wr.cell? ⟨g, 0, none⟩ = some (.int .i64 r.p) ∧ wr.cell? ⟨g, 1, none⟩ = some (.int .i64 r.q) ∧ wr.cell? ⟨g, 2, none⟩ = some (.int .i64 r.a) ∧ wr.cell? ⟨g, 3, none⟩ = some (.int .i64 r.c) ∧ wr.cell? ⟨g, 4, none⟩ = some (.int .i64 r.l) ∧ wr.cell? ⟨g, 5, none⟩ = some (.int .i64 r.b) :=
  ⟨h.blk.cell rfl, h.blk.cell rfl, h.blk.cell rfl, h.blk.cell rfl, h.blk.cell rfl, h.blk.cell rfl⟩
theorem Bx.cells3 {w wr : World} {g : Nat} {t : TypeId} {r : Sg} (h : Bx w g t (scells r) wr) : wr.cell? ⟨g, 0, none⟩ = some (.int .i64 r.s) ∧ wr.cell? ⟨g, 1, none⟩ = some (.int .i64 r.z) ∧ wr.cell? ⟨g, 2, none⟩ = some (.int .i64 r.h) :=
  ⟨h.blk.cell rfl, h.blk.cell rfl, h.blk.cell rfl⟩
end Go.Proofs.Ythgmocipiknfpaa.RecD
namespace Go.Proofs.Ythgmocipiknfpaa.Same
open Go.RowKit Go.Proofs.Ythgmocipiknfpaa.Kit Go.Proofs.Ythgmocipiknfpaa.Byt

abbrev u8s (xs : List Int) : List Value := xs.map (Value.int .u8)
theorem u8s_one (xs : List Int) : ∀ u ∈ u8s xs, u.oneCell' = true := ints_oneCell _ _

theorem u8s_len (xs : List Int) : (u8s xs).length = xs.length := List.length_map ..
theorem Rd.bytes {w : World} {A : Option Addr} {n c : Nat} {xs : List Int} (h : Rd w A n c (u8s xs)) : xs.length = n := by have := h.len; rwa [u8s_len] at this
theorem Rd.byte {w : World} {A : Option Addr} {n c : Nat} {xs : List Int} (h : Rd w A n c (u8s xs)) {k : Nat} (hk : k < xs.length) : ∃ b o, A = some ⟨b, o, none⟩ ∧ w.cell? ⟨b, o + k, none⟩ = some (.int .u8 xs[k]) := by
  obtain ⟨b, o, hA, hc⟩ := Rd.at_ h (k := k) (by have := Rd.bytes h; omega)
  exact ⟨b, o, hA, by simpa using hc⟩

set_option maxHeartbeats 400000 in
theorem same_any (A B : Option Addr) (n m c d : Nat) (xs ys : List Int) (w : World) (hx : Rd w A n c (u8s xs)) (hy : Rd w B m d (u8s ys)) :
    Calls Try.prog 22 #[.slice A n c, .slice B m d] w fun e w' => e = .returned (.bool (decide (xs = ys))) ∧ ∃ n, w' = w.drewN n := by
  obtain rfl := Rd.bytes hx
  obtain rfl := Rd.bytes hy
  have lx : xs.length ≤ 9223372036854775807 := by have := hx.le; have := hx.cap; omega
  have ly : ys.length ≤ 9223372036854775807 := by have := hy.le; have := hy.cap; omega
  by_cases hl : xs.length = ys.length
  · go_enter Try.func22, Try.ntmps22
    go_wp2
    go_loopw [5] (fun i wr => ∃ k : Nat, k ≤ xs.length ∧ i = .int .i64 k ∧ (∃ n, wr = w.drewN n) ∧ xs.take k = ys.take k) (fun i _ => xs.length - (intOf i).toNat)
    case atStart => exact ⟨0, Nat.zero_le _, rfl, ⟨0, rfl⟩, rfl⟩
    case round =>
      obtain ⟨k, hk, rfl, ⟨n, rfl⟩, he⟩ := hrel
      by_cases hlt : k < xs.length
      · obtain ⟨bx, ox, rfl, gx⟩ := Rd.byte hx hlt
        obtain ⟨by', oy, rfl, gy⟩ := Rd.byte hy (k := k) (by omega)
        have hlt' : k < ys.length := by omega
        go_wp2_with fail
        go_quiet (fail)
        go_wp2
        · have h : (xs[k] != ys[k]) = true := by assumption
          go_ret
          refine ⟨?_, _, World.drewN_drewN _ _ _⟩
          have hne : ¬ xs = ys := by
            intro hh; subst hh; simp at h
          simp [hne]
        · have h : (xs[k] != ys[k]) = false := by assumption
          go_roundw
          case rel =>
            refine ⟨k + 1, by omega, by go_num, ⟨_, rfl⟩, ?_⟩
            have h' : xs[k] = ys[k] := by simpa using h
            rw [List.take_succ_eq_append_getElem hlt, List.take_succ_eq_append_getElem hlt', he, h']
          case measure => simp [intOf]; omega
      · go_wp2
        go_ret
        refine ⟨?_, n, rfl⟩
        have hxy : xs = ys := by
          rw [List.take_of_length_le (by omega), List.take_of_length_le (by omega)] at he
          exact he
        simp [hxy]
  · have hne : ((xs.length : Int) != (ys.length : Int)) = true := by simp; omega
    go_enter Try.func22, Try.ntmps22
    go_wp2
    go_ret
    have : ¬ xs = ys := fun h => hl (by rw [h])
    exact ⟨by simp [this], 0, rfl⟩

theorem same_yes {A B : Option Addr} {n m c d : Nat} {xs : List Int} {w : World} (hx : Rd w A n c (u8s xs)) (hy : Rd w B m d (u8s xs)) :
    Calls Try.prog 22 #[.slice A n c, .slice B m d] w fun e w' => e = .returned (.bool true) ∧ ∃ n, w' = w.drewN n :=
  (same_any A B n m c d xs xs w hx hy).mono fun e w' h => ⟨by rw [h.1]; simp, h.2⟩

theorem u8n_u8s (xs : List Nat) : u8n xs = u8s (xs.map fun n : Nat => (n : Int)) := by simp [u8n, u8s]
theorem nat_inj {xs ys : List Nat} (h : xs.map (fun n : Nat => (n : Int)) = ys.map (fun n : Nat => (n : Int))) : xs = ys :=
  List.map_inj_right (f := fun n : Nat => (n : Int)) (fun _ _ h => Int.ofNat.inj h) |>.1 h
/-- Of bytes as numbers. -/
theorem same_n {A B : Option Addr} {n m c d : Nat} {xs ys : List Nat} {w : World} (hx : Rd w A n c (u8n xs)) (hy : Rd w B m d (u8n ys)) :
    Calls Try.prog 22 #[.slice A n c, .slice B m d] w fun e w' => e = .returned (.bool (decide (xs = ys))) ∧ ∃ n, w' = w.drewN n := by
  rw [u8n_u8s] at hx hy
  refine (same_any A B n m c d _ _ w hx hy).mono fun e w' h => ⟨?_, h.2⟩
  rw [h.1]
  congr 2
  rw [Bool.eq_iff_iff]
  simp only [decide_eq_true_eq]
  exact ⟨nat_inj, fun h => by rw [h]⟩

end Go.Proofs.Ythgmocipiknfpaa.Same
namespace Go.Proofs.Ythgmocipiknfpaa.RecE
open Go.RowKit Go.Proofs.Ythgmocipiknfpaa.Kit Go.Proofs.Ythgmocipiknfpaa.Byt Go.Proofs.Ythgmocipiknfpaa.Mem Go.Proofs.Ythgmocipiknfpaa.RecM Go.Proofs.Ythgmocipiknfpaa.RecA Go.Proofs.Ythgmocipiknfpaa.RecC Go.Proofs.Ythgmocipiknfpaa.RecD

theorem zeros_iff {xs : List Nat} {i : Nat} (h : xs.length = 64) (hi : i ≤ 64) : xs.drop i = List.replicate (64 - i) 0 ↔ ∀ j, i ≤ j → j < 64 → xs.getD j 0 = 0 := by
  constructor
  · intro e j h1 h2
    have e2 : (xs.drop i)[j - i]? = (List.replicate (64 - i) 0)[j - i]? := by rw [e]
    rw [List.getElem?_drop, List.getElem?_replicate, if_pos (by omega)] at e2
    have e3 : i + (j - i) = j := by omega
    rw [e3] at e2
    rw [List.getD_eq_getElem?_getD, e2]
    rfl
  · intro e
    apply List.ext_getElem
    · simp; omega
    · intro k h1 h2
      simp at h1 h2
      have h3 := e (i + k) (by omega) (by omega)
      rw [List.getD_eq_getElem?_getD, List.getElem?_eq_getElem (by omega)] at h3
      simpa using h3
theorem take2 {xs : List Nat} (h : xs.length = 64) : xs.take 2 = [xs.getD 0 0, xs.getD 1 0] := by
  match xs, h with
  | a :: b :: l, _ => simp

end Go.Proofs.Ythgmocipiknfpaa.RecE
namespace Go.Proofs.Ythgmocipiknfpaa.QTail
open Go.RowKit

section
variable {P : Program} {ops : Array Oper} {md : Region.Mode} {C : World → Prop}

/-- Each operation ahead of n was taken, or another one up to n waits for it. -/
def sinks (md : Region.Mode) (ops : Array Oper) (n : Nat) (l0 : Array Bool) : Bool :=
  (List.range n).all fun i => l0.getD i true || (List.range (n + 1)).any fun j => decide (i < j) && Region.waitsFor md ops j i

theorem waits {n : Nat} {l0 listed : Array Bool} (hs : sinks md ops n l0 = true) (hc : Region.chainB md ops n = true) (h0 : ∀ i, l0.getD i true = true → listed.getD i true = true) (inv : HeadInv md ops n listed) :
    ∀ d i : Nat, n - i ≤ d → i < n → listed.getD i true = false → ∀ t, n ≤ t → t ∉ Region.ready md ops listed := by
  intro d
  induction d with
  | zero => intro i hd hi; omega
  | succ d ih =>
    intro i hd hi hun t ht hr
    obtain ⟨_, ot, hot, hall⟩ := mem_ready.1 hr
    have hno : ∀ k, Region.waitsFor md ops t k = true → listed.getD k true = false → False := fun k hk hu => by
      obtain ⟨o', ho', e, he, hb, hon⟩ := Region.waitsFor_spec hk
      obtain rfl : o' = ot := Option.some.inj (ho'.symm.trans hot)
      have h2 := hall e he hb
      rw [hon, getD_both hu] at h2
      cases h2
    rcases Nat.lt_or_ge n t with htn | htn
    · have htl : t < ops.size := (Array.getElem?_eq_some_iff.1 hot).1
      have h1 := List.all_eq_true.1 hc t (List.mem_range.2 htl)
      simp only [Bool.or_eq_true, decide_eq_true_eq] at h1
      rcases h1 with h1 | h1
      · omega
      · exact hno _ h1 (inv.tail (t - 1) (by omega) (by omega))
    · obtain rfl : t = n := by omega
      have h1 := List.all_eq_true.1 hs i (List.mem_range.2 hi)
      have hi0 : l0.getD i true = false := by
        cases h : l0.getD i true with
        | false => rfl
        | true => rw [h0 i h] at hun; cases hun
      rw [hi0, Bool.false_or] at h1
      obtain ⟨j, hj, hj2⟩ := List.any_eq_true.1 h1
      simp only [Bool.and_eq_true, decide_eq_true_eq] at hj2
      have hjn : j ≤ t := by have := List.mem_range.1 hj; omega
      by_cases hjt : j = t
      · subst hjt; exact hno _ hj2.2 hun
      · cases hl : listed.getD j true with
        | false => exact ih j (by omega) (by omega) hl t (Nat.le_refl _) hr
        | true =>
          obtain ⟨oj, hoj, e, he, hb, hon⟩ := Region.waitsFor_spec hj2.2
          have hjs : j < listed.size := by rw [inv.size]; exact (Array.getElem?_eq_some_iff.1 hoj).1
          have hl' : listed.getD j false = true := by simpa [hjs] using hl
          have h2 := inv.closed j oj hoj hl' e he hb
          rw [hon, getD_both hun] at h2
          cases h2

/-- Whatever order is picked while the head lasts. -/
def anyQ (P : Program) (md : Region.Mode) (ops : Array Oper) (C : World → Prop) (n : Nat) (L : Array Bool → Act → Prop) : Nat → Array Bool → Act → Prop
  | 0, listed, a => L listed a
  | f + 1, listed, a => Region.ready md ops listed ≠ [] ∧ ∀ i ∈ Region.ready md ops listed, i < n ∧ qOp P ops C i (anyQ P md ops C n L f (listed.setIfInBounds i true)) a

theorem any_of {n g : Nat} {L : Array Bool → Act → Prop} {Q' : Exit → Act → World → Prop} (hL : ∀ listed a w, C w → L listed a → wpAny P md ops Q' g listed a w) :
    ∀ (f : Nat) (listed : Array Bool) (a : Act) (w : World), C w → anyQ P md ops C n L f listed a → wpAny P md ops Q' (f + g) listed a w
  | 0, listed, a, w, hC, h => by rw [Nat.zero_add]; exact hL _ _ _ hC h
  | f + 1, listed, a, w, hC, h => by
    rw [show f + 1 + g = (f + g) + 1 by omega]
    exact ⟨fun h0 => absurd h0 h.1, fun i hi => wpOp_of_qOp hC (fun a' w' hC' h' => any_of hL f _ a' w' hC' h') (h.2 i hi).2⟩

theorem anyQ_first {n i : Nat} {oi : Oper} {v : Value} {L : Array Bool → Act → Prop} {l0 : Array Bool} (hi : ops[i]? = some oi) (hsel : ∀ (j : Nat) (o : Oper) cs b, ops[j]? = some o → o.op ≠ .select cs b)
    (hs : sinks md ops n l0 = true) (hc : Region.chainB md ops n = true) (hin : i < n) (hdone : ∀ listed a, L listed a → ∀ j ∈ Region.ready md ops listed, n ≤ j) :
    ∀ (f : Nat) (listed : Array Bool) (a : Act), HeadInv md ops n listed → (∀ i, l0.getD i true = true → listed.getD i true = true) →
      (∀ j oj, ops[j]? = some oj → j ≠ i → listed.getD j true = false → (∀ e ∈ oj.after, Region.binds md e = true → e.on ≠ i) → oi.apart ops oj = true) →
      i ∈ Region.ready md ops listed → YieldsIn P ops C oi v a →
      anyQ P md ops C n L f (listed.setIfInBounds i true) (a.put oi.dst v) → anyQ P md ops C n L (f + 1) listed a := by
  intro f
  induction f with
  | zero =>
    intro listed a inv h0 _ hr hy H
    refine ⟨fun h => (by rw [h] at hr; cases hr), fun j hj => ?_⟩
    have hjn : j < n := Nat.lt_of_not_ge fun h => waits hs hc h0 inv _ i (Nat.le_refl _) hin (mem_ready.1 hr).1 j h hj
    refine ⟨hjn, ?_⟩
    by_cases hji : j = i
    · subst hji; exact hy.qOp hi H
    · have := hdone _ _ H j (ready_mono hj hji)
      omega
  | succ f ih =>
    intro listed a inv h0 hfree hr hy H
    refine ⟨fun h => (by rw [h] at hr; cases hr), fun j hj => ?_⟩
    have hjn : j < n := Nat.lt_of_not_ge fun h => waits hs hc h0 inv _ i (Nat.le_refl _) hin (mem_ready.1 hr).1 j h hj
    refine ⟨hjn, ?_⟩
    by_cases hji : j = i
    · subst hji; exact hy.qOp hi H
    · obtain ⟨hjun, oj, hoj, hall⟩ := mem_ready.1 hj
      have hnot : ∀ e ∈ oj.after, Region.binds md e = true → e.on ≠ i := fun e he hb heq => by
        have h1 := hall e he hb
        rw [heq, getD_both (mem_ready.1 hr).1] at h1
        cases h1
      have hgo := qOp_put hoj (hfree j oj hoj hji hjun hnot) (fun cs b => hsel i oi cs b hi) (fun cs b => hsel j oj cs b hoj) hy (H.2 j (ready_mono hj hji)).2
      refine qOp_mono (fun a' h3 => ih (listed.setIfInBounds j true) a' (inv.set hj hjn) (fun k hk => ?_) (fun k ok hk hki hun hno => hfree k ok hk hki ?_ hno) (ready_mono hr (Ne.symm hji)) h3.1 ?_) hgo
      · by_cases hjk : j = k
        · subst hjk
          by_cases hb : j < listed.size
          · simp [hb]
          · simp [hb]
        · rw [getD_set_ne true hjk]; exact h0 k hk
      · by_cases hjk : j = k
        · subst hjk; exact hjun
        · rw [getD_set_ne true hjk] at hun; exact hun
      · rw [Array.setIfInBounds_comm _ _ hji]
        exact h3.2

/-- The head's order, by its numbers; behind it the chain. -/
def lexI (md : Region.Mode) (ops : Array Oper) (n g : Nat) : List Nat → Array Bool → Bool
  | [], listed => Region.seqB md ops g n listed
  | i :: is, listed => decide (i < n) && (Region.ready md ops listed).contains i && Region.free md ops listed i && lexI md ops n g is (listed.setIfInBounds i true)
/-- The walk over the head. -/
def wpQI (P : Program) (ops : Array Oper) (C : World → Prop) (L : Act → Prop) : List Nat → Act → Prop
  | [], a => L a
  | i :: is, a => qOp P ops C i (wpQI P ops C L is) a
theorem wpQI_nil {L : Act → Prop} {a : Act} (h : L a) : wpQI P ops C L [] a := h
theorem wpQI_step {L : Act → Prop} {a : Act} {i : Nat} {is : List Nat} {o : Oper} (hi : ops[i]? = some o)
    (h : ∀ K : Act → Prop, (∀ a, wpQI P ops C L is a → K a) → if Region.wanted o (yielded ops a.tmps) then o.quiet P a C K else K (a.put o.dst undef)) : wpQI P ops C L (i :: is) a := by
  show qOp P ops C i _ a
  unfold qOp
  simp only [hi]
  exact h _ fun _ h => h

theorem anyQ_lex {n g : Nat} {Lq : Act → Prop} {l0 : Array Bool} (hsel : Region.noSelect ops = true) (hs : sinks md ops n l0 = true) (hc : Region.chainB md ops n = true) :
    ∀ (is : List Nat) (listed : Array Bool) (a : Act), HeadInv md ops n listed → (∀ i, l0.getD i true = true → listed.getD i true = true) →
    lexI md ops n g is listed = true → wpQI P ops C Lq is a → anyQ P md ops C n (fun listed' a' => Region.seqB md ops g n listed' = true ∧ Lq a') is.length listed a
  | [], _, _, _, _, hB, h => ⟨hB, h⟩
  | i :: is, listed, a, inv, h0, hB, h => by
    simp only [lexI, Bool.and_eq_true, decide_eq_true_eq] at hB
    obtain ⟨⟨⟨hin, hr⟩, hf⟩, hB'⟩ := hB
    have hr' : i ∈ Region.ready md ops listed := by simpa using hr
    obtain ⟨_, o, ho, _⟩ := mem_ready.1 hr'
    obtain ⟨v, hy, hK⟩ := yieldsIn_of_qOp ho (show qOp P ops C i (wpQI P ops C Lq is) a from h)
    refine anyQ_first ho (Region.noSelect_spec hsel) hs hc hin (fun listed' a' hL => seqB_ready hL.1) is.length listed a inv h0 (Region.free_spec ho hf) hr' hy
      (anyQ_lex hsel hs hc is _ _ (inv.set hr' hin) (fun k hk => ?_) hB' hK)
    by_cases hik : i = k
    · subst hik
      by_cases hb : i < listed.size
      · simp [hb]
      · simp [hb]
    · rw [getD_set_ne true hik]; exact h0 k hk

/-- All that is asked of the region's shape, by the kernel. -/
def shapeB (md : Region.Mode) (ops : Array Oper) (n : Nat) (is : List Nat) (l0 : Array Bool) : Bool :=
  Region.noSelect ops && decide (n < ops.size) && sinks md ops n l0 && Region.chainB md ops n && decide (l0.size = ops.size) &&
  ((List.range ops.size).all fun j => !l0.getD j false || match ops[j]? with | some oj => oj.after.all fun e => !Region.binds md e || l0.getD e.on false | none => true) &&
  ((List.range ops.size).all fun t => decide (t < n) || !l0.getD t true) && lexI md ops n (ops.size - n) is l0

theorem wpAny_qtail {Q : Exit → Act → World → Prop} {fuel : Nat} {l0 : Array Bool} {a : Act} {w : World} (n : Nat) (is : List Nat) (hB : shapeB md ops n is l0 = true) (hf : fuel = is.length + (ops.size - n)) (hC : C w)
    (h : wpQI P ops C (fun a' => ∀ w', C w' → wpList P ops Q (ops.toList.drop n) a' w') is a) : wpAny P md ops Q fuel l0 a w := by
  simp only [shapeB, Bool.and_eq_true, decide_eq_true_eq] at hB
  obtain ⟨⟨⟨⟨⟨⟨⟨hsel, hn⟩, hs⟩, hc⟩, hz⟩, hcl⟩, htl⟩, hlex⟩ := hB
  have inv : HeadInv md ops n l0 := by
    refine ⟨hz, fun j oj hoj hl e he hb => ?_, fun t ht ht' => ?_⟩
    · have h1 := List.all_eq_true.1 hcl j (List.mem_range.2 (Array.getElem?_eq_some_iff.1 hoj).1)
      rw [hl, hoj] at h1
      simp only [Bool.not_true, Bool.false_or] at h1
      have h2 := Array.all_eq_true'.1 h1 e he
      rw [hb] at h2
      simpa using h2
    · have h1 := List.all_eq_true.1 htl t (List.mem_range.2 ht')
      have h2 : ¬ t < n := by omega
      simpa [h2] using h1
  subst hf
  have hg : (ops.toList.drop n).length = ops.size - n := by simp
  refine any_of (g := ops.size - n) (fun listed' a' w' hC' hL => ?_) _ _ _ _ hC (anyQ_lex (g := ops.size - n) hsel hs hc is l0 a inv (fun _ h => h) hlex h)
  have := wpAny_of_seq (md := md) (Q' := Q) (ops.toList.drop n) n listed' a' w' (fun j => by simp [List.getElem?_drop]) (by rw [hg]; exact hL.1) (hL.2 w' hC')
  rwa [hg] at this
end

/-- At the class of the worlds after some draws. -/
theorem region_qtail {P : Program} {id : Nat} {Q : Exit → Act → World → Prop} {a : Act} {w : World} {l : List Oper} (n : Nat) (is : List Nat) (hm : P.follows .mixedOrders = true)
    (hB : shapeB .any l.toArray n is (Array.replicate l.toArray.size false) = true) (hf : l.toArray.size = is.length + (l.toArray.size - n))
    (h : wpQI P l.toArray (fun w' => ∃ n, w' = w.drewN n) (fun a' => ∀ w', (∃ n, w' = w.drewN n) → wpList P l.toArray Q (l.drop n) a' w') is a) : (Code.region id l.toArray true).wp P Q a w :=
  wp_region_any hm (wpAny_qtail (C := fun w' => ∃ n, w' = w.drewN n) n is hB hf ⟨1, rfl⟩ h)

end Go.Proofs.Ythgmocipiknfpaa.QTail
namespace Go.Proofs.Ythgmocipiknfpaa.TabY
open Go.RowKit Go.Proofs.Ythgmocipiknfpaa.Kit Go.Proofs.Ythgmocipiknfpaa.NumA Go.Proofs.Ythgmocipiknfpaa.NumB Go.Proofs.Ythgmocipiknfpaa.Mem Go.Proofs.Ythgmocipiknfpaa.TabR Go.Proofs.Ythgmocipiknfpaa.QTail

theorem Rd.far2 {w : World} {A : Option Addr} {n c b i : Nat} {xs : List Value} (h : Rd w A n c xs) (hA : 0 < n → ∀ g o, A = some ⟨g, o, none⟩ → g < b) (v : Value) : Rd (w.setCell ⟨b, i, none⟩ v) A n c xs :=
  (Keep.set (F := fun q => q = b) w i v rfl).rd h (fun hp b' o hA' hk => by have h1 := hA hp b' o hA'; have h2 : b' = b := hk; omega)
theorem three0 {w : World} {b : Nat} {u v x : Value} {t : TypeId} (h : w.heap[b]? = some (.cells #[u, v, x] t (0, 0))) : w.cell? ⟨b, 0, none⟩ = some u := by rw [cell_of_row _ _ _ _ _ _ h]; rfl
theorem three1 {w : World} {b : Nat} {u v x : Value} {t : TypeId} (h : w.heap[b]? = some (.cells #[u, v, x] t (0, 0))) : w.cell? ⟨b, 1, none⟩ = some v := by rw [cell_of_row _ _ _ _ _ _ h]; rfl
theorem three2 {w : World} {b : Nat} {u v x : Value} {t : TypeId} (h : w.heap[b]? = some (.cells #[u, v, x] t (0, 0))) : w.cell? ⟨b, 2, none⟩ = some x := by rw [cell_of_row _ _ _ _ _ _ h]; rfl
theorem info8q : (Try.prog.info? 5).map (fun i => (i.zero, i.size, i.bytes)) = some (some (.int .u8 0), 1, 1) := by kernel_rfl

end Go.Proofs.Ythgmocipiknfpaa.TabY
namespace Go.Proofs.Ythgmocipiknfpaa.RecF
open Go.RowKit Go.Proofs.Ythgmocipiknfpaa.Kit Go.Proofs.Ythgmocipiknfpaa.Byt Go.Proofs.Ythgmocipiknfpaa.Mem Go.Proofs.Ythgmocipiknfpaa.RecM Go.Proofs.Ythgmocipiknfpaa.RecA Go.Proofs.Ythgmocipiknfpaa.RecC Go.Proofs.Ythgmocipiknfpaa.RecB Go.Proofs.Ythgmocipiknfpaa.RecD Go.Proofs.Ythgmocipiknfpaa.RecE
open Go.Proofs.Ythgmocipiknfpaa.TabR (rdN num)

theorem rdN_at (xs : List Nat) (i k : Nat) (h : i + k ≤ xs.length) : rdN k (nl (xs.drop i)) 0 = (nm xs i k, nl (xs.drop (i + k)), 0) := by
  unfold rdN
  rw [if_neg (by simp), if_pos (by rw [nl_len, List.length_drop]; omega)]
  have e1 : (nl (xs.drop i)).take k = nl ((xs.drop i).take k) := by simp [nl]
  have e2 : (nl (xs.drop i)).drop k = nl (xs.drop (i + k)) := by simp [nl, List.map_drop]
  rw [e1, e2]
  rfl
theorem nm_bd {xs : List Nat} (hb : byt xs) (i k : Nat) : 0 ≤ nm xs i k ∧ nm xs i k < 256 ^ k := by
  have key : ∀ (l : List Nat) (a : Int) (m : Nat), (∀ c ∈ l, c < 256) → 0 ≤ a → a < 256 ^ m → 0 ≤ (nl l).foldl (fun a b => 256 * a + b) a ∧ (nl l).foldl (fun a b => 256 * a + b) a < 256 ^ (m + l.length) := by
    intro l
    induction l with
    | nil => intro a m _ h0 h1; exact ⟨h0, h1⟩
    | cons x l ih =>
      intro a m hl h0 h1
      have hx := hl x (by simp)
      have h2 : 256 * a + (x : Int) < 256 ^ (m + 1) := by rw [Int.pow_succ]; omega
      have h3 := ih (256 * a + x) (m + 1) (fun c hc => hl c (by simp [hc])) (by omega) h2
      have e : m + (x :: l).length = m + 1 + l.length := by simp; omega
      rw [e]
      exact h3
  have h1 := key ((xs.drop i).take k) 0 0 (byt_take (byt_drop hb i) k) (by omega) (by simp)
  refine ⟨h1.1, Int.lt_of_lt_of_le h1.2 ?_⟩
  have h2 : (256 : Nat) ^ (0 + ((xs.drop i).take k).length) ≤ 256 ^ k := Nat.pow_le_pow_right (by omega) (by simp; omega)
  have h3 : ((256 ^ k : Nat) : Int) = (256 : Int) ^ k := by simp
  have h4 : ((256 ^ (0 + ((xs.drop i).take k).length) : Nat) : Int) = (256 : Int) ^ (0 + ((xs.drop i).take k).length) := by simp
  omega
section
variable {w wr w' : World} {g2 rb gx i : Nat} {t : TypeId} {zs cs : List Value} {xs : List Nat}
end
theorem one_r (r : Rc) : ∀ v ∈ rcells r, v.oneCell' = true := by
  intro u hu
  simp [rcells] at hu
  rcases hu with rfl | rfl | rfl | rfl | rfl | rfl <;> rfl

theorem n64_of {xs : List Nat} (hb : byt xs) (i k : Nat) (hk : k ≤ 4) : n64 (nm xs i k) := by
  have h := nm_bd hb i k
  have h2 : (256 : Nat) ^ k ≤ 256 ^ 4 := Nat.pow_le_pow_right (by omega) hk
  have h3 : ((256 ^ k : Nat) : Int) = (256 : Int) ^ k := by simp
  unfold n64
  omega

end Go.Proofs.Ythgmocipiknfpaa.RecF
namespace Go.Proofs.Ythgmocipiknfpaa.RecF
open Go.RowKit Go.Proofs.Ythgmocipiknfpaa.Kit Go.Proofs.Ythgmocipiknfpaa.Byt Go.Proofs.Ythgmocipiknfpaa.Mem Go.Proofs.Ythgmocipiknfpaa.RecM Go.Proofs.Ythgmocipiknfpaa.RecA Go.Proofs.Ythgmocipiknfpaa.RecC Go.Proofs.Ythgmocipiknfpaa.RecB Go.Proofs.Ythgmocipiknfpaa.RecD Go.Proofs.Ythgmocipiknfpaa.RecE
open Go.Proofs.Ythgmocipiknfpaa.TabR (rdN num)

theorem size_stg : (Try.prog.info? 32).map (·.size) = some 3 := by kernel_rfl
theorem one_s (r : Sg) : ∀ v ∈ scells r, v.oneCell' = true := by
  intro u hu
  simp [scells] at hu
  rcases hu with rfl | rfl | rfl <;> rfl

end Go.Proofs.Ythgmocipiknfpaa.RecF
