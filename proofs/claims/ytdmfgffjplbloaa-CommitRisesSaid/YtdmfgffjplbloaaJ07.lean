/- Small facts on a record's box and bytes that are written out. No conditions. Two slices of bytes held against each other by the reference. Conditions: each slice reads as the list that is named. What is wrong with a sector, by the reference. Conditions: the slice reads as the bytes that are named. A region that draws its order: operations that only read, and calls that only draw (or what else the class of worlds bears), and behind them all a chain of operations that may do what they like. Over any program; some operations may have been taken already. On the kit's own laws of quiet operations and of tails. The reference's reader: bytes, a number. Conditions: the reader's block is known, and its bytes read as the list that is named. -/
import Derived.Test.YtdmfgffjplbloaaJ04
import Derived.Test.YtdmfgffjplbloaaJ01
import Derived.Deep.Quiet
import Derived.Deep.QuietTactic
import Derived.BigQuiet
import Derived.StillTail
import Derived.Test.YtdmfgffjplbloaaJ06
namespace Go.Proofs.Ytdmfgffjplbloaa.RecD
open Go.RowKit Go.Proofs.Ytdmfgffjplbloaa.Kit Go.Proofs.Ytdmfgffjplbloaa.Byt Go.Proofs.Ytdmfgffjplbloaa.Mem Go.Proofs.Ytdmfgffjplbloaa.RecM Go.Proofs.Ytdmfgffjplbloaa.RecA Go.Proofs.Ytdmfgffjplbloaa.RecC

theorem own_lit {w : World} (xs : List Nat) {n : Nat} (hn : xs.length = n) (h63 : n ≤ 1000) : (w.alloc (.cells (u8n xs).toArray 5)).ownsRow w.heap.size 5 1 (.slice (some ⟨w.heap.size, 0, none⟩) n n) n (u8n xs) := by
  have h := own_of_block (w := w.alloc (.cells (u8n xs).toArray 5)) (g := w.heap.size) (cur := u8n xs) (e := 5) (base := w.heap.size) (n := n) (heap_alloc_new w _) (Nat.le_refl _) (by rw [u8n_len]; omega) (by rw [u8n_len]; omega)
  rw [u8n_len, hn, List.take_of_length_le (by rw [u8n_len]; omega)] at h
  exact h
theorem Bx.cells6 {w wr : World} {g : Nat} {t : TypeId} {r : Rc} (h : Bx w g t (rcells r) wr) : wr.cell? ⟨g, 0, none⟩ = some (.int .i64 r.p) ∧ wr.cell? ⟨g, 1, none⟩ = some (.int .i64 r.q) ∧ wr.cell? ⟨g, 2, none⟩ = some (.int .i64 r.a) ∧ wr.cell? ⟨g, 3, none⟩ = some (.int .i64 r.c) ∧ wr.cell? ⟨g, 4, none⟩ = some (.int .i64 r.l) ∧ wr.cell? ⟨g, 5, none⟩ = some (.int .i64 r.b) :=
  ⟨h.blk.cell rfl, h.blk.cell rfl, h.blk.cell rfl, h.blk.cell rfl, h.blk.cell rfl, h.blk.cell rfl⟩
theorem Bx.cells3 {w wr : World} {g : Nat} {t : TypeId} {r : Sg} (h : Bx w g t (scells r) wr) : wr.cell? ⟨g, 0, none⟩ = some (.int .i64 r.s) ∧ wr.cell? ⟨g, 1, none⟩ = some (.int .i64 r.z) ∧ wr.cell? ⟨g, 2, none⟩ = some (.int .i64 r.h) :=
  ⟨h.blk.cell rfl, h.blk.cell rfl, h.blk.cell rfl⟩
end Go.Proofs.Ytdmfgffjplbloaa.RecD
namespace Go.Proofs.Ytdmfgffjplbloaa.Same
open Go.RowKit Go.Proofs.Ytdmfgffjplbloaa.Kit Go.Proofs.Ytdmfgffjplbloaa.Byt

abbrev u8s (xs : List Int) : List Value := xs.map (Value.int .u8)
theorem u8s_one (xs : List Int) : ∀ u ∈ u8s xs, u.oneCell' = true := ints_oneCell _ _

theorem u8s_len (xs : List Int) : (u8s xs).length = xs.length := List.length_map ..
theorem Rd.bytes {w : World} {A : Option Addr} {n c : Nat} {xs : List Int} (h : Rd w A n c (u8s xs)) : xs.length = n := by have := h.len; rwa [u8s_len] at this
theorem Rd.byte {w : World} {A : Option Addr} {n c : Nat} {xs : List Int} (h : Rd w A n c (u8s xs)) {k : Nat} (hk : k < xs.length) : ∃ b o, A = some ⟨b, o, none⟩ ∧ w.cell? ⟨b, o + k, none⟩ = some (.int .u8 xs[k]) := by
  obtain ⟨b, o, hA, hc⟩ := Rd.at_ h (k := k) (by have := Rd.bytes h; omega)
  exact ⟨b, o, hA, by simpa using hc⟩

set_option maxHeartbeats 400000 in
theorem same_any (A B : Option Addr) (n m c d : Nat) (xs ys : List Int) (w : World) (hx : Rd w A n c (u8s xs)) (hy : Rd w B m d (u8s ys)) :
    Calls Try.prog 20 #[.slice A n c, .slice B m d] w fun e w' => e = .returned (.bool (decide (xs = ys))) ∧ ∃ n, w' = w.drewN n := by
  obtain rfl := Rd.bytes hx
  obtain rfl := Rd.bytes hy
  have lx : xs.length ≤ 9223372036854775807 := by have := hx.le; have := hx.cap; omega
  have ly : ys.length ≤ 9223372036854775807 := by have := hy.le; have := hy.cap; omega
  by_cases hl : xs.length = ys.length
  · go_enter Try.func20, Try.ntmps20
    go_wp2
    go_loopw [5] (fun i wr => ∃ k : Nat, k ≤ xs.length ∧ i = .int .i64 k ∧ (∃ n, wr = w.drewN n) ∧ xs.take k = ys.take k) (fun i _ => xs.length - (intOf i).toNat)
    case atStart => exact ⟨0, Nat.zero_le _, rfl, ⟨0, rfl⟩, rfl⟩
    case round =>
      obtain ⟨k, hk, rfl, ⟨n, rfl⟩, he⟩ := hrel
      by_cases hlt : k < xs.length
      · obtain ⟨bx, ox, rfl, gx⟩ := Rd.byte hx hlt
        obtain ⟨by', oy, rfl, gy⟩ := Rd.byte hy (k := k) (by omega)
        have hlt' : k < ys.length := by omega
        go_wp2_with fail
        go_quiet (fail)
        go_wp2
        · have h : (xs[k] != ys[k]) = true := by assumption
          go_ret
          refine ⟨?_, _, World.drewN_drewN _ _ _⟩
          have hne : ¬ xs = ys := by
            intro hh; subst hh; simp at h
          simp [hne]
        · have h : (xs[k] != ys[k]) = false := by assumption
          go_roundw
          case rel =>
            refine ⟨k + 1, by omega, by go_num, ⟨_, rfl⟩, ?_⟩
            have h' : xs[k] = ys[k] := by simpa using h
            rw [List.take_succ_eq_append_getElem hlt, List.take_succ_eq_append_getElem hlt', he, h']
          case measure => simp [intOf]; omega
      · go_wp2
        go_ret
        refine ⟨?_, n, rfl⟩
        have hxy : xs = ys := by
          rw [List.take_of_length_le (by omega), List.take_of_length_le (by omega)] at he
          exact he
        simp [hxy]
  · have hne : ((xs.length : Int) != (ys.length : Int)) = true := by simp; omega
    go_enter Try.func20, Try.ntmps20
    go_wp2
    go_ret
    have : ¬ xs = ys := fun h => hl (by rw [h])
    exact ⟨by simp [this], 0, rfl⟩

theorem same_yes {A B : Option Addr} {n m c d : Nat} {xs : List Int} {w : World} (hx : Rd w A n c (u8s xs)) (hy : Rd w B m d (u8s xs)) :
    Calls Try.prog 20 #[.slice A n c, .slice B m d] w fun e w' => e = .returned (.bool true) ∧ ∃ n, w' = w.drewN n :=
  (same_any A B n m c d xs xs w hx hy).mono fun e w' h => ⟨by rw [h.1]; simp, h.2⟩

theorem u8n_u8s (xs : List Nat) : u8n xs = u8s (xs.map fun n : Nat => (n : Int)) := by simp [u8n, u8s]
theorem nat_inj {xs ys : List Nat} (h : xs.map (fun n : Nat => (n : Int)) = ys.map (fun n : Nat => (n : Int))) : xs = ys :=
  List.map_inj_right (f := fun n : Nat => (n : Int)) (fun _ _ h => Int.ofNat.inj h) |>.1 h
/-- Of bytes as numbers. -/
theorem same_n {A B : Option Addr} {n m c d : Nat} {xs ys : List Nat} {w : World} (hx : Rd w A n c (u8n xs)) (hy : Rd w B m d (u8n ys)) :
    Calls Try.prog 20 #[.slice A n c, .slice B m d] w fun e w' => e = .returned (.bool (decide (xs = ys))) ∧ ∃ n, w' = w.drewN n := by
  rw [u8n_u8s] at hx hy
  refine (same_any A B n m c d _ _ w hx hy).mono fun e w' h => ⟨?_, h.2⟩
  rw [h.1]
  congr 2
  rw [Bool.eq_iff_iff]
  simp only [decide_eq_true_eq]
  exact ⟨nat_inj, fun h => by rw [h]⟩

end Go.Proofs.Ytdmfgffjplbloaa.Same
namespace Go.Proofs.Ytdmfgffjplbloaa.RecE
open Go.RowKit Go.Proofs.Ytdmfgffjplbloaa.Kit Go.Proofs.Ytdmfgffjplbloaa.Byt Go.Proofs.Ytdmfgffjplbloaa.Mem Go.Proofs.Ytdmfgffjplbloaa.RecM Go.Proofs.Ytdmfgffjplbloaa.RecA Go.Proofs.Ytdmfgffjplbloaa.RecC Go.Proofs.Ytdmfgffjplbloaa.RecD

theorem zeros_iff {xs : List Nat} {i : Nat} (h : xs.length = 64) (hi : i ≤ 64) : xs.drop i = List.replicate (64 - i) 0 ↔ ∀ j, i ≤ j → j < 64 → xs.getD j 0 = 0 := by
  constructor
  · intro e j h1 h2
    have e2 : (xs.drop i)[j - i]? = (List.replicate (64 - i) 0)[j - i]? := by rw [e]
    rw [List.getElem?_drop, List.getElem?_replicate, if_pos (by omega)] at e2
    have e3 : i + (j - i) = j := by omega
    rw [e3] at e2
    rw [List.getD_eq_getElem?_getD, e2]
    rfl
  · intro e
    apply List.ext_getElem
    · simp; omega
    · intro k h1 h2
      simp at h1 h2
      have h3 := e (i + k) (by omega) (by omega)
      rw [List.getD_eq_getElem?_getD, List.getElem?_eq_getElem (by omega)] at h3
      simpa using h3
theorem take2 {xs : List Nat} (h : xs.length = 64) : xs.take 2 = [xs.getD 0 0, xs.getD 1 0] := by
  match xs, h with
  | a :: b :: l, _ => simp

set_option maxRecDepth 100000 in
set_option maxHeartbeats 1600000 in
theorem ropen_any (A : Option Addr) (n c : Nat) (xs : List Nat) (w : World) (m k : Nat) (hR : Rd w A n c (u8n xs)) (hb : byt xs) (hm : m < 256) (hk : 2 ≤ k) (hk2 : k ≤ 50) :
    Calls Try.prog 37 #[.slice A n c, .int .u8 m, .int .i64 k] w fun e w' => e = .returned (.int .i64 (wrong m k xs)) ∧ Below w.heap.size w w' := by
  have hn : xs.length = n := Rd.nats hR
  have hn63 : n ≤ 9223372036854775807 := by have := hR.le; have := hR.cap; omega
  by_cases h64 : n = 64
  · subst h64
    have HW := Lib.hid (show wrong m k xs = if xs.take 2 ≠ [76, m] ∨ xs.drop (k + 4) ≠ List.replicate (60 - k) 0 then 2 else if shut (xs.take k) ≠ xs then 10 else 0 from by unfold wrong; rw [if_neg (by omega)])
    have HR := Lib.hid hR
    obtain ⟨g, o, rfl, hc0⟩ := Rd.nat hR (k := 0) (by omega)
    obtain ⟨g', o', hA', hc1⟩ := Rd.nat hR (k := 1) (by omega)
    obtain ⟨rfl, rfl⟩ : g = g' ∧ o = o' := by injection hA' with h; injection h with h1 h2; exact ⟨h1, h2⟩
    have ht2 := take2 hn
    have e0 : xs[0]'(by omega) = xs.getD 0 0 := by rw [List.getD_eq_getElem?_getD, List.getElem?_eq_getElem (by omega)]; rfl
    have e1 : xs[1]'(by omega) = xs.getD 1 0 := by rw [List.getD_eq_getElem?_getD, List.getElem?_eq_getElem (by omega)]; rfl
    rw [e0, Nat.add_zero] at hc0
    rw [e1] at hc1
    obtain ⟨a, ha⟩ : ∃ a, a = xs.getD 0 0 := ⟨_, rfl⟩
    obtain ⟨b, hbq⟩ : ∃ b, b = xs.getD 1 0 := ⟨_, rfl⟩
    rw [← ha, ← hbq] at ht2
    rw [← ha] at hc0
    rw [← hbq] at hc1
    clear e0 e1 ha hbq hA' hR
    have HT := Lib.hid ht2
    clear ht2
    have ho : o + 64 ≤ 9223372036854775807 + o := by omega
    by_cases h0 : a = 76
    · subst h0
      by_cases h1 : b = m
      · subst h1
        have HW2 := Lib.hid (show wrong b k xs = if xs.drop (k + 4) ≠ List.replicate (60 - k) 0 then 2 else if shut (xs.take k) ≠ xs then 10 else 0 from by rw [HW.out, HT.out]; simp)
        have HS := Lib.hid (fun w' (h : Rd w' (some ⟨g, o, none⟩) k c (u8n (xs.take k))) => rsealed_any _ k c (xs.take k) w' h (byt_take hb k) (by simp; omega))
        have HN := Lib.hid hn
        clear HW hb
        go_enter Try.func37, Try.ntmps37
        go_wp2
        go_loop [7] (fun i => ∃ j : Nat, k + 4 ≤ j ∧ j ≤ 64 ∧ i = .int .i64 j ∧ Hid (∀ q, k + 4 ≤ q → q < j → xs.getD q 0 = 0)) (fun i => 64 - (intOf i).toNat)
        case atStart => exact ⟨k + 4, by omega, by omega, int_eq (by omega), Lib.hid (fun q h1 h2 => by omega)⟩
        case round =>
          obtain ⟨j, hj1, hj2, rfl, hz⟩ := hrel
          by_cases hj : j < 64
          · obtain ⟨g', o', hA', hcj⟩ := Rd.nat HR.out (k := j) (by omega)
            obtain ⟨rfl, rfl⟩ : g = g' ∧ o = o' := by injection hA' with h; injection h with h1 h2; exact ⟨h1, h2⟩
            have ej : xs[j]'(by omega) = xs.getD j 0 := by rw [List.getD_eq_getElem?_getD, List.getElem?_eq_getElem (by omega)]; rfl
            rw [ej] at hcj
            obtain ⟨u, hu⟩ : ∃ u, u = xs.getD j 0 := ⟨_, rfl⟩
            rw [← hu] at hcj
            have HU := Lib.hid hu
            clear hA' ej hu
            by_cases hu0 : u = 0
            · subst hu0
              go_wp2
              go_round
              case rel =>
                refine ⟨j + 1, by omega, by omega, by go_num, Lib.hid (fun q h1 h2 => ?_)⟩
                by_cases hq : q = j
                · subst hq; exact HU.out.symm
                · exact hz.out q h1 (by omega)
              case measure => simp [intOf]; omega
            · go_wp2
              go_ret
              refine ⟨ret_int ?_, Below.refl _ _⟩
              rw [HW2.out, if_pos]
              intro e
              have e60 : 60 - k = 64 - (k + 4) := by omega
              rw [e60] at e
              exact hu0 (HU.out.trans ((zeros_iff HN.out (by omega)).1 e j hj1 hj))
          · obtain rfl : j = 64 := by omega
            have hzz : xs.drop (k + 4) = List.replicate (60 - k) 0 := by
              have e60 : 60 - k = 64 - (k + 4) := by omega
              rw [e60]
              exact (zeros_iff HN.out (by omega)).2 hz.out
            have HW3 := Lib.hid (show wrong b k xs = if shut (xs.take k) ≠ xs then 10 else 0 from by rw [HW2.out, if_neg (by simp [hzz])])
            have hkn : (k : Int).toNat = k := by omega
            have HRK := Lib.hid (show Rd w (some ⟨g, o, none⟩) k c (u8n (xs.take k)) from by
              have h := Rd.take HR.out (k := k) (by omega)
              simpa [u8n] using h)
            have hc64 := HR.out.le
            have hcm := HR.out.cap
            clear hzz HW2 hz
            by_cases hsh : shut (xs.take k) = xs
            · have hd : decide (shut (xs.take k) = xs) = true := by simpa using hsh
              go_wp2_with (first
                | (go_at_call 47; refine (HS.out _ HRK.out).mono ?_; rintro e w2 ⟨B2, m2, d2, rfl, ho2, hb2⟩)
                | (go_at_call 20; refine (Same.same_n (Rd.own ho2) (HR.out.below hb2)).mono ?_; rintro e w3 ⟨rfl, nq, rfl⟩))
              go_ret
              exact ⟨ret_int (by rw [HW3.out, if_neg (by simpa using hsh)]), below_drewN hb2 nq⟩
            · have hd : decide (shut (xs.take k) = xs) = false := by simpa using hsh
              go_wp2_with (first
                | (go_at_call 47; refine (HS.out _ HRK.out).mono ?_; rintro e w2 ⟨B2, m2, d2, rfl, ho2, hb2⟩)
                | (go_at_call 20; refine (Same.same_n (Rd.own ho2) (HR.out.below hb2)).mono ?_; rintro e w3 ⟨rfl, nq, rfl⟩))
              go_ret
              exact ⟨ret_int (by rw [HW3.out, if_pos (by simpa using hsh)]), below_drewN hb2 nq⟩
      · go_enter Try.func37, Try.ntmps37
        go_wp2
        go_ret
        refine ⟨ret_int ?_, Below.refl _ _⟩
        rw [HW.out, if_pos (Or.inl (by rw [HT.out]; simp [h1]))]
    · go_enter Try.func37, Try.ntmps37
      go_wp2
      go_ret
      refine ⟨ret_int ?_, Below.refl _ _⟩
      rw [HW.out, if_pos (Or.inl (by rw [HT.out]; simp [h0]))]
  · have HW := Lib.hid (show wrong m k xs = 14 from by unfold wrong; rw [if_pos (by omega)])
    clear hR
    go_enter Try.func37, Try.ntmps37
    go_wp2
    go_ret
    exact ⟨ret_int (by rw [HW.out]), Below.refl _ _⟩
end Go.Proofs.Ytdmfgffjplbloaa.RecE
namespace Go.Proofs.Ytdmfgffjplbloaa.QTail
open Go.RowKit

section
variable {P : Program} {ops : Array Oper} {md : Region.Mode} {C : World → Prop}

/-- Each operation ahead of n was taken, or another one up to n waits for it. -/
def sinks (md : Region.Mode) (ops : Array Oper) (n : Nat) (l0 : Array Bool) : Bool :=
  (List.range n).all fun i => l0.getD i true || (List.range (n + 1)).any fun j => decide (i < j) && Region.waitsFor md ops j i

theorem waits {n : Nat} {l0 listed : Array Bool} (hs : sinks md ops n l0 = true) (hc : Region.chainB md ops n = true) (h0 : ∀ i, l0.getD i true = true → listed.getD i true = true) (inv : HeadInv md ops n listed) :
    ∀ d i : Nat, n - i ≤ d → i < n → listed.getD i true = false → ∀ t, n ≤ t → t ∉ Region.ready md ops listed := by
  intro d
  induction d with
  | zero => intro i hd hi; omega
  | succ d ih =>
    intro i hd hi hun t ht hr
    obtain ⟨_, ot, hot, hall⟩ := mem_ready.1 hr
    have hno : ∀ k, Region.waitsFor md ops t k = true → listed.getD k true = false → False := fun k hk hu => by
      obtain ⟨o', ho', e, he, hb, hon⟩ := Region.waitsFor_spec hk
      obtain rfl : o' = ot := Option.some.inj (ho'.symm.trans hot)
      have h2 := hall e he hb
      rw [hon, getD_both hu] at h2
      cases h2
    rcases Nat.lt_or_ge n t with htn | htn
    · have htl : t < ops.size := (Array.getElem?_eq_some_iff.1 hot).1
      have h1 := List.all_eq_true.1 hc t (List.mem_range.2 htl)
      simp only [Bool.or_eq_true, decide_eq_true_eq] at h1
      rcases h1 with h1 | h1
      · omega
      · exact hno _ h1 (inv.tail (t - 1) (by omega) (by omega))
    · obtain rfl : t = n := by omega
      have h1 := List.all_eq_true.1 hs i (List.mem_range.2 hi)
      have hi0 : l0.getD i true = false := by
        cases h : l0.getD i true with
        | false => rfl
        | true => rw [h0 i h] at hun; cases hun
      rw [hi0, Bool.false_or] at h1
      obtain ⟨j, hj, hj2⟩ := List.any_eq_true.1 h1
      simp only [Bool.and_eq_true, decide_eq_true_eq] at hj2
      have hjn : j ≤ t := by have := List.mem_range.1 hj; omega
      by_cases hjt : j = t
      · subst hjt; exact hno _ hj2.2 hun
      · cases hl : listed.getD j true with
        | false => exact ih j (by omega) (by omega) hl t (Nat.le_refl _) hr
        | true =>
          obtain ⟨oj, hoj, e, he, hb, hon⟩ := Region.waitsFor_spec hj2.2
          have hjs : j < listed.size := by rw [inv.size]; exact (Array.getElem?_eq_some_iff.1 hoj).1
          have hl' : listed.getD j false = true := by simpa [hjs] using hl
          have h2 := inv.closed j oj hoj hl' e he hb
          rw [hon, getD_both hun] at h2
          cases h2

/-- Whatever order is picked while the head lasts. -/
def anyQ (P : Program) (md : Region.Mode) (ops : Array Oper) (C : World → Prop) (n : Nat) (L : Array Bool → Act → Prop) : Nat → Array Bool → Act → Prop
  | 0, listed, a => L listed a
  | f + 1, listed, a => Region.ready md ops listed ≠ [] ∧ ∀ i ∈ Region.ready md ops listed, i < n ∧ qOp P ops C i (anyQ P md ops C n L f (listed.setIfInBounds i true)) a

theorem any_of {n g : Nat} {L : Array Bool → Act → Prop} {Q' : Exit → Act → World → Prop} (hL : ∀ listed a w, C w → L listed a → wpAny P md ops Q' g listed a w) :
    ∀ (f : Nat) (listed : Array Bool) (a : Act) (w : World), C w → anyQ P md ops C n L f listed a → wpAny P md ops Q' (f + g) listed a w
  | 0, listed, a, w, hC, h => by rw [Nat.zero_add]; exact hL _ _ _ hC h
  | f + 1, listed, a, w, hC, h => by
    rw [show f + 1 + g = (f + g) + 1 by omega]
    exact ⟨fun h0 => absurd h0 h.1, fun i hi => wpOp_of_qOp hC (fun a' w' hC' h' => any_of hL f _ a' w' hC' h') (h.2 i hi).2⟩

theorem anyQ_first {n i : Nat} {oi : Oper} {v : Value} {L : Array Bool → Act → Prop} {l0 : Array Bool} (hi : ops[i]? = some oi) (hsel : ∀ (j : Nat) (o : Oper) cs b, ops[j]? = some o → o.op ≠ .select cs b)
    (hs : sinks md ops n l0 = true) (hc : Region.chainB md ops n = true) (hin : i < n) (hdone : ∀ listed a, L listed a → ∀ j ∈ Region.ready md ops listed, n ≤ j) :
    ∀ (f : Nat) (listed : Array Bool) (a : Act), HeadInv md ops n listed → (∀ i, l0.getD i true = true → listed.getD i true = true) →
      (∀ j oj, ops[j]? = some oj → j ≠ i → listed.getD j true = false → (∀ e ∈ oj.after, Region.binds md e = true → e.on ≠ i) → oi.apart ops oj = true) →
      i ∈ Region.ready md ops listed → YieldsIn P ops C oi v a →
      anyQ P md ops C n L f (listed.setIfInBounds i true) (a.put oi.dst v) → anyQ P md ops C n L (f + 1) listed a := by
  intro f
  induction f with
  | zero =>
    intro listed a inv h0 _ hr hy H
    refine ⟨fun h => (by rw [h] at hr; cases hr), fun j hj => ?_⟩
    have hjn : j < n := Nat.lt_of_not_ge fun h => waits hs hc h0 inv _ i (Nat.le_refl _) hin (mem_ready.1 hr).1 j h hj
    refine ⟨hjn, ?_⟩
    by_cases hji : j = i
    · subst hji; exact hy.qOp hi H
    · have := hdone _ _ H j (ready_mono hj hji)
      omega
  | succ f ih =>
    intro listed a inv h0 hfree hr hy H
    refine ⟨fun h => (by rw [h] at hr; cases hr), fun j hj => ?_⟩
    have hjn : j < n := Nat.lt_of_not_ge fun h => waits hs hc h0 inv _ i (Nat.le_refl _) hin (mem_ready.1 hr).1 j h hj
    refine ⟨hjn, ?_⟩
    by_cases hji : j = i
    · subst hji; exact hy.qOp hi H
    · obtain ⟨hjun, oj, hoj, hall⟩ := mem_ready.1 hj
      have hnot : ∀ e ∈ oj.after, Region.binds md e = true → e.on ≠ i := fun e he hb heq => by
        have h1 := hall e he hb
        rw [heq, getD_both (mem_ready.1 hr).1] at h1
        cases h1
      have hgo := qOp_put hoj (hfree j oj hoj hji hjun hnot) (fun cs b => hsel i oi cs b hi) (fun cs b => hsel j oj cs b hoj) hy (H.2 j (ready_mono hj hji)).2
      refine qOp_mono (fun a' h3 => ih (listed.setIfInBounds j true) a' (inv.set hj hjn) (fun k hk => ?_) (fun k ok hk hki hun hno => hfree k ok hk hki ?_ hno) (ready_mono hr (Ne.symm hji)) h3.1 ?_) hgo
      · by_cases hjk : j = k
        · subst hjk
          by_cases hb : j < listed.size
          · simp [hb]
          · simp [hb]
        · rw [getD_set_ne true hjk]; exact h0 k hk
      · by_cases hjk : j = k
        · subst hjk; exact hjun
        · rw [getD_set_ne true hjk] at hun; exact hun
      · rw [Array.setIfInBounds_comm _ _ hji]
        exact h3.2

/-- The head's order, by its numbers; behind it the chain. -/
def lexI (md : Region.Mode) (ops : Array Oper) (n g : Nat) : List Nat → Array Bool → Bool
  | [], listed => Region.seqB md ops g n listed
  | i :: is, listed => decide (i < n) && (Region.ready md ops listed).contains i && Region.free md ops listed i && lexI md ops n g is (listed.setIfInBounds i true)
/-- The walk over the head. -/
def wpQI (P : Program) (ops : Array Oper) (C : World → Prop) (L : Act → Prop) : List Nat → Act → Prop
  | [], a => L a
  | i :: is, a => qOp P ops C i (wpQI P ops C L is) a
theorem wpQI_nil {L : Act → Prop} {a : Act} (h : L a) : wpQI P ops C L [] a := h
theorem wpQI_step {L : Act → Prop} {a : Act} {i : Nat} {is : List Nat} {o : Oper} (hi : ops[i]? = some o)
    (h : ∀ K : Act → Prop, (∀ a, wpQI P ops C L is a → K a) → if Region.wanted o (yielded ops a.tmps) then o.quiet P a C K else K (a.put o.dst undef)) : wpQI P ops C L (i :: is) a := by
  show qOp P ops C i _ a
  unfold qOp
  simp only [hi]
  exact h _ fun _ h => h

theorem anyQ_lex {n g : Nat} {Lq : Act → Prop} {l0 : Array Bool} (hsel : Region.noSelect ops = true) (hs : sinks md ops n l0 = true) (hc : Region.chainB md ops n = true) :
    ∀ (is : List Nat) (listed : Array Bool) (a : Act), HeadInv md ops n listed → (∀ i, l0.getD i true = true → listed.getD i true = true) →
    lexI md ops n g is listed = true → wpQI P ops C Lq is a → anyQ P md ops C n (fun listed' a' => Region.seqB md ops g n listed' = true ∧ Lq a') is.length listed a
  | [], _, _, _, _, hB, h => ⟨hB, h⟩
  | i :: is, listed, a, inv, h0, hB, h => by
    simp only [lexI, Bool.and_eq_true, decide_eq_true_eq] at hB
    obtain ⟨⟨⟨hin, hr⟩, hf⟩, hB'⟩ := hB
    have hr' : i ∈ Region.ready md ops listed := by simpa using hr
    obtain ⟨_, o, ho, _⟩ := mem_ready.1 hr'
    obtain ⟨v, hy, hK⟩ := yieldsIn_of_qOp ho (show qOp P ops C i (wpQI P ops C Lq is) a from h)
    refine anyQ_first ho (Region.noSelect_spec hsel) hs hc hin (fun listed' a' hL => seqB_ready hL.1) is.length listed a inv h0 (Region.free_spec ho hf) hr' hy
      (anyQ_lex hsel hs hc is _ _ (inv.set hr' hin) (fun k hk => ?_) hB' hK)
    by_cases hik : i = k
    · subst hik
      by_cases hb : i < listed.size
      · simp [hb]
      · simp [hb]
    · rw [getD_set_ne true hik]; exact h0 k hk

/-- All that is asked of the region's shape, by the kernel. -/
def shapeB (md : Region.Mode) (ops : Array Oper) (n : Nat) (is : List Nat) (l0 : Array Bool) : Bool :=
  Region.noSelect ops && decide (n < ops.size) && sinks md ops n l0 && Region.chainB md ops n && decide (l0.size = ops.size) &&
  ((List.range ops.size).all fun j => !l0.getD j false || match ops[j]? with | some oj => oj.after.all fun e => !Region.binds md e || l0.getD e.on false | none => true) &&
  ((List.range ops.size).all fun t => decide (t < n) || !l0.getD t true) && lexI md ops n (ops.size - n) is l0

theorem wpAny_qtail {Q : Exit → Act → World → Prop} {fuel : Nat} {l0 : Array Bool} {a : Act} {w : World} (n : Nat) (is : List Nat) (hB : shapeB md ops n is l0 = true) (hf : fuel = is.length + (ops.size - n)) (hC : C w)
    (h : wpQI P ops C (fun a' => ∀ w', C w' → wpList P ops Q (ops.toList.drop n) a' w') is a) : wpAny P md ops Q fuel l0 a w := by
  simp only [shapeB, Bool.and_eq_true, decide_eq_true_eq] at hB
  obtain ⟨⟨⟨⟨⟨⟨⟨hsel, hn⟩, hs⟩, hc⟩, hz⟩, hcl⟩, htl⟩, hlex⟩ := hB
  have inv : HeadInv md ops n l0 := by
    refine ⟨hz, fun j oj hoj hl e he hb => ?_, fun t ht ht' => ?_⟩
    · have h1 := List.all_eq_true.1 hcl j (List.mem_range.2 (Array.getElem?_eq_some_iff.1 hoj).1)
      rw [hl, hoj] at h1
      simp only [Bool.not_true, Bool.false_or] at h1
      have h2 := Array.all_eq_true'.1 h1 e he
      rw [hb] at h2
      simpa using h2
    · have h1 := List.all_eq_true.1 htl t (List.mem_range.2 ht')
      have h2 : ¬ t < n := by omega
      simpa [h2] using h1
  subst hf
  have hg : (ops.toList.drop n).length = ops.size - n := by simp
  refine any_of (g := ops.size - n) (fun listed' a' w' hC' hL => ?_) _ _ _ _ hC (anyQ_lex (g := ops.size - n) hsel hs hc is l0 a inv (fun _ h => h) hlex h)
  have := wpAny_of_seq (md := md) (Q' := Q) (ops.toList.drop n) n listed' a' w' (fun j => by simp [List.getElem?_drop]) (by rw [hg]; exact hL.1) (hL.2 w' hC')
  rwa [hg] at this
end

/-- At the class of the worlds after some draws. -/
theorem region_qtail {P : Program} {id : Nat} {Q : Exit → Act → World → Prop} {a : Act} {w : World} {l : List Oper} (n : Nat) (is : List Nat) (hm : P.follows .mixedOrders = true)
    (hB : shapeB .any l.toArray n is (Array.replicate l.toArray.size false) = true) (hf : l.toArray.size = is.length + (l.toArray.size - n))
    (h : wpQI P l.toArray (fun w' => ∃ n, w' = w.drewN n) (fun a' => ∀ w', (∃ n, w' = w.drewN n) → wpList P l.toArray Q (l.drop n) a' w') is a) : (Code.region id l.toArray true).wp P Q a w :=
  wp_region_any hm (wpAny_qtail (C := fun w' => ∃ n, w' = w.drewN n) n is hB hf ⟨1, rfl⟩ h)

end Go.Proofs.Ytdmfgffjplbloaa.QTail
namespace Go.Proofs.Ytdmfgffjplbloaa.TabY
open Go.RowKit Go.Proofs.Ytdmfgffjplbloaa.Kit Go.Proofs.Ytdmfgffjplbloaa.NumA Go.Proofs.Ytdmfgffjplbloaa.NumB Go.Proofs.Ytdmfgffjplbloaa.Mem Go.Proofs.Ytdmfgffjplbloaa.TabR Go.Proofs.Ytdmfgffjplbloaa.QTail

/-- The reference's reader at block b: these bytes are left, and this is how it failed (0: not at all). -/
def SR (w : World) (b : Nat) (xs : List Int) (x : Int) : Prop :=
  ∃ A n c p all, w.heap[b]? = some (.cells #[.slice A n c, .int .i64 ((p : Nat) : Int), .int .i64 x] 77 (0, 0)) ∧ Rd w A n c (u8s all) ∧ p ≤ n ∧ xs = all.drop p ∧ (0 < n → ∀ g o, A = some ⟨g, o, none⟩ → g < b)
theorem Rd.far2 {w : World} {A : Option Addr} {n c b i : Nat} {xs : List Value} (h : Rd w A n c xs) (hA : 0 < n → ∀ g o, A = some ⟨g, o, none⟩ → g < b) (v : Value) : Rd (w.setCell ⟨b, i, none⟩ v) A n c xs :=
  (Keep.set (F := fun q => q = b) w i v rfl).rd h (fun hp b' o hA' hk => by have h1 := hA hp b' o hA'; have h2 : b' = b := hk; omega)
theorem three0 {w : World} {b : Nat} {u v x : Value} {t : TypeId} (h : w.heap[b]? = some (.cells #[u, v, x] t (0, 0))) : w.cell? ⟨b, 0, none⟩ = some u := by rw [cell_of_row _ _ _ _ _ _ h]; rfl
theorem three1 {w : World} {b : Nat} {u v x : Value} {t : TypeId} (h : w.heap[b]? = some (.cells #[u, v, x] t (0, 0))) : w.cell? ⟨b, 1, none⟩ = some v := by rw [cell_of_row _ _ _ _ _ _ h]; rfl
theorem three2 {w : World} {b : Nat} {u v x : Value} {t : TypeId} (h : w.heap[b]? = some (.cells #[u, v, x] t (0, 0))) : w.cell? ⟨b, 2, none⟩ = some x := by rw [cell_of_row _ _ _ _ _ _ h]; rfl
theorem SR.lt {w : World} {b : Nat} {xs : List Int} {x : Int} (h : SR w b xs x) : b < w.heap.size := by
  obtain ⟨A, n, c, p, all, h, _⟩ := h
  exact lt_of_block h
theorem SR.below {w w' : World} {b : Nat} {xs : List Int} {x : Int} (h : SR w b xs x) (hb : Below w.heap.size w w') : SR w' b xs x := by
  obtain ⟨A, n, c, p, all, h, hr, hp, he, hA⟩ := h
  exact ⟨A, n, c, p, all, (hb.block b (lt_of_block h)).trans h, hr.below hb, hp, he, hA⟩
theorem SR.keep {F : Nat → Prop} {w w' : World} {b : Nat} {xs : List Int} {e : Int} (h : SR w b xs e) (k : Mem.Keep F w w') (hF : ∀ i, F i → b < i) : SR w' b xs e := by
  have hlt := SR.lt h
  obtain ⟨A, n, c, p, all, h, hr, hp, he, hA⟩ := h
  exact ⟨A, n, c, p, all, (k.block b hlt (fun h => by have := hF _ h; omega)).trans h, k.rd hr (fun hp0 b' o' hb hk => by have h1 := hA hp0 b' o' hb; have := hF _ hk; omega), hp, he, hA⟩
theorem SR.fault {w : World} {b : Nat} {xs : List Int} {e : Int} (h : SR w b xs e) (x : Int) : SR (w.setCell ⟨b, 2, none⟩ (.int .i64 x)) b xs x := by
  obtain ⟨A, n, c, p, all, h, hr, hp, he, hA⟩ := h
  refine ⟨A, n, c, p, all, ?_, Rd.far2 hr hA _, hp, he, hA⟩
  rw [heap_setCell_same w b 2 _ _ _ h]
  rfl
/-- What a call hands back: bytes, and the reader as it stands then. -/
def GavR (w : World) (b : Nat) (ys xs : List Int) (x : Int) (e : Ending) (w' : World) : Prop :=
  ∃ A n c, e = .returned (.slice A n c) ∧ Rd w' A n c (u8s ys) ∧ SR w' b xs x ∧ w.grownBy w' (some b)
/-- And the bytes lie in new memory. -/
def GavN (w : World) (b : Nat) (ys xs : List Int) (x : Int) (e : Ending) (w' : World) : Prop :=
  ∃ A n c, e = .returned (.slice A n c) ∧ Rd w' A n c (u8s ys) ∧ SR w' b xs x ∧ w.grownBy w' (some b) ∧ (∀ q o, A = some ⟨q, o, none⟩ → w.heap.size ≤ q)
theorem info8q : (Try.prog.info? 5).map (fun i => (i.zero, i.size, i.bytes)) = some (some (.int .u8 0), 1, 1) := by kernel_rfl

set_option maxRecDepth 100000 in
set_option maxHeartbeats 800000 in
theorem rbytes_fault_n (b k : Nat) (xs : List Int) (x : Int) (w : World) (h : SR w b xs x) (hx : (x != 0) = true) :
    Calls Try.prog 48 #[.pointer (some ⟨b, 0, none⟩), .int .i64 k] w (GavN w b [] xs x) := by
  have S := Lib.hid h
  obtain ⟨A, n, c, p, all, h, hr, hp, he, hA⟩ := h
  have c2 := three2 h
  have h0 : ¬ (x = 0) := by simpa using hx
  clear h hr hp he hA
  go_enter Try.func48, Try.ntmps48
  go_wp2
  go_ret
  exact ⟨none, 0, 0, rfl, Rd.nil _, S.out, World.grownBy.refl _ _, fun q o hA => by cases hA⟩
theorem rbytes_fault (b k : Nat) (xs : List Int) (x : Int) (w : World) (h : SR w b xs x) (hx : (x != 0) = true) :
    Calls Try.prog 48 #[.pointer (some ⟨b, 0, none⟩), .int .i64 k] w (GavR w b [] xs x) :=
  (rbytes_fault_n b k xs x w h hx).mono fun _ _ ⟨A, n, c, h1, h2, h3, h4, _⟩ => ⟨A, n, c, h1, h2, h3, h4⟩
set_option maxRecDepth 100000 in
set_option maxHeartbeats 800000 in
theorem rbytes_short_n (b k : Nat) (xs : List Int) (w : World) (h : SR w b xs 0) (hk : xs.length < k) (hk2 : k ≤ 100000) :
    Calls Try.prog 48 #[.pointer (some ⟨b, 0, none⟩), .int .i64 k] w (GavN w b [] xs 1) := by
  have S := Lib.hid h
  obtain ⟨A, n, c, p, all, h, hr, hp, he, hA⟩ := h
  have c0 := three0 h
  have c1 := three1 h
  have c2 := three2 h
  have f2 := frozen_of_row _ _ 2 _ _ h
  have hl := Rd.bytes hr
  have hn := hr.le
  have hc := hr.cap
  have k0 : (0 : Int) < (k : Int) := by omega
  have k1 : ¬ ((k : Int) ≤ 0) := by omega
  have hlen : xs.length = n - p := by rw [he]; simp; omega
  have hw1 : IntKind.i64.wrap ((n : Int) - (p : Int)) = (n : Int) - (p : Int) := by rw [IntKind.wrap_i64]; omega
  have hcmp : (n : Int) - (p : Int) < (k : Int) := by omega
  have H := Lib.hid h
  have HR := Lib.hid hr
  have HE := Lib.hid he
  have HA := Lib.hid hA
  clear h hr he hA hl hlen
  go_enter Try.func48, Try.ntmps48
  go_wp2_with fail
  go_quiet (fail)
  go_wp2
  go_ret
  exact ⟨none, 0, 0, rfl, Rd.nil _, SR.fault (w := w.drewN nq) ⟨A, n, c, p, all, H.out, HR.out, hp, HE.out, HA.out⟩ 1, show w.grownBy _ _ from ⟨(did_set (w.drewN nq) b 2 _).os, (did_set (w.drewN nq) b 2 _).tape, (did_set (w.drewN nq) b 2 _).output, (did_set (w.drewN nq) b 2 _).size, (did_set (w.drewN nq) b 2 (.int .i64 1)).block⟩, fun q o hA => by cases hA⟩
theorem rbytes_short (b k : Nat) (xs : List Int) (w : World) (h : SR w b xs 0) (hk : xs.length < k) (hk2 : k ≤ 100000) :
    Calls Try.prog 48 #[.pointer (some ⟨b, 0, none⟩), .int .i64 k] w (GavR w b [] xs 1) :=
  (rbytes_short_n b k xs w h hk hk2).mono fun _ _ ⟨A, n, c, h1, h2, h3, h4, _⟩ => ⟨A, n, c, h1, h2, h3, h4⟩
set_option maxRecDepth 100000 in
set_option maxHeartbeats 1600000 in
theorem rbytes_new (b k : Nat) (xs : List Int) (w : World) (h : SR w b xs 0) (hk : k ≤ xs.length) (hk0 : 0 < k) (hk2 : k ≤ 100000) :
    Calls Try.prog 48 #[.pointer (some ⟨b, 0, none⟩), .int .i64 k] w (GavN w b (xs.take k) (xs.drop k) 0) := by
  obtain ⟨i0, hi0, hz0, hz1, hz2⟩ := info_parts info8q
  have S := Lib.hid h
  obtain ⟨A, n, c, p, all, h, hr, hp, he, hA⟩ := h
  have c0 := three0 h
  have c1 := three1 h
  have c2 := three2 h
  have f1 := frozen_of_row _ _ 1 _ _ h
  have hl := Rd.bytes hr
  have hn := hr.le
  have hc := hr.cap
  have hlen : xs.length = n - p := by rw [he]; simp; omega
  obtain ⟨g, o, rfl, _, _⟩ := hr.2.2.2 (by omega)
  have hgb : g < b := hA (by omega) g o rfl
  have hA2 := Lib.hid hA
  have k0 : (0 : Int) < (k : Int) := by omega
  have k1 : ¬ ((k : Int) ≤ 0) := by omega
  have k2 : (0 : Int) ≤ (p : Int) := by omega
  have k3 : (p : Int) ≤ (p : Int) + (k : Int) := by omega
  have k4 : (p : Int) + (k : Int) ≤ (c : Int) := by omega
  have hw1 : IntKind.i64.wrap ((n : Int) - (p : Int)) = (n : Int) - (p : Int) := by rw [IntKind.wrap_i64]; omega
  have hw2 : IntKind.i64.wrap ((p : Int) + (k : Int)) = (p : Int) + (k : Int) := by rw [IntKind.wrap_i64]; omega
  have hcmp : ¬ ((n : Int) - (p : Int) < (k : Int)) := by omega
  have hpc : ¬ (c = p) := by omega
  have ht : ((p : Int) + (k : Int)).toNat = p + k := by omega
  have ht2 : ((p : Int) + (k : Int)).toNat - p = k := by omega
  have H := Lib.hid h
  have HR := Lib.hid hr
  have HE := Lib.hid he
  have hpk : p + k ≤ n := by omega
  have HRK := Lib.hid (show Rd w (some ⟨g, o + p, none⟩) k (c - p) (u8s (xs.take k)) from by
    have h1 := (TabR.Rd.drop hr hp).take (k := k) (by omega)
    rw [u8s_drop, u8s_take, ← he] at h1
    exact h1)
  clear h hr he hA hl hlen
  go_enter Try.func48, Try.ntmps48
  go_wp2_with fail
  go_quiet (fail)
  go_wp2_with fail
  have HRK2 := Lib.hid (HRK.out.drewN nq)
  have H2 := Lib.hid (show (w.drewN nq).heap[b]? = _ from H.out)
  have HR2 := Lib.hid (HR.out.drewN nq)
  have HB2 := Lib.hid (show Below w.heap.size w (w.drewN nq) from ⟨rfl, rfl, rfl, Nat.le_refl _, fun _ _ => rfl⟩)
  obtain ⟨w2, hw2e⟩ : ∃ w2, w2 = w.drewN nq := ⟨_, rfl⟩
  rw [← hw2e] at HRK2 H2 HR2 HB2 ⊢
  clear hw2e c0 c1 c2 f1 H HR HRK
  have c0 := three0 H2.out
  have c1 := three1 H2.out
  have c2 := three2 H2.out
  refine wp_region_any (by kernel_rfl) ?_
  change wpAny _ _ _ _ _ _ _ (World.drew _)
  refine wpAny_take (i := 0) (v := .slice none 0 0) rfl (by kernel_rfl) (by kernel_rfl) (by kernel_rfl) (fun _ _ _ h => h) (Or.inl ⟨by rfl, fun w => by go_simp⟩) ?_
  refine wpAny_qtail (C := fun w' => ∃ n, w' = w2.drewN n) 16 (List.range' 1 15) (by kernel_rfl) (by kernel_rfl) ⟨1, rfl⟩ ?_
  simp only [List.range', Act.put, List.setIfInBounds_toArray]
  repeat (refine wpQI_step rfl (fun qK hqK => ?_); go_simp; refine hqK _ ?_; clear hqK qK)
  refine wpQI_nil ?_
  rintro _ ⟨nq2, rfl⟩
  simp only [List.drop_succ_cons, List.drop_zero]
  have HRK3 := Lib.hid (HRK2.out.drewN nq2)
  have H3 := Lib.hid (show (w2.drewN nq2).heap[b]? = _ from H2.out)
  have HR3 := Lib.hid (HR2.out.drewN nq2)
  have HB3 := Lib.hid (show Below w.heap.size w (w2.drewN nq2) from below_drewN HB2.out nq2)
  obtain ⟨w3, hw3e⟩ : ∃ w3, w3 = w2.drewN nq2 := ⟨_, rfl⟩
  rw [← hw3e] at HRK3 H3 HR3 HB3 ⊢
  clear hw3e c0 c1 c2 H2 HR2 HRK2 HB2
  go_wp2_with (at_builtin; refine wpList_add _ rfl (.tmp 32) (.tmp 47) _ rfl w3.heap.size 5 i0 _ 1 Try.underlying42 hi0 hz0 hz1 hz2 rfl _ 0 [] rfl (World.ownsRow_nil _ _ _ _) (some ⟨g, o + p, none⟩) k (c - p) (u8s (xs.take k)) rfl HRK3.out (u8s_one _) (by omega) (by omega) (Nat.le_refl _) ?_; intro A5 n5 c5 w5 hn5 hown5 hg5 hat5; have hb5 : Below w3.heap.size w3 w5 := below_add (Below.refl _ _) (World.ownsRow_nil w3 w3.heap.size 5 1) (Nat.le_refl _) hg5; have HW5 := Lib.hid ((hb5.block b (lt_of_block H3.out)).trans H3.out); have c1 := three1 HW5.out; have f1 := frozen_of_row _ _ 1 _ _ HW5.out; clear hat5 hg5)
  go_ret
  have HN5 := hn5.out
  rw [List.nil_append] at hown5
  have hs : SR (w5.setCell ⟨b, 1, none⟩ (.int .i64 ((p : Int) + (k : Int)))) b (xs.drop k) 0 := by
    refine ⟨some ⟨g, o, none⟩, n, c, p + k, all, ?_, Rd.far2 (HR3.out.below hb5) hA2.out _, hpk, by rw [HE.out, List.drop_drop], hA2.out⟩
    rw [heap_setCell_same w5 b 1 _ _ _ HW5.out]
    simp
  have hbl : b < w3.heap.size := lt_of_block H3.out
  refine ⟨A5, n5, c5, rfl, (Rd.own hown5).grown (did_set w5 b 1 _) (fun q hq b' o' hA' => ?_), hs, did_trans (did_below (HB3.out.trans (hb5.mono HB3.out.size)) _) (did_set w5 b 1 _), fun q o' hA' => ?_⟩
  · injection hq with hq
    have := (hown5.lt b' (by rw [hA']; rfl)).1
    omega
  · exact Nat.le_trans HB3.out.size (hown5.lt q (by rw [hA']; rfl)).1
theorem rbytes_ok (b k : Nat) (xs : List Int) (w : World) (h : SR w b xs 0) (hk : k ≤ xs.length) (hk0 : 0 < k) (hk2 : k ≤ 100000) :
    Calls Try.prog 48 #[.pointer (some ⟨b, 0, none⟩), .int .i64 k] w (GavR w b (xs.take k) (xs.drop k) 0) :=
  (rbytes_new b k xs w h hk hk0 hk2).mono fun _ _ ⟨A, n, c, h1, h2, h3, h4, _⟩ => ⟨A, n, c, h1, h2, h3, h4⟩
theorem rbytes_any (b k : Nat) (xs : List Int) (x : Int) (w : World) (h : SR w b xs x) (hk0 : 0 < k) (hk2 : k ≤ 100000) :
    Calls Try.prog 48 #[.pointer (some ⟨b, 0, none⟩), .int .i64 k] w (GavR w b (if x = 0 ∧ k ≤ xs.length then xs.take k else []) (rdN k xs x).2.1 (rdN k xs x).2.2) := by
  unfold rdN
  by_cases hx : x = 0
  · subst hx
    by_cases hk : k ≤ xs.length
    · rw [if_pos ⟨rfl, hk⟩, if_neg (by simp), if_pos hk]
      exact rbytes_ok b k xs w h hk hk0 hk2
    · rw [if_neg (fun h => hk h.2), if_neg (by simp), if_neg hk]
      exact rbytes_short b k xs w h (by omega) hk2
  · rw [if_neg (fun h => hx h.1), if_pos hx]
    exact rbytes_fault b k xs x w h (by simpa using hx)
/-- What a call that tells a number hands back. -/
def ToldR (w : World) (b : Nat) (n : Int) (xs : List Int) (x : Int) (e : Ending) (w' : World) : Prop := e = .returned (.int .i64 n) ∧ SR w' b xs x ∧ w.grownBy w' (some b)
set_option maxRecDepth 100000 in
set_option maxHeartbeats 1600000 in
theorem rnum_any (b : Nat) (q : Int) (xs : List Int) (x : Int) (w : World) (h : SR w b xs x) (h8 : ∀ u ∈ xs, 0 ≤ u ∧ u ≤ 255) :
    Calls Try.prog 38 #[.pointer (some ⟨b, 0, none⟩), .int .i64 q] w (ToldR w b (rdN (wd q) xs x).1 (rdN (wd q) xs x).2.1 (rdN (wd q) xs x).2.2) := by
  have hw1 := wd_pos q
  have hw2 := wd_le q
  have HB := Lib.hid (rbytes_any b (wd q) xs x w h (by omega) (by omega))
  obtain ⟨ys, hys⟩ : ∃ ys, ys = if x = 0 ∧ wd q ≤ xs.length then xs.take (wd q) else [] := ⟨_, rfl⟩
  have hyl : ys.length ≤ 6 := by
    rw [hys]
    split
    · simp; omega
    · simp
  have HY := Lib.hid (show ∀ u ∈ ys, 0 ≤ u ∧ u ≤ 255 from by
    intro u hu
    rw [hys] at hu
    split at hu
    · exact h8 u (List.mem_of_mem_take hu)
    · simp at hu)
  have HV := Lib.hid (show num ys = (rdN (wd q) xs x).1 from by
    rw [hys]
    unfold rdN
    by_cases hx : x = 0
    · by_cases hk : wd q ≤ xs.length
      · rw [if_pos ⟨hx, hk⟩, if_neg (by simpa using hx), if_pos hk]
      · rw [if_neg (fun h => hk h.2), if_neg (by simpa using hx), if_neg hk]; rfl
    · rw [if_neg (fun h => hx h.1), if_pos hx]; rfl)
  rw [← hys] at HB
  obtain ⟨v, hv⟩ : ∃ v, v = rdN (wd q) xs x := ⟨_, rfl⟩
  rw [← hv] at HB HV ⊢
  clear hys hv h h8
  go_enter Try.func38, Try.ntmps38
  go_wp2_with (first
   | (go_at_call 49; refine (Width_any _ _).mono ?_; rintro e w' ⟨rfl, rfl⟩)
   | (go_at_call 48; refine HB.out.mono ?_; rintro e w1 ⟨A1, n1, c1, rfl, hr1, hs1, hd1⟩))
  have hyn : ys.length = n1 := Rd.bytes hr1
  have HN := Lib.hid hyn
  have hn6 : n1 ≤ 6 := by omega
  have HS1 := Lib.hid hs1
  have HD1 := Lib.hid hd1
  clear hyn hyl HB hs1 hd1
  go_loop [6, 7] (fun s i => ∃ j : Nat, j ≤ n1 ∧ i = .int .i64 j ∧ ∃ a : Nat, s = .int .i64 (a : Int) ∧ Hid ((a : Int) = num (ys.take j)) ∧ Hid (a < 2 ^ (8 * j))) (fun _ i => n1 - (intOf i).toNat)
  case atStart => exact ⟨0, Nat.zero_le _, rfl, 0, rfl, Lib.hid rfl, Lib.hid (by decide)⟩
  case round =>
    obtain ⟨j, hj, rfl, a, rfl, ha, hlt⟩ := hrel
    by_cases hjn : j < n1
    · have hjl : j < ys.length := by have := HN.out; omega
      obtain ⟨bb, o, hA, hc⟩ := Rd.byte hr1 hjl
      subst hA
      obtain ⟨u, hu, hu2⟩ : ∃ u : Nat, ys[j] = (u : Int) ∧ u ≤ 255 := by
        have := HY.out ys[j] (List.getElem_mem hjl)
        exact ⟨ys[j].toNat, by omega, by omega⟩
      rw [hu] at hc
      have HU : Hid (ys[j] = (u : Int)) := hu
      have ha2 : a < 281474976710656 := by
        have := hlt.out
        have := pow_le (k := j) (by omega)
        omega
      clear hu
      go_wp2
      go_round
      case rel =>
        refine ⟨j + 1, by omega, by go_num, 256 * a + u, int_eq (by omega), (show _ = _ from ?_), (show _ < _ from ?_)⟩
        · rw [num_next hjl, ← ha.out, HU.out]
          omega
        · have := hlt.out
          have e : 8 * (j + 1) = 8 * j + 8 := by omega
          rw [e, Nat.pow_add]
          omega
      case measure => simp [intOf]; omega
    · obtain rfl : j = n1 := by omega
      go_wp2
      go_ret
      refine ⟨?_, HS1.out, HD1.out⟩
      have := ha.out
      rw [List.take_of_length_le (by have := HN.out; omega), HV.out] at this
      exact ret_int this
end Go.Proofs.Ytdmfgffjplbloaa.TabY
