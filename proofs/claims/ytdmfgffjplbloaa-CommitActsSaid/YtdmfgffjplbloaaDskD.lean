/- The library's backward walk over what waits; the last bytes of a sector; a disk read. Conditions: the disk lies as the facts say. -/
import Derived.RangeFuncNested
import Derived.RangeFuncLeaves
import Derived.Shelf.Abstract
import Derived.WalkKit
import Derived.OwnWalkIn
import Derived.TacticsInMore
import Derived.LoopNIn
import Derived.LoopIn
import Derived.BigRegionIn
import Derived.Test.YtdmfgffjplbloaaDskC
namespace Go.Proofs.Ytdmfgffjplbloaa.DskD
open Go.RowKit Go.Shelf Go.Proofs.Ytdmfgffjplbloaa.Kit Go.Proofs.Ytdmfgffjplbloaa.Byt Go.Proofs.Ytdmfgffjplbloaa.Mem Go.Proofs.Ytdmfgffjplbloaa.DskA Go.Proofs.Ytdmfgffjplbloaa.DskB Go.Proofs.Ytdmfgffjplbloaa.DskC

attribute [local go_sem] Oper.semAt_some

/-- What has come when k rounds are over. -/
def upto {α : Type} (f : Nat → α) (k : Nat) : List α := (List.range k).map f
theorem upto_succ {α : Type} (f : Nat → α) (k : Nat) : upto f (k + 1) = upto f k ++ [f k] := by simp [upto, List.range_succ]
theorem upto_length {α : Type} (f : Nat → α) (k : Nat) : (upto f k).length = k := by simp [upto]

def Wr0 : Wr := ⟨0, 0, 0, []⟩
/-- What comes in round k. -/
def back (E : List Wr) (n k : Nat) : Nat × Wr := (n - 1 - k, E.getD (n - 1 - k) Wr0)
def enc (x : Nat × Wr) : Array Value := #[.int .i64 (x.1 : Int), .agg #[.int .i64 (x.2.at_ : Int), .slice (some ⟨x.2.b, 0, none⟩) 64 x.2.c]]

set_option maxRecDepth 100000 in
set_option maxHeartbeats 2000000 in
theorem back1_in (F : Fence) (m : Nat) (h7 : F.fn 60) (hro : F.round = none) (hm : 1 ≤ m) (l Bs n₀ : Nat) (A : Option Addr) (n c : Nat) (E : List Wr) (hl : n ≤ 1000000000) (hBs : Bs < n₀) (J Jx : List (Nat × Wr) → World → Prop)
    (hY : ∀ pre x W, J pre W → pre.length < n → YieldAt F (m - 1) Try.prog l (enc x) W fun e W' =>
      (e = .returned (.bool true) ∧ J (pre ++ [x]) W' ∧ Below n₀ W W') ∨ (e = .returned (.bool false) ∧ Jx (pre ++ [x]) W'))
    (W : World) (hc : W.cell? ⟨Bs, 0, none⟩ = some (.slice A n c)) (hE : E.length = n) (hb : ∀ b, (Value.slice A n c).ownBlock = some b → b < n₀) (hown : W.ownsRow 0 71 2 (.slice A n c) n (wc E)) (h0 : J [] W) :
    CallsIn F m Try.prog 60 #[.func (.yield l) #[] #[], .pointer (some ⟨Bs, 0, none⟩)] W fun e W' => (∃ v, e = .returned v) ∧
      ((∃ ys, ys = upto (back E n) n ∧ J ys W') ∨ (∃ pre, (∃ k, k ≤ n ∧ pre = upto (back E n) k) ∧ Jx pre W')) := by
  have HE := Lib.hid hE
  have Hown := Lib.hid hown
  have Hb := Lib.hid hb
  clear hE hown hb
  refine callsIn_of_wp Try.func60 rfl h7 ?_ hro
  simp only [Try.ntmps60, List.size_toArray, List.length_cons, List.length_nil, Nat.reduceAdd, Nat.reduceSub, Array.replicate_succ, Array.replicate_zero, List.push_toArray, List.append_toArray, List.nil_append, List.cons_append]
  gi_wp2
  gi_loopw [3] (fun i wr => ∃ k : Nat, k ≤ n ∧ i = .int .i64 ((n : Int) - 1 - (k : Int)) ∧ J (upto (back E n) k) wr ∧ Below n₀ W wr)
    (fun i _ => (intOf i + 1).toNat)
  case atStart => exact ⟨0, Nat.zero_le _, by simp, h0, Below.refl _ _⟩
  case round =>
    obtain ⟨k, hk, rfl, hJs, hnx⟩ := hrel
    have hcr := (hnx.cell (p := ⟨Bs, 0, none⟩) hBs).trans hc
    by_cases hlt : k < n
    · obtain ⟨b, hA, _, _⟩ := own_some Hown.out (by omega)
      subst hA
      have hbn : b < n₀ := Hb.out b rfl
      have hw := wc_at (E := E) (k := n - 1 - k) (by rw [HE.out]; omega)
      have g0 : wr.cell? ⟨b, (n - 1 - k) * 2, none⟩ = some (.int .i64 ((E.getD (n - 1 - k) Wr0).at_ : Int)) := by
        rw [hnx.cell (p := ⟨b, (n - 1 - k) * 2, none⟩) hbn, Hown.out.cellAt _ (by omega), Nat.mul_comm, hw.1]
        simp [HE.out, show n - 1 - k < n by omega]
      have g1 : wr.cell? ⟨b, (n - 1 - k) * 2 + 1, none⟩ = some (.slice (some ⟨(E.getD (n - 1 - k) Wr0).b, 0, none⟩) 64 (E.getD (n - 1 - k) Wr0).c) := by
        rw [hnx.cell (p := ⟨b, (n - 1 - k) * 2 + 1, none⟩) hbn, Hown.out.cellAt _ (by omega), Nat.mul_comm, hw.2]
        simp [HE.out, show n - 1 - k < n by omega]
      clear hw
      obtain ⟨q, hq⟩ : ∃ q : Nat, q = n - 1 - k := ⟨_, rfl⟩
      have hq1 : (n : Int) - 1 - (k : Int) = (q : Int) := by omega
      obtain ⟨fn, tmps, assign, body, hy, hR⟩ := hY _ (back E n k) wr hJs (by rw [upto_length]; exact hlt)
      have hy1 : back E n k = (q, E.getD q Wr0) := by rw [hq]; rfl
      rw [hy1] at hy
      rw [← hq] at g0 g1
      simp only [enc] at hy
      have hqn : q < n := by omega
      have Hq := Lib.hid hq
      have Hy1 := Lib.hid hy1
      clear hq hy1
      rw [hq1]
      have Hq1 := Lib.hid hq1
      clear hq1
      obtain ⟨X, hX⟩ : ∃ X, X = E.getD q Wr0 := ⟨_, rfl⟩
      rw [← hX] at g0 g1 hy
      have HX := Lib.hid hX
      clear hX
      gi_wp2
      refine hR.mono ?_
      rintro e W3 (⟨rfl, hJ3, hk3⟩ | ⟨rfl, hJx3⟩)
      · gi_wp2
        go_roundw
        case rel => exact ⟨k + 1, by omega, congrArg (Value.int .i64) (by have := Hq1.out; omega), by rw [upto_succ]; exact hJ3, hnx.trans hk3⟩
        case measure => simp [intOf] <;> omega
      · gi_wp2
        refine bodyPost_ret (results_none rfl _ _ _) rfl ?_
        exact ⟨⟨_, rfl⟩, .inr ⟨_, ⟨k + 1, by omega, (upto_succ _ _).symm⟩, hJx3⟩⟩
    · obtain rfl : k = n := by omega
      gi_wp2
      go_end0
      exact ⟨⟨_, rfl⟩, .inl ⟨_, rfl, hJs⟩⟩

set_option maxHeartbeats 1000000 in
theorem back_in (F : Fence) (m : Nat) (h5 : F.fn 46) (hro : F.round = none) (a : Option Addr) (len cap : Nat) (w : World) :
    CallsIn F m Try.prog 46 #[.slice a len cap] w fun e w' => e = .returned (.func (.func 60) #[] #[.pointer (some ⟨w.heap.size, 0, none⟩)]) ∧ w' = w.alloc (.cells #[.slice a len cap] 57) := by
  refine callsIn_of_wp Try.func46 rfl h5 ?_ hro
  simp only [Try.ntmps46, List.size_toArray, List.length_cons, List.length_nil, Nat.reduceAdd, Nat.reduceSub, Array.replicate_succ, Array.replicate_zero, List.push_toArray, List.append_toArray, List.nil_append, List.cons_append]
  gi_wp2
  go_ret
  exact ⟨rfl, rfl⟩

theorem back_stops (F : Fence) (m : Nat) (h7 : F.fn 60) (hro : F.round = none) (hm : 1 ≤ m) (Bs : Nat) (A : Option Addr) (n c : Nat) (E : List Wr) (hl : n ≤ 1000000000) (w : World) (hBs : Bs < w.heap.size)
    (hc : w.cell? ⟨Bs, 0, none⟩ = some (.slice A n c)) (hE : E.length = n) (hown : w.ownsRow 0 71 2 (.slice A n c) n (wc E)) :
    SeqStopsK F m Try.prog 60 #[.pointer (some ⟨Bs, 0, none⟩)] enc (Below w.heap.size) (fun ys => ys = upto (back E n) n)
      (fun pre => ∃ k, k ≤ n ∧ pre = upto (back E n) k) n w := fun l J Jx W hW _ _ hY h0 =>
  back1_in F m h7 hro hm l Bs w.heap.size A n c E hl hBs J Jx hY W ((hW.cell (p := ⟨Bs, 0, none⟩) hBs).trans hc) hE (fun b hb => (hown.lt b hb).2) ((Keep.of_below (F := fun _ => False) hW).own hown fun _ _ h => h) h0

/-- A sector's bytes, as they were written last. -/
def now (s : St) (i : Nat) : List Nat := match s.L.reverse.find? (fun p => p.1 == i) with
  | some p => p.2
  | none => s.S.getD i []

theorem getD_rev {E : List Wr} {k : Nat} (h : k < E.length) : E.getD (E.length - 1 - k) Wr0 = E.reverse[k]'(by simpa using h) := by
  rw [List.getElem_reverse, List.getD_eq_getElem?_getD, List.getElem?_eq_getElem (by omega)]
  rfl
theorem back_rev {E : List Wr} {n : Nat} (hE : E.length = n) : ∀ k, k ≤ n → (upto (back E n) k).map (·.2) = E.reverse.take k := by
  subst hE
  intro k
  induction k with
  | zero => intro _; rfl
  | succ k ih =>
    intro hk
    rw [upto_succ, List.map_append, ih (by omega), List.take_succ_eq_append_getElem (by simp; omega)]
    simp only [List.map_cons, List.map_nil, back]
    rw [getD_rev (by omega)]
theorem now_none {s : St} {E : List Wr} {i : Nat} (hl : s.L = E.map fun e => (e.at_, e.bs)) (h : ∀ e ∈ E, e.at_ ≠ i) : now s i = s.S.getD i [] := by
  have : s.L.reverse.find? (fun p => p.1 == i) = none := by
    rw [List.find?_eq_none]
    intro p hp
    rw [List.mem_reverse, hl, List.mem_map] at hp
    obtain ⟨e, he, rfl⟩ := hp
    simpa using h e he
  rw [now, this]
theorem now_some {s : St} {E X Y : List Wr} {e : Wr} {i : Nat} (hl : s.L = E.map fun e => (e.at_, e.bs)) (hE : E.reverse = X ++ [e] ++ Y) (hX : ∀ x ∈ X, x.at_ ≠ i) (he : e.at_ = i) : now s i = e.bs := by
  have : s.L.reverse.find? (fun p => p.1 == i) = some (e.at_, e.bs) := by
    rw [hl, ← List.map_reverse, hE, List.map_append, List.map_append, List.find?_append, List.find?_append]
    have h0 : (X.map fun e => (e.at_, e.bs)).find? (fun p => p.1 == i) = none := by
      rw [List.find?_eq_none]
      intro p hp
      rw [List.mem_map] at hp
      obtain ⟨x, hx, rfl⟩ := hp
      simpa using hX x hx
    rw [h0]
    simp [he]
  rw [now, this]
theorem flat_at {S : List (List Nat)} (h : ∀ x ∈ S, x.length = 64) : ∀ {i : Nat}, i < S.length → (S.flatten.drop (i * 64)).take 64 = S.getD i [] := by
  induction S with
  | nil => intro i hi; simp at hi
  | cons x S ih =>
    intro i hi
    have hx := h x (by simp)
    cases i with
    | zero => rw [Nat.zero_mul, List.drop_zero, List.flatten_cons, List.take_append_of_le_length (by omega), List.take_of_length_le (by omega)]; rfl
    | succ i =>
      have := ih (fun y hy => h y (by simp [hy])) (i := i) (by simpa using hi)
      rw [List.flatten_cons, List.drop_append, List.drop_of_length_le (by omega), List.nil_append, hx, show (i + 1) * 64 - 64 = i * 64 by omega, this]
      simp
theorem sec_rd {w : World} {gl : Nat} {t : TypeId} {S : List (List Nat)} (hB : Blk w gl t (u8n S.flatten)) (h : ∀ x ∈ S, x.length = 64) {i : Nat} (hi : i < S.length) : Rd w (some ⟨gl, i * 64, none⟩) 64 64 (u8n (S.getD i [])) := by
  have hl : (S.getD i []).length = 64 := by
    have : S.getD i [] = S[i] := by simp [hi]
    rw [this]
    exact h _ (List.getElem_mem _)
  have hr := hB.range (off := i * 64) (cs := u8n (S.getD i [])) (by
    rw [u8n_len, hl, ← flat_at h hi]
    simp [u8n])
  exact ⟨by rw [u8n_len, hl], Nat.le_refl _, by omega, fun _ => ⟨gl, i * 64, rfl, hB.lt, hr⟩⟩

theorem blk_kept {B₀ Bx : Nat} {t : TypeId} {xs : List Value} {A B : World} {row : Option Nat} (h : Blk A Bx t xs) (hg : A.grownBy B row) (hr : ∀ r, row = some r → B₀ ≤ r ∧ ∃ o : Obj, A.heap[r]? = some o ∧ o.isCells = false) : Blk B Bx t xs :=
  (hg.block Bx h.lt fun he => by
    obtain ⟨_, o, ho, hc⟩ := hr Bx he.symm
    rw [show A.heap[Bx]? = some _ from h] at ho
    injection ho with ho
    subst ho
    simp [Obj.isCells] at hc).trans h

set_option maxRecDepth 100000 in
set_option maxHeartbeats 4000000 in
theorem last_in (Fn : Fence) (m : Nat) (h3 : Fn.fn 35) (h5 : Fn.fn 46) (h7 : Fn.fn 60) (hro : Fn.round = none) (hm : 3 ≤ m)
    (F : Nat → Prop) (g : Nat) (s : St) (gl : Nat) (A : Option Addr) (n c : Nat) (E : List Wr) (i : Nat) (w : World) (h : At w F g s gl A n c E) (hi : i < s.S.length) (hL : n ≤ 1000000000) :
    CallsIn Fn m Try.prog 35 #[.pointer (some ⟨g, 0, none⟩), .int .i64 (i : Int)] w fun e w' => ∃ b o c, e = .returned (.slice (some ⟨b, o, none⟩) 64 c) ∧ Rd w (some ⟨b, o, none⟩) 64 c (u8n (now s i)) ∧ Below w.heap.size w w' := by
  obtain ⟨c0, c1, _, _⟩ := h.cells
  have hgw := h.lt g h.fg
  have hp := h.ok.pos
  have hmo := h.ok.most
  obtain ⟨N, hN⟩ : ∃ N, N = s.S.length := ⟨_, rfl⟩
  rw [← hN] at c0 hp hmo hi
  have HN := Lib.hid hN
  have H := Lib.hid h
  clear h hN
  have h1 : 1 ≤ m := by omega
  refine callsIn_of_wp_marks Try.func35 rfl h3 ?_ hro
  simp only [Try.ntmps35, List.size_toArray, List.length_cons, List.length_nil, Nat.reduceAdd, Nat.reduceSub, Array.replicate_succ, Array.replicate_zero, List.push_toArray, List.append_toArray, List.nil_append, List.cons_append]
  gi_wp2_with (gi_at_call 46; refine (back_in Fn (m - 1) h5 hro _ _ _ _).mono ?_; rintro e w' ⟨rfl, rfl⟩)
  have bI : Blk (((w.alloc (.cells #[.int .i64 (i : Int)] 3)).alloc (.cells #[.slice none 0 0] 42)).alloc (.cells #[.slice A n c] 57)) w.heap.size 3 [.int .i64 (i : Int)] := ((Blk.new w _ _).alloc _).alloc _
  have bR : Blk (((w.alloc (.cells #[.int .i64 (i : Int)] 3)).alloc (.cells #[.slice none 0 0] 42)).alloc (.cells #[.slice A n c] 57)) (w.heap.size + 1) 42 [.slice none 0 0] := by
    have h := (Blk.new (w.alloc (.cells #[.int .i64 (i : Int)] 3)) 42 [.slice none 0 0]).alloc (.cells #[.slice A n c] 57)
    rwa [World.size_alloc] at h
  have bN : Blk (((w.alloc (.cells #[.int .i64 (i : Int)] 3)).alloc (.cells #[.slice none 0 0] 42)).alloc (.cells #[.slice A n c] 57)) (w.heap.size + 2) 57 [.slice A n c] := by
    have h := Blk.new ((w.alloc (.cells #[.int .i64 (i : Int)] 3)).alloc (.cells #[.slice none 0 0] 42)) 57 [.slice A n c]
    rwa [World.size_alloc, World.size_alloc] at h
  have hB0 : Below w.heap.size w (((w.alloc (.cells #[.int .i64 (i : Int)] 3)).alloc (.cells #[.slice none 0 0] 42)).alloc (.cells #[.slice A n c] 57)) := (((Below.refl _ w).alloc (Nat.le_refl _) _).alloc (by simp) _).alloc (by simp; omega) _
  have hsz : (((w.alloc (.cells #[.int .i64 (i : Int)] 3)).alloc (.cells #[.slice none 0 0] 42)).alloc (.cells #[.slice A n c] 57)).heap.size = w.heap.size + 3 := by simp
  obtain ⟨W0, hW0⟩ : ∃ W0, ((w.alloc (.cells #[.int .i64 (i : Int)] 3)).alloc (.cells #[.slice none 0 0] 42)).alloc (.cells #[.slice A n c] 57) = W0 := ⟨_, rfl⟩
  rw [hW0] at bI bR bN hB0 hsz ⊢
  clear hW0
  refine wpIn_rangeFunc_ownH hro h1 (gf := 60) (lb := #[.pointer (some ⟨w.heap.size + 1 + 1, 0, none⟩)]) rfl h7 (enters_of Try.func60 (by kernel_rfl) rfl)
    (back_stops Fn (m - 1) h7 hro (by omega) (w.heap.size + 1 + 1) A n c E hL W0 (by omega) (bN.cell rfl) H.out.len ((Keep.of_below (F := fun _ => False) hB0).own H.out.own fun _ _ h => h)) belowK_t (belowK_b (Nat.le_refl _)) (Below.refl _ _) (fun _ => rfl)
    (fun pre W => (∀ p ∈ pre, p.2.at_ ≠ i) ∧ Below W0.heap.size W0 W)
    (fun cd pre W => (cd = .ret ∧ ∃ ini last, pre = ini ++ [last] ∧ (∀ p ∈ ini, p.2.at_ ≠ i) ∧ last.2.at_ = i ∧ Blk W (w.heap.size + 1) 42 [.slice (some ⟨last.2.b, 0, none⟩) 64 last.2.c]) ∧ Below w.heap.size w W)
    (OwnFrom.and (fun _ _ _ _ hs _ _ => hs) (ownFrom_below (Nat.le_refl _) (Nat.le_refl _)))
    (fun cd => OwnFrom.and (fun _ _ _ _ hs hg hr => by obtain ⟨hc, ini, last, e1, e2, e3, e4⟩ := hs; exact ⟨hc, ini, last, e1, e2, e3, blk_kept e4 hg hr⟩) (ownFrom_below (Nat.le_refl _) (by omega)))
    ⟨by simp, Below.refl _ _⟩
    (fun x a' W => ∃ Bx, w.heap.size + 1 < Bx ∧ Blk W Bx 71 x.2.cells ∧ a' = { tmps := #[.pointer (some ⟨g, 0, none⟩), .int .i64 (i : Int), undef, .pointer (some ⟨w.heap.size, 0, none⟩), .pointer (some ⟨w.heap.size + 1, 0, none⟩), undef, .pointer (some ⟨Bx, 0, none⟩), .pointer (some ⟨g, 0, none⟩), .pointer (some ⟨g, 0, none⟩), .pointer (some ⟨g, 1, none⟩), .slice A n c, .func (.func 60) #[] #[.pointer (some ⟨w.heap.size + 1 + 1, 0, none⟩)], .int .i64 (x.1 : Int), .agg #[.int .i64 (x.2.at_ : Int), .slice (some ⟨x.2.b, 0, none⟩) 64 x.2.c], undef, undef, undef, undef, undef, undef, undef, undef, undef, undef, undef, undef, undef], defers := [] })
    (fun x a' _ X Y row hs hg hr => by obtain ⟨Bx, h1, h2, h3⟩ := hs; exact ⟨Bx, h1, blk_kept h2 hg hr, h3⟩)
    ?assign ?body ?done ?stop
  case assign =>
    rintro l pre x W K ⟨hp1, hB1⟩ hK
    have hs1 := hB1.size
    simp only [enc]
    gi_wp2
    refine hK _ _ ?_ ?_ ⟨hp1, ?_⟩ ⟨W.heap.size, by omega, ?_, rfl⟩
    · exact (KeepsOthers.alloc _ _).from _
    · exact (Below.refl _ W).alloc hs1 _
    · exact hB1.alloc hs1 _
    · exact Blk.new W 71 x.2.cells
  case body =>
    rintro l pre x a' W hl ⟨r, hr⟩ ⟨hp1, hB1⟩ ⟨Bx, hBx, bX, rfl⟩ hlt
    have cI := (bI.below hB1).cell (i := 0) rfl
    have bR1 := bR.below hB1
    have cR := bR1.cell (i := 0) rfl
    have fR := bR1.frozen 0
    have cX0 : W.cell? ⟨Bx, 0, none⟩ = some (.int .i64 (x.2.at_ : Int)) := bX.cell rfl
    have cX1 : W.cell? ⟨Bx, 1, none⟩ = some (.slice (some ⟨x.2.b, 0, none⟩) 64 x.2.c) := bX.cell rfl
    have BR1 := Lib.hid bR1
    clear bR1
    by_cases hxi : x.2.at_ = i
    · have ht : ((x.2.at_ : Int) == (i : Int)) = true := by simp; omega
      have Hxi := Lib.hid hxi
      clear hxi
      gi_wp2
      exact ⟨(KeepsOthers.setCell _ _ _).from _, ⟨rfl, pre, x, rfl, hp1, Hxi.out, BR1.out.set 0 _⟩, ((hB0.trans (hB1.mono hB0.size)).setCell (by simp) _)⟩
    · have ht : ((x.2.at_ : Int) == (i : Int)) = false := by simp; omega
      have Hxi := Lib.hid hxi
      clear hxi
      gi_wp2
      exact ⟨KeepsFrom.refl _ _, Below.refl _ _, fun p hp => (List.mem_append.1 hp).elim (hp1 p) (fun e => by simp at e; subst e; exact Hxi.out), hB1⟩
  case done =>
    rintro D ys W hD rfl ⟨hp1, hB1⟩ hK
    have cI := (bI.below hB1).cell (i := 0) rfl
    have bR1 := bR.below hB1
    have cR := bR1.cell (i := 0) rfl
    have fR := bR1.frozen 0
    have hBw := hB0.trans (hB1.mono hB0.size)
    have d0 := (hBw.cell (p := ⟨g, 0, none⟩) hgw).trans c0
    have BR1 := Lib.hid bR1
    have HBw := Lib.hid hBw
    have Hp1 := Lib.hid hp1
    clear bR1 hBw hp1
    gi_wp2
    gi_region
    all_goals
      gi_wp2
      have hK' := (KeepsOthers.setCell W ⟨w.heap.size + 1, 0, none⟩ (.slice (some ⟨gl, i * 64, none⟩) 64 64)).same D _ hK rfl
      refine ⟨by simp, .inl ⟨_, _, rfl, run_takeDeferred hK', ?_⟩⟩
      have hc4 := cell_kept (World.cell?_setCell_same' W ⟨w.heap.size + 1, 0, none⟩ (.slice (some ⟨gl, i * 64, none⟩) 64 64) (by rw [cR]; rfl)) (grownBy_putObj' _ D (.deferred none)) (fun r e => by cases e; exact ⟨_, hK', rfl⟩)
      have hc5 : ((W.setCell ⟨w.heap.size + 1, 0, none⟩ (.slice (some ⟨gl, i * 64, none⟩) 64 64)).drew.putObj D (.deferred none)).cell? ⟨w.heap.size + 1, 0, none⟩ = some (.slice (some ⟨gl, i * 64, none⟩) 64 64) := hc4
      refine ⟨.slice (some ⟨gl, i * 64, none⟩) 64 64, ?_, gl, i * 64, 64, rfl, ?_, ?_⟩
      · simp [results, Try.f35, go_sem, hc5]
      · rw [now_none H.out.list fun e he => ?_]
        · exact sec_rd H.out.laid H.out.ok.sec (by rw [← HN.out]; exact hi)
        · have hm : e ∈ (upto (back E n) n).map (·.2) := by
            rw [back_rev H.out.len n (Nat.le_refl _), List.take_of_length_le (by simp [H.out.len])]
            simpa using he
          obtain ⟨p, hp, rfl⟩ := List.mem_map.1 hm
          exact Hp1.out p hp
      · exact ((HBw.out.setCell (by simp) _).drew).trans (belowK_b (w := w) (Nat.le_refl _) _ D _ _ (by omega) hK' rfl rfl)
  case stop =>
    rintro D cd pre W hD ⟨k, hk, rfl⟩ ⟨⟨rfl, ini, last, e1, e2, e3, bR1⟩, hB1⟩ hK
    have cR := bR1.cell (i := 0) rfl
    have E1 := Lib.hid e1
    have E2 := Lib.hid e2
    have E3 := Lib.hid e3
    clear e1 e2 e3
    gi_wp2
    refine ⟨by simp, .inl ⟨_, _, rfl, run_takeDeferred hK, ?_⟩⟩
    have hc5 := cell_kept cR (grownBy_putObj' _ D (.deferred none)) (fun r e => by cases e; exact ⟨_, hK, rfl⟩)
    have hmap := congrArg (List.map (·.2)) E1.out
    rw [back_rev H.out.len k hk] at hmap
    have hrev : E.reverse = ini.map (·.2) ++ [last.2] ++ E.reverse.drop k := by
      have ht := List.take_append_drop k E.reverse
      rw [hmap, List.map_append] at ht
      exact ht.symm
    have hmem : last.2 ∈ E := by
      rw [← List.mem_reverse, hrev]
      simp
    refine ⟨.slice (some ⟨last.2.b, 0, none⟩) 64 last.2.c, ?_, last.2.b, 0, last.2.c, rfl, ?_, ?_⟩
    · simp [results, Try.f35, go_sem, hc5]
    · rw [now_some H.out.list hrev (fun x hx => ?_) E3.out]
      · exact (H.out.ent _ hmem).1
      · obtain ⟨p, hp, rfl⟩ := List.mem_map.1 hx
        exact E2.out p hp
    · exact hB1.trans (belowK_b (w := w) (Nat.le_refl _) W D _ _ (by omega) hK rfl rfl)

theorem last_any (F : Nat → Prop) (g : Nat) (s : St) (i : Nat) (w : World) (hD : Dk w F g s) (hi : i < s.S.length) (hL : s.L.length ≤ 1000000000) :
    Calls Try.prog 35 #[.pointer (some ⟨g, 0, none⟩), .int .i64 (i : Int)] w fun e w' => ∃ b o c, e = .returned (.slice (some ⟨b, o, none⟩) 64 c) ∧ Rd w (some ⟨b, o, none⟩) 64 c (u8n (now s i)) ∧ Below w.heap.size w w' := by
  obtain ⟨gl, A, n, c, E, h⟩ := hD
  exact callsIn_wide.1 (last_in Fence.wide 3 trivial trivial trivial rfl (by omega) F g s gl A n c E i w h hi (by rw [← h.long]; exact hL))

theorem read_nil (i : Int) (w : World) : Calls Try.prog 19 #[.pointer none, .int .i64 i] w fun e w' => e = .returned (.tuple #[.slice none 0 0, .int .i64 7]) ∧ w = w' := by
  go_enter Try.func19, Try.ntmps19
  go_wp2
  go_ret2
  exact ⟨rfl, rfl⟩
set_option maxHeartbeats 400000 in
theorem read_range (F : Nat → Prop) (g : Nat) (s : St) (i : Int) (w : World) (hD : Dk w F g s) (hi : inB s i = false) :
    Calls Try.prog 19 #[.pointer (some ⟨g, 0, none⟩), .int .i64 i] w fun e w' => e = .returned (.tuple #[.slice none 0 0, .int .i64 3]) ∧ w = w' := by
  have HC := fun W h => has_any F g s i W h
  rw [hi] at HC
  have HC' := Lib.hid HC
  have Hi := Lib.hid hi
  clear HC hi
  go_enter Try.func19, Try.ntmps19
  go_wp2_with (go_at_call 31; refine (HC'.out _ hD).mono ?_; rintro e w' ⟨rfl, rfl⟩)
  go_ret2
  exact ⟨rfl, rfl⟩
set_option maxHeartbeats 400000 in
theorem read_down (F : Nat → Prop) (g : Nat) (s : St) (i : Int) (w : World) (hD : Dk w F g s) (hi : inB s i = true) (hd : s.down = true) :
    Calls Try.prog 19 #[.pointer (some ⟨g, 0, none⟩), .int .i64 i] w fun e w' => e = .returned (.tuple #[.slice none 0 0, .int .i64 8]) ∧ w = w' := by
  have HC := fun W h => has_any F g s i W h
  rw [hi] at HC
  have HC' := Lib.hid HC
  have Hi := Lib.hid hi
  obtain ⟨gl, A, n, c, E, h⟩ := hD
  obtain ⟨_, _, _, c3⟩ := h.cells
  rw [hd] at c3
  have hD := Lib.hid (show Dk w F g s from ⟨gl, A, n, c, E, h⟩)
  have Hd := Lib.hid hd
  clear HC hi hd h
  go_enter Try.func19, Try.ntmps19
  go_wp2_with (go_at_call 31; refine (HC'.out _ hD.out).mono ?_; rintro e w' ⟨rfl, rfl⟩)
  go_ret2
  exact ⟨rfl, rfl⟩
/-- What a read hands back: new memory with these bytes. -/
def Told (w : World) (xs : List Nat) (e : Ending) (w' : World) : Prop :=
  ∃ A, e = .returned (.tuple #[.slice A 64 64, .int .i64 0]) ∧ w'.ownsRow w.heap.size 5 1 (.slice A 64 64) 64 (u8n xs) ∧ Below w.heap.size w w'
set_option maxHeartbeats 800000 in
theorem read_ok (F : Nat → Prop) (g : Nat) (s : St) (i : Nat) (w : World) (hD : Dk w F g s) (hi : i < s.S.length) (hd : s.down = false) (hL : s.L.length ≤ 1000000000) :
    Calls Try.prog 19 #[.pointer (some ⟨g, 0, none⟩), .int .i64 (i : Int)] w (Told w (now s i)) := by
  obtain ⟨i0, hi0, hz0, hz1, hz2⟩ := info_parts info8
  have hin : inB s i = true := by simp [inB, hi]
  have HC := fun W h => has_any F g s i W h
  rw [hin] at HC
  have HC' := Lib.hid HC
  have Hi := Lib.hid hin
  obtain ⟨gl, A, n, c, E, h⟩ := hD
  obtain ⟨_, _, _, c3⟩ := h.cells
  rw [hd] at c3
  have hD := Lib.hid (show Dk w F g s from ⟨gl, A, n, c, E, h⟩)
  have Hd := Lib.hid hd
  have HL := Lib.hid hL
  clear HC hin hd h hL
  go_enter Try.func19, Try.ntmps19
  go_wp2_with (first
   | (go_at_call 31; refine (HC'.out _ hD.out).mono ?_; rintro e w' ⟨rfl, rfl⟩)
   | (refine wpList_make_room _ rfl _ _ 42 rfl 5 i0 (.int .u8 0) 1 Try.underlying42 hi0 hz0 hz1 hz2 rfl .i64 .i64 64 64 64 64 rfl rfl rfl rfl (by omega) (by omega) (by omega) ?_; intro w1 hB1 hb1 hs1)
   | (go_at_call 35; refine (last_any F g s i _ (hD.out.below hb1) hi HL.out).mono ?_; rintro e w2 ⟨b, o, c2, rfl, hR2, hb2⟩; have HR2 := Lib.hid (hR2.below hb2); have HB2 := Lib.hid ((show Blk w1 w.heap.size 5 (u8n (zs 64)) from by have := hB1.out; simpa [Blk, u8n, zs] using this).below hb2))
   | (refine wpList_copy_part rfl (.tmp 21) (.tmp 24) 42 42 rfl 5 Try.underlying42 size8 w.heap.size 0 64 64 rfl rfl HR2.out (u8n_one _) HB2.out (by rw [u8n_len, zs_len]; omega) ?_; intro w3 m hm hB3 ho3))
  go_ret2
  have hlen : (now s i).length = 64 := Rd.nats HR2.out
  have hm' : m = 64 := hm.out
  subst hm'
  have hB4 := hB3.out
  rw [List.take_of_length_le (by rw [u8n_len, hlen]; omega), splice_all (by rw [u8n_len, u8n_len, zs_len, hlen])] at hB4
  refine ⟨_, rfl, ?_, ho3.out.below (hb1.trans (hb2.mono hb1.size)) (Nat.le_refl _) (by have := hb1.size; have := hb2.size; omega)⟩
  have h' := own_of_block (base := w.heap.size) (n := 64) (cur := u8n (now s i)) hB4 (Nat.le_refl _) (by rw [u8n_len, hlen]; omega) (by rw [u8n_len, hlen]; omega)
  rw [List.take_of_length_le (by rw [u8n_len, hlen]; omega), u8n_len, hlen] at h'
  exact h'
end Go.Proofs.Ytdmfgffjplbloaa.DskD
