/- The reference's disk: a flush, a new one. Conditions: the disk lies as the facts say. -/
import Derived.Deep.RegionLaw
import Derived.Test.YtdofnoaadkpniaaRdkC
import Derived.Outline
namespace Go.Proofs.Ytdofnoaadkpniaa.RdkD
open Go.RowKit Go.Proofs.Ytdofnoaadkpniaa.Kit Go.Proofs.Ytdofnoaadkpniaa.Byt Go.Proofs.Ytdofnoaadkpniaa.Mem Go.Proofs.Ytdofnoaadkpniaa.DskA Go.Proofs.Ytdofnoaadkpniaa.DskB Go.Proofs.Ytdofnoaadkpniaa.DskD Go.Proofs.Ytdofnoaadkpniaa.DskE Go.Proofs.Ytdofnoaadkpniaa.DskF Go.Proofs.Ytdofnoaadkpniaa.RdkA Go.Proofs.Ytdofnoaadkpniaa.RdkB Go.Proofs.Ytdofnoaadkpniaa.RdkC

theorem RGot.trans {w w1 w2 : World} {F F1 : Nat → Prop} {g : Nat} {v : Value} {s : St} {e : Ending} (hk : Keep F w w1) (hf : ∀ k, F1 k → F k ∨ w.heap.size ≤ k) (h : RGot F1 g w1 v s e w2) : RGot F g w v s e w2 := by
  obtain ⟨he, F2, hD, hk2, hf2⟩ := h
  refine ⟨he, F2, hD, hk.trans hk2 hf, fun k h => ?_⟩
  rcases hf2 k h with h | h
  · exact hf k h
  · exact .inr (Nat.le_trans hk.size h)
theorem rflush_down (F : Nat → Prop) (g : Nat) (s : St) (w : World) (hD : RD w F g s) (hs : (spend s).1 = false) :
    Calls Try.prog 15 #[.pointer (some ⟨g, 0, none⟩)] w (RGot F g w (.int .i64 8) (spend s).2) := by
  have HC := fun W h => goes_any F g s W h
  rw [hs] at HC
  have HC' := Lib.hid HC
  have Hs := Lib.hid hs
  clear HC hs
  go_enter Try.func15, Try.ntmps15
  go_wp2_with (go_at_call 28; refine (HC'.out _ hD).mono ?_; rintro e w1 ⟨rfl, hD1, hk1⟩)
  go_ret
  exact ⟨rfl, F, hD1, hk1, fun k hk => .inl hk⟩
theorem rflush_ok (F : Nat → Prop) (g : Nat) (s : St) (w : World) (hD : RD w F g s) (hs : (spend s).1 = true) (hL : s.L.length ≤ 1000000000) :
    Calls Try.prog 15 #[.pointer (some ⟨g, 0, none⟩)] w (RGot F g w (.int .i64 0) (lay (fun _ => true) (spend s).2)) := by
  have HC := fun W h => goes_any F g s W h
  rw [hs] at HC
  have HC' := Lib.hid HC
  have hL1 : (spend s).2.L.length ≤ 1000000000 := by rw [(spend_sl s).1]; exact hL
  obtain ⟨s1, hs1⟩ : ∃ s1, s1 = (spend s).2 := ⟨_, rfl⟩
  rw [← hs1] at hL1 HC' ⊢
  have HL := Lib.hid hL1
  clear HC hs hs1 hL1 hL
  go_enter Try.func15, Try.ntmps15
  go_wp2_with (first
   | (go_at_call 28; refine (HC'.out _ hD).mono ?_; rintro e w1 ⟨rfl, hD1, hk1⟩)
   | (go_at_call 18; refine (rlay_true F g s1 _ hD1 HL.out).mono ?_; rintro e w2 ⟨rfl, F2, hD2, hk2, hf2⟩))
  go_ret
  exact RGot.trans hk1 (fun k hk => .inl hk) ⟨rfl, F2, hD2, hk2, hf2⟩

/-! ### a new one -/

/-- What the loop keeps: k sectors are there. -/
structure NInv (w : World) (g k : Nat) (wr : World) (F : Nat → Prop) (r : Nat → Sv) (x : Nat → List Value) (V : List Sl) : Prop where
  rb : RB wr F g r x (-1) false
  x0 : x 0 = V.map Sl.val
  x1 : x 1 = []
  x2 : x 2 = []
  hS : V.map Sl.xs = List.replicate k (zs 64)
  el : ∀ v ∈ V, El wr F g r v
  low : ∀ k, F k → w.heap.size ≤ k
  bel : Below w.heap.size w wr
theorem new_elb {w1 w2 : World} {F : Nat → Prop} {g b c : Nat} {r : Nat → Sv} {x : Nat → List Value} {f : Int} {d : Bool} {bs : List Nat} (h : RB w1 F g r x f d) (hR : Rd w2 (some ⟨b, 0, none⟩) 64 c (u8n bs)) (hbw : w1.heap.size ≤ b) (hbl : b < w2.heap.size) :
    El w2 (Gr F w1 w2) g r ⟨some ⟨b, 0, none⟩, 64, c, bs⟩ := by
  refine ⟨hR, rfl, fun b' o hA => ?_⟩
  injection hA with hA
  injection hA with hA _
  have hA : b = b' := hA
  subst hA
  refine ⟨.inr ⟨hbw, hbl⟩, ?_, fun i hi hk => ?_⟩
  · have := h.lt g h.fg; omega
  · have := h.lt b (h.fo i hi b hk).1; omega
theorem NInv.first (w : World) : NInv w w.heap.size 0 (w.alloc (.cells (hdr (fun _ => ⟨none, 0, 0⟩) (-1) false).toArray 42)) (fun k => k = w.heap.size) (fun _ => ⟨none, 0, 0⟩) (fun _ => []) [] :=
  ⟨⟨Blk.new w _ _, fun j _ => World.ownsRow_nil _ _ _ _, rfl, (fun j _ k hk => by cases hk), fun k hk => by rw [World.size_alloc]; omega⟩, rfl, rfl, rfl, rfl, by simp, fun k hk => by omega, (Below.refl _ _).alloc (Nat.le_refl _) _⟩
theorem NInv.done {w wr : World} {g : Nat} {n : Int} {F : Nat → Prop} {r : Nat → Sv} {x : Nat → List Value} {V : List Sl} (h : NInv w g (cnt n) wr F r x V) : RD wr F g (newSt n) := by
  have p1 := cnt_pos n
  have p2 := cnt_le n
  refine ⟨r, x, V, [], h.rb, h.x0, h.x1, h.x2, h.hS, rfl, fun v hv => hv.elim (h.el v) fun h => (by cases h), ⟨?_, ?_, ?_, by simp [newSt], by simp [newSt], by simp [newSt]⟩⟩
  · simpa [newSt] using p1
  · simpa [newSt] using p2
  · intro y hy
    rw [(List.mem_replicate.1 hy).2, zs_len]
theorem NInv.next {w wr wA w2 w3 : World} {g k b c n' c' : Nat} {A' : Option Addr} {F : Nat → Prop} {r : Nat → Sv} {x : Nat → List Value} {V : List Sl} {o : Obj} (h : NInv w g k wr F r x V) (hbA : Below wr.heap.size wr wA) (hR : Rd wA (some ⟨b, 0, none⟩) 64 c (u8n (zs 64))) (hbw : wr.heap.size ≤ b) (hbl : b < wA.heap.size)
    (hown : w2.ownsRow 0 (ty 0) 1 (.slice A' n' c') n' (x 0 ++ [.slice (some ⟨b, 0, none⟩) 64 c])) (hg : (wA.alloc o).grownBy w2 (r 0).v.ownBlock) (hat : (Value.slice A' n' c').ownBlock = (r 0).v.ownBlock ∨ (Value.slice A' n' c').ownBlock = some (wA.alloc o).heap.size) (hw3 : w3 = w2.setCell ⟨g, 0, none⟩ (.slice A' n' c')) :
    ∃ F' r' x' V', NInv w g (k + 1) w3 F' r' x' V' := by
  have h1 := h.rb.below hbA
  have hE := new_elb h.rb hR hbw hbl
  have h2 := h1.grow (w3 := w3) (j := 0) (q := ⟨A', n', c'⟩) ((Below.refl wA.heap.size wA).alloc (Nat.le_refl _) o) (by omega) hown hg hat hw3
  have hs := h.bel.size
  have hsA := hbA.size
  refine ⟨_, _, _, V ++ [⟨some ⟨b, 0, none⟩, 64, c, zs 64⟩], h2.1, ?_, h.x1, h.x2, ?_, fun v hv => ?_, fun i hi => ?_, ?_⟩
  · show x 0 ++ [_] = _
    rw [h.x0]
    simp [Sl.val]
  · rw [List.map_append, h.hS, List.replicate_succ']
    rfl
  · rcases List.mem_append.1 hv with hv | hv
    · exact h2.2.1 v ((h.el v hv).below hbA)
    · obtain rfl := List.mem_singleton.1 hv
      exact h2.2.1 _ hE
  · rcases Gr.ge _ _ _ i hi with hi | hi
    · rcases Gr.ge _ _ _ i hi with hi | hi
      · exact h.low i hi
      · omega
    · omega
  · have hk : Keep (fun k => w.heap.size ≤ k) wr w3 := (Keep.of_below (F := fun k => w.heap.size ≤ k) hbA).trans h2.2.2 fun k hk => by
      rcases Gr.ge _ _ _ k hk with hk | hk
      · exact .inl (h.low k hk)
      · exact .inr hk
    exact h.bel.trans (hk.below (fun _ h => h) hs)

def RMade (w : World) (s : St) (e : Ending) (w' : World) : Prop :=
  ∃ g F, e = .returned (.pointer (some ⟨g, 0, none⟩)) ∧ RD w' F g s ∧ Below w.heap.size w w' ∧ ∀ k, F k → w.heap.size ≤ k

set_option maxRecDepth 100000 in
set_option maxHeartbeats 1600000 in
theorem rnew_any (n : Int) (w : World) : Calls Try.prog 10 #[.int .i64 n] w (RMade w (newSt n)) := by
  obtain ⟨iS, hiS, hzS0, hzS1, hzS2⟩ := info_parts info_sl
  have p1 := cnt_pos n
  have p2 := cnt_le n
  have hc : (n ≤ 0 ∧ cnt n ≤ 1) ∨ (1 ≤ n ∧ n ≤ 128 ∧ n ≤ (cnt n : Nat) ∧ (cnt n : Nat) ≤ n) ∨ (128 < n ∧ 128 ≤ cnt n) := by unfold cnt; omega
  obtain ⟨K, hK⟩ : ∃ K, K = cnt n := ⟨_, rfl⟩
  rw [← hK] at p1 p2 hc
  have HK := Lib.hid hK
  clear hK
  obtain ⟨Z, hZ⟩ : ∃ Z, Z = (u8n (zs 64)).toArray := ⟨_, rfl⟩
  have hmk := mk64
  simp only [← hZ] at hmk
  have HZ := Lib.hid hZ
  clear hZ
  rcases hc with ⟨h1, h2⟩ | ⟨h1, h1', h2, h2'⟩ | ⟨h1, h2⟩
  case' inl => have hd1 : decide (n < 1) = true := by simp; omega
  case' inr.inl =>
    have hd1 : decide (n < 1) = false := by simp; omega
    have hd2 : decide (128 < n) = false := by simp; omega
  case' inr.inr =>
    have hd1 : decide (n < 1) = false := by simp; omega
    have hd2 : decide (128 < n) = true := by simp; omega
  all_goals
    go_enter Try.func10, Try.ntmps10
    go_wp2
    go_loopw [4] (fun i wr => ∃ k : Nat, k ≤ K ∧ i = .int .i64 k ∧ Hid (∃ F r x V, NInv w w.heap.size k wr F r x V)) (fun i _ => K - (intOf i).toNat)
    case atStart => exact ⟨0, Nat.zero_le _, rfl, _, _, _, _, NInv.first w⟩
    case round =>
      obtain ⟨k, hk, rfl, HI⟩ := hrel
      obtain ⟨F, r, x, V, hI⟩ := HI.out
      obtain ⟨c0, _, _, _, _⟩ := hI.rb.cells
      have hn0 : (r 0).n ≤ 128 := by
        have := (hI.rb.own 0 (by omega)).1
        have h2 := congrArg List.length hI.hS
        rw [hI.x0, List.length_map] at this
        rw [List.length_map, List.length_replicate] at h2
        omega
      have hgl := hI.rb.lt _ hI.rb.fg
      by_cases hlt : k < K
      · have hbA : Below wr.heap.size wr (wr.alloc (.cells Z 5)) := (Below.refl _ _).alloc (Nat.le_refl _) _
        have ka : (wr.alloc (.cells Z 5)).cell? ⟨w.heap.size, 0, none⟩ = some (.slice (r 0).A (r 0).n (r 0).c) := (hbA.cell (p := ⟨w.heap.size, 0, none⟩) hgl).trans c0
        have kb : ((wr.alloc (.cells Z 5)).alloc (.cells #[.slice (some ⟨wr.heap.size, 0, none⟩) 64 64] 31)).cell? ⟨w.heap.size, 0, none⟩ = some (.slice (r 0).A (r 0).n (r 0).c) := ((Below.refl _ _).alloc (Nat.le_refl _) _ |>.cell (p := ⟨w.heap.size, 0, none⟩) (by rw [World.size_alloc]; show w.heap.size < wr.heap.size + 1; omega)).trans ka
        have HD := Lib.hid hI
        have HBA := Lib.hid hbA
        have h1b := Lib.hid (hI.rb.below hbA)
        have hnw := new_one (wr.alloc (.cells Z 5)) (.slice (some ⟨wr.heap.size, 0, none⟩) 64 64) 31
        rw [World.size_alloc] at hnw
        have HNW := Lib.hid hnw
        clear hbA hI hnw
        go_wp2
        go_region_law (rw [if_pos (by rfl)]; refine wp_append_at (.tmp 20) (.tmp 22) 39 rfl 0 31 iS _ 1 24 Try.underlying39 hiS hzS0 hzS1 hzS2 rfl (by omega) (r 0).v (r 0).n (x 0) rfl (show World.ownsRow (World.drew ((wr.alloc (.cells Z 5)).alloc (.cells #[.slice (some ⟨wr.heap.size, 0, none⟩) 64 64] 31))) 0 31 1 (r 0).v (r 0).n (x 0) from (show (wr.alloc (.cells Z 5)).ownsRow 0 31 1 (r 0).v (r 0).n (x 0) from h1b.out.own 0 (by omega)).alloc _) ⟨wr.heap.size + 1, 0, none⟩ 1 1 [.slice (some ⟨wr.heap.size, 0, none⟩) 64 64] rfl rfl HNW.out (by simp [Value.oneCell']) (by unfold maxLen; omega) (by omega) (Nat.zero_le _) ?_; intro A5 n5 c5 w5 hn5 hown5 hg5 hat5; have Hg5 := Lib.hid (show ((wr.alloc (.cells Z 5)).alloc (.cells #[.slice (some ⟨wr.heap.size, 0, none⟩) 64 64] 31)).grownBy w5 (r 0).v.ownBlock from ⟨hg5.os, hg5.tape, hg5.output, hg5.size, hg5.block⟩); have kf := grow_cells h1b.out (j := 0) (by omega) Hg5.out; have k5 : w5.cell? ⟨w.heap.size, 0, none⟩ = some (.slice (r 0).A (r 0).n (r 0).c) := kf.1; have f5 := kf.2; clear hg5 kf)
        all_goals
          go_wp2
          go_roundw
          case rel => exact ⟨k + 1, by omega, by go_num, HD.out.next HBA.out (b := wr.heap.size) (by rw [HZ.out]; exact blk_rd (Blk.new wr 5 (u8n (zs 64))) (zs_len 64) (by omega)) (Nat.le_refl _) (by rw [World.size_alloc]; exact Nat.lt_succ_self _) hown5.out Hg5.out hat5.out rfl⟩
          case measure => simp [intOf]; omega
      · have hkK : k = cnt n := by rw [← HK.out]; omega
        subst hkK
        have HDD := Lib.hid hI.done
        have hbw := hI.bel
        have hlw := hI.low
        clear hI
        go_wp2
        go_ret
        exact ⟨_, F, rfl, HDD.out, hbw, hlw⟩
end Go.Proofs.Ytdofnoaadkpniaa.RdkD
