/- The document's own slot by the reference, as it lies in memory; what is wrong with a block; a stage begun. Conditions: what lies lies as the facts say. A stage begun by the reference. Conditions: what lies lies as the facts say; numbers of 64 bits. -/
import Derived.Test.YthgmocipiknfpaaJ03
import Derived.Test.YthgmocipiknfpaaJ11
namespace Go.Proofs.Ythgmocipiknfpaa.StgA
open Go.RowKit Go.Proofs.Ythgmocipiknfpaa.Kit Go.Proofs.Ythgmocipiknfpaa.Byt Go.Proofs.Ythgmocipiknfpaa.Mem Go.Proofs.Ythgmocipiknfpaa.RecM Go.Proofs.Ythgmocipiknfpaa.BitM Go.Proofs.Ythgmocipiknfpaa.BitB Go.Proofs.Ythgmocipiknfpaa.BitC Go.Proofs.Ythgmocipiknfpaa.StgM
open Go.Proofs.Ythgmocipiknfpaa.RecA (n64 sok rblocks_any rrights_any)

/-- The slot's head. -/
def hd (x : Rf) (A : Option Addr) (n c : Nat) : List Value := [.bool x.has, .int .i64 x.g.s, .int .i64 x.g.z, .int .i64 x.g.h, .slice A n c]
/-- A slot at block a: H is what it may write, N what it only reads. -/
structure RS (w : World) (H N : Nat → Prop) (a : Nat) (x : Rf) (E : List Sl) (A : Option Addr) (n c : Nat) : Prop where
  head : Blk w a 35 (hd x A n c)
  own : w.ownsRow 0 43 1 (.slice A n c) n (E.map Sl.val)
  bl : x.bl = E.map (·.xs)
  ent : ∀ e ∈ E, Rd w e.A e.n e.c (u8n e.xs) ∧ ∀ b o, e.A = some ⟨b, o, none⟩ → N b
  ha : H a
  ho : ∀ k, (Value.slice A n c).ownBlock = some k → H k ∧ k ≠ a
  hlt : ∀ k, H k → k < w.heap.size
  nlt : ∀ k, N k → k < w.heap.size
  dis : ∀ k, H k → ¬ N k
def RSl (w : World) (H N : Nat → Prop) (a : Nat) (x : Rf) : Prop := ∃ E A n c, RS w H N a x E A n c
section
variable {w w' : World} {H N G : Nat → Prop} {a n c : Nat} {x : Rf} {E : List Sl} {A : Option Addr}
theorem RS.len (h : RS w H N a x E A n c) : x.bl.length = n := by
  have h1 := h.own.1
  rw [List.length_map, Nat.mul_one] at h1
  rw [h.bl, List.length_map]
  exact h1
theorem RS.keep (h : RS w H N a x E A n c) (k : Keep G w w') (h1 : ∀ i, H i → ¬ G i) (h2 : ∀ i, N i → ¬ G i) : RS w' H N a x E A n c :=
  ⟨k.blk h.head (h1 _ h.ha), k.own h.own fun i hi => h1 i (h.ho i hi).1, h.bl, fun e he => ⟨k.rd (h.ent e he).1 fun _ b o hA => h2 b ((h.ent e he).2 b o hA), (h.ent e he).2⟩, h.ha, h.ho,
   fun i hi => Nat.lt_of_lt_of_le (h.hlt i hi) k.size, fun i hi => Nat.lt_of_lt_of_le (h.nlt i hi) k.size, h.dis⟩
theorem RSl.keep (h : RSl w H N a x) (k : Keep G w w') (h1 : ∀ i, H i → ¬ G i) (h2 : ∀ i, N i → ¬ G i) : RSl w' H N a x := by
  obtain ⟨E, A, n, c, h⟩ := h
  exact ⟨E, A, n, c, h.keep k h1 h2⟩
theorem RS.below (h : RS w H N a x E A n c) (hb : Below w.heap.size w w') : RS w' H N a x E A n c := h.keep (Keep.of_below (F := fun _ => False) hb) (fun _ _ h => h) (fun _ _ h => h)
theorem RSl.below (h : RSl w H N a x) (hb : Below w.heap.size w w') : RSl w' H N a x := h.keep (Keep.of_below (F := fun _ => False) hb) (fun _ _ h => h) (fun _ _ h => h)
theorem RS.cells (h : RS w H N a x E A n c) : w.cell? ⟨a, 0, none⟩ = some (.bool x.has) ∧ w.cell? ⟨a, 1, none⟩ = some (.int .i64 x.g.s) ∧ w.cell? ⟨a, 2, none⟩ = some (.int .i64 x.g.z) ∧ w.cell? ⟨a, 3, none⟩ = some (.int .i64 x.g.h) ∧ w.cell? ⟨a, 4, none⟩ = some (.slice A n c) :=
  ⟨h.head.cell rfl, h.head.cell rfl, h.head.cell rfl, h.head.cell rfl, h.head.cell rfl⟩
theorem RS.cap (h : RS w H N a x E A n c) : n ≤ c ∧ c ≤ 9223372036854775807 := by
  rcases h.own.2 with ⟨hv, h0⟩ | ⟨g, cap, cur, hv, _, _, h1, h2, _⟩
  · simp only [Value.slice.injEq] at hv
    obtain ⟨_, rfl, rfl⟩ := hv
    exact ⟨by omega, by omega⟩
  · simp only [Value.slice.injEq] at hv
    obtain ⟨_, _, rfl⟩ := hv
    refine ⟨h1, ?_⟩
    unfold maxLen at h2
    omega
end
/-- What is wrong with a block. -/
def rW (x : Rf) (n no : Int) (d : Nat) : Int :=
  if x.has = false then 16 else if n ≠ x.g.s then 17 else if no < 0 ∨ (x.bl.length : Int) ≤ no then 3 else if d ≠ 16 then 14 else 0
theorem rP_wrong {x : Rf} {n no : Int} {d : List Nat} (h : rW x n no d.length ≠ 0) : rP x n no d = (x, rW x n no d.length) := by
  unfold rW at h ⊢
  unfold rP
  by_cases h1 : x.has = false
  · rw [if_pos h1, if_pos h1]
  rw [if_neg h1] at h ⊢
  rw [if_neg h1]
  by_cases h2 : n ≠ x.g.s
  · rw [if_pos h2, if_pos h2]
  rw [if_neg h2] at h ⊢
  rw [if_neg h2]
  by_cases h3 : no < 0 ∨ (x.bl.length : Int) ≤ no
  · rw [if_pos h3, if_pos h3]
  rw [if_neg h3] at h ⊢
  rw [if_neg h3]
  by_cases h4 : d.length ≠ 16
  · rw [if_pos h4, if_pos h4]
  rw [if_neg h4] at h
  exact absurd rfl h
set_option maxRecDepth 100000 in
set_option maxHeartbeats 1600000 in
theorem wrong_any (H N : Nat → Prop) (a : Nat) (x : Rf) (n no : Int) (D : Option Addr) (m d : Nat) (w : World) (h : RSl w H N a x) (hm : m ≤ 9223372036854775807) :
    Calls Try.prog 54 #[.pointer (some ⟨a, 0, none⟩), .int .i64 n, .int .i64 no, .slice D m d] w fun e w' => e = .returned (.int .i64 (rW x n no m)) ∧ w = w' := by
  obtain ⟨E, A, k, c, h⟩ := h
  obtain ⟨c0, c1, c2, c3, c4⟩ := h.cells
  have hlen := h.len
  have hcap := h.cap
  have hk63 : k ≤ 9223372036854775807 := by omega
  clear h
  cases hh : x.has
  · have hr : rW x n no m = 16 := by unfold rW; rw [if_pos hh]
    rw [hh] at c0
    have HR := Lib.hid hr
    clear hr hlen
    go_enter Try.func54, Try.ntmps54
    go_wp2
    go_ret
    exact ⟨by rw [HR.out]; rfl, rfl⟩
  · rw [hh] at c0
    by_cases hs : n = x.g.s
    · by_cases hno : no < 0
      · have HR := Lib.hid (show rW x n no m = 3 from by unfold rW; rw [if_neg (by rw [hh]; simp), if_neg (by simpa using hs), if_pos (.inl hno)])
        have hd : (n != x.g.s) = false := by simpa using hs
        clear hs hlen
        go_enter Try.func54, Try.ntmps54
        go_wp2
        go_ret
        exact ⟨by rw [HR.out]; rfl, rfl⟩
      · by_cases hle : (k : Int) ≤ no
        · have HR := Lib.hid (show rW x n no m = 3 from by unfold rW; rw [if_neg (by rw [hh]; simp), if_neg (by simpa using hs), if_pos (.inr (by omega))])
          have hd : (n != x.g.s) = false := by simpa using hs
          clear hs hlen
          go_enter Try.func54, Try.ntmps54
          go_wp2
          go_ret
          exact ⟨by rw [HR.out]; rfl, rfl⟩
        · by_cases hm16 : m = 16
          · have HR := Lib.hid (show rW x n no m = 0 from by unfold rW; rw [if_neg (by rw [hh]; simp), if_neg (by simpa using hs), if_neg (by omega), if_neg (by omega)])
            have hd : (n != x.g.s) = false := by simpa using hs
            clear hs hlen
            subst hm16
            go_enter Try.func54, Try.ntmps54
            go_wp2
            go_ret
            exact ⟨by rw [HR.out]; rfl, rfl⟩
          · have HR := Lib.hid (show rW x n no m = 14 from by unfold rW; rw [if_neg (by rw [hh]; simp), if_neg (by simpa using hs), if_neg (by omega), if_pos hm16])
            have hd : (n != x.g.s) = false := by simpa using hs
            have hd2 : ((m : Int) != 16) = true := by simp; omega
            clear hs hlen hm16
            go_enter Try.func54, Try.ntmps54
            go_wp2
            go_ret
            exact ⟨by rw [HR.out]; rfl, rfl⟩
    · have HR := Lib.hid (show rW x n no m = 17 from by unfold rW; rw [if_neg (by rw [hh]; simp), if_pos hs])
      have hd : (n != x.g.s) = true := by simpa using hs
      clear hs hlen
      go_enter Try.func54, Try.ntmps54
      go_wp2
      go_ret
      exact ⟨by rw [HR.out]; rfl, rfl⟩
end Go.Proofs.Ythgmocipiknfpaa.StgA
namespace Go.Proofs.Ythgmocipiknfpaa.StgB
open Go.RowKit Go.Proofs.Ythgmocipiknfpaa.Kit Go.Proofs.Ythgmocipiknfpaa.Byt Go.Proofs.Ythgmocipiknfpaa.Mem Go.Proofs.Ythgmocipiknfpaa.RecM Go.Proofs.Ythgmocipiknfpaa.BitM Go.Proofs.Ythgmocipiknfpaa.BitB Go.Proofs.Ythgmocipiknfpaa.BitC Go.Proofs.Ythgmocipiknfpaa.StgM Go.Proofs.Ythgmocipiknfpaa.StgA
open Go.Proofs.Ythgmocipiknfpaa.RecA (n64 sok rblocks_any rrights_any bool_of)

/-- A call on a slot: what it hands back, and the slot behind it. -/
def Rgo (H N : Nat → Prop) (a : Nat) (w : World) (v : Value) (x' : Rf) (e : Ending) (w' : World) : Prop :=
  e = .returned v ∧ ∃ H' N', RSl w' H' N' a x' ∧ Keep H w w' ∧ (∀ k, H' k → H k ∨ w.heap.size ≤ k) ∧ (∀ k, N' k → N k ∨ w.heap.size ≤ k)
theorem info_bs : (Try.prog.info? 43).map (fun i => (i.zero, i.size, i.bytes)) = some (some (.slice none 0 0), 1, 24) := by kernel_rfl
theorem size_stg : (Try.prog.info? 32).map (·.size) = some 3 := by kernel_rfl
def noSl : Sl := ⟨none, 0, 0, []⟩
theorem no_sls (k : Nat) : (List.replicate k noSl).map Sl.val = List.replicate k (Value.slice none 0 0) := by simp [noSl, Sl.val]
theorem no_xs (k : Nat) : (List.replicate k noSl).map (·.xs) = List.replicate k [] := by simp [noSl]
theorem lt_own {w : World} {base : Nat} {t : TypeId} {A : Option Addr} {n c : Nat} {xs : List Value} (h : w.ownsRow base t 1 (.slice A n c) n xs) : ∀ k, (Value.slice A n c).ownBlock = some k → k < w.heap.size := fun k hk => (h.lt k hk).2

set_option maxRecDepth 100000 in
set_option maxHeartbeats 3200000 in
theorem rbegin_any (H N : Nat → Prop) (a : Nat) (x : Rf) (n z : Int) (w : World) (h : RSl w H N a x) (hn : n64 n) (hz : n64 z) :
    Calls Try.prog 30 #[.pointer (some ⟨a, 0, none⟩), .int .i64 n, .int .i64 z] w (Rgo H N a w (.int .i64 (rB x n z).2) (rB x n z).1) := by
  obtain ⟨i0, hi0, hz0, hz1, hz2⟩ := info_parts info_bs
  obtain ⟨E, A, m, c, h⟩ := h
  have hal := h.hlt a h.ha
  have HS := Lib.hid h
  have HR := Lib.hid (fun b (hb : b = true ↔ (fresh n z).right) w' => rrights_any (fresh n z) w' ⟨hn, hz, by show n64 0; unfold n64; omega⟩ b hb)
  by_cases hr : (fresh n z).right
  · have HRT := Lib.hid (fun w' => HR.out true (by simpa using hr) w')
    have hz1' : 1 ≤ z ∧ z ≤ 160 := hr.2.1
    have HBL := Lib.hid (fun w' => rblocks_any z w' (by omega) (by omega))
    have hk10 := blocks_10 hz1'.2
    have hk1 : 1 ≤ blocks z := by unfold blocks; omega
    have HX := Lib.hid (show rB x n z = (⟨true, fresh n z, List.replicate (blocks z) []⟩, 0) from by unfold rB; rw [if_pos hr])
    obtain ⟨k, hk⟩ : ∃ k, k = blocks z := ⟨_, rfl⟩
    rw [← hk] at HBL hk10 hk1 HX
    clear hk hr HR h hn hz
    have HX' : Hid (∀ w', Calls Try.prog 52 #[.agg #[.int .i64 n, .int .i64 z, .int .i64 0]] w' (RecA.Yes w' true)) := HRT
    go_enter Try.func30, Try.ntmps30
    go_wp2_with fail
    refine (HX'.out _).mono ?_
    rintro e w1 ⟨rfl, hb1⟩
    have hS1 := HS.out.below (((Below.refl w.heap.size w).alloc (Nat.le_refl _) (.cells #[.int .i64 n, .int .i64 z, .int .i64 0] 32)).trans (hb1.mono (by simp)))
    have hB1 := (Blk.new w 32 [.int .i64 n, .int .i64 z, .int .i64 0]).below hb1
    have hK1 : Keep (fun i => i = a) w w1 := Keep.of_below (((Below.refl w.heap.size w).alloc (Nat.le_refl _) (.cells #[.int .i64 n, .int .i64 z, .int .i64 0] 32)).trans (hb1.mono (by simp)))
    have c0 := hS1.head.cell (i := 0) rfl
    have f0 := hS1.head.frozen 0
    have HS1 := Lib.hid hS1
    have HB1 := Lib.hid hB1
    have HK1 := Lib.hid hK1
    have hne : w.heap.size ≠ a := by omega
    clear hS1 hB1 hK1 hb1 HX' HRT
    go_wp2_with (first
      | (refine wpList_load_blk rfl 32 _ rfl w.heap.size rfl (HB1.out.far (p := ⟨a, 0, none⟩) hne _) Try.underlying32 rfl size_stg ?_)
      | (refine wpList_store_part rfl 32 (.tmp 20) (.tmp 18) rfl a 1 rfl [.int .i64 n, .int .i64 z, .int .i64 0] rfl (HS1.out.head.set 0 (.bool true)) (by simp [hd]) size_stg (by intro u hu; simp at hu; rcases hu with rfl | rfl | rfl <;> rfl) ?_; intro w2 hB2 ho2; have HB2 := Lib.hid (show Blk w2 a 35 (hd ⟨true, fresh n z, []⟩ A m c) from hB2.out))
      | (go_at_call 53; refine (HBL.out _).mono ?_; rintro e w' ⟨rfl, rfl⟩)
      | (at_make; refine wpList_make_room _ rfl _ _ _ rfl 43 i0 _ 24 Try.underlying33 hi0 hz0 hz1 hz2 rfl _ _ _ _ k k rfl rfl (by omega) (by omega) (by omega) (by omega) (by omega) ?_; intro w3 H3 hb3 hs3; have c4 := (HB2.out.below hb3).cell (i := 4) rfl; have f4 := (HB2.out.below hb3).frozen 4))
    go_ret
    have ha : H a := HS.out.ha
    have ks : Keep (fun i => i = a) w1 w2 := (Keep.set (F := fun i => i = a) w1 0 (.bool true) rfl).trans (Keep.only (F := fun i => i = a) ho2.out rfl) fun i hi => .inl hi
    have k3 : Keep (fun i => i = a) w w3 := (HK1.out.trans ks (fun i hi => .inl hi)).trans (Keep.of_below (F := fun i => i = a) hb3) (fun i hi => .inl hi)
    have k5 : Keep (fun i => i = a) w (w3.setCell ⟨a, 4, none⟩ (.slice (some ⟨w2.heap.size, 0, none⟩) k k)) := k3.trans (Keep.set (F := fun i => i = a) w3 4 _ rfl) fun i hi => .inl hi
    have hw2 : w.heap.size ≤ w2.heap.size := by have := HK1.out.size; have := ks.size; omega
    have hs5 : (w3.setCell ⟨a, 4, none⟩ (.slice (some ⟨w2.heap.size, 0, none⟩) k k)).heap.size = w2.heap.size + 1 := by rw [← hs3]; simp [World.setCell]
    have hown : w3.ownsRow 0 43 1 (.slice (some ⟨w2.heap.size, 0, none⟩) k k) k (List.replicate k (.slice none 0 0)) := by
      have h := own_of_block (base := 0) (n := k) H3.out (Nat.zero_le _) (by simp) (by simp; omega)
      rw [List.length_replicate] at h
      simpa using h
    refine ⟨by rw [HX.out]; rfl, fun i => i = a ∨ i = w2.heap.size, fun _ => False, ⟨List.replicate k noSl, some ⟨w2.heap.size, 0, none⟩, k, k, ?_, ?_, ?_, ?_, .inl rfl, ?_, ?_, fun i hi => hi.elim, fun _ _ h => h⟩, k5.mono (fun i _ hi => hi ▸ ha), fun i hi => ?_, fun i hi => hi.elim⟩
    · rw [HX.out]
      exact (HB2.out.below hb3).set 4 _
    · rw [no_sls]
      exact (Keep.set (F := fun i => i = a) w3 4 _ rfl).own hown fun i hi => by
        have hi' : w2.heap.size = i := Option.some.inj hi
        show ¬ i = a
        omega
    · rw [HX.out, no_xs]
    · intro e he
      rw [List.eq_of_mem_replicate he]
      exact ⟨Rd.nil _, fun b o hA => by cases hA⟩
    · intro i hi
      have hi' : w2.heap.size = i := Option.some.inj hi
      exact ⟨.inr hi'.symm, by omega⟩
    · intro i hi
      rw [hs5]
      rcases hi with rfl | rfl <;> omega
    · rcases hi with rfl | rfl
      · exact .inl ha
      · exact .inr hw2
  · have HRF := Lib.hid (fun w' => HR.out false (by simpa using hr) w')
    have HX := Lib.hid (show rB x n z = (x, 3) from by unfold rB; rw [if_neg hr])
    have HX' : Hid (∀ w', Calls Try.prog 52 #[.agg #[.int .i64 n, .int .i64 z, .int .i64 0]] w' (RecA.Yes w' false)) := HRF
    clear hr HR h hn hz HRF
    go_enter Try.func30, Try.ntmps30
    go_wp2_with fail
    refine (HX'.out _).mono ?_
    rintro e w1 ⟨rfl, hb1⟩
    have HL := Lib.hid (((Below.refl w.heap.size w).alloc (Nat.le_refl _) (.cells #[.int .i64 n, .int .i64 z, .int .i64 0] 32)).trans (hb1.mono (by simp)))
    clear hb1
    go_wp2
    go_ret
    refine ⟨by rw [HX.out]; rfl, H, N, ⟨E, A, m, c, ?_⟩, Keep.of_below HL.out, fun k hk => .inl hk, fun k hk => .inl hk⟩
    rw [HX.out]
    exact HS.out.below HL.out
end Go.Proofs.Ythgmocipiknfpaa.StgB
