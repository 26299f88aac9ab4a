/- The reference's needs, sum, pop and push. Conditions: its machine lies as the facts say. The reference's machine in memory: pop and push. Conditions: it lies as the facts say. The document's own channels in memory. No conditions but those each law names. Send and Get by the document. Conditions: its channels lie as the facts say; numbers of 64 bits. Send by the document, where it is taken or lost. Conditions: its channels lie as the facts say; numbers of 64 bits. -/
import Derived.Test.YtegnehdfedfphaaJ07
import Derived.Test.YtegnehdfedfphaaJ03
import Derived.Deep.RegionLaw
namespace Go.Proofs.Ytegnehdfedfphaa.VmrA
open Go.RowKit Go.Proofs.Ytegnehdfedfphaa.Kit Go.Proofs.Ytegnehdfedfphaa.Byt Go.Proofs.Ytegnehdfedfphaa.Mem Go.Proofs.Ytegnehdfedfphaa.OpsM Go.Proofs.Ytegnehdfedfphaa.VmcM
open Go.Proofs.Ytegnehdfedfphaa.ImgA (Im)
open Go.Proofs.Ytegnehdfedfphaa.TabE (ret_row)
open Go.Proofs.Ytegnehdfedfphaa.TabI (i64s i64s_len i64s_one info_int info_of)
open Go.Proofs.Ytegnehdfedfphaa.PrtO (i64_at)

theorem size_need : (Try.prog.info? 135).map (·.size) = some 2 := by kernel_rfl
set_option maxRecDepth 100000 in
set_option maxHeartbeats 1600000 in
theorem sum_any (o a b : Int) (w : World) (ho : 5 ≤ o ∧ o ≤ 9) (ha : num a) (hb : num b) : Calls Try.prog 50 #[.int .i64 o, .int .i64 a, .int .i64 b] w fun e w' => e = .returned (.int .i64 (sum o a b)) ∧ w' = w := by
  obtain ⟨a1, a2⟩ := ha
  obtain ⟨b1, b2⟩ := hb
  have hab : 0 ≤ a * b := Int.mul_nonneg a1 b1
  have hab2 : a * b ≤ 65535 * 65535 := Int.mul_le_mul a2 b2 b1 (by decide)
  rcases (show o = 5 ∨ o = 6 ∨ o = 7 ∨ o = 8 ∨ o = 9 by omega) with rfl | rfl | rfl | rfl | rfl
  · go_enter Try.func50, Try.ntmps50
    go_wp2
    go_ret
    exact ⟨by rw [show sum 5 a b = a + b from rfl]; rfl, rfl⟩
  · go_enter Try.func50, Try.ntmps50
    go_wp2
    go_ret
    exact ⟨by rw [show sum 6 a b = a - b from rfl]; rfl, rfl⟩
  · go_enter Try.func50, Try.ntmps50
    go_wp2
    go_ret
    exact ⟨by rw [show sum 7 a b = a * b from rfl]; rfl, rfl⟩
  · by_cases h : a < b
    · have hs : sum 8 a b = 1 := by unfold sum tru; simp [h]
      go_enter Try.func50, Try.ntmps50
      go_wp2
      go_ret
      exact ⟨by first | (rw [hs]; rfl) | rfl, rfl⟩
    · have hs : sum 8 a b = 0 := by unfold sum tru; simp [h]
      go_enter Try.func50, Try.ntmps50
      go_wp2
      go_ret
      exact ⟨by first | (rw [hs]; rfl) | rfl, rfl⟩
  · by_cases h : a = b
    · have hs : sum 9 a b = 1 := by unfold sum tru; simp [h]
      go_enter Try.func50, Try.ntmps50
      go_wp2
      go_ret
      exact ⟨by first | (rw [hs]; rfl) | rfl, rfl⟩
    · have hs : sum 9 a b = 0 := by unfold sum tru; simp [h]
      go_enter Try.func50, Try.ntmps50
      go_wp2
      go_ret
      exact ⟨by first | (rw [hs]; rfl) | rfl, rfl⟩
set_option maxRecDepth 100000 in
set_option maxHeartbeats 1600000 in
theorem needs_any (o : Int) (w : World) (ho : 0 ≤ o ∧ o ≤ 18) : Calls Try.prog 47 #[.int .i64 o] w fun e w' => e = .returned (.agg #[.int .i64 (takes o : Nat), .int .i64 (lays o : Nat)]) ∧ Below w.heap.size w w' := by
  have HZ := Lib.hid (show ∀ a b : Int, Below w.heap.size w (w.alloc (.cells #[.int .i64 a, .int .i64 b] 135)) from fun a b => (Below.refl _ _).alloc (Nat.le_refl _) _)
  rcases (show o = 0 ∨ o = 1 ∨ o = 2 ∨ o = 3 ∨ o = 4 ∨ o = 5 ∨ o = 6 ∨ o = 7 ∨ o = 8 ∨ o = 9 ∨ o = 10 ∨ o = 11 ∨ o = 12 ∨ o = 13 ∨ o = 14 ∨ o = 15 ∨ o = 16 ∨ o = 17 ∨ o = 18 by omega) with rfl | rfl | rfl | rfl | rfl | rfl | rfl | rfl | rfl | rfl | rfl | rfl | rfl | rfl | rfl | rfl | rfl | rfl | rfl
  all_goals
    go_enter Try.func47, Try.ntmps47
    go_wp2
    refine ret_row (g := w.heap.size) Try.results47 rfl rfl (heap_alloc_new w _) Try.underlying135 rfl size_need ?_
    exact ⟨rfl, HZ.out _ _⟩
end Go.Proofs.Ytegnehdfedfphaa.VmrA
namespace Go.Proofs.Ytegnehdfedfphaa.VmrB
open Go.RowKit Go.Proofs.Ytegnehdfedfphaa.Kit Go.Proofs.Ytegnehdfedfphaa.Byt Go.Proofs.Ytegnehdfedfphaa.Mem Go.Proofs.Ytegnehdfedfphaa.OpsM Go.Proofs.Ytegnehdfedfphaa.VmcM Go.Proofs.Ytegnehdfedfphaa.VmrA
open Go.Proofs.Ytegnehdfedfphaa.ImgA (Im)
open Go.Proofs.Ytegnehdfedfphaa.TabI (i64s i64s_len i64s_one info_int info_of)
open Go.Proofs.Ytegnehdfedfphaa.PrtO (i64_at)

/-- The reference's machine: its image, where it is; the stack and the memory lie elsewhere. -/
def rc (i : Im) (z : Z) (A : Option Addr) (n c : Nat) (D : Option Addr) (m d : Nat) : List Value := i.cells ++ [.int .i64 z.pc, .slice A n c, .slice D m d, .int .i64 z.tk, .int .i64 z.ft]
theorem rc_st (i : Im) (z : Z) (A : Option Addr) (n c : Nat) (D : Option Addr) (m d : Nat) (A' : Option Addr) (n' c' : Nat) (l : List Int) : (rc i z A n c D m d).set 9 (.slice A' n' c') = rc i { z with st := l } A' n' c' D m d := rfl
theorem top_last {l : List Int} {k : Nat} {x : Int} (hl : l.length = k + 1) (hx : l[k]? = some x) : top l = x := by
  unfold top
  rw [List.getLastD_eq_getLast?, List.getLast?_eq_getElem?, hl, Nat.add_sub_cancel, hx]
  rfl
set_option maxRecDepth 100000 in
set_option maxHeartbeats 800000 in
theorem pop_any {N n c m d : Nat} {A D : Option Addr} {i : Im} {z : Z} {w : World} (hB : Blk w N 69 (rc i z A n c D m d)) (hR : Rd w A n c (i64s z.st)) (hn : 0 < n) (hl : n ≤ 1000) :
    Calls Try.prog 33 #[.pointer (some ⟨N, 0, none⟩)] w fun e w' => e = .returned (.int .i64 (top z.st)) ∧ w' = w.setCell ⟨N, 9, none⟩ (.slice A (n - 1) c) := by
  obtain ⟨k, rfl⟩ : ∃ k, n = k + 1 := ⟨n - 1, by omega⟩
  obtain ⟨x, b, o, hx, rfl, hb, gx⟩ := i64_at hR (k := k) (by omega)
  have HT := Lib.hid (top_last (by have h1 := hR.1; rwa [i64s_len] at h1) hx)
  have c9 := hB.cell (i := 9) (v := .slice (some ⟨b, o, none⟩) (k + 1) c) rfl
  have z9 := hB.frozen 9
  have hc := hR.2.1
  have hc2 := hR.2.2.1
  clear hB hR hx
  go_enter Try.func33, Try.ntmps33
  go_wp2
  go_ret
  refine ⟨?_, rfl⟩
  rw [HT.out]
  rfl
theorem new_one (w : World) (y : Int) : Rd (w.alloc (.cells #[.int .i64 y] 3)) (some ⟨w.heap.size, 0, none⟩) 1 1 (i64s [y]) :=
  Rd.own (base := 0) (own_of_block (cur := [.int .i64 y]) (heap_alloc_new w _) (Nat.zero_le _) (Nat.le_refl _) (by simp))
theorem tm (x : Int) : ∃ r : Int, x.tmod 65536 = r ∧ -65536 < r ∧ r < 65536 ∧ (r < 0 → x % 65536 = r + 65536) ∧ (0 ≤ r → x % 65536 = r) := by
  by_cases h : 0 ≤ x
  · refine ⟨x % 65536, Int.tmod_eq_emod_of_nonneg h, ?_⟩
    omega
  · obtain ⟨y, rfl⟩ : ∃ y, x = -y := ⟨-x, by omega⟩
    refine ⟨-(y % 65536), by rw [Int.neg_tmod, Int.tmod_eq_emod_of_nonneg (by omega)], ?_⟩
    omega
set_option maxRecDepth 100000 in
set_option maxHeartbeats 1600000 in
theorem push_any {N n c m d : Nat} {A D : Option Addr} {i : Im} {z : Z} {w : World} (x : Int) (_hx : -9223372036854775808 ≤ x ∧ x ≤ 9223372036854775807) (hB : Blk w N 69 (rc i z A n c D m d)) (hR : Rd w A n c (i64s z.st)) (hl : n ≤ 1000) :
    Calls Try.prog 49 #[.pointer (some ⟨N, 0, none⟩), .int .i64 x] w fun e w' => e = .returned (.tuple #[]) ∧ ∃ A' c' w1, Below w.heap.size w w1 ∧ w' = w1.setCell ⟨N, 9, none⟩ (.slice A' (n + 1) c') ∧ w1.ownsRow w.heap.size 3 1 (.slice A' (n + 1) c') (n + 1) (i64s (VmcM.push x z.st)) := by
  obtain ⟨i0, hi0, hz0, hz1, hz2⟩ := info_of info_int
  have hNl := hB.lt
  have c9 := hB.cell (i := 9) (v := .slice A n c) rfl
  have HB := Lib.hid hB
  have HR := Lib.hid hR
  have hc := hR.2.1
  have hc2 := hR.2.2.1
  clear hB hR
  obtain ⟨r, hr, r1, r2, r3, r4⟩ := tm x
  by_cases hr0 : r < 0
  · have HE := Lib.hid (r3 hr0)
    clear r3 r4
    go_enter Try.func49, Try.ntmps49
    go_wp2_with (first
      | (at_builtin; refine wpList_add _ rfl (.tmp 5) (.tmp 10) _ rfl w.heap.size 3 i0 _ 8 Try.underlying64 hi0 hz0 hz1 hz2 rfl (.slice none 0 0) 0 [] rfl (World.ownsRow_nil _ _ _ _) A n c (i64s z.st) rfl HR.out (i64s_one _) (by omega) (by omega) (Nat.le_refl _) ?_; intro A1 n1 c1 w2 hn1 hown1 hg1 hat1; have hb1 := below_add (Below.refl w.heap.size w) (World.ownsRow_nil w w.heap.size 3 1) (Nat.le_refl _) hg1; have HOW1 := Lib.hid (show w2.ownsRow w.heap.size 3 1 (.slice A1 n1 c1) n1 (i64s z.st) from by simpa using hown1); have HBW1 := Lib.hid hb1; have hn1' : n1 ≤ 1000 := (by have := hn1.out; omega); clear hown1 hg1 hat1 hb1)
      | (at_builtin; refine wpList_add _ rfl (.tmp 19) (.tmp 21) _ rfl w.heap.size 3 i0 _ 8 Try.underlying64 hi0 hz0 hz1 hz2 rfl _ n1 (i64s z.st) rfl (HOW1.out.alloc _) _ 1 1 (i64s [r + 65536]) rfl (new_one w2 _) (i64s_one _) (by omega) (by omega) (by have := HBW1.out.size; simp; omega) ?_; intro A5 n5 c5 w3 hn5 hown5 hg5 hat5; have hb5 := below_add (HBW1.out.alloc HBW1.out.size (.cells #[.int .i64 (r + 65536)] 3)) (HOW1.out.alloc _) (Nat.le_refl _) hg5; have c9 := (HB.out.below hb5).cell (i := 9) (v := .slice A n c) rfl; have z9 := (HB.out.below hb5).frozen 9; have HB5 := Lib.hid hb5; have HO5 := Lib.hid hown5; clear hown5 hg5 hat5 hb5))
    go_end0
    have e5 : n5 = n + 1 := by have h1 := hn5.out; have h2 := hn1.out; omega
    have q := HO5.out
    rw [show i64s z.st ++ i64s [r + 65536] = i64s (VmcM.push x z.st) from by unfold VmcM.push; rw [HE.out]; exact List.map_append.symm] at q
    rw [← e5]
    exact ⟨rfl, A5, c5, w3, HB5.out, rfl, q⟩
  · have HE := Lib.hid (r4 (by omega))
    clear r3 r4
    go_enter Try.func49, Try.ntmps49
    go_wp2_with (first
      | (at_builtin; refine wpList_add _ rfl (.tmp 5) (.tmp 10) _ rfl w.heap.size 3 i0 _ 8 Try.underlying64 hi0 hz0 hz1 hz2 rfl (.slice none 0 0) 0 [] rfl (World.ownsRow_nil _ _ _ _) A n c (i64s z.st) rfl HR.out (i64s_one _) (by omega) (by omega) (Nat.le_refl _) ?_; intro A1 n1 c1 w2 hn1 hown1 hg1 hat1; have hb1 := below_add (Below.refl w.heap.size w) (World.ownsRow_nil w w.heap.size 3 1) (Nat.le_refl _) hg1; have HOW1 := Lib.hid (show w2.ownsRow w.heap.size 3 1 (.slice A1 n1 c1) n1 (i64s z.st) from by simpa using hown1); have HBW1 := Lib.hid hb1; have hn1' : n1 ≤ 1000 := (by have := hn1.out; omega); clear hown1 hg1 hat1 hb1)
      | (at_builtin; refine wpList_add _ rfl (.tmp 19) (.tmp 21) _ rfl w.heap.size 3 i0 _ 8 Try.underlying64 hi0 hz0 hz1 hz2 rfl _ n1 (i64s z.st) rfl (HOW1.out.alloc _) _ 1 1 (i64s [r]) rfl (new_one w2 _) (i64s_one _) (by omega) (by omega) (by have := HBW1.out.size; simp; omega) ?_; intro A5 n5 c5 w3 hn5 hown5 hg5 hat5; have hb5 := below_add (HBW1.out.alloc HBW1.out.size (.cells #[.int .i64 (r)] 3)) (HOW1.out.alloc _) (Nat.le_refl _) hg5; have c9 := (HB.out.below hb5).cell (i := 9) (v := .slice A n c) rfl; have z9 := (HB.out.below hb5).frozen 9; have HB5 := Lib.hid hb5; have HO5 := Lib.hid hown5; clear hown5 hg5 hat5 hb5))
    go_end0
    have e5 : n5 = n + 1 := by have h1 := hn5.out; have h2 := hn1.out; omega
    have q := HO5.out
    rw [show i64s z.st ++ i64s [r] = i64s (VmcM.push x z.st) from by unfold VmcM.push; rw [HE.out]; exact List.map_append.symm] at q
    rw [← e5]
    exact ⟨rfl, A5, c5, w3, HB5.out, rfl, q⟩
end Go.Proofs.Ytegnehdfedfphaa.VmrB
namespace Go.Proofs.Ytegnehdfedfphaa.PrtR
open Go.RowKit Go.Proofs.Ytegnehdfedfphaa.Kit Go.Proofs.Ytegnehdfedfphaa.Byt Go.Proofs.Ytegnehdfedfphaa.Mem Go.Proofs.Ytegnehdfedfphaa.TabI Go.Proofs.Ytegnehdfedfphaa.PrtM Go.Proofs.Ytegnehdfedfphaa.PrtA Go.Proofs.Ytegnehdfedfphaa.PrtB Go.Proofs.Ytegnehdfedfphaa.PrtC Go.Proofs.Ytegnehdfedfphaa.PrtD
open Go.Proofs.Ytegnehdfedfphaa.TabA (Tri Tris Ta)

theorem Tris.keep {F : Nat → Prop} {w w' : World} {A : Option Addr} {n c : Nat} {R : List Tri} (h : Tris w A n c R) (hk : Keep F w w') (hA : 0 < n → ∀ b o, A = some ⟨b, o, none⟩ → ¬ F b) : Tris w' A n c R :=
  ⟨h.1, h.2.1, h.2.2.1, h.2.2.2.1, fun hp => by
    obtain ⟨b, o, he, hbl, hc⟩ := h.2.2.2.2 hp
    exact ⟨b, o, he, Nat.lt_of_lt_of_le hbl hk.size, fun k r hr j u hu => (World.cell?_of_block (hk.block b hbl (hA hp b o he))).trans (hc k r hr j u hu)⟩⟩
def Ref (l : Lab) : Prop := l = .rlist ∨ l = .rdata
/-- One slice among those of the lists. -/
def Lies (w : World) (ρ : Nat → Lab) (v : Value) (l : List Int) : Prop := ∃ A m c, v = .slice A m c ∧ Rd w A m c (i64s l) ∧ (0 < m → ∀ b o, A = some ⟨b, o, none⟩ → ρ b = .rdata)
structure Rf (B : Nat) (w : World) (ρ : Nat → Lab) (X gl : Nat) (A : Option Addr) (n c : Nat) (C : List Tri) (L : Nat → List Int) : Prop where
  bd : Bd B w ρ
  base : B ≤ w.heap.size
  x : Blk w X 74 [.slice A n c, .slice (some ⟨gl, 0, none⟩) n n]
  lx : ρ X = .rset
  tri : Tris w A n c C
  lc : 0 < n → ∀ b o, A = some ⟨b, o, none⟩ → ρ b = .rdata
  ll : ρ gl = .rlist
  rows : ∃ V, Blk w gl 64 V ∧ V.length = n ∧ ∀ (k : Nat) (v : Value), V[k]? = some v → Lies w ρ v (L k)
  most : n ≤ 4
section
variable {F : Lab → Prop} {B X gl n c k : Nat} {w w' : World} {ρ ρ' : Nat → Lab} {A : Option Addr} {C : List Tri} {L : Nat → List Int} {l : List Int} {v : Value} {r : Tri}
theorem Lies.carry {G : Nat → Prop} (h : Lies w ρ v l) (hk : Keep G w w') (ho : ∀ i, i < w.heap.size → ρ' i = ρ i) (hG : ∀ b, ρ b = .rdata → ¬ G b) : Lies w' ρ' v l := by
  obtain ⟨A, m, c, rfl, h1, h2⟩ := h
  refine ⟨A, m, c, rfl, hk.rd h1 fun hp b o hA => hG b (h2 hp b o hA), fun hp b o hA => ?_⟩
  obtain ⟨b', o', hA', hbl, _⟩ := h1.2.2.2 hp
  rw [hA] at hA'
  injection hA' with hA'
  injection hA' with hb _
  subst hb
  rw [ho b hbl]
  exact h2 hp b o hA
theorem Rf.cellC (h : Rf B w ρ X gl A n c C L) (hp : 0 < n) : ∃ b o, A = some ⟨b, o, none⟩ ∧ b < w.heap.size ∧ ρ b = .rdata := by
  obtain ⟨b, o, hA, hbl, _⟩ := h.tri.2.2.2.2 hp
  exact ⟨b, o, hA, hbl, h.lc hp b o hA⟩
/-- Something else has changed. -/
theorem Rf.carry (h : Rf B w ρ X gl A n c C L) (hs : Stp F w ρ w' ρ') (h1 : ¬ F .rset) (h2 : ¬ F .rlist) (h3 : ¬ F .rdata) : Rf B w' ρ' X gl A n c C L where
  bd := h.bd.step h.base hs
  base := Nat.le_trans h.base hs.keep.size
  x := hs.keep.blk h.x (by rw [h.lx]; exact h1)
  lx := by rw [hs.old X h.x.lt]; exact h.lx
  tri := Tris.keep h.tri hs.keep fun hp b o hA => by rw [h.lc hp b o hA]; exact h3
  lc := fun hp b o hA => by
    obtain ⟨b', o', hA', hbl, hl⟩ := h.cellC hp
    rw [hA] at hA'
    injection hA' with hA'
    injection hA' with hb _
    subst hb
    rw [hs.old b hbl]
    exact hl
  ll := by
    obtain ⟨V, hV, _⟩ := h.rows
    rw [hs.old gl hV.lt]
    exact h.ll
  rows := by
    obtain ⟨V, hV, hl, hr⟩ := h.rows
    exact ⟨V, hs.keep.blk hV (by rw [h.ll]; exact h2), hl, fun k v hv => (hr k v hv).carry hs.keep hs.old fun b hb => by rw [hb]; exact h3⟩
  most := h.most
theorem Rf.below (h : Rf B w ρ X gl A n c C L) (hb : Below w.heap.size w w') : Rf B w' ρ X gl A n c C L := h.carry (F := fun _ => False) (Stp.of_below h.bd hb) id id id
/-- One list is another one. -/
theorem Rf.turn (h : Rf B w ρ X gl A n c C L) {V V' : List Value} (hV : Blk w gl 64 V) (hl : V.length = n) (hk : Keep (fun i => i = gl) w w') (ho : ∀ i, i < w.heap.size → ρ' i = ρ i) (hn : ∀ i, w.heap.size ≤ i → ρ' i = .out ∨ (ρ' i = .rdata ∧ i < w'.heap.size))
    (hV' : Blk w' gl 64 V') (hl' : V'.length = n) (hrest : ∀ j, j ≠ k → V'[j]? = V[j]?) (hnew : ∀ v, V'[k]? = some v → Lies w' ρ' v l) : Rf B w' ρ' X gl A n c C (up L k l) ∧ Stp Ref w ρ w' ρ' := by
  have hs : Stp Ref w ρ w' ρ' := ⟨hk.mono fun i _ hi => by rw [hi]; exact .inl h.ll, ho, fun i hi => (hn i hi).imp id fun h => ⟨.inr h.1, h.2⟩⟩
  have hXg : X ≠ gl := fun e => by have := h.lx; rw [e, h.ll] at this; cases this
  have hnd : ∀ b, ρ b = .rdata → ¬ b = gl := fun b hb e => by rw [e, h.ll] at hb; cases hb
  refine ⟨⟨h.bd.step h.base hs, Nat.le_trans h.base hk.size, hk.blk h.x hXg, by rw [ho X h.x.lt]; exact h.lx, Tris.keep h.tri hk fun hp b o hA => hnd b (h.lc hp b o hA), fun hp b o hA => ?_, by rw [ho gl hV.lt]; exact h.ll, ⟨V', hV', hl', fun j v hv => ?_⟩, h.most⟩, hs⟩
  · obtain ⟨b', o', hA', hbl, hlb⟩ := h.cellC hp
    rw [hA] at hA'
    injection hA' with hA'
    injection hA' with hb _
    subst hb
    rw [ho b hbl]
    exact hlb
  · by_cases hj : j = k
    · subst hj
      rw [up_same]
      exact hnew v hv
    · rw [up_other hj]
      rw [hrest j hj] at hv
      obtain ⟨V2, hV2, _, hr2⟩ := h.rows
      obtain rfl : V2 = V := by
        have h5 : some (Obj.cells V2.toArray 64 (0, 0)) = some (Obj.cells V.toArray 64 (0, 0)) := hV2.symm.trans hV
        injection h5 with h5
        injection h5 with h5 _
        exact List.toArray_inj h5
      exact (hr2 j v hv).carry hk ho hnd
/-- A list, as it lies. -/
theorem Rf.at_ (h : Rf B w ρ X gl A n c C L) {k : Nat} (hk : k < n) : ∃ (r : Tri) (b o : Nat) (A1 : Option Addr) (m c1 : Nat), C[k]? = some r ∧ r.ok ∧ A = some ⟨b, o, none⟩ ∧ b < w.heap.size ∧ w.cell? ⟨b, o + k * 3, none⟩ = some (.int .i64 r.a) ∧ w.cell? ⟨b, o + k * 3 + 1, none⟩ = some (.int .i64 r.b) ∧ w.cell? ⟨b, o + k * 3 + 2, none⟩ = some (.int .i64 r.c) ∧
    w.cell? ⟨gl, k, none⟩ = some (.slice A1 m c1) ∧ Rd w A1 m c1 (i64s (L k)) ∧ (0 < m → ∀ b o, A1 = some ⟨b, o, none⟩ → ρ b = .rdata) := by
  obtain ⟨r, b, o, hr, hok, hA, hbl, h0, h1, h2⟩ := h.tri.at_ hk
  obtain ⟨V, hV, hl, hv⟩ := h.rows
  have hk2 : k < V.length := by rw [hl]; exact hk
  obtain ⟨A1, m, c1, he, h3, h4⟩ := hv k _ (List.getElem?_eq_getElem hk2)
  exact ⟨r, b, o, A1, m, c1, hr, hok, hA, hbl, h0, h1, h2, hV.cell (by rw [List.getElem?_eq_getElem hk2, he]), h3, h4⟩
theorem size_told : (Try.prog.info? 61).map (·.size) = some 3 := by kernel_rfl
/-- What a call leaves. -/
def Rft (B : Nat) (w : World) (ρ : Nat → Lab) (X gl : Nat) (A : Option Addr) (n c : Nat) (C : List Tri) (L : Nat → List Int) (v : Value) (e : Ending) (w' : World) : Prop :=
  e = .returned v ∧ ∃ ρ', Rf B w' ρ' X gl A n c C L ∧ Stp Ref w ρ w' ρ'
theorem Rft.same (h : Rf B w ρ X gl A n c C L) (v : Value) {w' : World} (hb : Below w.heap.size w w') : Rft B w ρ X gl A n c C L v (.returned v) w' := ⟨rfl, ρ, h.below hb, Stp.of_below h.bd hb⟩
end
end Go.Proofs.Ytegnehdfedfphaa.PrtR
namespace Go.Proofs.Ytegnehdfedfphaa.PrtS
open Go.RowKit Go.Proofs.Ytegnehdfedfphaa.Kit Go.Proofs.Ytegnehdfedfphaa.Byt Go.Proofs.Ytegnehdfedfphaa.Mem Go.Proofs.Ytegnehdfedfphaa.TabI Go.Proofs.Ytegnehdfedfphaa.PrtM Go.Proofs.Ytegnehdfedfphaa.PrtA Go.Proofs.Ytegnehdfedfphaa.PrtB Go.Proofs.Ytegnehdfedfphaa.PrtC Go.Proofs.Ytegnehdfedfphaa.PrtD Go.Proofs.Ytegnehdfedfphaa.PrtR
open Go.Proofs.Ytegnehdfedfphaa.TabA (Tri Tris Ta)
open Go.Proofs.Ytegnehdfedfphaa.TabE (ret_row)

section
variable {B X gl n c : Nat} {w : World} {ρ : Nat → Lab} {A : Option Addr} {C : List Tri} {L : Nat → List Int} {r : Tri}
set_option maxRecDepth 100000 in
/-- A refusal: the box of the answer is new, nothing else. -/
theorem rsend_no (h : Rf B w ρ X gl A n c C L) (p k y : Int) (hk : sndOk C p k = false) :
    Calls Try.prog 17 #[.pointer (some ⟨X, 0, none⟩), .int .i64 p, .int .i64 k, .int .i64 y] w fun e w' => e = .returned (.agg #[.int .i64 0, .bool false, .int .i64 15]) ∧ Below w.heap.size w w' := by
  have hn64 : n ≤ 9223372036854775807 := by have := h.most; omega
  have hCl := h.tri.1
  by_cases h0 : k < 0
  · clear hk h
    go_enter Try.func17, Try.ntmps17
    go_wp2
    exact ret_row (g := w.heap.size) (t := 61) (cs := #[.int .i64 0, .bool false, .int .i64 15]) Try.results17 rfl rfl (heap_alloc_new w _) Try.underlying61 rfl size_told ⟨rfl, (Below.refl _ _).alloc (Nat.le_refl _) _⟩
  · have hX := h.x.alloc (.cells #[.int .i64 0, .bool false, .int .i64 0] 61)
    have x0 := hX.cell (i := 0) rfl
    clear hX
    by_cases h1 : k < (n : Int)
    · obtain ⟨k', rfl⟩ : ∃ k' : Nat, k = k' := ⟨k.toNat, by omega⟩
      have hkn : k' < n := by omega
      obtain ⟨r, b, o, hr, hok, rfl, hbl, k0, k1, k2⟩ := h.tri.at_ hkn
      have hne : (r.a != p) = true := by
        rw [sndOk_at hr] at hk
        simpa using hk
      obtain ⟨z, hz⟩ : ∃ z, z = r.a := ⟨_, rfl⟩
      rw [← hz] at hne k0
      have k0' : (w.alloc (.cells #[.int .i64 0, .bool false, .int .i64 0] 61)).cell? ⟨b, o + k' * 3, none⟩ = some (.int .i64 z) := (((Below.refl _ _).alloc (Nat.le_refl _) _).cell hbl).trans k0
      clear hk h hr hz h0 h1 k1 k2 hok k0 hCl
      go_enter Try.func17, Try.ntmps17
      go_wp2
      exact ret_row (g := w.heap.size) (t := 61) (cs := #[.int .i64 0, .bool false, .int .i64 15]) Try.results17 rfl rfl (heap_alloc_new w _) Try.underlying61 rfl size_told ⟨rfl, (Below.refl _ _).alloc (Nat.le_refl _) _⟩
    · clear hk h hCl
      go_enter Try.func17, Try.ntmps17
      go_wp2
      exact ret_row (g := w.heap.size) (t := 61) (cs := #[.int .i64 0, .bool false, .int .i64 15]) Try.results17 rfl rfl (heap_alloc_new w _) Try.underlying61 rfl size_told ⟨rfl, (Below.refl _ _).alloc (Nat.le_refl _) _⟩
set_option maxRecDepth 100000 in
theorem rsend_range (h : Rf B w ρ X gl A n c C L) {k : Nat} (hr : C[k]? = some r) (p y : Int) (ha : r.a = p) (hy : y < 0 ∨ 65535 < y) :
    Calls Try.prog 17 #[.pointer (some ⟨X, 0, none⟩), .int .i64 p, .int .i64 (k : Nat), .int .i64 y] w fun e w' => e = .returned (.agg #[.int .i64 0, .bool false, .int .i64 3]) ∧ Below w.heap.size w w' := by
  have hn64 : n ≤ 9223372036854775807 := by have := h.most; omega
  have hkn : k < n := by have := (List.getElem?_eq_some_iff.1 hr).1; rw [h.tri.1] at this; exact this
  have hX := h.x.alloc (.cells #[.int .i64 0, .bool false, .int .i64 0] 61)
  have x0 := hX.cell (i := 0) rfl
  obtain ⟨r', b, o, hr', hok, rfl, hbl, k0, k1, k2⟩ := h.tri.at_ hkn
  obtain rfl : r = r' := by rw [hr] at hr'; injection hr'
  rw [ha] at k0
  have k0' : (w.alloc (.cells #[.int .i64 0, .bool false, .int .i64 0] 61)).cell? ⟨b, o + k * 3, none⟩ = some (.int .i64 p) := (((Below.refl _ _).alloc (Nat.le_refl _) _).cell hbl).trans k0
  clear hX h hr hr' ha k0 k1 k2 hok
  rcases hy with hy | hy
  · go_enter Try.func17, Try.ntmps17
    go_wp2
    exact ret_row (g := w.heap.size) (t := 61) (cs := #[.int .i64 0, .bool false, .int .i64 3]) Try.results17 rfl rfl (heap_alloc_new w _) Try.underlying61 rfl size_told ⟨rfl, (Below.refl _ _).alloc (Nat.le_refl _) _⟩
  · have h0 : ¬ y < 0 := by omega
    go_enter Try.func17, Try.ntmps17
    go_wp2
    exact ret_row (g := w.heap.size) (t := 61) (cs := #[.int .i64 0, .bool false, .int .i64 3]) Try.results17 rfl rfl (heap_alloc_new w _) Try.underlying61 rfl size_told ⟨rfl, (Below.refl _ _).alloc (Nat.le_refl _) _⟩
end
end Go.Proofs.Ytegnehdfedfphaa.PrtS
namespace Go.Proofs.Ytegnehdfedfphaa.PrtT
open Go.RowKit Go.Proofs.Ytegnehdfedfphaa.Kit Go.Proofs.Ytegnehdfedfphaa.Byt Go.Proofs.Ytegnehdfedfphaa.Mem Go.Proofs.Ytegnehdfedfphaa.TabI Go.Proofs.Ytegnehdfedfphaa.PrtM Go.Proofs.Ytegnehdfedfphaa.PrtA Go.Proofs.Ytegnehdfedfphaa.PrtB Go.Proofs.Ytegnehdfedfphaa.PrtC Go.Proofs.Ytegnehdfedfphaa.PrtD Go.Proofs.Ytegnehdfedfphaa.PrtR Go.Proofs.Ytegnehdfedfphaa.PrtS
open Go.Proofs.Ytegnehdfedfphaa.TabA (Tri Tris Ta)
open Go.Proofs.Ytegnehdfedfphaa.TabE (ret_row)

section
variable {B X gl n c : Nat} {w : World} {ρ : Nat → Lab} {A : Option Addr} {C : List Tri} {L : Nat → List Int} {r : Tri}
set_option maxRecDepth 100000 in
set_option maxHeartbeats 3200000 in
theorem rsend_full (h : Rf B w ρ X gl A n c C L) {k : Nat} (hr : C[k]? = some r) (p y : Int) (ha : r.a = p) (h0 : 0 ≤ y) (h1 : y ≤ 65535) (hd : r.c ≠ 0) (hf : ((L k).length : Int) = r.c) :
    Calls Try.prog 17 #[.pointer (some ⟨X, 0, none⟩), .int .i64 p, .int .i64 (k : Nat), .int .i64 y] w fun e w' => e = .returned (.agg #[.int .i64 0, .bool false, .int .i64 0]) ∧ Below w.heap.size w w' := by
  have hn64 : n ≤ 9223372036854775807 := by have := h.most; omega
  have hkn : k < n := by have := (List.getElem?_eq_some_iff.1 hr).1; rw [h.tri.1] at this; exact this
  have hX := h.x.alloc (.cells #[.int .i64 0, .bool false, .int .i64 0] 61)
  have x0 := hX.cell (i := 0) rfl
  have x1 := hX.cell (i := 1) rfl
  obtain ⟨r', b, o, A1, m, c1, hr', hok, rfl, hbl, k0, k1, k2, g0, hRd, _⟩ := h.at_ hkn
  obtain rfl : r = r' := by rw [hr] at hr'; injection hr'
  have hm : (m : Int) = r.c := by rw [← hf, ← hRd.1, i64s_len]
  have hgl : gl < w.heap.size := by obtain ⟨V, hV, _⟩ := h.rows; exact hV.lt
  have hbA := (Below.refl w.heap.size w).alloc (Nat.le_refl _) (.cells #[.int .i64 0, .bool false, .int .i64 0] 61)
  rw [ha] at k0
  rw [← hm] at k2
  have k0' := (hbA.cell (p := ⟨b, o + k * 3, none⟩) hbl).trans k0
  have k2' := (hbA.cell (p := ⟨b, o + k * 3 + 2, none⟩) hbl).trans k2
  have g0' := (hbA.cell (p := ⟨gl, k, none⟩) hgl).trans g0
  have hm0 : ((m : Int) == 0) = false := by simp; omega
  clear hX h hr hr' ha k0 k1 k2 hok hbA g0 hRd hf hm hd
  go_enter Try.func17, Try.ntmps17
  go_wp2_with fail
  go_quiet (fail)
  go_wp2
  have hbx : Blk ((w.alloc (.cells #[.int .i64 0, .bool false, .int .i64 0] 61)).drewN nq) w.heap.size 61 [.int .i64 0, .bool false, .int .i64 0] := Blk.new w _ _
  refine ret_row (g := w.heap.size) (t := 61) (cs := #[.int .i64 0, .bool false, .int .i64 0]) Try.results17 rfl rfl (((hbx.set 0 (.int .i64 0)).set 1 (.bool false)).set 2 (.int .i64 0)) Try.underlying61 rfl size_told ⟨rfl, ?_⟩
  exact (((bel_drewN ((Below.refl _ _).alloc (Nat.le_refl _) _) _).setCell (by simp) _).setCell (by simp) _).setCell (by simp) _
theorem own_sh {W : World} {base : Nat} {e : TypeId} {size : Nat} {v : Value} {k : Nat} {xs : List Value} (h : W.ownsRow base e size v k xs) : ∃ A c, v = .slice A k c := by
  rcases h.2 with ⟨rfl, h0⟩ | ⟨g, cap, _, rfl, _⟩
  · exact ⟨none, 0, by rw [h0]⟩
  · exact ⟨_, _, rfl⟩
/-- Ahead of the list's copy: what it was, or nothing, stands in its place. -/
structure Mid (w : World) (ρ : Nat → Lab) (X gl n k : Nat) (S0 : Value) (V : List Value) (W : World) (V' : List Value) (A1 : Option Addr) (m c1 : Nat) (l0 : List Int) : Prop where
  old : Blk w gl 64 V
  bl : Blk W gl 64 V'
  len : V.length = n
  len' : V'.length = n
  rest : ∀ j, j ≠ k → V'[j]? = V[j]?
  x : Blk W X 74 [S0, .slice (some ⟨gl, 0, none⟩) n n]
  bx : Blk W w.heap.size 61 [.int .i64 0, .bool false, .int .i64 0]
  ck : V'[k]? = some (.slice A1 m c1)
  rd : Rd W A1 m c1 (i64s l0)
  keep : Keep (fun i => i = gl) w W
  sz : W.heap.size = w.heap.size + 1
  xg : X ≠ gl
  gw : gl < w.heap.size
  xw : X < w.heap.size
section
variable {W W2 W3 : World} {A1 A2 A3 S0v : Option Addr} {k m c1 n2 c2 n3 c3 : Nat} {V V' : List Value} {l0 : List Int} {S0 : Value} {y : Int}
/-- What stands in the places that are read, in a world that has more. -/
theorem Mid.more (h : Mid w ρ X gl n k S0 V W V' A1 m c1 l0) (hb : Below W.heap.size W W2) : W2.cell? ⟨X, 1, none⟩ = some (.slice (some ⟨gl, 0, none⟩) n n) ∧ W2.cell? ⟨gl, k, none⟩ = some (.slice A1 m c1) ∧ W2.frozen? ⟨gl, k, none⟩ = false ∧ Blk W2 w.heap.size 61 [.int .i64 0, .bool false, .int .i64 0] :=
  ⟨(h.x.below hb).cell rfl, (h.bl.below hb).cell h.ck, (h.bl.below hb).frozen _, h.bx.below hb⟩
/-- Behind the store. -/
theorem Mid.done (h : Mid w ρ X gl n k S0 V W V' A1 m c1 l0) (R : Rf B w ρ X gl A n c C L) (hb : Below W.heap.size W W3) (ho : W3.ownsRow W.heap.size 3 1 (.slice A3 n3 c3) n3 (i64s l0 ++ i64s [y])) :
    Rft B w ρ X gl A n c C (up L k (l0 ++ [y])) (.agg #[.int .i64 0, .bool true, .int .i64 0]) (.returned (.agg #[.int .i64 0, .bool true, .int .i64 0])) ((((W3.setCell ⟨gl, k, none⟩ (.slice A3 n3 c3)).setCell ⟨w.heap.size, 0, none⟩ (.int .i64 0)).setCell ⟨w.heap.size, 1, none⟩ (.bool true)).setCell ⟨w.heap.size, 2, none⟩ (.int .i64 0)) := by
  have hsz := h.sz
  have hs3 := hb.size
  have hgw := h.gw
  obtain ⟨ρ', hρ'⟩ : ∃ ρ' : Nat → Lab, ρ' = fun i => if W.heap.size ≤ i ∧ (Value.slice A3 n3 c3).ownBlock = some i then .rdata else ρ i := ⟨_, rfl⟩
  have hk3 : Keep (fun i => i = gl) w W3 := h.keep.trans (Keep.of_below (F := fun i => i = gl) hb) fun _ hi => .inl hi
  have hk4 : Keep (fun i => i = gl) w (W3.setCell ⟨gl, k, none⟩ (.slice A3 n3 c3)) := hk3.trans (Keep.set (F := fun i => i = gl) _ _ _ rfl) fun _ hi => .inl hi
  have hk5 : Keep (fun i => i = gl) w ((((W3.setCell ⟨gl, k, none⟩ (.slice A3 n3 c3)).setCell ⟨w.heap.size, 0, none⟩ (.int .i64 0)).setCell ⟨w.heap.size, 1, none⟩ (.bool true)).setCell ⟨w.heap.size, 2, none⟩ (.int .i64 0)) :=
    ((hk4.trans (Keep.set (F := fun i => i = w.heap.size) _ _ _ rfl) fun i hi => .inr (by omega)).trans (Keep.set (F := fun i => i = w.heap.size) _ _ _ rfl) fun i hi => .inr (by omega)).trans (Keep.set (F := fun i => i = w.heap.size) _ _ _ rfl) fun i hi => .inr (by omega)
  have hb5 : Keep (fun i => i = gl ∨ i = w.heap.size) W3 ((((W3.setCell ⟨gl, k, none⟩ (.slice A3 n3 c3)).setCell ⟨w.heap.size, 0, none⟩ (.int .i64 0)).setCell ⟨w.heap.size, 1, none⟩ (.bool true)).setCell ⟨w.heap.size, 2, none⟩ (.int .i64 0)) :=
    (((Keep.set (F := fun i => i = gl ∨ i = w.heap.size) _ _ _ (.inl rfl)).trans (Keep.set (F := fun i => i = gl ∨ i = w.heap.size) _ _ _ (.inr rfl)) fun _ hi => .inl hi).trans (Keep.set (F := fun i => i = gl ∨ i = w.heap.size) _ _ _ (.inr rfl)) fun _ hi => .inl hi).trans (Keep.set (F := fun i => i = gl ∨ i = w.heap.size) _ _ _ (.inr rfl)) fun _ hi => .inl hi
  have hblk : Blk ((((W3.setCell ⟨gl, k, none⟩ (.slice A3 n3 c3)).setCell ⟨w.heap.size, 0, none⟩ (.int .i64 0)).setCell ⟨w.heap.size, 1, none⟩ (.bool true)).setCell ⟨w.heap.size, 2, none⟩ (.int .i64 0)) gl 64 (V'.set k (.slice A3 n3 c3)) :=
    ((((h.bl.below hb).set k _).far (by simp; omega) _).far (by simp; omega) _).far (by simp; omega) _
  have hlt : ∀ i, i < w.heap.size → ρ' i = ρ i := fun i hi => by rw [hρ']; exact if_neg (by omega)
  have hout : ∀ i, w.heap.size ≤ i → ρ i = .out := fun i hi => Classical.byContradiction fun hn => by have := (R.bd i hn).2; omega
  have h5 := R.turn (k := k) (l := l0 ++ [y]) (ρ' := ρ') h.old h.len hk5 hlt (fun i hi => by
      rw [hρ']
      by_cases hx : W.heap.size ≤ i ∧ (Value.slice A3 n3 c3).ownBlock = some i
      · refine .inr ⟨if_pos hx, ?_⟩
        have := (ho.lt i hx.2).2
        simpa [World.setCell] using this
      · exact .inl ((if_neg hx).trans (hout i hi))) hblk (by rw [List.length_set]; exact h.len') (fun j hj => by rw [List.getElem?_set, if_neg (fun e => hj e.symm)]; exact h.rest j hj) (fun v hv => by
      have hkl : k < V'.length := (List.getElem?_eq_some_iff.1 h.ck).1
      rw [List.getElem?_set, if_pos rfl, if_pos hkl] at hv
      injection hv with hv
      subst hv
      refine ⟨A3, n3, c3, rfl, ?_, fun _ b o hA => ?_⟩
      · rw [← i64s_app]
        refine hb5.rd (Rd.own ho) fun _ b o hA hf => ?_
        have := (ho.lt b (by rw [hA]; rfl)).1
        rcases hf with rfl | rfl <;> omega
      · have := (ho.lt b (by rw [hA]; rfl)).1
        rw [hρ']
        exact if_pos ⟨this, by rw [hA]; rfl⟩)
  exact ⟨rfl, ρ', h5.1, h5.2⟩
end
end
end Go.Proofs.Ytegnehdfedfphaa.PrtT
