/- New by the document. Conditions: the table lies as the facts say. -/
import Derived.Test.YtogkdnjdcfffaaaPrtX
namespace Go.Proofs.Ytogkdnjdcfffaaa.PrtY
open Go.RowKit Go.Proofs.Ytogkdnjdcfffaaa.Kit Go.Proofs.Ytogkdnjdcfffaaa.Byt Go.Proofs.Ytogkdnjdcfffaaa.Mem Go.Proofs.Ytogkdnjdcfffaaa.TabI Go.Proofs.Ytogkdnjdcfffaaa.PrtM Go.Proofs.Ytogkdnjdcfffaaa.PrtA Go.Proofs.Ytogkdnjdcfffaaa.PrtB Go.Proofs.Ytogkdnjdcfffaaa.PrtC Go.Proofs.Ytogkdnjdcfffaaa.PrtD Go.Proofs.Ytogkdnjdcfffaaa.PrtR Go.Proofs.Ytogkdnjdcfffaaa.PrtS Go.Proofs.Ytogkdnjdcfffaaa.PrtT Go.Proofs.Ytogkdnjdcfffaaa.PrtU Go.Proofs.Ytogkdnjdcfffaaa.PrtV Go.Proofs.Ytogkdnjdcfffaaa.PrtX
open Go.Proofs.Ytogkdnjdcfffaaa.TabA (Tri Tris Ta)
open Go.Proofs.Ytogkdnjdcfffaaa.TabB (Bx)
open Go.Proofs.Ytogkdnjdcfffaaa.TabE (tcells tcells_at tcells_len)
open Go.Proofs.Ytogkdnjdcfffaaa.TabG (wp_add3)

theorem info_chan : (Try.prog.info? 56).map (fun i => (i.zero, i.size, i.bytes)) = some (some (.agg #[.int .i64 0, .int .i64 0, .int .i64 0]), 3, 24) := by kernel_rfl
theorem info_ints : (Try.prog.info? 52).map (fun i => (i.zero, i.size, i.bytes)) = some (some (.slice none 0 0), 1, 24) := by kernel_rfl
def RefN (l : Lab) : Prop := l = .rset ∨ l = .rlist ∨ l = .rdata
theorem Tris.of_own {w : World} {B : Nat} {e : TypeId} {A : Option Addr} {n c : Nat} {R : List Tri} (h : w.ownsRow B e 3 (.slice A n c) n (tcells R)) (hl : R.length = n) (hok : ∀ r ∈ R, r.ok) : Tris w A n c R := by
  rcases h.2 with ⟨hv, h0⟩ | ⟨g, cap, cur, hv, hb, hg, hnc, hcm, _⟩
  · simp only [Value.slice.injEq] at hv
    obtain ⟨rfl, rfl, rfl⟩ := hv
    exact ⟨hl, by omega, by omega, hok, fun hp => absurd hp (by omega)⟩
  · simp only [Value.slice.injEq] at hv
    obtain ⟨rfl, _, rfl⟩ := hv
    unfold maxLen at hcm
    refine ⟨hl, hnc, by omega, hok, fun _ => ⟨g, 0, rfl, lt_of_block hg, fun k r hr j u hu => ?_⟩⟩
    have h1 := h.cells (g := g) rfl (k * 3 + j) u (tcells_at hr hu)
    rw [Addr.add_lit] at h1
    rw [Nat.zero_add] at h1 ⊢
    exact h1
theorem below_own {W w5 : World} (h : W.drew.grownBy w5 (Value.slice none 0 0).ownBlock) : Below W.heap.size W w5 :=
  ⟨h.os, h.tape, h.output, h.size, fun i hi => h.block i hi (fun e => by cases e)⟩
/-- What New leaves: the labels of before, and its own. -/
theorem Rf.start {B : Nat} {w W w5 : World} {ρ : Nat → Lab} {gl X n n5 c5 : Nat} {A5 : Option Addr} {C : List Tri} (hbd : Bd B w ρ) (hB : B ≤ w.heap.size) (hgl : w.heap.size ≤ gl) (hX : gl < X)
    (h1 : Blk W gl 52 (List.replicate n (.slice none 0 0))) (h2 : Blk W X 50 [.slice none 0 0, .slice (some ⟨gl, 0, none⟩) n n]) (hb : Below w.heap.size w W) (hg : Below W.heap.size W w5)
    (hown : w5.ownsRow W.heap.size 56 3 (.slice A5 n5 c5) n5 (tcells C)) (hlen : C.length = n) (hn5 : n5 = n) (h4 : n ≤ 4) (hok : ∀ r ∈ C, r.ok) :
    ∃ ρ', Rf B (w5.setCell ⟨X, 0, none⟩ (.slice A5 n5 c5)) ρ' X gl A5 n c5 C (fun _ => []) ∧ Stp RefN w ρ (w5.setCell ⟨X, 0, none⟩ (.slice A5 n5 c5)) ρ' ∧ Below w.heap.size w (w5.setCell ⟨X, 0, none⟩ (.slice A5 n5 c5)) := by
  subst hn5
  have hXl := h2.lt
  have hs5 := hg.size
  have hsw := hb.size
  obtain ⟨ρ', hρ'⟩ : ∃ ρ' : Nat → Lab, ρ' = fun i => if i = X then .rset else if i = gl then .rlist else if W.heap.size ≤ i ∧ (Value.slice A5 n5 c5).ownBlock = some i then .rdata else ρ i := ⟨_, rfl⟩
  have hlt : ∀ i, i < w.heap.size → ρ' i = ρ i := fun i hi => by rw [hρ']; simp only [if_neg (show ¬ i = X by omega), if_neg (show ¬ i = gl by omega), if_neg (show ¬ (W.heap.size ≤ i ∧ (Value.slice A5 n5 c5).ownBlock = some i) by omega)]
  have hout : ∀ i, w.heap.size ≤ i → ρ i = .out := fun i hi => Classical.byContradiction fun hn => by have := (hbd i hn).2; omega
  have hbel : Below w.heap.size w (w5.setCell ⟨X, 0, none⟩ (.slice A5 n5 c5)) := (hb.trans (hg.mono hsw)).setCell (by simp; omega) _
  have hsz : (w5.setCell ⟨X, 0, none⟩ (.slice A5 n5 c5)).heap.size = w5.heap.size := by simp [World.setCell]
  have hown' : (w5.setCell ⟨X, 0, none⟩ (.slice A5 n5 c5)).ownsRow W.heap.size 56 3 (.slice A5 n5 c5) n5 (tcells C) := (Keep.set (F := fun i => i = X) w5 0 (.slice A5 n5 c5) rfl).own hown fun g hg2 e => by have := (hown.lt g hg2).1; omega
  have hst : Stp RefN w ρ (w5.setCell ⟨X, 0, none⟩ (.slice A5 n5 c5)) ρ' := ⟨Keep.of_below hbel, hlt, fun i hi => by
    rw [hρ']
    by_cases e1 : i = X
    · exact .inr ⟨.inl (if_pos e1), by rw [hsz]; omega⟩
    · simp only [if_neg e1]
      by_cases e2 : i = gl
      · exact .inr ⟨.inr (.inl (if_pos e2)), by rw [hsz]; omega⟩
      · simp only [if_neg e2]
        by_cases e3 : W.heap.size ≤ i ∧ (Value.slice A5 n5 c5).ownBlock = some i
        · exact .inr ⟨.inr (.inr (if_pos e3)), (hown'.lt i e3.2).2⟩
        · exact .inl (by rw [if_neg e3]; exact hout i hi)⟩
  refine ⟨ρ', ⟨hbd.step hB hst, by rw [hsz]; omega, ?_, by rw [hρ']; exact if_pos rfl, Tris.of_own hown' hlen hok, fun hp b o hA => ?_, by rw [hρ']; simp only [if_neg (show ¬ gl = X by omega), if_pos], ⟨_, (h1.below hg).far (by simp; omega) _, by simp, fun k v hv => ?_⟩, h4⟩, hst, hbel⟩
  · exact (h2.below hg).set 0 _
  · have h6 : (Value.slice A5 n5 c5).ownBlock = some b := by rw [hA]; rfl
    have h7 := (hown.lt b h6).1
    rw [hρ']
    simp only [if_neg (show ¬ b = X by omega), if_neg (show ¬ b = gl by omega), if_pos (show W.heap.size ≤ b ∧ (Value.slice A5 n5 c5).ownBlock = some b from ⟨h7, h6⟩)]
  · rw [List.getElem?_replicate] at hv
    split at hv
    · injection hv with hv
      subst hv
      exact ⟨none, 0, 0, rfl, Rd.nil _, fun hp => absurd hp (by omega)⟩
    · cases hv
set_option maxRecDepth 100000 in
set_option maxHeartbeats 3200000 in
theorem rnew_any (t : Ta) {B : Nat} {w : World} {ρ : Nat → Lab} (h : t.ok w) (h4 : t.n3 ≤ 4) (hbd : Bd B w ρ) (hB : B ≤ w.heap.size) :
    Calls Try.prog 13 #[t.val] w fun e w' => ∃ X gl A c ρ', e = .returned (.pointer (some ⟨X, 0, none⟩)) ∧ Rf B w' ρ' X gl A t.n3 c t.C (fun _ => []) ∧ Stp RefN w ρ w' ρ' ∧ Below w.heap.size w w' := by
  obtain ⟨iC, hiC, hzC, hsC, hbC⟩ := info_of info_chan
  obtain ⟨iS, hiS, hzS, hsS, hbS⟩ := info_of info_ints
  have HX := Lib.hid (Bx.new w t)
  have HT := Lib.hid h.C
  have HBD := Lib.hid hbd
  have HBB := Lib.hid hB
  have HOK := Lib.hid h.C.2.2.2.1
  have HLN := Lib.hid h.C.1
  obtain ⟨y0, y1, y2, y3, y4⟩ := HX.out.cell
  clear h hbd hB
  obtain ⟨fr, A1, n1, c1, P, A2, n2, c2, W, A3, n3, c3, C, tr⟩ := t
  dsimp only at y0 y1 y2 y3 y4 HT HOK HLN h4
  show Calls _ _ #[.agg #[.int .i64 fr, .slice A1 n1 c1, .slice A2 n2 c2, .slice A3 n3 c3, .int .i64 tr]] w fun e w' => ∃ X gl A c ρ', e = .returned (.pointer (some ⟨X, 0, none⟩)) ∧ Rf B w' ρ' X gl A n3 c C (fun _ => []) ∧ Stp RefN w ρ w' ρ' ∧ Below w.heap.size w w'
  obtain ⟨wx, hwx⟩ : ∃ wx, wx = w.alloc (.cells (Ta.cells ⟨fr, A1, n1, c1, P, A2, n2, c2, W, A3, n3, c3, C, tr⟩).toArray 26) := ⟨_, rfl⟩
  go_enter Try.func13, Try.ntmps13
  go_wp2_with (refine wpList_make_room _ rfl (.tmp 6) (.tmp 6) 48 rfl 52 iS (.slice none 0 0) 24 Try.underlying48 hiS hzS hsS hbS rfl .i64 .i64 n3 n3 n3 n3 rfl rfl rfl rfl (Nat.le_refl _) (by omega) (by omega) ?_; intro w3 hB3 hb3 hs3; have HB3 := Lib.hid hb3; have HS3 := Lib.hid hs3; have y3' := hb3.cell (p := ⟨w.heap.size, 3, none⟩) (by simp); clear hb3 hs3)
  have hgl : (w.alloc (.cells #[.int .i64 fr, .slice A1 n1 c1, .slice A2 n2 c2, .slice A3 n3 c3, .int .i64 tr] 26)).heap.size = w.heap.size + 1 := by simp
  have hz3 : w3.heap.size = w.heap.size + 1 + 1 := by rw [HS3.out, hgl]
  obtain ⟨wX, hwX⟩ : ∃ wX, wX = w3.alloc (.cells #[.slice none 0 0, .slice (some ⟨w.heap.size + 1, 0, none⟩) n3 n3] 50) := ⟨_, rfl⟩
  have HBel : Hid (Below w.heap.size w wX) := Lib.hid (by
    rw [hwX]
    have h1 := (Below.refl w.heap.size w).alloc (Nat.le_refl _) (.cells #[.int .i64 fr, .slice A1 n1 c1, .slice A2 n2 c2, .slice A3 n3 c3, .int .i64 tr] 26)
    exact (h1.trans (HB3.out.mono h1.size)).alloc (by omega) _)
  have HBX : Hid (Blk wX w3.heap.size 50 [.slice none 0 0, .slice (some ⟨w.heap.size + 1, 0, none⟩) n3 n3]) := Lib.hid (by rw [hwX]; exact Blk.new w3 _ _)
  have HBG : Hid (Blk wX (w.heap.size + 1) 52 (List.replicate n3 (.slice none 0 0))) := Lib.hid (by
    rw [hwX]
    have h1 := hB3.out
    rw [hgl] at h1
    exact Blk.alloc h1 _)
  have HTX := Lib.hid (HT.out.below HBel.out)
  have q3 : wX.cell? ⟨w.heap.size, 3, none⟩ = some (.slice A3 n3 c3) := by
    rw [hwX]
    exact ((((Below.refl w3.heap.size w3).alloc (Nat.le_refl _) _).cell (p := ⟨w.heap.size, 3, none⟩) (by show w.heap.size < w3.heap.size; omega)).trans y3').trans y3
  obtain ⟨Xb, hXb⟩ : ∃ Xb, Xb = w3.heap.size := ⟨_, rfl⟩
  have hXg : w.heap.size + 1 < Xb := by omega
  rw [← hXb] at HBX
  have x0 := HBX.out.cell (i := 0) rfl
  clear y0 y1 y2 y3 y4 y3' hB3 HB3 HS3
  rw [← hwX, ← hXb]
  clear hwX hwx hgl hz3 hXb
  have HTd := Lib.hid (show Tris wX.drew A3 n3 c3 C from HTX.out)
  go_region_law (first
    | (rw [if_pos (by rfl)]; have e8 := World.ownsRow_nil wX.drew wX.heap.size 56 3; have e9 : 0 + n3 ≤ 1000000000 := (by omega); refine wp_add3 (.tmp 14) (.tmp 16) 24 rfl wX.heap.size 56 iC (.agg #[.int .i64 0, .int .i64 0, .int .i64 0]) 24 Try.underlying24 hiC hzC hsC hbC rfl (.slice none 0 0) 0 [] rfl e8 A3 n3 c3 C rfl HTd.out e9 (by omega) (Nat.le_refl _) ?_; intro A5 n5 c5 w5 hn5 hown5 hg5; have HB5 := Lib.hid (below_own hg5); have HX5 := Lib.hid (HBX.out.below HB5.out); have z0 := HX5.out.cell (i := 0) rfl; have z1 := HX5.out.frozen 0; clear e8 e9 hg5))
  all_goals
    go_wp2_with fail
    go_ret
    have hn : n5 = n3 := by have := hn5.out; omega
    obtain ⟨ρ', g1, g2, g3⟩ := Rf.start HBD.out HBB.out (by omega) (by omega) HBG.out HBX.out HBel.out HB5.out (by have q := hown5.out; rw [List.nil_append] at q; exact q) HLN.out hn h4 HOK.out
    exact ⟨_, _, A5, c5, ρ', rfl, g1, g2, g3⟩
end Go.Proofs.Ytogkdnjdcfffaaa.PrtY
