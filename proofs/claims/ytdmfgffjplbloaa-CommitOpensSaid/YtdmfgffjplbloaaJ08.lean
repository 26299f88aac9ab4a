/- The record and the stage that a sector tells, by the reference. Conditions: the slice reads as the bytes that are named. The stage that a sector tells, by the reference. Conditions: the slice reads as the bytes that are named. A record, and a stage, put and got by the code. Conditions: numbers of 64 bits; the bytes lie as the facts say. -/
import Derived.Test.YtdmfgffjplbloaaRecB
import Derived.Test.YtdmfgffjplbloaaJ07
import Derived.Test.YtdmfgffjplbloaaRecL
import Derived.Test.YtdmfgffjplbloaaRecH
namespace Go.Proofs.Ytdmfgffjplbloaa.RecF
open Go.RowKit Go.Proofs.Ytdmfgffjplbloaa.Kit Go.Proofs.Ytdmfgffjplbloaa.Byt Go.Proofs.Ytdmfgffjplbloaa.Mem Go.Proofs.Ytdmfgffjplbloaa.RecM Go.Proofs.Ytdmfgffjplbloaa.RecA Go.Proofs.Ytdmfgffjplbloaa.RecC Go.Proofs.Ytdmfgffjplbloaa.RecB Go.Proofs.Ytdmfgffjplbloaa.RecD Go.Proofs.Ytdmfgffjplbloaa.RecE
open Go.Proofs.Ytdmfgffjplbloaa.TabR (rdN num)
open Go.Proofs.Ytdmfgffjplbloaa.TabY (SR SR.keep SR.below)

theorem rdN_at (xs : List Nat) (i k : Nat) (h : i + k ≤ xs.length) : rdN k (nl (xs.drop i)) 0 = (nm xs i k, nl (xs.drop (i + k)), 0) := by
  unfold rdN
  rw [if_neg (by simp), if_pos (by rw [nl_len, List.length_drop]; omega)]
  have e1 : (nl (xs.drop i)).take k = nl ((xs.drop i).take k) := by simp [nl]
  have e2 : (nl (xs.drop i)).drop k = nl (xs.drop (i + k)) := by simp [nl, List.map_drop]
  rw [e1, e2]
  rfl
/-- A number that is read where the reader stands. -/
theorem num_at (b i k : Nat) (q : Int) (xs : List Nat) (w : World) (hq : NumA.wd q = k) (hb : byt xs) (h : i + k ≤ xs.length) (hs : SR w b (nl (xs.drop i)) 0) :
    Calls Try.prog 38 #[.pointer (some ⟨b, 0, none⟩), .int .i64 q] w fun e w' => e = .returned (.int .i64 (nm xs i k)) ∧ SR w' b (nl (xs.drop (i + k))) 0 ∧ w.grownBy w' (some b) := by
  have h1 := TabY.rnum_any b q _ 0 w hs (nl_255 (byt_drop hb i))
  rw [hq, rdN_at xs i k h] at h1
  exact h1
theorem nm_bd {xs : List Nat} (hb : byt xs) (i k : Nat) : 0 ≤ nm xs i k ∧ nm xs i k < 256 ^ k := by
  have key : ∀ (l : List Nat) (a : Int) (m : Nat), (∀ c ∈ l, c < 256) → 0 ≤ a → a < 256 ^ m → 0 ≤ (nl l).foldl (fun a b => 256 * a + b) a ∧ (nl l).foldl (fun a b => 256 * a + b) a < 256 ^ (m + l.length) := by
    intro l
    induction l with
    | nil => intro a m _ h0 h1; exact ⟨h0, h1⟩
    | cons x l ih =>
      intro a m hl h0 h1
      have hx := hl x (by simp)
      have h2 : 256 * a + (x : Int) < 256 ^ (m + 1) := by rw [Int.pow_succ]; omega
      have h3 := ih (256 * a + x) (m + 1) (fun c hc => hl c (by simp [hc])) (by omega) h2
      have e : m + (x :: l).length = m + 1 + l.length := by simp; omega
      rw [e]
      exact h3
  have h1 := key ((xs.drop i).take k) 0 0 (byt_take (byt_drop hb i) k) (by omega) (by simp)
  refine ⟨h1.1, Int.lt_of_lt_of_le h1.2 ?_⟩
  have h2 : (256 : Nat) ^ (0 + ((xs.drop i).take k).length) ≤ 256 ^ k := Nat.pow_le_pow_right (by omega) (by simp; omega)
  have h3 : ((256 ^ k : Nat) : Int) = (256 : Int) ^ k := by simp
  have h4 : ((256 ^ (0 + ((xs.drop i).take k).length) : Nat) : Int) = (256 : Int) ^ (0 + ((xs.drop i).take k).length) := by simp
  omega
/-- The result's box, the reader, and the box that is filled. -/
structure Fr (w : World) (g2 rb gx : Nat) (t : TypeId) (zs : List Value) (xs : List Nat) (i : Nat) (cs : List Value) (wr : World) : Prop where
  b2 : Blk wr g2 t zs
  bx : Blk wr gx t cs
  st : SR wr rb (nl (xs.drop i)) 0
  bel : Below w.heap.size w wr
  l2 : w.heap.size ≤ g2
  lr : g2 < rb
  lx : rb < gx
section
variable {w wr w' : World} {g2 rb gx i : Nat} {t : TypeId} {zs cs : List Value} {xs : List Nat}
theorem Fr.num (h : Fr w g2 rb gx t zs xs i cs wr) {j : Nat} (h1 : SR w' rb (nl (xs.drop j)) 0) (hg : wr.grownBy w' (some rb)) : Fr w g2 rb gx t zs xs j cs w' := by
  have l2 := h.l2
  have lr := h.lr
  have lx := h.lx
  have k1 : Keep (fun i => i = rb) wr w' := Keep.grown hg fun i hi => by injection hi with hi; exact hi.symm
  exact ⟨k1.blk h.b2 (by show ¬ g2 = rb; omega), k1.blk h.bx (by show ¬ gx = rb; omega), h1, h.bel.trans (k1.below (fun i hi => by have : i = rb := hi; omega) h.bel.size), h.l2, h.lr, h.lx⟩
theorem Fr.set (h : Fr w g2 rb gx t zs xs i cs wr) (j : Nat) (v : Value) : Fr w g2 rb gx t zs xs i (cs.set j v) (wr.setCell ⟨gx, j, none⟩ v) := by
  have l2 := h.l2
  have lr := h.lr
  have lx := h.lx
  have k1 : Keep (fun i => i = gx) wr (wr.setCell ⟨gx, j, none⟩ v) := Keep.set wr j v rfl
  exact ⟨k1.blk h.b2 (by show ¬ g2 = gx; omega), Blk.set h.bx j v, SR.keep h.st k1 (fun i hi => by have : i = gx := hi; omega), h.bel.trans (k1.below (fun i hi => by have : i = gx := hi; omega) h.bel.size), h.l2, h.lr, h.lx⟩
theorem Fr.step (h : Fr w g2 rb gx t zs xs i cs wr) (hb : Below wr.heap.size wr w') : Fr w g2 rb gx t zs xs i cs w' := ⟨h.b2.below hb, h.bx.below hb, SR.below h.st hb, h.bel.trans (hb.mono h.bel.size), h.l2, h.lr, h.lx⟩
end
theorem size_rec : (Try.prog.info? 31).map (·.size) = some 6 := by kernel_rfl
theorem one_r (r : Rc) : ∀ v ∈ rcells r, v.oneCell' = true := by
  intro u hu
  simp [rcells] at hu
  rcases hu with rfl | rfl | rfl | rfl | rfl | rfl <;> rfl

theorem n64_of {xs : List Nat} (hb : byt xs) (i k : Nat) (hk : k ≤ 4) : n64 (nm xs i k) := by
  have h := nm_bd hb i k
  have h2 : (256 : Nat) ^ k ≤ 256 ^ 4 := Nat.pow_le_pow_right (by omega) hk
  have h3 : ((256 ^ k : Nat) : Int) = (256 : Int) ^ k := by simp
  unfold n64
  omega

set_option maxRecDepth 100000 in
set_option maxHeartbeats 3200000 in
theorem rget_any (A : Option Addr) (n c : Nat) (xs : List Nat) (w : World) (hR : Rd w A n c (u8n xs)) (hb : byt xs) :
    Calls Try.prog 23 #[.slice A n c] w fun e w' => e = .returned (.tuple #[rval (getR xs).1, .int .i64 (getR xs).2]) ∧ Below w.heap.size w w' := by
  have hn : xs.length = n := Rd.nats hR
  have hB2 := Blk.new w 31 (rcells Rc.none)
  have hbl : Below w.heap.size w (w.alloc (.cells (rcells Rc.none).toArray 31)) := (Below.refl _ _).alloc (Nat.le_refl _) _
  have HO := Lib.hid (fun w' (h : Rd w' A n c (u8n xs)) => ropen_any A n c xs w' 67 11 h hb (by omega) (by omega) (by omega))
  have hzz : (w.alloc (.cells (rcells Rc.none).toArray 31)) = w.alloc (.cells #[.int .i64 0, .int .i64 0, .int .i64 0, .int .i64 0, .int .i64 0, .int .i64 0] 31) := rfl
  rw [hzz] at hB2 hbl
  have hRz := hR.below hbl
  have HB := Lib.hid hb
  have HN := Lib.hid hn
  obtain ⟨x, hx⟩ : ∃ x, x = wrong 67 11 xs := ⟨_, rfl⟩
  have HX := Lib.hid hx
  rw [← hx] at HO
  clear hx hzz hb hn
  go_enter Try.func23, Try.ntmps23
  go_wp2_with fail
  obtain ⟨w1, hw1⟩ : ∃ w1, w1 = w.alloc (.cells #[.int .i64 0, .int .i64 0, .int .i64 0, .int .i64 0, .int .i64 0, .int .i64 0] 31) := ⟨_, rfl⟩
  rw [← hw1] at hB2 hbl hRz ⊢
  clear hw1
  refine (HO.out _ hRz).mono ?_
  rintro e w2 ⟨rfl, hb2⟩
  have HB2 := Lib.hid (hB2.below hb2)
  have HL2 := Lib.hid (hbl.trans (hb2.mono hbl.size))
  have HR2 := Lib.hid (hRz.below hb2)
  clear hb2 hB2 hbl hRz HO hR
  by_cases hx0 : x = 0
  · subst hx0
    have h64 : n = 64 := by
      have h1 := HX.out
      unfold wrong at h1
      split at h1
      · omega
      · have := HN.out; omega
    subst h64
    have HG := Lib.hid (show getR xs = if (rcOf xs).right then (rcOf xs, 0) else (Rc.none, 3) from by unfold getR; rw [← HX.out, if_neg (by simp)])
    go_wp2_with (fail)
    obtain ⟨gb, hgb⟩ : ∃ g, g = w2.heap.size := ⟨_, rfl⟩
    have hs2 := HL2.out.size
    have hl2 := HB2.out.lt
    have hsz : (w2.alloc (.cells #[.slice A 64 c, .int .i64 2, .int .i64 0] 77)).heap.size = gb + 1 := by rw [hgb]; simp
    have hN1 := Blk.new w2 77 [.slice A 64 c, .int .i64 2, .int .i64 0]
    have hN2 := Blk.new (w2.alloc (.cells #[.slice A 64 c, .int .i64 2, .int .i64 0] 77)) 31 (rcells Rc.none)
    rw [hsz] at hN2
    rw [← hgb] at hN1
    have hF : Fr w w.heap.size gb (gb + 1) 31 (rcells Rc.none) xs 2 (rcells Rc.none) ((w2.alloc (.cells #[.slice A 64 c, .int .i64 2, .int .i64 0] 77)).alloc (.cells #[.int .i64 0, .int .i64 0, .int .i64 0, .int .i64 0, .int .i64 0, .int .i64 0] 31)) := by
      refine ⟨(HB2.out.alloc _).alloc _, hN2, ⟨A, 64, c, 2, nl xs, hN1.alloc _, ?_, by omega, by simp [nl, List.map_drop], fun h0 g o hA => ?_⟩, ((HL2.out.alloc hs2 _).alloc (by rw [hsz]; omega) _), Nat.le_refl _, by omega, by omega⟩
      · rw [← nl_u8s]
        exact (HR2.out.alloc _).alloc _
      · obtain ⟨g', o', hA', hlt, _⟩ := HR2.out.2.2.2 h0
        rw [hA] at hA'
        injection hA' with hA'
        injection hA' with h1 _
        omega
    have hgb1 : gb + 1 = w2.heap.size + 1 := by rw [hgb]
    rw [← hgb1, ← hgb]
    obtain ⟨wF, hwF⟩ : ∃ wF, wF = ((w2.alloc (.cells #[.slice A 64 c, .int .i64 2, .int .i64 0] 77)).alloc (.cells #[.int .i64 0, .int .i64 0, .int .i64 0, .int .i64 0, .int .i64 0, .int .i64 0] 31)) := ⟨_, rfl⟩
    rw [← hwF] at hF ⊢
    have F0 := Lib.hid hF
    clear hN1 hN2 hF hwF hgb1 hsz HB2 HL2 HR2 hgb hs2 hl2
    refine (num_at gb 2 1 1 xs _ rfl HB.out (by rw [HN.out]; omega) F0.out.st).mono ?_
    rintro e v0 ⟨rfl, hst, hgr⟩
    have hF := F0.out.num hst hgr
    have c := hF.bx.cell (i := 0) rfl
    have f := hF.bx.frozen 0
    have G0 := Lib.hid (show Fr w w.heap.size gb (gb + 1) 31 (rcells Rc.none) xs 3 [.int .i64 (nm xs 2 1), .int .i64 0, .int .i64 0, .int .i64 0, .int .i64 0, .int .i64 0] (v0.setCell ⟨gb + 1, 0, none⟩ (.int .i64 (nm xs 2 1))) from hF.set 0 (.int .i64 (nm xs 2 1)))
    clear hst hgr hF F0
    go_wp2_with fail
    obtain ⟨u0, hu⟩ : ∃ u, u = v0.setCell ⟨gb + 1, 0, none⟩ (.int .i64 (nm xs 2 1)) := ⟨_, rfl⟩
    rw [← hu] at G0 ⊢
    have F1 := G0
    clear hu c f G0
    refine (num_at gb 3 4 4 xs _ rfl HB.out (by rw [HN.out]; omega) F1.out.st).mono ?_
    rintro e v1 ⟨rfl, hst, hgr⟩
    have hF := F1.out.num hst hgr
    have c := hF.bx.cell (i := 1) rfl
    have f := hF.bx.frozen 1
    have G1 := Lib.hid (show Fr w w.heap.size gb (gb + 1) 31 (rcells Rc.none) xs 7 [.int .i64 (nm xs 2 1), .int .i64 (nm xs 3 4), .int .i64 0, .int .i64 0, .int .i64 0, .int .i64 0] (v1.setCell ⟨gb + 1, 1, none⟩ (.int .i64 (nm xs 3 4))) from hF.set 1 (.int .i64 (nm xs 3 4)))
    clear hst hgr hF F1
    go_wp2_with fail
    obtain ⟨u1, hu⟩ : ∃ u, u = v1.setCell ⟨gb + 1, 1, none⟩ (.int .i64 (nm xs 3 4)) := ⟨_, rfl⟩
    rw [← hu] at G1 ⊢
    have F2 := G1
    clear hu c f G1
    refine (num_at gb 7 1 1 xs _ rfl HB.out (by rw [HN.out]; omega) F2.out.st).mono ?_
    rintro e v2 ⟨rfl, hst, hgr⟩
    have hF := F2.out.num hst hgr
    have c := hF.bx.cell (i := 2) rfl
    have f := hF.bx.frozen 2
    have G2 := Lib.hid (show Fr w w.heap.size gb (gb + 1) 31 (rcells Rc.none) xs 8 [.int .i64 (nm xs 2 1), .int .i64 (nm xs 3 4), .int .i64 (nm xs 7 1), .int .i64 0, .int .i64 0, .int .i64 0] (v2.setCell ⟨gb + 1, 2, none⟩ (.int .i64 (nm xs 7 1))) from hF.set 2 (.int .i64 (nm xs 7 1)))
    clear hst hgr hF F2
    go_wp2_with fail
    obtain ⟨u2, hu⟩ : ∃ u, u = v2.setCell ⟨gb + 1, 2, none⟩ (.int .i64 (nm xs 7 1)) := ⟨_, rfl⟩
    rw [← hu] at G2 ⊢
    have F3 := G2
    clear hu c f G2
    refine (num_at gb 8 1 1 xs _ rfl HB.out (by rw [HN.out]; omega) F3.out.st).mono ?_
    rintro e v3 ⟨rfl, hst, hgr⟩
    have hF := F3.out.num hst hgr
    have c := hF.bx.cell (i := 3) rfl
    have f := hF.bx.frozen 3
    have G3 := Lib.hid (show Fr w w.heap.size gb (gb + 1) 31 (rcells Rc.none) xs 9 [.int .i64 (nm xs 2 1), .int .i64 (nm xs 3 4), .int .i64 (nm xs 7 1), .int .i64 (nm xs 8 1), .int .i64 0, .int .i64 0] (v3.setCell ⟨gb + 1, 3, none⟩ (.int .i64 (nm xs 8 1))) from hF.set 3 (.int .i64 (nm xs 8 1)))
    clear hst hgr hF F3
    go_wp2_with fail
    obtain ⟨u3, hu⟩ : ∃ u, u = v3.setCell ⟨gb + 1, 3, none⟩ (.int .i64 (nm xs 8 1)) := ⟨_, rfl⟩
    rw [← hu] at G3 ⊢
    have F4 := G3
    clear hu c f G3
    refine (num_at gb 9 1 1 xs _ rfl HB.out (by rw [HN.out]; omega) F4.out.st).mono ?_
    rintro e v4 ⟨rfl, hst, hgr⟩
    have hF := F4.out.num hst hgr
    have c := hF.bx.cell (i := 4) rfl
    have f := hF.bx.frozen 4
    have G4 := Lib.hid (show Fr w w.heap.size gb (gb + 1) 31 (rcells Rc.none) xs 10 [.int .i64 (nm xs 2 1), .int .i64 (nm xs 3 4), .int .i64 (nm xs 7 1), .int .i64 (nm xs 8 1), .int .i64 (nm xs 9 1), .int .i64 0] (v4.setCell ⟨gb + 1, 4, none⟩ (.int .i64 (nm xs 9 1))) from hF.set 4 (.int .i64 (nm xs 9 1)))
    clear hst hgr hF F4
    go_wp2_with fail
    obtain ⟨u4, hu⟩ : ∃ u, u = v4.setCell ⟨gb + 1, 4, none⟩ (.int .i64 (nm xs 9 1)) := ⟨_, rfl⟩
    rw [← hu] at G4 ⊢
    have F5 := G4
    clear hu c f G4
    refine (num_at gb 10 1 1 xs _ rfl HB.out (by rw [HN.out]; omega) F5.out.st).mono ?_
    rintro e v5 ⟨rfl, hst, hgr⟩
    have hF := F5.out.num hst hgr
    have c := hF.bx.cell (i := 5) rfl
    have f := hF.bx.frozen 5
    have G5 := Lib.hid (show Fr w w.heap.size gb (gb + 1) 31 (rcells Rc.none) xs 11 [.int .i64 (nm xs 2 1), .int .i64 (nm xs 3 4), .int .i64 (nm xs 7 1), .int .i64 (nm xs 8 1), .int .i64 (nm xs 9 1), .int .i64 (nm xs 10 1)] (v5.setCell ⟨gb + 1, 5, none⟩ (.int .i64 (nm xs 10 1))) from hF.set 5 (.int .i64 (nm xs 10 1)))
    clear hst hgr hF F5
    go_wp2_with (refine wpList_load_blk rfl 31 _ rfl (gb + 1) rfl G5.out.bx Try.underlying31 rfl size_rec ?_)
    obtain ⟨u5, hu⟩ : ∃ u, u = v5.setCell ⟨gb + 1, 5, none⟩ (.int .i64 (nm xs 10 1)) := ⟨_, rfl⟩
    rw [← hu] at G5 ⊢
    have F6 := G5
    clear hu c f G5
    obtain ⟨br, hbr⟩ := bool_of (rcOf xs).right
    have HBR := Lib.hid hbr
    have HK := Lib.hid (show rok (rcOf xs) from ⟨n64_of HB.out 2 1 (by omega), n64_of HB.out 3 4 (by omega), n64_of HB.out 7 1 (by omega), n64_of HB.out 8 1 (by omega), n64_of HB.out 9 1 (by omega), n64_of HB.out 10 1 (by omega)⟩)
    clear hbr
    refine (rright_any (rcOf xs) _ HK.out br HBR.out).mono ?_
    rintro e w8 ⟨rfl, hb8⟩
    have F8 := Lib.hid (F6.out.step hb8)
    clear hb8 F6
    cases br
    · have hG : getR xs = (Rc.none, 3) := by rw [HG.out, if_neg (fun h => by have := HBR.out.2 h; cases this)]
      go_wp2_with (refine wpList_store_blk rfl 31 (.tmp 2) (.tmp 38) rfl w.heap.size rfl (rcells Rc.none) rfl F8.out.b2 rfl size_rec (one_r _) ?_; intro w9 hB9 ho9)
      have e0 := hB9.out.cell (i := 0) rfl
      have e1 := hB9.out.cell (i := 1) rfl
      have e2 := hB9.out.cell (i := 2) rfl
      have e3 := hB9.out.cell (i := 3) rfl
      have e4 := hB9.out.cell (i := 4) rfl
      have e5 := hB9.out.cell (i := 5) rfl
      refine bodyPost_ret (v := .tuple #[rval Rc.none, .int .i64 3]) (by simp [results, Try.results23, go_sem, e0, e1, e2, e3, e4, e5]) rfl ?_
      exact ⟨by rw [hG], ho9.out.below F8.out.bel (Nat.le_refl _) F8.out.bel.size⟩
    · have hG : getR xs = (rcOf xs, 0) := by rw [HG.out, if_pos (HBR.out.1 rfl)]
      go_wp2_with (first
        | (refine wpList_load_blk rfl 31 _ rfl (gb + 1) rfl F8.out.bx Try.underlying31 rfl size_rec ?_)
        | (refine wpList_store_blk rfl 31 (.tmp 2) (.tmp 39) rfl w.heap.size rfl (rcells (rcOf xs)) rfl F8.out.b2 rfl size_rec (one_r _) ?_; intro w9 hB9 ho9))
      have e0 := hB9.out.cell (i := 0) rfl
      have e1 := hB9.out.cell (i := 1) rfl
      have e2 := hB9.out.cell (i := 2) rfl
      have e3 := hB9.out.cell (i := 3) rfl
      have e4 := hB9.out.cell (i := 4) rfl
      have e5 := hB9.out.cell (i := 5) rfl
      refine bodyPost_ret (v := .tuple #[rval (rcOf xs), .int .i64 0]) (by simp [results, Try.results23, go_sem, rcOf, e0, e1, e2, e3, e4, e5]) rfl ?_
      exact ⟨by rw [hG], ho9.out.below F8.out.bel (Nat.le_refl _) F8.out.bel.size⟩
  · have HG := Lib.hid (show getR xs = (Rc.none, x) from by unfold getR; rw [← HX.out, if_pos hx0])
    have hxb : (x != 0) = true := by simpa using hx0
    go_wp2_with (refine wpList_store_blk rfl 31 (.tmp 2) (.tmp 11) rfl w.heap.size rfl (rcells Rc.none) rfl HB2.out rfl size_rec (one_r _) ?_; intro w9 hB9 ho9)
    have e0 := hB9.out.cell (i := 0) rfl
    have e1 := hB9.out.cell (i := 1) rfl
    have e2 := hB9.out.cell (i := 2) rfl
    have e3 := hB9.out.cell (i := 3) rfl
    have e4 := hB9.out.cell (i := 4) rfl
    have e5 := hB9.out.cell (i := 5) rfl
    refine bodyPost_ret (v := .tuple #[rval Rc.none, .int .i64 x]) (by simp [results, Try.results23, go_sem, e0, e1, e2, e3, e4, e5]) rfl ?_
    exact ⟨by rw [HG.out], ho9.out.below HL2.out (Nat.le_refl _) HL2.out.size⟩
end Go.Proofs.Ytdmfgffjplbloaa.RecF
namespace Go.Proofs.Ytdmfgffjplbloaa.RecF
open Go.RowKit Go.Proofs.Ytdmfgffjplbloaa.Kit Go.Proofs.Ytdmfgffjplbloaa.Byt Go.Proofs.Ytdmfgffjplbloaa.Mem Go.Proofs.Ytdmfgffjplbloaa.RecM Go.Proofs.Ytdmfgffjplbloaa.RecA Go.Proofs.Ytdmfgffjplbloaa.RecC Go.Proofs.Ytdmfgffjplbloaa.RecB Go.Proofs.Ytdmfgffjplbloaa.RecD Go.Proofs.Ytdmfgffjplbloaa.RecE
open Go.Proofs.Ytdmfgffjplbloaa.TabR (rdN num)
open Go.Proofs.Ytdmfgffjplbloaa.TabY (SR SR.keep SR.below)

theorem one_s (r : Sg) : ∀ v ∈ scells r, v.oneCell' = true := by
  intro u hu
  simp [scells] at hu
  rcases hu with rfl | rfl | rfl <;> rfl

end Go.Proofs.Ytdmfgffjplbloaa.RecF
namespace Go.Proofs.Ytdmfgffjplbloaa.RecN
open Go.RowKit Go.Proofs.Ytdmfgffjplbloaa.Kit Go.Proofs.Ytdmfgffjplbloaa.Byt Go.Proofs.Ytdmfgffjplbloaa.Mem Go.Proofs.Ytdmfgffjplbloaa.RecM Go.Proofs.Ytdmfgffjplbloaa.RecA Go.Proofs.Ytdmfgffjplbloaa.RecC Go.Proofs.Ytdmfgffjplbloaa.RecG Go.Proofs.Ytdmfgffjplbloaa.RecI Go.Proofs.Ytdmfgffjplbloaa.RecJ Go.Proofs.Ytdmfgffjplbloaa.RecK Go.Proofs.Ytdmfgffjplbloaa.RecL

theorem mark_r : marks { data := #[76, 67] } 67 := rfl
theorem mark_s : marks { data := #[76, 83] } 83 := rfl
theorem size_rec : (Try.prog.info? 31).map (·.size) = some 6 := by kernel_rfl
theorem one_r (r : Rc) : ∀ u ∈ rcells r, u.oneCell' = true := by intro u hu; simp [rcells] at hu; rcases hu with rfl | rfl | rfl | rfl | rfl | rfl <;> rfl
theorem one_s (g : Sg) : ∀ u ∈ scells g, u.oneCell' = true := by intro u hu; simp [scells] at hu; rcases hu with rfl | rfl | rfl <;> rfl
def rF (r : Rc) : List (Nat × Int) := [(1, r.p), (4, r.q), (1, r.a), (1, r.c), (1, r.l), (1, r.b)]
def sF (g : Sg) : List (Nat × Int) := [(2, g.s), (2, g.z), (2, g.h)]
theorem rF_told (r : Rc) : r.bytes = [76, 67] ++ told (rF r) := by simp [told, rF, Rc.bytes]
theorem sF_told (g : Sg) : g.bytes = [76, 83] ++ told (sF g) := by simp [told, sF, Sg.bytes]
theorem rF_len (r : Rc) : (told (rF r)).length = 9 := by have h := r.bytes_len; rw [rF_told, List.length_append] at h; simp at h; omega
theorem sF_len (g : Sg) : (told (sF g)).length = 6 := by have h := g.bytes_len; rw [sF_told, List.length_append] at h; simp at h; omega
/-- Bytes in new memory, and no error. -/
def Puts (w : World) (xs : List Nat) (e : Ending) (w' : World) : Prop := ∃ B m d, e = .returned (.tuple #[.slice B m d, .int .i64 0]) ∧ w'.ownsRow w.heap.size 5 1 (.slice B m d) m (u8n xs) ∧ Below w.heap.size w w'
/-- A value, an error, and all that was there. -/
def Gets (w : World) (v : Value) (x : Int) (e : Ending) (w' : World) : Prop := e = .returned (.tuple #[v, .int .i64 x]) ∧ Below w.heap.size w w'

set_option maxRecDepth 100000 in
set_option maxHeartbeats 800000 in
theorem rput_no (r : Rc) (w : World) (_hk : rok r) (hr : ¬ r.right) : Calls Try.prog 26 #[rval r] w (Gets w (.slice none 0 0) 3) := by
  have HR := Lib.hid (fun w' => right_any r w' false (by simpa using hr))
  have HX := Lib.hid (Bx.new w 31 (rcells r))
  clear hr _hk
  obtain ⟨p, q, a, c, l, t⟩ := r
  show Calls _ _ #[.agg #[.int .i64 p, .int .i64 q, .int .i64 a, .int .i64 c, .int .i64 l, .int .i64 t]] w _
  go_enter Try.func26, Try.ntmps26
  go_wp2_with fail
  refine (HR.out _).mono ?_
  rintro e w1 ⟨rfl, hb1⟩
  have HX1 := Lib.hid (HX.out.step hb1)
  clear hb1 HX
  go_wp2
  go_ret2
  exact ⟨rfl, HX1.out.bel⟩
set_option maxRecDepth 100000 in
set_option maxHeartbeats 1600000 in
theorem rput_yes (r : Rc) (w : World) (_hk : rok r) (hr : r.right) : Calls Try.prog 26 #[rval r] w (Puts w (shut r.bytes)) := by
  have HR := Lib.hid (fun w' => right_any r w' true (by simpa using hr))
  have HX := Lib.hid (Bx.new w 31 (rcells r))
  have HT := Lib.hid (rF_told r)
  have HL := Lib.hid (rF_len r)
  have HS := Lib.hid (fun g gb t' t2 w' => sector_any { data := #[76, 67] } 67 mark_r (by omega) (rF r) g gb 6 t' t2 w' rfl (by omega) (by omega))
  clear hr _hk
  obtain ⟨p, q, a, c, l, t⟩ := r
  show Calls _ _ #[.agg #[.int .i64 p, .int .i64 q, .int .i64 a, .int .i64 c, .int .i64 l, .int .i64 t]] w _
  go_enter Try.func26, Try.ntmps26
  go_wp2_with fail
  refine (HR.out _).mono ?_
  rintro e w1 ⟨rfl, hb1⟩
  have HX1 := Lib.hid (HX.out.step hb1)
  clear hb1 HX
  go_wp2_with fail
  refine (ofRecord_any w.heap.size w1).mono ?_
  rintro e w2 ⟨rfl, hb2⟩
  have HX2 := Lib.hid (HX1.out.step hb2)
  have hs2 := HX2.out.bel.size
  clear hb2 HX1
  go_wp2_with (refine wpList_store_blk rfl 85 (.tmp 4) (.tmp 8) rfl w2.heap.size rfl (fcells w.heap.size rws) rfl (Blk.new w2 85 [.pointer none, .int .i64 0, .pointer none, .int .i64 0, .pointer none, .int .i64 0, .pointer none, .int .i64 0, .pointer none, .int .i64 0, .pointer none, .int .i64 0]) (by rw [fcells_len]; rfl) (by rw [fcells_len]; exact size_f6) (fcells_one _ _) ?_; intro w3 hB3 ho3)
  have HL3 := Lib.hid (show Below w2.heap.size w2 w3 from ho3.out.below ((Below.refl _ _).alloc (Nat.le_refl _) _) (Nat.le_refl _) (by simp))
  have HX3 := Lib.hid (HX2.out.step HL3.out)
  refine (HS.out w.heap.size w2.heap.size _ _ w3 hB3.out HX3.out.blk (by have := HL.out; omega) _ HT.out).mono ?_
  rintro e w4 ⟨B, k, d, rfl, hown, hb4⟩
  have HO4 := Lib.hid (own_mono hown HX3.out.bel.size)
  have HL4 := Lib.hid (HX3.out.bel.trans (hb4.mono HX3.out.bel.size))
  clear hown hb4
  go_wp2
  go_ret2
  exact ⟨B, k, d, rfl, HO4.out, HL4.out⟩

set_option maxRecDepth 100000 in
set_option maxHeartbeats 3200000 in
theorem rget_any (A : Option Addr) (n c : Nat) (xs : List Nat) (w : World) (hR : Rd w A n c (u8n xs)) (hb : byt xs) :
    Calls Try.prog 45 #[.slice A n c] w (Gets w (rval (getR xs).1) (getR xs).2) := by
  have HR := Lib.hid hR
  have HBY := Lib.hid hb
  have HL0 := Lib.hid (fun g gb t' t2 (V : List Int) w' (h : Rd w' A n c (u8n xs)) (hV : V.length = 6) => lay_any A n c xs { data := #[76, 67] } 67 rws V g gb 6 11 t' t2 w' h hb mark_r (by omega) rfl hV (by omega) (by omega) (by intro x hx; simp [rws] at hx; omega) rfl (by omega))
  have hB0 := Blk.new w 31 (rcells Rc.none)
  have hl0 : Below w.heap.size w (w.alloc (.cells (rcells Rc.none).toArray 31)) := (Below.refl _ _).alloc (Nat.le_refl _) _
  have hB1 := Blk.new (w.alloc (.cells (rcells Rc.none).toArray 31)) 31 (rcells Rc.none)
  have hs1 : (w.alloc (.cells (rcells Rc.none).toArray 31)).heap.size = w.heap.size + 1 := by simp
  rw [hs1] at hB1
  have hB0' := hB0.alloc (.cells (rcells Rc.none).toArray 31)
  have hl1 : Below w.heap.size w ((w.alloc (.cells (rcells Rc.none).toArray 31)).alloc (.cells (rcells Rc.none).toArray 31)) := hl0.alloc (by rw [hs1]; omega) _
  have H0 := Lib.hid hB0'
  have H1 := Lib.hid hB1
  have HL1 := Lib.hid hl1
  obtain ⟨x, hx⟩ : ∃ x, x = wrong 67 11 xs := ⟨_, rfl⟩
  have HXW := Lib.hid hx
  rw [← hx] at HL0
  clear hB0 hB0' hB1 hl0 hl1 hs1 hR hb hx
  obtain ⟨w1, hw1⟩ : ∃ w1, w1 = ((w.alloc (.cells (rcells Rc.none).toArray 31)).alloc (.cells (rcells Rc.none).toArray 31)) := ⟨_, rfl⟩
  rw [← hw1] at H0 H1 HL1
  have hw1' : ((w.alloc (.cells #[.int .i64 0, .int .i64 0, .int .i64 0, .int .i64 0, .int .i64 0, .int .i64 0] 31)).alloc (.cells #[.int .i64 0, .int .i64 0, .int .i64 0, .int .i64 0, .int .i64 0, .int .i64 0] 31)) = w1 := hw1.symm
  have HW1 := Lib.hid hw1'
  clear hw1 hw1'
  go_enter Try.func45, Try.ntmps45
  go_wp2_with fail
  rw [HW1.out]
  clear HW1
  refine (ofRecord_any (w.heap.size + 1) w1).mono ?_
  rintro e w2 ⟨rfl, hb2⟩
  have H02 := Lib.hid (H0.out.below hb2)
  have H12 := Lib.hid (H1.out.below hb2)
  have HL2 := Lib.hid (HL1.out.trans (hb2.mono HL1.out.size))
  have hs2 := HL2.out.size
  have hg1 := H12.out.lt
  clear hb2 H0 H1 HL1
  go_wp2_with (refine wpList_store_blk rfl 85 (.tmp 5) (.tmp 7) rfl w2.heap.size rfl (fcells (w.heap.size + 1) rws) rfl (Blk.new w2 85 [.pointer none, .int .i64 0, .pointer none, .int .i64 0, .pointer none, .int .i64 0, .pointer none, .int .i64 0, .pointer none, .int .i64 0, .pointer none, .int .i64 0]) (by rw [fcells_len]; rfl) (by rw [fcells_len]; exact size_f6) (fcells_one _ _) ?_; intro w3 hB3 ho3)
  have hl3 : Below w2.heap.size w2 w3 := ho3.out.below ((Below.refl _ _).alloc (Nat.le_refl _) _) (Nat.le_refl _) (by simp)
  have H03 := Lib.hid (H02.out.below hl3)
  have H13 := Lib.hid (H12.out.below hl3)
  have HL3 := Lib.hid (HL2.out.trans (hl3.mono hs2))
  clear hl3 ho3 H02 H12 HL2
  refine (HL0.out (w.heap.size + 1) w2.heap.size _ _ [0, 0, 0, 0, 0, 0] w3 (HR.out.below HL3.out) rfl hB3.out H13.out (by omega)).mono ?_
  rintro e w4 ⟨rfl, hy, hno, hk4⟩
  have H04 := Lib.hid (hk4.blk H03.out (by show ¬ w.heap.size = w.heap.size + 1; omega))
  have HL4 := Lib.hid (show Below w.heap.size w w4 from HL3.out.trans (hk4.below (B := w.heap.size) (fun k hk => by rw [show k = w.heap.size + 1 from hk]; omega) HL3.out.size))
  have HY := Lib.hid hy
  clear hy hno hk4 hB3 H03 H13 HL3 HL0
  by_cases hx0 : x = 0
  · subst hx0
    have H14 := Lib.hid (show Blk w4 (w.heap.size + 1) 31 (rcells (rcOf xs)) from by rw [← numsOf_r]; exact HY.out rfl)
    have HG := Lib.hid (show getR xs = if (rcOf xs).right then (rcOf xs, 0) else (Rc.none, 3) from by unfold getR; rw [← HXW.out, if_neg (by simp)])
    have HK := Lib.hid (trivial)
    obtain ⟨br, hbr⟩ := bool_of (rcOf xs).right
    have HBR := Lib.hid hbr
    clear hbr HY
    go_wp2_with (refine wpList_load_blk rfl 31 _ rfl (w.heap.size + 1) rfl H14.out Try.underlying31 rfl size_rec ?_)
    refine (right_any (rcOf xs) _ br HBR.out).mono ?_
    rintro e w8 ⟨rfl, hb8⟩
    have H08 := Lib.hid (H04.out.below hb8)
    have H18 := Lib.hid (H14.out.below hb8)
    have HL8 := Lib.hid (HL4.out.trans (hb8.mono HL4.out.size))
    clear hb8 H04 H14 HL4
    cases br
    · have hG : getR xs = (Rc.none, 3) := by rw [HG.out, if_neg (fun h => by have := HBR.out.2 h; cases this)]
      go_wp2_with (refine wpList_store_blk rfl 31 (.tmp 2) (.tmp 18) rfl w.heap.size rfl (rcells Rc.none) rfl H08.out rfl size_rec (one_r _) ?_; intro w9 hB9 ho9)
      have e0 := hB9.out.cell (i := 0) rfl
      have e1 := hB9.out.cell (i := 1) rfl
      have e2 := hB9.out.cell (i := 2) rfl
      have e3 := hB9.out.cell (i := 3) rfl
      have e4 := hB9.out.cell (i := 4) rfl
      have e5 := hB9.out.cell (i := 5) rfl
      refine bodyPost_ret (v := .tuple #[rval Rc.none, .int .i64 3]) (by simp [results, Try.results45, go_sem, e0, e1, e2, e3, e4, e5]) rfl ?_
      exact ⟨by rw [hG], ho9.out.below HL8.out (Nat.le_refl _) HL8.out.size⟩
    · have hG : getR xs = (rcOf xs, 0) := by rw [HG.out, if_pos (HBR.out.1 rfl)]
      go_wp2_with (first
        | (refine wpList_load_blk rfl 31 _ rfl (w.heap.size + 1) rfl H18.out Try.underlying31 rfl size_rec ?_)
        | (refine wpList_store_blk rfl 31 (.tmp 2) (.tmp 19) rfl w.heap.size rfl (rcells (rcOf xs)) rfl H08.out rfl size_rec (one_r _) ?_; intro w9 hB9 ho9))
      have e0 := hB9.out.cell (i := 0) rfl
      have e1 := hB9.out.cell (i := 1) rfl
      have e2 := hB9.out.cell (i := 2) rfl
      have e3 := hB9.out.cell (i := 3) rfl
      have e4 := hB9.out.cell (i := 4) rfl
      have e5 := hB9.out.cell (i := 5) rfl
      refine bodyPost_ret (v := .tuple #[rval (rcOf xs), .int .i64 0]) (by simp [results, Try.results45, go_sem, rcOf, e0, e1, e2, e3, e4, e5]) rfl ?_
      exact ⟨by rw [hG], ho9.out.below HL8.out (Nat.le_refl _) HL8.out.size⟩
  · have HG := Lib.hid (show getR xs = (Rc.none, x) from by unfold getR; rw [← HXW.out, if_pos hx0])
    have hxb : (x != 0) = true := by simpa using hx0
    go_wp2_with (refine wpList_store_blk rfl 31 (.tmp 2) (.tmp 13) rfl w.heap.size rfl (rcells Rc.none) rfl H04.out rfl size_rec (one_r _) ?_; intro w9 hB9 ho9)
    have e0 := hB9.out.cell (i := 0) rfl
    have e1 := hB9.out.cell (i := 1) rfl
    have e2 := hB9.out.cell (i := 2) rfl
    have e3 := hB9.out.cell (i := 3) rfl
    have e4 := hB9.out.cell (i := 4) rfl
    have e5 := hB9.out.cell (i := 5) rfl
    refine bodyPost_ret (v := .tuple #[rval Rc.none, .int .i64 x]) (by simp [results, Try.results45, go_sem, e0, e1, e2, e3, e4, e5]) rfl ?_
    exact ⟨by rw [HG.out], ho9.out.below HL4.out (Nat.le_refl _) HL4.out.size⟩


end Go.Proofs.Ytdmfgffjplbloaa.RecN
