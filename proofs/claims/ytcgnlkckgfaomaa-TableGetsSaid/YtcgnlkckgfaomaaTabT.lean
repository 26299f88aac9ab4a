/- table.Get: what it hands back, of any bytes. Conditions: the bytes lie as the facts say. -/
import Derived.Test.YtcgnlkckgfaomaaTabS
import Derived.Test.YtcgnlkckgfaomaaTabG
namespace Go.Proofs.Ytcgnlkckgfaomaa.TabT
open Go.RowKit Go.Proofs.Ytcgnlkckgfaomaa.Kit Go.Proofs.Ytcgnlkckgfaomaa.NumA Go.Proofs.Ytcgnlkckgfaomaa.NumB Go.Proofs.Ytcgnlkckgfaomaa.Mem Go.Proofs.Ytcgnlkckgfaomaa.TabA Go.Proofs.Ytcgnlkckgfaomaa.TabB Go.Proofs.Ytcgnlkckgfaomaa.TabC Go.Proofs.Ytcgnlkckgfaomaa.TabD Go.Proofs.Ytcgnlkckgfaomaa.TabE Go.Proofs.Ytcgnlkckgfaomaa.TabF Go.Proofs.Ytcgnlkckgfaomaa.TabG Go.Proofs.Ytcgnlkckgfaomaa.TabR Go.Proofs.Ytcgnlkckgfaomaa.TabP Go.Proofs.Ytcgnlkckgfaomaa.TabS

def zeroT : List Value := [.int .i64 0, .slice none 0 0, .slice none 0 0, .slice none 0 0, .int .i64 0]
/-- The reader and the result's box. -/
structure G0 (w : World) (g2 rb : Nat) (s : Rs) (wr : World) : Prop where
  b2 : Blk wr g2 26 zeroT
  st : St wr rb s.1 s.2
  bel : Below w.heap.size w wr
  l2 : w.heap.size ≤ g2
  lr : g2 < rb
  ok : okB s
/-- And the table's box. -/
structure GS (w : World) (g2 gx rb : Nat) (X : Ta) (s : Rs) (wr : World) : Prop where
  g : G0 w g2 rb s wr
  xb : Blk wr gx 26 X.cells
  lx : rb < gx
section
variable {w wr w' w5 : World} {g2 gx rb : Nat} {X : Ta} {s : Rs}
theorem G0.num {k : Nat} (h : G0 w g2 rb s wr) (h1 : St w' rb (rn k s).2.1 (rn k s).2.2) (hg : wr.grownBy w' (some rb)) : G0 w g2 rb (rn k s).2 w' := by
  have l2 := h.l2
  have lr := h.lr
  have k1 : Keep (fun i => i = rb) wr w' := Keep.grown hg fun i hi => by injection hi with hi; exact hi.symm
  exact ⟨k1.blk h.b2 (by show ¬ g2 = rb; omega), h1, h.bel.trans (k1.below (fun i hi => by have : i = rb := hi; omega) h.bel.size), h.l2, h.lr, rn_ok h.ok⟩
theorem G0.step (h : G0 w g2 rb s wr) (hb : Below wr.heap.size wr w') : G0 w g2 rb s w' := ⟨h.b2.below hb, St.below h.st hb, h.bel.trans (hb.mono h.bel.size), h.l2, h.lr, h.ok⟩
theorem G0.keep (h : G0 w g2 rb s wr) (k : Keep (fun i => rb < i) wr w') : G0 w g2 rb s w' := by
  have l2 := h.l2
  have lr := h.lr
  exact ⟨k.blk h.b2 (by show ¬ rb < g2; omega), St.keep h.st k (fun i hi => hi), h.bel.trans (k.below (fun i hi => by have : rb < i := hi; omega) h.bel.size), h.l2, h.lr, h.ok⟩
theorem GS.num {k : Nat} (h : GS w g2 gx rb X s wr) (h1 : St w' rb (rn k s).2.1 (rn k s).2.2) (hg : wr.grownBy w' (some rb)) : GS w g2 gx rb X (rn k s).2 w' := by
  have lx := h.lx
  have k1 : Keep (fun i => i = rb) wr w' := Keep.grown hg fun i hi => by injection hi with hi; exact hi.symm
  exact ⟨h.g.num h1 hg, k1.blk h.xb (by show ¬ gx = rb; omega), h.lx⟩
theorem GS.step (h : GS w g2 gx rb X s wr) (hb : Below wr.heap.size wr w') : GS w g2 gx rb X s w' := ⟨h.g.step hb, h.xb.below hb, h.lx⟩
theorem GS.put (h : GS w g2 gx rb X s wr) (k : Keep (fun i => gx < i) wr w5) (f : Nat) (v : Value) {X' : Ta} (hX : X.cells.set f v = X'.cells) : GS w g2 gx rb X' s (w5.setCell ⟨gx, f, none⟩ v) := by
  have lx := h.lx
  have h5 : G0 w g2 rb s w5 := h.g.keep (k.mono fun i _ hi => by show rb < i; have : gx < i := hi; omega)
  have k2 : Keep (fun i => rb < i) w5 (w5.setCell ⟨gx, f, none⟩ v) := (Keep.set (F := fun i => rb < i) w5 f v lx)
  exact ⟨h5.keep k2, by rw [← hX]; exact (k.blk h.xb (by show ¬ gx < gx; omega)).set f v, h.lx⟩
end
/-- One number, by name. -/
theorem num_v {k : Nat} {x : Int} (hx : wd x = k) {b : Nat} {s s' : Rs} {v : Int} (hr : rn k s = (v, s')) (w : World) (h : St w b s.1 s.2) (ho : okB s) :
    Calls Try.prog 34 #[.pointer (some ⟨b, 0, none⟩), .int .i64 x] w fun e w' => e = .returned (.int .i64 v) ∧ St w' b s'.1 s'.2 ∧ w.grownBy w' (some b) := by
  refine (num_any b x s.1 s.2 w h ho).mono ?_
  rintro e w' ⟨he, hs, hg⟩
  rw [hx] at he hs
  have h1 : (rdN k s.1 s.2).1 = v := by have := congrArg Prod.fst hr; exact this
  have h2 : (rdN k s.1 s.2).2 = s' := by have := congrArg Prod.snd hr; exact this
  exact ⟨by rw [he, h1], by rw [← h2]; exact hs, hg⟩
theorem rn_ex (k : Nat) (s : Rs) : ∃ v s', rn k s = (v, s') := ⟨_, _, rfl⟩
theorem own_keep3 {F : Nat → Prop} {w w' : World} {base n : Nat} {e : TypeId} {v : Value} {xs : List Value} (h : w.ownsRow base e 3 v n xs) (k : Keep F w w') (hF : ∀ i, F i → i < base) : w'.ownsRow base e 3 v n xs :=
  k.own h fun i hi hf => by have := h.lt i hi; have := hF i hf; omega
theorem nil_own (w : World) (base : Nat) (e : TypeId) : w.ownsRow base e 3 (.slice none 0 0) 0 (tcells []) := ⟨by simp [tcells], .inl ⟨rfl, rfl⟩⟩
theorem keep_num {w w' : World} {rb : Nat} (hg : w.grownBy w' (some rb)) : Keep (fun i => i = rb) w w' := Keep.grown hg fun i hi => by injection hi with hi; exact hi.symm

theorem one_tris {w : World} {g : Nat} {ty : TypeId} {r : Tri} (h : Blk w g ty r.cells) (hr : r.ok) : Tris w (some ⟨g, 0, none⟩) 1 1 [r] :=
  Tris.of_blk (R := [r]) (c := 1) (xs := []) (by simpa [tcells] using h) (Nat.le_refl _) (by omega) (by simpa using hr)
theorem own_al {w : World} {v : Value} {base n : Nat} {e : TypeId} {xs : List Value} (h : w.ownsRow base e 3 v n xs) (o : Obj) : (w.alloc o).ownsRow base e 3 v n xs :=
  (Keep.of_below (F := fun _ => False) ((Below.refl _ _).alloc (Nat.le_refl _) o)).own h fun _ _ h => h
theorem rt_eq {k : Nat} {s s1 s2 s3 : Rs} {a b c : Int} (h1 : rn 1 s = (a, s1)) (h2 : rn 1 s1 = (b, s2)) (h3 : rn k s2 = (c, s3)) : rt k s = (⟨a, b, c⟩, s3) := by
  unfold rt
  rw [h1]
  show (({ a := a, b := (rn 1 s1).1, c := (rn k (rn 1 s1).2).1 } : Tri), (rn k (rn 1 s1).2).2) = _
  rw [h2]
  show (({ a := a, b := b, c := (rn k s2).1 } : Tri), (rn k s2).2) = _
  rw [h3]
theorem rm_next {k n : Nat} {s : Rs} {R : List Tri} {t t' : Rs} {r : Tri} (h : rm k n s = (R, t)) (hr : rt k t = (r, t')) : rm k (n + 1) s = (R ++ [r], t') := by
  unfold rm
  rw [h]
  show (R ++ [(rt k t).1], (rt k t).2) = _
  rw [hr]
theorem keep_drew {F : Nat → Prop} (w : World) : Keep F w w.drew := (Keep.refl F w).drew
theorem zero_ok (w : World) : Ta.ok w ⟨0, none, 0, 0, [], none, 0, 0, [], none, 0, 0, [], 0⟩ := ⟨Tris.nil w, Tris.nil w, Tris.nil w, by decide, by decide, by decide, by decide⟩
/-- What Get hands back. -/
def Gets (w : World) (s : Rs) (e : Ending) (w' : World) : Prop :=
  ∃ (t : Ta) (x : Int), e = .returned (.tuple #[t.val, .int .i64 x]) ∧ t.ok w' ∧ Below w.heap.size w w' ∧
    ((endN (sC s).1 (sC s).2 = 0 ∧ (told s).right ∧ x = 0 ∧ t.fr = (told s).fr ∧ t.tr = (told s).tr ∧ t.P = (told s).P ∧ t.W = (told s).W ∧ t.C = (told s).C) ∨
     (¬ (endN (sC s).1 (sC s).2 = 0 ∧ (told s).right) ∧ x = (if endN (sC s).1 (sC s).2 = 0 then 9 else endN (sC s).1 (sC s).2) ∧ t = ⟨0, none, 0, 0, [], none, 0, 0, [], none, 0, 0, [], 0⟩))

set_option maxRecDepth 100000 in
set_option maxHeartbeats 12800000 in
theorem get_any (A : Option Addr) (n c : Nat) (xs : List Int) (w : World) (hx : Rd w A n c (u8s xs)) (h8 : ∀ u ∈ xs, 0 ≤ u ∧ u ≤ 255) (hl : n ≤ 100000) :
    Calls Try.prog 14 #[.slice A n c] w (Gets w (xs, 0)) := by
  have HX := Lib.hid hx
  obtain ⟨s0, hs0⟩ : ∃ s0 : Rs, s0 = (xs, 0) := ⟨_, rfl⟩
  have H8 := Lib.hid (show okB s0 from by rw [hs0]; exact h8)
  rw [← hs0]
  have HS0 := Lib.hid hs0
  clear hx h8 hs0
  go_enter Try.func14, Try.ntmps14
  go_wp2_with fail
  refine (read_any A n c xs _ (HX.out.alloc _) (by omega)).mono ?_
  rintro e w1 ⟨rb, rfl, hrb, hst, hb1⟩
  have hsz : (w.alloc (.cells zeroT.toArray 26)).heap.size = w.heap.size + 1 := by simp
  have HG := Lib.hid (show G0 w w.heap.size rb s0 w1 from ⟨(Blk.new w 26 zeroT).below hb1, by rw [HS0.out]; exact hst, ((Below.refl w.heap.size w).alloc (Nat.le_refl _) _).trans (hb1.mono (by simp)), Nat.le_refl _, by simp at hrb; omega, H8.out⟩)
  obtain ⟨g2, hg2⟩ : ∃ g2, g2 = w.heap.size := ⟨_, rfl⟩
  rw [← hg2] at HG ⊢
  clear hrb hst hb1 hsz hg2
  obtain ⟨v1, t1, hv1⟩ := rn_ex 1 s0
  have Hv1 := Lib.hid hv1
  clear hv1
  go_wp2_with fail
  refine (num_v (x := 1) rfl Hv1.out _ HG.out.st HG.out.ok).mono ?_
  rintro e w2 ⟨rfl, hst, hgr⟩
  have HG1 := Lib.hid (show G0 w g2 rb t1 w2 from by have h := HG.out.num (k := 1) (by rw [Hv1.out]; exact hst) hgr; rw [Hv1.out] at h; exact h)
  clear hst hgr HG
  obtain ⟨v2, t2, hv2⟩ := rn_ex 1 t1
  have Hv2 := Lib.hid hv2
  clear hv2
  go_wp2_with fail
  refine (num_v (x := 1) rfl Hv2.out _ HG1.out.st HG1.out.ok).mono ?_
  rintro e w3 ⟨rfl, hst, hgr⟩
  have HG2 := Lib.hid (show G0 w g2 rb t2 w3 from by have h := HG1.out.num (k := 1) (by rw [Hv2.out]; exact hst) hgr; rw [Hv2.out] at h; exact h)
  clear hst hgr HG1
  have hgx := HG2.out.st.lt
  go_upto_region 3 with (fail)
  have HGS := Lib.hid (show GS w g2 w3.heap.size rb ⟨v1, none, 0, 0, [], none, 0, 0, [], none, 0, 0, [], v2⟩ t2 (w3.alloc (.cells #[.int .i64 v1, .slice none 0 0, .slice none 0 0, .slice none 0 0, .int .i64 v2] 26)) from ⟨HG2.out.step ((Below.refl _ _).alloc (Nat.le_refl _) _), Blk.new w3 26 (Ta.cells ⟨v1, none, 0, 0, [], none, 0, 0, [], none, 0, 0, [], v2⟩), hgx⟩)
  obtain ⟨gx, hgx2⟩ : ∃ gx, gx = w3.heap.size := ⟨_, rfl⟩
  obtain ⟨w4, hw4⟩ : ∃ w4, w4 = w3.alloc (.cells #[.int .i64 v1, .slice none 0 0, .slice none 0 0, .slice none 0 0, .int .i64 v2] 26) := ⟨_, rfl⟩
  rw [← hgx2, ← hw4] at HGS ⊢
  clear hgx hgx2 hw4 HG2
  obtain ⟨v3, t3, hv3⟩ := rn_ex 1 t2
  have Hv3 := Lib.hid hv3
  clear hv3
  go_wp2_with fail
  refine (num_v (x := 1) rfl Hv3.out _ HGS.out.g.st HGS.out.g.ok).mono ?_
  rintro e w5 ⟨rfl, hst, hgr⟩
  have HGS3 := Lib.hid (show GS w g2 gx rb ⟨v1, none, 0, 0, [], none, 0, 0, [], none, 0, 0, [], v2⟩ t3 w5 from by have h := HGS.out.num (k := 1) (by rw [Hv3.out]; exact hst) hgr; rw [Hv3.out] at h; exact h)
  clear hst hgr HGS
  obtain ⟨v4, t4, hv4⟩ := rn_ex 1 t3
  have Hv4 := Lib.hid hv4
  clear hv4
  go_wp2_with fail
  refine (num_v (x := 1) rfl Hv4.out _ HGS3.out.g.st HGS3.out.g.ok).mono ?_
  rintro e w6 ⟨rfl, hst, hgr⟩
  have HGS4 := Lib.hid (show GS w g2 gx rb ⟨v1, none, 0, 0, [], none, 0, 0, [], none, 0, 0, [], v2⟩ t4 w6 from by have h := HGS3.out.num (k := 1) (by rw [Hv4.out]; exact hst) hgr; rw [Hv4.out] at h; exact h)
  clear hst hgr HGS3
  obtain ⟨v5, t5, hv5⟩ := rn_ex 1 t4
  have Hv5 := Lib.hid hv5
  clear hv5
  go_wp2_with fail
  refine (num_v (x := 1) rfl Hv5.out _ HGS4.out.g.st HGS4.out.g.ok).mono ?_
  rintro e w7 ⟨rfl, hst, hgr⟩
  have HGS5 := Lib.hid (show GS w g2 gx rb ⟨v1, none, 0, 0, [], none, 0, 0, [], none, 0, 0, [], v2⟩ t5 w7 from by have h := HGS4.out.num (k := 1) (by rw [Hv5.out]; exact hst) hgr; rw [Hv5.out] at h; exact h)
  clear hst hgr HGS4
  have HO2 := Lib.hid (show okB t2 from by have h := rn_ok (k := 1) (rn_ok (k := 1) H8.out); rw [Hv1.out] at h; rw [Hv2.out] at h; exact h)
  have HO3 := Lib.hid (show okB t3 from by have h := rn_ok (k := 1) HO2.out; rw [Hv3.out] at h; exact h)
  have HO4 := Lib.hid (show okB t4 from by have h := rn_ok (k := 1) HO3.out; rw [Hv4.out] at h; exact h)
  obtain ⟨np, hnp, hnp2⟩ : ∃ np : Nat, v3 = np ∧ np ≤ 255 := by have h := cnt_int HO2.out; rw [Hv3.out] at h; exact ⟨_, h.1, h.2⟩
  obtain ⟨nw, hnw, hnw2⟩ : ∃ nw : Nat, v4 = nw ∧ nw ≤ 255 := by have h := cnt_int HO3.out; rw [Hv4.out] at h; exact ⟨_, h.1, h.2⟩
  obtain ⟨nc, hnc, hnc2⟩ : ∃ nc : Nat, v5 = nc ∧ nc ≤ 255 := by have h := cnt_int HO4.out; rw [Hv5.out] at h; exact ⟨_, h.1, h.2⟩
  subst hnp hnw hnc
  have HE1 := Lib.hid (show (told s0).fr = v1 ∧ (told s0).tr = v2 ∧ s5 s0 = t5 ∧ nP s0 = np ∧ nW s0 = nw ∧ nC s0 = nc from by
    have e2 : s2 s0 = t2 := by unfold s2; rw [Hv1.out]; show (rn 1 t1).2 = t2; rw [Hv2.out]
    refine ⟨by show (rn 1 s0).1 = v1; rw [Hv1.out], by show (rn 1 (rn 1 s0).2).1 = v2; rw [Hv1.out]; show (rn 1 t1).1 = v2; rw [Hv2.out], ?_, ?_, ?_, ?_⟩
    · unfold s5; rw [e2, Hv3.out]; show (rn 1 (rn 1 t3).2).2 = t5; rw [Hv4.out]; show (rn 1 t4).2 = t5; rw [Hv5.out]
    · unfold nP cnt; rw [e2, Hv3.out]; rfl
    · unfold nW cnt; rw [e2, Hv3.out]; show (rn 1 t3).1.toNat = nw; rw [Hv4.out]; rfl
    · unfold nC cnt; rw [e2, Hv3.out]; show (rn 1 (rn 1 t3).2).1.toNat = nc; rw [Hv4.out]; show (rn 1 t4).1.toNat = nc; rw [Hv5.out]; rfl)
  have hB1 := HGS5.out.xb.lt
  go_wp2_with fail
  obtain ⟨ic, hic, hiz, his, hib⟩ := Go.Proofs.Ytcgnlkckgfaomaa.TabF.info_of info_prt
  obtain ⟨wS, rfl⟩ : ∃ wS : World, wS = w7 := ⟨_, rfl⟩
  have hgB : gx < wS.heap.size := HGS5.out.xb.lt
  go_loopw [24] (fun i wr => ∃ (k : Nat) (A' : Option Addr) (n' c' : Nat) (R : List Tri) (s : Rs), k ≤ np ∧ i = .int .i64 k ∧ Hid (n' = k) ∧ Hid (rm 2 k t5 = (R, s)) ∧ Hid (wr.ownsRow wS.heap.size 57 3 (.slice A' n' c') n' (tcells R)) ∧ Hid (GS w g2 gx rb ⟨v1, A', n', c', R, none, 0, 0, [], none, 0, 0, [], v2⟩ s wr) ∧ Hid (Keep (fun i => i = rb ∨ i = gx) wS wr)) (fun i _ => np - (intOf i).toNat)
  case atStart => exact ⟨0, none, 0, 0, [], t5, Nat.zero_le _, rfl, Lib.hid rfl, Lib.hid rfl, Lib.hid (nil_own _ _ _), HGS5, Lib.hid (Keep.refl _ _)⟩
  case round =>
    obtain ⟨k, A', n', c', R, s, hk, rfl, hn', HRM, HOW, HGr, HKP⟩ := hrel
    by_cases hlt : k < np
    · obtain ⟨a1, s1, ha1⟩ := rn_ex 1 s
      obtain ⟨a2, s2', ha2⟩ := rn_ex 1 s1
      obtain ⟨a3, s3, ha3⟩ := rn_ex 2 s2'
      have Ha1 := Lib.hid ha1
      have Ha2 := Lib.hid ha2
      have Ha3 := Lib.hid ha3
      have HRT := Lib.hid (rt_eq ha1 ha2 ha3)
      have HRN := Lib.hid (rm_next HRM.out HRT.out)
      have HTO := Lib.hid (show Tri.ok ⟨a1, a2, a3⟩ from by have h := rt_tri (k := 2) (.inr rfl) HGr.out.g.ok; rw [HRT.out] at h; exact h)
      have hlx := HGr.out.lx
      have hgw : gx < wr.heap.size := HGr.out.xb.lt
      have hBr : wS.heap.size ≤ wr.heap.size := HKP.out.size
      have hnk : n' ≤ 255 := by have := hn'.out; omega
      have x1 : wr.cell? ⟨gx, 1, none⟩ = some (.slice A' n' c') := HGr.out.xb.cell rfl
      clear ha1 ha2 ha3
      go_wp2_with fail
      go_region_law
        (first
         | (rw [if_pos (by rfl)]; have hq2 := HG3'; clear hq2; refine wp_add3 (.tmp 27) (.tmp 35) 22 rfl wS.heap.size 57 ic _ 24 Try.underlying22 hic hiz his hib rfl (.slice A' n' c') n' _ rfl (own_al HO3'.out (.cells #[.int .i64 a1, .int .i64 a2, .int .i64 a3] 57)) (some ⟨w3'.heap.size, 0, none⟩) 1 1 [⟨a1, a2, a3⟩] rfl (one_tris (Blk.new w3' 57 (Tri.cells ⟨a1, a2, a3⟩)) HTO.out) (by omega) (by omega) (by have := HK3'.out.size; simp; omega) ?_; intro A5 n5 c5 w5 hn5 hown5 hg5; have HK5 := Lib.hid (show Keep (fun i => wS.heap.size ≤ i) w3' w5 from (Keep.of_below (F := fun i => wS.heap.size ≤ i) ((Below.refl _ _).alloc (Nat.le_refl _) (.cells #[.int .i64 a1, .int .i64 a2, .int .i64 a3] 57))).trans (Keep.grown (F := fun i => wS.heap.size ≤ i) hg5 (fun i hi => (own_al HO3'.out (.cells #[.int .i64 a1, .int .i64 a2, .int .i64 a3] 57)).lt i hi |>.1)) (fun _ h => .inl h)); have f5 := (HK5.out.blk HG3'.out.xb (by show ¬ wS.heap.size ≤ gx; omega)).frozen 1; have k5 : w5.cell? ⟨gx, 1, none⟩ = some (.slice A' n' c') := (HK5.out.blk HG3'.out.xb (by show ¬ wS.heap.size ≤ gx; omega)).cell rfl; clear hg5)
         | (rw [if_pos (by rfl)]; go_simp; have hq2 := HG2'; clear hq2; refine (num_v (x := 2) rfl Ha3.out w2' HG2'.out.g.st HG2'.out.g.ok).mono ?_; rintro e w3' ⟨rfl, hst1, hgr1⟩; have HG3' := Lib.hid (show GS w g2 gx rb ⟨v1, A', n', c', R, none, 0, 0, [], none, 0, 0, [], v2⟩ s3 w3' from by have h := HG2'.out.num (k := 2) (by rw [Ha3.out]; exact hst1) hgr1; rw [Ha3.out] at h; exact h); have c3' : w3'.cell? ⟨gx, 1, none⟩ = some (.slice A' n' c') := HG3'.out.xb.cell rfl; have l3' : gx < w3'.heap.size := HG3'.out.xb.lt; have HK3' := Lib.hid (show Keep (fun i => i = rb) wr w3' from HK2'.out.trans (keep_num hgr1) (fun _ h => .inl h)); have HO3' := Lib.hid (own_keep3 HOW.out HK3'.out (fun i hi => by have : i = rb := hi; omega)); clear hst1 hgr1; go_wp2_with fail)
         | (rw [if_pos (by rfl)]; go_simp; have hq2 := HG1'; clear hq2; refine (num_v (x := 1) rfl Ha2.out w1' HG1'.out.g.st HG1'.out.g.ok).mono ?_; rintro e w2' ⟨rfl, hst1, hgr1⟩; have HG2' := Lib.hid (show GS w g2 gx rb ⟨v1, A', n', c', R, none, 0, 0, [], none, 0, 0, [], v2⟩ s2' w2' from by have h := HG1'.out.num (k := 1) (by rw [Ha2.out]; exact hst1) hgr1; rw [Ha2.out] at h; exact h); have c2' : w2'.cell? ⟨gx, 1, none⟩ = some (.slice A' n' c') := HG2'.out.xb.cell rfl; have HK2' := Lib.hid (show Keep (fun i => i = rb) wr w2' from HK1'.out.trans (keep_num hgr1) (fun _ h => .inl h)); clear hst1 hgr1; go_wp2_with fail)
         | (rw [if_pos (by rfl)]; go_simp; refine (num_v (x := 1) rfl Ha1.out wr.drew (HGr.out.step (Below.refl _ _).drew).g.st HGr.out.g.ok).mono ?_; rintro e w1' ⟨rfl, hst1, hgr1⟩; have HG1' := Lib.hid (show GS w g2 gx rb ⟨v1, A', n', c', R, none, 0, 0, [], none, 0, 0, [], v2⟩ s1 w1' from by have h := (HGr.out.step (Below.refl _ _).drew).num (k := 1) (by rw [Ha1.out]; exact hst1) hgr1; rw [Ha1.out] at h; exact h); have c1' : w1'.cell? ⟨gx, 1, none⟩ = some (.slice A' n' c') := HG1'.out.xb.cell rfl; have HK1' := Lib.hid (show Keep (fun i => i = rb) wr w1' from (keep_drew wr).trans (keep_num hgr1) (fun _ h => .inl h)); clear hst1 hgr1; go_wp2_with fail))
      all_goals
        have h5 := hown5.out
        rw [← tcells_app] at h5
        have kset : Keep (fun i => i = gx) w5 (w5.setCell ⟨gx, 1, none⟩ (.slice A5 n5 c5)) := Keep.set w5 1 _ rfl
        have HN := Lib.hid (show GS w g2 gx rb ⟨v1, A5, n5, c5, (R ++ [⟨a1, a2, a3⟩]), none, 0, 0, [], none, 0, 0, [], v2⟩ s3 (w5.setCell ⟨gx, 1, none⟩ (.slice A5 n5 c5)) from HG3'.out.put (HK5.out.mono (fun i _ hi => by show gx < i; have : wS.heap.size ≤ i := hi; omega)) 1 _ rfl)
        have HON := Lib.hid (own_keep3 h5 kset (fun i hi => by have : i = gx := hi; omega))
        have HKN := Lib.hid (((HKP.out.trans HK3'.out (fun i h => .inl (.inl h))).trans HK5.out (fun i h => .inr h)).trans kset (fun i h => .inl (.inr h)))
        have HNN := Lib.hid (show n5 = k + 1 from by have := hn5.out; have := hn'.out; omega)
        clear h5 kset f5 k5 c1' c2' c3' l3' hown5 hn5 HK5 HG1' HG2' HG3' HK1' HK2' HK3' HO3'
        go_wp2_with fail
        go_roundw
        case rel => exact ⟨k + 1, A5, n5, c5, R ++ [⟨a1, a2, a3⟩], s3, by omega, by go_num, HNN, HRN, HON, HN, HKN⟩
        case measure => simp [intOf]; omega
    · obtain rfl : np = k := by omega
      obtain ⟨AP, rfl⟩ : ∃ AP, AP = A' := ⟨_, rfl⟩
      obtain ⟨nP', rfl⟩ : ∃ nP', nP' = n' := ⟨_, rfl⟩
      obtain ⟨cP', rfl⟩ : ∃ cP', cP' = c' := ⟨_, rfl⟩
      obtain ⟨RP, rfl⟩ : ∃ RP, RP = R := ⟨_, rfl⟩
      obtain ⟨sP', rfl⟩ : ∃ sP', sP' = s := ⟨_, rfl⟩
      have HRMP := HRM
      have HGrP := HGr
      have HTRP := Lib.hid (show Tris wr AP nP' cP' RP from Tris.of_own HOW.out (by have h := rm_tri (k := 2) (.inr rfl) np HGS5.out.g.ok; rw [HRM.out] at h; exact h))
      have HOAP := Lib.hid (show off rb nP' AP from off_own HOW.out (by have := HGr.out.lx; omega))
      have HOBP := Lib.hid (show off gx nP' AP from off_own HOW.out hgB)
      have HOGP := Lib.hid (show off g2 nP' AP from off_own HOW.out (by have := HGr.out.lx; have := HGr.out.g.lr; omega))
      have HKPP := HKP
      clear HRM HGr HOW HKP hn'
      go_wp2_with fail
      obtain ⟨ic, hic, hiz, his, hib⟩ := Go.Proofs.Ytcgnlkckgfaomaa.TabF.info_of info_win
      obtain ⟨wS, rfl⟩ : ∃ wS : World, wS = wr := ⟨_, rfl⟩
      have hgB : gx < wS.heap.size := HGrP.out.xb.lt
      go_loopw [40] (fun i wr => ∃ (k : Nat) (A' : Option Addr) (n' c' : Nat) (R : List Tri) (s : Rs), k ≤ nw ∧ i = .int .i64 k ∧ Hid (n' = k) ∧ Hid (rm 1 k sP' = (R, s)) ∧ Hid (wr.ownsRow wS.heap.size 46 3 (.slice A' n' c') n' (tcells R)) ∧ Hid (GS w g2 gx rb ⟨v1, AP, nP', cP', RP, A', n', c', R, none, 0, 0, [], v2⟩ s wr) ∧ Hid (Keep (fun i => i = rb ∨ i = gx) wS wr)) (fun i _ => nw - (intOf i).toNat)
      case atStart => exact ⟨0, none, 0, 0, [], sP', Nat.zero_le _, rfl, Lib.hid rfl, Lib.hid rfl, Lib.hid (nil_own _ _ _), HGrP, Lib.hid (Keep.refl _ _)⟩
      case round =>
        obtain ⟨k, A', n', c', R, s, hk, rfl, hn', HRM, HOW, HGr, HKP⟩ := hrel
        by_cases hlt : k < nw
        · obtain ⟨a1, s1, ha1⟩ := rn_ex 1 s
          obtain ⟨a2, s2', ha2⟩ := rn_ex 1 s1
          obtain ⟨a3, s3, ha3⟩ := rn_ex 1 s2'
          have Ha1 := Lib.hid ha1
          have Ha2 := Lib.hid ha2
          have Ha3 := Lib.hid ha3
          have HRT := Lib.hid (rt_eq ha1 ha2 ha3)
          have HRN := Lib.hid (rm_next HRM.out HRT.out)
          have HTO := Lib.hid (show Tri.ok ⟨a1, a2, a3⟩ from by have h := rt_tri (k := 1) (.inl rfl) HGr.out.g.ok; rw [HRT.out] at h; exact h)
          have hlx := HGr.out.lx
          have hgw : gx < wr.heap.size := HGr.out.xb.lt
          have hBr : wS.heap.size ≤ wr.heap.size := HKP.out.size
          have hnk : n' ≤ 255 := by have := hn'.out; omega
          have x2 : wr.cell? ⟨gx, 2, none⟩ = some (.slice A' n' c') := HGr.out.xb.cell rfl
          clear ha1 ha2 ha3
          go_wp2_with fail
          go_region_law
            (first
             | (rw [if_pos (by rfl)]; have hq2 := HG3'; clear hq2; refine wp_add3 (.tmp 43) (.tmp 51) 23 rfl wS.heap.size 46 ic _ 24 Try.underlying23 hic hiz his hib rfl (.slice A' n' c') n' _ rfl (own_al HO3'.out (.cells #[.int .i64 a1, .int .i64 a2, .int .i64 a3] 46)) (some ⟨w3'.heap.size, 0, none⟩) 1 1 [⟨a1, a2, a3⟩] rfl (one_tris (Blk.new w3' 46 (Tri.cells ⟨a1, a2, a3⟩)) HTO.out) (by omega) (by omega) (by have := HK3'.out.size; simp; omega) ?_; intro A5 n5 c5 w5 hn5 hown5 hg5; have HK5 := Lib.hid (show Keep (fun i => wS.heap.size ≤ i) w3' w5 from (Keep.of_below (F := fun i => wS.heap.size ≤ i) ((Below.refl _ _).alloc (Nat.le_refl _) (.cells #[.int .i64 a1, .int .i64 a2, .int .i64 a3] 46))).trans (Keep.grown (F := fun i => wS.heap.size ≤ i) hg5 (fun i hi => (own_al HO3'.out (.cells #[.int .i64 a1, .int .i64 a2, .int .i64 a3] 46)).lt i hi |>.1)) (fun _ h => .inl h)); have f5 := (HK5.out.blk HG3'.out.xb (by show ¬ wS.heap.size ≤ gx; omega)).frozen 2; have k5 : w5.cell? ⟨gx, 2, none⟩ = some (.slice A' n' c') := (HK5.out.blk HG3'.out.xb (by show ¬ wS.heap.size ≤ gx; omega)).cell rfl; clear hg5)
             | (rw [if_pos (by rfl)]; go_simp; have hq2 := HG2'; clear hq2; refine (num_v (x := 1) rfl Ha3.out w2' HG2'.out.g.st HG2'.out.g.ok).mono ?_; rintro e w3' ⟨rfl, hst1, hgr1⟩; have HG3' := Lib.hid (show GS w g2 gx rb ⟨v1, AP, nP', cP', RP, A', n', c', R, none, 0, 0, [], v2⟩ s3 w3' from by have h := HG2'.out.num (k := 1) (by rw [Ha3.out]; exact hst1) hgr1; rw [Ha3.out] at h; exact h); have c3' : w3'.cell? ⟨gx, 2, none⟩ = some (.slice A' n' c') := HG3'.out.xb.cell rfl; have l3' : gx < w3'.heap.size := HG3'.out.xb.lt; have HK3' := Lib.hid (show Keep (fun i => i = rb) wr w3' from HK2'.out.trans (keep_num hgr1) (fun _ h => .inl h)); have HO3' := Lib.hid (own_keep3 HOW.out HK3'.out (fun i hi => by have : i = rb := hi; omega)); clear hst1 hgr1; go_wp2_with fail)
             | (rw [if_pos (by rfl)]; go_simp; have hq2 := HG1'; clear hq2; refine (num_v (x := 1) rfl Ha2.out w1' HG1'.out.g.st HG1'.out.g.ok).mono ?_; rintro e w2' ⟨rfl, hst1, hgr1⟩; have HG2' := Lib.hid (show GS w g2 gx rb ⟨v1, AP, nP', cP', RP, A', n', c', R, none, 0, 0, [], v2⟩ s2' w2' from by have h := HG1'.out.num (k := 1) (by rw [Ha2.out]; exact hst1) hgr1; rw [Ha2.out] at h; exact h); have c2' : w2'.cell? ⟨gx, 2, none⟩ = some (.slice A' n' c') := HG2'.out.xb.cell rfl; have HK2' := Lib.hid (show Keep (fun i => i = rb) wr w2' from HK1'.out.trans (keep_num hgr1) (fun _ h => .inl h)); clear hst1 hgr1; go_wp2_with fail)
             | (rw [if_pos (by rfl)]; go_simp; refine (num_v (x := 1) rfl Ha1.out wr.drew (HGr.out.step (Below.refl _ _).drew).g.st HGr.out.g.ok).mono ?_; rintro e w1' ⟨rfl, hst1, hgr1⟩; have HG1' := Lib.hid (show GS w g2 gx rb ⟨v1, AP, nP', cP', RP, A', n', c', R, none, 0, 0, [], v2⟩ s1 w1' from by have h := (HGr.out.step (Below.refl _ _).drew).num (k := 1) (by rw [Ha1.out]; exact hst1) hgr1; rw [Ha1.out] at h; exact h); have c1' : w1'.cell? ⟨gx, 2, none⟩ = some (.slice A' n' c') := HG1'.out.xb.cell rfl; have HK1' := Lib.hid (show Keep (fun i => i = rb) wr w1' from (keep_drew wr).trans (keep_num hgr1) (fun _ h => .inl h)); clear hst1 hgr1; go_wp2_with fail))
          all_goals
            have h5 := hown5.out
            rw [← tcells_app] at h5
            have kset : Keep (fun i => i = gx) w5 (w5.setCell ⟨gx, 2, none⟩ (.slice A5 n5 c5)) := Keep.set w5 2 _ rfl
            have HN := Lib.hid (show GS w g2 gx rb ⟨v1, AP, nP', cP', RP, A5, n5, c5, (R ++ [⟨a1, a2, a3⟩]), none, 0, 0, [], v2⟩ s3 (w5.setCell ⟨gx, 2, none⟩ (.slice A5 n5 c5)) from HG3'.out.put (HK5.out.mono (fun i _ hi => by show gx < i; have : wS.heap.size ≤ i := hi; omega)) 2 _ rfl)
            have HON := Lib.hid (own_keep3 h5 kset (fun i hi => by have : i = gx := hi; omega))
            have HKN := Lib.hid (((HKP.out.trans HK3'.out (fun i h => .inl (.inl h))).trans HK5.out (fun i h => .inr h)).trans kset (fun i h => .inl (.inr h)))
            have HNN := Lib.hid (show n5 = k + 1 from by have := hn5.out; have := hn'.out; omega)
            clear h5 kset f5 k5 c1' c2' c3' l3' hown5 hn5 HK5 HG1' HG2' HG3' HK1' HK2' HK3' HO3'
            go_wp2_with fail
            go_roundw
            case rel => exact ⟨k + 1, A5, n5, c5, R ++ [⟨a1, a2, a3⟩], s3, by omega, by go_num, HNN, HRN, HON, HN, HKN⟩
            case measure => simp [intOf]; omega
        · obtain rfl : nw = k := by omega
          obtain ⟨AW, rfl⟩ : ∃ AW, AW = A' := ⟨_, rfl⟩
          obtain ⟨nW', rfl⟩ : ∃ nW', nW' = n' := ⟨_, rfl⟩
          obtain ⟨cW', rfl⟩ : ∃ cW', cW' = c' := ⟨_, rfl⟩
          obtain ⟨RW, rfl⟩ : ∃ RW, RW = R := ⟨_, rfl⟩
          obtain ⟨sW', rfl⟩ : ∃ sW', sW' = s := ⟨_, rfl⟩
          have HRMW := HRM
          have HGrW := HGr
          have HTRW := Lib.hid (show Tris wr AW nW' cW' RW from Tris.of_own HOW.out (by have h := rm_tri (k := 1) (.inl rfl) nw HGrP.out.g.ok; rw [HRM.out] at h; exact h))
          have HOAW := Lib.hid (show off rb nW' AW from off_own HOW.out (by have := HGr.out.lx; omega))
          have HOBW := Lib.hid (show off gx nW' AW from off_own HOW.out hgB)
          have HOGW := Lib.hid (show off g2 nW' AW from off_own HOW.out (by have := HGr.out.lx; have := HGr.out.g.lr; omega))
          have HKPW := HKP
          clear HRM HGr HOW HKP hn'
          have HTP2 := Lib.hid (tris_keep HTRP.out HKPW.out (fun hp b' o' hA h => Or.elim h (HOAP.out hp b' o' hA) (HOBP.out hp b' o' hA)))
          go_wp2_with fail
          obtain ⟨ic, hic, hiz, his, hib⟩ := Go.Proofs.Ytcgnlkckgfaomaa.TabF.info_of info_chan
          obtain ⟨wS, rfl⟩ : ∃ wS : World, wS = wr := ⟨_, rfl⟩
          have hgB : gx < wS.heap.size := HGrW.out.xb.lt
          go_loopw [56] (fun i wr => ∃ (k : Nat) (A' : Option Addr) (n' c' : Nat) (R : List Tri) (s : Rs), k ≤ nc ∧ i = .int .i64 k ∧ Hid (n' = k) ∧ Hid (rm 1 k sW' = (R, s)) ∧ Hid (wr.ownsRow wS.heap.size 51 3 (.slice A' n' c') n' (tcells R)) ∧ Hid (GS w g2 gx rb ⟨v1, AP, nP', cP', RP, AW, nW', cW', RW, A', n', c', R, v2⟩ s wr) ∧ Hid (Keep (fun i => i = rb ∨ i = gx) wS wr)) (fun i _ => nc - (intOf i).toNat)
          case atStart => exact ⟨0, none, 0, 0, [], sW', Nat.zero_le _, rfl, Lib.hid rfl, Lib.hid rfl, Lib.hid (nil_own _ _ _), HGrW, Lib.hid (Keep.refl _ _)⟩
          case round =>
            obtain ⟨k, A', n', c', R, s, hk, rfl, hn', HRM, HOW, HGr, HKP⟩ := hrel
            by_cases hlt : k < nc
            · obtain ⟨a1, s1, ha1⟩ := rn_ex 1 s
              obtain ⟨a2, s2', ha2⟩ := rn_ex 1 s1
              obtain ⟨a3, s3, ha3⟩ := rn_ex 1 s2'
              have Ha1 := Lib.hid ha1
              have Ha2 := Lib.hid ha2
              have Ha3 := Lib.hid ha3
              have HRT := Lib.hid (rt_eq ha1 ha2 ha3)
              have HRN := Lib.hid (rm_next HRM.out HRT.out)
              have HTO := Lib.hid (show Tri.ok ⟨a1, a2, a3⟩ from by have h := rt_tri (k := 1) (.inl rfl) HGr.out.g.ok; rw [HRT.out] at h; exact h)
              have hlx := HGr.out.lx
              have hgw : gx < wr.heap.size := HGr.out.xb.lt
              have hBr : wS.heap.size ≤ wr.heap.size := HKP.out.size
              have hnk : n' ≤ 255 := by have := hn'.out; omega
              have x3 : wr.cell? ⟨gx, 3, none⟩ = some (.slice A' n' c') := HGr.out.xb.cell rfl
              clear ha1 ha2 ha3
              go_wp2_with fail
              go_region_law
                (first
                 | (rw [if_pos (by rfl)]; have hq2 := HG3'; clear hq2; refine wp_add3 (.tmp 59) (.tmp 67) 24 rfl wS.heap.size 51 ic _ 24 Try.underlying24 hic hiz his hib rfl (.slice A' n' c') n' _ rfl (own_al HO3'.out (.cells #[.int .i64 a1, .int .i64 a2, .int .i64 a3] 51)) (some ⟨w3'.heap.size, 0, none⟩) 1 1 [⟨a1, a2, a3⟩] rfl (one_tris (Blk.new w3' 51 (Tri.cells ⟨a1, a2, a3⟩)) HTO.out) (by omega) (by omega) (by have := HK3'.out.size; simp; omega) ?_; intro A5 n5 c5 w5 hn5 hown5 hg5; have HK5 := Lib.hid (show Keep (fun i => wS.heap.size ≤ i) w3' w5 from (Keep.of_below (F := fun i => wS.heap.size ≤ i) ((Below.refl _ _).alloc (Nat.le_refl _) (.cells #[.int .i64 a1, .int .i64 a2, .int .i64 a3] 51))).trans (Keep.grown (F := fun i => wS.heap.size ≤ i) hg5 (fun i hi => (own_al HO3'.out (.cells #[.int .i64 a1, .int .i64 a2, .int .i64 a3] 51)).lt i hi |>.1)) (fun _ h => .inl h)); have f5 := (HK5.out.blk HG3'.out.xb (by show ¬ wS.heap.size ≤ gx; omega)).frozen 3; have k5 : w5.cell? ⟨gx, 3, none⟩ = some (.slice A' n' c') := (HK5.out.blk HG3'.out.xb (by show ¬ wS.heap.size ≤ gx; omega)).cell rfl; clear hg5)
                 | (rw [if_pos (by rfl)]; go_simp; have hq2 := HG2'; clear hq2; refine (num_v (x := 1) rfl Ha3.out w2' HG2'.out.g.st HG2'.out.g.ok).mono ?_; rintro e w3' ⟨rfl, hst1, hgr1⟩; have HG3' := Lib.hid (show GS w g2 gx rb ⟨v1, AP, nP', cP', RP, AW, nW', cW', RW, A', n', c', R, v2⟩ s3 w3' from by have h := HG2'.out.num (k := 1) (by rw [Ha3.out]; exact hst1) hgr1; rw [Ha3.out] at h; exact h); have c3' : w3'.cell? ⟨gx, 3, none⟩ = some (.slice A' n' c') := HG3'.out.xb.cell rfl; have l3' : gx < w3'.heap.size := HG3'.out.xb.lt; have HK3' := Lib.hid (show Keep (fun i => i = rb) wr w3' from HK2'.out.trans (keep_num hgr1) (fun _ h => .inl h)); have HO3' := Lib.hid (own_keep3 HOW.out HK3'.out (fun i hi => by have : i = rb := hi; omega)); clear hst1 hgr1; go_wp2_with fail)
                 | (rw [if_pos (by rfl)]; go_simp; have hq2 := HG1'; clear hq2; refine (num_v (x := 1) rfl Ha2.out w1' HG1'.out.g.st HG1'.out.g.ok).mono ?_; rintro e w2' ⟨rfl, hst1, hgr1⟩; have HG2' := Lib.hid (show GS w g2 gx rb ⟨v1, AP, nP', cP', RP, AW, nW', cW', RW, A', n', c', R, v2⟩ s2' w2' from by have h := HG1'.out.num (k := 1) (by rw [Ha2.out]; exact hst1) hgr1; rw [Ha2.out] at h; exact h); have c2' : w2'.cell? ⟨gx, 3, none⟩ = some (.slice A' n' c') := HG2'.out.xb.cell rfl; have HK2' := Lib.hid (show Keep (fun i => i = rb) wr w2' from HK1'.out.trans (keep_num hgr1) (fun _ h => .inl h)); clear hst1 hgr1; go_wp2_with fail)
                 | (rw [if_pos (by rfl)]; go_simp; refine (num_v (x := 1) rfl Ha1.out wr.drew (HGr.out.step (Below.refl _ _).drew).g.st HGr.out.g.ok).mono ?_; rintro e w1' ⟨rfl, hst1, hgr1⟩; have HG1' := Lib.hid (show GS w g2 gx rb ⟨v1, AP, nP', cP', RP, AW, nW', cW', RW, A', n', c', R, v2⟩ s1 w1' from by have h := (HGr.out.step (Below.refl _ _).drew).num (k := 1) (by rw [Ha1.out]; exact hst1) hgr1; rw [Ha1.out] at h; exact h); have c1' : w1'.cell? ⟨gx, 3, none⟩ = some (.slice A' n' c') := HG1'.out.xb.cell rfl; have HK1' := Lib.hid (show Keep (fun i => i = rb) wr w1' from (keep_drew wr).trans (keep_num hgr1) (fun _ h => .inl h)); clear hst1 hgr1; go_wp2_with fail))
              all_goals
                have h5 := hown5.out
                rw [← tcells_app] at h5
                have kset : Keep (fun i => i = gx) w5 (w5.setCell ⟨gx, 3, none⟩ (.slice A5 n5 c5)) := Keep.set w5 3 _ rfl
                have HN := Lib.hid (show GS w g2 gx rb ⟨v1, AP, nP', cP', RP, AW, nW', cW', RW, A5, n5, c5, (R ++ [⟨a1, a2, a3⟩]), v2⟩ s3 (w5.setCell ⟨gx, 3, none⟩ (.slice A5 n5 c5)) from HG3'.out.put (HK5.out.mono (fun i _ hi => by show gx < i; have : wS.heap.size ≤ i := hi; omega)) 3 _ rfl)
                have HON := Lib.hid (own_keep3 h5 kset (fun i hi => by have : i = gx := hi; omega))
                have HKN := Lib.hid (((HKP.out.trans HK3'.out (fun i h => .inl (.inl h))).trans HK5.out (fun i h => .inr h)).trans kset (fun i h => .inl (.inr h)))
                have HNN := Lib.hid (show n5 = k + 1 from by have := hn5.out; have := hn'.out; omega)
                clear h5 kset f5 k5 c1' c2' c3' l3' hown5 hn5 HK5 HG1' HG2' HG3' HK1' HK2' HK3' HO3'
                go_wp2_with fail
                go_roundw
                case rel => exact ⟨k + 1, A5, n5, c5, R ++ [⟨a1, a2, a3⟩], s3, by omega, by go_num, HNN, HRN, HON, HN, HKN⟩
                case measure => simp [intOf]; omega
            · obtain rfl : nc = k := by omega
              obtain ⟨AC, rfl⟩ : ∃ AC, AC = A' := ⟨_, rfl⟩
              obtain ⟨nC', rfl⟩ : ∃ nC', nC' = n' := ⟨_, rfl⟩
              obtain ⟨cC', rfl⟩ : ∃ cC', cC' = c' := ⟨_, rfl⟩
              obtain ⟨RC, rfl⟩ : ∃ RC, RC = R := ⟨_, rfl⟩
              obtain ⟨sC', rfl⟩ : ∃ sC', sC' = s := ⟨_, rfl⟩
              have HRMC := HRM
              have HGrC := HGr
              have HTRC := Lib.hid (show Tris wr AC nC' cC' RC from Tris.of_own HOW.out (by have h := rm_tri (k := 1) (.inl rfl) nc HGrW.out.g.ok; rw [HRM.out] at h; exact h))
              have HOAC := Lib.hid (show off rb nC' AC from off_own HOW.out (by have := HGr.out.lx; omega))
              have HOBC := Lib.hid (show off gx nC' AC from off_own HOW.out hgB)
              have HOGC := Lib.hid (show off g2 nC' AC from off_own HOW.out (by have := HGr.out.lx; have := HGr.out.g.lr; omega))
              have HKPC := HKP
              clear HRM HGr HOW HKP hn'
              have HTP3 := Lib.hid (tris_keep HTP2.out HKPC.out (fun hp b' o' hA h => Or.elim h (HOAP.out hp b' o' hA) (HOBP.out hp b' o' hA)))
              have HTW3 := Lib.hid (tris_keep HTRW.out HKPC.out (fun hp b' o' hA h => Or.elim h (HOAW.out hp b' o' hA) (HOBW.out hp b' o' hA)))
              go_wp2_with fail
              have HTO := Lib.hid (show told s0 = ⟨v1, v2, RP, RW, RC⟩ ∧ sC s0 = sC' from by
                obtain ⟨f1, f2, f3, f4, f5, f6⟩ := HE1.out
                have f1 : (rn 1 s0).1 = v1 := f1
                have f2 : (rn 1 (rn 1 s0).2).1 = v2 := f2
                have e1 : rm 2 (nP s0) (s5 s0) = (RP, sP') := by rw [f4, f3]; exact HRMP.out
                have e2 : sP s0 = sP' := by unfold sP; rw [e1]
                have e3 : rm 1 (nW s0) (sP s0) = (RW, sW') := by rw [f5, e2]; exact HRMW.out
                have e4 : sW s0 = sW' := by unfold sW; rw [e3]
                have e5 : rm 1 (nC s0) (sW s0) = (RC, sC') := by rw [f6, e4]; exact HRMC.out
                have e6 : sC s0 = sC' := by unfold sC; rw [e5]
                refine ⟨?_, e6⟩
                unfold told
                rw [e1, e3, e5, f1, f2])
              have HBD := Lib.hid (show (0 ≤ v1 ∧ v1 < 256) ∧ (0 ≤ v2 ∧ v2 < 256) from by
                have e1 : (256 : Int) ^ 1 = 256 := by decide
                have h1 := rn_bd (k := 1) (.inl rfl) H8.out
                have h2 := rn_bd (k := 1) (.inl rfl) (rn_ok (k := 1) H8.out)
                rw [Hv1.out] at h1 h2
                rw [Hv2.out] at h2
                rw [e1] at h1 h2
                exact ⟨h1, h2⟩)
              have HOK := Lib.hid (show Ta.ok wr ⟨v1, AP, nP', cP', RP, AW, nW', cW', RW, AC, nC', cC', RC, v2⟩ from ⟨HTP3.out, HTW3.out, HTRC.out, by have := HBD.out.1.1; show _ ≤ v1; omega, by have := HBD.out.1.2; show v1 ≤ _; omega, by have := HBD.out.2.1; show _ ≤ v2; omega, by have := HBD.out.2.2; show v2 ≤ _; omega⟩)
              clear HTP3 HTW3 HTRC HRMP HRMW HRMC HE1 Hv1 Hv2 Hv3 Hv4 Hv5 HKPP HKPW HKPC HTRP HTP2 HTRW H8 HBD
              refine (end_any _ _ _ _ HGrC.out.g.st).mono ?_
              rintro e w9 ⟨rfl, rfl⟩
              have HEN := Lib.hid (show endN (sC s0).1 (sC s0).2 = endN sC'.1 sC'.2 from by rw [HTO.out.2])
              obtain ⟨en, hen⟩ : ∃ en, en = endN sC'.1 sC'.2 := ⟨_, rfl⟩
              rw [← hen] at HEN ⊢
              clear hen
              by_cases hz : en = 0
              · subst hz
                obtain ⟨br, hbr⟩ := bool_of (TOk v1 v2 RP RW RC)
                have HBR := Lib.hid hbr
                clear hbr
                go_wp2_with (first
                 | (refine wpList_load_blk rfl 26 _ rfl gx rfl HGrC.out.xb Try.underlying26 rfl size_table ?_))
                refine (right_any ⟨v1, AP, nP', cP', RP, AW, nW', cW', RW, AC, nC', cC', RC, v2⟩ wr HOK.out br HBR.out).mono ?_
                rintro e w8 ⟨rfl, hb8⟩
                have HG8 := Lib.hid (HGrC.out.step hb8)
                have HOK8 := Lib.hid (HOK.out.below hb8)
                clear hb8 HOK
                cases br with
                | true =>
                  have HR := Lib.hid (HBR.out.1 rfl)
                  clear HBR
                  go_wp2_with (first
                   | (refine wpList_load_blk rfl 26 _ rfl gx rfl HG8.out.xb Try.underlying26 rfl size_table ?_)
                   | (refine wpList_store_blk rfl 26 (.tmp 2) (.tmp 81) rfl g2 rfl (Ta.cells ⟨v1, AP, nP', cP', RP, AW, nW', cW', RW, AC, nC', cC', RC, v2⟩) rfl HG8.out.g.b2 rfl size_table (by intro u hu; simp [zeroT, Ta.cells] at hu; rcases hu with rfl | rfl | rfl | rfl | rfl <;> rfl) ?_; intro w9 hB9 ho9))
                  have e0 := hB9.out.cell (i := 0) rfl
                  have e1 := hB9.out.cell (i := 1) rfl
                  have e2 := hB9.out.cell (i := 2) rfl
                  have e3 := hB9.out.cell (i := 3) rfl
                  have e4 := hB9.out.cell (i := 4) rfl
                  refine bodyPost_ret (v := .tuple #[Ta.val ⟨v1, AP, nP', cP', RP, AW, nW', cW', RW, AC, nC', cC', RC, v2⟩, .int .i64 0]) (by simp [results, Try.results14, go_sem, e0, e1, e2, e3, e4]) rfl ?_
                  have kp : Keep (fun i => i = g2) w8 w9 := Keep.only ho9.out rfl
                  have hT := HTO.out.1
                  refine ⟨_, _, rfl, ⟨tris_keep HOK8.out.P kp HOGP.out, tris_keep HOK8.out.W kp HOGW.out, tris_keep HOK8.out.C kp HOGC.out, HOK8.out.f0, HOK8.out.f1, HOK8.out.t0, HOK8.out.t1⟩, ho9.out.below HG8.out.g.bel HG8.out.g.l2 HG8.out.g.bel.size, .inl ⟨HEN.out, ?_, rfl, ?_, ?_, ?_, ?_, ?_⟩⟩
                  · rw [hT]; exact HR.out
                  · rw [hT]
                  · rw [hT]
                  · rw [hT]
                  · rw [hT]
                  · rw [hT]
                | false =>
                  have HR := Lib.hid (show ¬ TOk v1 v2 RP RW RC from fun h => by have := HBR.out.2 h; cases this)
                  clear HBR
                  go_wp2_with (first
                   | (refine wpList_store_blk rfl 26 (.tmp 2) (.tmp 80) rfl g2 rfl zeroT rfl HG8.out.g.b2 rfl size_table (by intro u hu; simp [zeroT, Ta.cells] at hu; rcases hu with rfl | rfl | rfl | rfl | rfl <;> rfl) ?_; intro w9 hB9 ho9))
                  have e0 := hB9.out.cell (i := 0) rfl
                  have e1 := hB9.out.cell (i := 1) rfl
                  have e2 := hB9.out.cell (i := 2) rfl
                  have e3 := hB9.out.cell (i := 3) rfl
                  have e4 := hB9.out.cell (i := 4) rfl
                  refine bodyPost_ret (v := .tuple #[Ta.val ⟨0, none, 0, 0, [], none, 0, 0, [], none, 0, 0, [], 0⟩, .int .i64 9]) (by simp [results, Try.results14, go_sem, e0, e1, e2, e3, e4]) rfl ?_
                  exact ⟨_, _, rfl, zero_ok w9, ho9.out.below HG8.out.g.bel HG8.out.g.l2 HG8.out.g.bel.size, .inr ⟨fun h => HR.out (by have h2 := h.2; rw [HTO.out.1] at h2; exact h2), by rw [if_pos HEN.out], rfl⟩⟩
              · have hne : (en != 0) = true := by simp [hz]
                go_wp2_with (first
                 | (refine wpList_store_blk rfl 26 (.tmp 2) (.tmp 75) rfl g2 rfl zeroT rfl HGrC.out.g.b2 rfl size_table (by intro u hu; simp [zeroT, Ta.cells] at hu; rcases hu with rfl | rfl | rfl | rfl | rfl <;> rfl) ?_; intro w9 hB9 ho9))
                have e0 := hB9.out.cell (i := 0) rfl
                have e1 := hB9.out.cell (i := 1) rfl
                have e2 := hB9.out.cell (i := 2) rfl
                have e3 := hB9.out.cell (i := 3) rfl
                have e4 := hB9.out.cell (i := 4) rfl
                refine bodyPost_ret (v := .tuple #[Ta.val ⟨0, none, 0, 0, [], none, 0, 0, [], none, 0, 0, [], 0⟩, .int .i64 en]) (by simp [results, Try.results14, go_sem, e0, e1, e2, e3, e4]) rfl ?_
                exact ⟨_, _, rfl, zero_ok w9, ho9.out.below HGrC.out.g.bel HGrC.out.g.l2 HGrC.out.g.bel.size, .inr ⟨fun h => hz (by rw [← HEN.out]; exact h.1), by rw [if_neg (by rw [HEN.out]; exact hz)]; exact HEN.out.symm, rfl⟩⟩
end Go.Proofs.Ytcgnlkckgfaomaa.TabT
