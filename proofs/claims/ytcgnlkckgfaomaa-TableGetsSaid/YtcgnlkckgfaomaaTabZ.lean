/- The reference's Get of a table: what it hands back, of any bytes. Conditions: the bytes lie as the facts say. -/
import Derived.Test.YtcgnlkckgfaomaaTabT
import Derived.Test.YtcgnlkckgfaomaaTabY
import Derived.Test.YtcgnlkckgfaomaaTabK
namespace Go.Proofs.Ytcgnlkckgfaomaa.TabZ
open Go.RowKit Go.Proofs.Ytcgnlkckgfaomaa.Kit Go.Proofs.Ytcgnlkckgfaomaa.NumA Go.Proofs.Ytcgnlkckgfaomaa.NumB Go.Proofs.Ytcgnlkckgfaomaa.Mem Go.Proofs.Ytcgnlkckgfaomaa.TabA Go.Proofs.Ytcgnlkckgfaomaa.TabB Go.Proofs.Ytcgnlkckgfaomaa.TabC Go.Proofs.Ytcgnlkckgfaomaa.TabD Go.Proofs.Ytcgnlkckgfaomaa.TabE Go.Proofs.Ytcgnlkckgfaomaa.TabF Go.Proofs.Ytcgnlkckgfaomaa.TabG Go.Proofs.Ytcgnlkckgfaomaa.TabR Go.Proofs.Ytcgnlkckgfaomaa.TabP Go.Proofs.Ytcgnlkckgfaomaa.TabS Go.Proofs.Ytcgnlkckgfaomaa.TabY
open Go.Proofs.Ytcgnlkckgfaomaa.TabT (zeroT rn_ex own_keep3 nil_own one_tris own_al rt_eq rm_next zero_ok Gets)

/-- The reader and the result's box. -/
structure G0 (w : World) (g2 rb : Nat) (s : Rs) (wr : World) : Prop where
  b2 : Blk wr g2 26 zeroT
  st : SR wr rb s.1 s.2
  bel : Below w.heap.size w wr
  l2 : w.heap.size ≤ g2
  lr : g2 < rb
  ok : okB s
/-- And the table's box. -/
structure GS (w : World) (g2 gx rb : Nat) (X : Ta) (s : Rs) (wr : World) : Prop where
  g : G0 w g2 rb s wr
  xb : Blk wr gx 26 X.cells
  lx : rb < gx
section
variable {w wr w' w5 : World} {g2 gx rb : Nat} {X : Ta} {s : Rs}
theorem G0.num {k : Nat} (h : G0 w g2 rb s wr) (h1 : SR w' rb (rn k s).2.1 (rn k s).2.2) (hg : wr.grownBy w' (some rb)) : G0 w g2 rb (rn k s).2 w' := by
  have l2 := h.l2
  have lr := h.lr
  have k1 : Keep (fun i => i = rb) wr w' := Keep.grown hg fun i hi => by injection hi with hi; exact hi.symm
  exact ⟨k1.blk h.b2 (by show ¬ g2 = rb; omega), h1, h.bel.trans (k1.below (fun i hi => by have : i = rb := hi; omega) h.bel.size), h.l2, h.lr, rn_ok h.ok⟩
theorem G0.step (h : G0 w g2 rb s wr) (hb : Below wr.heap.size wr w') : G0 w g2 rb s w' := ⟨h.b2.below hb, SR.below h.st hb, h.bel.trans (hb.mono h.bel.size), h.l2, h.lr, h.ok⟩
theorem G0.keep (h : G0 w g2 rb s wr) (k : Keep (fun i => rb < i) wr w') : G0 w g2 rb s w' := by
  have l2 := h.l2
  have lr := h.lr
  exact ⟨k.blk h.b2 (by show ¬ rb < g2; omega), SR.keep h.st k (fun i hi => hi), h.bel.trans (k.below (fun i hi => by have : rb < i := hi; omega) h.bel.size), h.l2, h.lr, h.ok⟩
theorem GS.num {k : Nat} (h : GS w g2 gx rb X s wr) (h1 : SR w' rb (rn k s).2.1 (rn k s).2.2) (hg : wr.grownBy w' (some rb)) : GS w g2 gx rb X (rn k s).2 w' := by
  have lx := h.lx
  have k1 : Keep (fun i => i = rb) wr w' := Keep.grown hg fun i hi => by injection hi with hi; exact hi.symm
  exact ⟨h.g.num h1 hg, k1.blk h.xb (by show ¬ gx = rb; omega), h.lx⟩
theorem GS.step (h : GS w g2 gx rb X s wr) (hb : Below wr.heap.size wr w') : GS w g2 gx rb X s w' := ⟨h.g.step hb, h.xb.below hb, h.lx⟩
theorem GS.keep (h : GS w g2 gx rb X s wr) (k : Keep (fun i => gx < i) wr w') : GS w g2 gx rb X s w' := by
  have lx := h.lx
  exact ⟨h.g.keep (k.mono fun i _ hi => by show rb < i; have : gx < i := hi; omega), k.blk h.xb (by show ¬ gx < gx; omega), h.lx⟩
theorem GS.put (h : GS w g2 gx rb X s wr) (k : Keep (fun i => gx < i) wr w5) (f : Nat) (v : Value) {X' : Ta} (hX : X.cells.set f v = X'.cells) : GS w g2 gx rb X' s (w5.setCell ⟨gx, f, none⟩ v) := by
  have lx := h.lx
  have h5 : G0 w g2 rb s w5 := h.g.keep (k.mono fun i _ hi => by show rb < i; have : gx < i := hi; omega)
  have k2 : Keep (fun i => rb < i) w5 (w5.setCell ⟨gx, f, none⟩ v) := (Keep.set (F := fun i => rb < i) w5 f v lx)
  exact ⟨h5.keep k2, by rw [← hX]; exact (k.blk h.xb (by show ¬ gx < gx; omega)).set f v, h.lx⟩
end
/-- One number, by name. -/
theorem num_v {k : Nat} {x : Int} (hx : wd x = k) {b : Nat} {s s' : Rs} {v : Int} (hr : rn k s = (v, s')) (w : World) (h : SR w b s.1 s.2) (ho : okB s) :
    Calls Try.prog 36 #[.pointer (some ⟨b, 0, none⟩), .int .i64 x] w fun e w' => e = .returned (.int .i64 v) ∧ SR w' b s'.1 s'.2 ∧ w.grownBy w' (some b) := by
  refine (rnum_any b x s.1 s.2 w h ho).mono ?_
  rintro e w' ⟨he, hs, hg⟩
  rw [hx] at he hs
  have h1 : (rdN k s.1 s.2).1 = v := by have := congrArg Prod.fst hr; exact this
  have h2 : (rdN k s.1 s.2).2 = s' := by have := congrArg Prod.snd hr; exact this
  exact ⟨by rw [he, h1], by rw [← h2]; exact hs, hg⟩
/-- And an item's own box. -/
structure PB (w : World) (g2 gx rb : Nat) (X : Ta) (ty : TypeId) (gp : Nat) (w0 : World) (s : Rs) (cs : List Value) (wr : World) : Prop where
  g : GS w g2 gx rb X s wr
  pb : Blk wr gp ty cs
  kp : Keep (fun i => i = rb ∨ i = gp) w0 wr
  new_ : w0.heap.size ≤ gp
  lp : gx < gp
section
variable {w w0 wr w' : World} {g2 gx rb gp : Nat} {X : Ta} {s : Rs} {ty : TypeId} {cs : List Value}
theorem PB.new (h : GS w g2 gx rb X s w0) (ty : TypeId) : PB w g2 gx rb X ty w0.heap.size w0 s [.int .i64 0, .int .i64 0, .int .i64 0] (w0.alloc (.cells #[.int .i64 0, .int .i64 0, .int .i64 0] ty)) :=
  ⟨h.step ((Below.refl _ _).alloc (Nat.le_refl _) _), Blk.new w0 ty _, Keep.of_below ((Below.refl _ _).alloc (Nat.le_refl _) _), Nat.le_refl _, h.xb.lt⟩
theorem PB.num {k : Nat} (h : PB w g2 gx rb X ty gp w0 s cs wr) (h1 : SR w' rb (rn k s).2.1 (rn k s).2.2) (hg : wr.grownBy w' (some rb)) : PB w g2 gx rb X ty gp w0 (rn k s).2 cs w' := by
  have lp := h.lp
  have lx := h.g.lx
  have k1 : Keep (fun i => i = rb) wr w' := Keep.grown hg fun i hi => by injection hi with hi; exact hi.symm
  exact ⟨h.g.num h1 hg, k1.blk h.pb (by show ¬ gp = rb; omega), h.kp.trans k1 (fun i hi => .inl (.inl hi)), h.new_, h.lp⟩
theorem PB.set (h : PB w g2 gx rb X ty gp w0 s cs wr) (f : Nat) (v : Value) : PB w g2 gx rb X ty gp w0 s (cs.set f v) (wr.setCell ⟨gp, f, none⟩ v) := by
  have lp := h.lp
  have k1 : Keep (fun i => i = gp) wr (wr.setCell ⟨gp, f, none⟩ v) := Keep.set wr f v rfl
  exact ⟨h.g.keep (k1.mono fun i _ hi => by show gx < i; have : i = gp := hi; omega), h.pb.set f v, h.kp.trans k1 (fun i hi => .inl (.inr hi)), h.new_, h.lp⟩
end
theorem own_keep4 {F : Nat → Prop} {w w' : World} {base n : Nat} {e : TypeId} {v : Value} {xs : List Value} (h : w.ownsRow base e 3 v n xs) (k : Keep F w w') (hF : ∀ i, F i → i < base ∨ w.heap.size ≤ i) : w'.ownsRow base e 3 v n xs :=
  k.own h fun i hi hf => by have := h.lt i hi; have := hF i hf; omega
section
variable {P : Program} {ops : Array Oper} {rest : List Oper} {o : Oper} {a : Act} {w : World} {Q : Exit → Act → World → Prop}
theorem wpList_add3 (hgd : o.guard = none) (s x : Operand) (t : TypeId)
    (ho : o.op = .call { callee := .builtin .append, args := #[s, x], argTypes := #[t, t] })
    (base : Nat) (e : TypeId) (i : TypeInfo) (z : Value) (bytes : Nat) (ht : P.underlying t = some (.slice e)) (hi : P.info? e = some i) (hz : i.zero = some z)
    (hsize : i.size = 3) (hby : i.bytes = bytes) (hzs : z.cells.size = 3)
    (v : Value) (n : Nat) (xs : List Value) (hs : a.eval s = v) (hown : w.ownsRow base e 3 v n xs)
    (A : Option Addr) (m c : Nat) (R : List Tri) (hx : a.eval x = .slice A m c) (hT : Tris w A m c R)
    (h63 : n + m ≤ 1000000000) (hbytes : bytes ≤ 1000) (hbase : base ≤ w.heap.size)
    (h : ∀ A' n' c' w', Hid (n' = n + m) → Hid (w'.ownsRow base e 3 (.slice A' n' c') n' (xs ++ tcells R)) → w.grownBy w' v.ownBlock → wpList P ops Q rest (a.put o.dst (.slice A' n' c')) w') : wpList P ops Q (o :: rest) a w :=
  wpList_plain hgd fun _ hK => wp_add3 s x t ho base e i z bytes ht hi hz hsize hby hzs v n xs hs hown A m c R hx hT h63 hbytes hbase fun A' n' c' w' h1 h2 h3 => hK _ _ (h A' n' c' w' h1 h2 h3)
end
theorem size_tab : (Try.prog.info? 26).map (·.size) = some 5 := by kernel_rfl

set_option maxRecDepth 100000 in
set_option maxHeartbeats 12800000 in
theorem rget_any (A : Option Addr) (n c : Nat) (xs : List Int) (w : World) (hx : Rd w A n c (u8s xs)) (h8 : ∀ u ∈ xs, 0 ≤ u ∧ u ≤ 255) (hl : n ≤ 100000) :
    Calls Try.prog 18 #[.slice A n c] w (Gets w (xs, 0)) := by
  obtain ⟨s0, hs0⟩ : ∃ s0 : Rs, s0 = (xs, 0) := ⟨_, rfl⟩
  have H8 := Lib.hid (show okB s0 from by rw [hs0]; exact h8)
  rw [← hs0]
  have hsz : (w.alloc (.cells zeroT.toArray 26)).heap.size = w.heap.size + 1 := by simp
  have hsz2 : ((w.alloc (.cells zeroT.toArray 26)).alloc (.cells #[.slice A n c, .int .i64 0, .int .i64 0] 67)).heap.size = w.heap.size + 2 := by simp
  have b1 : Below w.heap.size w (w.alloc (.cells zeroT.toArray 26)) := (Below.refl _ _).alloc (Nat.le_refl _) _
  have hN2 := Blk.new (w.alloc (.cells zeroT.toArray 26)) 67 [.slice A n c, .int .i64 0, .int .i64 0]
  rw [hsz] at hN2
  have hSR : SR ((w.alloc (.cells zeroT.toArray 26)).alloc (.cells #[.slice A n c, .int .i64 0, .int .i64 0] 67)) (w.heap.size + 1) s0.1 s0.2 := by
    rw [hs0]
    refine ⟨A, n, c, 0, xs, hN2, (hx.alloc _).alloc _, Nat.zero_le _, rfl, fun h0 g o hA => ?_⟩
    obtain ⟨g', o', hA', hlt, _⟩ := hx.2.2.2 h0
    rw [hA] at hA'
    injection hA' with hA'
    injection hA' with h1 _
    omega
  have HG := Lib.hid (show G0 w w.heap.size (w.heap.size + 1) s0 _ from ⟨(Blk.new w 26 zeroT).alloc _, hSR, b1.alloc (by simp) _, Nat.le_refl _, by omega, H8.out⟩)
  have hN3 := Blk.new ((w.alloc (.cells zeroT.toArray 26)).alloc (.cells #[.slice A n c, .int .i64 0, .int .i64 0] 67)) 26 (Ta.cells ⟨0, none, 0, 0, [], none, 0, 0, [], none, 0, 0, [], 0⟩)
  rw [hsz2] at hN3
  have HGS := Lib.hid (show GS w w.heap.size (w.heap.size + 2) (w.heap.size + 1) ⟨0, none, 0, 0, [], none, 0, 0, [], none, 0, 0, [], 0⟩ s0 _ from ⟨HG.out.step ((Below.refl _ _).alloc (Nat.le_refl _) (.cells (Ta.cells ⟨0, none, 0, 0, [], none, 0, 0, [], none, 0, 0, [], 0⟩).toArray 26)), hN3, by omega⟩)
  clear hx h8 hs0 hsz hsz2 b1 hN2 hSR HG hN3
  go_enter Try.func18, Try.ntmps18
  go_wp2_with fail
  obtain ⟨w1, hw1⟩ : ∃ w1, w1 = ((w.alloc (.cells #[.int .i64 0, .slice none 0 0, .slice none 0 0, .slice none 0 0, .int .i64 0] 26)).alloc (.cells #[.slice A n c, .int .i64 0, .int .i64 0] 67)).alloc (.cells #[.int .i64 0, .slice none 0 0, .slice none 0 0, .slice none 0 0, .int .i64 0] 26) := ⟨_, rfl⟩
  obtain ⟨g2, hg2⟩ : ∃ g2, g2 = w.heap.size := ⟨_, rfl⟩
  obtain ⟨rb, hrb⟩ : ∃ rb, rb = w.heap.size + 1 := ⟨_, rfl⟩
  obtain ⟨gx, hgx⟩ : ∃ gx, gx = w.heap.size + 2 := ⟨_, rfl⟩
  have hgx' : gx = w.heap.size + 1 + 1 := hgx
  replace HGS := Lib.hid (show GS w g2 gx rb ⟨0, none, 0, 0, [], none, 0, 0, [], none, 0, 0, [], 0⟩ s0 w1 from by rw [hw1, hg2, hrb, hgx]; exact HGS.out)
  rw [← hw1, ← hgx', ← hrb, ← hg2]
  clear hw1 hgx hgx' hrb hg2
  obtain ⟨v1, t1, hv1⟩ := rn_ex 1 s0
  have Hv1 := Lib.hid hv1
  clear hv1
  refine (num_v (x := 1) rfl Hv1.out _ HGS.out.g.st HGS.out.g.ok).mono ?_
  rintro e w2 ⟨rfl, hst, hgr⟩
  have HGa := Lib.hid (show GS w g2 gx rb ⟨0, none, 0, 0, [], none, 0, 0, [], none, 0, 0, [], 0⟩ t1 w2 from by have h := HGS.out.num (k := 1) (by rw [Hv1.out]; exact hst) hgr; rw [Hv1.out] at h; exact h)
  clear hst hgr HGS
  have k0 := HGa.out.xb.cell (i := 0) rfl
  have k1 := HGa.out.xb.frozen 0
  go_wp2_with fail
  have HGb := Lib.hid (show GS w g2 gx rb ⟨v1, none, 0, 0, [], none, 0, 0, [], none, 0, 0, [], 0⟩ t1 (w2.setCell ⟨gx, 0, none⟩ (.int .i64 v1)) from HGa.out.put (Keep.refl _ _) 0 _ rfl)
  clear k0 k1
  obtain ⟨w3, hw3⟩ : ∃ w3, w3 = w2.setCell ⟨gx, 0, none⟩ (.int .i64 v1) := ⟨_, rfl⟩
  rw [← hw3] at HGb ⊢
  clear hw3 HGa
  obtain ⟨v2, t2, hv2⟩ := rn_ex 1 t1
  have Hv2 := Lib.hid hv2
  clear hv2
  refine (num_v (x := 1) rfl Hv2.out _ HGb.out.g.st HGb.out.g.ok).mono ?_
  rintro e w4 ⟨rfl, hst, hgr⟩
  have HGc := Lib.hid (show GS w g2 gx rb ⟨v1, none, 0, 0, [], none, 0, 0, [], none, 0, 0, [], 0⟩ t2 w4 from by have h := HGb.out.num (k := 1) (by rw [Hv2.out]; exact hst) hgr; rw [Hv2.out] at h; exact h)
  clear hst hgr HGb
  have k0 := HGc.out.xb.cell (i := 4) rfl
  have k1 := HGc.out.xb.frozen 4
  go_wp2_with fail
  have HGS2 := Lib.hid (show GS w g2 gx rb ⟨v1, none, 0, 0, [], none, 0, 0, [], none, 0, 0, [], v2⟩ t2 (w4.setCell ⟨gx, 4, none⟩ (.int .i64 v2)) from HGc.out.put (Keep.refl _ _) 4 _ rfl)
  clear k0 k1
  obtain ⟨w4s, hw4s⟩ : ∃ w4s, w4s = w4.setCell ⟨gx, 4, none⟩ (.int .i64 v2) := ⟨_, rfl⟩
  rw [← hw4s] at HGS2 ⊢
  clear hw4s HGc
  obtain ⟨v3, t3, hv3⟩ := rn_ex 1 t2
  have Hv3 := Lib.hid hv3
  clear hv3
  refine (num_v (x := 1) rfl Hv3.out _ HGS2.out.g.st HGS2.out.g.ok).mono ?_
  rintro e w5 ⟨rfl, hst, hgr⟩
  have HGS3 := Lib.hid (show GS w g2 gx rb ⟨v1, none, 0, 0, [], none, 0, 0, [], none, 0, 0, [], v2⟩ t3 w5 from by have h := HGS2.out.num (k := 1) (by rw [Hv3.out]; exact hst) hgr; rw [Hv3.out] at h; exact h)
  clear hst hgr HGS2
  go_wp2_with fail
  obtain ⟨v4, t4, hv4⟩ := rn_ex 1 t3
  have Hv4 := Lib.hid hv4
  clear hv4
  refine (num_v (x := 1) rfl Hv4.out _ HGS3.out.g.st HGS3.out.g.ok).mono ?_
  rintro e w6 ⟨rfl, hst, hgr⟩
  have HGS4 := Lib.hid (show GS w g2 gx rb ⟨v1, none, 0, 0, [], none, 0, 0, [], none, 0, 0, [], v2⟩ t4 w6 from by have h := HGS3.out.num (k := 1) (by rw [Hv4.out]; exact hst) hgr; rw [Hv4.out] at h; exact h)
  clear hst hgr HGS3
  go_wp2_with fail
  obtain ⟨v5, t5, hv5⟩ := rn_ex 1 t4
  have Hv5 := Lib.hid hv5
  clear hv5
  refine (num_v (x := 1) rfl Hv5.out _ HGS4.out.g.st HGS4.out.g.ok).mono ?_
  rintro e w7 ⟨rfl, hst, hgr⟩
  have HGS5 := Lib.hid (show GS w g2 gx rb ⟨v1, none, 0, 0, [], none, 0, 0, [], none, 0, 0, [], v2⟩ t5 w7 from by have h := HGS4.out.num (k := 1) (by rw [Hv5.out]; exact hst) hgr; rw [Hv5.out] at h; exact h)
  clear hst hgr HGS4
  have HO2 := Lib.hid (show okB t2 from by have h := rn_ok (k := 1) (rn_ok (k := 1) H8.out); rw [Hv1.out] at h; rw [Hv2.out] at h; exact h)
  have HO3 := Lib.hid (show okB t3 from by have h := rn_ok (k := 1) HO2.out; rw [Hv3.out] at h; exact h)
  have HO4 := Lib.hid (show okB t4 from by have h := rn_ok (k := 1) HO3.out; rw [Hv4.out] at h; exact h)
  obtain ⟨np, hnp, hnp2⟩ : ∃ np : Nat, v3 = np ∧ np ≤ 255 := by have h := cnt_int HO2.out; rw [Hv3.out] at h; exact ⟨_, h.1, h.2⟩
  obtain ⟨nw, hnw, hnw2⟩ : ∃ nw : Nat, v4 = nw ∧ nw ≤ 255 := by have h := cnt_int HO3.out; rw [Hv4.out] at h; exact ⟨_, h.1, h.2⟩
  obtain ⟨nc, hnc, hnc2⟩ : ∃ nc : Nat, v5 = nc ∧ nc ≤ 255 := by have h := cnt_int HO4.out; rw [Hv5.out] at h; exact ⟨_, h.1, h.2⟩
  subst hnp hnw hnc
  have HE1 := Lib.hid (show (told s0).fr = v1 ∧ (told s0).tr = v2 ∧ s5 s0 = t5 ∧ nP s0 = np ∧ nW s0 = nw ∧ nC s0 = nc from by
    have e2 : s2 s0 = t2 := by unfold s2; rw [Hv1.out]; show (rn 1 t1).2 = t2; rw [Hv2.out]
    refine ⟨by show (rn 1 s0).1 = v1; rw [Hv1.out], by show (rn 1 (rn 1 s0).2).1 = v2; rw [Hv1.out]; show (rn 1 t1).1 = v2; rw [Hv2.out], ?_, ?_, ?_, ?_⟩
    · unfold s5; rw [e2, Hv3.out]; show (rn 1 (rn 1 t3).2).2 = t5; rw [Hv4.out]; show (rn 1 t4).2 = t5; rw [Hv5.out]
    · unfold nP cnt; rw [e2, Hv3.out]; rfl
    · unfold nW cnt; rw [e2, Hv3.out]; show (rn 1 t3).1.toNat = nw; rw [Hv4.out]; rfl
    · unfold nC cnt; rw [e2, Hv3.out]; show (rn 1 (rn 1 t3).2).1.toNat = nc; rw [Hv4.out]; show (rn 1 t4).1.toNat = nc; rw [Hv5.out]; rfl)
  have hB1 := HGS5.out.xb.lt
  go_wp2_with fail
  obtain ⟨ic, hic, hiz, his, hib⟩ := Go.Proofs.Ytcgnlkckgfaomaa.TabF.info_of info_prt
  obtain ⟨wS, rfl⟩ : ∃ wS : World, wS = w7 := ⟨_, rfl⟩
  have hgB : gx < wS.heap.size := HGS5.out.xb.lt
  go_loopw [9] (fun i wr => ∃ (k : Nat) (A' : Option Addr) (n' c' : Nat) (R : List Tri) (s : Rs), k ≤ np ∧ i = .int .i64 k ∧ Hid (n' = k) ∧ Hid (rm 2 k t5 = (R, s)) ∧ Hid (wr.ownsRow wS.heap.size 57 3 (.slice A' n' c') n' (tcells R)) ∧ Hid (GS w g2 gx rb ⟨v1, A', n', c', R, none, 0, 0, [], none, 0, 0, [], v2⟩ s wr) ∧ Hid (Keep (fun i => i = rb ∨ i = gx) wS wr)) (fun i _ => np - (intOf i).toNat)
  case atStart => exact ⟨0, none, 0, 0, [], t5, Nat.zero_le _, rfl, Lib.hid rfl, Lib.hid rfl, Lib.hid (nil_own _ _ _), HGS5, Lib.hid (Keep.refl _ _)⟩
  case round =>
    obtain ⟨k, A', n', c', R, s, hk, rfl, hn', HRM, HOW, HGr, HKP⟩ := hrel
    by_cases hlt : k < np
    · obtain ⟨a1, s1, ha1⟩ := rn_ex 1 s
      obtain ⟨a2, s2', ha2⟩ := rn_ex 1 s1
      obtain ⟨a3, s3, ha3⟩ := rn_ex 2 s2'
      have Ha1 := Lib.hid ha1
      have Ha2 := Lib.hid ha2
      have Ha3 := Lib.hid ha3
      have HRT := Lib.hid (rt_eq ha1 ha2 ha3)
      have HRN := Lib.hid (rm_next HRM.out HRT.out)
      have HTO := Lib.hid (show Tri.ok ⟨a1, a2, a3⟩ from by have h := rt_tri (k := 2) (.inr rfl) HGr.out.g.ok; rw [HRT.out] at h; exact h)
      have hlx := HGr.out.lx
      have hgw : gx < wr.heap.size := HGr.out.xb.lt
      have hBr : wS.heap.size ≤ wr.heap.size := HKP.out.size
      have hnk : n' ≤ 255 := by have := hn'.out; omega
      have HP0 := Lib.hid (PB.new HGr.out 57)
      clear ha1 ha2 ha3
      go_wp2_with fail
      obtain ⟨wa, hwa⟩ : ∃ wa, wa = wr.alloc (.cells #[.int .i64 0, .int .i64 0, .int .i64 0] 57) := ⟨_, rfl⟩
      obtain ⟨gp, hgp⟩ : ∃ gp, gp = wr.heap.size := ⟨_, rfl⟩
      replace HP0 := Lib.hid (show PB w g2 gx rb ⟨v1, A', n', c', R, none, 0, 0, [], none, 0, 0, [], v2⟩ 57 gp wr s [.int .i64 0, .int .i64 0, .int .i64 0] wa from by rw [hwa, hgp]; exact HP0.out)
      rw [← hwa, ← hgp]
      clear hwa hgp
      refine (num_v (x := 1) rfl Ha1.out wa HP0.out.g.g.st HP0.out.g.g.ok).mono ?_
      rintro e w1' ⟨rfl, hst1, hgr1⟩
      have HP1 := Lib.hid (show PB w g2 gx rb ⟨v1, A', n', c', R, none, 0, 0, [], none, 0, 0, [], v2⟩ 57 gp wr s1 [.int .i64 0, .int .i64 0, .int .i64 0] w1' from by have h := HP0.out.num (k := 1) (by rw [Ha1.out]; exact hst1) hgr1; rw [Ha1.out] at h; exact h)
      clear hst1 hgr1 HP0
      have k0 := HP1.out.pb.cell (i := 0) rfl
      have k1 := HP1.out.pb.frozen 0
      go_wp2_with fail
      have HQ1 := Lib.hid (show PB w g2 gx rb ⟨v1, A', n', c', R, none, 0, 0, [], none, 0, 0, [], v2⟩ 57 gp wr s1 [.int .i64 a1, .int .i64 0, .int .i64 0] (w1'.setCell ⟨gp, 0, none⟩ (.int .i64 a1)) from HP1.out.set 0 (.int .i64 a1))
      clear k0 k1 HP1
      obtain ⟨w1s, hw1s⟩ : ∃ w1s, w1s = w1'.setCell ⟨gp, 0, none⟩ (.int .i64 a1) := ⟨_, rfl⟩
      rw [← hw1s] at HQ1 ⊢
      clear hw1s
      refine (num_v (x := 1) rfl Ha2.out w1s HQ1.out.g.g.st HQ1.out.g.g.ok).mono ?_
      rintro e w2' ⟨rfl, hst1, hgr1⟩
      have HP2 := Lib.hid (show PB w g2 gx rb ⟨v1, A', n', c', R, none, 0, 0, [], none, 0, 0, [], v2⟩ 57 gp wr s2' [.int .i64 a1, .int .i64 0, .int .i64 0] w2' from by have h := HQ1.out.num (k := 1) (by rw [Ha2.out]; exact hst1) hgr1; rw [Ha2.out] at h; exact h)
      clear hst1 hgr1 HQ1
      have k0 := HP2.out.pb.cell (i := 1) rfl
      have k1 := HP2.out.pb.frozen 1
      go_wp2_with fail
      have HQ2 := Lib.hid (show PB w g2 gx rb ⟨v1, A', n', c', R, none, 0, 0, [], none, 0, 0, [], v2⟩ 57 gp wr s2' [.int .i64 a1, .int .i64 a2, .int .i64 0] (w2'.setCell ⟨gp, 1, none⟩ (.int .i64 a2)) from HP2.out.set 1 (.int .i64 a2))
      clear k0 k1 HP2
      obtain ⟨w2s, hw2s⟩ : ∃ w2s, w2s = w2'.setCell ⟨gp, 1, none⟩ (.int .i64 a2) := ⟨_, rfl⟩
      rw [← hw2s] at HQ2 ⊢
      clear hw2s
      refine (num_v (x := 2) rfl Ha3.out w2s HQ2.out.g.g.st HQ2.out.g.g.ok).mono ?_
      rintro e w3' ⟨rfl, hst1, hgr1⟩
      have HP3 := Lib.hid (show PB w g2 gx rb ⟨v1, A', n', c', R, none, 0, 0, [], none, 0, 0, [], v2⟩ 57 gp wr s3 [.int .i64 a1, .int .i64 a2, .int .i64 0] w3' from by have h := HQ2.out.num (k := 2) (by rw [Ha3.out]; exact hst1) hgr1; rw [Ha3.out] at h; exact h)
      clear hst1 hgr1 HQ2
      have k0 := HP3.out.pb.cell (i := 2) rfl
      have k1 := HP3.out.pb.frozen 2
      have HQ3 := Lib.hid (show PB w g2 gx rb ⟨v1, A', n', c', R, none, 0, 0, [], none, 0, 0, [], v2⟩ 57 gp wr s3 [.int .i64 a1, .int .i64 a2, .int .i64 a3] (w3'.setCell ⟨gp, 2, none⟩ (.int .i64 a3)) from HP3.out.set 2 (.int .i64 a3))
      go_upto_region 15 with (fail)
      clear k0 k1 HP3
      obtain ⟨w3s, hw3s⟩ : ∃ w3s, w3s = w3'.setCell ⟨gp, 2, none⟩ (.int .i64 a3) := ⟨_, rfl⟩
      rw [← hw3s] at HQ3 ⊢
      clear hw3s
      have y0 := HQ3.out.pb.cell (i := 0) rfl
      have y1 := HQ3.out.pb.cell (i := 1) rfl
      have y2 := HQ3.out.pb.cell (i := 2) rfl
      have x1 : w3s.cell? ⟨gx, 1, none⟩ = some (.slice A' n' c') := HQ3.out.g.xb.cell rfl
      have hl3 : gx < w3s.heap.size := HQ3.out.g.xb.lt
      have hlp := HQ3.out.lp
      have hnew := HQ3.out.new_
      have HO3 := Lib.hid (own_keep4 HOW.out HQ3.out.kp (fun i hi => by
        rcases hi with hi | hi
        · left; omega
        · right; omega))
      have hB3 : wS.heap.size ≤ w3s.heap.size := Nat.le_trans hBr HQ3.out.kp.size
      go_wp2_with (at_builtin; refine wpList_add3 rfl (.tmp 47) (.tmp 49) 22 rfl wS.heap.size 57 ic _ 24 Try.underlying22 hic hiz his hib rfl (.slice A' n' c') n' _ rfl (own_al HO3.out (.cells #[.int .i64 a1, .int .i64 a2, .int .i64 a3] 57)) (some ⟨w3s.heap.size, 0, none⟩) 1 1 [⟨a1, a2, a3⟩] rfl (one_tris (Blk.new w3s 57 (Tri.cells ⟨a1, a2, a3⟩)) HTO.out) (by omega) (by omega) (by simp; omega) ?_; intro A5 n5 c5 w5 hn5 hown5 hg5; have HK5 := Lib.hid (show Keep (fun i => wS.heap.size ≤ i) w3s w5 from (Keep.of_below (F := fun i => wS.heap.size ≤ i) ((Below.refl _ _).alloc (Nat.le_refl _) (.cells #[.int .i64 a1, .int .i64 a2, .int .i64 a3] 57))).trans (Keep.grown (F := fun i => wS.heap.size ≤ i) hg5 (fun i hi => (own_al HO3.out (.cells #[.int .i64 a1, .int .i64 a2, .int .i64 a3] 57)).lt i hi |>.1)) (fun _ h => .inl h)); have f5 := (HK5.out.blk HQ3.out.g.xb (by show ¬ wS.heap.size ≤ gx; omega)).frozen 1; have k5 : w5.cell? ⟨gx, 1, none⟩ = some (.slice A' n' c') := (HK5.out.blk HQ3.out.g.xb (by show ¬ wS.heap.size ≤ gx; omega)).cell rfl; clear hg5)
      have h5 := hown5.out
      rw [← tcells_app] at h5
      have kset : Keep (fun i => i = gx) w5 (w5.setCell ⟨gx, 1, none⟩ (.slice A5 n5 c5)) := Keep.set w5 1 _ rfl
      have HN := Lib.hid (show GS w g2 gx rb ⟨v1, A5, n5, c5, (R ++ [⟨a1, a2, a3⟩]), none, 0, 0, [], none, 0, 0, [], v2⟩ s3 (w5.setCell ⟨gx, 1, none⟩ (.slice A5 n5 c5)) from HQ3.out.g.put (HK5.out.mono (fun i _ hi => by show gx < i; have : wS.heap.size ≤ i := hi; omega)) 1 _ rfl)
      have HON := Lib.hid (own_keep3 h5 kset (fun i hi => by have : i = gx := hi; omega))
      have HKN := Lib.hid (((HKP.out.trans HQ3.out.kp (fun i h => by
        rcases h with h | h
        · exact .inl (.inl h)
        · right; omega)).trans HK5.out (fun i h => .inr h)).trans kset (fun i h => .inl (.inr h)))
      have HNN := Lib.hid (show n5 = k + 1 from by have := hn5.out; have := hn'.out; omega)
      clear h5 kset f5 k5 hown5 hn5 HK5 HQ3 HO3 y0 y1 y2 x1
      go_wp2_with fail
      go_roundw
      case rel => exact ⟨k + 1, A5, n5, c5, R ++ [⟨a1, a2, a3⟩], s3, by omega, by go_num, HNN, HRN, HON, HN, HKN⟩
      case measure => simp [intOf]; omega
    · obtain rfl : np = k := by omega
      obtain ⟨AP, rfl⟩ : ∃ AP, AP = A' := ⟨_, rfl⟩
      obtain ⟨nP', rfl⟩ : ∃ nP', nP' = n' := ⟨_, rfl⟩
      obtain ⟨cP', rfl⟩ : ∃ cP', cP' = c' := ⟨_, rfl⟩
      obtain ⟨RP, rfl⟩ : ∃ RP, RP = R := ⟨_, rfl⟩
      obtain ⟨sP', rfl⟩ : ∃ sP', sP' = s := ⟨_, rfl⟩
      have HRMP := HRM
      have HGrP := HGr
      have HTRP := Lib.hid (show Tris wr AP nP' cP' RP from Tris.of_own HOW.out (by have h := rm_tri (k := 2) (.inr rfl) np HGS5.out.g.ok; rw [HRM.out] at h; exact h))
      have HOAP := Lib.hid (show off rb nP' AP from off_own HOW.out (by have := HGr.out.lx; omega))
      have HOBP := Lib.hid (show off gx nP' AP from off_own HOW.out hgB)
      have HOGP := Lib.hid (show off g2 nP' AP from off_own HOW.out (by have := HGr.out.lx; have := HGr.out.g.lr; omega))
      have HKPP := HKP
      clear HRM HGr HOW HKP hn'
      go_wp2_with fail
      obtain ⟨ic, hic, hiz, his, hib⟩ := Go.Proofs.Ytcgnlkckgfaomaa.TabF.info_of info_win
      obtain ⟨wS, rfl⟩ : ∃ wS : World, wS = wr := ⟨_, rfl⟩
      have hgB : gx < wS.heap.size := HGrP.out.xb.lt
      go_loopw [11] (fun i wr => ∃ (k : Nat) (A' : Option Addr) (n' c' : Nat) (R : List Tri) (s : Rs), k ≤ nw ∧ i = .int .i64 k ∧ Hid (n' = k) ∧ Hid (rm 1 k sP' = (R, s)) ∧ Hid (wr.ownsRow wS.heap.size 46 3 (.slice A' n' c') n' (tcells R)) ∧ Hid (GS w g2 gx rb ⟨v1, AP, nP', cP', RP, A', n', c', R, none, 0, 0, [], v2⟩ s wr) ∧ Hid (Keep (fun i => i = rb ∨ i = gx) wS wr)) (fun i _ => nw - (intOf i).toNat)
      case atStart => exact ⟨0, none, 0, 0, [], sP', Nat.zero_le _, rfl, Lib.hid rfl, Lib.hid rfl, Lib.hid (nil_own _ _ _), HGrP, Lib.hid (Keep.refl _ _)⟩
      case round =>
        obtain ⟨k, A', n', c', R, s, hk, rfl, hn', HRM, HOW, HGr, HKP⟩ := hrel
        by_cases hlt : k < nw
        · obtain ⟨a1, s1, ha1⟩ := rn_ex 1 s
          obtain ⟨a2, s2', ha2⟩ := rn_ex 1 s1
          obtain ⟨a3, s3, ha3⟩ := rn_ex 1 s2'
          have Ha1 := Lib.hid ha1
          have Ha2 := Lib.hid ha2
          have Ha3 := Lib.hid ha3
          have HRT := Lib.hid (rt_eq ha1 ha2 ha3)
          have HRN := Lib.hid (rm_next HRM.out HRT.out)
          have HTO := Lib.hid (show Tri.ok ⟨a1, a2, a3⟩ from by have h := rt_tri (k := 1) (.inl rfl) HGr.out.g.ok; rw [HRT.out] at h; exact h)
          have hlx := HGr.out.lx
          have hgw : gx < wr.heap.size := HGr.out.xb.lt
          have hBr : wS.heap.size ≤ wr.heap.size := HKP.out.size
          have hnk : n' ≤ 255 := by have := hn'.out; omega
          have HP0 := Lib.hid (PB.new HGr.out 46)
          clear ha1 ha2 ha3
          go_wp2_with fail
          obtain ⟨wa, hwa⟩ : ∃ wa, wa = wr.alloc (.cells #[.int .i64 0, .int .i64 0, .int .i64 0] 46) := ⟨_, rfl⟩
          obtain ⟨gp, hgp⟩ : ∃ gp, gp = wr.heap.size := ⟨_, rfl⟩
          replace HP0 := Lib.hid (show PB w g2 gx rb ⟨v1, AP, nP', cP', RP, A', n', c', R, none, 0, 0, [], v2⟩ 46 gp wr s [.int .i64 0, .int .i64 0, .int .i64 0] wa from by rw [hwa, hgp]; exact HP0.out)
          rw [← hwa, ← hgp]
          clear hwa hgp
          refine (num_v (x := 1) rfl Ha1.out wa HP0.out.g.g.st HP0.out.g.g.ok).mono ?_
          rintro e w1' ⟨rfl, hst1, hgr1⟩
          have HP1 := Lib.hid (show PB w g2 gx rb ⟨v1, AP, nP', cP', RP, A', n', c', R, none, 0, 0, [], v2⟩ 46 gp wr s1 [.int .i64 0, .int .i64 0, .int .i64 0] w1' from by have h := HP0.out.num (k := 1) (by rw [Ha1.out]; exact hst1) hgr1; rw [Ha1.out] at h; exact h)
          clear hst1 hgr1 HP0
          have k0 := HP1.out.pb.cell (i := 0) rfl
          have k1 := HP1.out.pb.frozen 0
          go_wp2_with fail
          have HQ1 := Lib.hid (show PB w g2 gx rb ⟨v1, AP, nP', cP', RP, A', n', c', R, none, 0, 0, [], v2⟩ 46 gp wr s1 [.int .i64 a1, .int .i64 0, .int .i64 0] (w1'.setCell ⟨gp, 0, none⟩ (.int .i64 a1)) from HP1.out.set 0 (.int .i64 a1))
          clear k0 k1 HP1
          obtain ⟨w1s, hw1s⟩ : ∃ w1s, w1s = w1'.setCell ⟨gp, 0, none⟩ (.int .i64 a1) := ⟨_, rfl⟩
          rw [← hw1s] at HQ1 ⊢
          clear hw1s
          refine (num_v (x := 1) rfl Ha2.out w1s HQ1.out.g.g.st HQ1.out.g.g.ok).mono ?_
          rintro e w2' ⟨rfl, hst1, hgr1⟩
          have HP2 := Lib.hid (show PB w g2 gx rb ⟨v1, AP, nP', cP', RP, A', n', c', R, none, 0, 0, [], v2⟩ 46 gp wr s2' [.int .i64 a1, .int .i64 0, .int .i64 0] w2' from by have h := HQ1.out.num (k := 1) (by rw [Ha2.out]; exact hst1) hgr1; rw [Ha2.out] at h; exact h)
          clear hst1 hgr1 HQ1
          have k0 := HP2.out.pb.cell (i := 1) rfl
          have k1 := HP2.out.pb.frozen 1
          go_wp2_with fail
          have HQ2 := Lib.hid (show PB w g2 gx rb ⟨v1, AP, nP', cP', RP, A', n', c', R, none, 0, 0, [], v2⟩ 46 gp wr s2' [.int .i64 a1, .int .i64 a2, .int .i64 0] (w2'.setCell ⟨gp, 1, none⟩ (.int .i64 a2)) from HP2.out.set 1 (.int .i64 a2))
          clear k0 k1 HP2
          obtain ⟨w2s, hw2s⟩ : ∃ w2s, w2s = w2'.setCell ⟨gp, 1, none⟩ (.int .i64 a2) := ⟨_, rfl⟩
          rw [← hw2s] at HQ2 ⊢
          clear hw2s
          refine (num_v (x := 1) rfl Ha3.out w2s HQ2.out.g.g.st HQ2.out.g.g.ok).mono ?_
          rintro e w3' ⟨rfl, hst1, hgr1⟩
          have HP3 := Lib.hid (show PB w g2 gx rb ⟨v1, AP, nP', cP', RP, A', n', c', R, none, 0, 0, [], v2⟩ 46 gp wr s3 [.int .i64 a1, .int .i64 a2, .int .i64 0] w3' from by have h := HQ2.out.num (k := 1) (by rw [Ha3.out]; exact hst1) hgr1; rw [Ha3.out] at h; exact h)
          clear hst1 hgr1 HQ2
          have k0 := HP3.out.pb.cell (i := 2) rfl
          have k1 := HP3.out.pb.frozen 2
          have HQ3 := Lib.hid (show PB w g2 gx rb ⟨v1, AP, nP', cP', RP, A', n', c', R, none, 0, 0, [], v2⟩ 46 gp wr s3 [.int .i64 a1, .int .i64 a2, .int .i64 a3] (w3'.setCell ⟨gp, 2, none⟩ (.int .i64 a3)) from HP3.out.set 2 (.int .i64 a3))
          go_upto_region 23 with (fail)
          clear k0 k1 HP3
          obtain ⟨w3s, hw3s⟩ : ∃ w3s, w3s = w3'.setCell ⟨gp, 2, none⟩ (.int .i64 a3) := ⟨_, rfl⟩
          rw [← hw3s] at HQ3 ⊢
          clear hw3s
          have y0 := HQ3.out.pb.cell (i := 0) rfl
          have y1 := HQ3.out.pb.cell (i := 1) rfl
          have y2 := HQ3.out.pb.cell (i := 2) rfl
          have x2 : w3s.cell? ⟨gx, 2, none⟩ = some (.slice A' n' c') := HQ3.out.g.xb.cell rfl
          have hl3 : gx < w3s.heap.size := HQ3.out.g.xb.lt
          have hlp := HQ3.out.lp
          have hnew := HQ3.out.new_
          have HO3 := Lib.hid (own_keep4 HOW.out HQ3.out.kp (fun i hi => by
            rcases hi with hi | hi
            · left; omega
            · right; omega))
          have hB3 : wS.heap.size ≤ w3s.heap.size := Nat.le_trans hBr HQ3.out.kp.size
          go_wp2_with (at_builtin; refine wpList_add3 rfl (.tmp 68) (.tmp 70) 23 rfl wS.heap.size 46 ic _ 24 Try.underlying23 hic hiz his hib rfl (.slice A' n' c') n' _ rfl (own_al HO3.out (.cells #[.int .i64 a1, .int .i64 a2, .int .i64 a3] 46)) (some ⟨w3s.heap.size, 0, none⟩) 1 1 [⟨a1, a2, a3⟩] rfl (one_tris (Blk.new w3s 46 (Tri.cells ⟨a1, a2, a3⟩)) HTO.out) (by omega) (by omega) (by simp; omega) ?_; intro A5 n5 c5 w5 hn5 hown5 hg5; have HK5 := Lib.hid (show Keep (fun i => wS.heap.size ≤ i) w3s w5 from (Keep.of_below (F := fun i => wS.heap.size ≤ i) ((Below.refl _ _).alloc (Nat.le_refl _) (.cells #[.int .i64 a1, .int .i64 a2, .int .i64 a3] 46))).trans (Keep.grown (F := fun i => wS.heap.size ≤ i) hg5 (fun i hi => (own_al HO3.out (.cells #[.int .i64 a1, .int .i64 a2, .int .i64 a3] 46)).lt i hi |>.1)) (fun _ h => .inl h)); have f5 := (HK5.out.blk HQ3.out.g.xb (by show ¬ wS.heap.size ≤ gx; omega)).frozen 2; have k5 : w5.cell? ⟨gx, 2, none⟩ = some (.slice A' n' c') := (HK5.out.blk HQ3.out.g.xb (by show ¬ wS.heap.size ≤ gx; omega)).cell rfl; clear hg5)
          have h5 := hown5.out
          rw [← tcells_app] at h5
          have kset : Keep (fun i => i = gx) w5 (w5.setCell ⟨gx, 2, none⟩ (.slice A5 n5 c5)) := Keep.set w5 2 _ rfl
          have HN := Lib.hid (show GS w g2 gx rb ⟨v1, AP, nP', cP', RP, A5, n5, c5, (R ++ [⟨a1, a2, a3⟩]), none, 0, 0, [], v2⟩ s3 (w5.setCell ⟨gx, 2, none⟩ (.slice A5 n5 c5)) from HQ3.out.g.put (HK5.out.mono (fun i _ hi => by show gx < i; have : wS.heap.size ≤ i := hi; omega)) 2 _ rfl)
          have HON := Lib.hid (own_keep3 h5 kset (fun i hi => by have : i = gx := hi; omega))
          have HKN := Lib.hid (((HKP.out.trans HQ3.out.kp (fun i h => by
            rcases h with h | h
            · exact .inl (.inl h)
            · right; omega)).trans HK5.out (fun i h => .inr h)).trans kset (fun i h => .inl (.inr h)))
          have HNN := Lib.hid (show n5 = k + 1 from by have := hn5.out; have := hn'.out; omega)
          clear h5 kset f5 k5 hown5 hn5 HK5 HQ3 HO3 y0 y1 y2 x2
          go_wp2_with fail
          go_roundw
          case rel => exact ⟨k + 1, A5, n5, c5, R ++ [⟨a1, a2, a3⟩], s3, by omega, by go_num, HNN, HRN, HON, HN, HKN⟩
          case measure => simp [intOf]; omega
        · obtain rfl : nw = k := by omega
          obtain ⟨AW, rfl⟩ : ∃ AW, AW = A' := ⟨_, rfl⟩
          obtain ⟨nW', rfl⟩ : ∃ nW', nW' = n' := ⟨_, rfl⟩
          obtain ⟨cW', rfl⟩ : ∃ cW', cW' = c' := ⟨_, rfl⟩
          obtain ⟨RW, rfl⟩ : ∃ RW, RW = R := ⟨_, rfl⟩
          obtain ⟨sW', rfl⟩ : ∃ sW', sW' = s := ⟨_, rfl⟩
          have HRMW := HRM
          have HGrW := HGr
          have HTRW := Lib.hid (show Tris wr AW nW' cW' RW from Tris.of_own HOW.out (by have h := rm_tri (k := 1) (.inl rfl) nw HGrP.out.g.ok; rw [HRM.out] at h; exact h))
          have HOAW := Lib.hid (show off rb nW' AW from off_own HOW.out (by have := HGr.out.lx; omega))
          have HOBW := Lib.hid (show off gx nW' AW from off_own HOW.out hgB)
          have HOGW := Lib.hid (show off g2 nW' AW from off_own HOW.out (by have := HGr.out.lx; have := HGr.out.g.lr; omega))
          have HKPW := HKP
          clear HRM HGr HOW HKP hn'
          have HTP2 := Lib.hid (tris_keep HTRP.out HKPW.out (fun hp b' o' hA h => Or.elim h (HOAP.out hp b' o' hA) (HOBP.out hp b' o' hA)))
          go_wp2_with fail
          obtain ⟨ic, hic, hiz, his, hib⟩ := Go.Proofs.Ytcgnlkckgfaomaa.TabF.info_of info_chan
          obtain ⟨wS, rfl⟩ : ∃ wS : World, wS = wr := ⟨_, rfl⟩
          have hgB : gx < wS.heap.size := HGrW.out.xb.lt
          go_loopw [13] (fun i wr => ∃ (k : Nat) (A' : Option Addr) (n' c' : Nat) (R : List Tri) (s : Rs), k ≤ nc ∧ i = .int .i64 k ∧ Hid (n' = k) ∧ Hid (rm 1 k sW' = (R, s)) ∧ Hid (wr.ownsRow wS.heap.size 51 3 (.slice A' n' c') n' (tcells R)) ∧ Hid (GS w g2 gx rb ⟨v1, AP, nP', cP', RP, AW, nW', cW', RW, A', n', c', R, v2⟩ s wr) ∧ Hid (Keep (fun i => i = rb ∨ i = gx) wS wr)) (fun i _ => nc - (intOf i).toNat)
          case atStart => exact ⟨0, none, 0, 0, [], sW', Nat.zero_le _, rfl, Lib.hid rfl, Lib.hid rfl, Lib.hid (nil_own _ _ _), HGrW, Lib.hid (Keep.refl _ _)⟩
          case round =>
            obtain ⟨k, A', n', c', R, s, hk, rfl, hn', HRM, HOW, HGr, HKP⟩ := hrel
            by_cases hlt : k < nc
            · obtain ⟨a1, s1, ha1⟩ := rn_ex 1 s
              obtain ⟨a2, s2', ha2⟩ := rn_ex 1 s1
              obtain ⟨a3, s3, ha3⟩ := rn_ex 1 s2'
              have Ha1 := Lib.hid ha1
              have Ha2 := Lib.hid ha2
              have Ha3 := Lib.hid ha3
              have HRT := Lib.hid (rt_eq ha1 ha2 ha3)
              have HRN := Lib.hid (rm_next HRM.out HRT.out)
              have HTO := Lib.hid (show Tri.ok ⟨a1, a2, a3⟩ from by have h := rt_tri (k := 1) (.inl rfl) HGr.out.g.ok; rw [HRT.out] at h; exact h)
              have hlx := HGr.out.lx
              have hgw : gx < wr.heap.size := HGr.out.xb.lt
              have hBr : wS.heap.size ≤ wr.heap.size := HKP.out.size
              have hnk : n' ≤ 255 := by have := hn'.out; omega
              have HP0 := Lib.hid (PB.new HGr.out 51)
              clear ha1 ha2 ha3
              go_wp2_with fail
              obtain ⟨wa, hwa⟩ : ∃ wa, wa = wr.alloc (.cells #[.int .i64 0, .int .i64 0, .int .i64 0] 51) := ⟨_, rfl⟩
              obtain ⟨gp, hgp⟩ : ∃ gp, gp = wr.heap.size := ⟨_, rfl⟩
              replace HP0 := Lib.hid (show PB w g2 gx rb ⟨v1, AP, nP', cP', RP, AW, nW', cW', RW, A', n', c', R, v2⟩ 51 gp wr s [.int .i64 0, .int .i64 0, .int .i64 0] wa from by rw [hwa, hgp]; exact HP0.out)
              rw [← hwa, ← hgp]
              clear hwa hgp
              refine (num_v (x := 1) rfl Ha1.out wa HP0.out.g.g.st HP0.out.g.g.ok).mono ?_
              rintro e w1' ⟨rfl, hst1, hgr1⟩
              have HP1 := Lib.hid (show PB w g2 gx rb ⟨v1, AP, nP', cP', RP, AW, nW', cW', RW, A', n', c', R, v2⟩ 51 gp wr s1 [.int .i64 0, .int .i64 0, .int .i64 0] w1' from by have h := HP0.out.num (k := 1) (by rw [Ha1.out]; exact hst1) hgr1; rw [Ha1.out] at h; exact h)
              clear hst1 hgr1 HP0
              have k0 := HP1.out.pb.cell (i := 0) rfl
              have k1 := HP1.out.pb.frozen 0
              go_wp2_with fail
              have HQ1 := Lib.hid (show PB w g2 gx rb ⟨v1, AP, nP', cP', RP, AW, nW', cW', RW, A', n', c', R, v2⟩ 51 gp wr s1 [.int .i64 a1, .int .i64 0, .int .i64 0] (w1'.setCell ⟨gp, 0, none⟩ (.int .i64 a1)) from HP1.out.set 0 (.int .i64 a1))
              clear k0 k1 HP1
              obtain ⟨w1s, hw1s⟩ : ∃ w1s, w1s = w1'.setCell ⟨gp, 0, none⟩ (.int .i64 a1) := ⟨_, rfl⟩
              rw [← hw1s] at HQ1 ⊢
              clear hw1s
              refine (num_v (x := 1) rfl Ha2.out w1s HQ1.out.g.g.st HQ1.out.g.g.ok).mono ?_
              rintro e w2' ⟨rfl, hst1, hgr1⟩
              have HP2 := Lib.hid (show PB w g2 gx rb ⟨v1, AP, nP', cP', RP, AW, nW', cW', RW, A', n', c', R, v2⟩ 51 gp wr s2' [.int .i64 a1, .int .i64 0, .int .i64 0] w2' from by have h := HQ1.out.num (k := 1) (by rw [Ha2.out]; exact hst1) hgr1; rw [Ha2.out] at h; exact h)
              clear hst1 hgr1 HQ1
              have k0 := HP2.out.pb.cell (i := 1) rfl
              have k1 := HP2.out.pb.frozen 1
              go_wp2_with fail
              have HQ2 := Lib.hid (show PB w g2 gx rb ⟨v1, AP, nP', cP', RP, AW, nW', cW', RW, A', n', c', R, v2⟩ 51 gp wr s2' [.int .i64 a1, .int .i64 a2, .int .i64 0] (w2'.setCell ⟨gp, 1, none⟩ (.int .i64 a2)) from HP2.out.set 1 (.int .i64 a2))
              clear k0 k1 HP2
              obtain ⟨w2s, hw2s⟩ : ∃ w2s, w2s = w2'.setCell ⟨gp, 1, none⟩ (.int .i64 a2) := ⟨_, rfl⟩
              rw [← hw2s] at HQ2 ⊢
              clear hw2s
              refine (num_v (x := 1) rfl Ha3.out w2s HQ2.out.g.g.st HQ2.out.g.g.ok).mono ?_
              rintro e w3' ⟨rfl, hst1, hgr1⟩
              have HP3 := Lib.hid (show PB w g2 gx rb ⟨v1, AP, nP', cP', RP, AW, nW', cW', RW, A', n', c', R, v2⟩ 51 gp wr s3 [.int .i64 a1, .int .i64 a2, .int .i64 0] w3' from by have h := HQ2.out.num (k := 1) (by rw [Ha3.out]; exact hst1) hgr1; rw [Ha3.out] at h; exact h)
              clear hst1 hgr1 HQ2
              have k0 := HP3.out.pb.cell (i := 2) rfl
              have k1 := HP3.out.pb.frozen 2
              have HQ3 := Lib.hid (show PB w g2 gx rb ⟨v1, AP, nP', cP', RP, AW, nW', cW', RW, A', n', c', R, v2⟩ 51 gp wr s3 [.int .i64 a1, .int .i64 a2, .int .i64 a3] (w3'.setCell ⟨gp, 2, none⟩ (.int .i64 a3)) from HP3.out.set 2 (.int .i64 a3))
              go_upto_region 31 with (fail)
              clear k0 k1 HP3
              obtain ⟨w3s, hw3s⟩ : ∃ w3s, w3s = w3'.setCell ⟨gp, 2, none⟩ (.int .i64 a3) := ⟨_, rfl⟩
              rw [← hw3s] at HQ3 ⊢
              clear hw3s
              have y0 := HQ3.out.pb.cell (i := 0) rfl
              have y1 := HQ3.out.pb.cell (i := 1) rfl
              have y2 := HQ3.out.pb.cell (i := 2) rfl
              have x3 : w3s.cell? ⟨gx, 3, none⟩ = some (.slice A' n' c') := HQ3.out.g.xb.cell rfl
              have hl3 : gx < w3s.heap.size := HQ3.out.g.xb.lt
              have hlp := HQ3.out.lp
              have hnew := HQ3.out.new_
              have HO3 := Lib.hid (own_keep4 HOW.out HQ3.out.kp (fun i hi => by
                rcases hi with hi | hi
                · left; omega
                · right; omega))
              have hB3 : wS.heap.size ≤ w3s.heap.size := Nat.le_trans hBr HQ3.out.kp.size
              go_wp2_with (at_builtin; refine wpList_add3 rfl (.tmp 89) (.tmp 91) 24 rfl wS.heap.size 51 ic _ 24 Try.underlying24 hic hiz his hib rfl (.slice A' n' c') n' _ rfl (own_al HO3.out (.cells #[.int .i64 a1, .int .i64 a2, .int .i64 a3] 51)) (some ⟨w3s.heap.size, 0, none⟩) 1 1 [⟨a1, a2, a3⟩] rfl (one_tris (Blk.new w3s 51 (Tri.cells ⟨a1, a2, a3⟩)) HTO.out) (by omega) (by omega) (by simp; omega) ?_; intro A5 n5 c5 w5 hn5 hown5 hg5; have HK5 := Lib.hid (show Keep (fun i => wS.heap.size ≤ i) w3s w5 from (Keep.of_below (F := fun i => wS.heap.size ≤ i) ((Below.refl _ _).alloc (Nat.le_refl _) (.cells #[.int .i64 a1, .int .i64 a2, .int .i64 a3] 51))).trans (Keep.grown (F := fun i => wS.heap.size ≤ i) hg5 (fun i hi => (own_al HO3.out (.cells #[.int .i64 a1, .int .i64 a2, .int .i64 a3] 51)).lt i hi |>.1)) (fun _ h => .inl h)); have f5 := (HK5.out.blk HQ3.out.g.xb (by show ¬ wS.heap.size ≤ gx; omega)).frozen 3; have k5 : w5.cell? ⟨gx, 3, none⟩ = some (.slice A' n' c') := (HK5.out.blk HQ3.out.g.xb (by show ¬ wS.heap.size ≤ gx; omega)).cell rfl; clear hg5)
              have h5 := hown5.out
              rw [← tcells_app] at h5
              have kset : Keep (fun i => i = gx) w5 (w5.setCell ⟨gx, 3, none⟩ (.slice A5 n5 c5)) := Keep.set w5 3 _ rfl
              have HN := Lib.hid (show GS w g2 gx rb ⟨v1, AP, nP', cP', RP, AW, nW', cW', RW, A5, n5, c5, (R ++ [⟨a1, a2, a3⟩]), v2⟩ s3 (w5.setCell ⟨gx, 3, none⟩ (.slice A5 n5 c5)) from HQ3.out.g.put (HK5.out.mono (fun i _ hi => by show gx < i; have : wS.heap.size ≤ i := hi; omega)) 3 _ rfl)
              have HON := Lib.hid (own_keep3 h5 kset (fun i hi => by have : i = gx := hi; omega))
              have HKN := Lib.hid (((HKP.out.trans HQ3.out.kp (fun i h => by
                rcases h with h | h
                · exact .inl (.inl h)
                · right; omega)).trans HK5.out (fun i h => .inr h)).trans kset (fun i h => .inl (.inr h)))
              have HNN := Lib.hid (show n5 = k + 1 from by have := hn5.out; have := hn'.out; omega)
              clear h5 kset f5 k5 hown5 hn5 HK5 HQ3 HO3 y0 y1 y2 x3
              go_wp2_with fail
              go_roundw
              case rel => exact ⟨k + 1, A5, n5, c5, R ++ [⟨a1, a2, a3⟩], s3, by omega, by go_num, HNN, HRN, HON, HN, HKN⟩
              case measure => simp [intOf]; omega
            · obtain rfl : nc = k := by omega
              obtain ⟨AC, rfl⟩ : ∃ AC, AC = A' := ⟨_, rfl⟩
              obtain ⟨nC', rfl⟩ : ∃ nC', nC' = n' := ⟨_, rfl⟩
              obtain ⟨cC', rfl⟩ : ∃ cC', cC' = c' := ⟨_, rfl⟩
              obtain ⟨RC, rfl⟩ : ∃ RC, RC = R := ⟨_, rfl⟩
              obtain ⟨sC', rfl⟩ : ∃ sC', sC' = s := ⟨_, rfl⟩
              have HRMC := HRM
              have HGrC := HGr
              have HTRC := Lib.hid (show Tris wr AC nC' cC' RC from Tris.of_own HOW.out (by have h := rm_tri (k := 1) (.inl rfl) nc HGrW.out.g.ok; rw [HRM.out] at h; exact h))
              have HOAC := Lib.hid (show off rb nC' AC from off_own HOW.out (by have := HGr.out.lx; omega))
              have HOBC := Lib.hid (show off gx nC' AC from off_own HOW.out hgB)
              have HOGC := Lib.hid (show off g2 nC' AC from off_own HOW.out (by have := HGr.out.lx; have := HGr.out.g.lr; omega))
              have HKPC := HKP
              clear HRM HGr HOW HKP hn'
              have HTP3 := Lib.hid (tris_keep HTP2.out HKPC.out (fun hp b' o' hA h => Or.elim h (HOAP.out hp b' o' hA) (HOBP.out hp b' o' hA)))
              have HTW3 := Lib.hid (tris_keep HTRW.out HKPC.out (fun hp b' o' hA h => Or.elim h (HOAW.out hp b' o' hA) (HOBW.out hp b' o' hA)))
              go_wp2_with fail
              have HTO := Lib.hid (show told s0 = ⟨v1, v2, RP, RW, RC⟩ ∧ sC s0 = sC' from by
                obtain ⟨f1, f2, f3, f4, f5, f6⟩ := HE1.out
                have f1 : (rn 1 s0).1 = v1 := f1
                have f2 : (rn 1 (rn 1 s0).2).1 = v2 := f2
                have e1 : rm 2 (nP s0) (s5 s0) = (RP, sP') := by rw [f4, f3]; exact HRMP.out
                have e2 : sP s0 = sP' := by unfold sP; rw [e1]
                have e3 : rm 1 (nW s0) (sP s0) = (RW, sW') := by rw [f5, e2]; exact HRMW.out
                have e4 : sW s0 = sW' := by unfold sW; rw [e3]
                have e5 : rm 1 (nC s0) (sW s0) = (RC, sC') := by rw [f6, e4]; exact HRMC.out
                have e6 : sC s0 = sC' := by unfold sC; rw [e5]
                refine ⟨?_, e6⟩
                unfold told
                rw [e1, e3, e5, f1, f2])
              have HBD := Lib.hid (show (0 ≤ v1 ∧ v1 < 256) ∧ (0 ≤ v2 ∧ v2 < 256) from by
                have e1 : (256 : Int) ^ 1 = 256 := by decide
                have h1 := rn_bd (k := 1) (.inl rfl) H8.out
                have h2 := rn_bd (k := 1) (.inl rfl) (rn_ok (k := 1) H8.out)
                rw [Hv1.out] at h1 h2
                rw [Hv2.out] at h2
                rw [e1] at h1 h2
                exact ⟨h1, h2⟩)
              have HOK := Lib.hid (show Ta.ok wr ⟨v1, AP, nP', cP', RP, AW, nW', cW', RW, AC, nC', cC', RC, v2⟩ from ⟨HTP3.out, HTW3.out, HTRC.out, by have := HBD.out.1.1; show _ ≤ v1; omega, by have := HBD.out.1.2; show v1 ≤ _; omega, by have := HBD.out.2.1; show _ ≤ v2; omega, by have := HBD.out.2.2; show v2 ≤ _; omega⟩)
              clear HTP3 HTW3 HTRC HRMP HRMW HRMC HE1 Hv1 Hv2 Hv3 Hv4 Hv5 HKPP HKPW HKPC HTRP HTP2 HTRW H8 HBD
              refine (rend_any _ _ _ _ HGrC.out.g.st).mono ?_
              rintro e w9 ⟨rfl, nq9, rfl⟩
              have hbq : Below wr.heap.size wr (wr.drewN nq9) := below_drewN (Below.refl _ _) nq9
              replace HGrC := Lib.hid (HGrC.out.step hbq)
              replace HOK := Lib.hid (HOK.out.below hbq)
              obtain ⟨wq, hwq⟩ : ∃ wq, wq = wr.drewN nq9 := ⟨_, rfl⟩
              rw [← hwq] at HGrC HOK ⊢
              clear hwq hbq
              have HEN := Lib.hid (show endN (sC s0).1 (sC s0).2 = endN sC'.1 sC'.2 from by rw [HTO.out.2])
              obtain ⟨en, hen⟩ : ∃ en, en = endN sC'.1 sC'.2 := ⟨_, rfl⟩
              rw [← hen] at HEN ⊢
              clear hen
              by_cases hz : en = 0
              · subst hz
                obtain ⟨br, hbr⟩ := bool_of (TOk v1 v2 RP RW RC)
                have HBR := Lib.hid hbr
                clear hbr
                go_wp2_with (first
                 | (refine wpList_load_blk rfl 26 _ rfl gx rfl HGrC.out.xb Try.underlying26 rfl size_table ?_))
                refine (Go.Proofs.Ytcgnlkckgfaomaa.TabK.rright_any ⟨v1, AP, nP', cP', RP, AW, nW', cW', RW, AC, nC', cC', RC, v2⟩ wq HOK.out br HBR.out).mono ?_
                rintro e w8 ⟨rfl, hb8⟩
                have HG8 := Lib.hid (HGrC.out.step hb8)
                have HOK8 := Lib.hid (HOK.out.below hb8)
                clear hb8 HOK
                cases br with
                | true =>
                  have HR := Lib.hid (HBR.out.1 rfl)
                  clear HBR
                  go_wp2_with (first
                   | (refine wpList_load_blk rfl 26 _ rfl gx rfl HG8.out.xb Try.underlying26 rfl size_table ?_)
                   | (refine wpList_store_blk rfl 26 (.tmp 2) (.tmp 104) rfl g2 rfl (Ta.cells ⟨v1, AP, nP', cP', RP, AW, nW', cW', RW, AC, nC', cC', RC, v2⟩) rfl HG8.out.g.b2 rfl size_table (by intro u hu; simp [zeroT, Ta.cells] at hu; rcases hu with rfl | rfl | rfl | rfl | rfl <;> rfl) ?_; intro w9 hB9 ho9))
                  have e0 := hB9.out.cell (i := 0) rfl
                  have e1 := hB9.out.cell (i := 1) rfl
                  have e2 := hB9.out.cell (i := 2) rfl
                  have e3 := hB9.out.cell (i := 3) rfl
                  have e4 := hB9.out.cell (i := 4) rfl
                  refine bodyPost_ret (v := .tuple #[Ta.val ⟨v1, AP, nP', cP', RP, AW, nW', cW', RW, AC, nC', cC', RC, v2⟩, .int .i64 0]) (by simp [results, Try.results18, go_sem, e0, e1, e2, e3, e4]) rfl ?_
                  have kp : Keep (fun i => i = g2) w8 w9 := Keep.only ho9.out rfl
                  have hT := HTO.out.1
                  refine ⟨_, _, rfl, ⟨tris_keep HOK8.out.P kp HOGP.out, tris_keep HOK8.out.W kp HOGW.out, tris_keep HOK8.out.C kp HOGC.out, HOK8.out.f0, HOK8.out.f1, HOK8.out.t0, HOK8.out.t1⟩, ho9.out.below HG8.out.g.bel HG8.out.g.l2 HG8.out.g.bel.size, .inl ⟨HEN.out, ?_, rfl, ?_, ?_, ?_, ?_, ?_⟩⟩
                  · rw [hT]; exact HR.out
                  · rw [hT]
                  · rw [hT]
                  · rw [hT]
                  · rw [hT]
                  · rw [hT]
                | false =>
                  have HR := Lib.hid (show ¬ TOk v1 v2 RP RW RC from fun h => by have := HBR.out.2 h; cases this)
                  clear HBR
                  go_wp2_with (first
                   | (refine wpList_store_blk rfl 26 (.tmp 2) (.tmp 103) rfl g2 rfl zeroT rfl HG8.out.g.b2 rfl size_table (by intro u hu; simp [zeroT, Ta.cells] at hu; rcases hu with rfl | rfl | rfl | rfl | rfl <;> rfl) ?_; intro w9 hB9 ho9))
                  have e0 := hB9.out.cell (i := 0) rfl
                  have e1 := hB9.out.cell (i := 1) rfl
                  have e2 := hB9.out.cell (i := 2) rfl
                  have e3 := hB9.out.cell (i := 3) rfl
                  have e4 := hB9.out.cell (i := 4) rfl
                  refine bodyPost_ret (v := .tuple #[Ta.val ⟨0, none, 0, 0, [], none, 0, 0, [], none, 0, 0, [], 0⟩, .int .i64 9]) (by simp [results, Try.results18, go_sem, e0, e1, e2, e3, e4]) rfl ?_
                  exact ⟨_, _, rfl, zero_ok w9, ho9.out.below HG8.out.g.bel HG8.out.g.l2 HG8.out.g.bel.size, .inr ⟨fun h => HR.out (by have h2 := h.2; rw [HTO.out.1] at h2; exact h2), by rw [if_pos HEN.out], rfl⟩⟩
              · have hne : (en != 0) = true := by simp [hz]
                have HGrD := Lib.hid (fun (h : True) => rend_any _ _ _ _ HGrC.out.g.st)
                have HEQ := Lib.hid (show endN sC'.1 sC'.2 = en from by rw [← HTO.out.2]; exact HEN.out)
                rw [HEQ.out] at HGrD
                go_wp2_with (first
                 | (go_at_call 37; refine (HGrD.out trivial).mono ?_; rintro e w8 ⟨rfl, nq8, rfl⟩; have HG8 := Lib.hid (HGrC.out.step (below_drewN (Below.refl wq.heap.size wq) nq8)))
                 | (refine wpList_store_blk rfl 26 (.tmp 2) (.tmp 97) rfl g2 rfl zeroT rfl HG8.out.g.b2 rfl size_table (by intro u hu; simp [zeroT, Ta.cells] at hu; rcases hu with rfl | rfl | rfl | rfl | rfl <;> rfl) ?_; intro w9 hB9 ho9))
                have e0 := hB9.out.cell (i := 0) rfl
                have e1 := hB9.out.cell (i := 1) rfl
                have e2 := hB9.out.cell (i := 2) rfl
                have e3 := hB9.out.cell (i := 3) rfl
                have e4 := hB9.out.cell (i := 4) rfl
                refine bodyPost_ret (v := .tuple #[Ta.val ⟨0, none, 0, 0, [], none, 0, 0, [], none, 0, 0, [], 0⟩, .int .i64 en]) (by simp [results, Try.results18, go_sem, e0, e1, e2, e3, e4]) rfl ?_
                exact ⟨_, _, rfl, zero_ok w9, ho9.out.below HG8.out.g.bel HG8.out.g.l2 HG8.out.g.bel.size, .inr ⟨fun h => hz (by rw [← HEN.out]; exact h.1), by rw [if_neg (by rw [HEN.out]; exact hz)]; exact HEN.out.symm, rfl⟩⟩
end Go.Proofs.Ytcgnlkckgfaomaa.TabZ
