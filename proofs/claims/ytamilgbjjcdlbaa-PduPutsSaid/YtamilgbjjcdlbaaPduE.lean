/- What the reference reads of a message's head, of any bytes. Conditions: the bytes lie as the facts say. -/
import Derived.Test.YtamilgbjjcdlbaaPduR
import Derived.Test.YtamilgbjjcdlbaaPduA
import Derived.Test.YtamilgbjjcdlbaaTabYE
import Derived.Test.YtamilgbjjcdlbaaSame
namespace Go.Proofs.Ytamilgbjjcdlbaa.PduE
open Go.RowKit Go.Proofs.Ytamilgbjjcdlbaa.Kit Go.Proofs.Ytamilgbjjcdlbaa.Byt Go.Proofs.Ytamilgbjjcdlbaa.Mem Go.Proofs.Ytamilgbjjcdlbaa.RecM Go.Proofs.Ytamilgbjjcdlbaa.TabR Go.Proofs.Ytamilgbjjcdlbaa.TabY Go.Proofs.Ytamilgbjjcdlbaa.PduM Go.Proofs.Ytamilgbjjcdlbaa.PduR Go.Proofs.Ytamilgbjjcdlbaa.PduA

/-- The reader's state behind reads of so many bytes each; the number that is read behind them. -/
def sl (ks ys : List Nat) : List Int × Int := rdl ks (nl ys, 0)
def vl (ks : List Nat) (k : Nat) (ys : List Nat) : Int := (rdN k (sl ks ys).1 (sl ks ys).2).1
theorem rdl_bytes : ∀ (ks : List Nat) (s : List Int × Int), (∀ u ∈ s.1, 0 ≤ u ∧ u ≤ 255) → ∀ u ∈ (rdl ks s).1, 0 ≤ u ∧ u ≤ 255
  | [], _, h => h
  | k :: ks, s, h => rdl_bytes ks _ (rdN_bytes h)
theorem sl_bytes {ys : List Nat} (hb : byt ys) (ks : List Nat) : ∀ u ∈ (sl ks ys).1, 0 ≤ u ∧ u ≤ 255 := rdl_bytes ks _ (nl_255 hb)
theorem vl_ok {ys ks : List Nat} {k : Nat} (h : ks.sum + k ≤ ys.length) : vl ks k ys = nm ys ks.sum k := by
  have h1 := rdl_ok ks 0 (show 0 + ks.sum ≤ ys.length by omega)
  rw [List.drop_zero, Nat.zero_add] at h1
  unfold vl sl
  rw [h1, rd_ok h]
theorem vl_first (ys : List Nat) : vl [] 1 ys = nm ys 0 1 := by
  by_cases h : 1 ≤ ys.length
  · exact vl_ok (ks := []) (by simpa using h)
  · obtain rfl : ys = [] := List.eq_nil_of_length_eq_zero (by omega)
    rfl
/-- How reading ends. -/
def en (ks ys : List Nat) : Int := endN (sl ks ys).1 (sl ks ys).2
theorem parse_of {ys ks : List Nat} {k : Int} (hk : nm ys 0 1 = k) (h18 : 1 ≤ k ∧ k ≤ 8) (hs : hl k = ks.sum) : parse ys = if en ks ys = 0 then (msg k ys, 0) else (Pd.none, en ks ys) := by
  have h := end_rdl ys ks
  have he : en ks ys = if ys.length < ks.sum then 1 else if ks.sum < ys.length then 2 else 0 := h
  unfold parse
  rw [hk, if_neg (by omega), hs, he]
  by_cases h1 : ys.length < ks.sum
  · simp [h1]
  · by_cases h2 : ks.sum < ys.length
    · simp [h1, h2]
    · simp [h1, h2]
theorem en_len {ys ks : List Nat} (h : en ks ys = 0) : ks.sum ≤ ys.length := by
  have he : en ks ys = if ys.length < ks.sum then 1 else if ks.sum < ys.length then 2 else 0 := end_rdl ys ks
  rw [he] at h
  split at h
  · omega
  · omega

/-- The result's box, the reader, the message's box. -/
structure Fp (w : World) (g2 rb gx : Nat) (s : List Int × Int) (cs : List Value) (wr : World) : Prop where
  b2 : Blk wr g2 24 Pu.none.cells
  bx : Blk wr gx 24 cs
  st : SR wr rb s.1 s.2
  bel : Below w.heap.size w wr
  l2 : w.heap.size ≤ g2
  lr : g2 < rb
  lx : rb < gx
section
variable {w wr w' : World} {g2 rb gx : Nat} {s s' : List Int × Int} {cs : List Value}
theorem Fp.num (h : Fp w g2 rb gx s cs wr) (h1 : SR w' rb s'.1 s'.2) (hg : wr.grownBy w' (some rb)) : Fp w g2 rb gx s' cs w' := by
  have l2 := h.l2
  have lr := h.lr
  have lx := h.lx
  have k1 : Keep (fun i => i = rb) wr w' := Keep.grown hg fun i hi => by injection hi with hi; exact hi.symm
  exact ⟨k1.blk h.b2 (by show ¬ g2 = rb; omega), k1.blk h.bx (by show ¬ gx = rb; omega), h1, h.bel.trans (k1.below (fun i hi => by have : i = rb := hi; omega) h.bel.size), h.l2, h.lr, h.lx⟩
theorem Fp.set (h : Fp w g2 rb gx s cs wr) (j : Nat) (v : Value) : Fp w g2 rb gx s (cs.set j v) (wr.setCell ⟨gx, j, none⟩ v) := by
  have l2 := h.l2
  have lr := h.lr
  have lx := h.lx
  have k1 : Keep (fun i => i = gx) wr (wr.setCell ⟨gx, j, none⟩ v) := Keep.set (F := fun i => i = gx) wr j v rfl
  exact ⟨k1.blk h.b2 (by show ¬ g2 = gx; omega), h.bx.set j v, SR.keep h.st k1 (fun i hi => by have : i = gx := hi; omega), h.bel.trans (k1.below (fun i hi => by have : i = gx := hi; omega) h.bel.size), h.l2, h.lr, h.lx⟩
theorem Fp.drewN (h : Fp w g2 rb gx s cs wr) (n : Nat) : Fp w g2 rb gx s cs (wr.drewN n) :=
  ⟨h.b2, h.bx, SR.below h.st ⟨rfl, rfl, rfl, Nat.le_refl _, fun _ _ => rfl⟩, below_drewN h.bel n, h.l2, h.lr, h.lx⟩
end
theorem num_s (b : Nat) (q : Int) (k : Nat) (ks ks' ys : List Nat) (w : World) (hq : NumA.wd q = k) (hb : byt ys) (hs : sl ks' ys = (rdN k (sl ks ys).1 (sl ks ys).2).2) (h : SR w b (sl ks ys).1 (sl ks ys).2) :
    Calls Try.prog 37 #[.pointer (some ⟨b, 0, none⟩), .int .i64 q] w fun e w' => e = .returned (.int .i64 (vl ks k ys)) ∧ SR w' b (sl ks' ys).1 (sl ks' ys).2 ∧ w.grownBy w' (some b) := by
  refine (rnum_any b q _ _ w h (sl_bytes hb ks)).mono ?_
  rintro e w' ⟨he, h1, hg⟩
  rw [hq] at he h1
  rw [hs]
  exact ⟨he, h1, hg⟩
/-- Bytes don't mind what is written into a block of other cells. -/
theorem rd_other {w w' : World} {A : Option Addr} {n c g : Nat} {xs : List Nat} {t : TypeId} {cs : List Value} (hr : Rd w A n c (u8n xs)) (hG : Blk w g t cs) (hcs : ∀ x, Value.int .u8 x ∉ cs) (K : Keep (fun i => i = g) w w') : Rd w' A n c (u8n xs) :=
  K.rd hr (fun hp b' o' he hF => by
    obtain ⟨b2, o2, he2, _, hc⟩ := hr.2.2.2 hp
    rw [he] at he2
    injection he2 with he2
    injection he2 with e1 _
    have hl : 0 < xs.length := by have := Rd.nats hr; omega
    have h0 := hc 0 (.int .u8 (xs[0] : Nat)) (by simp [u8n, hl])
    rw [← e1, show b' = g from hF, cell_of_row _ _ _ _ _ _ hG] at h0
    have h1 : cs[o2 + 0]? = some (.int .u8 (xs[0] : Nat)) := by simpa using h0
    exact hcs _ (List.mem_of_getElem? h1))
theorem no_u8 (i : Pu) : ∀ x, Value.int .u8 x ∉ i.cells := by intro x h; simp [Pu.cells] at h
/-- What is handed back. -/
def Tells (w : World) (P : Pd × Int) (e : Ending) (w' : World) : Prop := ∃ i : Pu, e = .returned (.tuple #[i.val, .int .i64 P.2]) ∧ i.pd = P.1 ∧ i.ok w' ∧ Below w.heap.size w w'

set_option maxRecDepth 100000 in
set_option maxHeartbeats 3200000 in
theorem parse1 (A : Option Addr) (n c : Nat) (ys : List Nat) (w : World) (hR : Rd w A n c (u8n ys)) (hb : byt ys) (hv : vl [] 1 ys = 1) : Calls Try.prog 25 #[.slice A n c] w (Tells w (parse ys)) := by
  have HK := Lib.hid (show nm ys 0 1 = 1 from by rw [← vl_first]; exact hv)
  have hB2 := Blk.new w 24 Pu.none.cells
  have hbl : Below w.heap.size w (w.alloc (.cells Pu.none.cells.toArray 24)) := (Below.refl _ _).alloc (Nat.le_refl _) _
  have hs1 : (w.alloc (.cells Pu.none.cells.toArray 24)).heap.size = w.heap.size + 1 := by simp
  have hRz := hR.below hbl
  have hRB := Blk.new (w.alloc (.cells Pu.none.cells.toArray 24)) 61 [.slice A n c, .int .i64 0, .int .i64 0]
  have hfar : 0 < n → ∀ g o, A = some ⟨g, o, none⟩ → g < w.heap.size := fun h0 g o hA => by
    obtain ⟨g', o', hA', hlt, _⟩ := hR.2.2.2 h0
    rw [hA] at hA'
    injection hA' with hA'
    injection hA' with h1 _
    omega
  rw [hs1] at hRB
  have hST : SR ((w.alloc (.cells Pu.none.cells.toArray 24)).alloc (.cells [.slice A n c, .int .i64 0, .int .i64 0].toArray 61)) (w.heap.size + 1) (sl [] ys).1 (sl [] ys).2 :=
    ⟨A, n, c, 0, nl ys, hRB, by rw [← nl_u8s]; exact hRz.alloc _, by omega, by simp [sl, rdl], fun h0 g o hA => by have := hfar h0 g o hA; omega⟩
  have hB2' := hB2.alloc (.cells [.slice A n c, .int .i64 0, .int .i64 0].toArray 61)
  have hbl' := hbl.alloc (by rw [hs1]; omega) (.cells [.slice A n c, .int .i64 0, .int .i64 0].toArray 61)
  have hs2 : ((w.alloc (.cells Pu.none.cells.toArray 24)).alloc (.cells [.slice A n c, .int .i64 0, .int .i64 0].toArray 61)).heap.size = w.heap.size + 2 := by simp
  have HB := Lib.hid hb
  clear hB2 hbl hRz hRB hfar hb hR
  obtain ⟨w1, hw1⟩ : ∃ w1, w1 = ((w.alloc (.cells Pu.none.cells.toArray 24)).alloc (.cells [.slice A n c, .int .i64 0, .int .i64 0].toArray 61)) := ⟨_, rfl⟩
  rw [← hw1] at hST hB2' hbl' hs2
  have HW1 := Lib.hid (show ((w.alloc (.cells #[.int .i64 0, .int .i64 0, .int .i64 0, .int .i64 0, .int .i64 0, .int .i64 0, .int .i64 0, .int .i64 0, .slice none 0 0] 24)).alloc (.cells #[.slice A n c, .int .i64 0, .int .i64 0] 61)) = w1 from hw1.symm)
  have HST := Lib.hid hST
  have HB2 := Lib.hid hB2'
  have HL1 := Lib.hid hbl'
  have HS2 := Lib.hid hs2
  clear hw1 hST hB2' hbl' hs1 hs2
  go_enter Try.func25, Try.ntmps25
  go_wp2_with fail
  rw [HW1.out]
  clear HW1
  refine (num_s (w.heap.size + 1) 1 1 [] [1] ys w1 rfl HB.out rfl HST.out).mono ?_
  rintro e w2 ⟨rfl, hst, hgr⟩
  rw [hv]
  have hlt2 := HL1.out.size
  have hk2 : Keep (fun i => i = w.heap.size + 1) w1 w2 := Keep.grown hgr fun i hi => by injection hi with hi; exact hi.symm
  have F0 := Lib.hid (show Fp w w.heap.size (w.heap.size + 1) w2.heap.size (sl [1] ys) [.int .i64 1, .int .i64 0, .int .i64 0, .int .i64 0, .int .i64 0, .int .i64 0, .int .i64 0, .int .i64 0, .slice none 0 0] (w2.alloc (.cells #[.int .i64 1, .int .i64 0, .int .i64 0, .int .i64 0, .int .i64 0, .int .i64 0, .int .i64 0, .int .i64 0, .slice none 0 0] 24)) from
    ⟨(hk2.blk HB2.out (by show ¬ w.heap.size = w.heap.size + 1; omega)).alloc _, Blk.new w2 _ [.int .i64 1, .int .i64 0, .int .i64 0, .int .i64 0, .int .i64 0, .int .i64 0, .int .i64 0, .int .i64 0, .slice none 0 0], SR.below hst ((Below.refl _ _).alloc (Nat.le_refl _) _), (HL1.out.trans (hk2.below (fun i hi => by have : i = w.heap.size + 1 := hi; omega) hlt2)).alloc (by have := hk2.size; omega) _, Nat.le_refl _, by omega, by have := hk2.size; have := HS2.out; omega⟩)
  have hy0 := F0.out.bx.cell (i := 0) rfl
  go_wp2_with fail
  obtain ⟨gx, hgx⟩ : ∃ gx, gx = w2.heap.size := ⟨_, rfl⟩
  rw [← hgx] at F0
  rw [← hgx]
  clear hgx hst hgr hk2 hy0 HB2 HL1 HST HS2
  generalize w2.alloc (.cells #[.int .i64 1, .int .i64 0, .int .i64 0, .int .i64 0, .int .i64 0, .int .i64 0, .int .i64 0, .int .i64 0, .slice none 0 0] 24) = u0 at *
  refine (num_s (w.heap.size + 1) 2 2 [1] [1, 2] ys u0 rfl HB.out rfl F0.out.st).mono ?_
  rintro e v0 ⟨rfl, hst, hgr⟩
  have hF := F0.out.num hst hgr
  have c0 := hF.bx.cell (i := 0) rfl
  have cj := hF.bx.cell (i := 1) rfl
  have fj := hF.bx.frozen 1
  have G0 := Lib.hid (show Fp w w.heap.size (w.heap.size + 1) gx (sl [1, 2] ys) [.int .i64 1, .int .i64 (vl [1] 2 ys), .int .i64 0, .int .i64 0, .int .i64 0, .int .i64 0, .int .i64 0, .int .i64 0, .slice none 0 0] (v0.setCell ⟨gx, 1, none⟩ (.int .i64 (vl [1] 2 ys))) from hF.set 1 (.int .i64 (vl [1] 2 ys)))
  have hy0 := G0.out.bx.cell (i := 0) rfl
  clear hst hgr hF F0
  go_wp2_with fail
  obtain ⟨u1, hu⟩ : ∃ u, u = v0.setCell ⟨gx, 1, none⟩ (.int .i64 (vl [1] 2 ys)) := ⟨_, rfl⟩
  rw [← hu] at G0 ⊢
  have F0 := G0
  clear hu c0 cj fj G0 hy0
  refine (num_s (w.heap.size + 1) 1 1 [1, 2] [1, 2, 1] ys u1 rfl HB.out rfl F0.out.st).mono ?_
  rintro e v1 ⟨rfl, hst, hgr⟩
  have hF := F0.out.num hst hgr
  have c0 := hF.bx.cell (i := 0) rfl
  have cj := hF.bx.cell (i := 2) rfl
  have fj := hF.bx.frozen 2
  have G0 := Lib.hid (show Fp w w.heap.size (w.heap.size + 1) gx (sl [1, 2, 1] ys) [.int .i64 1, .int .i64 (vl [1] 2 ys), .int .i64 (vl [1, 2] 1 ys), .int .i64 0, .int .i64 0, .int .i64 0, .int .i64 0, .int .i64 0, .slice none 0 0] (v1.setCell ⟨gx, 2, none⟩ (.int .i64 (vl [1, 2] 1 ys))) from hF.set 2 (.int .i64 (vl [1, 2] 1 ys)))
  have hy0 := G0.out.bx.cell (i := 0) rfl
  clear hst hgr hF F0
  go_wp2_with fail
  obtain ⟨u2, hu⟩ : ∃ u, u = v1.setCell ⟨gx, 2, none⟩ (.int .i64 (vl [1, 2] 1 ys)) := ⟨_, rfl⟩
  rw [← hu] at G0 ⊢
  have F0 := G0
  clear hu c0 cj fj G0 hy0
  refine (num_s (w.heap.size + 1) 2 2 [1, 2, 1] [1, 2, 1, 2] ys u2 rfl HB.out rfl F0.out.st).mono ?_
  rintro e v2 ⟨rfl, hst, hgr⟩
  have hF := F0.out.num hst hgr
  have c0 := hF.bx.cell (i := 0) rfl
  have cj := hF.bx.cell (i := 4) rfl
  have fj := hF.bx.frozen 4
  have G0 := Lib.hid (show Fp w w.heap.size (w.heap.size + 1) gx (sl [1, 2, 1, 2] ys) [.int .i64 1, .int .i64 (vl [1] 2 ys), .int .i64 (vl [1, 2] 1 ys), .int .i64 0, .int .i64 (vl [1, 2, 1] 2 ys), .int .i64 0, .int .i64 0, .int .i64 0, .slice none 0 0] (v2.setCell ⟨gx, 4, none⟩ (.int .i64 (vl [1, 2, 1] 2 ys))) from hF.set 4 (.int .i64 (vl [1, 2, 1] 2 ys)))
  have hy0 := G0.out.bx.cell (i := 0) rfl
  clear hst hgr hF F0
  go_wp2_with fail
  obtain ⟨u3, hu⟩ : ∃ u, u = v2.setCell ⟨gx, 4, none⟩ (.int .i64 (vl [1, 2, 1] 2 ys)) := ⟨_, rfl⟩
  rw [← hu] at G0 ⊢
  have F0 := G0
  clear hu c0 cj fj G0 hy0
  have hF := F0
  obtain ⟨E, hE⟩ : ∃ E, E = en [1, 2, 1, 2] ys := ⟨_, rfl⟩
  have HE := Lib.hid hE
  clear hE
  refine (rend_any _ _ _ _ hF.out.st).mono ?_
  rintro e w8 ⟨rfl, n8, rfl⟩
  rw [show endN (sl [1, 2, 1, 2] ys).1 (sl [1, 2, 1, 2] ys).2 = E from HE.out.symm]
  have F8 := Lib.hid (hF.out.drewN n8)
  obtain ⟨u8, hu8⟩ : ∃ u8, u8 = u3.drewN n8 := ⟨_, rfl⟩
  rw [← hu8] at F8 ⊢
  clear hu8 hF F0
  by_cases hE0 : E = 0
  · have hP : parse ys = (msg 1 ys, 0) := by rw [parse_of HK.out (by omega) (by rfl : hl 1 = List.sum [1, 2, 1, 2]), if_pos (by rw [← HE.out]; exact hE0)]
    have hlen := en_len (ks := [1, 2, 1, 2]) (ys := ys) (by rw [← HE.out]; exact hE0)
    have hEb : (E != 0) = false := by simp [hE0]
    subst hE0
    go_wp2_with (first
      | (refine wpList_load_blk rfl 24 _ rfl gx rfl F8.out.bx Try.underlying24 rfl size_pdu ?_)
      | (refine wpList_store_blk rfl 24 (.tmp 2) (.tmp 89) rfl w.heap.size rfl (Pu.cells ⟨1, (vl [1] 2 ys), (vl [1, 2] 1 ys), 0, (vl [1, 2, 1] 2 ys), 0, 0, 0, none, 0, 0, []⟩) rfl F8.out.b2 rfl size_pdu (one_p ⟨1, (vl [1] 2 ys), (vl [1, 2] 1 ys), 0, (vl [1, 2, 1] 2 ys), 0, 0, 0, none, 0, 0, []⟩) ?_; intro w9 hB9 ho9))
    have e0 := hB9.out.cell (i := 0) rfl
    have e1 := hB9.out.cell (i := 1) rfl
    have e2 := hB9.out.cell (i := 2) rfl
    have e3 := hB9.out.cell (i := 3) rfl
    have e4 := hB9.out.cell (i := 4) rfl
    have e5 := hB9.out.cell (i := 5) rfl
    have e6 := hB9.out.cell (i := 6) rfl
    have e7 := hB9.out.cell (i := 7) rfl
    have e8 := hB9.out.cell (i := 8) rfl
    refine bodyPost_ret (v := .tuple #[Pu.val ⟨1, (vl [1] 2 ys), (vl [1, 2] 1 ys), 0, (vl [1, 2, 1] 2 ys), 0, 0, 0, none, 0, 0, []⟩, .int .i64 0]) (by simp [results, Try.results25, go_sem, e0, e1, e2, e3, e4, e5, e6, e7, e8]) rfl ?_
    have kp9 : Keep (fun i => i = w.heap.size) u8 w9 := Keep.only ho9.out rfl
    refine ⟨⟨1, (vl [1] 2 ys), (vl [1, 2] 1 ys), 0, (vl [1, 2, 1] 2 ys), 0, 0, 0, none, 0, 0, []⟩, by rw [hP], ?_, ⟨Rd.nil _, by intro c hc; cases hc⟩, ho9.out.below F8.out.bel (Nat.le_refl _) F8.out.bel.size⟩
    rw [hP]
    simp only [List.sum_cons, List.sum_nil] at hlen
    show (⟨1, (vl [1] 2 ys), (vl [1, 2] 1 ys), 0, (vl [1, 2, 1] 2 ys), 0, 0, 0, []⟩ : Pd) = _
    rw [vl_ok (ks := [1]) (k := 2) (ys := ys) (by simp only [List.sum_cons, List.sum_nil]; omega), vl_ok (ks := [1, 2]) (k := 1) (ys := ys) (by simp only [List.sum_cons, List.sum_nil]; omega), vl_ok (ks := [1, 2, 1]) (k := 2) (ys := ys) (by simp only [List.sum_cons, List.sum_nil]; omega)]
    rfl
  · have hP : parse ys = (Pd.none, E) := by rw [parse_of HK.out (by omega) (by rfl : hl 1 = List.sum [1, 2, 1, 2]), if_neg (by rw [← HE.out]; exact hE0), ← HE.out]
    have hEb : (E != 0) = true := by simpa using hE0
    go_wp2_with fail
    refine (rend_any _ _ _ _ F8.out.st).mono ?_
    rintro e w9 ⟨rfl, n9, rfl⟩
    rw [show endN (sl [1, 2, 1, 2] ys).1 (sl [1, 2, 1, 2] ys).2 = E from HE.out.symm]
    have F9 := Lib.hid (F8.out.drewN n9)
    obtain ⟨u9, hu9⟩ : ∃ u9, u9 = u8.drewN n9 := ⟨_, rfl⟩
    rw [← hu9] at F9 ⊢
    clear hu9
    go_wp2_with (refine wpList_store_blk rfl 24 (.tmp 2) (.tmp 86) rfl w.heap.size rfl Pu.none.cells rfl F9.out.b2 rfl size_pdu (one_p _) ?_; intro w9 hB9 ho9)
    have e0 := hB9.out.cell (i := 0) rfl
    have e1 := hB9.out.cell (i := 1) rfl
    have e2 := hB9.out.cell (i := 2) rfl
    have e3 := hB9.out.cell (i := 3) rfl
    have e4 := hB9.out.cell (i := 4) rfl
    have e5 := hB9.out.cell (i := 5) rfl
    have e6 := hB9.out.cell (i := 6) rfl
    have e7 := hB9.out.cell (i := 7) rfl
    have e8 := hB9.out.cell (i := 8) rfl
    refine bodyPost_ret (v := .tuple #[Pu.none.val, .int .i64 E]) (by simp [results, Try.results25, go_sem, Pu.none, e0, e1, e2, e3, e4, e5, e6, e7, e8]) rfl ?_
    exact ⟨Pu.none, by rw [hP], by rw [hP]; rfl, none_ok _, ho9.out.below F9.out.bel (Nat.le_refl _) F9.out.bel.size⟩

set_option maxRecDepth 100000 in
set_option maxHeartbeats 3200000 in
theorem parse2 (A : Option Addr) (n c : Nat) (ys : List Nat) (w : World) (hR : Rd w A n c (u8n ys)) (hb : byt ys) (hv : vl [] 1 ys = 2) : Calls Try.prog 25 #[.slice A n c] w (Tells w (parse ys)) := by
  have HK := Lib.hid (show nm ys 0 1 = 2 from by rw [← vl_first]; exact hv)
  have hB2 := Blk.new w 24 Pu.none.cells
  have hbl : Below w.heap.size w (w.alloc (.cells Pu.none.cells.toArray 24)) := (Below.refl _ _).alloc (Nat.le_refl _) _
  have hs1 : (w.alloc (.cells Pu.none.cells.toArray 24)).heap.size = w.heap.size + 1 := by simp
  have hRz := hR.below hbl
  have hRB := Blk.new (w.alloc (.cells Pu.none.cells.toArray 24)) 61 [.slice A n c, .int .i64 0, .int .i64 0]
  have hfar : 0 < n → ∀ g o, A = some ⟨g, o, none⟩ → g < w.heap.size := fun h0 g o hA => by
    obtain ⟨g', o', hA', hlt, _⟩ := hR.2.2.2 h0
    rw [hA] at hA'
    injection hA' with hA'
    injection hA' with h1 _
    omega
  rw [hs1] at hRB
  have hST : SR ((w.alloc (.cells Pu.none.cells.toArray 24)).alloc (.cells [.slice A n c, .int .i64 0, .int .i64 0].toArray 61)) (w.heap.size + 1) (sl [] ys).1 (sl [] ys).2 :=
    ⟨A, n, c, 0, nl ys, hRB, by rw [← nl_u8s]; exact hRz.alloc _, by omega, by simp [sl, rdl], fun h0 g o hA => by have := hfar h0 g o hA; omega⟩
  have hB2' := hB2.alloc (.cells [.slice A n c, .int .i64 0, .int .i64 0].toArray 61)
  have hbl' := hbl.alloc (by rw [hs1]; omega) (.cells [.slice A n c, .int .i64 0, .int .i64 0].toArray 61)
  have hs2 : ((w.alloc (.cells Pu.none.cells.toArray 24)).alloc (.cells [.slice A n c, .int .i64 0, .int .i64 0].toArray 61)).heap.size = w.heap.size + 2 := by simp
  have HB := Lib.hid hb
  clear hB2 hbl hRz hRB hfar hb hR
  obtain ⟨w1, hw1⟩ : ∃ w1, w1 = ((w.alloc (.cells Pu.none.cells.toArray 24)).alloc (.cells [.slice A n c, .int .i64 0, .int .i64 0].toArray 61)) := ⟨_, rfl⟩
  rw [← hw1] at hST hB2' hbl' hs2
  have HW1 := Lib.hid (show ((w.alloc (.cells #[.int .i64 0, .int .i64 0, .int .i64 0, .int .i64 0, .int .i64 0, .int .i64 0, .int .i64 0, .int .i64 0, .slice none 0 0] 24)).alloc (.cells #[.slice A n c, .int .i64 0, .int .i64 0] 61)) = w1 from hw1.symm)
  have HST := Lib.hid hST
  have HB2 := Lib.hid hB2'
  have HL1 := Lib.hid hbl'
  have HS2 := Lib.hid hs2
  clear hw1 hST hB2' hbl' hs1 hs2
  go_enter Try.func25, Try.ntmps25
  go_wp2_with fail
  rw [HW1.out]
  clear HW1
  refine (num_s (w.heap.size + 1) 1 1 [] [1] ys w1 rfl HB.out rfl HST.out).mono ?_
  rintro e w2 ⟨rfl, hst, hgr⟩
  rw [hv]
  have hlt2 := HL1.out.size
  have hk2 : Keep (fun i => i = w.heap.size + 1) w1 w2 := Keep.grown hgr fun i hi => by injection hi with hi; exact hi.symm
  have F0 := Lib.hid (show Fp w w.heap.size (w.heap.size + 1) w2.heap.size (sl [1] ys) [.int .i64 2, .int .i64 0, .int .i64 0, .int .i64 0, .int .i64 0, .int .i64 0, .int .i64 0, .int .i64 0, .slice none 0 0] (w2.alloc (.cells #[.int .i64 2, .int .i64 0, .int .i64 0, .int .i64 0, .int .i64 0, .int .i64 0, .int .i64 0, .int .i64 0, .slice none 0 0] 24)) from
    ⟨(hk2.blk HB2.out (by show ¬ w.heap.size = w.heap.size + 1; omega)).alloc _, Blk.new w2 _ [.int .i64 2, .int .i64 0, .int .i64 0, .int .i64 0, .int .i64 0, .int .i64 0, .int .i64 0, .int .i64 0, .slice none 0 0], SR.below hst ((Below.refl _ _).alloc (Nat.le_refl _) _), (HL1.out.trans (hk2.below (fun i hi => by have : i = w.heap.size + 1 := hi; omega) hlt2)).alloc (by have := hk2.size; omega) _, Nat.le_refl _, by omega, by have := hk2.size; have := HS2.out; omega⟩)
  have hy0 := F0.out.bx.cell (i := 0) rfl
  go_wp2_with fail
  obtain ⟨gx, hgx⟩ : ∃ gx, gx = w2.heap.size := ⟨_, rfl⟩
  rw [← hgx] at F0
  rw [← hgx]
  clear hgx hst hgr hk2 hy0 HB2 HL1 HST HS2
  generalize w2.alloc (.cells #[.int .i64 2, .int .i64 0, .int .i64 0, .int .i64 0, .int .i64 0, .int .i64 0, .int .i64 0, .int .i64 0, .slice none 0 0] 24) = u0 at *
  refine (num_s (w.heap.size + 1) 2 2 [1] [1, 2] ys u0 rfl HB.out rfl F0.out.st).mono ?_
  rintro e v0 ⟨rfl, hst, hgr⟩
  have hF := F0.out.num hst hgr
  have c0 := hF.bx.cell (i := 0) rfl
  have cj := hF.bx.cell (i := 1) rfl
  have fj := hF.bx.frozen 1
  have G0 := Lib.hid (show Fp w w.heap.size (w.heap.size + 1) gx (sl [1, 2] ys) [.int .i64 2, .int .i64 (vl [1] 2 ys), .int .i64 0, .int .i64 0, .int .i64 0, .int .i64 0, .int .i64 0, .int .i64 0, .slice none 0 0] (v0.setCell ⟨gx, 1, none⟩ (.int .i64 (vl [1] 2 ys))) from hF.set 1 (.int .i64 (vl [1] 2 ys)))
  have hy0 := G0.out.bx.cell (i := 0) rfl
  clear hst hgr hF F0
  go_wp2_with fail
  obtain ⟨u1, hu⟩ : ∃ u, u = v0.setCell ⟨gx, 1, none⟩ (.int .i64 (vl [1] 2 ys)) := ⟨_, rfl⟩
  rw [← hu] at G0 ⊢
  have F0 := G0
  clear hu c0 cj fj G0 hy0
  refine (num_s (w.heap.size + 1) 1 1 [1, 2] [1, 2, 1] ys u1 rfl HB.out rfl F0.out.st).mono ?_
  rintro e v1 ⟨rfl, hst, hgr⟩
  have hF := F0.out.num hst hgr
  have c0 := hF.bx.cell (i := 0) rfl
  have cj := hF.bx.cell (i := 3) rfl
  have fj := hF.bx.frozen 3
  have G0 := Lib.hid (show Fp w w.heap.size (w.heap.size + 1) gx (sl [1, 2, 1] ys) [.int .i64 2, .int .i64 (vl [1] 2 ys), .int .i64 0, .int .i64 (vl [1, 2] 1 ys), .int .i64 0, .int .i64 0, .int .i64 0, .int .i64 0, .slice none 0 0] (v1.setCell ⟨gx, 3, none⟩ (.int .i64 (vl [1, 2] 1 ys))) from hF.set 3 (.int .i64 (vl [1, 2] 1 ys)))
  have hy0 := G0.out.bx.cell (i := 0) rfl
  clear hst hgr hF F0
  go_wp2_with fail
  obtain ⟨u2, hu⟩ : ∃ u, u = v1.setCell ⟨gx, 3, none⟩ (.int .i64 (vl [1, 2] 1 ys)) := ⟨_, rfl⟩
  rw [← hu] at G0 ⊢
  have F0 := G0
  clear hu c0 cj fj G0 hy0
  refine (rbytes_any (w.heap.size + 1) 16 _ _ u2 F0.out.st (by omega) (by omega)).mono ?_
  rintro e v9 ⟨A3, n3, c3, rfl, hr3, hst, hgr⟩
  have hF := F0.out.num (s' := sl [1, 2, 1, 16] ys) hst hgr
  have c0 := hF.bx.cell (i := 0) rfl
  have cj := hF.bx.cell (i := 8) rfl
  have fj := hF.bx.frozen 8
  obtain ⟨zs, hzs⟩ : ∃ zs : List Nat, nl zs = (if (sl [1, 2, 1] ys).2 = 0 ∧ 16 ≤ (sl [1, 2, 1] ys).1.length then (sl [1, 2, 1] ys).1.take 16 else []) := by
    split
    · refine ⟨((sl [1, 2, 1] ys).1.take 16).map Int.toNat, ?_⟩
      have hbb := sl_bytes HB.out [1, 2, 1]
      simp only [nl, List.map_map]
      have e : ∀ u ∈ (sl [1, 2, 1] ys).1.take 16, ((fun n : Nat => (n : Int)) ∘ Int.toNat) u = id u := fun u hu => by have := (hbb u (List.mem_of_mem_take hu)).1; simp; omega
      rw [List.map_congr_left e, List.map_id]
    · exact ⟨[], rfl⟩
  rw [← hzs, ← nl_u8s] at hr3
  have HZS := Lib.hid hzs
  have HR3 := Lib.hid (rd_other hr3 hF.bx (no_u8 ⟨2, (vl [1] 2 ys), 0, (vl [1, 2] 1 ys), 0, 0, 0, 0, none, 0, 0, []⟩) (Keep.set (F := fun i => i = gx) v9 8 (.slice A3 n3 c3) rfl))
  have G0 := Lib.hid (show Fp w w.heap.size (w.heap.size + 1) gx (sl [1, 2, 1, 16] ys) [.int .i64 2, .int .i64 (vl [1] 2 ys), .int .i64 0, .int .i64 (vl [1, 2] 1 ys), .int .i64 0, .int .i64 0, .int .i64 0, .int .i64 0, .slice A3 n3 c3] (v9.setCell ⟨gx, 8, none⟩ (.slice A3 n3 c3)) from hF.set 8 (.slice A3 n3 c3))
  clear hst hgr hF F0 hzs hr3
  go_wp2_with fail
  obtain ⟨u3, hu⟩ : ∃ u, u = v9.setCell ⟨gx, 8, none⟩ (.slice A3 n3 c3) := ⟨_, rfl⟩
  rw [← hu] at G0 HR3 ⊢
  have F0 := G0
  clear hu c0 cj fj G0
  have hF := F0
  obtain ⟨E, hE⟩ : ∃ E, E = en [1, 2, 1, 16] ys := ⟨_, rfl⟩
  have HE := Lib.hid hE
  clear hE
  refine (rend_any _ _ _ _ hF.out.st).mono ?_
  rintro e w8 ⟨rfl, n8, rfl⟩
  rw [show endN (sl [1, 2, 1, 16] ys).1 (sl [1, 2, 1, 16] ys).2 = E from HE.out.symm]
  have F8 := Lib.hid (hF.out.drewN n8)
  have HR8 := Lib.hid (show Rd (u3.drewN n8) A3 n3 c3 (u8n zs) from HR3.out)
  obtain ⟨u8, hu8⟩ : ∃ u8, u8 = u3.drewN n8 := ⟨_, rfl⟩
  rw [← hu8] at F8 HR8 ⊢
  clear hu8 hF F0
  by_cases hE0 : E = 0
  · have hP : parse ys = (msg 2 ys, 0) := by rw [parse_of HK.out (by omega) (by rfl : hl 2 = List.sum [1, 2, 1, 16]), if_pos (by rw [← HE.out]; exact hE0)]
    have hlen := en_len (ks := [1, 2, 1, 16]) (ys := ys) (by rw [← HE.out]; exact hE0)
    have hEb : (E != 0) = false := by simp [hE0]
    subst hE0
    go_wp2_with (first
      | (refine wpList_load_blk rfl 24 _ rfl gx rfl F8.out.bx Try.underlying24 rfl size_pdu ?_)
      | (refine wpList_store_blk rfl 24 (.tmp 2) (.tmp 89) rfl w.heap.size rfl (Pu.cells ⟨2, (vl [1] 2 ys), 0, (vl [1, 2] 1 ys), 0, 0, 0, 0, A3, n3, c3, zs⟩) rfl F8.out.b2 rfl size_pdu (one_p ⟨2, (vl [1] 2 ys), 0, (vl [1, 2] 1 ys), 0, 0, 0, 0, A3, n3, c3, zs⟩) ?_; intro w9 hB9 ho9))
    have e0 := hB9.out.cell (i := 0) rfl
    have e1 := hB9.out.cell (i := 1) rfl
    have e2 := hB9.out.cell (i := 2) rfl
    have e3 := hB9.out.cell (i := 3) rfl
    have e4 := hB9.out.cell (i := 4) rfl
    have e5 := hB9.out.cell (i := 5) rfl
    have e6 := hB9.out.cell (i := 6) rfl
    have e7 := hB9.out.cell (i := 7) rfl
    have e8 := hB9.out.cell (i := 8) rfl
    refine bodyPost_ret (v := .tuple #[Pu.val ⟨2, (vl [1] 2 ys), 0, (vl [1, 2] 1 ys), 0, 0, 0, 0, A3, n3, c3, zs⟩, .int .i64 0]) (by simp [results, Try.results25, go_sem, e0, e1, e2, e3, e4, e5, e6, e7, e8]) rfl ?_
    have kp9 : Keep (fun i => i = w.heap.size) u8 w9 := Keep.only ho9.out rfl
    have hbz : byt zs := fun c hc => by
      have h1 : (c : Int) ∈ nl zs := List.mem_map_of_mem (f := fun n : Nat => (n : Int)) hc
      rw [HZS.out] at h1
      split at h1
      · have := sl_bytes HB.out [1, 2, 1] _ (List.mem_of_mem_take h1)
        omega
      · cases h1
    refine ⟨⟨2, (vl [1] 2 ys), 0, (vl [1, 2] 1 ys), 0, 0, 0, 0, A3, n3, c3, zs⟩, by rw [hP], ?_, ⟨rd_other HR8.out F8.out.b2 (no_u8 _) kp9, hbz⟩, ho9.out.below F8.out.bel (Nat.le_refl _) F8.out.bel.size⟩
    rw [hP]
    simp only [List.sum_cons, List.sum_nil] at hlen
    have hz : zs = (ys.drop 4).take 16 := by
      have h1 := rdl_ok [1, 2, 1] 0 (show 0 + List.sum [1, 2, 1] ≤ ys.length by simp only [List.sum_cons, List.sum_nil]; omega)
      rw [List.drop_zero] at h1
      have h2 : sl [1, 2, 1] ys = (nl (ys.drop 4), 0) := h1
      have h3 := HZS.out
      rw [h2, if_pos ⟨rfl, by rw [nl_len, List.length_drop]; omega⟩, nl_take] at h3
      exact Same.nat_inj h3
    show (⟨2, (vl [1] 2 ys), 0, (vl [1, 2] 1 ys), 0, 0, 0, 0, zs⟩ : Pd) = _
    rw [vl_ok (ks := [1]) (k := 2) (ys := ys) (by simp only [List.sum_cons, List.sum_nil]; omega), vl_ok (ks := [1, 2]) (k := 1) (ys := ys) (by simp only [List.sum_cons, List.sum_nil]; omega), hz]
    rfl
  · have hP : parse ys = (Pd.none, E) := by rw [parse_of HK.out (by omega) (by rfl : hl 2 = List.sum [1, 2, 1, 16]), if_neg (by rw [← HE.out]; exact hE0), ← HE.out]
    have hEb : (E != 0) = true := by simpa using hE0
    go_wp2_with fail
    refine (rend_any _ _ _ _ F8.out.st).mono ?_
    rintro e w9 ⟨rfl, n9, rfl⟩
    rw [show endN (sl [1, 2, 1, 16] ys).1 (sl [1, 2, 1, 16] ys).2 = E from HE.out.symm]
    have F9 := Lib.hid (F8.out.drewN n9)
    obtain ⟨u9, hu9⟩ : ∃ u9, u9 = u8.drewN n9 := ⟨_, rfl⟩
    rw [← hu9] at F9 ⊢
    clear hu9
    go_wp2_with (refine wpList_store_blk rfl 24 (.tmp 2) (.tmp 86) rfl w.heap.size rfl Pu.none.cells rfl F9.out.b2 rfl size_pdu (one_p _) ?_; intro w9 hB9 ho9)
    have e0 := hB9.out.cell (i := 0) rfl
    have e1 := hB9.out.cell (i := 1) rfl
    have e2 := hB9.out.cell (i := 2) rfl
    have e3 := hB9.out.cell (i := 3) rfl
    have e4 := hB9.out.cell (i := 4) rfl
    have e5 := hB9.out.cell (i := 5) rfl
    have e6 := hB9.out.cell (i := 6) rfl
    have e7 := hB9.out.cell (i := 7) rfl
    have e8 := hB9.out.cell (i := 8) rfl
    refine bodyPost_ret (v := .tuple #[Pu.none.val, .int .i64 E]) (by simp [results, Try.results25, go_sem, Pu.none, e0, e1, e2, e3, e4, e5, e6, e7, e8]) rfl ?_
    exact ⟨Pu.none, by rw [hP], by rw [hP]; rfl, none_ok _, ho9.out.below F9.out.bel (Nat.le_refl _) F9.out.bel.size⟩

set_option maxRecDepth 100000 in
set_option maxHeartbeats 3200000 in
theorem parse3 (A : Option Addr) (n c : Nat) (ys : List Nat) (w : World) (hR : Rd w A n c (u8n ys)) (hb : byt ys) (hv : vl [] 1 ys = 3) : Calls Try.prog 25 #[.slice A n c] w (Tells w (parse ys)) := by
  have HK := Lib.hid (show nm ys 0 1 = 3 from by rw [← vl_first]; exact hv)
  have hB2 := Blk.new w 24 Pu.none.cells
  have hbl : Below w.heap.size w (w.alloc (.cells Pu.none.cells.toArray 24)) := (Below.refl _ _).alloc (Nat.le_refl _) _
  have hs1 : (w.alloc (.cells Pu.none.cells.toArray 24)).heap.size = w.heap.size + 1 := by simp
  have hRz := hR.below hbl
  have hRB := Blk.new (w.alloc (.cells Pu.none.cells.toArray 24)) 61 [.slice A n c, .int .i64 0, .int .i64 0]
  have hfar : 0 < n → ∀ g o, A = some ⟨g, o, none⟩ → g < w.heap.size := fun h0 g o hA => by
    obtain ⟨g', o', hA', hlt, _⟩ := hR.2.2.2 h0
    rw [hA] at hA'
    injection hA' with hA'
    injection hA' with h1 _
    omega
  rw [hs1] at hRB
  have hST : SR ((w.alloc (.cells Pu.none.cells.toArray 24)).alloc (.cells [.slice A n c, .int .i64 0, .int .i64 0].toArray 61)) (w.heap.size + 1) (sl [] ys).1 (sl [] ys).2 :=
    ⟨A, n, c, 0, nl ys, hRB, by rw [← nl_u8s]; exact hRz.alloc _, by omega, by simp [sl, rdl], fun h0 g o hA => by have := hfar h0 g o hA; omega⟩
  have hB2' := hB2.alloc (.cells [.slice A n c, .int .i64 0, .int .i64 0].toArray 61)
  have hbl' := hbl.alloc (by rw [hs1]; omega) (.cells [.slice A n c, .int .i64 0, .int .i64 0].toArray 61)
  have hs2 : ((w.alloc (.cells Pu.none.cells.toArray 24)).alloc (.cells [.slice A n c, .int .i64 0, .int .i64 0].toArray 61)).heap.size = w.heap.size + 2 := by simp
  have HB := Lib.hid hb
  clear hB2 hbl hRz hRB hfar hb hR
  obtain ⟨w1, hw1⟩ : ∃ w1, w1 = ((w.alloc (.cells Pu.none.cells.toArray 24)).alloc (.cells [.slice A n c, .int .i64 0, .int .i64 0].toArray 61)) := ⟨_, rfl⟩
  rw [← hw1] at hST hB2' hbl' hs2
  have HW1 := Lib.hid (show ((w.alloc (.cells #[.int .i64 0, .int .i64 0, .int .i64 0, .int .i64 0, .int .i64 0, .int .i64 0, .int .i64 0, .int .i64 0, .slice none 0 0] 24)).alloc (.cells #[.slice A n c, .int .i64 0, .int .i64 0] 61)) = w1 from hw1.symm)
  have HST := Lib.hid hST
  have HB2 := Lib.hid hB2'
  have HL1 := Lib.hid hbl'
  have HS2 := Lib.hid hs2
  clear hw1 hST hB2' hbl' hs1 hs2
  go_enter Try.func25, Try.ntmps25
  go_wp2_with fail
  rw [HW1.out]
  clear HW1
  refine (num_s (w.heap.size + 1) 1 1 [] [1] ys w1 rfl HB.out rfl HST.out).mono ?_
  rintro e w2 ⟨rfl, hst, hgr⟩
  rw [hv]
  have hlt2 := HL1.out.size
  have hk2 : Keep (fun i => i = w.heap.size + 1) w1 w2 := Keep.grown hgr fun i hi => by injection hi with hi; exact hi.symm
  have F0 := Lib.hid (show Fp w w.heap.size (w.heap.size + 1) w2.heap.size (sl [1] ys) [.int .i64 3, .int .i64 0, .int .i64 0, .int .i64 0, .int .i64 0, .int .i64 0, .int .i64 0, .int .i64 0, .slice none 0 0] (w2.alloc (.cells #[.int .i64 3, .int .i64 0, .int .i64 0, .int .i64 0, .int .i64 0, .int .i64 0, .int .i64 0, .int .i64 0, .slice none 0 0] 24)) from
    ⟨(hk2.blk HB2.out (by show ¬ w.heap.size = w.heap.size + 1; omega)).alloc _, Blk.new w2 _ [.int .i64 3, .int .i64 0, .int .i64 0, .int .i64 0, .int .i64 0, .int .i64 0, .int .i64 0, .int .i64 0, .slice none 0 0], SR.below hst ((Below.refl _ _).alloc (Nat.le_refl _) _), (HL1.out.trans (hk2.below (fun i hi => by have : i = w.heap.size + 1 := hi; omega) hlt2)).alloc (by have := hk2.size; omega) _, Nat.le_refl _, by omega, by have := hk2.size; have := HS2.out; omega⟩)
  have hy0 := F0.out.bx.cell (i := 0) rfl
  go_wp2_with fail
  obtain ⟨gx, hgx⟩ : ∃ gx, gx = w2.heap.size := ⟨_, rfl⟩
  rw [← hgx] at F0
  rw [← hgx]
  clear hgx hst hgr hk2 hy0 HB2 HL1 HST HS2
  generalize w2.alloc (.cells #[.int .i64 3, .int .i64 0, .int .i64 0, .int .i64 0, .int .i64 0, .int .i64 0, .int .i64 0, .int .i64 0, .slice none 0 0] 24) = u0 at *
  refine (num_s (w.heap.size + 1) 2 2 [1] [1, 2] ys u0 rfl HB.out rfl F0.out.st).mono ?_
  rintro e v0 ⟨rfl, hst, hgr⟩
  have hF := F0.out.num hst hgr
  have c0 := hF.bx.cell (i := 0) rfl
  have cj := hF.bx.cell (i := 1) rfl
  have fj := hF.bx.frozen 1
  have G0 := Lib.hid (show Fp w w.heap.size (w.heap.size + 1) gx (sl [1, 2] ys) [.int .i64 3, .int .i64 (vl [1] 2 ys), .int .i64 0, .int .i64 0, .int .i64 0, .int .i64 0, .int .i64 0, .int .i64 0, .slice none 0 0] (v0.setCell ⟨gx, 1, none⟩ (.int .i64 (vl [1] 2 ys))) from hF.set 1 (.int .i64 (vl [1] 2 ys)))
  have hy0 := G0.out.bx.cell (i := 0) rfl
  clear hst hgr hF F0
  go_wp2_with fail
  obtain ⟨u1, hu⟩ : ∃ u, u = v0.setCell ⟨gx, 1, none⟩ (.int .i64 (vl [1] 2 ys)) := ⟨_, rfl⟩
  rw [← hu] at G0 ⊢
  have F0 := G0
  clear hu c0 cj fj G0 hy0
  have hF := F0
  obtain ⟨E, hE⟩ : ∃ E, E = en [1, 2] ys := ⟨_, rfl⟩
  have HE := Lib.hid hE
  clear hE
  refine (rend_any _ _ _ _ hF.out.st).mono ?_
  rintro e w8 ⟨rfl, n8, rfl⟩
  rw [show endN (sl [1, 2] ys).1 (sl [1, 2] ys).2 = E from HE.out.symm]
  have F8 := Lib.hid (hF.out.drewN n8)
  obtain ⟨u8, hu8⟩ : ∃ u8, u8 = u1.drewN n8 := ⟨_, rfl⟩
  rw [← hu8] at F8 ⊢
  clear hu8 hF F0
  by_cases hE0 : E = 0
  · have hP : parse ys = (msg 3 ys, 0) := by rw [parse_of HK.out (by omega) (by rfl : hl 3 = List.sum [1, 2]), if_pos (by rw [← HE.out]; exact hE0)]
    have hlen := en_len (ks := [1, 2]) (ys := ys) (by rw [← HE.out]; exact hE0)
    have hEb : (E != 0) = false := by simp [hE0]
    subst hE0
    go_wp2_with (first
      | (refine wpList_load_blk rfl 24 _ rfl gx rfl F8.out.bx Try.underlying24 rfl size_pdu ?_)
      | (refine wpList_store_blk rfl 24 (.tmp 2) (.tmp 89) rfl w.heap.size rfl (Pu.cells ⟨3, (vl [1] 2 ys), 0, 0, 0, 0, 0, 0, none, 0, 0, []⟩) rfl F8.out.b2 rfl size_pdu (one_p ⟨3, (vl [1] 2 ys), 0, 0, 0, 0, 0, 0, none, 0, 0, []⟩) ?_; intro w9 hB9 ho9))
    have e0 := hB9.out.cell (i := 0) rfl
    have e1 := hB9.out.cell (i := 1) rfl
    have e2 := hB9.out.cell (i := 2) rfl
    have e3 := hB9.out.cell (i := 3) rfl
    have e4 := hB9.out.cell (i := 4) rfl
    have e5 := hB9.out.cell (i := 5) rfl
    have e6 := hB9.out.cell (i := 6) rfl
    have e7 := hB9.out.cell (i := 7) rfl
    have e8 := hB9.out.cell (i := 8) rfl
    refine bodyPost_ret (v := .tuple #[Pu.val ⟨3, (vl [1] 2 ys), 0, 0, 0, 0, 0, 0, none, 0, 0, []⟩, .int .i64 0]) (by simp [results, Try.results25, go_sem, e0, e1, e2, e3, e4, e5, e6, e7, e8]) rfl ?_
    have kp9 : Keep (fun i => i = w.heap.size) u8 w9 := Keep.only ho9.out rfl
    refine ⟨⟨3, (vl [1] 2 ys), 0, 0, 0, 0, 0, 0, none, 0, 0, []⟩, by rw [hP], ?_, ⟨Rd.nil _, by intro c hc; cases hc⟩, ho9.out.below F8.out.bel (Nat.le_refl _) F8.out.bel.size⟩
    rw [hP]
    simp only [List.sum_cons, List.sum_nil] at hlen
    show (⟨3, (vl [1] 2 ys), 0, 0, 0, 0, 0, 0, []⟩ : Pd) = _
    rw [vl_ok (ks := [1]) (k := 2) (ys := ys) (by simp only [List.sum_cons, List.sum_nil]; omega)]
    rfl
  · have hP : parse ys = (Pd.none, E) := by rw [parse_of HK.out (by omega) (by rfl : hl 3 = List.sum [1, 2]), if_neg (by rw [← HE.out]; exact hE0), ← HE.out]
    have hEb : (E != 0) = true := by simpa using hE0
    go_wp2_with fail
    refine (rend_any _ _ _ _ F8.out.st).mono ?_
    rintro e w9 ⟨rfl, n9, rfl⟩
    rw [show endN (sl [1, 2] ys).1 (sl [1, 2] ys).2 = E from HE.out.symm]
    have F9 := Lib.hid (F8.out.drewN n9)
    obtain ⟨u9, hu9⟩ : ∃ u9, u9 = u8.drewN n9 := ⟨_, rfl⟩
    rw [← hu9] at F9 ⊢
    clear hu9
    go_wp2_with (refine wpList_store_blk rfl 24 (.tmp 2) (.tmp 86) rfl w.heap.size rfl Pu.none.cells rfl F9.out.b2 rfl size_pdu (one_p _) ?_; intro w9 hB9 ho9)
    have e0 := hB9.out.cell (i := 0) rfl
    have e1 := hB9.out.cell (i := 1) rfl
    have e2 := hB9.out.cell (i := 2) rfl
    have e3 := hB9.out.cell (i := 3) rfl
    have e4 := hB9.out.cell (i := 4) rfl
    have e5 := hB9.out.cell (i := 5) rfl
    have e6 := hB9.out.cell (i := 6) rfl
    have e7 := hB9.out.cell (i := 7) rfl
    have e8 := hB9.out.cell (i := 8) rfl
    refine bodyPost_ret (v := .tuple #[Pu.none.val, .int .i64 E]) (by simp [results, Try.results25, go_sem, Pu.none, e0, e1, e2, e3, e4, e5, e6, e7, e8]) rfl ?_
    exact ⟨Pu.none, by rw [hP], by rw [hP]; rfl, none_ok _, ho9.out.below F9.out.bel (Nat.le_refl _) F9.out.bel.size⟩

set_option maxRecDepth 100000 in
set_option maxHeartbeats 3200000 in
theorem parse4 (A : Option Addr) (n c : Nat) (ys : List Nat) (w : World) (hR : Rd w A n c (u8n ys)) (hb : byt ys) (hv : vl [] 1 ys = 4) : Calls Try.prog 25 #[.slice A n c] w (Tells w (parse ys)) := by
  have HK := Lib.hid (show nm ys 0 1 = 4 from by rw [← vl_first]; exact hv)
  have hB2 := Blk.new w 24 Pu.none.cells
  have hbl : Below w.heap.size w (w.alloc (.cells Pu.none.cells.toArray 24)) := (Below.refl _ _).alloc (Nat.le_refl _) _
  have hs1 : (w.alloc (.cells Pu.none.cells.toArray 24)).heap.size = w.heap.size + 1 := by simp
  have hRz := hR.below hbl
  have hRB := Blk.new (w.alloc (.cells Pu.none.cells.toArray 24)) 61 [.slice A n c, .int .i64 0, .int .i64 0]
  have hfar : 0 < n → ∀ g o, A = some ⟨g, o, none⟩ → g < w.heap.size := fun h0 g o hA => by
    obtain ⟨g', o', hA', hlt, _⟩ := hR.2.2.2 h0
    rw [hA] at hA'
    injection hA' with hA'
    injection hA' with h1 _
    omega
  rw [hs1] at hRB
  have hST : SR ((w.alloc (.cells Pu.none.cells.toArray 24)).alloc (.cells [.slice A n c, .int .i64 0, .int .i64 0].toArray 61)) (w.heap.size + 1) (sl [] ys).1 (sl [] ys).2 :=
    ⟨A, n, c, 0, nl ys, hRB, by rw [← nl_u8s]; exact hRz.alloc _, by omega, by simp [sl, rdl], fun h0 g o hA => by have := hfar h0 g o hA; omega⟩
  have hB2' := hB2.alloc (.cells [.slice A n c, .int .i64 0, .int .i64 0].toArray 61)
  have hbl' := hbl.alloc (by rw [hs1]; omega) (.cells [.slice A n c, .int .i64 0, .int .i64 0].toArray 61)
  have hs2 : ((w.alloc (.cells Pu.none.cells.toArray 24)).alloc (.cells [.slice A n c, .int .i64 0, .int .i64 0].toArray 61)).heap.size = w.heap.size + 2 := by simp
  have HB := Lib.hid hb
  clear hB2 hbl hRz hRB hfar hb hR
  obtain ⟨w1, hw1⟩ : ∃ w1, w1 = ((w.alloc (.cells Pu.none.cells.toArray 24)).alloc (.cells [.slice A n c, .int .i64 0, .int .i64 0].toArray 61)) := ⟨_, rfl⟩
  rw [← hw1] at hST hB2' hbl' hs2
  have HW1 := Lib.hid (show ((w.alloc (.cells #[.int .i64 0, .int .i64 0, .int .i64 0, .int .i64 0, .int .i64 0, .int .i64 0, .int .i64 0, .int .i64 0, .slice none 0 0] 24)).alloc (.cells #[.slice A n c, .int .i64 0, .int .i64 0] 61)) = w1 from hw1.symm)
  have HST := Lib.hid hST
  have HB2 := Lib.hid hB2'
  have HL1 := Lib.hid hbl'
  have HS2 := Lib.hid hs2
  clear hw1 hST hB2' hbl' hs1 hs2
  go_enter Try.func25, Try.ntmps25
  go_wp2_with fail
  rw [HW1.out]
  clear HW1
  refine (num_s (w.heap.size + 1) 1 1 [] [1] ys w1 rfl HB.out rfl HST.out).mono ?_
  rintro e w2 ⟨rfl, hst, hgr⟩
  rw [hv]
  have hlt2 := HL1.out.size
  have hk2 : Keep (fun i => i = w.heap.size + 1) w1 w2 := Keep.grown hgr fun i hi => by injection hi with hi; exact hi.symm
  have F0 := Lib.hid (show Fp w w.heap.size (w.heap.size + 1) w2.heap.size (sl [1] ys) [.int .i64 4, .int .i64 0, .int .i64 0, .int .i64 0, .int .i64 0, .int .i64 0, .int .i64 0, .int .i64 0, .slice none 0 0] (w2.alloc (.cells #[.int .i64 4, .int .i64 0, .int .i64 0, .int .i64 0, .int .i64 0, .int .i64 0, .int .i64 0, .int .i64 0, .slice none 0 0] 24)) from
    ⟨(hk2.blk HB2.out (by show ¬ w.heap.size = w.heap.size + 1; omega)).alloc _, Blk.new w2 _ [.int .i64 4, .int .i64 0, .int .i64 0, .int .i64 0, .int .i64 0, .int .i64 0, .int .i64 0, .int .i64 0, .slice none 0 0], SR.below hst ((Below.refl _ _).alloc (Nat.le_refl _) _), (HL1.out.trans (hk2.below (fun i hi => by have : i = w.heap.size + 1 := hi; omega) hlt2)).alloc (by have := hk2.size; omega) _, Nat.le_refl _, by omega, by have := hk2.size; have := HS2.out; omega⟩)
  have hy0 := F0.out.bx.cell (i := 0) rfl
  go_wp2_with fail
  obtain ⟨gx, hgx⟩ : ∃ gx, gx = w2.heap.size := ⟨_, rfl⟩
  rw [← hgx] at F0
  rw [← hgx]
  clear hgx hst hgr hk2 hy0 HB2 HL1 HST HS2
  generalize w2.alloc (.cells #[.int .i64 4, .int .i64 0, .int .i64 0, .int .i64 0, .int .i64 0, .int .i64 0, .int .i64 0, .int .i64 0, .slice none 0 0] 24) = u0 at *
  refine (num_s (w.heap.size + 1) 2 2 [1] [1, 2] ys u0 rfl HB.out rfl F0.out.st).mono ?_
  rintro e v0 ⟨rfl, hst, hgr⟩
  have hF := F0.out.num hst hgr
  have c0 := hF.bx.cell (i := 0) rfl
  have cj := hF.bx.cell (i := 1) rfl
  have fj := hF.bx.frozen 1
  have G0 := Lib.hid (show Fp w w.heap.size (w.heap.size + 1) gx (sl [1, 2] ys) [.int .i64 4, .int .i64 (vl [1] 2 ys), .int .i64 0, .int .i64 0, .int .i64 0, .int .i64 0, .int .i64 0, .int .i64 0, .slice none 0 0] (v0.setCell ⟨gx, 1, none⟩ (.int .i64 (vl [1] 2 ys))) from hF.set 1 (.int .i64 (vl [1] 2 ys)))
  have hy0 := G0.out.bx.cell (i := 0) rfl
  clear hst hgr hF F0
  go_wp2_with fail
  obtain ⟨u1, hu⟩ : ∃ u, u = v0.setCell ⟨gx, 1, none⟩ (.int .i64 (vl [1] 2 ys)) := ⟨_, rfl⟩
  rw [← hu] at G0 ⊢
  have F0 := G0
  clear hu c0 cj fj G0 hy0
  have hF := F0
  obtain ⟨E, hE⟩ : ∃ E, E = en [1, 2] ys := ⟨_, rfl⟩
  have HE := Lib.hid hE
  clear hE
  refine (rend_any _ _ _ _ hF.out.st).mono ?_
  rintro e w8 ⟨rfl, n8, rfl⟩
  rw [show endN (sl [1, 2] ys).1 (sl [1, 2] ys).2 = E from HE.out.symm]
  have F8 := Lib.hid (hF.out.drewN n8)
  obtain ⟨u8, hu8⟩ : ∃ u8, u8 = u1.drewN n8 := ⟨_, rfl⟩
  rw [← hu8] at F8 ⊢
  clear hu8 hF F0
  by_cases hE0 : E = 0
  · have hP : parse ys = (msg 4 ys, 0) := by rw [parse_of HK.out (by omega) (by rfl : hl 4 = List.sum [1, 2]), if_pos (by rw [← HE.out]; exact hE0)]
    have hlen := en_len (ks := [1, 2]) (ys := ys) (by rw [← HE.out]; exact hE0)
    have hEb : (E != 0) = false := by simp [hE0]
    subst hE0
    go_wp2_with (first
      | (refine wpList_load_blk rfl 24 _ rfl gx rfl F8.out.bx Try.underlying24 rfl size_pdu ?_)
      | (refine wpList_store_blk rfl 24 (.tmp 2) (.tmp 89) rfl w.heap.size rfl (Pu.cells ⟨4, (vl [1] 2 ys), 0, 0, 0, 0, 0, 0, none, 0, 0, []⟩) rfl F8.out.b2 rfl size_pdu (one_p ⟨4, (vl [1] 2 ys), 0, 0, 0, 0, 0, 0, none, 0, 0, []⟩) ?_; intro w9 hB9 ho9))
    have e0 := hB9.out.cell (i := 0) rfl
    have e1 := hB9.out.cell (i := 1) rfl
    have e2 := hB9.out.cell (i := 2) rfl
    have e3 := hB9.out.cell (i := 3) rfl
    have e4 := hB9.out.cell (i := 4) rfl
    have e5 := hB9.out.cell (i := 5) rfl
    have e6 := hB9.out.cell (i := 6) rfl
    have e7 := hB9.out.cell (i := 7) rfl
    have e8 := hB9.out.cell (i := 8) rfl
    refine bodyPost_ret (v := .tuple #[Pu.val ⟨4, (vl [1] 2 ys), 0, 0, 0, 0, 0, 0, none, 0, 0, []⟩, .int .i64 0]) (by simp [results, Try.results25, go_sem, e0, e1, e2, e3, e4, e5, e6, e7, e8]) rfl ?_
    have kp9 : Keep (fun i => i = w.heap.size) u8 w9 := Keep.only ho9.out rfl
    refine ⟨⟨4, (vl [1] 2 ys), 0, 0, 0, 0, 0, 0, none, 0, 0, []⟩, by rw [hP], ?_, ⟨Rd.nil _, by intro c hc; cases hc⟩, ho9.out.below F8.out.bel (Nat.le_refl _) F8.out.bel.size⟩
    rw [hP]
    simp only [List.sum_cons, List.sum_nil] at hlen
    show (⟨4, (vl [1] 2 ys), 0, 0, 0, 0, 0, 0, []⟩ : Pd) = _
    rw [vl_ok (ks := [1]) (k := 2) (ys := ys) (by simp only [List.sum_cons, List.sum_nil]; omega)]
    rfl
  · have hP : parse ys = (Pd.none, E) := by rw [parse_of HK.out (by omega) (by rfl : hl 4 = List.sum [1, 2]), if_neg (by rw [← HE.out]; exact hE0), ← HE.out]
    have hEb : (E != 0) = true := by simpa using hE0
    go_wp2_with fail
    refine (rend_any _ _ _ _ F8.out.st).mono ?_
    rintro e w9 ⟨rfl, n9, rfl⟩
    rw [show endN (sl [1, 2] ys).1 (sl [1, 2] ys).2 = E from HE.out.symm]
    have F9 := Lib.hid (F8.out.drewN n9)
    obtain ⟨u9, hu9⟩ : ∃ u9, u9 = u8.drewN n9 := ⟨_, rfl⟩
    rw [← hu9] at F9 ⊢
    clear hu9
    go_wp2_with (refine wpList_store_blk rfl 24 (.tmp 2) (.tmp 86) rfl w.heap.size rfl Pu.none.cells rfl F9.out.b2 rfl size_pdu (one_p _) ?_; intro w9 hB9 ho9)
    have e0 := hB9.out.cell (i := 0) rfl
    have e1 := hB9.out.cell (i := 1) rfl
    have e2 := hB9.out.cell (i := 2) rfl
    have e3 := hB9.out.cell (i := 3) rfl
    have e4 := hB9.out.cell (i := 4) rfl
    have e5 := hB9.out.cell (i := 5) rfl
    have e6 := hB9.out.cell (i := 6) rfl
    have e7 := hB9.out.cell (i := 7) rfl
    have e8 := hB9.out.cell (i := 8) rfl
    refine bodyPost_ret (v := .tuple #[Pu.none.val, .int .i64 E]) (by simp [results, Try.results25, go_sem, Pu.none, e0, e1, e2, e3, e4, e5, e6, e7, e8]) rfl ?_
    exact ⟨Pu.none, by rw [hP], by rw [hP]; rfl, none_ok _, ho9.out.below F9.out.bel (Nat.le_refl _) F9.out.bel.size⟩

set_option maxRecDepth 100000 in
set_option maxHeartbeats 3200000 in
theorem parse5 (A : Option Addr) (n c : Nat) (ys : List Nat) (w : World) (hR : Rd w A n c (u8n ys)) (hb : byt ys) (hv : vl [] 1 ys = 5) : Calls Try.prog 25 #[.slice A n c] w (Tells w (parse ys)) := by
  have HK := Lib.hid (show nm ys 0 1 = 5 from by rw [← vl_first]; exact hv)
  have hB2 := Blk.new w 24 Pu.none.cells
  have hbl : Below w.heap.size w (w.alloc (.cells Pu.none.cells.toArray 24)) := (Below.refl _ _).alloc (Nat.le_refl _) _
  have hs1 : (w.alloc (.cells Pu.none.cells.toArray 24)).heap.size = w.heap.size + 1 := by simp
  have hRz := hR.below hbl
  have hRB := Blk.new (w.alloc (.cells Pu.none.cells.toArray 24)) 61 [.slice A n c, .int .i64 0, .int .i64 0]
  have hfar : 0 < n → ∀ g o, A = some ⟨g, o, none⟩ → g < w.heap.size := fun h0 g o hA => by
    obtain ⟨g', o', hA', hlt, _⟩ := hR.2.2.2 h0
    rw [hA] at hA'
    injection hA' with hA'
    injection hA' with h1 _
    omega
  rw [hs1] at hRB
  have hST : SR ((w.alloc (.cells Pu.none.cells.toArray 24)).alloc (.cells [.slice A n c, .int .i64 0, .int .i64 0].toArray 61)) (w.heap.size + 1) (sl [] ys).1 (sl [] ys).2 :=
    ⟨A, n, c, 0, nl ys, hRB, by rw [← nl_u8s]; exact hRz.alloc _, by omega, by simp [sl, rdl], fun h0 g o hA => by have := hfar h0 g o hA; omega⟩
  have hB2' := hB2.alloc (.cells [.slice A n c, .int .i64 0, .int .i64 0].toArray 61)
  have hbl' := hbl.alloc (by rw [hs1]; omega) (.cells [.slice A n c, .int .i64 0, .int .i64 0].toArray 61)
  have hs2 : ((w.alloc (.cells Pu.none.cells.toArray 24)).alloc (.cells [.slice A n c, .int .i64 0, .int .i64 0].toArray 61)).heap.size = w.heap.size + 2 := by simp
  have HB := Lib.hid hb
  clear hB2 hbl hRz hRB hfar hb hR
  obtain ⟨w1, hw1⟩ : ∃ w1, w1 = ((w.alloc (.cells Pu.none.cells.toArray 24)).alloc (.cells [.slice A n c, .int .i64 0, .int .i64 0].toArray 61)) := ⟨_, rfl⟩
  rw [← hw1] at hST hB2' hbl' hs2
  have HW1 := Lib.hid (show ((w.alloc (.cells #[.int .i64 0, .int .i64 0, .int .i64 0, .int .i64 0, .int .i64 0, .int .i64 0, .int .i64 0, .int .i64 0, .slice none 0 0] 24)).alloc (.cells #[.slice A n c, .int .i64 0, .int .i64 0] 61)) = w1 from hw1.symm)
  have HST := Lib.hid hST
  have HB2 := Lib.hid hB2'
  have HL1 := Lib.hid hbl'
  have HS2 := Lib.hid hs2
  clear hw1 hST hB2' hbl' hs1 hs2
  go_enter Try.func25, Try.ntmps25
  go_wp2_with fail
  rw [HW1.out]
  clear HW1
  refine (num_s (w.heap.size + 1) 1 1 [] [1] ys w1 rfl HB.out rfl HST.out).mono ?_
  rintro e w2 ⟨rfl, hst, hgr⟩
  rw [hv]
  have hlt2 := HL1.out.size
  have hk2 : Keep (fun i => i = w.heap.size + 1) w1 w2 := Keep.grown hgr fun i hi => by injection hi with hi; exact hi.symm
  have F0 := Lib.hid (show Fp w w.heap.size (w.heap.size + 1) w2.heap.size (sl [1] ys) [.int .i64 5, .int .i64 0, .int .i64 0, .int .i64 0, .int .i64 0, .int .i64 0, .int .i64 0, .int .i64 0, .slice none 0 0] (w2.alloc (.cells #[.int .i64 5, .int .i64 0, .int .i64 0, .int .i64 0, .int .i64 0, .int .i64 0, .int .i64 0, .int .i64 0, .slice none 0 0] 24)) from
    ⟨(hk2.blk HB2.out (by show ¬ w.heap.size = w.heap.size + 1; omega)).alloc _, Blk.new w2 _ [.int .i64 5, .int .i64 0, .int .i64 0, .int .i64 0, .int .i64 0, .int .i64 0, .int .i64 0, .int .i64 0, .slice none 0 0], SR.below hst ((Below.refl _ _).alloc (Nat.le_refl _) _), (HL1.out.trans (hk2.below (fun i hi => by have : i = w.heap.size + 1 := hi; omega) hlt2)).alloc (by have := hk2.size; omega) _, Nat.le_refl _, by omega, by have := hk2.size; have := HS2.out; omega⟩)
  have hy0 := F0.out.bx.cell (i := 0) rfl
  go_wp2_with fail
  obtain ⟨gx, hgx⟩ : ∃ gx, gx = w2.heap.size := ⟨_, rfl⟩
  rw [← hgx] at F0
  rw [← hgx]
  clear hgx hst hgr hk2 hy0 HB2 HL1 HST HS2
  generalize w2.alloc (.cells #[.int .i64 5, .int .i64 0, .int .i64 0, .int .i64 0, .int .i64 0, .int .i64 0, .int .i64 0, .int .i64 0, .slice none 0 0] 24) = u0 at *
  refine (num_s (w.heap.size + 1) 2 2 [1] [1, 2] ys u0 rfl HB.out rfl F0.out.st).mono ?_
  rintro e v0 ⟨rfl, hst, hgr⟩
  have hF := F0.out.num hst hgr
  have c0 := hF.bx.cell (i := 0) rfl
  have cj := hF.bx.cell (i := 1) rfl
  have fj := hF.bx.frozen 1
  have G0 := Lib.hid (show Fp w w.heap.size (w.heap.size + 1) gx (sl [1, 2] ys) [.int .i64 5, .int .i64 (vl [1] 2 ys), .int .i64 0, .int .i64 0, .int .i64 0, .int .i64 0, .int .i64 0, .int .i64 0, .slice none 0 0] (v0.setCell ⟨gx, 1, none⟩ (.int .i64 (vl [1] 2 ys))) from hF.set 1 (.int .i64 (vl [1] 2 ys)))
  have hy0 := G0.out.bx.cell (i := 0) rfl
  clear hst hgr hF F0
  go_wp2_with fail
  obtain ⟨u1, hu⟩ : ∃ u, u = v0.setCell ⟨gx, 1, none⟩ (.int .i64 (vl [1] 2 ys)) := ⟨_, rfl⟩
  rw [← hu] at G0 ⊢
  have F0 := G0
  clear hu c0 cj fj G0 hy0
  have hF := F0
  obtain ⟨E, hE⟩ : ∃ E, E = en [1, 2] ys := ⟨_, rfl⟩
  have HE := Lib.hid hE
  clear hE
  refine (rend_any _ _ _ _ hF.out.st).mono ?_
  rintro e w8 ⟨rfl, n8, rfl⟩
  rw [show endN (sl [1, 2] ys).1 (sl [1, 2] ys).2 = E from HE.out.symm]
  have F8 := Lib.hid (hF.out.drewN n8)
  obtain ⟨u8, hu8⟩ : ∃ u8, u8 = u1.drewN n8 := ⟨_, rfl⟩
  rw [← hu8] at F8 ⊢
  clear hu8 hF F0
  by_cases hE0 : E = 0
  · have hP : parse ys = (msg 5 ys, 0) := by rw [parse_of HK.out (by omega) (by rfl : hl 5 = List.sum [1, 2]), if_pos (by rw [← HE.out]; exact hE0)]
    have hlen := en_len (ks := [1, 2]) (ys := ys) (by rw [← HE.out]; exact hE0)
    have hEb : (E != 0) = false := by simp [hE0]
    subst hE0
    go_wp2_with (first
      | (refine wpList_load_blk rfl 24 _ rfl gx rfl F8.out.bx Try.underlying24 rfl size_pdu ?_)
      | (refine wpList_store_blk rfl 24 (.tmp 2) (.tmp 89) rfl w.heap.size rfl (Pu.cells ⟨5, (vl [1] 2 ys), 0, 0, 0, 0, 0, 0, none, 0, 0, []⟩) rfl F8.out.b2 rfl size_pdu (one_p ⟨5, (vl [1] 2 ys), 0, 0, 0, 0, 0, 0, none, 0, 0, []⟩) ?_; intro w9 hB9 ho9))
    have e0 := hB9.out.cell (i := 0) rfl
    have e1 := hB9.out.cell (i := 1) rfl
    have e2 := hB9.out.cell (i := 2) rfl
    have e3 := hB9.out.cell (i := 3) rfl
    have e4 := hB9.out.cell (i := 4) rfl
    have e5 := hB9.out.cell (i := 5) rfl
    have e6 := hB9.out.cell (i := 6) rfl
    have e7 := hB9.out.cell (i := 7) rfl
    have e8 := hB9.out.cell (i := 8) rfl
    refine bodyPost_ret (v := .tuple #[Pu.val ⟨5, (vl [1] 2 ys), 0, 0, 0, 0, 0, 0, none, 0, 0, []⟩, .int .i64 0]) (by simp [results, Try.results25, go_sem, e0, e1, e2, e3, e4, e5, e6, e7, e8]) rfl ?_
    have kp9 : Keep (fun i => i = w.heap.size) u8 w9 := Keep.only ho9.out rfl
    refine ⟨⟨5, (vl [1] 2 ys), 0, 0, 0, 0, 0, 0, none, 0, 0, []⟩, by rw [hP], ?_, ⟨Rd.nil _, by intro c hc; cases hc⟩, ho9.out.below F8.out.bel (Nat.le_refl _) F8.out.bel.size⟩
    rw [hP]
    simp only [List.sum_cons, List.sum_nil] at hlen
    show (⟨5, (vl [1] 2 ys), 0, 0, 0, 0, 0, 0, []⟩ : Pd) = _
    rw [vl_ok (ks := [1]) (k := 2) (ys := ys) (by simp only [List.sum_cons, List.sum_nil]; omega)]
    rfl
  · have hP : parse ys = (Pd.none, E) := by rw [parse_of HK.out (by omega) (by rfl : hl 5 = List.sum [1, 2]), if_neg (by rw [← HE.out]; exact hE0), ← HE.out]
    have hEb : (E != 0) = true := by simpa using hE0
    go_wp2_with fail
    refine (rend_any _ _ _ _ F8.out.st).mono ?_
    rintro e w9 ⟨rfl, n9, rfl⟩
    rw [show endN (sl [1, 2] ys).1 (sl [1, 2] ys).2 = E from HE.out.symm]
    have F9 := Lib.hid (F8.out.drewN n9)
    obtain ⟨u9, hu9⟩ : ∃ u9, u9 = u8.drewN n9 := ⟨_, rfl⟩
    rw [← hu9] at F9 ⊢
    clear hu9
    go_wp2_with (refine wpList_store_blk rfl 24 (.tmp 2) (.tmp 86) rfl w.heap.size rfl Pu.none.cells rfl F9.out.b2 rfl size_pdu (one_p _) ?_; intro w9 hB9 ho9)
    have e0 := hB9.out.cell (i := 0) rfl
    have e1 := hB9.out.cell (i := 1) rfl
    have e2 := hB9.out.cell (i := 2) rfl
    have e3 := hB9.out.cell (i := 3) rfl
    have e4 := hB9.out.cell (i := 4) rfl
    have e5 := hB9.out.cell (i := 5) rfl
    have e6 := hB9.out.cell (i := 6) rfl
    have e7 := hB9.out.cell (i := 7) rfl
    have e8 := hB9.out.cell (i := 8) rfl
    refine bodyPost_ret (v := .tuple #[Pu.none.val, .int .i64 E]) (by simp [results, Try.results25, go_sem, Pu.none, e0, e1, e2, e3, e4, e5, e6, e7, e8]) rfl ?_
    exact ⟨Pu.none, by rw [hP], by rw [hP]; rfl, none_ok _, ho9.out.below F9.out.bel (Nat.le_refl _) F9.out.bel.size⟩

set_option maxRecDepth 100000 in
set_option maxHeartbeats 3200000 in
theorem parse6 (A : Option Addr) (n c : Nat) (ys : List Nat) (w : World) (hR : Rd w A n c (u8n ys)) (hb : byt ys) (hv : vl [] 1 ys = 6) : Calls Try.prog 25 #[.slice A n c] w (Tells w (parse ys)) := by
  have HK := Lib.hid (show nm ys 0 1 = 6 from by rw [← vl_first]; exact hv)
  have hB2 := Blk.new w 24 Pu.none.cells
  have hbl : Below w.heap.size w (w.alloc (.cells Pu.none.cells.toArray 24)) := (Below.refl _ _).alloc (Nat.le_refl _) _
  have hs1 : (w.alloc (.cells Pu.none.cells.toArray 24)).heap.size = w.heap.size + 1 := by simp
  have hRz := hR.below hbl
  have hRB := Blk.new (w.alloc (.cells Pu.none.cells.toArray 24)) 61 [.slice A n c, .int .i64 0, .int .i64 0]
  have hfar : 0 < n → ∀ g o, A = some ⟨g, o, none⟩ → g < w.heap.size := fun h0 g o hA => by
    obtain ⟨g', o', hA', hlt, _⟩ := hR.2.2.2 h0
    rw [hA] at hA'
    injection hA' with hA'
    injection hA' with h1 _
    omega
  rw [hs1] at hRB
  have hST : SR ((w.alloc (.cells Pu.none.cells.toArray 24)).alloc (.cells [.slice A n c, .int .i64 0, .int .i64 0].toArray 61)) (w.heap.size + 1) (sl [] ys).1 (sl [] ys).2 :=
    ⟨A, n, c, 0, nl ys, hRB, by rw [← nl_u8s]; exact hRz.alloc _, by omega, by simp [sl, rdl], fun h0 g o hA => by have := hfar h0 g o hA; omega⟩
  have hB2' := hB2.alloc (.cells [.slice A n c, .int .i64 0, .int .i64 0].toArray 61)
  have hbl' := hbl.alloc (by rw [hs1]; omega) (.cells [.slice A n c, .int .i64 0, .int .i64 0].toArray 61)
  have hs2 : ((w.alloc (.cells Pu.none.cells.toArray 24)).alloc (.cells [.slice A n c, .int .i64 0, .int .i64 0].toArray 61)).heap.size = w.heap.size + 2 := by simp
  have HB := Lib.hid hb
  clear hB2 hbl hRz hRB hfar hb hR
  obtain ⟨w1, hw1⟩ : ∃ w1, w1 = ((w.alloc (.cells Pu.none.cells.toArray 24)).alloc (.cells [.slice A n c, .int .i64 0, .int .i64 0].toArray 61)) := ⟨_, rfl⟩
  rw [← hw1] at hST hB2' hbl' hs2
  have HW1 := Lib.hid (show ((w.alloc (.cells #[.int .i64 0, .int .i64 0, .int .i64 0, .int .i64 0, .int .i64 0, .int .i64 0, .int .i64 0, .int .i64 0, .slice none 0 0] 24)).alloc (.cells #[.slice A n c, .int .i64 0, .int .i64 0] 61)) = w1 from hw1.symm)
  have HST := Lib.hid hST
  have HB2 := Lib.hid hB2'
  have HL1 := Lib.hid hbl'
  have HS2 := Lib.hid hs2
  clear hw1 hST hB2' hbl' hs1 hs2
  go_enter Try.func25, Try.ntmps25
  go_wp2_with fail
  rw [HW1.out]
  clear HW1
  refine (num_s (w.heap.size + 1) 1 1 [] [1] ys w1 rfl HB.out rfl HST.out).mono ?_
  rintro e w2 ⟨rfl, hst, hgr⟩
  rw [hv]
  have hlt2 := HL1.out.size
  have hk2 : Keep (fun i => i = w.heap.size + 1) w1 w2 := Keep.grown hgr fun i hi => by injection hi with hi; exact hi.symm
  have F0 := Lib.hid (show Fp w w.heap.size (w.heap.size + 1) w2.heap.size (sl [1] ys) [.int .i64 6, .int .i64 0, .int .i64 0, .int .i64 0, .int .i64 0, .int .i64 0, .int .i64 0, .int .i64 0, .slice none 0 0] (w2.alloc (.cells #[.int .i64 6, .int .i64 0, .int .i64 0, .int .i64 0, .int .i64 0, .int .i64 0, .int .i64 0, .int .i64 0, .slice none 0 0] 24)) from
    ⟨(hk2.blk HB2.out (by show ¬ w.heap.size = w.heap.size + 1; omega)).alloc _, Blk.new w2 _ [.int .i64 6, .int .i64 0, .int .i64 0, .int .i64 0, .int .i64 0, .int .i64 0, .int .i64 0, .int .i64 0, .slice none 0 0], SR.below hst ((Below.refl _ _).alloc (Nat.le_refl _) _), (HL1.out.trans (hk2.below (fun i hi => by have : i = w.heap.size + 1 := hi; omega) hlt2)).alloc (by have := hk2.size; omega) _, Nat.le_refl _, by omega, by have := hk2.size; have := HS2.out; omega⟩)
  have hy0 := F0.out.bx.cell (i := 0) rfl
  go_wp2_with fail
  obtain ⟨gx, hgx⟩ : ∃ gx, gx = w2.heap.size := ⟨_, rfl⟩
  rw [← hgx] at F0
  rw [← hgx]
  clear hgx hst hgr hk2 hy0 HB2 HL1 HST HS2
  generalize w2.alloc (.cells #[.int .i64 6, .int .i64 0, .int .i64 0, .int .i64 0, .int .i64 0, .int .i64 0, .int .i64 0, .int .i64 0, .slice none 0 0] 24) = u0 at *
  refine (num_s (w.heap.size + 1) 2 2 [1] [1, 2] ys u0 rfl HB.out rfl F0.out.st).mono ?_
  rintro e v0 ⟨rfl, hst, hgr⟩
  have hF := F0.out.num hst hgr
  have c0 := hF.bx.cell (i := 0) rfl
  have cj := hF.bx.cell (i := 1) rfl
  have fj := hF.bx.frozen 1
  have G0 := Lib.hid (show Fp w w.heap.size (w.heap.size + 1) gx (sl [1, 2] ys) [.int .i64 6, .int .i64 (vl [1] 2 ys), .int .i64 0, .int .i64 0, .int .i64 0, .int .i64 0, .int .i64 0, .int .i64 0, .slice none 0 0] (v0.setCell ⟨gx, 1, none⟩ (.int .i64 (vl [1] 2 ys))) from hF.set 1 (.int .i64 (vl [1] 2 ys)))
  have hy0 := G0.out.bx.cell (i := 0) rfl
  clear hst hgr hF F0
  go_wp2_with fail
  obtain ⟨u1, hu⟩ : ∃ u, u = v0.setCell ⟨gx, 1, none⟩ (.int .i64 (vl [1] 2 ys)) := ⟨_, rfl⟩
  rw [← hu] at G0 ⊢
  have F0 := G0
  clear hu c0 cj fj G0 hy0
  refine (num_s (w.heap.size + 1) 1 1 [1, 2] [1, 2, 1] ys u1 rfl HB.out rfl F0.out.st).mono ?_
  rintro e v1 ⟨rfl, hst, hgr⟩
  have hF := F0.out.num hst hgr
  have c0 := hF.bx.cell (i := 0) rfl
  have cj := hF.bx.cell (i := 5) rfl
  have fj := hF.bx.frozen 5
  have G0 := Lib.hid (show Fp w w.heap.size (w.heap.size + 1) gx (sl [1, 2, 1] ys) [.int .i64 6, .int .i64 (vl [1] 2 ys), .int .i64 0, .int .i64 0, .int .i64 0, .int .i64 (vl [1, 2] 1 ys), .int .i64 0, .int .i64 0, .slice none 0 0] (v1.setCell ⟨gx, 5, none⟩ (.int .i64 (vl [1, 2] 1 ys))) from hF.set 5 (.int .i64 (vl [1, 2] 1 ys)))
  have hy0 := G0.out.bx.cell (i := 0) rfl
  clear hst hgr hF F0
  go_wp2_with fail
  obtain ⟨u2, hu⟩ : ∃ u, u = v1.setCell ⟨gx, 5, none⟩ (.int .i64 (vl [1, 2] 1 ys)) := ⟨_, rfl⟩
  rw [← hu] at G0 ⊢
  have F0 := G0
  clear hu c0 cj fj G0 hy0
  refine (num_s (w.heap.size + 1) 1 1 [1, 2, 1] [1, 2, 1, 1] ys u2 rfl HB.out rfl F0.out.st).mono ?_
  rintro e v2 ⟨rfl, hst, hgr⟩
  have hF := F0.out.num hst hgr
  have c0 := hF.bx.cell (i := 0) rfl
  have cj := hF.bx.cell (i := 3) rfl
  have fj := hF.bx.frozen 3
  have G0 := Lib.hid (show Fp w w.heap.size (w.heap.size + 1) gx (sl [1, 2, 1, 1] ys) [.int .i64 6, .int .i64 (vl [1] 2 ys), .int .i64 0, .int .i64 (vl [1, 2, 1] 1 ys), .int .i64 0, .int .i64 (vl [1, 2] 1 ys), .int .i64 0, .int .i64 0, .slice none 0 0] (v2.setCell ⟨gx, 3, none⟩ (.int .i64 (vl [1, 2, 1] 1 ys))) from hF.set 3 (.int .i64 (vl [1, 2, 1] 1 ys)))
  have hy0 := G0.out.bx.cell (i := 0) rfl
  clear hst hgr hF F0
  go_wp2_with fail
  obtain ⟨u3, hu⟩ : ∃ u, u = v2.setCell ⟨gx, 3, none⟩ (.int .i64 (vl [1, 2, 1] 1 ys)) := ⟨_, rfl⟩
  rw [← hu] at G0 ⊢
  have F0 := G0
  clear hu c0 cj fj G0 hy0
  have hF := F0
  obtain ⟨E, hE⟩ : ∃ E, E = en [1, 2, 1, 1] ys := ⟨_, rfl⟩
  have HE := Lib.hid hE
  clear hE
  refine (rend_any _ _ _ _ hF.out.st).mono ?_
  rintro e w8 ⟨rfl, n8, rfl⟩
  rw [show endN (sl [1, 2, 1, 1] ys).1 (sl [1, 2, 1, 1] ys).2 = E from HE.out.symm]
  have F8 := Lib.hid (hF.out.drewN n8)
  obtain ⟨u8, hu8⟩ : ∃ u8, u8 = u3.drewN n8 := ⟨_, rfl⟩
  rw [← hu8] at F8 ⊢
  clear hu8 hF F0
  by_cases hE0 : E = 0
  · have hP : parse ys = (msg 6 ys, 0) := by rw [parse_of HK.out (by omega) (by rfl : hl 6 = List.sum [1, 2, 1, 1]), if_pos (by rw [← HE.out]; exact hE0)]
    have hlen := en_len (ks := [1, 2, 1, 1]) (ys := ys) (by rw [← HE.out]; exact hE0)
    have hEb : (E != 0) = false := by simp [hE0]
    subst hE0
    go_wp2_with (first
      | (refine wpList_load_blk rfl 24 _ rfl gx rfl F8.out.bx Try.underlying24 rfl size_pdu ?_)
      | (refine wpList_store_blk rfl 24 (.tmp 2) (.tmp 89) rfl w.heap.size rfl (Pu.cells ⟨6, (vl [1] 2 ys), 0, (vl [1, 2, 1] 1 ys), 0, (vl [1, 2] 1 ys), 0, 0, none, 0, 0, []⟩) rfl F8.out.b2 rfl size_pdu (one_p ⟨6, (vl [1] 2 ys), 0, (vl [1, 2, 1] 1 ys), 0, (vl [1, 2] 1 ys), 0, 0, none, 0, 0, []⟩) ?_; intro w9 hB9 ho9))
    have e0 := hB9.out.cell (i := 0) rfl
    have e1 := hB9.out.cell (i := 1) rfl
    have e2 := hB9.out.cell (i := 2) rfl
    have e3 := hB9.out.cell (i := 3) rfl
    have e4 := hB9.out.cell (i := 4) rfl
    have e5 := hB9.out.cell (i := 5) rfl
    have e6 := hB9.out.cell (i := 6) rfl
    have e7 := hB9.out.cell (i := 7) rfl
    have e8 := hB9.out.cell (i := 8) rfl
    refine bodyPost_ret (v := .tuple #[Pu.val ⟨6, (vl [1] 2 ys), 0, (vl [1, 2, 1] 1 ys), 0, (vl [1, 2] 1 ys), 0, 0, none, 0, 0, []⟩, .int .i64 0]) (by simp [results, Try.results25, go_sem, e0, e1, e2, e3, e4, e5, e6, e7, e8]) rfl ?_
    have kp9 : Keep (fun i => i = w.heap.size) u8 w9 := Keep.only ho9.out rfl
    refine ⟨⟨6, (vl [1] 2 ys), 0, (vl [1, 2, 1] 1 ys), 0, (vl [1, 2] 1 ys), 0, 0, none, 0, 0, []⟩, by rw [hP], ?_, ⟨Rd.nil _, by intro c hc; cases hc⟩, ho9.out.below F8.out.bel (Nat.le_refl _) F8.out.bel.size⟩
    rw [hP]
    simp only [List.sum_cons, List.sum_nil] at hlen
    show (⟨6, (vl [1] 2 ys), 0, (vl [1, 2, 1] 1 ys), 0, (vl [1, 2] 1 ys), 0, 0, []⟩ : Pd) = _
    rw [vl_ok (ks := [1]) (k := 2) (ys := ys) (by simp only [List.sum_cons, List.sum_nil]; omega), vl_ok (ks := [1, 2]) (k := 1) (ys := ys) (by simp only [List.sum_cons, List.sum_nil]; omega), vl_ok (ks := [1, 2, 1]) (k := 1) (ys := ys) (by simp only [List.sum_cons, List.sum_nil]; omega)]
    rfl
  · have hP : parse ys = (Pd.none, E) := by rw [parse_of HK.out (by omega) (by rfl : hl 6 = List.sum [1, 2, 1, 1]), if_neg (by rw [← HE.out]; exact hE0), ← HE.out]
    have hEb : (E != 0) = true := by simpa using hE0
    go_wp2_with fail
    refine (rend_any _ _ _ _ F8.out.st).mono ?_
    rintro e w9 ⟨rfl, n9, rfl⟩
    rw [show endN (sl [1, 2, 1, 1] ys).1 (sl [1, 2, 1, 1] ys).2 = E from HE.out.symm]
    have F9 := Lib.hid (F8.out.drewN n9)
    obtain ⟨u9, hu9⟩ : ∃ u9, u9 = u8.drewN n9 := ⟨_, rfl⟩
    rw [← hu9] at F9 ⊢
    clear hu9
    go_wp2_with (refine wpList_store_blk rfl 24 (.tmp 2) (.tmp 86) rfl w.heap.size rfl Pu.none.cells rfl F9.out.b2 rfl size_pdu (one_p _) ?_; intro w9 hB9 ho9)
    have e0 := hB9.out.cell (i := 0) rfl
    have e1 := hB9.out.cell (i := 1) rfl
    have e2 := hB9.out.cell (i := 2) rfl
    have e3 := hB9.out.cell (i := 3) rfl
    have e4 := hB9.out.cell (i := 4) rfl
    have e5 := hB9.out.cell (i := 5) rfl
    have e6 := hB9.out.cell (i := 6) rfl
    have e7 := hB9.out.cell (i := 7) rfl
    have e8 := hB9.out.cell (i := 8) rfl
    refine bodyPost_ret (v := .tuple #[Pu.none.val, .int .i64 E]) (by simp [results, Try.results25, go_sem, Pu.none, e0, e1, e2, e3, e4, e5, e6, e7, e8]) rfl ?_
    exact ⟨Pu.none, by rw [hP], by rw [hP]; rfl, none_ok _, ho9.out.below F9.out.bel (Nat.le_refl _) F9.out.bel.size⟩

set_option maxRecDepth 100000 in
set_option maxHeartbeats 3200000 in
theorem parse7 (A : Option Addr) (n c : Nat) (ys : List Nat) (w : World) (hR : Rd w A n c (u8n ys)) (hb : byt ys) (hv : vl [] 1 ys = 7) : Calls Try.prog 25 #[.slice A n c] w (Tells w (parse ys)) := by
  have HK := Lib.hid (show nm ys 0 1 = 7 from by rw [← vl_first]; exact hv)
  have hB2 := Blk.new w 24 Pu.none.cells
  have hbl : Below w.heap.size w (w.alloc (.cells Pu.none.cells.toArray 24)) := (Below.refl _ _).alloc (Nat.le_refl _) _
  have hs1 : (w.alloc (.cells Pu.none.cells.toArray 24)).heap.size = w.heap.size + 1 := by simp
  have hRz := hR.below hbl
  have hRB := Blk.new (w.alloc (.cells Pu.none.cells.toArray 24)) 61 [.slice A n c, .int .i64 0, .int .i64 0]
  have hfar : 0 < n → ∀ g o, A = some ⟨g, o, none⟩ → g < w.heap.size := fun h0 g o hA => by
    obtain ⟨g', o', hA', hlt, _⟩ := hR.2.2.2 h0
    rw [hA] at hA'
    injection hA' with hA'
    injection hA' with h1 _
    omega
  rw [hs1] at hRB
  have hST : SR ((w.alloc (.cells Pu.none.cells.toArray 24)).alloc (.cells [.slice A n c, .int .i64 0, .int .i64 0].toArray 61)) (w.heap.size + 1) (sl [] ys).1 (sl [] ys).2 :=
    ⟨A, n, c, 0, nl ys, hRB, by rw [← nl_u8s]; exact hRz.alloc _, by omega, by simp [sl, rdl], fun h0 g o hA => by have := hfar h0 g o hA; omega⟩
  have hB2' := hB2.alloc (.cells [.slice A n c, .int .i64 0, .int .i64 0].toArray 61)
  have hbl' := hbl.alloc (by rw [hs1]; omega) (.cells [.slice A n c, .int .i64 0, .int .i64 0].toArray 61)
  have hs2 : ((w.alloc (.cells Pu.none.cells.toArray 24)).alloc (.cells [.slice A n c, .int .i64 0, .int .i64 0].toArray 61)).heap.size = w.heap.size + 2 := by simp
  have HB := Lib.hid hb
  clear hB2 hbl hRz hRB hfar hb hR
  obtain ⟨w1, hw1⟩ : ∃ w1, w1 = ((w.alloc (.cells Pu.none.cells.toArray 24)).alloc (.cells [.slice A n c, .int .i64 0, .int .i64 0].toArray 61)) := ⟨_, rfl⟩
  rw [← hw1] at hST hB2' hbl' hs2
  have HW1 := Lib.hid (show ((w.alloc (.cells #[.int .i64 0, .int .i64 0, .int .i64 0, .int .i64 0, .int .i64 0, .int .i64 0, .int .i64 0, .int .i64 0, .slice none 0 0] 24)).alloc (.cells #[.slice A n c, .int .i64 0, .int .i64 0] 61)) = w1 from hw1.symm)
  have HST := Lib.hid hST
  have HB2 := Lib.hid hB2'
  have HL1 := Lib.hid hbl'
  have HS2 := Lib.hid hs2
  clear hw1 hST hB2' hbl' hs1 hs2
  go_enter Try.func25, Try.ntmps25
  go_wp2_with fail
  rw [HW1.out]
  clear HW1
  refine (num_s (w.heap.size + 1) 1 1 [] [1] ys w1 rfl HB.out rfl HST.out).mono ?_
  rintro e w2 ⟨rfl, hst, hgr⟩
  rw [hv]
  have hlt2 := HL1.out.size
  have hk2 : Keep (fun i => i = w.heap.size + 1) w1 w2 := Keep.grown hgr fun i hi => by injection hi with hi; exact hi.symm
  have F0 := Lib.hid (show Fp w w.heap.size (w.heap.size + 1) w2.heap.size (sl [1] ys) [.int .i64 7, .int .i64 0, .int .i64 0, .int .i64 0, .int .i64 0, .int .i64 0, .int .i64 0, .int .i64 0, .slice none 0 0] (w2.alloc (.cells #[.int .i64 7, .int .i64 0, .int .i64 0, .int .i64 0, .int .i64 0, .int .i64 0, .int .i64 0, .int .i64 0, .slice none 0 0] 24)) from
    ⟨(hk2.blk HB2.out (by show ¬ w.heap.size = w.heap.size + 1; omega)).alloc _, Blk.new w2 _ [.int .i64 7, .int .i64 0, .int .i64 0, .int .i64 0, .int .i64 0, .int .i64 0, .int .i64 0, .int .i64 0, .slice none 0 0], SR.below hst ((Below.refl _ _).alloc (Nat.le_refl _) _), (HL1.out.trans (hk2.below (fun i hi => by have : i = w.heap.size + 1 := hi; omega) hlt2)).alloc (by have := hk2.size; omega) _, Nat.le_refl _, by omega, by have := hk2.size; have := HS2.out; omega⟩)
  have hy0 := F0.out.bx.cell (i := 0) rfl
  go_wp2_with fail
  obtain ⟨gx, hgx⟩ : ∃ gx, gx = w2.heap.size := ⟨_, rfl⟩
  rw [← hgx] at F0
  rw [← hgx]
  clear hgx hst hgr hk2 hy0 HB2 HL1 HST HS2
  generalize w2.alloc (.cells #[.int .i64 7, .int .i64 0, .int .i64 0, .int .i64 0, .int .i64 0, .int .i64 0, .int .i64 0, .int .i64 0, .slice none 0 0] 24) = u0 at *
  refine (num_s (w.heap.size + 1) 2 2 [1] [1, 2] ys u0 rfl HB.out rfl F0.out.st).mono ?_
  rintro e v0 ⟨rfl, hst, hgr⟩
  have hF := F0.out.num hst hgr
  have c0 := hF.bx.cell (i := 0) rfl
  have cj := hF.bx.cell (i := 1) rfl
  have fj := hF.bx.frozen 1
  have G0 := Lib.hid (show Fp w w.heap.size (w.heap.size + 1) gx (sl [1, 2] ys) [.int .i64 7, .int .i64 (vl [1] 2 ys), .int .i64 0, .int .i64 0, .int .i64 0, .int .i64 0, .int .i64 0, .int .i64 0, .slice none 0 0] (v0.setCell ⟨gx, 1, none⟩ (.int .i64 (vl [1] 2 ys))) from hF.set 1 (.int .i64 (vl [1] 2 ys)))
  have hy0 := G0.out.bx.cell (i := 0) rfl
  clear hst hgr hF F0
  go_wp2_with fail
  obtain ⟨u1, hu⟩ : ∃ u, u = v0.setCell ⟨gx, 1, none⟩ (.int .i64 (vl [1] 2 ys)) := ⟨_, rfl⟩
  rw [← hu] at G0 ⊢
  have F0 := G0
  clear hu c0 cj fj G0 hy0
  refine (num_s (w.heap.size + 1) 1 1 [1, 2] [1, 2, 1] ys u1 rfl HB.out rfl F0.out.st).mono ?_
  rintro e v1 ⟨rfl, hst, hgr⟩
  have hF := F0.out.num hst hgr
  have c0 := hF.bx.cell (i := 0) rfl
  have cj := hF.bx.cell (i := 5) rfl
  have fj := hF.bx.frozen 5
  have G0 := Lib.hid (show Fp w w.heap.size (w.heap.size + 1) gx (sl [1, 2, 1] ys) [.int .i64 7, .int .i64 (vl [1] 2 ys), .int .i64 0, .int .i64 0, .int .i64 0, .int .i64 (vl [1, 2] 1 ys), .int .i64 0, .int .i64 0, .slice none 0 0] (v1.setCell ⟨gx, 5, none⟩ (.int .i64 (vl [1, 2] 1 ys))) from hF.set 5 (.int .i64 (vl [1, 2] 1 ys)))
  have hy0 := G0.out.bx.cell (i := 0) rfl
  clear hst hgr hF F0
  go_wp2_with fail
  obtain ⟨u2, hu⟩ : ∃ u, u = v1.setCell ⟨gx, 5, none⟩ (.int .i64 (vl [1, 2] 1 ys)) := ⟨_, rfl⟩
  rw [← hu] at G0 ⊢
  have F0 := G0
  clear hu c0 cj fj G0 hy0
  refine (num_s (w.heap.size + 1) 1 1 [1, 2, 1] [1, 2, 1, 1] ys u2 rfl HB.out rfl F0.out.st).mono ?_
  rintro e v2 ⟨rfl, hst, hgr⟩
  have hF := F0.out.num hst hgr
  have c0 := hF.bx.cell (i := 0) rfl
  have cj := hF.bx.cell (i := 3) rfl
  have fj := hF.bx.frozen 3
  have G0 := Lib.hid (show Fp w w.heap.size (w.heap.size + 1) gx (sl [1, 2, 1, 1] ys) [.int .i64 7, .int .i64 (vl [1] 2 ys), .int .i64 0, .int .i64 (vl [1, 2, 1] 1 ys), .int .i64 0, .int .i64 (vl [1, 2] 1 ys), .int .i64 0, .int .i64 0, .slice none 0 0] (v2.setCell ⟨gx, 3, none⟩ (.int .i64 (vl [1, 2, 1] 1 ys))) from hF.set 3 (.int .i64 (vl [1, 2, 1] 1 ys)))
  have hy0 := G0.out.bx.cell (i := 0) rfl
  clear hst hgr hF F0
  go_wp2_with fail
  obtain ⟨u3, hu⟩ : ∃ u, u = v2.setCell ⟨gx, 3, none⟩ (.int .i64 (vl [1, 2, 1] 1 ys)) := ⟨_, rfl⟩
  rw [← hu] at G0 ⊢
  have F0 := G0
  clear hu c0 cj fj G0 hy0
  refine (num_s (w.heap.size + 1) 1 1 [1, 2, 1, 1] [1, 2, 1, 1, 1] ys u3 rfl HB.out rfl F0.out.st).mono ?_
  rintro e v3 ⟨rfl, hst, hgr⟩
  have hF := F0.out.num hst hgr
  have c0 := hF.bx.cell (i := 0) rfl
  have cj := hF.bx.cell (i := 6) rfl
  have fj := hF.bx.frozen 6
  have G0 := Lib.hid (show Fp w w.heap.size (w.heap.size + 1) gx (sl [1, 2, 1, 1, 1] ys) [.int .i64 7, .int .i64 (vl [1] 2 ys), .int .i64 0, .int .i64 (vl [1, 2, 1] 1 ys), .int .i64 0, .int .i64 (vl [1, 2] 1 ys), .int .i64 (vl [1, 2, 1, 1] 1 ys), .int .i64 0, .slice none 0 0] (v3.setCell ⟨gx, 6, none⟩ (.int .i64 (vl [1, 2, 1, 1] 1 ys))) from hF.set 6 (.int .i64 (vl [1, 2, 1, 1] 1 ys)))
  have hy0 := G0.out.bx.cell (i := 0) rfl
  clear hst hgr hF F0
  go_wp2_with fail
  obtain ⟨u4, hu⟩ : ∃ u, u = v3.setCell ⟨gx, 6, none⟩ (.int .i64 (vl [1, 2, 1, 1] 1 ys)) := ⟨_, rfl⟩
  rw [← hu] at G0 ⊢
  have F0 := G0
  clear hu c0 cj fj G0 hy0
  have hF := F0
  obtain ⟨E, hE⟩ : ∃ E, E = en [1, 2, 1, 1, 1] ys := ⟨_, rfl⟩
  have HE := Lib.hid hE
  clear hE
  refine (rend_any _ _ _ _ hF.out.st).mono ?_
  rintro e w8 ⟨rfl, n8, rfl⟩
  rw [show endN (sl [1, 2, 1, 1, 1] ys).1 (sl [1, 2, 1, 1, 1] ys).2 = E from HE.out.symm]
  have F8 := Lib.hid (hF.out.drewN n8)
  obtain ⟨u8, hu8⟩ : ∃ u8, u8 = u4.drewN n8 := ⟨_, rfl⟩
  rw [← hu8] at F8 ⊢
  clear hu8 hF F0
  by_cases hE0 : E = 0
  · have hP : parse ys = (msg 7 ys, 0) := by rw [parse_of HK.out (by omega) (by rfl : hl 7 = List.sum [1, 2, 1, 1, 1]), if_pos (by rw [← HE.out]; exact hE0)]
    have hlen := en_len (ks := [1, 2, 1, 1, 1]) (ys := ys) (by rw [← HE.out]; exact hE0)
    have hEb : (E != 0) = false := by simp [hE0]
    subst hE0
    go_wp2_with (first
      | (refine wpList_load_blk rfl 24 _ rfl gx rfl F8.out.bx Try.underlying24 rfl size_pdu ?_)
      | (refine wpList_store_blk rfl 24 (.tmp 2) (.tmp 89) rfl w.heap.size rfl (Pu.cells ⟨7, (vl [1] 2 ys), 0, (vl [1, 2, 1] 1 ys), 0, (vl [1, 2] 1 ys), (vl [1, 2, 1, 1] 1 ys), 0, none, 0, 0, []⟩) rfl F8.out.b2 rfl size_pdu (one_p ⟨7, (vl [1] 2 ys), 0, (vl [1, 2, 1] 1 ys), 0, (vl [1, 2] 1 ys), (vl [1, 2, 1, 1] 1 ys), 0, none, 0, 0, []⟩) ?_; intro w9 hB9 ho9))
    have e0 := hB9.out.cell (i := 0) rfl
    have e1 := hB9.out.cell (i := 1) rfl
    have e2 := hB9.out.cell (i := 2) rfl
    have e3 := hB9.out.cell (i := 3) rfl
    have e4 := hB9.out.cell (i := 4) rfl
    have e5 := hB9.out.cell (i := 5) rfl
    have e6 := hB9.out.cell (i := 6) rfl
    have e7 := hB9.out.cell (i := 7) rfl
    have e8 := hB9.out.cell (i := 8) rfl
    refine bodyPost_ret (v := .tuple #[Pu.val ⟨7, (vl [1] 2 ys), 0, (vl [1, 2, 1] 1 ys), 0, (vl [1, 2] 1 ys), (vl [1, 2, 1, 1] 1 ys), 0, none, 0, 0, []⟩, .int .i64 0]) (by simp [results, Try.results25, go_sem, e0, e1, e2, e3, e4, e5, e6, e7, e8]) rfl ?_
    have kp9 : Keep (fun i => i = w.heap.size) u8 w9 := Keep.only ho9.out rfl
    refine ⟨⟨7, (vl [1] 2 ys), 0, (vl [1, 2, 1] 1 ys), 0, (vl [1, 2] 1 ys), (vl [1, 2, 1, 1] 1 ys), 0, none, 0, 0, []⟩, by rw [hP], ?_, ⟨Rd.nil _, by intro c hc; cases hc⟩, ho9.out.below F8.out.bel (Nat.le_refl _) F8.out.bel.size⟩
    rw [hP]
    simp only [List.sum_cons, List.sum_nil] at hlen
    show (⟨7, (vl [1] 2 ys), 0, (vl [1, 2, 1] 1 ys), 0, (vl [1, 2] 1 ys), (vl [1, 2, 1, 1] 1 ys), 0, []⟩ : Pd) = _
    rw [vl_ok (ks := [1]) (k := 2) (ys := ys) (by simp only [List.sum_cons, List.sum_nil]; omega), vl_ok (ks := [1, 2]) (k := 1) (ys := ys) (by simp only [List.sum_cons, List.sum_nil]; omega), vl_ok (ks := [1, 2, 1]) (k := 1) (ys := ys) (by simp only [List.sum_cons, List.sum_nil]; omega), vl_ok (ks := [1, 2, 1, 1]) (k := 1) (ys := ys) (by simp only [List.sum_cons, List.sum_nil]; omega)]
    rfl
  · have hP : parse ys = (Pd.none, E) := by rw [parse_of HK.out (by omega) (by rfl : hl 7 = List.sum [1, 2, 1, 1, 1]), if_neg (by rw [← HE.out]; exact hE0), ← HE.out]
    have hEb : (E != 0) = true := by simpa using hE0
    go_wp2_with fail
    refine (rend_any _ _ _ _ F8.out.st).mono ?_
    rintro e w9 ⟨rfl, n9, rfl⟩
    rw [show endN (sl [1, 2, 1, 1, 1] ys).1 (sl [1, 2, 1, 1, 1] ys).2 = E from HE.out.symm]
    have F9 := Lib.hid (F8.out.drewN n9)
    obtain ⟨u9, hu9⟩ : ∃ u9, u9 = u8.drewN n9 := ⟨_, rfl⟩
    rw [← hu9] at F9 ⊢
    clear hu9
    go_wp2_with (refine wpList_store_blk rfl 24 (.tmp 2) (.tmp 86) rfl w.heap.size rfl Pu.none.cells rfl F9.out.b2 rfl size_pdu (one_p _) ?_; intro w9 hB9 ho9)
    have e0 := hB9.out.cell (i := 0) rfl
    have e1 := hB9.out.cell (i := 1) rfl
    have e2 := hB9.out.cell (i := 2) rfl
    have e3 := hB9.out.cell (i := 3) rfl
    have e4 := hB9.out.cell (i := 4) rfl
    have e5 := hB9.out.cell (i := 5) rfl
    have e6 := hB9.out.cell (i := 6) rfl
    have e7 := hB9.out.cell (i := 7) rfl
    have e8 := hB9.out.cell (i := 8) rfl
    refine bodyPost_ret (v := .tuple #[Pu.none.val, .int .i64 E]) (by simp [results, Try.results25, go_sem, Pu.none, e0, e1, e2, e3, e4, e5, e6, e7, e8]) rfl ?_
    exact ⟨Pu.none, by rw [hP], by rw [hP]; rfl, none_ok _, ho9.out.below F9.out.bel (Nat.le_refl _) F9.out.bel.size⟩

set_option maxRecDepth 100000 in
set_option maxHeartbeats 3200000 in
theorem parse8 (A : Option Addr) (n c : Nat) (ys : List Nat) (w : World) (hR : Rd w A n c (u8n ys)) (hb : byt ys) (hv : vl [] 1 ys = 8) : Calls Try.prog 25 #[.slice A n c] w (Tells w (parse ys)) := by
  have HK := Lib.hid (show nm ys 0 1 = 8 from by rw [← vl_first]; exact hv)
  have hB2 := Blk.new w 24 Pu.none.cells
  have hbl : Below w.heap.size w (w.alloc (.cells Pu.none.cells.toArray 24)) := (Below.refl _ _).alloc (Nat.le_refl _) _
  have hs1 : (w.alloc (.cells Pu.none.cells.toArray 24)).heap.size = w.heap.size + 1 := by simp
  have hRz := hR.below hbl
  have hRB := Blk.new (w.alloc (.cells Pu.none.cells.toArray 24)) 61 [.slice A n c, .int .i64 0, .int .i64 0]
  have hfar : 0 < n → ∀ g o, A = some ⟨g, o, none⟩ → g < w.heap.size := fun h0 g o hA => by
    obtain ⟨g', o', hA', hlt, _⟩ := hR.2.2.2 h0
    rw [hA] at hA'
    injection hA' with hA'
    injection hA' with h1 _
    omega
  rw [hs1] at hRB
  have hST : SR ((w.alloc (.cells Pu.none.cells.toArray 24)).alloc (.cells [.slice A n c, .int .i64 0, .int .i64 0].toArray 61)) (w.heap.size + 1) (sl [] ys).1 (sl [] ys).2 :=
    ⟨A, n, c, 0, nl ys, hRB, by rw [← nl_u8s]; exact hRz.alloc _, by omega, by simp [sl, rdl], fun h0 g o hA => by have := hfar h0 g o hA; omega⟩
  have hB2' := hB2.alloc (.cells [.slice A n c, .int .i64 0, .int .i64 0].toArray 61)
  have hbl' := hbl.alloc (by rw [hs1]; omega) (.cells [.slice A n c, .int .i64 0, .int .i64 0].toArray 61)
  have hs2 : ((w.alloc (.cells Pu.none.cells.toArray 24)).alloc (.cells [.slice A n c, .int .i64 0, .int .i64 0].toArray 61)).heap.size = w.heap.size + 2 := by simp
  have HB := Lib.hid hb
  clear hB2 hbl hRz hRB hfar hb hR
  obtain ⟨w1, hw1⟩ : ∃ w1, w1 = ((w.alloc (.cells Pu.none.cells.toArray 24)).alloc (.cells [.slice A n c, .int .i64 0, .int .i64 0].toArray 61)) := ⟨_, rfl⟩
  rw [← hw1] at hST hB2' hbl' hs2
  have HW1 := Lib.hid (show ((w.alloc (.cells #[.int .i64 0, .int .i64 0, .int .i64 0, .int .i64 0, .int .i64 0, .int .i64 0, .int .i64 0, .int .i64 0, .slice none 0 0] 24)).alloc (.cells #[.slice A n c, .int .i64 0, .int .i64 0] 61)) = w1 from hw1.symm)
  have HST := Lib.hid hST
  have HB2 := Lib.hid hB2'
  have HL1 := Lib.hid hbl'
  have HS2 := Lib.hid hs2
  clear hw1 hST hB2' hbl' hs1 hs2
  go_enter Try.func25, Try.ntmps25
  go_wp2_with fail
  rw [HW1.out]
  clear HW1
  refine (num_s (w.heap.size + 1) 1 1 [] [1] ys w1 rfl HB.out rfl HST.out).mono ?_
  rintro e w2 ⟨rfl, hst, hgr⟩
  rw [hv]
  have hlt2 := HL1.out.size
  have hk2 : Keep (fun i => i = w.heap.size + 1) w1 w2 := Keep.grown hgr fun i hi => by injection hi with hi; exact hi.symm
  have F0 := Lib.hid (show Fp w w.heap.size (w.heap.size + 1) w2.heap.size (sl [1] ys) [.int .i64 8, .int .i64 0, .int .i64 0, .int .i64 0, .int .i64 0, .int .i64 0, .int .i64 0, .int .i64 0, .slice none 0 0] (w2.alloc (.cells #[.int .i64 8, .int .i64 0, .int .i64 0, .int .i64 0, .int .i64 0, .int .i64 0, .int .i64 0, .int .i64 0, .slice none 0 0] 24)) from
    ⟨(hk2.blk HB2.out (by show ¬ w.heap.size = w.heap.size + 1; omega)).alloc _, Blk.new w2 _ [.int .i64 8, .int .i64 0, .int .i64 0, .int .i64 0, .int .i64 0, .int .i64 0, .int .i64 0, .int .i64 0, .slice none 0 0], SR.below hst ((Below.refl _ _).alloc (Nat.le_refl _) _), (HL1.out.trans (hk2.below (fun i hi => by have : i = w.heap.size + 1 := hi; omega) hlt2)).alloc (by have := hk2.size; omega) _, Nat.le_refl _, by omega, by have := hk2.size; have := HS2.out; omega⟩)
  have hy0 := F0.out.bx.cell (i := 0) rfl
  go_wp2_with fail
  obtain ⟨gx, hgx⟩ : ∃ gx, gx = w2.heap.size := ⟨_, rfl⟩
  rw [← hgx] at F0
  rw [← hgx]
  clear hgx hst hgr hk2 hy0 HB2 HL1 HST HS2
  generalize w2.alloc (.cells #[.int .i64 8, .int .i64 0, .int .i64 0, .int .i64 0, .int .i64 0, .int .i64 0, .int .i64 0, .int .i64 0, .slice none 0 0] 24) = u0 at *
  refine (num_s (w.heap.size + 1) 2 2 [1] [1, 2] ys u0 rfl HB.out rfl F0.out.st).mono ?_
  rintro e v0 ⟨rfl, hst, hgr⟩
  have hF := F0.out.num hst hgr
  have c0 := hF.bx.cell (i := 0) rfl
  have cj := hF.bx.cell (i := 1) rfl
  have fj := hF.bx.frozen 1
  have G0 := Lib.hid (show Fp w w.heap.size (w.heap.size + 1) gx (sl [1, 2] ys) [.int .i64 8, .int .i64 (vl [1] 2 ys), .int .i64 0, .int .i64 0, .int .i64 0, .int .i64 0, .int .i64 0, .int .i64 0, .slice none 0 0] (v0.setCell ⟨gx, 1, none⟩ (.int .i64 (vl [1] 2 ys))) from hF.set 1 (.int .i64 (vl [1] 2 ys)))
  have hy0 := G0.out.bx.cell (i := 0) rfl
  clear hst hgr hF F0
  go_wp2_with fail
  obtain ⟨u1, hu⟩ : ∃ u, u = v0.setCell ⟨gx, 1, none⟩ (.int .i64 (vl [1] 2 ys)) := ⟨_, rfl⟩
  rw [← hu] at G0 ⊢
  have F0 := G0
  clear hu c0 cj fj G0 hy0
  refine (num_s (w.heap.size + 1) 1 1 [1, 2] [1, 2, 1] ys u1 rfl HB.out rfl F0.out.st).mono ?_
  rintro e v1 ⟨rfl, hst, hgr⟩
  have hF := F0.out.num hst hgr
  have c0 := hF.bx.cell (i := 0) rfl
  have cj := hF.bx.cell (i := 2) rfl
  have fj := hF.bx.frozen 2
  have G0 := Lib.hid (show Fp w w.heap.size (w.heap.size + 1) gx (sl [1, 2, 1] ys) [.int .i64 8, .int .i64 (vl [1] 2 ys), .int .i64 (vl [1, 2] 1 ys), .int .i64 0, .int .i64 0, .int .i64 0, .int .i64 0, .int .i64 0, .slice none 0 0] (v1.setCell ⟨gx, 2, none⟩ (.int .i64 (vl [1, 2] 1 ys))) from hF.set 2 (.int .i64 (vl [1, 2] 1 ys)))
  have hy0 := G0.out.bx.cell (i := 0) rfl
  clear hst hgr hF F0
  go_wp2_with fail
  obtain ⟨u2, hu⟩ : ∃ u, u = v1.setCell ⟨gx, 2, none⟩ (.int .i64 (vl [1, 2] 1 ys)) := ⟨_, rfl⟩
  rw [← hu] at G0 ⊢
  have F0 := G0
  clear hu c0 cj fj G0 hy0
  refine (num_s (w.heap.size + 1) 2 2 [1, 2, 1] [1, 2, 1, 2] ys u2 rfl HB.out rfl F0.out.st).mono ?_
  rintro e v2 ⟨rfl, hst, hgr⟩
  have hF := F0.out.num hst hgr
  have c0 := hF.bx.cell (i := 0) rfl
  have cj := hF.bx.cell (i := 4) rfl
  have fj := hF.bx.frozen 4
  have G0 := Lib.hid (show Fp w w.heap.size (w.heap.size + 1) gx (sl [1, 2, 1, 2] ys) [.int .i64 8, .int .i64 (vl [1] 2 ys), .int .i64 (vl [1, 2] 1 ys), .int .i64 0, .int .i64 (vl [1, 2, 1] 2 ys), .int .i64 0, .int .i64 0, .int .i64 0, .slice none 0 0] (v2.setCell ⟨gx, 4, none⟩ (.int .i64 (vl [1, 2, 1] 2 ys))) from hF.set 4 (.int .i64 (vl [1, 2, 1] 2 ys)))
  have hy0 := G0.out.bx.cell (i := 0) rfl
  clear hst hgr hF F0
  go_wp2_with fail
  obtain ⟨u3, hu⟩ : ∃ u, u = v2.setCell ⟨gx, 4, none⟩ (.int .i64 (vl [1, 2, 1] 2 ys)) := ⟨_, rfl⟩
  rw [← hu] at G0 ⊢
  have F0 := G0
  clear hu c0 cj fj G0 hy0
  refine (num_s (w.heap.size + 1) 2 2 [1, 2, 1, 2] [1, 2, 1, 2, 2] ys u3 rfl HB.out rfl F0.out.st).mono ?_
  rintro e v3 ⟨rfl, hst, hgr⟩
  have hF := F0.out.num hst hgr
  have c0 := hF.bx.cell (i := 0) rfl
  have cj := hF.bx.cell (i := 7) rfl
  have fj := hF.bx.frozen 7
  have G0 := Lib.hid (show Fp w w.heap.size (w.heap.size + 1) gx (sl [1, 2, 1, 2, 2] ys) [.int .i64 8, .int .i64 (vl [1] 2 ys), .int .i64 (vl [1, 2] 1 ys), .int .i64 0, .int .i64 (vl [1, 2, 1] 2 ys), .int .i64 0, .int .i64 0, .int .i64 (vl [1, 2, 1, 2] 2 ys), .slice none 0 0] (v3.setCell ⟨gx, 7, none⟩ (.int .i64 (vl [1, 2, 1, 2] 2 ys))) from hF.set 7 (.int .i64 (vl [1, 2, 1, 2] 2 ys)))
  have hy0 := G0.out.bx.cell (i := 0) rfl
  clear hst hgr hF F0
  go_wp2_with fail
  obtain ⟨u4, hu⟩ : ∃ u, u = v3.setCell ⟨gx, 7, none⟩ (.int .i64 (vl [1, 2, 1, 2] 2 ys)) := ⟨_, rfl⟩
  rw [← hu] at G0 ⊢
  have F0 := G0
  clear hu c0 cj fj G0 hy0
  have hF := F0
  obtain ⟨E, hE⟩ : ∃ E, E = en [1, 2, 1, 2, 2] ys := ⟨_, rfl⟩
  have HE := Lib.hid hE
  clear hE
  refine (rend_any _ _ _ _ hF.out.st).mono ?_
  rintro e w8 ⟨rfl, n8, rfl⟩
  rw [show endN (sl [1, 2, 1, 2, 2] ys).1 (sl [1, 2, 1, 2, 2] ys).2 = E from HE.out.symm]
  have F8 := Lib.hid (hF.out.drewN n8)
  obtain ⟨u8, hu8⟩ : ∃ u8, u8 = u4.drewN n8 := ⟨_, rfl⟩
  rw [← hu8] at F8 ⊢
  clear hu8 hF F0
  by_cases hE0 : E = 0
  · have hP : parse ys = (msg 8 ys, 0) := by rw [parse_of HK.out (by omega) (by rfl : hl 8 = List.sum [1, 2, 1, 2, 2]), if_pos (by rw [← HE.out]; exact hE0)]
    have hlen := en_len (ks := [1, 2, 1, 2, 2]) (ys := ys) (by rw [← HE.out]; exact hE0)
    have hEb : (E != 0) = false := by simp [hE0]
    subst hE0
    go_wp2_with (first
      | (refine wpList_load_blk rfl 24 _ rfl gx rfl F8.out.bx Try.underlying24 rfl size_pdu ?_)
      | (refine wpList_store_blk rfl 24 (.tmp 2) (.tmp 89) rfl w.heap.size rfl (Pu.cells ⟨8, (vl [1] 2 ys), (vl [1, 2] 1 ys), 0, (vl [1, 2, 1] 2 ys), 0, 0, (vl [1, 2, 1, 2] 2 ys), none, 0, 0, []⟩) rfl F8.out.b2 rfl size_pdu (one_p ⟨8, (vl [1] 2 ys), (vl [1, 2] 1 ys), 0, (vl [1, 2, 1] 2 ys), 0, 0, (vl [1, 2, 1, 2] 2 ys), none, 0, 0, []⟩) ?_; intro w9 hB9 ho9))
    have e0 := hB9.out.cell (i := 0) rfl
    have e1 := hB9.out.cell (i := 1) rfl
    have e2 := hB9.out.cell (i := 2) rfl
    have e3 := hB9.out.cell (i := 3) rfl
    have e4 := hB9.out.cell (i := 4) rfl
    have e5 := hB9.out.cell (i := 5) rfl
    have e6 := hB9.out.cell (i := 6) rfl
    have e7 := hB9.out.cell (i := 7) rfl
    have e8 := hB9.out.cell (i := 8) rfl
    refine bodyPost_ret (v := .tuple #[Pu.val ⟨8, (vl [1] 2 ys), (vl [1, 2] 1 ys), 0, (vl [1, 2, 1] 2 ys), 0, 0, (vl [1, 2, 1, 2] 2 ys), none, 0, 0, []⟩, .int .i64 0]) (by simp [results, Try.results25, go_sem, e0, e1, e2, e3, e4, e5, e6, e7, e8]) rfl ?_
    have kp9 : Keep (fun i => i = w.heap.size) u8 w9 := Keep.only ho9.out rfl
    refine ⟨⟨8, (vl [1] 2 ys), (vl [1, 2] 1 ys), 0, (vl [1, 2, 1] 2 ys), 0, 0, (vl [1, 2, 1, 2] 2 ys), none, 0, 0, []⟩, by rw [hP], ?_, ⟨Rd.nil _, by intro c hc; cases hc⟩, ho9.out.below F8.out.bel (Nat.le_refl _) F8.out.bel.size⟩
    rw [hP]
    simp only [List.sum_cons, List.sum_nil] at hlen
    show (⟨8, (vl [1] 2 ys), (vl [1, 2] 1 ys), 0, (vl [1, 2, 1] 2 ys), 0, 0, (vl [1, 2, 1, 2] 2 ys), []⟩ : Pd) = _
    rw [vl_ok (ks := [1]) (k := 2) (ys := ys) (by simp only [List.sum_cons, List.sum_nil]; omega), vl_ok (ks := [1, 2]) (k := 1) (ys := ys) (by simp only [List.sum_cons, List.sum_nil]; omega), vl_ok (ks := [1, 2, 1]) (k := 2) (ys := ys) (by simp only [List.sum_cons, List.sum_nil]; omega), vl_ok (ks := [1, 2, 1, 2]) (k := 2) (ys := ys) (by simp only [List.sum_cons, List.sum_nil]; omega)]
    rfl
  · have hP : parse ys = (Pd.none, E) := by rw [parse_of HK.out (by omega) (by rfl : hl 8 = List.sum [1, 2, 1, 2, 2]), if_neg (by rw [← HE.out]; exact hE0), ← HE.out]
    have hEb : (E != 0) = true := by simpa using hE0
    go_wp2_with fail
    refine (rend_any _ _ _ _ F8.out.st).mono ?_
    rintro e w9 ⟨rfl, n9, rfl⟩
    rw [show endN (sl [1, 2, 1, 2, 2] ys).1 (sl [1, 2, 1, 2, 2] ys).2 = E from HE.out.symm]
    have F9 := Lib.hid (F8.out.drewN n9)
    obtain ⟨u9, hu9⟩ : ∃ u9, u9 = u8.drewN n9 := ⟨_, rfl⟩
    rw [← hu9] at F9 ⊢
    clear hu9
    go_wp2_with (refine wpList_store_blk rfl 24 (.tmp 2) (.tmp 86) rfl w.heap.size rfl Pu.none.cells rfl F9.out.b2 rfl size_pdu (one_p _) ?_; intro w9 hB9 ho9)
    have e0 := hB9.out.cell (i := 0) rfl
    have e1 := hB9.out.cell (i := 1) rfl
    have e2 := hB9.out.cell (i := 2) rfl
    have e3 := hB9.out.cell (i := 3) rfl
    have e4 := hB9.out.cell (i := 4) rfl
    have e5 := hB9.out.cell (i := 5) rfl
    have e6 := hB9.out.cell (i := 6) rfl
    have e7 := hB9.out.cell (i := 7) rfl
    have e8 := hB9.out.cell (i := 8) rfl
    refine bodyPost_ret (v := .tuple #[Pu.none.val, .int .i64 E]) (by simp [results, Try.results25, go_sem, Pu.none, e0, e1, e2, e3, e4, e5, e6, e7, e8]) rfl ?_
    exact ⟨Pu.none, by rw [hP], by rw [hP]; rfl, none_ok _, ho9.out.below F9.out.bel (Nat.le_refl _) F9.out.bel.size⟩

set_option maxRecDepth 100000 in
set_option maxHeartbeats 1600000 in
theorem parse0 (A : Option Addr) (n c : Nat) (ys : List Nat) (w : World) (hR : Rd w A n c (u8n ys)) (hb : byt ys) (x : Int) (hv : vl [] 1 ys = x) (hx : x < 1 ∨ 8 < x) : Calls Try.prog 25 #[.slice A n c] w (Tells w (parse ys)) := by
  have hP : parse ys = (Pd.none, 2) := by unfold parse; rw [← vl_first, hv, if_pos hx]
  rw [hP]
  have hB2 := Blk.new w 24 Pu.none.cells
  have hbl : Below w.heap.size w (w.alloc (.cells Pu.none.cells.toArray 24)) := (Below.refl _ _).alloc (Nat.le_refl _) _
  have hs1 : (w.alloc (.cells Pu.none.cells.toArray 24)).heap.size = w.heap.size + 1 := by simp
  have hRz := hR.below hbl
  have hRB := Blk.new (w.alloc (.cells Pu.none.cells.toArray 24)) 61 [.slice A n c, .int .i64 0, .int .i64 0]
  have hfar : 0 < n → ∀ g o, A = some ⟨g, o, none⟩ → g < w.heap.size := fun h0 g o hA => by
    obtain ⟨g', o', hA', hlt, _⟩ := hR.2.2.2 h0
    rw [hA] at hA'
    injection hA' with hA'
    injection hA' with h1 _
    omega
  rw [hs1] at hRB
  have hST : SR ((w.alloc (.cells Pu.none.cells.toArray 24)).alloc (.cells [.slice A n c, .int .i64 0, .int .i64 0].toArray 61)) (w.heap.size + 1) (sl [] ys).1 (sl [] ys).2 :=
    ⟨A, n, c, 0, nl ys, hRB, by rw [← nl_u8s]; exact hRz.alloc _, by omega, by simp [sl, rdl], fun h0 g o hA => by have := hfar h0 g o hA; omega⟩
  have hB2' := hB2.alloc (.cells [.slice A n c, .int .i64 0, .int .i64 0].toArray 61)
  have hbl' := hbl.alloc (by rw [hs1]; omega) (.cells [.slice A n c, .int .i64 0, .int .i64 0].toArray 61)
  have hs2 : ((w.alloc (.cells Pu.none.cells.toArray 24)).alloc (.cells [.slice A n c, .int .i64 0, .int .i64 0].toArray 61)).heap.size = w.heap.size + 2 := by simp
  have HB := Lib.hid hb
  clear hB2 hbl hRz hRB hfar hb hR
  obtain ⟨w1, hw1⟩ : ∃ w1, w1 = ((w.alloc (.cells Pu.none.cells.toArray 24)).alloc (.cells [.slice A n c, .int .i64 0, .int .i64 0].toArray 61)) := ⟨_, rfl⟩
  rw [← hw1] at hST hB2' hbl' hs2
  have HW1 := Lib.hid (show ((w.alloc (.cells #[.int .i64 0, .int .i64 0, .int .i64 0, .int .i64 0, .int .i64 0, .int .i64 0, .int .i64 0, .int .i64 0, .slice none 0 0] 24)).alloc (.cells #[.slice A n c, .int .i64 0, .int .i64 0] 61)) = w1 from hw1.symm)
  have HST := Lib.hid hST
  have HB2 := Lib.hid hB2'
  have HL1 := Lib.hid hbl'
  have HS2 := Lib.hid hs2
  clear hw1 hST hB2' hbl' hs1 hs2
  go_enter Try.func25, Try.ntmps25
  go_wp2_with fail
  rw [HW1.out]
  clear HW1
  refine (num_s (w.heap.size + 1) 1 1 [] [1] ys w1 rfl HB.out rfl HST.out).mono ?_
  rintro e w2 ⟨rfl, hst, hgr⟩
  rw [hv]
  have hlt2 := HL1.out.size
  have hk2 : Keep (fun i => i = w.heap.size + 1) w1 w2 := Keep.grown hgr fun i hi => by injection hi with hi; exact hi.symm
  have H2 := Lib.hid ((hk2.blk HB2.out (by show ¬ w.heap.size = w.heap.size + 1; omega)).alloc (.cells #[.int .i64 x, .int .i64 0, .int .i64 0, .int .i64 0, .int .i64 0, .int .i64 0, .int .i64 0, .int .i64 0, .slice none 0 0] 24))
  have HL2 := Lib.hid ((HL1.out.trans (hk2.below (fun i hi => by have : i = w.heap.size + 1 := hi; omega) hlt2)).alloc (by have := hk2.size; omega) (.cells #[.int .i64 x, .int .i64 0, .int .i64 0, .int .i64 0, .int .i64 0, .int .i64 0, .int .i64 0, .int .i64 0, .slice none 0 0] 24))
  clear hst hgr hk2 HB2 HL1 HST HS2
  by_cases h1 : x < 1
  · clear hx
    go_wp2_with (refine wpList_store_blk rfl 24 (.tmp 2) (.tmp 20) rfl w.heap.size rfl Pu.none.cells rfl H2.out rfl size_pdu (one_p _) ?_; intro w9 hB9 ho9)
    have e0 := hB9.out.cell (i := 0) rfl
    have e1 := hB9.out.cell (i := 1) rfl
    have e2 := hB9.out.cell (i := 2) rfl
    have e3 := hB9.out.cell (i := 3) rfl
    have e4 := hB9.out.cell (i := 4) rfl
    have e5 := hB9.out.cell (i := 5) rfl
    have e6 := hB9.out.cell (i := 6) rfl
    have e7 := hB9.out.cell (i := 7) rfl
    have e8 := hB9.out.cell (i := 8) rfl
    refine bodyPost_ret (v := .tuple #[Pu.none.val, .int .i64 2]) (by simp [results, Try.results25, go_sem, Pu.none, e0, e1, e2, e3, e4, e5, e6, e7, e8]) rfl ?_
    exact ⟨Pu.none, rfl, rfl, none_ok _, ho9.out.below HL2.out (Nat.le_refl _) HL2.out.size⟩
  · have h8 : 8 < x := by omega
    clear hx
    go_wp2_with (refine wpList_store_blk rfl 24 (.tmp 2) (.tmp 20) rfl w.heap.size rfl Pu.none.cells rfl H2.out rfl size_pdu (one_p _) ?_; intro w9 hB9 ho9)
    have e0 := hB9.out.cell (i := 0) rfl
    have e1 := hB9.out.cell (i := 1) rfl
    have e2 := hB9.out.cell (i := 2) rfl
    have e3 := hB9.out.cell (i := 3) rfl
    have e4 := hB9.out.cell (i := 4) rfl
    have e5 := hB9.out.cell (i := 5) rfl
    have e6 := hB9.out.cell (i := 6) rfl
    have e7 := hB9.out.cell (i := 7) rfl
    have e8 := hB9.out.cell (i := 8) rfl
    refine bodyPost_ret (v := .tuple #[Pu.none.val, .int .i64 2]) (by simp [results, Try.results25, go_sem, Pu.none, e0, e1, e2, e3, e4, e5, e6, e7, e8]) rfl ?_
    exact ⟨Pu.none, rfl, rfl, none_ok _, ho9.out.below HL2.out (Nat.le_refl _) HL2.out.size⟩

theorem parse_any (A : Option Addr) (n c : Nat) (ys : List Nat) (w : World) (hR : Rd w A n c (u8n ys)) (hb : byt ys) : Calls Try.prog 25 #[.slice A n c] w (Tells w (parse ys)) := by
  by_cases h : 1 ≤ vl [] 1 ys ∧ vl [] 1 ys ≤ 8
  · rcases kinds h with h | h | h | h | h | h | h | h
    · exact parse1 A n c ys w hR hb h
    · exact parse2 A n c ys w hR hb h
    · exact parse3 A n c ys w hR hb h
    · exact parse4 A n c ys w hR hb h
    · exact parse5 A n c ys w hR hb h
    · exact parse6 A n c ys w hR hb h
    · exact parse7 A n c ys w hR hb h
    · exact parse8 A n c ys w hR hb h
  · exact parse0 A n c ys w hR hb _ rfl (by omega)
end Go.Proofs.Ytamilgbjjcdlbaa.PduE
