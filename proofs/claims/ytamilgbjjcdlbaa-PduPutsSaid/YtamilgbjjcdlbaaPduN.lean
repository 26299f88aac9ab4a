/- Messages by the code: what bytes tell, whether a kind asks, whether two are alike. Conditions: numbers of 64 bits; what lies lies as the facts say; at most a million bytes. -/
import Derived.Test.YtamilgbjjcdlbaaPduK
import Derived.Test.YtamilgbjjcdlbaaPduB
import Derived.Test.YtamilgbjjcdlbaaPduS
import Derived.Test.YtamilgbjjcdlbaaBeq
import Derived.Test.YtamilgbjjcdlbaaTabRE
import Derived.BigQuiet
namespace Go.Proofs.Ytamilgbjjcdlbaa.PduN
open Go.RowKit Go.Proofs.Ytamilgbjjcdlbaa.Kit Go.Proofs.Ytamilgbjjcdlbaa.Byt Go.Proofs.Ytamilgbjjcdlbaa.Mem Go.Proofs.Ytamilgbjjcdlbaa.RecM Go.Proofs.Ytamilgbjjcdlbaa.TabR Go.Proofs.Ytamilgbjjcdlbaa.PduM Go.Proofs.Ytamilgbjjcdlbaa.PduA Go.Proofs.Ytamilgbjjcdlbaa.PduE Go.Proofs.Ytamilgbjjcdlbaa.PduG Go.Proofs.Ytamilgbjjcdlbaa.PduH Go.Proofs.Ytamilgbjjcdlbaa.PduJ Go.Proofs.Ytamilgbjjcdlbaa.PduK

def Puts (w : World) (xs : List Nat) (e : Ending) (w' : World) : Prop := PduI.Puts w xs e w'
theorem right_any (i : Pu) (w : World) (ho : i.ok w) (_hn : i.bd) (b : Bool) (hb : b = true ↔ i.pd.right) : Calls Try.prog 13 #[i.val] w (Yes w b) := PduH.right_any i w ho b hb
theorem put_yes (i : Pu) (w : World) (ho : i.ok w) (_hn : i.bd) (hr : i.pd.right) : Calls Try.prog 10 #[i.val] w (Puts w (tail i.pd.head)) := PduI.put_yes i w ho hr
theorem put_no (i : Pu) (w : World) (ho : i.ok w) (_hn : i.bd) (hr : ¬ i.pd.right) : Calls Try.prog 10 #[i.val] w fun e w' => e = .returned (.tuple #[.slice none 0 0, .int .i64 3]) ∧ Below w.heap.size w w' := PduI.put_no i w ho hr

/-- The result's box, and the reader. -/
structure Gp (w : World) (rb : Nat) (s : List Int × Int) (wr : World) : Prop where
  b2 : Blk wr w.heap.size 24 Pu.none.cells
  st : St wr rb s.1 s.2
  bel : Below w.heap.size w wr
  lt : w.heap.size < rb
section
variable {w wr w' : World} {rb : Nat} {s s' : List Int × Int}
theorem Gp.step (h : Gp w rb s wr) (hb : Below wr.heap.size wr w') : Gp w rb s w' := ⟨h.b2.below hb, St.below h.st hb, h.bel.trans (hb.mono h.bel.size), h.lt⟩
theorem Gp.read (h : Gp w rb s wr) (k : Keep (fun i => i = rb) wr w') (hst : St w' rb s'.1 s'.2) : Gp w rb s' w' := by
  have hlt := h.lt
  exact ⟨k.blk h.b2 (by show ¬ w.heap.size = rb; omega), hst, h.bel.trans (k.below (fun i hi => by have : i = rb := hi; omega) h.bel.size), hlt⟩
end

set_option maxRecDepth 100000 in
set_option maxHeartbeats 3200000 in
theorem get_any (A : Option Addr) (n c : Nat) (ys : List Nat) (w : World) (hR : Rd w A n c (u8n ys)) (hb : byt ys) (hl : n ≤ 1000000) : Calls Try.prog 14 #[.slice A n c] w (Tells w (getP ys)) := by
  have hn : ys.length = n := Rd.nats hR
  have hle := hR.le
  have hcap := hR.cap
  have hB2 := Blk.new w 24 Pu.none.cells
  have hbl : Below w.heap.size w (w.alloc (.cells Pu.none.cells.toArray 24)) := (Below.refl _ _).alloc (Nat.le_refl _) _
  have HR1 := Lib.hid (hR.below hbl)
  have HB2 := Lib.hid hB2
  have HL1 := Lib.hid hbl
  have HB := Lib.hid hb
  clear hB2 hbl hR hb
  obtain ⟨w1, hw1⟩ : ∃ w1, w1 = w.alloc (.cells Pu.none.cells.toArray 24) := ⟨_, rfl⟩
  rw [← hw1] at HR1 HB2 HL1
  have hw1' : w.alloc (.cells #[.int .i64 0, .int .i64 0, .int .i64 0, .int .i64 0, .int .i64 0, .int .i64 0, .int .i64 0, .int .i64 0, .slice none 0 0] 24) = w1 := hw1.symm
  clear hw1
  by_cases h5 : n < 5
  · have hP : getP ys = (Pd.none, 1) := by unfold getP; rw [if_pos (by omega)]
    rw [hP]
    go_enter Try.func14, Try.ntmps14
    go_wp2_with (refine wpList_store_blk rfl 24 (.tmp 2) (.tmp 15) rfl w.heap.size rfl Pu.none.cells rfl HB2.out rfl size_pdu (one_p _) ?_; intro w9 hB9 ho9)
    have e0 := hB9.out.cell (i := 0) rfl
    have e1 := hB9.out.cell (i := 1) rfl
    have e2 := hB9.out.cell (i := 2) rfl
    have e3 := hB9.out.cell (i := 3) rfl
    have e4 := hB9.out.cell (i := 4) rfl
    have e5 := hB9.out.cell (i := 5) rfl
    have e6 := hB9.out.cell (i := 6) rfl
    have e7 := hB9.out.cell (i := 7) rfl
    have e8 := hB9.out.cell (i := 8) rfl
    refine bodyPost_ret (v := .tuple #[Pu.none.val, .int .i64 1]) (by simp [results, Try.results14, go_sem, Pu.none, e0, e1, e2, e3, e4, e5, e6, e7, e8]) rfl ?_
    exact ⟨Pu.none, rfl, rfl, none_ok _, ho9.out.below HL1.out (Nat.le_refl _) HL1.out.size⟩
  · have hw4 : IntKind.i64.wrap ((n : Int) - 4) = (n : Int) - 4 := by rw [IntKind.wrap_i64]; omega
    obtain ⟨q, hq⟩ : ∃ q : Nat, (q : Int) = (n : Int) - 4 := ⟨n - 4, by omega⟩
    have hq' : (n : Int) - 4 = (q : Int) := hq.symm
    have hqn : q + 4 = n := by omega
    have HT1 := Lib.hid (show Rd w1 A q c (u8n (ys.take q)) from by have := HR1.out.take (k := q) (by omega); simpa [u8n, List.map_take] using this)
    obtain ⟨b, o, rfl, _, _⟩ := HR1.out.2.2.2 (by omega)
    have HS1 := Lib.hid (show Rd w1 (some ⟨b, o + q, none⟩) (n - q) (c - q) (u8n (ys.drop q)) from by have := TabR.Rd.drop HR1.out (k := q) (by omega); simpa [u8n, List.map_drop] using this)
    have HP := Lib.hid (show getP ys = if decide (ys.drop q = s4 (ys.take q)) = true then parse (ys.take q) else (Pd.none, 10) from by
      have e : (tail (ys.take q) = ys) ↔ ys.drop q = s4 (ys.take q) := by
        unfold tail
        constructor
        · intro h
          refine (List.append_cancel_left (show List.take q ys ++ _ = List.take q ys ++ _ from ?_))
          rw [List.take_append_drop]
          exact h.symm
        · intro h
          rw [← h, List.take_append_drop]
      unfold getP
      rw [if_neg (by omega), show ys.length - 4 = q by omega]
      by_cases h : ys.drop q = s4 (ys.take q)
      · rw [if_neg (fun hne => hne (e.2 h)), if_pos (by simpa using h)]
      · rw [if_pos (fun h1 => h (e.1 h1)), if_neg (by simpa using h)])
    obtain ⟨dd, hdd⟩ : ∃ dd, dd = decide (ys.drop q = s4 (ys.take q)) := ⟨_, rfl⟩
    rw [← hdd] at HP
    have HDD := Lib.hid hdd
    have k1 : (q : Int) ≤ (c : Int) := by omega
    have k2 : q ≤ c := by omega
    have k3 : (q : Int) ≤ (n : Int) := by omega
    have k4 : q ≤ n := by omega
    clear hdd hq
    go_enter Try.func14, Try.ntmps14
    go_wp2_with fail
    go_quiet (fail)
    go_wp2_with fail
    clear hw1' hw4 hq'
    obtain ⟨w2, hw2⟩ : ∃ w2, w2 = w1.drewN nq := ⟨_, rfl⟩
    have HT2 := Lib.hid (HT1.out.drewN nq)
    have HS2 := Lib.hid (HS1.out.drewN nq)
    have HB22 := Lib.hid (show Blk (w1.drewN nq) w.heap.size 24 Pu.none.cells from HB2.out)
    have HL2 := Lib.hid (below_drewN HL1.out nq)
    rw [← hw2] at HT2 HS2 HB22 HL2 ⊢
    clear hw2 HT1 HS1 HB2 HL1 HR1
    refine (sumOf_any _ _ _ (ys.take q) w2 HT2.out (byt_take HB.out q)).mono ?_
    rintro e w3 ⟨B3, m3, d3, rfl, ho3, hb3⟩
    have HU3 := Lib.hid (Rd.own ho3)
    have HS3 := Lib.hid (HS2.out.below hb3)
    have HT3 := Lib.hid (HT2.out.below hb3)
    have HB3 := Lib.hid (HB22.out.below hb3)
    have HL3 := Lib.hid (HL2.out.trans (hb3.mono HL2.out.size))
    clear ho3 hb3 HT2 HS2 HB22 HL2
    go_wp2_with fail
    refine (Beq.equal_any _ _ _ _ _ _ (ys.drop q) (s4 (ys.take q)) w3 HS3.out HU3.out (byt_drop HB.out q) (pbn_lt _ _)).mono ?_
    rintro e w4 ⟨rfl, rfl⟩
    rw [← HDD.out]
    clear HS3 HU3 HDD
    cases dd
    · have hP : getP ys = (Pd.none, 10) := by rw [HP.out, if_neg (by simp)]
      have HPX := Lib.hid hP
      clear hP
      go_wp2_with (refine wpList_store_blk rfl 24 (.tmp 2) (.tmp 31) rfl w.heap.size rfl Pu.none.cells rfl HB3.out rfl size_pdu (one_p _) ?_; intro w9 hB9 ho9)
      have e0 := hB9.out.cell (i := 0) rfl
      have e1 := hB9.out.cell (i := 1) rfl
      have e2 := hB9.out.cell (i := 2) rfl
      have e3 := hB9.out.cell (i := 3) rfl
      have e4 := hB9.out.cell (i := 4) rfl
      have e5 := hB9.out.cell (i := 5) rfl
      have e6 := hB9.out.cell (i := 6) rfl
      have e7 := hB9.out.cell (i := 7) rfl
      have e8 := hB9.out.cell (i := 8) rfl
      refine bodyPost_ret (v := .tuple #[Pu.none.val, .int .i64 10]) (by simp [results, Try.results14, go_sem, Pu.none, e0, e1, e2, e3, e4, e5, e6, e7, e8]) rfl ?_
      exact ⟨Pu.none, by rw [HPX.out], by rw [HPX.out]; rfl, none_ok _, ho9.out.below HL3.out (Nat.le_refl _) HL3.out.size⟩
    · have hP : getP ys = parse (ys.take q) := by rw [HP.out, if_pos rfl]
      have HPP := Lib.hid hP
      have HBZ := Lib.hid (byt_take HB.out q)
      have hzl : (ys.take q).length = q := by rw [List.length_take]; omega
      clear hP HP HB hn
      obtain ⟨zs, hzs⟩ : ∃ zs, zs = ys.take q := ⟨_, rfl⟩
      rw [← hzs] at HPP HT3 HBZ
      clear hzs hzl
      go_wp2_with fail
      refine (TabR.read_any _ _ _ (nl zs) w3 (by rw [← nl_u8s]; exact HT3.out) (by omega)).mono ?_
      rintro e w4 ⟨rb, rfl, hrb, hst, hb4⟩
      have hlt3 := HB3.out.lt
      have G4 := Lib.hid (show Gp w rb (nl zs, 0) w4 from ⟨HB3.out.below hb4, hst, HL3.out.trans (hb4.mono HL3.out.size), by omega⟩)
      clear hrb hst hb4 HB3 HL3 HT3 hlt3
      go_wp2_with fail
      refine (num_any rb 1 (nl zs) 0 w4 G4.out.st (nl_255 HBZ.out)).mono ?_
      rintro e w5 ⟨rfl, hst, hgr⟩
      have G5 := Lib.hid (show Gp w rb (sl [1] zs) w5 from G4.out.read (Keep.grown hgr fun i hi => by injection hi with hi; exact hi.symm) hst)
      have HKV := Lib.hid (vl_first zs)
      clear hst hgr G4
      obtain ⟨k, hk⟩ : ∃ k, k = vl [] 1 zs := ⟨_, rfl⟩
      rw [show (rdN (NumA.wd 1) (nl zs) 0).1 = k from hk.symm]
      rw [← hk] at HKV
      clear hk
      by_cases h18 : 1 ≤ k ∧ k ≤ 8
      · have HS := Lib.hid (fun w' => shape_yes k h18 w')
        have HPR := Lib.hid (read_parse h18 HKV.out.symm)
        have HW := Lib.hid (fun j h => ws_at k (j := j) h)
        have HQ := Lib.hid (fun j h => kk_le k (j := j) h)
        have HWL := Lib.hid (ws_len k)
        have HW1 := Lib.hid (one_ws k)
        have HRA := Lib.hid (fun w' (h : St w' rb (sl [1] zs).1 (sl [1] zs).2) => PduJ.read_any rb k (ws k) (kk k) (sl [1] zs) w' h (sl_bytes HBZ.out [1]) HWL.out HW.out HQ.out (by rw [kk_7]; split <;> omega))
        have HEK := Lib.hid (show enk k zs = endN (dat (kk k) (sl [1] zs)).2.1 (dat (kk k) (sl [1] zs)).2.2 from rfl)
        have HTL := Lib.hid (show tel k zs = ⟨k, val (kk k) (sl [1] zs) 0, val (kk k) (sl [1] zs) 1, val (kk k) (sl [1] zs) 5, val (kk k) (sl [1] zs) 2, val (kk k) (sl [1] zs) 4, val (kk k) (sl [1] zs) 6, val (kk k) (sl [1] zs) 3, (dat (kk k) (sl [1] zs)).1.map Int.toNat⟩ from rfl)
        obtain ⟨W, hW⟩ : ∃ W, W = ws k := ⟨_, rfl⟩
        have HSW := Lib.hid (show ∀ w', Calls Try.prog 21 #[.int .i64 k] w' fun e w'' => e = .returned (.tuple #[.agg W.toArray, .bool true]) ∧ Below w'.heap.size w' w'' from by rw [hW]; exact HS.out)
        rw [← hW] at HWL HW1 HRA
        clear hW HS HW HQ h18
        go_wp2_with fail
        refine (HSW.out _).mono ?_
        rintro e w6 ⟨rfl, hb6⟩
        have G6 := Lib.hid (G5.out.step hb6)
        clear hb6 G5 HSW
        go_wp2_with (first
          | (refine wpList_store_blk rfl 42 (.tmp 8) (.tmp 39) rfl w6.heap.size rfl W rfl (Blk.new w6 42 [.int .i64 0, .int .i64 0, .int .i64 0, .int .i64 0, .int .i64 0, .int .i64 0, .int .i64 0, .int .i64 0]) (by rw [HWL.out]; rfl) (by rw [HWL.out]; exact size8) HW1.out ?_; intro w7 hB7 ho7; have G7 := Lib.hid (G6.out.step (show Below w6.heap.size w6 w7 from ho7.out.below ((Below.refl _ _).alloc (Nat.le_refl _) _) (Nat.le_refl _) (by simp))); clear ho7 G6)
          | (refine wpList_load_blk rfl 42 _ rfl w6.heap.size rfl hB7.out Try.underlying42 rfl (by rw [HWL.out]; exact size8) ?_))
        refine (HRA.out _ G7.out.st).mono ?_
        rintro e w8 ⟨i, rfl, hpd, hok, hst, hk8⟩
        have G8 := Lib.hid (G7.out.read hk8 hst)
        have HOK := Lib.hid hok
        have HPD := Lib.hid (show i.pd = tel k zs from by rw [HTL.out]; exact hpd)
        clear hpd hok hst hk8 hB7 G7 HRA HTL
        have G9 := Lib.hid (G8.out.step ((Below.refl _ _).alloc (Nat.le_refl _) (.cells i.cells.toArray 24)))
        have HI9 := Lib.hid (Blk.new w8 24 i.cells)
        have HOK9 := Lib.hid (HOK.out.alloc (.cells i.cells.toArray 24))
        obtain ⟨w9, hw9⟩ : ∃ w9, w9 = w8.alloc (.cells i.cells.toArray 24) := ⟨_, rfl⟩
        rw [← hw9] at G9 HI9 HOK9
        have hw9' : w8.alloc (.cells #[.int .i64 i.k, .int .i64 i.s, .int .i64 i.p, .int .i64 i.n, .int .i64 i.z, .int .i64 i.y, .int .i64 i.c, .int .i64 i.h, .slice i.A i.m i.d] 24) = w9 := hw9.symm
        clear hw9 G8 HOK
        go_wp2_with fail
        clear hw9'
        refine (end_any _ _ _ _ G9.out.st).mono ?_
        rintro e w10 ⟨rfl, rfl⟩
        rw [← HEK.out]
        obtain ⟨E, hE⟩ : ∃ E, E = enk k zs := ⟨_, rfl⟩
        rw [← hE] at HPR ⊢
        clear hE HEK
        by_cases hE0 : E = 0
        · have HPX := Lib.hid (show getP ys = (tel k zs, 0) from by rw [HPP.out, HPR.out, if_pos hE0])
          subst hE0
          go_wp2_with (first
            | (refine wpList_load_blk rfl 24 _ rfl w8.heap.size rfl HI9.out Try.underlying24 rfl size_pdu ?_)
            | (refine wpList_store_blk rfl 24 (.tmp 2) (.tmp 54) rfl w.heap.size rfl i.cells rfl G9.out.b2 rfl size_pdu (one_p _) ?_; intro w9' hB9 ho9))
          have e0 := hB9.out.cell (i := 0) rfl
          have e1 := hB9.out.cell (i := 1) rfl
          have e2 := hB9.out.cell (i := 2) rfl
          have e3 := hB9.out.cell (i := 3) rfl
          have e4 := hB9.out.cell (i := 4) rfl
          have e5 := hB9.out.cell (i := 5) rfl
          have e6 := hB9.out.cell (i := 6) rfl
          have e7 := hB9.out.cell (i := 7) rfl
          have e8 := hB9.out.cell (i := 8) rfl
          have kp9 : Keep (fun i => i = w.heap.size) w9 w9' := Keep.only ho9.out rfl
          refine bodyPost_ret (v := .tuple #[i.val, .int .i64 0]) (by simp [results, Try.results14, go_sem, e0, e1, e2, e3, e4, e5, e6, e7, e8]) rfl ?_
          exact ⟨i, by rw [HPX.out], by rw [HPX.out]; exact HPD.out, ⟨rd_other HOK9.out.data G9.out.b2 (no_u8 _) kp9, HOK9.out.byt⟩, ho9.out.below G9.out.bel (Nat.le_refl _) G9.out.bel.size⟩
        · have HPX := Lib.hid (show getP ys = (Pd.none, E) from by rw [HPP.out, HPR.out, if_neg hE0])
          have hEb : (E != 0) = true := by simpa using hE0
          go_wp2_with (refine wpList_store_blk rfl 24 (.tmp 2) (.tmp 52) rfl w.heap.size rfl Pu.none.cells rfl G9.out.b2 rfl size_pdu (one_p _) ?_; intro w9' hB9 ho9)
          have e0 := hB9.out.cell (i := 0) rfl
          have e1 := hB9.out.cell (i := 1) rfl
          have e2 := hB9.out.cell (i := 2) rfl
          have e3 := hB9.out.cell (i := 3) rfl
          have e4 := hB9.out.cell (i := 4) rfl
          have e5 := hB9.out.cell (i := 5) rfl
          have e6 := hB9.out.cell (i := 6) rfl
          have e7 := hB9.out.cell (i := 7) rfl
          have e8 := hB9.out.cell (i := 8) rfl
          refine bodyPost_ret (v := .tuple #[Pu.none.val, .int .i64 E]) (by simp [results, Try.results14, go_sem, Pu.none, e0, e1, e2, e3, e4, e5, e6, e7, e8]) rfl ?_
          exact ⟨Pu.none, by rw [HPX.out], by rw [HPX.out]; rfl, none_ok _, ho9.out.below G9.out.bel (Nat.le_refl _) G9.out.bel.size⟩
      · have HPX := Lib.hid (show getP ys = (Pd.none, 2) from by rw [HPP.out]; unfold parse; rw [← HKV.out, if_pos (by omega)])
        have HS := Lib.hid (fun w' => shape_no k (by omega) w')
        clear h18
        go_wp2_with fail
        refine (HS.out _).mono ?_
        rintro e w6 ⟨rfl, hb6⟩
        rw [zz8]
        have G6 := Lib.hid (G5.out.step (hb6.trans ((Below.refl w6.heap.size w6).alloc (Nat.le_refl _) (.cells #[.int .i64 0, .int .i64 0, .int .i64 0, .int .i64 0, .int .i64 0, .int .i64 0, .int .i64 0, .int .i64 0] 42) |>.mono hb6.size)))
        clear hb6 G5 HS
        go_wp2_with (refine wpList_store_blk rfl 24 (.tmp 2) (.tmp 43) rfl w.heap.size rfl Pu.none.cells rfl G6.out.b2 rfl size_pdu (one_p _) ?_; intro w9' hB9 ho9)
        have e0 := hB9.out.cell (i := 0) rfl
        have e1 := hB9.out.cell (i := 1) rfl
        have e2 := hB9.out.cell (i := 2) rfl
        have e3 := hB9.out.cell (i := 3) rfl
        have e4 := hB9.out.cell (i := 4) rfl
        have e5 := hB9.out.cell (i := 5) rfl
        have e6 := hB9.out.cell (i := 6) rfl
        have e7 := hB9.out.cell (i := 7) rfl
        have e8 := hB9.out.cell (i := 8) rfl
        refine bodyPost_ret (v := .tuple #[Pu.none.val, .int .i64 2]) (by simp [results, Try.results14, go_sem, Pu.none, e0, e1, e2, e3, e4, e5, e6, e7, e8]) rfl ?_
        exact ⟨Pu.none, by rw [HPX.out], by rw [HPX.out]; rfl, none_ok _, ho9.out.below G6.out.bel (Nat.le_refl _) G6.out.bel.size⟩

set_option maxRecDepth 100000 in
set_option maxHeartbeats 800000 in
theorem asks_any (i : Pu) (w : World) (_ho : i.ok w) (_hn : i.bd) (b : Bool) (hb : b = true ↔ 1 ≤ i.k ∧ i.k ≤ 5) : Calls Try.prog 11 #[i.val] w (Yes w b) := by
  have HX := Lib.hid (Bx.new w i.cells)
  have HB := Lib.hid hb
  clear hb _ho _hn
  obtain ⟨k, s, p, n, z, y, c, h, A, m, d, xs⟩ := i
  dsimp only at HB
  show Calls _ _ #[.agg #[.int .i64 k, .int .i64 s, .int .i64 p, .int .i64 n, .int .i64 z, .int .i64 y, .int .i64 c, .int .i64 h, .slice A m d]] w _
  by_cases h1 : 1 ≤ k
  · by_cases h5 : k ≤ 5
    · have hbt := Lib.hid (HB.out.2 ⟨h1, h5⟩)
      go_enter Try.func11, Try.ntmps11
      go_wp2
      go_ret
      exact ⟨by rw [hbt.out]; rfl, HX.out.bel⟩
    · have hbf := Lib.hid (show b = false from by rw [Bool.eq_false_iff]; exact fun hb => h5 (HB.out.1 hb).2)
      go_enter Try.func11, Try.ntmps11
      go_wp2
      go_ret
      exact ⟨by rw [hbf.out]; rfl, HX.out.bel⟩
  · have hbf := Lib.hid (show b = false from by rw [Bool.eq_false_iff]; exact fun hb => h1 (HB.out.1 hb).1)
    go_enter Try.func11, Try.ntmps11
    go_wp2
    go_ret
    exact ⟨by rw [hbf.out]; rfl, HX.out.bel⟩
theorem same_any (i j : Pu) (w : World) (hi : i.ok w) (hj : j.ok w) (_ni : i.bd) (_nj : j.bd) (b : Bool) (hb : b = true ↔ PduB.like i j) : Calls Try.prog 19 #[i.val, j.val] w (Yes w b) := PduS.same_any i j w hi hj b hb
end Go.Proofs.Ytamilgbjjcdlbaa.PduN
