/- What the reference gets of bytes, and when a message is right, by the reference. Conditions: what lies lies as the facts say; at most a million bytes. -/
import Derived.Test.YtamilgbjjcdlbaaPduB
import Derived.Test.YtamilgbjjcdlbaaPduD
import Derived.Test.YtamilgbjjcdlbaaPduE
namespace Go.Proofs.Ytamilgbjjcdlbaa.PduF
open Go.RowKit Go.Proofs.Ytamilgbjjcdlbaa.Kit Go.Proofs.Ytamilgbjjcdlbaa.Byt Go.Proofs.Ytamilgbjjcdlbaa.Mem Go.Proofs.Ytamilgbjjcdlbaa.RecM Go.Proofs.Ytamilgbjjcdlbaa.PduM Go.Proofs.Ytamilgbjjcdlbaa.PduA Go.Proofs.Ytamilgbjjcdlbaa.PduE

set_option maxRecDepth 100000 in
set_option maxHeartbeats 1600000 in
theorem rget_any (A : Option Addr) (n c : Nat) (ys : List Nat) (w : World) (hR : Rd w A n c (u8n ys)) (hb : byt ys) (hl : n ≤ 1000000) : Calls Try.prog 20 #[.slice A n c] w (Tells w (getP ys)) := by
  have hn : ys.length = n := Rd.nats hR
  have hle := hR.le
  have hcap := hR.cap
  have hB2 := Blk.new w 24 Pu.none.cells
  have hbl : Below w.heap.size w (w.alloc (.cells Pu.none.cells.toArray 24)) := (Below.refl _ _).alloc (Nat.le_refl _) _
  have HR1 := Lib.hid (hR.below hbl)
  have HB2 := Lib.hid hB2
  have HL1 := Lib.hid hbl
  have HB := Lib.hid hb
  clear hB2 hbl hR hb
  obtain ⟨w1, hw1⟩ : ∃ w1, w1 = w.alloc (.cells Pu.none.cells.toArray 24) := ⟨_, rfl⟩
  rw [← hw1] at HR1 HB2 HL1
  have hw1' : w.alloc (.cells #[.int .i64 0, .int .i64 0, .int .i64 0, .int .i64 0, .int .i64 0, .int .i64 0, .int .i64 0, .int .i64 0, .slice none 0 0] 24) = w1 := hw1.symm
  clear hw1
  by_cases h5 : n < 5
  · have hP : getP ys = (Pd.none, 1) := by unfold getP; rw [if_pos (by omega)]
    rw [hP]
    go_enter Try.func20, Try.ntmps20
    go_wp2_with (refine wpList_store_blk rfl 24 (.tmp 2) (.tmp 8) rfl w.heap.size rfl Pu.none.cells rfl HB2.out rfl size_pdu (one_p _) ?_; intro w9 hB9 ho9)
    have e0 := hB9.out.cell (i := 0) rfl
    have e1 := hB9.out.cell (i := 1) rfl
    have e2 := hB9.out.cell (i := 2) rfl
    have e3 := hB9.out.cell (i := 3) rfl
    have e4 := hB9.out.cell (i := 4) rfl
    have e5 := hB9.out.cell (i := 5) rfl
    have e6 := hB9.out.cell (i := 6) rfl
    have e7 := hB9.out.cell (i := 7) rfl
    have e8 := hB9.out.cell (i := 8) rfl
    refine bodyPost_ret (v := .tuple #[Pu.none.val, .int .i64 1]) (by simp [results, Try.results20, go_sem, Pu.none, e0, e1, e2, e3, e4, e5, e6, e7, e8]) rfl ?_
    exact ⟨Pu.none, rfl, rfl, none_ok _, ho9.out.below HL1.out (Nat.le_refl _) HL1.out.size⟩
  · have hw4 : IntKind.i64.wrap ((n : Int) - 4) = (n : Int) - 4 := by rw [IntKind.wrap_i64]; omega
    obtain ⟨q, hq⟩ : ∃ q : Nat, (q : Int) = (n : Int) - 4 := ⟨n - 4, by omega⟩
    have hq' : (n : Int) - 4 = (q : Int) := hq.symm
    have hqn : q + 4 = n := by omega
    have HT1 := Lib.hid (show Rd w1 A q c (u8n (ys.take q)) from by have := HR1.out.take (k := q) (by omega); simpa [u8n, List.map_take] using this)
    obtain ⟨dd, hdd⟩ := bool_of (tail (ys.take q) = ys)
    have HP := Lib.hid (show getP ys = if dd = true then parse (ys.take q) else (Pd.none, 10) from by
      unfold getP
      rw [if_neg (by omega), show ys.length - 4 = q by omega]
      by_cases h : dd = true
      · rw [if_pos h, if_neg (fun hne => hne (hdd.1 h))]
      · rw [if_neg h, if_pos (fun e => h (hdd.2 e))])
    have HDD := Lib.hid hdd
    obtain ⟨b, o, rfl, _, _⟩ := HR1.out.2.2.2 (by omega)
    have k1 : (q : Int) ≤ (c : Int) := by omega
    have k2 : q ≤ c := by omega
    have k3 : (q : Int) ≤ (n : Int) := by omega
    clear hdd hq
    go_enter Try.func20, Try.ntmps20
    go_wp2_with fail
    clear hw1'
    refine (PduD.rtail_any _ _ _ (ys.take q) w1 HT1.out (byt_take HB.out q) (by omega)).mono ?_
    rintro e w2 ⟨B2, m2, d2, rfl, ho2, hb2⟩
    have HS2 := Lib.hid (Rd.own ho2)
    have HR2 := Lib.hid (HR1.out.below hb2)
    have HT2 := Lib.hid (HT1.out.below hb2)
    have HB22 := Lib.hid (HB2.out.below hb2)
    have HL2 := Lib.hid (HL1.out.trans (hb2.mono HL1.out.size))
    clear ho2 hb2 HR1 HT1 HB2 HL1
    go_wp2_with fail
    refine (Same.same_n HS2.out HR2.out).mono ?_
    rintro e w3 ⟨rfl, n3, rfl⟩
    rw [show decide (tail (ys.take q) = ys) = dd from by rw [Bool.eq_iff_iff, decide_eq_true_eq]; exact HDD.out.symm]
    have HT3 := Lib.hid (HT2.out.drewN n3)
    have HB3 := Lib.hid (show Blk (w2.drewN n3) w.heap.size 24 Pu.none.cells from HB22.out)
    have HL3 := Lib.hid (below_drewN HL2.out n3)
    obtain ⟨w3, hw3⟩ : ∃ w3, w3 = w2.drewN n3 := ⟨_, rfl⟩
    rw [← hw3] at HT3 HB3 HL3 ⊢
    clear hw3 HS2 HR2 HT2 HB22 HL2
    cases dd
    · have hP : getP ys = (Pd.none, 10) := by rw [HP.out, if_neg (by simp)]
      go_wp2_with (refine wpList_store_blk rfl 24 (.tmp 2) (.tmp 19) rfl w.heap.size rfl Pu.none.cells rfl HB3.out rfl size_pdu (one_p _) ?_; intro w9 hB9 ho9)
      have e0 := hB9.out.cell (i := 0) rfl
      have e1 := hB9.out.cell (i := 1) rfl
      have e2 := hB9.out.cell (i := 2) rfl
      have e3 := hB9.out.cell (i := 3) rfl
      have e4 := hB9.out.cell (i := 4) rfl
      have e5 := hB9.out.cell (i := 5) rfl
      have e6 := hB9.out.cell (i := 6) rfl
      have e7 := hB9.out.cell (i := 7) rfl
      have e8 := hB9.out.cell (i := 8) rfl
      refine bodyPost_ret (v := .tuple #[Pu.none.val, .int .i64 10]) (by simp [results, Try.results20, go_sem, Pu.none, e0, e1, e2, e3, e4, e5, e6, e7, e8]) rfl ?_
      exact ⟨Pu.none, by rw [hP], by rw [hP]; rfl, none_ok _, ho9.out.below HL3.out (Nat.le_refl _) HL3.out.size⟩
    · have hP : getP ys = parse (ys.take q) := by rw [HP.out, if_pos rfl]
      go_wp2_with fail
      refine (parse_any _ _ _ (ys.take q) w3 HT3.out (byt_take HB.out q)).mono ?_
      rintro e w4 ⟨i, rfl, hpd, hok, hb4⟩
      have HB4 := Lib.hid (HB3.out.below hb4)
      have HL4 := Lib.hid (HL3.out.trans (hb4.mono HL3.out.size))
      have HOK := Lib.hid hok
      have HPD := Lib.hid hpd
      clear hb4 hok hpd HT3 HB3 HL3
      obtain ⟨E, hE⟩ : ∃ E, E = (parse (ys.take q)).2 := ⟨_, rfl⟩
      rw [← hE]
      have HE := Lib.hid hE
      clear hE
      go_wp2_with (refine wpList_store_blk rfl 24 (.tmp 2) (.tmp 24) rfl w.heap.size rfl i.cells rfl HB4.out rfl size_pdu (one_p _) ?_; intro w9 hB9 ho9)
      have e0 := hB9.out.cell (i := 0) rfl
      have e1 := hB9.out.cell (i := 1) rfl
      have e2 := hB9.out.cell (i := 2) rfl
      have e3 := hB9.out.cell (i := 3) rfl
      have e4 := hB9.out.cell (i := 4) rfl
      have e5 := hB9.out.cell (i := 5) rfl
      have e6 := hB9.out.cell (i := 6) rfl
      have e7 := hB9.out.cell (i := 7) rfl
      have e8 := hB9.out.cell (i := 8) rfl
      have kp9 : Keep (fun i => i = w.heap.size) w4 w9 := Keep.only ho9.out rfl
      refine bodyPost_ret (v := .tuple #[i.val, .int .i64 E]) (by simp [results, Try.results20, go_sem, e0, e1, e2, e3, e4, e5, e6, e7, e8]) rfl ?_
      exact ⟨i, by rw [hP, HE.out], by rw [hP]; exact HPD.out, ⟨rd_other HOK.out.data HB4.out (no_u8 _) kp9, HOK.out.byt⟩, ho9.out.below HL4.out (Nat.le_refl _) HL4.out.size⟩

theorem rhead_le (r : Pd) : r.rhead.length ≤ 8 + r.xs.length := by
  unfold Pd.rhead Pd.rbody
  rw [List.length_append]
  by_cases e1 : r.k = 1
  · simp [e1]; omega
  by_cases e2 : r.k = 2
  · simp [e2]; omega
  by_cases e6 : r.k = 6
  · simp [e6]; omega
  by_cases e7 : r.k = 7
  · simp [e7]; omega
  by_cases e8 : r.k = 8
  · simp [e8]
  simp [e1, e2, e6, e7, e8]
  omega
set_option maxRecDepth 100000 in
set_option maxHeartbeats 1600000 in
theorem rright_any (i : Pu) (w : World) (ho : i.ok w) (hn : i.bd) (hm : i.m ≤ 999000) (b : Bool) (hb : b = true ↔ i.pd.right) : Calls Try.prog 12 #[i.val] w (Yes w b) := by
  have HX := Lib.hid (Bx.new w i.cells)
  have HB := Lib.hid hb
  by_cases hk : 1 ≤ i.k ∧ i.k ≤ 8
  · have HH := Lib.hid (fun w' (h : Below w.heap.size w w') => PduD.rhead_any i w' (ho.below h) hn hk (by omega))
    have HO := Lib.hid ho
    have hlen : i.xs.length = i.m := ho.len
    have HRL := Lib.hid (show i.pd.rhead.length ≤ 1000000 from by
      have h1 := rhead_le i.pd
      have h2 : i.pd.xs.length = i.m := hlen
      omega)
    have HRB := Lib.hid (show byt i.pd.rhead from rhead_lt ho.byt)
    have HRI := Lib.hid (rright_iff (r := i.pd) ho.byt)
    have hk1 := hk.1
    have hk2 := hk.2
    clear hb ho hn hk hm hlen
    obtain ⟨H, hH⟩ : ∃ H, H = i.pd.rhead := ⟨_, rfl⟩
    rw [← hH] at HH HRL HRB HRI
    clear hH
    obtain ⟨k, s, p, n, z, y, c, h, A, m, d, xs⟩ := i
    dsimp only at hk1 hk2
    show Calls _ _ #[.agg #[.int .i64 k, .int .i64 s, .int .i64 p, .int .i64 n, .int .i64 z, .int .i64 y, .int .i64 c, .int .i64 h, .slice A m d]] w _
    go_enter Try.func12, Try.ntmps12
    go_wp2_with (refine wpList_load_blk rfl 24 _ rfl w.heap.size rfl HX.out.blk Try.underlying24 rfl size_pdu ?_)
    refine (HH.out _ HX.out.bel).mono ?_
    rintro e w2 ⟨B2, m2, d2, rfl, ho2, hb2⟩
    have HX2 := Lib.hid (HX.out.step hb2)
    have hr2 := Rd.own ho2
    have hm2 : m2 ≤ 1000000 := by have := Rd.nats hr2; have := HRL.out; omega
    have HR2 := Lib.hid hr2
    clear ho2 hb2 hr2 HX
    go_wp2_with fail
    refine (parse_any _ _ _ H w2 HR2.out HRB.out).mono ?_
    rintro e w3 ⟨j, rfl, hpd, hok, hb3⟩
    obtain ⟨k', s', p', n', z', y', c', h', A', m', d', xs'⟩ := j
    have hl3 := HX2.out.step hb3
    have HX3 := Lib.hid (hl3.alloc (.cells #[.int .i64 k', .int .i64 s', .int .i64 p', .int .i64 n', .int .i64 z', .int .i64 y', .int .i64 c', .int .i64 h', .slice A' m' d'] 24))
    have HJ := Lib.hid (hok.alloc (.cells #[.int .i64 k', .int .i64 s', .int .i64 p', .int .i64 n', .int .i64 z', .int .i64 y', .int .i64 c', .int .i64 h', .slice A' m' d'] 24))
    have HJX := Lib.hid (show Blk (w3.alloc (.cells #[.int .i64 k', .int .i64 s', .int .i64 p', .int .i64 n', .int .i64 z', .int .i64 y', .int .i64 c', .int .i64 h', .slice A' m' d'] 24)) w3.heap.size 24 (Pu.cells ⟨k', s', p', n', z', y', c', h', A', m', d', xs'⟩) from Blk.new w3 _ (Pu.cells ⟨k', s', p', n', z', y', c', h', A', m', d', xs'⟩))
    have HPD := Lib.hid hpd
    clear hb3 hok hpd hl3 HX2 HR2
    obtain ⟨E, hE⟩ : ∃ E, E = (parse H).2 := ⟨_, rfl⟩
    rw [← hE]
    have HE := Lib.hid hE
    clear hE
    obtain ⟨bs, hbs⟩ := bool_of (PduB.like ⟨k', s', p', n', z', y', c', h', A', m', d', xs'⟩ ⟨k, s, p, n, z, y, c, h, A, m, d, xs⟩)
    have HBS := Lib.hid hbs
    clear hbs
    by_cases hE0 : E = 0
    · have hbt := Lib.hid (show b = bs from by
        rw [Bool.eq_iff_iff, HB.out, ← HRI.out, HBS.out, PduB.like_pd, HPD.out]
        exact ⟨fun h => h.2, fun h => ⟨by rw [← HE.out]; exact hE0, h⟩⟩)
      subst hE0
      have HSM := Lib.hid (fun w' (h1 : Pu.ok w' ⟨k', s', p', n', z', y', c', h', A', m', d', xs'⟩) (h2 : Pu.ok w' ⟨k, s, p, n, z, y, c, h, A, m, d, xs⟩) => PduB.rsame_any ⟨k', s', p', n', z', y', c', h', A', m', d', xs'⟩ ⟨k, s, p, n, z, y, c, h, A, m, d, xs⟩ w' h1 h2 bs HBS.out)
      obtain ⟨y0, y1, y2, y3, y4, y5, y6, y7, y8⟩ := nine HX3.out.blk
      dsimp only at y0 y1 y2 y3 y4 y5 y6 y7 y8
      go_wp2_with fail
      refine (HSM.out _ HJ.out (HO.out.below HX3.out.bel)).mono ?_
      rintro e w5 ⟨rfl, hb5⟩
      have HX5 := Lib.hid (HX3.out.step hb5)
      clear hb5 HX3 y0 y1 y2 y3 y4 y5 y6 y7 y8
      go_wp2
      go_ret
      exact ⟨by rw [hbt.out]; rfl, HX5.out.bel⟩
    · have hbt := Lib.hid (show b = false from by
        rw [Bool.eq_false_iff, ne_eq, HB.out, ← HRI.out]
        exact fun h => hE0 (by rw [HE.out]; exact h.1))
      have hEb : (E == 0) = false := by simpa using hE0
      go_wp2
      go_ret
      exact ⟨by rw [hbt.out]; rfl, HX3.out.bel⟩
  · have hbf := Lib.hid (show b = false from by rw [Bool.eq_false_iff]; exact fun h => hk (hb.1 h).1)
    clear hb ho hn hm
    obtain ⟨k, s, p, n, z, y, c, h, A, m, d, xs⟩ := i
    have hk : ¬ (1 ≤ k ∧ k ≤ 8) := hk
    show Calls _ _ #[.agg #[.int .i64 k, .int .i64 s, .int .i64 p, .int .i64 n, .int .i64 z, .int .i64 y, .int .i64 c, .int .i64 h, .slice A m d]] w _
    by_cases h1 : k < 1
    · clear hk
      go_enter Try.func12, Try.ntmps12
      go_wp2
      go_ret
      exact ⟨by rw [hbf.out]; rfl, HX.out.bel⟩
    · have h8 : 8 < k := by omega
      clear hk
      go_enter Try.func12, Try.ntmps12
      go_wp2
      go_ret
      exact ⟨by rw [hbf.out]; rfl, HX.out.bel⟩
end Go.Proofs.Ytamilgbjjcdlbaa.PduF
