/- The walk of OpPuts: the bytes of any instructions, and what they tell. No conditions. -/
import Derived.Test.YtklpkafgmggacaaOpsK
import Derived.BigQuiet
import Derived.Deep.RegionHeld3
namespace Go.Proofs.Ytklpkafgmggacaa.OpPutsW
open Go.RowKit Go.Proofs.Ytklpkafgmggacaa.Kit Go.Proofs.Ytklpkafgmggacaa.Byt Go.Proofs.Ytklpkafgmggacaa.Mem Go.Proofs.Ytklpkafgmggacaa.OpsM Go.Proofs.Ytklpkafgmggacaa.OpsA Go.Proofs.Ytklpkafgmggacaa.OpsN Go.Proofs.Ytklpkafgmggacaa.OpsK

theorem bts_lt {o a : Int} (h : ok o a = true) : ∀ b ∈ bts (o, a), b < 256 := by
  obtain ⟨h1, h2, h3, h4, h5⟩ := ok_iff.1 h
  intro b hb
  unfold bts at hb
  split at hb <;> simp at hb <;> omega
theorem bts_le (p : Int × Int) : (bts p).length ≤ 2 := by unfold bts; split <;> simp
theorem flat_len (R : List (Int × Int)) : (R.flatMap bts).length ≤ 2 * R.length := by
  induction R with
  | nil => simp
  | cons p R ih => rw [List.flatMap_cons, List.length_append, List.length_cons]; have := bts_le p; omega
theorem flat_snoc {R : List (Int × Int)} {k : Nat} {p : Int × Int} (h : R[k]? = some p) : (R.take (k + 1)).flatMap bts = (R.take k).flatMap bts ++ bts p := by
  obtain ⟨hk, hp⟩ := List.getElem?_eq_some_iff.1 h
  rw [List.take_succ_eq_append_getElem hk, List.flatMap_append, hp]
  simp
theorem allOk_snoc {R : List (Int × Int)} {k : Nat} {p : Int × Int} (h : R[k]? = some p) (h1 : allOk (R.take k) = true) (h2 : ok p.1 p.2 = true) : allOk (R.take (k + 1)) = true := by
  obtain ⟨hk, hp⟩ := List.getElem?_eq_some_iff.1 h
  rw [List.take_succ_eq_append_getElem hk]
  unfold allOk at *
  rw [List.all_append, h1, hp]
  simp [h2]
theorem allOk_not {R : List (Int × Int)} {k : Nat} {p : Int × Int} (h : R[k]? = some p) (h2 : ok p.1 p.2 = false) : allOk R = false := by
  unfold allOk
  rw [List.all_eq_false]
  exact ⟨p, List.mem_of_getElem? h, by simp [h2]⟩
theorem allOk_mem {R : List (Int × Int)} (h : allOk R = true) : ∀ p ∈ R, ok p.1 p.2 = true := by simpa [allOk] using h

set_option maxRecDepth 100000 in
set_option maxHeartbeats 6400000 in
theorem core (A : Option Addr) (n c : Nat) (R : List (Int × Int)) (w : World) (hr : Prs w A n c R) :
    Calls Try.prog 3 #[.slice A n c] w (Yes w true) := by
  obtain ⟨i0, hi0, hz0, hz1, hz2⟩ := info_parts info_u8
  have hle : n ≤ 9223372036854775807 := hr.le
  have hRn : R.length = n := hr.1
  have HR := Lib.hid (fun w' (hb : Below w.heap.size w w') => hr.below hb)
  have HPT := Lib.hid (fun (h : n ≤ 100) w' (hb : Below w.heap.size w w') => put_any A n c R w' (hr.below hb) h)
  have heq : ∀ o a w', (Op.equalIn 10000 29 (.agg #[.int .i64 o, .int .i64 a]) (.agg #[.int .i64 o, .int .i64 a])).run Try.prog w' = .ok true w' := fun o a w' => by rw [ieq]; simp
  clear hr
  go_enter Try.func3, Try.ntmps3
  go_wp2_with fail
  refine (wakes_any _).mono ?_
  rintro e w1 ⟨rfl, hb1⟩
  have HB1 := Lib.hid hb1
  clear hb1
  by_cases h3 : (100 : Int) < n
  · go_wp2_with fail
    go_ret
    exact ⟨rfl, HB1.out⟩
  · have hn100 : n ≤ 100 := by omega
    have HPT := Lib.hid (HPT.out hn100)
    go_wp2_with fail
    refine (HPT.out _ HB1.out).mono ?_
    rintro e w2 ⟨B, m, d, rfl, hr2, hb2⟩
    have HB2 := Lib.hid (HB1.out.trans (hb2.mono HB1.out.size))
    obtain ⟨en, hen⟩ : ∃ en : Int, en = if allOk R then 0 else 19 := ⟨_, rfl⟩
    rw [← hen]
    have HNO := Lib.hid (show ∀ (k : Nat) (p : Int × Int), R[k]? = some p → ok p.1 p.2 = false → en = 19 ∧ m = 0 from fun k p hk hp => by
      have h := allOk_not hk hp
      rw [h] at hen hr2
      exact ⟨hen, by have := Rd.nats hr2; simpa using this.symm⟩)
    have HYES := Lib.hid (show allOk R = true → en = 0 ∧ Rd w2 B m d (u8n (R.flatMap bts)) from fun h => by
      rw [h] at hen hr2
      exact ⟨hen, by simpa using hr2⟩)
    clear hen hr2 hb2 HB1 HPT
    go_wp2_with fail
    go_loopw [5, 23] (fun s i wr => ∃ (k : Nat) (W : Option Addr) (nw cw : Nat), k ≤ n ∧ i = .int .i64 k ∧ s = .slice W nw cw ∧ nw ≤ 2 * k ∧ Hid (wr.ownsRow w2.heap.size 5 1 (.slice W nw cw) nw (u8n ((R.take k).flatMap bts))) ∧ Hid (allOk (R.take k) = true) ∧ Hid (Below w2.heap.size w2 wr)) (fun _ i _ => n - (intOf i).toNat)
    case atStart => exact ⟨0, none, 0, 0, Nat.zero_le _, rfl, rfl, Nat.le_refl _, Lib.hid ⟨rfl, .inl ⟨rfl, rfl⟩⟩, Lib.hid (by simp [allOk]), Lib.hid (Below.refl _ _)⟩
    case round =>
      obtain ⟨k, W, nw, cw, hk, rfl, rfl, hnw, HO, HK, HV⟩ := hrel
      by_cases hlt : k < n
      · obtain ⟨o, a, bR, oR, hRk, ho, ha, rfl, c0, c1⟩ := (HR.out wr (HB2.out.trans (HV.out.mono HB2.out.size))).at_ hlt
        have HRI := Lib.hid (fun w' => right_any o a w' ho ha)
        have HRR := Lib.hid (fun w' => rright_any o a w')
        have HBY := Lib.hid (fun h w' => rbytes_any o a h w')
        have HSN := Lib.hid (show (R.take (k + 1)).flatMap bts = (R.take k).flatMap bts ++ bts (o, a) from flat_snoc hRk)
        have HKN := Lib.hid (fun h => allOk_snoc hRk HK.out h)
        have HNK := Lib.hid (fun h => HNO.out k _ hRk h)
        have hbl := bts_le (o, a)
        dsimp only at HKN HNK
        obtain ⟨x, hx⟩ : ∃ x, x = ok o a := ⟨_, rfl⟩
        rw [← hx] at HRI HRR HBY HKN HNK
        clear hx ho ha hRk HK
        go_upto_region 10 with (fail)
        clear c0 c1
        obtain ⟨wa, hwa⟩ : ∃ wa, wa = wr.alloc (.cells #[.int .i64 o, .int .i64 a] 29) := ⟨_, rfl⟩
        obtain ⟨g, hg⟩ : ∃ g, g = wr.heap.size := ⟨_, rfl⟩
        have HX : Hid (Blk wa g 29 [.int .i64 o, .int .i64 a]) := Lib.hid (by rw [hwa, hg]; exact Blk.new wr _ _)
        have HVa : Hid (Below w2.heap.size w2 wa) := Lib.hid (by rw [hwa]; exact HV.out.alloc HV.out.size _)
        have HOa : Hid (wa.ownsRow w2.heap.size 5 1 (.slice W nw cw) nw (u8n ((R.take k).flatMap bts))) := Lib.hid (by rw [hwa]; exact own_below HO.out ((Below.refl _ _).alloc (Nat.le_refl _) _))
        rw [← hwa, ← hg]
        clear hwa hg HV HO
        go_cut [31] (fun s wx => s = .bool false ∧ Hid (Below wa.heap.size wa wx))
        case first =>
          have HBd := Lib.hid ((Below.refl wa.heap.size wa).drew)
          have k0 := HX.out.cell (i := 0) rfl
          have k1 := HX.out.cell (i := 1) rfl
          go_region_held3 (fun w' => w'.cell? ⟨g, 0, none⟩ = some (.int .i64 o) ∧ w'.cell? ⟨g, 1, none⟩ = some (.int .i64 a))
            (first | go_keep | exact HC1.out | exact HC2.out)
            (first
             | (go_at_call 8; first
                 | (have hq := HE1; clear hq; refine (HRI.out _).mono ?_; rintro e xs2 ⟨rfl, hbe⟩; have HE2 := Lib.hid (HE1.out.trans (hbe.mono HE1.out.size)); have HC2 := Lib.hid (And.intro ((HX.out.below HE2.out).cell (i := 0) rfl) ((HX.out.below HE2.out).cell (i := 1) rfl)); clear hbe)
                 | (refine (HRI.out _).mono ?_; rintro e xs1 ⟨rfl, hbe⟩; have HE1 := Lib.hid (HBd.out.trans (hbe.mono HBd.out.size)); have HC1 := Lib.hid (And.intro ((HX.out.below HE1.out).cell (i := 0) rfl) ((HX.out.below HE1.out).cell (i := 1) rfl)); clear hbe))
             | (go_at_call 9; first
                 | (have hq := HE1; clear hq; refine (HRR.out _).mono ?_; rintro e ys2 ⟨rfl, hbe⟩; have HE2 := Lib.hid (HE1.out.trans (hbe.mono HE1.out.size)); have HC2 := Lib.hid (And.intro ((HX.out.below HE2.out).cell (i := 0) rfl) ((HX.out.below HE2.out).cell (i := 1) rfl)); clear hbe)
                 | (refine (HRR.out _).mono ?_; rintro e ys1 ⟨rfl, hbe⟩; have HE1 := Lib.hid (HBd.out.trans (hbe.mono HBd.out.size)); have HC1 := Lib.hid (And.intro ((HX.out.below HE1.out).cell (i := 0) rfl) ((HX.out.below HE1.out).cell (i := 1) rfl)); clear hbe)))
          all_goals
            go_wp2_with fail
            go_meet
            exact ⟨by simp, HE2⟩
        case rest =>
        obtain ⟨rfl, HC⟩ := hcut
        have HXc := Lib.hid (HX.out.below HC.out)
        have HVc := Lib.hid (HVa.out.trans (HC.out.mono HVa.out.size))
        have HOc := Lib.hid (own_below HOa.out HC.out)
        clear HX HVa HOa HC HRI
        have k0 := HXc.out.cell (i := 0) rfl
        have k1 := HXc.out.cell (i := 1) rfl
        go_wp2_with fail
        refine (HRR.out _).mono ?_
        rintro e wd ⟨rfl, hbd⟩
        have HXd := Lib.hid (HXc.out.below hbd)
        have HVd := Lib.hid (HVc.out.trans (hbd.mono HVc.out.size))
        have HOd := Lib.hid (own_below HOc.out hbd)
        clear k0 k1 hbd HXc HVc HOc HRR
        cases x with
        | false =>
          obtain ⟨rfl, rfl⟩ := HNK.out rfl
          go_wp2_with fail
          go_ret
          exact ⟨rfl, HB2.out.trans (HVd.out.mono HB2.out.size)⟩
        | true =>
          have k0 := HXd.out.cell (i := 0) rfl
          have k1 := HXd.out.cell (i := 1) rfl
          have HBZ := Lib.hid (HBY.out rfl)
          go_wp2_with fail
          refine (HBZ.out _).mono ?_
          rintro e we ⟨Be, me, de, rfl, hre, hbe⟩
          have hme := Rd.nats hre
          have HRe := Lib.hid hre
          have HVe := Lib.hid (HVd.out.trans (hbe.mono HVd.out.size))
          have HOe := Lib.hid (own_below HOd.out hbe)
          clear hre hbe k0 k1
          go_wp2_with (at_builtin; refine wpList_add _ rfl (.tmp 42) (.tmp 44) _ rfl w2.heap.size 5 i0 _ 1 Try.underlying24 hi0 hz0 hz1 hz2 rfl _ nw _ rfl HOe.out Be me de (u8n (bts (o, a))) rfl HRe.out (u8n_one _) (by omega) (by omega) HVe.out.size ?_; intro A5 n5 c5 w5 hn5 hown5 hg5 hat5; have hb5 := below_add HVe.out HOe.out (Nat.le_refl _) hg5; clear hat5 hg5)
          go_roundw
          case rel => exact ⟨k + 1, A5, n5, c5, by omega, by go_num, rfl, by have := hn5.out; omega, Lib.hid (by rw [HSN.out, ← u8n_app]; exact hown5), Lib.hid (HKN.out trivial), Lib.hid hb5⟩
          case measure => simp [intOf]; omega
      · obtain rfl : k = n := by omega
        have hall : allOk R = true := by have := HK.out; rwa [List.take_of_length_le (by omega)] at this
        obtain ⟨rfl, hb⟩ := HYES.out hall
        have HO2 : Hid (Rd wr W nw cw (u8n (R.flatMap bts))) := Lib.hid (by have := HO.out; rw [List.take_of_length_le (by omega)] at this; exact Rd.own this)
        have HBb := Lib.hid (hb.below HV.out)
        have hfl := flat_len R
        have hm := Rd.nats hb
        have HAL := Lib.hid (all_any B m d (R.flatMap bts) wr HBb.out (fun b hb => by
          obtain ⟨p, hp, hbp⟩ := List.mem_flatMap.1 hb
          exact bts_lt (allOk_mem hall p hp) b hbp) (by omega))
        rw [tell_puts R (allOk_mem hall)] at HAL
        have HVw := Lib.hid (HB2.out.trans (HV.out.mono HB2.out.size))
        clear hall hb HO HK HNO HYES
        go_wp2_with fail
        refine HAL.out.mono ?_
        rintro e w6 ⟨X, nx, dx, rfl, hx6, hb6⟩
        have HV6 := Lib.hid (HVw.out.trans (hb6.mono HVw.out.size))
        have HX6 := Lib.hid (show Prs w6 X nx dx R from hx6)
        have hnx : nx = k := by have := hx6.1; simp at this; omega
        subst hnx
        have HSM := Lib.hid (samen_any B W m nw d cw (R.flatMap bts) (R.flatMap bts) true (by simp) w6 (HBb.out.below hb6) (HO2.out.below hb6))
        rw [if_pos (show (some R).isSome = true from rfl)]
        clear hx6 hb6 HAL HVw HBb HO2 HV
        go_wp2_with fail
        refine HSM.out.mono ?_
        rintro e w7 ⟨rfl, hb7⟩
        have HV7 := Lib.hid (HV6.out.trans (hb7.mono HV6.out.size))
        have HX7 := Lib.hid (HX6.out.below hb7)
        clear hb7 HV6 HX6 HSM
        go_wp2_with fail
        go_loopw [73] (fun i wr => ∃ j : Nat, j ≤ nx ∧ i = .int .i64 j ∧ Hid (Below w7.heap.size w7 wr)) (fun i _ => nx - (intOf i).toNat)
        case atStart => exact ⟨0, Nat.zero_le _, rfl, Lib.hid (Below.refl _ _)⟩
        case round =>
          obtain ⟨j, hj, rfl, HJ⟩ := hrel
          by_cases hjn : j < nx
          · obtain ⟨o, a, bR, oR, hRk, ho, ha, rfl, c0, c1⟩ := (HR.out wr (HV7.out.trans (HJ.out.mono HV7.out.size))).at_ hjn
            obtain ⟨o', a', bX, oX, hXk, _, _, rfl, d0, d1⟩ := (HX7.out.below HJ.out).at_ hjn
            rw [hRk] at hXk
            simp only [Option.some.injEq, Prod.mk.injEq] at hXk
            obtain ⟨rfl, rfl⟩ := hXk
            clear hRk ho ha
            go_upto_region 22 with (fail)
            go_quiet (fail)
            go_wp2_with fail
            go_roundw
            case rel => exact ⟨j + 1, by omega, by go_num, Lib.hid (below_drewN HJ.out _)⟩
            case measure => simp [intOf]; omega
          · go_wp2_with fail
            go_ret
            exact ⟨rfl, HV7.out.trans (HJ.out.mono HV7.out.size)⟩
set_option maxRecDepth 100000 in
/-- A slice of instructions that came in. -/
theorem open_prs {H : Type} {enc : TypeId × Value → H} {w : World} {base : Nat} {v : Value} {d : DataW H} {p : List MemPlace} (h : DataW.Trod enc Try.prog w 0 (fun _ => true) true 22 v d p) (o : Value.okWide Try.prog w .any base 22 v) :
    ∃ A n c R, v = .slice A n c ∧ Prs w A n c R := by
  obtain ⟨A, n, c, rfl⟩ := Go.WideShapes.okWide_slice Try.underlying22 o
  obtain ⟨fuel, hf⟩ := h
  have hC : Try.prog.cellsOf 29 = 2 := by kernel_rfl
  have ci : Try.prog.cellsOf 3 = 1 := by kernel_rfl
  rcases Go.Deep.open_slice Try.underlying22 hf with ⟨hcs, _⟩ | ⟨x, n', c', m, q, D, Pl, hcs, _, hl, hm, hmm, _, hi⟩
  · simp [Value.cells] at hcs
    obtain ⟨rfl, rfl, rfl⟩ := hcs
    exact ⟨none, 0, 0, [], rfl, Prs.nil w⟩
  · simp [Value.cells] at hcs
    obtain ⟨rfl, rfl, rfl⟩ := hcs
    have each : ∀ i, i < n → ∃ r : Int × Int, (n64 r.1 ∧ n64 r.2) ∧ w.cell? (x.add (i * 2)) = some (.int .i64 r.1) ∧ w.cell? (x.add (i * 2 + 1)) = some (.int .i64 r.2) := by
      intro i hin
      obtain ⟨cs', hc, ht⟩ := hi i (by rw [hmm]; simp; omega)
      rw [hC] at hc
      obtain ⟨ys, n', _, _, _, hyl, hfl⟩ := DataW.trod_struct Try.underlying29 ht
      obtain ⟨_, hlen, hat⟩ := World.cells?_some hc
      match cs', hlen with
      | [c0, c1], _ =>
        match ys, hyl with
        | [y0, y1], _ =>
          have e0 : DataW.trod enc Try.prog w 0 (fun _ => true) true n' 3 (([c0, c1].drop 0).take (Try.prog.cellsOf 3)) = some y0 := hfl 0 _ rfl
          have e1 : DataW.trod enc Try.prog w 0 (fun _ => true) true n' 3 (([c0, c1].drop 1).take (Try.prog.cellsOf 3)) = some y1 := hfl 1 _ rfl
          rw [ci] at e0 e1
          obtain ⟨v0, q0, _, w0⟩ := DataW.trod_int (x := y0) Try.underlying3 e0
          obtain ⟨v1, q1, _, w1⟩ := DataW.trod_int (x := y1) Try.underlying3 e1
          obtain rfl : c0 = _ := by simpa using q0
          obtain rfl : c1 = _ := by simpa using q1
          have a0 := hat 0 (by omega)
          have a1 := hat 1 (by omega)
          rw [Go.Deep.add_add] at a0 a1
          exact ⟨(v0, v1), ⟨bounds_i64 w0, bounds_i64 w1⟩, a0, a1⟩
    obtain ⟨f, hf2⟩ := Go.Deep.choose_lt each
    refine ⟨some x, n, c, (List.range n).map f, rfl, by simp, hl, by unfold maxLen at hm; omega, ?_, fun hp => ?_⟩
    · intro r hr
      simp only [List.mem_map, List.mem_range] at hr
      obtain ⟨i, hi', rfl⟩ := hr
      exact (hf2 i hi').1
    · obtain ⟨b, off, spot⟩ := x
      have hc0 := (hf2 0 hp).2.1
      have hspot : spot = none := by simpa [Addr.add] using World.cell?_spot hc0
      subst hspot
      refine ⟨b, off, rfl, ?_, fun k r hr => ?_⟩
      · have := block_lt_of_cell hc0
        simpa [Addr.add] using this
      · have hk : k < n := by
          have := (List.getElem?_eq_some_iff.1 hr).1
          simpa using this
        simp only [List.getElem?_map, List.getElem?_range hk, Option.map_some, Option.some.injEq] at hr
        subst hr
        have := (hf2 k hk).2
        rw [Addr.add_lit, Addr.add_lit] at this
        rw [Nat.add_assoc]
        exact this
theorem hole {H : Type} (enc : TypeId × Value → H) (base : Nat) (v0 : Value) (d0 : DataW H) (p0 : List MemPlace) (w : World) (w0 : DataW.Trod enc Try.prog w 0 (fun _ => true) true 22 v0 d0 p0) (o0 : Value.okWide Try.prog w .any base 22 v0) :
    Calls Try.prog 3 #[v0] w fun e w' => e = .returned (.bool true) ∧ Below w.heap.size w w' := by
  obtain ⟨A, n, c, R, rfl, hr⟩ := open_prs w0 o0
  exact core A n c R w hr
end Go.Proofs.Ytklpkafgmggacaa.OpPutsW
