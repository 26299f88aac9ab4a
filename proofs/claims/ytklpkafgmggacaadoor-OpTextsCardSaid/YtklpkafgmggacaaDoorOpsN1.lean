/- The code's Put. Condition: the instructions lie as the fact says. -/
import Derived.Test.YtklpkafgmggacaaDoorOpsN0
namespace Go.Proofs.YtklpkafgmggacaaDoor.OpsN
open Go.RowKit Go.Proofs.YtklpkafgmggacaaDoor.Kit Go.Proofs.YtklpkafgmggacaaDoor.Byt Go.Proofs.YtklpkafgmggacaaDoor.Mem Go.Proofs.YtklpkafgmggacaaDoor.OpsM Go.Proofs.YtklpkafgmggacaaDoor.OpsA

theorem flat_snoc {R : List (Int × Int)} {k : Nat} {p : Int × Int} (h : R[k]? = some p) : (R.take (k + 1)).flatMap bts = (R.take k).flatMap bts ++ bts p := by
  obtain ⟨hk, hp⟩ := List.getElem?_eq_some_iff.1 h
  rw [List.take_succ_eq_append_getElem hk, List.flatMap_append, hp]
  simp
theorem allOk_snoc {R : List (Int × Int)} {k : Nat} {p : Int × Int} (h : R[k]? = some p) (h1 : allOk (R.take k) = true) (h2 : ok p.1 p.2 = true) : allOk (R.take (k + 1)) = true := by
  obtain ⟨hk, hp⟩ := List.getElem?_eq_some_iff.1 h
  rw [List.take_succ_eq_append_getElem hk]
  unfold allOk at *
  rw [List.all_append, h1, hp]
  simp [h2]
theorem allOk_not {R : List (Int × Int)} {k : Nat} {p : Int × Int} (h : R[k]? = some p) (h2 : ok p.1 p.2 = false) : allOk R = false := by
  unfold allOk
  rw [List.all_eq_false]
  exact ⟨p, List.mem_of_getElem? h, by simp [h2]⟩
theorem blk_add {w w' : World} {row : Option Nat} {g : Nat} {T : TypeId} {C : List Value} (h : Blk w g T C) (hg : w.grownBy w' row) (hr : some g ≠ row) : Blk w' g T C := (hg.block g h.lt hr).trans h
theorem u8n_cat (a b : List Nat) : u8n (a ++ b) = u8n a ++ u8n b := by simp [u8n]
set_option maxRecDepth 100000 in
set_option maxHeartbeats 6400000 in
theorem put_any (A : Option Addr) (n c : Nat) (R : List (Int × Int)) (w : World) (hr : Prs w A n c R) (hn : n ≤ 100) : Calls Tryd.prog 10 #[.slice A n c] w (Puts w R) := by
  obtain ⟨i0, hi0, hz0, hz1, hz2⟩ := info_parts info_u8
  have hRn : R.length = n := hr.1
  have HR := Lib.hid (fun w' (hb : Below w.heap.size w w') => hr.below hb)
  clear hr
  go_enter Tryd.func10, Tryd.ntmps10
  go_wp2_with fail
  go_loopw [4, 9] (fun s i wr => ∃ (k : Nat) (W : Option Addr) (nw cw : Nat), k ≤ n ∧ i = .int .i64 k ∧ s = .slice W nw cw ∧ nw ≤ 2 * k ∧ Hid (wr.ownsRow w.heap.size 5 1 (.slice W nw cw) nw (u8n ((R.take k).flatMap bts))) ∧ Hid (allOk (R.take k) = true) ∧ Hid (Below w.heap.size w wr)) (fun _ i _ => n - (intOf i).toNat)
  case atStart => exact ⟨0, none, 0, 0, Nat.zero_le _, rfl, rfl, Nat.le_refl _, Lib.hid ⟨rfl, .inl ⟨rfl, rfl⟩⟩, Lib.hid (by simp [allOk]), Lib.hid (Below.refl _ _)⟩
  case round =>
    obtain ⟨k, W, nw, cw, hk, rfl, rfl, hnw, HO, HK, HV⟩ := hrel
    by_cases hlt : k < n
    · obtain ⟨o, a, bR, oR, hRk, ho, ha, rfl, c0, c1⟩ := (HR.out wr HV.out).at_ hlt
      obtain ⟨x, hx⟩ : ∃ x, x = ok o a := ⟨_, rfl⟩
      have HRI := Lib.hid (fun w' => hx ▸ right_any o a w' ho ha)
      obtain ⟨wa, hwa⟩ : ∃ wa, wa = wr.alloc (.cells #[.int .i64 o, .int .i64 a] 23) := ⟨_, rfl⟩
      have HX : Hid (Blk wa wr.heap.size 23 [.int .i64 o, .int .i64 a]) := Lib.hid (by rw [hwa]; exact Blk.new wr _ _)
      have HVa : Hid (Below w.heap.size w wa) := Lib.hid (by rw [hwa]; exact HV.out.alloc HV.out.size _)
      have HOa : Hid (wa.ownsRow w.heap.size 5 1 (.slice W nw cw) nw (u8n ((R.take k).flatMap bts))) := Lib.hid (by rw [hwa]; exact own_below HO.out ((Below.refl _ _).alloc (Nat.le_refl _) _))
      have k0 := HX.out.cell (i := 0) rfl
      have k1 := HX.out.cell (i := 1) rfl
      cases x with
      | false =>
        have hall := allOk_not hRk hx.symm
        have HF := Lib.hid hall
        clear hx hRk HK ho ha HX HOa HO hall
        go_upto_region 5 with (fail)
        rw [← hwa]
        clear hwa c0 c1 HR
        go_wp2_with (go_at_call 12; refine (HRI.out _).mono ?_; rintro e wb ⟨rfl, hbb⟩; have HVb := Lib.hid (HVa.out.trans (hbb.mono HVa.out.size)); clear hbb)
        go_ret2
        refine ⟨none, 0, 0, by rw [HF.out]; rfl, ?_, HVb.out⟩
        rw [HF.out]
        exact Rd.nil wb

      | true =>
        have HKN := Lib.hid (allOk_snoc hRk HK.out hx.symm)
        have HSN := Lib.hid (show (R.take (k + 1)).flatMap bts = (R.take k).flatMap bts ++ bts (o, a) from flat_snoc hRk)
        obtain ⟨q1, q2, q3, q4, _⟩ := ok_iff.1 hx.symm
        have wo : IntKind.u8.wrap o = o := by rw [IntKind.wrap_u8]; omega
        have wa' : IntKind.u8.wrap a = a := by rw [IntKind.wrap_u8]; omega
        obtain ⟨y, hy⟩ : ∃ y, y = hasA o := ⟨_, rfl⟩
        have HTK := Lib.hid (fun w' => hy ▸ takes_any o w')
        have HB1 := Lib.hid (show u8n (bts (o, a)) = if y = true then [.int .u8 o, .int .u8 a] else [.int .u8 o] from by
          rw [hy]
          unfold bts
          cases hasA o
          · show [Value.int .u8 ((o.toNat : Nat) : Int)] = [Value.int .u8 o]
            rw [Int.toNat_of_nonneg q1]
          · show [Value.int .u8 ((o.toNat : Nat) : Int), Value.int .u8 ((a.toNat : Nat) : Int)] = [Value.int .u8 o, Value.int .u8 a]
            rw [Int.toNat_of_nonneg q1, Int.toNat_of_nonneg q3])
        have HX' := HX
        have HOa' := HOa
        have HO' := HO
        clear hx hy hRk HK ho ha HO q1 q2 q3 q4
        go_upto_region 5 with (fail)
        rw [← hwa]
        clear hwa c0 c1 HR
        have hnl := HO'.out.lt
        have HNE : Hid (∀ k, (Value.slice W nw cw).ownBlock = some k → k < wr.heap.size) := Lib.hid fun k hk => (hnl k hk).2
        clear hnl HO'
        cases y with
        | false =>
          go_wp2_with (first
            | (go_at_call 12; refine (HRI.out _).mono ?_; rintro e wb ⟨rfl, hbb⟩; have HVb := Lib.hid (HVa.out.trans (hbb.mono HVa.out.size)); have HXb := Lib.hid (HX'.out.below hbb); have m0 := HXb.out.cell (i := 0) rfl; have m1 := HXb.out.cell (i := 1) rfl; have HOb := Lib.hid (own_below HOa'.out hbb); clear hbb k0 k1)
            | (at_builtin; refine wpList_add _ rfl (.tmp 16) (.tmp 20) _ rfl w.heap.size 5 i0 _ 1 Tryd.underlying35 hi0 hz0 hz1 hz2 rfl _ nw _ rfl (own_below HOb.out ((Below.refl _ _).alloc (Nat.le_refl _) _)) (some ⟨wb.heap.size, 0, none⟩) 1 1 [.int .u8 o] rfl (Rd.own (own_one wb w.heap.size o HVb.out.size)) (by simp [Value.oneCell']) (by omega) (by omega) (by have := HVb.out.size; simp; omega) ?_; intro A5 n5 c5 w5 hn5 hown5 hg5 hat5; have HX5 := Lib.hid (blk_add (HXb.out.alloc (.cells #[.int .u8 o] 5)) hg5 (fun e => by have := HNE.out _ e.symm; omega)); have HV5 := Lib.hid (below_add (HVb.out.alloc HVb.out.size (.cells #[.int .u8 o] 5)) (own_below HOb.out ((Below.refl _ _).alloc (Nat.le_refl _) _)) (Nat.le_refl _) hg5); have HO5 := Lib.hid hown5; have l0 := HX5.out.cell (i := 0) rfl; have l1 := HX5.out.cell (i := 1) rfl; clear hat5 hg5 hown5 m0 m1)
            | (go_at_call 13; refine (HTK.out _).mono ?_; rintro e wc ⟨rfl, rfl⟩))
          go_roundw
          case rel => exact ⟨k + 1, A5, n5, c5, by omega, by go_num, rfl, by have := hn5.out; omega, Lib.hid (by rw [HSN.out, u8n_cat, HB1.out]; exact HO5.out), Lib.hid HKN.out, Lib.hid HV5.out⟩
          case measure => simp [intOf]; omega
        | true =>
          go_wp2_with (first
            | (go_at_call 12; refine (HRI.out _).mono ?_; rintro e wb ⟨rfl, hbb⟩; have HVb := Lib.hid (HVa.out.trans (hbb.mono HVa.out.size)); have HXb := Lib.hid (HX'.out.below hbb); have m0 := HXb.out.cell (i := 0) rfl; have m1 := HXb.out.cell (i := 1) rfl; have HOb := Lib.hid (own_below HOa'.out hbb); clear hbb k0 k1)
            | (at_builtin; refine wpList_add _ rfl (.tmp 16) (.tmp 20) _ rfl w.heap.size 5 i0 _ 1 Tryd.underlying35 hi0 hz0 hz1 hz2 rfl _ nw _ rfl (own_below HOb.out ((Below.refl _ _).alloc (Nat.le_refl _) _)) (some ⟨wb.heap.size, 0, none⟩) 1 1 [.int .u8 o] rfl (Rd.own (own_one wb w.heap.size o HVb.out.size)) (by simp [Value.oneCell']) (by omega) (by omega) (by have := HVb.out.size; simp; omega) ?_; intro A5 n5 c5 w5 hn5 hown5 hg5 hat5; have HX5 := Lib.hid (blk_add (HXb.out.alloc (.cells #[.int .u8 o] 5)) hg5 (fun e => by have := HNE.out _ e.symm; omega)); have HV5 := Lib.hid (below_add (HVb.out.alloc HVb.out.size (.cells #[.int .u8 o] 5)) (own_below HOb.out ((Below.refl _ _).alloc (Nat.le_refl _) _)) (Nat.le_refl _) hg5); have HO5 := Lib.hid hown5; have l0 := HX5.out.cell (i := 0) rfl; have l1 := HX5.out.cell (i := 1) rfl; clear hat5 hg5 hown5 m0 m1)
            | (go_at_call 13; refine (HTK.out _).mono ?_; rintro e wc ⟨rfl, rfl⟩)
            | (at_builtin; refine wpList_add _ rfl (.tmp 25) (.tmp 29) _ rfl w.heap.size 5 i0 _ 1 Tryd.underlying35 hi0 hz0 hz1 hz2 rfl _ n5 _ rfl (own_below HO5.out ((Below.refl _ _).alloc (Nat.le_refl _) _)) (some ⟨w5.heap.size, 0, none⟩) 1 1 [.int .u8 a] rfl (Rd.own (own_one w5 w.heap.size a HV5.out.size)) (by simp [Value.oneCell']) (by have := hn5.out; omega) (by have := hn5.out; omega) (by have := HV5.out.size; simp; omega) ?_; intro A6 n6 c6 w6 hn6 hown6 hg6 hat6; have HV6 := Lib.hid (below_add (HV5.out.alloc HV5.out.size (.cells #[.int .u8 a] 5)) (own_below HO5.out ((Below.refl _ _).alloc (Nat.le_refl _) _)) (Nat.le_refl _) hg6); have HO6 := Lib.hid hown6; clear hat6 hg6 hown6 l0 l1))
          go_roundw
          case rel => exact ⟨k + 1, A6, n6, c6, by omega, by go_num, rfl, by have := hn5.out; have := hn6.out; omega, Lib.hid (by rw [HSN.out, u8n_cat, HB1.out, if_pos trivial, show [Value.int .u8 o, Value.int .u8 a] = [Value.int .u8 o] ++ [Value.int .u8 a] from rfl, ← List.append_assoc]; exact HO6.out), Lib.hid HKN.out, Lib.hid HV6.out⟩
          case measure => simp [intOf]; omega
    · obtain rfl : k = n := by omega
      have hall : allOk R = true := by have := HK.out; rwa [List.take_of_length_le (by omega)] at this
      have HA := Lib.hid hall
      have HO2 : Hid (Rd wr W nw cw (u8n (R.flatMap bts))) := Lib.hid (by have := HO.out; rw [List.take_of_length_le (by omega)] at this; exact Rd.own this)
      clear hall HO HK
      go_wp2_with fail
      go_ret2
      exact ⟨W, nw, cw, by rw [HA.out]; rfl, by rw [HA.out]; exact HO2.out, HV.out⟩
end Go.Proofs.YtklpkafgmggacaaDoor.OpsN
