/- What Get makes of an image's bytes: of all of them, of a beginning, of those of which one is turned. Conditions: the image is right, the bytes lie as the facts say, the rounds' own numbers lie in the variable. -/
import Derived.Test.YtlghojnlnfkdhaaDoorImgG
namespace Go.Proofs.YtlghojnlnfkdhaaDoor.ImgF
open Go.RowKit Go.Proofs.YtlghojnlnfkdhaaDoor.Kit Go.Proofs.YtlghojnlnfkdhaaDoor.Byt Go.Proofs.YtlghojnlnfkdhaaDoor.Mem Go.Proofs.YtlghojnlnfkdhaaDoor.Beq Go.Proofs.YtlghojnlnfkdhaaDoor.ShaM Go.Proofs.YtlghojnlnfkdhaaDoor.ShaE Go.Proofs.YtlghojnlnfkdhaaDoor.ImgA Go.Proofs.YtlghojnlnfkdhaaDoor.ImgB Go.Proofs.YtlghojnlnfkdhaaDoor.ImgS Go.Proofs.YtlghojnlnfkdhaaDoor.ImgP Go.Proofs.YtlghojnlnfkdhaaDoor.ImgR Go.Proofs.YtlghojnlnfkdhaaDoor.ImgG

/-- The fields, behind the mark. -/
theorem fields (i : Im) (hn : i.xs.length = i.n) : nl ((head i).drop 2) = NumB.putb i.p 1 ++ (NumB.putb i.v 2 ++ (NumB.putb i.h 2 ++ (NumB.putb i.m 1 ++ (NumB.putb i.f 1 ++ (NumB.putb i.s 1 ++ (NumB.putb i.r 1 ++ (NumB.putb (((nl i.xs).length : Nat) : Int) 2 ++ nl i.xs))))))) := by
  have h : (head i).drop 2 = pbn i.p 1 ++ (pbn i.v 2 ++ (pbn i.h 2 ++ (pbn i.m 1 ++ (pbn i.f 1 ++ (pbn i.s 1 ++ (pbn i.r 1 ++ (pbn (i.n : Int) 2 ++ i.xs))))))) := by
    simp [head, nums8]
  rw [h]
  simp only [nl_app, pbn_nl]
  rw [nl_len, hn]
theorem two (i : Im) : (head i).take 2 = [76, 73] := by simp [head, nums8]
theorem head_le {i : Im} (hn : i.xs.length = i.n) (hr : right i) : (head i).length ≤ 109 := by
  rw [head_len, hn]
  have := hr.2.2.2.2.2.2.2.2
  omega
theorem get_back (i : Im) (w : World) (hT : Tab w) (hb : by256 i.xs) (hn : i.xs.length = i.n) (hr : right i) (A : Option Addr) (n c : Nat) (hR : Rd w A n c (u8n (closed (head i)))) :
    Calls Tryd.prog 11 #[.slice A n c] w fun e w' => ∃ B d, Gt w (Im.val ⟨i.p, i.v, i.h, i.m, i.f, i.s, i.r, B, i.xs.length, d, i.xs⟩) 0 e w' ∧ Rd w' B i.xs.length d (u8n i.xs) := by
  obtain ⟨h1, h2, h3, h4, h5, h6, h7, h8⟩ := hr
  refine get_ok A n c (head i) w hT hR (head_lt hb) (by rw [head_len]; omega) (by rw [head_len]; omega) (two i) (e1 := 0) (e2 := 0) (e3 := 0) (e4 := 0) (e5 := 0) (e6 := 0) (e7 := 0) (e8 := 0) (cs := nl i.xs) (by rw [fields i hn]; exact TxtR.rdN_p1 h1.1 (by omega) _) (TxtR.rdN_p2 (by omega) h2.2 _) (TxtR.rdN_p2 h3.1 h3.2 _) (TxtR.rdN_p1 (by omega) (by omega) _) (TxtR.rdN_p1 (by omega) (by omega) _) (TxtR.rdN_p1 h6.1 (by omega) _) (TxtR.rdN_p1 h7.1 (by omega) _) (TxtR.rtx_put (by rw [nl_len]; omega)) rfl rfl (fun B d => ?_) (by omega)
  exact ⟨h1, h2, h3, h4, h5, h6, h7, by show 1 ≤ ((i.xs.length : Nat) : Int) ∧ ((i.xs.length : Nat) : Int) ≤ 96; omega⟩
theorem dig0 : (dig []).take 1 = [227] := by decide +kernel
theorem dig1 : (dig [76]).take 1 = [114] := by decide +kernel
theorem ex3 (x : Int × List Int × Int) : ∃ a b c, x = (a, b, c) := ⟨_, _, _, rfl⟩
theorem ex3' (x : List Int × List Int × Int) : ∃ a b c, x = (a, b, c) := ⟨_, _, _, rfl⟩
theorem get_part (i : Im) (w : World) (hT : Tab w) (hb : by256 i.xs) (hn : i.xs.length = i.n) (hr : right i) (k : Nat) (hk : k < (closed (head i)).length) (A : Option Addr) (n c : Nat) (hR : Rd w A n c (u8n ((closed (head i)).take k))) :
    Calls Tryd.prog 11 #[.slice A n c] w fun e w' => ∃ x : Int, (x = 1 ∨ x = 10) ∧ Gt w zeroV x e w' := by
  have hkn : k = n := by have := Rd.nats hR; simp at this; omega
  subst hkn
  have hH := head_le hn hr
  have hC := closed_len (head i)
  by_cases h36 : k < 36
  · exact (get_short A k c w h36).mono fun e w' h => ⟨1, .inl rfl, h⟩
  · have hx : by256 ((closed (head i)).take k) := fun u hu => closed_lt (head_lt hb) u (List.mem_of_mem_take hu)
    by_cases hne : (closed (head i)).take k = closed (((closed (head i)).take k).take (k - 36))
    · have hzs : ((closed (head i)).take k).take (k - 36) = (head i).take (k - 36) := by
        rw [List.take_take, Nat.min_eq_left (by omega)]
        unfold closed
        rw [List.append_assoc, List.take_append_of_le_length (by omega)]
      rw [hzs] at hne
      have hzl : ((head i).take (k - 36)).length = k - 36 := by simp; omega
      have hd2 : ((closed (head i)).take k).take 2 = [76, 73] := by
        rw [List.take_take, Nat.min_eq_left (by omega)]
        unfold closed
        rw [List.append_assoc, List.take_append_of_le_length (by rw [head_len]; omega), two]
      by_cases h2 : 2 ≤ k - 36
      · rw [hne] at hR
        obtain ⟨v1, x1, e1, r1⟩ := ex3 (TabR.rdN 1 (nl (((head i).take (k - 36)).drop 2)) 0)
        obtain ⟨v2, x2, e2, r2⟩ := ex3 (TabR.rdN 2 x1 e1)
        obtain ⟨v3, x3, e3, r3⟩ := ex3 (TabR.rdN 2 x2 e2)
        obtain ⟨v4, x4, e4, r4⟩ := ex3 (TabR.rdN 1 x3 e3)
        obtain ⟨v5, x5, e5, r5⟩ := ex3 (TabR.rdN 1 x4 e4)
        obtain ⟨v6, x6, e6, r6⟩ := ex3 (TabR.rdN 1 x5 e5)
        obtain ⟨v7, x7, e7, r7⟩ := ex3 (TabR.rdN 1 x6 e6)
        obtain ⟨cs, x8, e8, r8⟩ := ex3' (TxtR.rtx x7 e7)
        have hl1 : ∀ x, (NumB.putb x 1).length = 1 := fun x => by rw [NumB.putb_len]; rfl
        have hl2 : ∀ x, (NumB.putb x 2).length = 2 := fun x => by rw [NumB.putb_len]; rfl
        have c0 : TxtR.Cutd (nl (((head i).take (k - 36)).drop 2), 0) (nl ((head i).drop 2)) := by
          refine .inr ⟨rfl, nl ((head i).drop (k - 36)), ?_, ?_⟩
          · intro h
            have := congrArg List.length h
            rw [nl_len] at this
            simp at this
            omega
          · show nl (((head i).take (k - 36)).drop 2) ++ nl ((head i).drop (k - 36)) = _
            rw [← nl_app]
            congr 1
            rw [← List.drop_append_of_le_length (by omega), List.take_append_drop]
        rw [fields i hn] at c0
        have c1 := c0.numb (hl1 _)
        rw [r1] at c1
        have c2 := c1.numb (hl2 _)
        rw [r2] at c2
        have c3 := c2.numb (hl2 _)
        rw [r3] at c3
        have c4 := c3.numb (hl1 _)
        rw [r4] at c4
        have c5 := c4.numb (hl1 _)
        rw [r5] at c5
        have c6 := c5.numb (hl1 _)
        rw [r6] at c6
        have c7 := c6.numb (hl1 _)
        rw [r7] at c7
        have c8 := c7.text (by rw [nl_len]; have := hr.2.2.2.2.2.2.2.2; omega)
        rw [r8] at c8
        have c8 : e8 = 1 := c8
        subst c8
        refine (get_cut A k c ((head i).take (k - 36)) w hT hR (fun u hu => head_lt hb u (List.mem_of_mem_take hu)) (by omega) (by omega) ?_ r1 r2 r3 r4 r5 r6 r7 r8 rfl).mono fun e w' h => ⟨1, .inl rfl, h⟩
        rw [List.take_take, Nat.min_eq_left h2, two]
      · exfalso
        rw [hne] at hd2
        rcases (show k - 36 = 0 ∨ k - 36 = 1 by omega) with h0 | h0
        · rw [h0, List.take_zero] at hd2
          have h1 := congrArg (List.take 1) hd2
          rw [List.take_take] at h1
          have h3 : (closed []).take 1 = (dig []).take 1 := by
            unfold closed
            rw [List.nil_append, List.take_append_of_le_length (by rw [dig_len]; omega)]
          rw [show min 1 2 = 1 from rfl, h3, dig0] at h1
          simp at h1
        · have h4 : (head i).take 1 = [76] := by
            have := congrArg (List.take 1) (two i)
            rw [List.take_take] at this
            exact this
          rw [h0, h4] at hd2
          have h1 := congrArg (List.drop 1) hd2
          have h3 : ((closed [76]).take 2).drop 1 = (dig [76]).take 1 := by
            unfold closed
            rw [List.append_assoc, List.singleton_append, List.take_succ_cons, List.drop_succ_cons, List.drop_zero, List.take_append_of_le_length (by rw [dig_len]; omega)]
          rw [h3, dig1] at h1
          simp at h1
    · exact (get_bad A k c _ w hT hR hx (by omega) (by omega) hne).mono fun e w' h => ⟨10, .inr rfl, h⟩
theorem pbn_inj {a b : Nat} (ha : a < 4294967296) (hb : b < 4294967296) (h : pbn (a : Int) 4 = pbn (b : Int) 4) : a = b := by
  have h1 := congrArg nl h
  rw [pbn_nl, pbn_nl] at h1
  have h2 := congrArg TabR.num h1
  rw [TxtR.num_putb, TxtR.num_putb] at h2
  have h4 : NumA.wd 4 = 4 := rfl
  rw [h4] at h2
  unfold NumB.cl at h2
  have h5 : (2 : Nat) ^ (8 * 4) - 1 = 4294967295 := rfl
  rw [h5] at h2
  omega
theorem get_turn (i : Im) (w : World) (hT : Tab w) (hb : by256 i.xs) (hn : i.xs.length = i.n) (hr : right i) (j y : Nat) (hj : j < (closed (head i)).length) (hy : y < 256) (hne : (closed (head i))[j] ≠ y) (A : Option Addr) (n c : Nat) (hR : Rd w A n c (u8n ((closed (head i)).set j y))) :
    Calls Tryd.prog 11 #[.slice A n c] w (Gt w zeroV 10) := by
  have hkn : (closed (head i)).length = n := by have := Rd.nats hR; simpa using this
  have hH := head_le hn hr
  have hC := closed_len (head i)
  have hlt := closed_lt (head_lt hb)
  have hset : by256 ((closed (head i)).set j y) := CrcE.set_lt hlt hy
  refine get_bad A n c _ w hT hR hset (by omega) (by omega) fun h => ?_
  rw [show n - 36 = (head i).length by omega] at h
  by_cases hjN : j < (head i).length
  · have e1 : ((closed (head i)).set j y).take (head i).length = (head i).set j y := by
      unfold closed
      rw [List.append_assoc, List.set_append_left _ _ hjN, List.take_left' (by simp)]
    rw [e1] at h
    unfold closed at h
    rw [List.set_append_left _ _ (by simp; omega), List.set_append_left _ _ hjN] at h
    have h1 := List.append_inj h (by simp [dig_len])
    have h2 := (List.append_inj h1.1 rfl).2
    rw [← h2] at h1
    have h3 := pbn_inj (CrcM.sm_lt _) (CrcM.sm_lt _) h1.2
    have hxd : by256 (head i ++ dig (head i)) := app_lt (head_lt hb) (dig_lt _)
    have hjl : j < (head i ++ dig (head i)).length := by rw [List.length_append]; omega
    have hcl : (closed (head i))[j] = (head i ++ dig (head i))[j] := List.getElem_append_left hjl
    have h4 := CrcE.turned (xs := head i ++ dig (head i)) (k := j) (y := y) hjl hxd hy (fun hh => hne (by rw [hcl, hh]))
    rw [List.set_append_left _ _ hjN] at h4
    exact h4 (by rw [h3])
  · have e1 : ((closed (head i)).set j y).take (head i).length = head i := by
      rw [List.take_set, List.set_eq_of_length_le (by simp; omega)]
      unfold closed
      rw [List.append_assoc, List.take_left' rfl]
    rw [e1] at h
    have h5 : ((closed (head i)).set j y)[j]'(by simpa using hj) = (closed (head i))[j] := by
      simp only [h]
    rw [List.getElem_set_self] at h5
    exact hne h5.symm
end Go.Proofs.YtlghojnlnfkdhaaDoor.ImgF
