/- The walk of CompatChannels. No conditions. -/
import Derived.Test.YtnoopihhfioanaaCpaK
namespace Go.Proofs.Ytnoopihhfioanaa.CompatChannelsW
open Go.RowKit Go.Proofs.Ytnoopihhfioanaa.Kit Go.Proofs.Ytnoopihhfioanaa.Byt Go.Proofs.Ytnoopihhfioanaa.Mem
open Go.Proofs.Ytnoopihhfioanaa.CpaM (From To Bits4 bits_five)
open Go.Proofs.Ytnoopihhfioanaa.CpaN (sends_any receives_any n64)
open Go.Proofs.Ytnoopihhfioanaa.CpaK (wakes_any long_any)
open Go.Proofs.Ytnoopihhfioanaa.TabA (Tri Ta Tris open_table)
open Go.Proofs.Ytnoopihhfioanaa.TabB (Bx)
open Go.Proofs.Ytnoopihhfioanaa.TabD (huge bool_of right)
open Go.Proofs.Ytnoopihhfioanaa.BitM (hb pw rhas_any)
theorem land_fin : ∀ a b : Fin 16, (∀ k : Fin 4, (hb (a.val : Int) (k.val : Int) && hb (b.val : Int) (k.val : Int)) = false) → bits BinOp.and IntKind.i64 (a.val : Int) (b.val : Int) = 0 := by decide +kernel
theorem land_no {x y : Int} (hx : 0 ≤ x ∧ x ≤ 15) (hy : 0 ≤ y ∧ y ≤ 15) (h : ∀ k : Nat, k < 4 → ¬ (hb x k = true ∧ hb y k = true)) : bits BinOp.and IntKind.i64 x y = 0 := by
  obtain ⟨a, rfl⟩ : ∃ a : Nat, x = a := ⟨x.toNat, by omega⟩
  obtain ⟨b, rfl⟩ : ∃ b : Nat, y = b := ⟨y.toNat, by omega⟩
  refine land_fin ⟨a, by omega⟩ ⟨b, by omega⟩ fun k => ?_
  have := h k.val k.isLt
  rw [Bool.eq_false_iff]
  intro hh
  rw [Bool.and_eq_true] at hh
  exact this hh
set_option maxRecDepth 100000 in
set_option maxHeartbeats 6400000 in
theorem core (t : Ta) (p : Int) (w : World) (ht : t.ok w) (hp : n64 p) :
    Calls Try.prog 4 #[t.val, .int .i64 p] w fun e w' => e = .returned (.bool true) ∧ Below w.heap.size w w' := by
  have hTB := Bx.new w t
  obtain ⟨bl, hbl⟩ := bool_of (huge t)
  obtain ⟨br, hbr⟩ := bool_of (right t)
  have HLG := Lib.hid (fun w' (hb : Below w.heap.size w w') => long_any t w' (ht.below hb) bl hbl)
  have HRR := Lib.hid (fun w' (hb : Below w.heap.size w w') => Go.Proofs.Ytnoopihhfioanaa.TabK.rright_any t w' (ht.below hb) br hbr)
  have HSN := Lib.hid (fun w' (hb : Below w.heap.size w w') => sends_any t p w' (ht.below hb) hp)
  have HRC := Lib.hid (fun w' (hb : Below w.heap.size w w') => receives_any t p w' (ht.below hb) hp)
  have HT := Lib.hid ht
  have HBR := Lib.hid hbr
  have hm1 : t.n1 ≤ 9223372036854775807 := ht.P.le
  have hm3 : t.n3 ≤ 9223372036854775807 := ht.C.le
  obtain ⟨fr, A1, n1, c1, P, A2, n2, c2, W, A3, n3, c3, C, tr⟩ := t
  dsimp only at hm1 hm3
  clear ht hbl hbr hp
  go_enter Try.func4, Try.ntmps4
  go_upto_region 1 with (fail)
  obtain ⟨w0, hw0⟩ : ∃ w0, w0 = (w.alloc (.cells #[.int .i64 fr, .slice A1 n1 c1, .slice A2 n2 c2, .slice A3 n3 c3, .int .i64 tr] 26)) := ⟨_, rfl⟩
  rw [← hw0]
  have HB0 : Hid (Bx w ⟨fr, A1, n1, c1, P, A2, n2, c2, W, A3, n3, c3, C, tr⟩ w0) := Lib.hid (by rw [hw0]; exact hTB)
  clear hw0 hTB
  go_wp2_with fail
  refine (wakes_any _).mono ?_
  rintro e w1 ⟨rfl, hb1⟩
  have HB1 := Lib.hid (HB0.out.step hb1)
  obtain ⟨a0, a1, a2, a3, a4⟩ := HB1.out.cell
  clear hb1 HB0
  go_wp2_with fail
  refine (HLG.out _ HB1.out.bel).mono ?_
  rintro e w2 ⟨rfl, hb2⟩
  have HB2 := Lib.hid (HB1.out.step hb2)
  clear a0 a1 a2 a3 a4
  clear hb2 HB1
  cases bl with
  | true =>
    go_wp2_with fail
    go_ret
    exact ⟨rfl, HB2.out.bel⟩
  | false =>
    obtain ⟨a0, a1, a2, a3, a4⟩ := HB2.out.cell
    have HBd := Lib.hid (HB2.out.step ((Below.refl w2.heap.size w2).drew))
    go_wp2_with fail
    go_cut [5, 6] (fun s5 s6 wx => ∃ x y : Int, s5 = .int .i64 x ∧ s6 = .int .i64 y ∧ Hid (Bx w ⟨fr, A1, n1, c1, P, A2, n2, c2, W, A3, n3, c3, C, tr⟩ wx) ∧ Hid ((¬ (right ⟨fr, A1, n1, c1, P, A2, n2, c2, W, A3, n3, c3, C, tr⟩ ∧ 0 ≤ p ∧ p < n1) → x = 0) ∧ (right ⟨fr, A1, n1, c1, P, A2, n2, c2, W, A3, n3, c3, C, tr⟩ ∧ 0 ≤ p ∧ p < n1 → Bits4 (From ⟨fr, A1, n1, c1, P, A2, n2, c2, W, A3, n3, c3, C, tr⟩ p) x)) ∧ Hid ((¬ (right ⟨fr, A1, n1, c1, P, A2, n2, c2, W, A3, n3, c3, C, tr⟩ ∧ 0 ≤ p ∧ p < n1) → y = 0) ∧ (right ⟨fr, A1, n1, c1, P, A2, n2, c2, W, A3, n3, c3, C, tr⟩ ∧ 0 ≤ p ∧ p < n1 → Bits4 (To ⟨fr, A1, n1, c1, P, A2, n2, c2, W, A3, n3, c3, C, tr⟩ p) y)))
    case first =>
      go_region_held3 (fun w' => w'.cell? ⟨w.heap.size, 0, none⟩ = some (.int .i64 fr) ∧ w'.cell? ⟨w.heap.size, 1, none⟩ = some (.slice A1 n1 c1) ∧ w'.cell? ⟨w.heap.size, 2, none⟩ = some (.slice A2 n2 c2) ∧ w'.cell? ⟨w.heap.size, 3, none⟩ = some (.slice A3 n3 c3) ∧ w'.cell? ⟨w.heap.size, 4, none⟩ = some (.int .i64 tr))
        (first | go_keep | exact HC1.out | exact HC2.out)
        (first
         | (go_at_call 12; first
             | (have hq := HE1; clear hq; refine (HSN.out _ HE1.out.bel).mono ?_; rintro e xs2 ⟨vx, rfl, hbe, hzx, hfx⟩; have HE2 := Lib.hid (HE1.out.step hbe); have HC2 := Lib.hid HE2.out.cell; clear hbe)
             | (refine (HSN.out _ HBd.out.bel).mono ?_; rintro e xs1 ⟨vx, rfl, hbe, hzx, hfx⟩; have HE1 := Lib.hid (HBd.out.step hbe); have HC1 := Lib.hid HE1.out.cell; clear hbe))
         | (go_at_call 13; first
             | (have hq := HE1; clear hq; refine (HRC.out _ HE1.out.bel).mono ?_; rintro e ys2 ⟨vy, rfl, hbe, hzy, hfy⟩; have HE2 := Lib.hid (HE1.out.step hbe); have HC2 := Lib.hid HE2.out.cell; clear hbe)
             | (refine (HRC.out _ HBd.out.bel).mono ?_; rintro e ys1 ⟨vy, rfl, hbe, hzy, hfy⟩; have HE1 := Lib.hid (HBd.out.step hbe); have HC1 := Lib.hid HE1.out.cell; clear hbe)))
      all_goals
        have HZX := Lib.hid hzx
        have HFX := Lib.hid hfx
        have HZY := Lib.hid hzy
        have HFY := Lib.hid hfy
        clear hzx hfx hzy hfy
        go_wp2_with fail
        go_meet
        exact ⟨vx, vy, rfl, rfl, HE2, Lib.hid ⟨HZX.out, HFX.out⟩, Lib.hid ⟨HZY.out, HFY.out⟩⟩
    case rest =>
    obtain ⟨x, y, rfl, rfl, HB3, HX, HY⟩ := hcut
    clear a0 a1 a2 a3 a4
    clear HB2 HBd HSN HRC
    obtain ⟨a0, a1, a2, a3, a4⟩ := HB3.out.cell
    go_wp2_with fail
    refine (HRR.out _ HB3.out.bel).mono ?_
    rintro e w4 ⟨rfl, hb4⟩
    have HB4 := Lib.hid (HB3.out.step hb4)
    clear a0 a1 a2 a3 a4
    clear hb4 HB3
    obtain ⟨a0, a1, a2, a3, a4⟩ := HB4.out.cell
    have no : ¬ (right ⟨fr, A1, n1, c1, P, A2, n2, c2, W, A3, n3, c3, C, tr⟩ ∧ 0 ≤ p ∧ p < n1) → x = 0 ∧ y = 0 := fun h => ⟨HX.out.1 h, HY.out.1 h⟩
    cases br with
    | false =>
      obtain ⟨rfl, rfl⟩ := no (fun h => by have := HBR.out.2 h.1; cases this)
      clear no
      go_wp2_with fail
      go_ret
      exact ⟨rfl, HB4.out.bel⟩
    | true =>
    by_cases hp0 : p < 0
    · obtain ⟨rfl, rfl⟩ := no (fun h => by omega)
      clear no
      go_wp2_with fail
      go_ret
      exact ⟨rfl, HB4.out.bel⟩
    by_cases hp1 : (n1 : Int) ≤ p
    · obtain ⟨rfl, rfl⟩ := no (fun h => by omega)
      clear no
      go_wp2_with fail
      go_ret
      exact ⟨rfl, HB4.out.bel⟩
    have hrt : right ⟨fr, A1, n1, c1, P, A2, n2, c2, W, A3, n3, c3, C, tr⟩ := HBR.out.1 rfl
    have hin : right ⟨fr, A1, n1, c1, P, A2, n2, c2, W, A3, n3, c3, C, tr⟩ ∧ 0 ≤ p ∧ p < n1 := ⟨hrt, by omega, by omega⟩
    have hX4 := HX.out.2 hin
    have hY4 := HY.out.2 hin
    have h4 : C.length ≤ 4 := hrt.2.2.2.2.1
    have hCo : ∀ (k : Nat) (r : Tri), C[k]? = some r → r.a ≠ r.b := fun k r hr => (hrt.2.2.2.2.2 k r hr).2.2.1
    have hnF : ¬ From ⟨fr, A1, n1, c1, P, A2, n2, c2, W, A3, n3, c3, C, tr⟩ p 4 := fun ⟨r, hr, _⟩ => by
      have := (List.getElem?_eq_some_iff.1 (show C[4]? = some r from hr)).1
      omega
    have hnT : ¬ To ⟨fr, A1, n1, c1, P, A2, n2, c2, W, A3, n3, c3, C, tr⟩ p 4 := fun ⟨r, hr, _⟩ => by
      have := (List.getElem?_eq_some_iff.1 (show C[4]? = some r from hr)).1
      omega
    have HX5 := Lib.hid (bits_five hX4 hnF)
    have HY5 := Lib.hid (bits_five hY4 hnT)
    have HXY := Lib.hid (show (0 ≤ x ∧ x ≤ 15) ∧ (0 ≤ y ∧ y ≤ 15) ∧ ∀ k : Nat, k < 4 → ¬ (hb x k = true ∧ hb y k = true) from ⟨⟨hX4.lo, hX4.hi⟩, ⟨hY4.lo, hY4.hi⟩, fun k hk h => by
      obtain ⟨r, h1, h2⟩ := (hX4.bit k hk).1 h.1
      obtain ⟨r', h3, h5⟩ := (hY4.bit k hk).1 h.2
      have h3 : C[k]? = some r' := h3
      have h1 : C[k]? = some r := h1
      rw [h1] at h3
      injection h3 with h3
      subst h3
      exact hCo k r h1 (by rw [h2, h5])⟩)
    have HCO := Lib.hid hCo
    have HC4 := Lib.hid (show Tris w4 A3 n3 c3 C from (HT.out.below HB4.out.bel).C)
    obtain ⟨A1', hA1⟩ : ∃ z, z = A1 := ⟨_, rfl⟩
    clear no hrt hin hX4 hY4 h4 hCo hnF hnT HX HY HT HLG HRR hA1
    go_wp2_with fail
    clear a0 a1 a2 a3 a4
    go_loopw [40] (fun v40 wr => ∃ k : Nat, k ≤ 5 ∧ v40 = .int .i64 k ∧ Hid (Bx w ⟨fr, A1, n1, c1, P, A2, n2, c2, W, A3, n3, c3, C, tr⟩ wr) ∧ Hid (Tris wr A3 n3 c3 C)) (fun v40 _ => 5 - (intOf v40).toNat)
    case atStart => exact ⟨0, by omega, rfl, HB4, HC4⟩
    case round =>
      clear HB4 HC4
      obtain ⟨k, hk, rfl, HB5, HC5⟩ := hrel
      by_cases hk5 : k < 5
      · obtain ⟨a0, a1, a2, a3, a4⟩ := HB5.out.cell
        have hxk := HX5.out k hk5
        have hyk := HY5.out k hk5
        by_cases hkn : k < n3
        · obtain ⟨⟨ra, rb, rc⟩, b, o, hr, _, hA, _, r0, r1, _⟩ := HC5.out.at_ hkn
          have hr : C[k]? = some ⟨ra, rb, rc⟩ := hr
          subst hA
          dsimp only at r0 r1
          have hab : ra ≠ rb := HCO.out k _ hr
          have hf : From ⟨fr, A1, n1, c1, P, A2, n2, c2, W, some ⟨b, o, none⟩, n3, c3, C, tr⟩ p k ↔ ra = p := ⟨fun ⟨r', h1, h2⟩ => by
            have h1 : C[k]? = some r' := h1
            rw [hr] at h1
            injection h1 with h1
            subst h1
            exact h2, fun h => ⟨_, hr, h⟩⟩
          have ht : To ⟨fr, A1, n1, c1, P, A2, n2, c2, W, some ⟨b, o, none⟩, n3, c3, C, tr⟩ p k ↔ rb = p := ⟨fun ⟨r', h1, h2⟩ => by
            have h1 : C[k]? = some r' := h1
            rw [hr] at h1
            injection h1 with h1
            subst h1
            exact h2, fun h => ⟨_, hr, h⟩⟩
          rw [hf] at hxk
          rw [ht] at hyk
          clear hr hf ht
          by_cases ha : ra = p
          · subst ha
            have hb' : (rb == ra) = false := by simpa using fun e => hab e.symm
            have ha' : (ra == ra) = true := by simp
            have H1 := Lib.hid (fun w' => (hxk.2 rfl) ▸ rhas_any x k w')
            have hf0 : hb y k = false := by rw [Bool.eq_false_iff]; exact fun h => hab (hyk.1 h).symm
            have H2 := Lib.hid (fun w' => hf0 ▸ rhas_any y k w')
            clear hxk hyk hf0 hab
            go_wp2_with (go_at_call 15; (first | (with_reducible refine (H1.out _).mono ?_) | (with_reducible refine (H2.out _).mono ?_)); rintro e w' ⟨rfl, rfl⟩)
            go_roundw
            case rel => exact ⟨k + 1, by omega, by go_num, HB5, HC5⟩
            case measure => simp [intOf]; omega
          · have ha' : (ra == p) = false := by simpa using ha
            have hf0 : hb x k = false := by rw [Bool.eq_false_iff]; exact fun h => ha (hxk.1 h)
            have H1 := Lib.hid (fun w' => hf0 ▸ rhas_any x k w')
            by_cases hb1 : rb = p
            · subst hb1
              have hb' : (rb == rb) = true := by simp
              have H2 := Lib.hid (fun w' => (hyk.2 rfl) ▸ rhas_any y k w')
              clear hxk hyk hf0 hab
              go_wp2_with (go_at_call 15; (first | (with_reducible refine (H1.out _).mono ?_) | (with_reducible refine (H2.out _).mono ?_)); rintro e w' ⟨rfl, rfl⟩)
              go_roundw
              case rel => exact ⟨k + 1, by omega, by go_num, HB5, HC5⟩
              case measure => simp [intOf]; omega
            · have hb' : (rb == p) = false := by simpa using hb1
              have hf1 : hb y k = false := by rw [Bool.eq_false_iff]; exact fun h => hb1 (hyk.1 h)
              have H2 := Lib.hid (fun w' => hf1 ▸ rhas_any y k w')
              clear hxk hyk hf0 hf1 hab
              go_wp2_with (go_at_call 15; (first | (with_reducible refine (H1.out _).mono ?_) | (with_reducible refine (H2.out _).mono ?_)); rintro e w' ⟨rfl, rfl⟩)
              go_roundw
              case rel => exact ⟨k + 1, by omega, by go_num, HB5, HC5⟩
              case measure => simp [intOf]; omega
        · have hno : C[k]? = none := List.getElem?_eq_none (by have hl : C.length = n3 := HC5.out.1; omega)
          have hf0 : hb x k = false := by
            rw [Bool.eq_false_iff]
            intro h
            obtain ⟨r', h1, _⟩ := hxk.1 h
            have h1 : C[k]? = some r' := h1
            rw [hno] at h1
            cases h1
          have hf1 : hb y k = false := by
            rw [Bool.eq_false_iff]
            intro h
            obtain ⟨r', h1, _⟩ := hyk.1 h
            have h1 : C[k]? = some r' := h1
            rw [hno] at h1
            cases h1
          have H1 := Lib.hid (fun w' => hf0 ▸ rhas_any x k w')
          have H2 := Lib.hid (fun w' => hf1 ▸ rhas_any y k w')
          clear hxk hyk hf0 hf1 hno
          go_wp2_with (go_at_call 15; (first | (with_reducible refine (H1.out _).mono ?_) | (with_reducible refine (H2.out _).mono ?_)); rintro e w' ⟨rfl, rfl⟩)
          go_roundw
          case rel => exact ⟨k + 1, by omega, by go_num, HB5, HC5⟩
          case measure => simp [intOf]; omega
      · obtain rfl : k = 5 := by omega
        have HLZ := Lib.hid (land_no HXY.out.1 HXY.out.2.1 HXY.out.2.2)
        go_wp2_with fail
        go_ret
        exact ⟨by rw [HLZ.out]; rfl, HB5.out.bel⟩
set_option maxRecDepth 100000 in
theorem hole {H : Type} (enc : TypeId × Value → H) (base : Nat) (v0 : Value) (d0 : DataW H) (p0 : List MemPlace) (a1 : Int) (w : World) (w0 : DataW.Trod enc Try.prog w 0 (fun _ => true) true 26 v0 d0 p0) (o0 : Value.okWide Try.prog w .any base 26 v0) (w1 : (Lit.int .i64 a1).wf = true) :
    Calls Try.prog 4 #[v0, .int .i64 a1] w fun e w' => e = .returned (.bool true) ∧ Below w.heap.size w w' := by
  obtain ⟨t, rfl, ht⟩ := open_table w0 o0
  exact core t a1 w ht (bounds_i64 w1)
end Go.Proofs.Ytnoopihhfioanaa.CompatChannelsW
