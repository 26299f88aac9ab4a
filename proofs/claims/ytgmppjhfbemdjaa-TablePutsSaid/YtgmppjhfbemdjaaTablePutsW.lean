/- The walk of TablePuts. No conditions. -/
import Derived.Test.YtgmppjhfbemdjaaTabK
import Derived.Test.YtgmppjhfbemdjaaTabX
namespace Go.Proofs.Ytgmppjhfbemdjaa.TablePutsW
open Go.RowKit Go.Proofs.Ytgmppjhfbemdjaa.Kit Go.Proofs.Ytgmppjhfbemdjaa.NumA Go.Proofs.Ytgmppjhfbemdjaa.NumB Go.Proofs.Ytgmppjhfbemdjaa.Mem Go.Proofs.Ytgmppjhfbemdjaa.TabA Go.Proofs.Ytgmppjhfbemdjaa.TabB Go.Proofs.Ytgmppjhfbemdjaa.TabC Go.Proofs.Ytgmppjhfbemdjaa.TabD Go.Proofs.Ytgmppjhfbemdjaa.TabE Go.Proofs.Ytgmppjhfbemdjaa.TabJ Go.Proofs.Ytgmppjhfbemdjaa.TabK Go.Proofs.Ytgmppjhfbemdjaa.TabP Go.Proofs.Ytgmppjhfbemdjaa.TabR Go.Proofs.Ytgmppjhfbemdjaa.TabS Go.Proofs.Ytgmppjhfbemdjaa.TabT Go.Proofs.Ytgmppjhfbemdjaa.TabU Go.Proofs.Ytgmppjhfbemdjaa.TabV Go.Proofs.Ytgmppjhfbemdjaa.TabX

theorem flat_k {f : Tri → List Int} {m : Nat} (hf : ∀ r, (f r).length = m) : ∀ R : List Tri, (R.flatMap f).length = m * R.length
  | [] => by simp
  | r :: R => by rw [List.flatMap_cons, List.length_append, hf, flat_k hf R, List.length_cons, Nat.mul_add, Nat.mul_one, Nat.add_comm]
theorem enc_len (t : Ta) : (encT t).length = 5 + 4 * t.P.length + 3 * t.W.length + 3 * t.C.length := by
  have h2 : wd 2 = 2 := rfl
  unfold encT
  rw [List.length_append, List.length_append, List.length_append, flat_k (m := 4) (fun r => by simp [encP, p1_len, putb_len, h2]), flat_k (m := 3) (fun r => by simp [enc3, p1_len]), flat_k (m := 3) (fun r => by simp [enc3, p1_len])]
  unfold hdrT
  rw [flat_len]
  rfl
theorem be_8 (k m : Nat) : ∀ u ∈ be k m, 0 ≤ u ∧ u ≤ 255 := by
  intro u hu
  simp only [be, List.mem_map, List.mem_range] at hu
  obtain ⟨i, _, rfl⟩ := hu
  omega
theorem p_8 (x q u : Int) (h : u ∈ putb x q) : 0 ≤ u ∧ u ≤ 255 := be_8 _ _ u h
theorem enc_8 (t : Ta) : ∀ u ∈ encT t, 0 ≤ u ∧ u ≤ 255 := by
  intro u hu
  simp only [encT, hdrT, List.mem_append, List.mem_flatMap, encP, enc3] at hu
  rcases hu with ((⟨x, _, h⟩ | ⟨r, _, h⟩) | ⟨r, _, h⟩) | ⟨r, _, h⟩
  · exact p_8 _ _ _ h
  · rcases h with (h | h) | h <;> exact p_8 _ _ _ h
  · rcases h with (h | h) | h <;> exact p_8 _ _ _ h
  · rcases h with (h | h) | h <;> exact p_8 _ _ _ h
/-- What a right table's bytes tell. -/
def Back (w : World) (t : Ta) (e : Ending) (w' : World) : Prop :=
  ∃ (B1 B2 B3 : Option Addr) (d1 d2 d3 : Nat), e = .returned (.tuple #[Ta.val ⟨t.fr, B1, t.n1, d1, t.P, B2, t.n2, d2, t.W, B3, t.n3, d3, t.C, t.tr⟩, .int .i64 0]) ∧ Ta.ok w' ⟨t.fr, B1, t.n1, d1, t.P, B2, t.n2, d2, t.W, B3, t.n3, d3, t.C, t.tr⟩ ∧ Below w.heap.size w w'
theorem get_back (t : Ta) (w : World) (h : t.ok w) (hr : right t) (A : Option Addr) (n c : Nat) (hR : Rd w A n c (u8s (encT t))) : Calls Try.prog 14 #[.slice A n c] w (Back w t) := by
  have hP := h.P.1
  have hW := h.W.1
  have hC := h.C.1
  have hn : n ≤ 100000 := by
    have h1 := Rd.bytes hR
    rw [enc_len] at h1
    have := hr.2.2.1.1.2
    have := hr.2.2.2.1.1
    have := hr.2.2.2.2.1
    omega
  refine (get_any A n c (encT t) w hR (enc_8 t) hn).mono ?_
  rintro e w' ⟨⟨f', B1, m1, d1, P', B2, m2, d2, W', B3, m3, d3, C', r'⟩, x, rfl, ok', hb, hcase⟩
  have hT := told_enc hr hP hW hC
  rcases hcase with ⟨_, _, rfl, hf, htr, hP', hW', hC'⟩ | ⟨hno, _⟩
  · rw [hT.1] at hf htr hP' hW' hC'
    dsimp only at hf htr hP' hW' hC'
    subst hf htr hP' hW' hC'
    have e1 : t.P.length = m1 := ok'.P.1
    have e2 : t.W.length = m2 := ok'.W.1
    have e3 : t.C.length = m3 := ok'.C.1
    rw [hP] at e1
    rw [hW] at e2
    rw [hC] at e3
    subst e1 e2 e3
    exact ⟨B1, B2, B3, d1, d2, d3, rfl, ok', hb⟩
  · exact absurd ⟨by rw [hT.2]; rfl, by rw [hT.1]; exact hr⟩ hno

set_option maxRecDepth 100000 in
set_option maxHeartbeats 6400000 in
theorem core (t : Ta) (w : World) (h : t.ok w) : Calls Try.prog 3 #[t.val] w (Yes w true) := by
  obtain ⟨bl, hbl⟩ := bool_of (huge t)
  have HL := Lib.hid (fun w' (hb : Below w.heap.size w w') => long_any t w' (h.below hb) bl hbl)
  have HX := Lib.hid (Bx.new w t)
  by_cases hr : right t
  · have HR := Lib.hid (fun w' (hb : Below w.heap.size w w') => right_any t w' (h.below hb) true (by simpa using hr))
    have HRR := Lib.hid (fun w' (hb : Below w.heap.size w w') => rright_any t w' (h.below hb) true (by simpa using hr))
    have HP := Lib.hid (fun w' (hb : Below w.heap.size w w') => put_yes t w' (h.below hb) hr)
    have HB := Lib.hid (fun w' (hb : Below w.heap.size w w') => rbytes_any t w' (h.below hb) hr)
    have HG := Lib.hid (fun (A : Option Addr) (n c : Nat) w' (hb : Below w.heap.size w w') => get_back t w' (h.below hb) hr A n c)
    have HO := Lib.hid h
    clear hbl h hr
    obtain ⟨xs, hxs⟩ : ∃ xs, xs = encT t := ⟨_, rfl⟩
    rw [← hxs] at HP HB HG
    clear hxs
    obtain ⟨fr, A1, n1, c1, P, A2, n2, c2, W, A3, n3, c3, C, tr⟩ := t
    show Calls _ _ #[.agg #[.int .i64 fr, .slice A1 n1 c1, .slice A2 n2 c2, .slice A3 n3 c3, .int .i64 tr]] w _
    go_enter Try.func3, Try.ntmps3
    go_wp2_with fail
    refine (wakes_any _).mono ?_
    rintro e w1 ⟨rfl, hb1⟩
    have HX1 := Lib.hid (HX.out.step hb1)
    clear hb1 HX
    obtain ⟨y0, y1, y2, y3, y4⟩ := HX1.out.cell
    dsimp only at y0 y1 y2 y3 y4
    go_wp2_with fail
    refine (HL.out _ HX1.out.bel).mono ?_
    rintro e w2 ⟨rfl, hb2⟩
    have HX2 := Lib.hid (HX1.out.step hb2)
    clear hb2 y0 y1 y2 y3 y4 HX1
    obtain ⟨y0, y1, y2, y3, y4⟩ := HX2.out.cell
    dsimp only at y0 y1 y2 y3 y4
    cases bl
    · go_wp2_with fail
      refine (HP.out _ HX2.out.bel).mono ?_
      rintro e w3 ⟨A, n, c, rfl, hR3, hb3⟩
      have HX3 := Lib.hid (HX2.out.step hb3)
      have HR3 := Lib.hid hR3
      clear hb3 hR3 y0 y1 y2 y3 y4 HX2
      obtain ⟨y0, y1, y2, y3, y4⟩ := HX3.out.cell
      dsimp only at y0 y1 y2 y3 y4
      go_wp2_with fail
      refine (HRR.out _ HX3.out.bel).mono ?_
      rintro e w4 ⟨rfl, hb4⟩
      have HX4 := Lib.hid (HX3.out.step hb4)
      have HR4 := Lib.hid (HR3.out.below hb4)
      clear hb4 y0 y1 y2 y3 y4 HX3 HR3
      go_wp2_with fail
      refine (HG.out A n c _ HX4.out.bel HR4.out).mono ?_
      rintro e w5 ⟨B1, B2, B3, d1, d2, d3, rfl, hok5, hb5⟩
      have HX5 := Lib.hid ((HX4.out.step hb5).alloc (.cells #[.int .i64 fr, .slice B1 n1 d1, .slice B2 n2 d2, .slice B3 n3 d3, .int .i64 tr] 26))
      have HR5 := Lib.hid ((HR4.out.below hb5).alloc (.cells #[.int .i64 fr, .slice B1 n1 d1, .slice B2 n2 d2, .slice B3 n3 d3, .int .i64 tr] 26))
      have HK5 := Lib.hid (hok5.alloc (.cells #[.int .i64 fr, .slice B1 n1 d1, .slice B2 n2 d2, .slice B3 n3 d3, .int .i64 tr] 26))
      have HZ5 := Lib.hid (Blk.new w5 26 [.int .i64 fr, .slice B1 n1 d1, .slice B2 n2 d2, .slice B3 n3 d3, .int .i64 tr])
      clear hb5 hok5 HX4 HR4
      obtain ⟨y0, y1, y2, y3, y4⟩ := HX5.out.cell
      dsimp only at y0 y1 y2 y3 y4
      go_wp2_with fail
      refine (HR.out _ HX5.out.bel).mono ?_
      rintro e w6 ⟨rfl, hb6⟩
      have HX6 := Lib.hid (HX5.out.step hb6)
      have HR6 := Lib.hid (HR5.out.below hb6)
      have HK6 := Lib.hid (HK5.out.below hb6)
      have HZ6 := Lib.hid (HZ5.out.below hb6)
      clear hb6 y0 y1 y2 y3 y4 HX5 HR5 HK5 HZ5
      obtain ⟨y0, y1, y2, y3, y4⟩ := HX6.out.cell
      dsimp only at y0 y1 y2 y3 y4
      go_wp2_with fail
      refine (HB.out _ HX6.out.bel).mono ?_
      rintro e w7 ⟨A', n', c', rfl, hR7, hb7⟩
      have HX7 := Lib.hid (HX6.out.step hb7)
      have HQ7 := Lib.hid (HR6.out.below hb7)
      have HR7 := Lib.hid hR7
      have HK7 := Lib.hid (HK6.out.below hb7)
      have HZ7 := Lib.hid (HZ6.out.below hb7)
      clear hb7 hR7 y0 y1 y2 y3 y4 HX6 HR6 HK6 HZ6
      go_wp2_with fail
      refine (same_yes HQ7.out HR7.out).mono ?_
      rintro e w8 ⟨rfl, nd, rfl⟩
      have hb8 : Below w7.heap.size w7 (w7.drewN nd) := ⟨rfl, rfl, rfl, Nat.le_refl _, fun _ _ => rfl⟩
      have HX8 := Lib.hid (HX7.out.step hb8)
      have HK8 := Lib.hid (HK7.out.below hb8)
      have HZ8 := Lib.hid (HZ7.out.below hb8)
      clear hb8 HX7 HK7 HZ7
      obtain ⟨y0, y1, y2, y3, y4⟩ := HX8.out.cell
      dsimp only at y0 y1 y2 y3 y4
      have z0 := HZ8.out.cell (i := 0) rfl
      have z1 := HZ8.out.cell (i := 1) rfl
      have z2 := HZ8.out.cell (i := 2) rfl
      have z3 := HZ8.out.cell (i := 3) rfl
      have z4 := HZ8.out.cell (i := 4) rfl
      go_wp2_with fail
      refine (rsame_yes fr tr B1 B2 B3 A1 A2 A3 n1 d1 n2 d2 n3 d3 c1 c2 c3 P W C _ HK8.out (HO.out.below HX8.out.bel)).mono ?_
      rintro e w9 ⟨rfl, hb9⟩
      have HX9 := Lib.hid (HX8.out.step hb9)
      clear hb9 y0 y1 y2 y3 y4 z0 z1 z2 z3 z4
      go_wp2_with fail
      go_ret
      exact ⟨rfl, HX9.out.bel⟩
    · go_wp2
      go_ret
      exact ⟨rfl, HX2.out.bel⟩
  · have HR := Lib.hid (fun w' (hb : Below w.heap.size w w') => right_any t w' (h.below hb) false (by simpa using hr))
    have HRR := Lib.hid (fun w' (hb : Below w.heap.size w w') => rright_any t w' (h.below hb) false (by simpa using hr))
    have HP := Lib.hid (fun w' (hb : Below w.heap.size w w') => put_no t w' (h.below hb) hr)
    clear hbl h hr
    obtain ⟨fr, A1, n1, c1, P, A2, n2, c2, W, A3, n3, c3, C, tr⟩ := t
    show Calls _ _ #[.agg #[.int .i64 fr, .slice A1 n1 c1, .slice A2 n2 c2, .slice A3 n3 c3, .int .i64 tr]] w _
    go_enter Try.func3, Try.ntmps3
    go_wp2_with fail
    refine (wakes_any _).mono ?_
    rintro e w1 ⟨rfl, hb1⟩
    have HX1 := Lib.hid (HX.out.step hb1)
    clear hb1 HX
    obtain ⟨y0, y1, y2, y3, y4⟩ := HX1.out.cell
    dsimp only at y0 y1 y2 y3 y4
    go_wp2_with fail
    refine (HL.out _ HX1.out.bel).mono ?_
    rintro e w2 ⟨rfl, hb2⟩
    have HX2 := Lib.hid (HX1.out.step hb2)
    clear hb2 y0 y1 y2 y3 y4 HX1
    obtain ⟨y0, y1, y2, y3, y4⟩ := HX2.out.cell
    dsimp only at y0 y1 y2 y3 y4
    cases bl
    · go_wp2_with fail
      refine (HP.out _ HX2.out.bel).mono ?_
      rintro e w3 ⟨rfl, hb3⟩
      have HX3 := Lib.hid (HX2.out.step hb3)
      clear hb3 y0 y1 y2 y3 y4 HX2
      obtain ⟨y0, y1, y2, y3, y4⟩ := HX3.out.cell
      dsimp only at y0 y1 y2 y3 y4
      go_wp2_with fail
      refine (HRR.out _ HX3.out.bel).mono ?_
      rintro e w4 ⟨rfl, hb4⟩
      have HX4 := Lib.hid (HX3.out.step hb4)
      clear hb4 y0 y1 y2 y3 y4 HX3
      obtain ⟨y0, y1, y2, y3, y4⟩ := HX4.out.cell
      dsimp only at y0 y1 y2 y3 y4
      go_wp2_with fail
      refine (HR.out _ HX4.out.bel).mono ?_
      rintro e w5 ⟨rfl, hb5⟩
      have HX5 := Lib.hid (HX4.out.step hb5)
      clear hb5 y0 y1 y2 y3 y4 HX4
      go_wp2_with fail
      go_ret
      exact ⟨rfl, HX5.out.bel⟩
    · go_wp2
      go_ret
      exact ⟨rfl, HX2.out.bel⟩

theorem hole {H : Type} (enc : TypeId × Value → H) (base : Nat) (v0 : Value) (d0 : DataW H) (p0 : List MemPlace) (w : World) (w0 : DataW.Trod enc Try.prog w 0 (fun _ => true) true 26 v0 d0 p0) (o0 : Value.okWide Try.prog w .any base 26 v0) :
    Calls Try.prog 3 #[v0] w fun e w' => e = .returned (.bool true) ∧ Below w.heap.size w w' := by
  obtain ⟨t, rfl, ht⟩ := open_table w0 o0
  exact core t w ht
end Go.Proofs.Ytgmppjhfbemdjaa.TablePutsW
