/- The walk of RecordTurned. No conditions. -/
import Derived.Test.YtegddebigeeeeaaRecP
import Derived.Test.YtegddebigeeeeaaCrcE
namespace Go.Proofs.Ytegddebigeeeeaa.RecordTurnedW
open Go.RowKit Go.Proofs.Ytegddebigeeeeaa.Kit Go.Proofs.Ytegddebigeeeeaa.Byt Go.Proofs.Ytegddebigeeeeaa.Mem Go.Proofs.Ytegddebigeeeeaa.RecM Go.Proofs.Ytegddebigeeeeaa.RecA Go.Proofs.Ytegddebigeeeeaa.RecC Go.Proofs.Ytegddebigeeeeaa.RecG Go.Proofs.Ytegddebigeeeeaa.RecN Go.Proofs.Ytegddebigeeeeaa.RecW Go.Proofs.Ytegddebigeeeeaa.RecP Go.Proofs.Ytegddebigeeeeaa.CrcE

theorem six {w : World} {g : Nat} {t' : TypeId} {p q a c l t : Int} (h : Blk w g t' (rcells ⟨p, q, a, c, l, t⟩)) : w.cell? ⟨g, 0, none⟩ = some (.int .i64 p) ∧ w.cell? ⟨g, 1, none⟩ = some (.int .i64 q) ∧ w.cell? ⟨g, 2, none⟩ = some (.int .i64 a) ∧ w.cell? ⟨g, 3, none⟩ = some (.int .i64 c) ∧ w.cell? ⟨g, 4, none⟩ = some (.int .i64 l) ∧ w.cell? ⟨g, 5, none⟩ = some (.int .i64 t) := ⟨h.cell (i := 0) rfl, h.cell (i := 1) rfl, h.cell (i := 2) rfl, h.cell (i := 3) rfl, h.cell (i := 4) rfl, h.cell (i := 5) rfl⟩
set_option maxRecDepth 100000 in
set_option maxHeartbeats 1600000 in
theorem core (r : Rc) (q y : Nat) (hq : q < 256) (hy : y < 256) (w : World) (hk : rok r) : Calls Try.prog 6 #[rval r, .int .u8 (q : Nat), .int .u8 (y : Nat)] w (Yes w true) := by
  have HX := Lib.hid (Bx.new w 23 (rcells r))
  by_cases hr : r.right
  · have HP := Lib.hid (fun w' => rput_yes r w' hk hr)
    by_cases hy0 : y = 0
    · subst hy0
      clear hr hk
      obtain ⟨p, q', a, c, l, t⟩ := r
      show Calls _ _ #[.agg #[.int .i64 p, .int .i64 q', .int .i64 a, .int .i64 c, .int .i64 l, .int .i64 t], .int .u8 (q : Nat), .int .u8 0] w _
      go_enter Try.func6, Try.ntmps6
      go_wp2_with fail
      refine (wakes_any _).mono ?_
      rintro e w1 ⟨rfl, hb1⟩
      have HX1 := Lib.hid (HX.out.step hb1)
      clear hb1 HX
      obtain ⟨y0, y1, y2, y3, y4, y5⟩ := six HX1.out.blk
      go_wp2_with fail
      refine (HP.out _).mono ?_
      rintro e w2 ⟨B, m, d, rfl, ho2, hb2⟩
      have HX2 := Lib.hid (HX1.out.step hb2)
      clear ho2 hb2 HX1 y0 y1 y2 y3 y4 y5
      go_wp2
      go_ret
      exact ⟨rfl, HX2.out.bel⟩
    · have hyb : ((y : Int) == 0) = false := by simp; omega
      have hSl : (shut r.bytes).length = 64 := shut_len (by rw [r.bytes_len]; omega)
      have hSb : byt (shut r.bytes) := shut_lt r.bytes_lt
      have hrem : (q : Int) % 64 = ((q % 64 : Nat) : Int) := by omega
      have hkl : q % 64 < 64 := Nat.mod_lt _ (by omega)
      obtain ⟨k, hkq⟩ : ∃ k, k = q % 64 := ⟨_, rfl⟩
      rw [← hkq] at hrem hkl
      clear hkq
      have hu := hSb ((shut r.bytes)[k]'(by omega)) (List.getElem_mem _)
      have hxor := xor8 hu hy
      have hz : ((shut r.bytes)[k]'(by omega) ^^^ y) < 256 := Nat.xor_lt_two_pow (n := 8) hu hy
      have hne : (shut r.bytes)[k]'(by omega) ≠ ((shut r.bytes)[k]'(by omega) ^^^ y) := fun h => hy0 (by
        have h2 := congrArg ((shut r.bytes)[k]'(by omega) ^^^ ·) h
        simpa [← Nat.xor_assoc] using h2.symm)
      have hT := getR_turned r hz hkl hne
      have HTB := Lib.hid (set_lt (k := k) hSb hz)
      obtain ⟨u, hue⟩ : ∃ u, u = (shut r.bytes)[k]'(by omega) := ⟨_, rfl⟩
      have HU := Lib.hid (show (shut r.bytes)[k]? = some u from by rw [List.getElem?_eq_getElem (by omega), hue])
      rw [← hue] at hu hxor hz hT HTB
      obtain ⟨x, hx⟩ : ∃ x, x = (getR ((shut r.bytes).set k (u ^^^ y))).2 := ⟨_, rfl⟩
      have hxb : (x != 0) = true := by rw [hx]; simpa using hT.2
      have HG := Lib.hid (fun A n c w' (h : Rd w' A n c (u8n ((shut r.bytes).set k (u ^^^ y)))) => (by have h1 := rget_any A n c _ w' h HTB.out; rw [hT.1, ← hx] at h1; exact h1 : Calls Try.prog 12 #[.slice A n c] w' (Gets w' (.agg #[.int .i64 0, .int .i64 0, .int .i64 0, .int .i64 0, .int .i64 0, .int .i64 0]) x)))
      have heq := req 0 0 0 0 0 0
      obtain ⟨S, hS⟩ : ∃ S, S = shut r.bytes := ⟨_, rfl⟩
      rw [← hS] at HP HG HU hSl
      have HSL := Lib.hid hSl
      clear hr hk hS hT hx hne hue hu HTB hSb hSl
      obtain ⟨p, q', a, c, l, t⟩ := r
      show Calls _ _ #[.agg #[.int .i64 p, .int .i64 q', .int .i64 a, .int .i64 c, .int .i64 l, .int .i64 t], .int .u8 (q : Nat), .int .u8 (y : Nat)] w _
      go_enter Try.func6, Try.ntmps6
      go_wp2_with fail
      refine (wakes_any _).mono ?_
      rintro e w1 ⟨rfl, hb1⟩
      have HX1 := Lib.hid (HX.out.step hb1)
      clear hb1 HX
      obtain ⟨y0, y1, y2, y3, y4, y5⟩ := six HX1.out.blk
      go_wp2_with fail
      refine (HP.out _).mono ?_
      rintro e w2 ⟨B, m, d, rfl, ho2, hb2⟩
      have HX2 := Lib.hid (HX1.out.step hb2)
      obtain rfl : 64 = m := by have := Rd.nats (Rd.own ho2); have := HSL.out; omega
      obtain ⟨g, rfl, hgb, hgl⟩ := own_some ho2 (by omega)
      have hcell : w2.cell? ⟨g, k, none⟩ = some (.int .u8 (u : Nat)) := by
        have h1 := own_byte ho2 (k := k) (by have := HSL.out; omega)
        have h2 := HU.out
        rw [List.getElem?_eq_getElem (by have := HSL.out; omega)] at h2
        injection h2 with h2
        rw [h2] at h1
        exact h1
      have hfz := ho2.frozenAt k
      have HST := Lib.hid (ho2.stored k (.int .u8 ((u ^^^ y : Nat) : Int))).1
      have HL3 := Lib.hid (show Below w.heap.size w (w2.setCell ⟨g, k, none⟩ (.int .u8 ((u ^^^ y : Nat) : Int))) from HX2.out.bel.setCell (by have := HX1.out.bel.size; show w.heap.size ≤ g; omega) _)
      clear ho2 hb2 HX1 HX2 y0 y1 y2 y3 y4 y5
      go_wp2_with fail
      have HR3 := Lib.hid (show Rd (w2.setCell ⟨g, k, none⟩ (.int .u8 ((u ^^^ y : Nat) : Int))) (some ⟨g, 0, none⟩) 64 d (u8n (S.set k (u ^^^ y))) from by
        have h := Rd.own HST.out
        rw [u8n_set] at h
        exact h)
      clear hcell hfz HST
      generalize w2.setCell ⟨g, k, none⟩ (.int .u8 ((u ^^^ y : Nat) : Int)) = w3 at *
      refine (HG.out _ _ _ _ HR3.out).mono ?_
      rintro e w4 ⟨rfl, hb4⟩
      have HL4 := Lib.hid (HL3.out.trans (hb4.mono HL3.out.size))
      have hs4 := HL4.out.size
      clear hb4 HL3 HR3
      go_wp2
      go_ret
      exact ⟨rfl, HL4.out.alloc hs4 _⟩
  · have HP := Lib.hid (fun w' => rput_no r w' hk hr)
    clear hk hr
    obtain ⟨p, q', a, c, l, t⟩ := r
    show Calls _ _ #[.agg #[.int .i64 p, .int .i64 q', .int .i64 a, .int .i64 c, .int .i64 l, .int .i64 t], .int .u8 (q : Nat), .int .u8 (y : Nat)] w _
    go_enter Try.func6, Try.ntmps6
    go_wp2_with fail
    refine (wakes_any _).mono ?_
    rintro e w1 ⟨rfl, hb1⟩
    have HX1 := Lib.hid (HX.out.step hb1)
    clear hb1 HX
    obtain ⟨y0, y1, y2, y3, y4, y5⟩ := six HX1.out.blk
    go_wp2_with fail
    refine (HP.out _).mono ?_
    rintro e w2 ⟨rfl, hb2⟩
    have HX2 := Lib.hid (HX1.out.step hb2)
    clear hb2 HX1 y0 y1 y2 y3 y4 y5
    go_wp2
    go_ret
    exact ⟨rfl, HX2.out.bel⟩

set_option maxRecDepth 100000 in
theorem hole {H : Type} (enc : TypeId × Value → H) (base : Nat) (v0 : Value) (d0 : DataW H) (p0 : List MemPlace) (a1 a2 : Int) (w : World) (w0 : DataW.Trod enc Try.prog w 0 (fun _ => true) true 23 v0 d0 p0) (o0 : Value.okWide Try.prog w .any base 23 v0) (w1 : (Lit.int .u8 a1).wf = true) (w2 : (Lit.int .u8 a2).wf = true) :
    Calls Try.prog 6 #[v0, .int .u8 a1, .int .u8 a2] w fun e w' => e = .returned (.bool true) ∧ Below w.heap.size w w' := by
  obtain ⟨r, rfl, hr⟩ := open_record w0 o0
  have h1 := bounds_u8 w1
  have h2 := bounds_u8 w2
  obtain ⟨q, rfl⟩ : ∃ q : Nat, a1 = q := ⟨a1.toNat, by omega⟩
  obtain ⟨y, rfl⟩ : ∃ y : Nat, a2 = y := ⟨a2.toNat, by omega⟩
  exact core r q y (by omega) (by omega) w hr
end Go.Proofs.Ytegddebigeeeeaa.RecordTurnedW
