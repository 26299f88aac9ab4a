/- Get by the document. Conditions: its channels lie as the facts say; numbers of 64 bits. -/
import Derived.Test.YtegnehdfedfphaaJ08
namespace Go.Proofs.Ytegnehdfedfphaa.PrtV
open Go.RowKit Go.Proofs.Ytegnehdfedfphaa.Kit Go.Proofs.Ytegnehdfedfphaa.Byt Go.Proofs.Ytegnehdfedfphaa.Mem Go.Proofs.Ytegnehdfedfphaa.TabI Go.Proofs.Ytegnehdfedfphaa.PrtM Go.Proofs.Ytegnehdfedfphaa.PrtA Go.Proofs.Ytegnehdfedfphaa.PrtB Go.Proofs.Ytegnehdfedfphaa.PrtC Go.Proofs.Ytegnehdfedfphaa.PrtD Go.Proofs.Ytegnehdfedfphaa.PrtR Go.Proofs.Ytegnehdfedfphaa.PrtS
open Go.Proofs.Ytegnehdfedfphaa.TabA (Tri Tris Ta)
open Go.Proofs.Ytegnehdfedfphaa.TabE (ret_row)

section
variable {B X gl n c : Nat} {w : World} {ρ : Nat → Lab} {A : Option Addr} {C : List Tri} {L : Nat → List Int} {r : Tri}
set_option maxRecDepth 100000 in
/-- A refusal: the box of the answer is new, nothing else. -/
theorem rget_no (h : Rf B w ρ X gl A n c C L) (p k : Int) (hk : getOk C p k = false) :
    Calls Try.prog 48 #[.pointer (some ⟨X, 0, none⟩), .int .i64 p, .int .i64 k] w fun e w' => e = .returned (.agg #[.int .i64 0, .bool false, .int .i64 15]) ∧ Below w.heap.size w w' := by
  have hn64 : n ≤ 9223372036854775807 := by have := h.most; omega
  have hCl := h.tri.1
  by_cases h0 : k < 0
  · clear hk h
    go_enter Try.func48, Try.ntmps48
    go_wp2
    exact ret_row (g := w.heap.size) (t := 61) (cs := #[.int .i64 0, .bool false, .int .i64 15]) Try.results48 rfl rfl (heap_alloc_new w _) Try.underlying61 rfl size_told ⟨rfl, (Below.refl _ _).alloc (Nat.le_refl _) _⟩
  · have hX := h.x.alloc (.cells #[.int .i64 0, .bool false, .int .i64 0] 61)
    have x0 := hX.cell (i := 0) rfl
    clear hX
    by_cases h1 : k < (n : Int)
    · obtain ⟨k', rfl⟩ : ∃ k' : Nat, k = k' := ⟨k.toNat, by omega⟩
      have hkn : k' < n := by omega
      obtain ⟨r, b, o, hr, hok, rfl, hbl, k0, k1, k2⟩ := h.tri.at_ hkn
      have hne : (r.b != p) = true := by
        rw [getOk_at hr] at hk
        simpa using hk
      obtain ⟨z, hz⟩ : ∃ z, z = r.b := ⟨_, rfl⟩
      rw [← hz] at hne k1
      have k0' : (w.alloc (.cells #[.int .i64 0, .bool false, .int .i64 0] 61)).cell? ⟨b, o + k' * 3 + 1, none⟩ = some (.int .i64 z) := (((Below.refl _ _).alloc (Nat.le_refl _) _).cell hbl).trans k1
      clear hk h hr hz h0 h1 k1 k2 hok k0 hCl
      go_enter Try.func48, Try.ntmps48
      go_wp2
      exact ret_row (g := w.heap.size) (t := 61) (cs := #[.int .i64 0, .bool false, .int .i64 15]) Try.results48 rfl rfl (heap_alloc_new w _) Try.underlying61 rfl size_told ⟨rfl, (Below.refl _ _).alloc (Nat.le_refl _) _⟩
    · clear hk h hCl
      go_enter Try.func48, Try.ntmps48
      go_wp2
      exact ret_row (g := w.heap.size) (t := 61) (cs := #[.int .i64 0, .bool false, .int .i64 15]) Try.results48 rfl rfl (heap_alloc_new w _) Try.underlying61 rfl size_told ⟨rfl, (Below.refl _ _).alloc (Nat.le_refl _) _⟩
/-- What the box of the answer holds behind the last store. -/
theorem told3 {W : World} {g : Nat} {a b c a' b' c' : Value} (h : Blk W g 61 [a, b, c]) : Blk (((W.setCell ⟨g, 0, none⟩ a').setCell ⟨g, 1, none⟩ b').setCell ⟨g, 2, none⟩ c') g 61 [a', b', c'] := ((h.set 0 a').set 1 b').set 2 c'
set_option maxRecDepth 100000 in
theorem rget_none (h : Rf B w ρ X gl A n c C L) {k : Nat} (hr : C[k]? = some r) (p : Int) (hb : r.b = p) (hL : L k = []) :
    Calls Try.prog 48 #[.pointer (some ⟨X, 0, none⟩), .int .i64 p, .int .i64 (k : Nat)] w fun e w' => e = .returned (.agg #[.int .i64 0, .bool false, .int .i64 0]) ∧ Below w.heap.size w w' := by
  have hn64 : n ≤ 9223372036854775807 := by have := h.most; omega
  have hkn : k < n := by have := (List.getElem?_eq_some_iff.1 hr).1; rw [h.tri.1] at this; exact this
  have hX := h.x.alloc (.cells #[.int .i64 0, .bool false, .int .i64 0] 61)
  have x0 := hX.cell (i := 0) rfl
  have x1 := hX.cell (i := 1) rfl
  obtain ⟨r', b, o, A1, m, c1, hr', hok, rfl, hbl, k0, k1, k2, g0, hRd, _⟩ := h.at_ hkn
  obtain rfl : r = r' := by rw [hr] at hr'; injection hr'
  have hm : m = 0 := by rw [← hRd.1, i64s_len, hL]; rfl
  subst hm
  have hgl : gl < w.heap.size := by obtain ⟨V, hV, _⟩ := h.rows; exact hV.lt
  have hbA := (Below.refl w.heap.size w).alloc (Nat.le_refl _) (.cells #[.int .i64 0, .bool false, .int .i64 0] 61)
  rw [hb] at k1
  have k1' := (hbA.cell (p := ⟨b, o + k * 3 + 1, none⟩) hbl).trans k1
  have g0' := (hbA.cell (p := ⟨gl, k, none⟩) hgl).trans g0
  clear hX h hr hr' hb k0 k1 k2 hok hbA g0 hRd hL
  go_enter Try.func48, Try.ntmps48
  go_wp2
  exact ret_row (g := w.heap.size) (t := 61) (cs := #[.int .i64 0, .bool false, .int .i64 0]) Try.results48 rfl rfl (heap_alloc_new w _) Try.underlying61 rfl size_told ⟨rfl, (Below.refl _ _).alloc (Nat.le_refl _) _⟩
set_option maxRecDepth 100000 in
theorem rget_keep (h : Rf B w ρ X gl A n c C L) {k : Nat} (hr : C[k]? = some r) (p : Int) (hb : r.b = p) (hd : r.c = 0) {x : Int} {l : List Int} (hL : L k = x :: l) :
    Calls Try.prog 48 #[.pointer (some ⟨X, 0, none⟩), .int .i64 p, .int .i64 (k : Nat)] w fun e w' => e = .returned (.agg #[.int .i64 x, .bool true, .int .i64 0]) ∧ Below w.heap.size w w' := by
  have hn64 : n ≤ 9223372036854775807 := by have := h.most; omega
  have hkn : k < n := by have := (List.getElem?_eq_some_iff.1 hr).1; rw [h.tri.1] at this; exact this
  have hX := h.x.alloc (.cells #[.int .i64 0, .bool false, .int .i64 0] 61)
  have x0 := hX.cell (i := 0) rfl
  have x1 := hX.cell (i := 1) rfl
  obtain ⟨r', b, o, A1, m, c1, hr', hok, rfl, hbl, k0, k1, k2, g0, hRd, _⟩ := h.at_ hkn
  obtain rfl : r = r' := by rw [hr] at hr'; injection hr'
  have hm : m = l.length + 1 := by rw [← hRd.1, i64s_len, hL]; rfl
  rw [hL] at hRd
  obtain ⟨b1, o1, rfl, hb1, hcl⟩ := hRd.2.2.2 (by omega)
  have hx : w.cell? ⟨b1, o1, none⟩ = some (.int .i64 x) := hcl 0 _ rfl
  have hm64 := hRd.le
  have hgl : gl < w.heap.size := by obtain ⟨V, hV, _⟩ := h.rows; exact hV.lt
  have hbA := (Below.refl w.heap.size w).alloc (Nat.le_refl _) (.cells #[.int .i64 0, .bool false, .int .i64 0] 61)
  rw [hb] at k1
  rw [hd] at k2
  have k1' := (hbA.cell (p := ⟨b, o + k * 3 + 1, none⟩) hbl).trans k1
  have k2' := (hbA.cell (p := ⟨b, o + k * 3 + 2, none⟩) hbl).trans k2
  have g0' := (hbA.cell (p := ⟨gl, k, none⟩) hgl).trans g0
  have hx' := (hbA.cell (p := ⟨b1, o1, none⟩) hb1).trans hx
  have hpos : 0 < m := by omega
  have hm0 : ((m : Int) == 0) = false := by simp; omega
  clear hX h hr hr' hb k0 k1 k2 hok hbA g0 hRd hL hd hcl hx hm
  go_enter Try.func48, Try.ntmps48
  go_wp2
  exact ret_row (g := w.heap.size) (t := 61) (cs := #[.int .i64 x, .bool true, .int .i64 0]) Try.results48 rfl rfl (heap_alloc_new w _) Try.underlying61 rfl size_told ⟨rfl, (Below.refl _ _).alloc (Nat.le_refl _) _⟩
/-- The rest of a slice. -/
theorem Rd.rest {w : World} {b o m c1 : Nat} {x : Int} {l : List Int} (h : Rd w (some ⟨b, o, none⟩) m c1 (i64s (x :: l))) : Rd w (some ⟨b, o + 1, none⟩) (m - 1) (c1 - 1) (i64s l) := by
  have h1 := h.1
  have h2 := h.2.1
  have h3 := h.2.2.1
  rw [i64s_len] at h1
  simp only [List.length_cons] at h1
  refine ⟨by rw [i64s_len]; omega, by omega, by omega, fun hp => ?_⟩
  obtain ⟨b', o', hA, hb, hc⟩ := h.2.2.2 (by omega)
  injection hA with hA
  injection hA with e1 e2
  subst e1
  subst e2
  refine ⟨b, o + 1, rfl, hb, fun j u hu => ?_⟩
  rw [show o + 1 + j = o + (j + 1) by omega]
  exact hc (j + 1) u (by simpa [i64s] using hu)
set_option maxRecDepth 100000 in
set_option maxHeartbeats 3200000 in
theorem rget_cut (h : Rf B w ρ X gl A n c C L) {k : Nat} (hr : C[k]? = some r) (p : Int) (hb : r.b = p) (hd : 0 < r.c) {x : Int} {l : List Int} (hL : L k = x :: l) :
    Calls Try.prog 48 #[.pointer (some ⟨X, 0, none⟩), .int .i64 p, .int .i64 (k : Nat)] w (Rft B w ρ X gl A n c C (up L k l) (.agg #[.int .i64 x, .bool true, .int .i64 0])) := by
  have hn64 : n ≤ 9223372036854775807 := by have := h.most; omega
  have hkn : k < n := by have := (List.getElem?_eq_some_iff.1 hr).1; rw [h.tri.1] at this; exact this
  have HR := Lib.hid h
  have hX := h.x.alloc (.cells #[.int .i64 0, .bool false, .int .i64 0] 61)
  have x0 := hX.cell (i := 0) rfl
  have x1 := hX.cell (i := 1) rfl
  obtain ⟨V, hV, hVl, hVr⟩ := h.rows
  obtain ⟨r', b, o, A1, m, c1, hr', hok, rfl, hbl, k0, k1, k2, g0, hRd, hdat⟩ := h.at_ hkn
  obtain rfl : r = r' := by rw [hr] at hr'; injection hr'
  have hm : m = l.length + 1 := by rw [← hRd.1, i64s_len, hL]; rfl
  rw [hL] at hRd
  obtain ⟨b1, o1, rfl, hb1, hcl⟩ := hRd.2.2.2 (by omega)
  have hd1 := hdat (by omega) b1 o1 rfl
  have hx : w.cell? ⟨b1, o1, none⟩ = some (.int .i64 x) := hcl 0 _ rfl
  have hmc := hRd.2.1
  have hc64 := hRd.2.2.1
  have hgl := hV.lt
  have hbA := (Below.refl w.heap.size w).alloc (Nat.le_refl _) (.cells #[.int .i64 0, .bool false, .int .i64 0] 61)
  obtain ⟨d, hdd⟩ : ∃ d, d = r.c := ⟨_, rfl⟩
  rw [hb] at k1
  rw [← hdd] at k2 hd
  have k1' := (hbA.cell (p := ⟨b, o + k * 3 + 1, none⟩) hbl).trans k1
  have k2' := (hbA.cell (p := ⟨b, o + k * 3 + 2, none⟩) hbl).trans k2
  have g0' := (hbA.cell (p := ⟨gl, k, none⟩) hgl).trans g0
  have hx' := (hbA.cell (p := ⟨b1, o1, none⟩) hb1).trans hx
  have f0 := (hV.alloc (.cells #[.int .i64 0, .bool false, .int .i64 0] 61)).frozen k
  have hpos : 0 < m := by omega
  have hm1 : 1 ≤ m := by omega
  have hm0 : ((m : Int) == 0) = false := by simp; omega
  have HV := Lib.hid hV
  have HVL := Lib.hid hVl
  have HRD := Lib.hid (Rd.rest hRd)
  have HD1 := Lib.hid hd1
  have HML := Lib.hid hm
  have hxg : X ≠ gl := fun e => by have := h.lx; rw [e, h.ll] at this; cases this
  clear hX hr hr' hb k0 k1 k2 hok g0 hRd hL hcl hx hdd hV hVl hVr hdat hd1 h hm
  -- behind the store
  have hend : ∀ (A' : Option Addr) (c' : Nat) (W : World), Hid (Blk W gl 64 (V.set k (.slice A' (m - 1) c'))) → Hid (Keep (fun i => i = gl) w W) → Hid ((A' = some ⟨b1, o1 + 1, none⟩ ∧ c' = c1 - 1) ∨ (m - 1 = 0 ∧ c' ≤ 9223372036854775807)) → Rft B w ρ X gl (some ⟨b, o, none⟩) n c C (up L k l) (.agg #[.int .i64 x, .bool true, .int .i64 0]) (.returned (.agg #[.int .i64 x, .bool true, .int .i64 0])) W := by
    intro A' c' W hB hK hA'
    have hlt : ∀ i, w.heap.size ≤ i → ρ i = .out := fun i hi => Classical.byContradiction fun hn => by have := (HR.out.bd i hn).2; omega
    have hne1 : ¬ b1 = gl := fun e => by have := HR.out.ll; rw [← e, HD1.out] at this; cases this
    have h5 := HR.out.turn (k := k) (l := l) (ρ' := ρ) HV.out HVL.out hK.out (fun _ _ => rfl) (fun i hi => .inl (hlt i hi)) hB.out (by rw [List.length_set]; exact HVL.out) (fun j hj => by rw [List.getElem?_set, if_neg (fun e => hj e.symm)]) (fun v hv => by
      rw [List.getElem?_set, if_pos rfl, if_pos (by rw [HVL.out]; exact hkn)] at hv
      injection hv with hv
      subst hv
      rcases hA'.out with ⟨rfl, rfl⟩ | ⟨h0, hc'⟩
      · refine ⟨_, _, _, rfl, hK.out.rd HRD.out fun _ b2 o2 e => ?_, fun _ b2 o2 e => ?_⟩
        · injection e with e
          injection e with e _
          rw [← e]
          exact hne1
        · injection e with e
          injection e with e _
          rw [← e]
          exact HD1.out
      · have hl0 : l = [] := List.eq_nil_of_length_eq_zero (by have := HML.out; omega)
        subst hl0
        rw [h0]
        exact ⟨A', 0, c', rfl, Rd.empty _ _ hc', fun hp => absurd hp (by omega)⟩)
    exact ⟨rfl, ρ, h5.1, h5.2⟩
  have HE := Lib.hid hend
  clear hend
  by_cases hc1 : c1 = 1
  · have hm10 := Lib.hid (show m - 1 = 0 by omega)
    go_enter Try.func48, Try.ntmps48
    go_wp2_with fail
    go_region
    go_wp2_with fail
    have hsz : (w.setCell ⟨gl, k, none⟩ (.slice (some ⟨b1, o1, none⟩) (m - 1) 0)).heap.size = w.heap.size := by simp [World.setCell]
    have hbx := Blk.new (w.setCell ⟨gl, k, none⟩ (.slice (some ⟨b1, o1, none⟩) (m - 1) 0)) 61 [.int .i64 x, .bool true, .int .i64 0]
    rw [hsz] at hbx
    refine ret_row (fr := (0, 0)) (g := w.heap.size) (t := 61) (cs := #[.int .i64 x, .bool true, .int .i64 0]) Try.results48 rfl rfl hbx Try.underlying61 rfl size_told ?_
    exact HE.out (some ⟨b1, o1, none⟩) 0 _ (Lib.hid ((HV.out.set k _).alloc _)) (Lib.hid (((Keep.set (F := fun i => i = gl) w k (.slice (some ⟨b1, o1, none⟩) (m - 1) 0) rfl).trans (Keep.of_below (F := fun i => i = gl) ((Below.refl _ _).alloc (Nat.le_refl _) _)) (fun _ hi => .inl hi)).drew)) (Lib.hid (.inr ⟨hm10.out, by omega⟩))
  · skip
    go_enter Try.func48, Try.ntmps48
    go_wp2_with fail
    go_region
    go_wp2_with fail
    have hsz : (w.setCell ⟨gl, k, none⟩ (.slice (some ⟨b1, o1 + 1, none⟩) (m - 1) (c1 - 1))).heap.size = w.heap.size := by simp [World.setCell]
    have hbx := Blk.new (w.setCell ⟨gl, k, none⟩ (.slice (some ⟨b1, o1 + 1, none⟩) (m - 1) (c1 - 1))) 61 [.int .i64 x, .bool true, .int .i64 0]
    rw [hsz] at hbx
    refine ret_row (fr := (0, 0)) (g := w.heap.size) (t := 61) (cs := #[.int .i64 x, .bool true, .int .i64 0]) Try.results48 rfl rfl hbx Try.underlying61 rfl size_told ?_
    exact HE.out (some ⟨b1, o1 + 1, none⟩) (c1 - 1) _ (Lib.hid ((HV.out.set k _).alloc _)) (Lib.hid (((Keep.set (F := fun i => i = gl) w k (.slice (some ⟨b1, o1 + 1, none⟩) (m - 1) (c1 - 1)) rfl).trans (Keep.of_below (F := fun i => i = gl) ((Below.refl _ _).alloc (Nat.le_refl _) _)) (fun _ hi => .inl hi)).drew)) (Lib.hid (.inl ⟨rfl, rfl⟩))
end
end Go.Proofs.Ytegnehdfedfphaa.PrtV
