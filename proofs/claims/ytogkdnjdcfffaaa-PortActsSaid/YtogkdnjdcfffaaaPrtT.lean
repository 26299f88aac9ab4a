/- Send by the document, where it is taken or lost. Conditions: its channels lie as the facts say; numbers of 64 bits. -/
import Derived.Test.YtogkdnjdcfffaaaPrtS
import Derived.Deep.RegionLaw
namespace Go.Proofs.Ytogkdnjdcfffaaa.PrtT
open Go.RowKit Go.Proofs.Ytogkdnjdcfffaaa.Kit Go.Proofs.Ytogkdnjdcfffaaa.Byt Go.Proofs.Ytogkdnjdcfffaaa.Mem Go.Proofs.Ytogkdnjdcfffaaa.TabI Go.Proofs.Ytogkdnjdcfffaaa.PrtM Go.Proofs.Ytogkdnjdcfffaaa.PrtA Go.Proofs.Ytogkdnjdcfffaaa.PrtB Go.Proofs.Ytogkdnjdcfffaaa.PrtC Go.Proofs.Ytogkdnjdcfffaaa.PrtD Go.Proofs.Ytogkdnjdcfffaaa.PrtR Go.Proofs.Ytogkdnjdcfffaaa.PrtS
open Go.Proofs.Ytogkdnjdcfffaaa.TabA (Tri Tris Ta)
open Go.Proofs.Ytogkdnjdcfffaaa.TabE (ret_row)

section
variable {B X gl n c : Nat} {w : World} {ρ : Nat → Lab} {A : Option Addr} {C : List Tri} {L : Nat → List Int} {r : Tri}
set_option maxHeartbeats 3200000 in
theorem rsend_full (h : Rf B w ρ X gl A n c C L) {k : Nat} (hr : C[k]? = some r) (p y : Int) (ha : r.a = p) (h0 : 0 ≤ y) (h1 : y ≤ 65535) (hd : r.c ≠ 0) (hf : ((L k).length : Int) = r.c) :
    Calls Try.prog 15 #[.pointer (some ⟨X, 0, none⟩), .int .i64 p, .int .i64 (k : Nat), .int .i64 y] w fun e w' => e = .returned (.agg #[.int .i64 0, .bool false, .int .i64 0]) ∧ Below w.heap.size w w' := by
  have hn64 : n ≤ 9223372036854775807 := by have := h.most; omega
  have hkn : k < n := by have := (List.getElem?_eq_some_iff.1 hr).1; rw [h.tri.1] at this; exact this
  have hX := h.x.alloc (.cells #[.int .i64 0, .bool false, .int .i64 0] 42)
  have x0 := hX.cell (i := 0) rfl
  have x1 := hX.cell (i := 1) rfl
  obtain ⟨r', b, o, A1, m, c1, hr', hok, rfl, hbl, k0, k1, k2, g0, hRd, _⟩ := h.at_ hkn
  obtain rfl : r = r' := by rw [hr] at hr'; injection hr'
  have hm : (m : Int) = r.c := by rw [← hf, ← hRd.1, i64s_len]
  have hgl : gl < w.heap.size := by obtain ⟨V, hV, _⟩ := h.rows; exact hV.lt
  have hbA := (Below.refl w.heap.size w).alloc (Nat.le_refl _) (.cells #[.int .i64 0, .bool false, .int .i64 0] 42)
  rw [ha] at k0
  rw [← hm] at k2
  have k0' := (hbA.cell (p := ⟨b, o + k * 3, none⟩) hbl).trans k0
  have k2' := (hbA.cell (p := ⟨b, o + k * 3 + 2, none⟩) hbl).trans k2
  have g0' := (hbA.cell (p := ⟨gl, k, none⟩) hgl).trans g0
  have hm0 : ((m : Int) == 0) = false := by simp; omega
  clear hX h hr hr' ha k0 k1 k2 hok hbA g0 hRd hf hm hd
  go_enter Try.func15, Try.ntmps15
  go_wp2_with fail
  go_quiet (fail)
  go_wp2
  have hbx : Blk ((w.alloc (.cells #[.int .i64 0, .bool false, .int .i64 0] 42)).drewN nq) w.heap.size 42 [.int .i64 0, .bool false, .int .i64 0] := Blk.new w _ _
  refine ret_row (g := w.heap.size) (t := 42) (cs := #[.int .i64 0, .bool false, .int .i64 0]) Try.results15 rfl rfl (((hbx.set 0 (.int .i64 0)).set 1 (.bool false)).set 2 (.int .i64 0)) Try.underlying42 rfl size_told ⟨rfl, ?_⟩
  exact (((bel_drewN ((Below.refl _ _).alloc (Nat.le_refl _) _) _).setCell (by simp) _).setCell (by simp) _).setCell (by simp) _
theorem own_sh {W : World} {base : Nat} {e : TypeId} {size : Nat} {v : Value} {k : Nat} {xs : List Value} (h : W.ownsRow base e size v k xs) : ∃ A c, v = .slice A k c := by
  rcases h.2 with ⟨rfl, h0⟩ | ⟨g, cap, _, rfl, _⟩
  · exact ⟨none, 0, by rw [h0]⟩
  · exact ⟨_, _, rfl⟩
/-- Ahead of the list's copy: what it was, or nothing, stands in its place. -/
structure Mid (w : World) (ρ : Nat → Lab) (X gl n k : Nat) (S0 : Value) (V : List Value) (W : World) (V' : List Value) (A1 : Option Addr) (m c1 : Nat) (l0 : List Int) : Prop where
  old : Blk w gl 52 V
  bl : Blk W gl 52 V'
  len : V.length = n
  len' : V'.length = n
  rest : ∀ j, j ≠ k → V'[j]? = V[j]?
  x : Blk W X 50 [S0, .slice (some ⟨gl, 0, none⟩) n n]
  bx : Blk W w.heap.size 42 [.int .i64 0, .bool false, .int .i64 0]
  ck : V'[k]? = some (.slice A1 m c1)
  rd : Rd W A1 m c1 (i64s l0)
  keep : Keep (fun i => i = gl) w W
  sz : W.heap.size = w.heap.size + 1
  xg : X ≠ gl
  gw : gl < w.heap.size
  xw : X < w.heap.size
section
variable {W W2 W3 : World} {A1 A2 A3 S0v : Option Addr} {k m c1 n2 c2 n3 c3 : Nat} {V V' : List Value} {l0 : List Int} {S0 : Value} {y : Int}
/-- What stands in the places that are read, in a world that has more. -/
theorem Mid.more (h : Mid w ρ X gl n k S0 V W V' A1 m c1 l0) (hb : Below W.heap.size W W2) : W2.cell? ⟨X, 1, none⟩ = some (.slice (some ⟨gl, 0, none⟩) n n) ∧ W2.cell? ⟨gl, k, none⟩ = some (.slice A1 m c1) ∧ W2.frozen? ⟨gl, k, none⟩ = false ∧ Blk W2 w.heap.size 42 [.int .i64 0, .bool false, .int .i64 0] :=
  ⟨(h.x.below hb).cell rfl, (h.bl.below hb).cell h.ck, (h.bl.below hb).frozen _, h.bx.below hb⟩
/-- Behind the store. -/
theorem Mid.done (h : Mid w ρ X gl n k S0 V W V' A1 m c1 l0) (R : Rf B w ρ X gl A n c C L) (hb : Below W.heap.size W W3) (ho : W3.ownsRow W.heap.size 3 1 (.slice A3 n3 c3) n3 (i64s l0 ++ i64s [y])) :
    Rft B w ρ X gl A n c C (up L k (l0 ++ [y])) (.agg #[.int .i64 0, .bool true, .int .i64 0]) (.returned (.agg #[.int .i64 0, .bool true, .int .i64 0])) ((((W3.setCell ⟨gl, k, none⟩ (.slice A3 n3 c3)).setCell ⟨w.heap.size, 0, none⟩ (.int .i64 0)).setCell ⟨w.heap.size, 1, none⟩ (.bool true)).setCell ⟨w.heap.size, 2, none⟩ (.int .i64 0)) := by
  have hsz := h.sz
  have hs3 := hb.size
  have hgw := h.gw
  obtain ⟨ρ', hρ'⟩ : ∃ ρ' : Nat → Lab, ρ' = fun i => if W.heap.size ≤ i ∧ (Value.slice A3 n3 c3).ownBlock = some i then .rdata else ρ i := ⟨_, rfl⟩
  have hk3 : Keep (fun i => i = gl) w W3 := h.keep.trans (Keep.of_below (F := fun i => i = gl) hb) fun _ hi => .inl hi
  have hk4 : Keep (fun i => i = gl) w (W3.setCell ⟨gl, k, none⟩ (.slice A3 n3 c3)) := hk3.trans (Keep.set (F := fun i => i = gl) _ _ _ rfl) fun _ hi => .inl hi
  have hk5 : Keep (fun i => i = gl) w ((((W3.setCell ⟨gl, k, none⟩ (.slice A3 n3 c3)).setCell ⟨w.heap.size, 0, none⟩ (.int .i64 0)).setCell ⟨w.heap.size, 1, none⟩ (.bool true)).setCell ⟨w.heap.size, 2, none⟩ (.int .i64 0)) :=
    ((hk4.trans (Keep.set (F := fun i => i = w.heap.size) _ _ _ rfl) fun i hi => .inr (by omega)).trans (Keep.set (F := fun i => i = w.heap.size) _ _ _ rfl) fun i hi => .inr (by omega)).trans (Keep.set (F := fun i => i = w.heap.size) _ _ _ rfl) fun i hi => .inr (by omega)
  have hb5 : Keep (fun i => i = gl ∨ i = w.heap.size) W3 ((((W3.setCell ⟨gl, k, none⟩ (.slice A3 n3 c3)).setCell ⟨w.heap.size, 0, none⟩ (.int .i64 0)).setCell ⟨w.heap.size, 1, none⟩ (.bool true)).setCell ⟨w.heap.size, 2, none⟩ (.int .i64 0)) :=
    (((Keep.set (F := fun i => i = gl ∨ i = w.heap.size) _ _ _ (.inl rfl)).trans (Keep.set (F := fun i => i = gl ∨ i = w.heap.size) _ _ _ (.inr rfl)) fun _ hi => .inl hi).trans (Keep.set (F := fun i => i = gl ∨ i = w.heap.size) _ _ _ (.inr rfl)) fun _ hi => .inl hi).trans (Keep.set (F := fun i => i = gl ∨ i = w.heap.size) _ _ _ (.inr rfl)) fun _ hi => .inl hi
  have hblk : Blk ((((W3.setCell ⟨gl, k, none⟩ (.slice A3 n3 c3)).setCell ⟨w.heap.size, 0, none⟩ (.int .i64 0)).setCell ⟨w.heap.size, 1, none⟩ (.bool true)).setCell ⟨w.heap.size, 2, none⟩ (.int .i64 0)) gl 52 (V'.set k (.slice A3 n3 c3)) :=
    ((((h.bl.below hb).set k _).far (by simp; omega) _).far (by simp; omega) _).far (by simp; omega) _
  have hlt : ∀ i, i < w.heap.size → ρ' i = ρ i := fun i hi => by rw [hρ']; exact if_neg (by omega)
  have hout : ∀ i, w.heap.size ≤ i → ρ i = .out := fun i hi => Classical.byContradiction fun hn => by have := (R.bd i hn).2; omega
  have h5 := R.turn (k := k) (l := l0 ++ [y]) (ρ' := ρ') h.old h.len hk5 hlt (fun i hi => by
      rw [hρ']
      by_cases hx : W.heap.size ≤ i ∧ (Value.slice A3 n3 c3).ownBlock = some i
      · refine .inr ⟨if_pos hx, ?_⟩
        have := (ho.lt i hx.2).2
        simpa [World.setCell] using this
      · exact .inl ((if_neg hx).trans (hout i hi))) hblk (by rw [List.length_set]; exact h.len') (fun j hj => by rw [List.getElem?_set, if_neg (fun e => hj e.symm)]; exact h.rest j hj) (fun v hv => by
      have hkl : k < V'.length := (List.getElem?_eq_some_iff.1 h.ck).1
      rw [List.getElem?_set, if_pos rfl, if_pos hkl] at hv
      injection hv with hv
      subst hv
      refine ⟨A3, n3, c3, rfl, ?_, fun _ b o hA => ?_⟩
      · rw [← i64s_app]
        refine hb5.rd (Rd.own ho) fun _ b o hA hf => ?_
        have := (ho.lt b (by rw [hA]; rfl)).1
        rcases hf with rfl | rfl <;> omega
      · have := (ho.lt b (by rw [hA]; rfl)).1
        rw [hρ']
        exact if_pos ⟨this, by rw [hA]; rfl⟩)
  exact ⟨rfl, ρ', h5.1, h5.2⟩
end
end
end Go.Proofs.Ytogkdnjdcfffaaa.PrtT
