/- The reference's ports: a message sent. Conditions: all lies as the facts say. -/
import Derived.Test.YtegnehdfedfphaaJ10
import Derived.Test.YtegnehdfedfphaaVmrC
import Derived.Test.YtegnehdfedfphaaJ04
import Derived.Test.YtegnehdfedfphaaJ07
namespace Go.Proofs.Ytegnehdfedfphaa.VmrH
open Go.RowKit Go.Proofs.Ytegnehdfedfphaa.Kit Go.Proofs.Ytegnehdfedfphaa.Byt Go.Proofs.Ytegnehdfedfphaa.Mem Go.Proofs.Ytegnehdfedfphaa.OpsM Go.Proofs.Ytegnehdfedfphaa.VmcM Go.Proofs.Ytegnehdfedfphaa.VmrA Go.Proofs.Ytegnehdfedfphaa.VmrB Go.Proofs.Ytegnehdfedfphaa.VmrE Go.Proofs.Ytegnehdfedfphaa.VmrF Go.Proofs.Ytegnehdfedfphaa.VmrP Go.Proofs.Ytegnehdfedfphaa.VmrG Go.Proofs.Ytegnehdfedfphaa.PrtM
open Go.Proofs.Ytegnehdfedfphaa.ImgA (Im)
open Go.Proofs.Ytegnehdfedfphaa.TabA (Tri)
open Go.Proofs.Ytegnehdfedfphaa.TabI (i64s i64s_len i64s_one)
open Go.Proofs.Ytegnehdfedfphaa.PrtO (i64_at)
open Go.Proofs.Ytegnehdfedfphaa.PrtA (Lab Stp Bd)
open Go.Proofs.Ytegnehdfedfphaa.PrtR (Ref Rf Rft)
open Go.Proofs.Ytegnehdfedfphaa.PrtX (rsend_any rget_any)
open Go.Proofs.Ytegnehdfedfphaa.VmrC (drawn)

theorem info_sent : (Try.prog.info? 78).map (fun i => (i.zero, i.size, i.bytes)) = some (some (.agg #[.int .i64 0, .int .i64 0]), 2, 16) := by kernel_rfl
section
variable {B N m d X gl nc c' ob : Nat} {D A' : Option Addr} {i : Im} {C : List Tri} {z u : Z} {L L' : Nat → List Int} {sn : List (Int × Int)} {cf : Bool} {w w' : World} {ρ ρ' : Nat → Lab} {e : Ending} {r v : Value} {a : Int}
/-- What ports leaves. -/
def Rp (B : Nat) (w : World) (ρ : Nat → Lab) (N : Nat) (i : Im) (D : Option Addr) (m d : Nat) (X gl : Nat) (A' : Option Addr) (nc c' : Nat) (C : List Tri) (ob : Nat) (z : Z) (L : Nat → List Int) (sn : List (Int × Int)) (cf : Bool) (x : Int) (e : Ending) (w' : World) : Prop :=
  e = .returned (.int .i64 x) ∧ ∃ ρ', Rw B w' ρ' N i D m d X gl A' nc c' C ob z L sn cf ∧ Stp Ra w ρ w' ρ'
/-- One message more is told. -/
theorem Ob.more {n c : Nat} {A A3 : Option Addr} {n3 c3 : Nat} {p : Int × Int} {w3 : World} {o : Obj} (h : Ob B w ρ ob A n c sn cf) (hbd : Bd B w ρ) (_hB : B ≤ w.heap.size) (hn : n + 1 ≤ 1000) (hn3 : n3 = n + 1) (ho : w3.ownsRow B 78 2 (.slice A3 n3 c3) n3 (sn.flatMap pcs ++ pcs p))
    (hg : (w.alloc o).grownBy w3 (Value.slice A n c).ownBlock) (hat : (Value.slice A3 n3 c3).ownBlock = (Value.slice A n c).ownBlock ∨ (Value.slice A3 n3 c3).ownBlock = some (w.alloc o).heap.size) :
    ∃ ρ', Ob B (w3.setCell ⟨ob, 0, none⟩ (.slice A3 n3 c3)) ρ' ob A3 n3 c3 (sn ++ [p]) cf ∧ Stp (fun l => l = .own 12 ∨ l = .own 13) w ρ (w3.setCell ⟨ob, 0, none⟩ (.slice A3 n3 c3)) ρ' := by
  subst hn3
  have k1 : Keep (fun j => ρ j = .own 13) w w3 :=
    (Keep.of_below (F := fun j => ρ j = .own 13) ((Below.refl _ _).alloc (Nat.le_refl _) o)).trans (Keep.grown (F := fun j => (Value.slice A n c).ownBlock = some j) hg fun _ h => h) fun j hj => .inl (h.lr j hj)
  have hob13 : ¬ ρ ob = .own 13 := fun e => by rw [h.lo] at e; injection e with e; omega
  have hobl := h.blk.lt
  have hs3 : w.heap.size + 1 ≤ w3.heap.size := by have := hg.size; rw [World.size_alloc] at this; omega
  have hrow : ∀ g, (Value.slice A3 (n + 1) c3).ownBlock = some g → (Value.slice A n c).ownBlock = some g ∨ g = w.heap.size + 1 := fun g hg' => by
    rcases hat with e | e
    · rw [e] at hg'; exact .inl hg'
    · rw [e] at hg'
      injection hg' with hg'
      rw [World.size_alloc] at hg'
      exact .inr hg'.symm
  have hnew : ∀ j, w.heap.size ≤ j → ρ j = .out := fun j hj => Classical.byContradiction fun hq => by have := (hbd j hq).2; omega
  have kk : Keep (fun j => ρ j = .own 12 ∨ ρ j = .own 13) w (w3.setCell ⟨ob, 0, none⟩ (.slice A3 (n + 1) c3)) :=
    (k1.mono fun _ _ h => .inr h).trans (Keep.set (F := fun j => j = ob) w3 0 _ rfl) fun j hj => .inl (by rw [hj]; exact .inl h.lo)
  obtain ⟨ρ', hρ⟩ : ∃ ρ' : Nat → Lab, ρ' = fun j => if (Value.slice A3 (n + 1) c3).ownBlock = some j then .own 13 else ρ j := ⟨_, rfl⟩
  have old : ∀ j, j < w.heap.size → ρ' j = ρ j := fun j hj => by
    rw [hρ]
    show (if _ then _ else _) = _
    split
    · rename_i hx
      rcases hrow j hx with h1 | h1
      · exact (h.lr j h1).symm
      · omega
    · rfl
  refine ⟨ρ', ⟨(k1.blk h.blk hob13).set 0 _, by rw [old ob hobl]; exact h.lo, ?_, fun g hg' => by rw [hρ]; exact if_pos hg', hn⟩, ⟨kk, old, fun j hj => ?_⟩⟩
  · rw [List.flatMap_append]
    have h2 := ho
    rw [show pcs p = List.flatMap pcs [p] from by simp] at h2
    refine (Keep.set (F := fun j => j = ob) w3 0 _ rfl).own h2 fun g hg' e => ?_
    rcases hrow g hg' with h1 | h1
    · exact hob13 (e ▸ h.lr g h1)
    · omega
  · have hj' : ρ' j = if (Value.slice A3 (n + 1) c3).ownBlock = some j then .own 13 else ρ j := by rw [hρ]
    rw [hj']
    by_cases hx : (Value.slice A3 (n + 1) c3).ownBlock = some j
    · right
      rw [if_pos hx]
      exact ⟨.inr rfl, by have := (ho.lt j hx).2; simpa using this⟩
    · left
      rw [if_neg hx]
      exact hnew j hj
theorem Rw.told (h : Rw B w ρ N i D m d X gl A' nc c' C ob z L sn cf) {A3 : Option Addr} {n3 c3 : Nat} {sn' : List (Int × Int)} {cf' : Bool} (hs : Stp (fun l => l = .own 12 ∨ l = .own 13) w ρ w' ρ') (ho : Ob B w' ρ' ob A3 n3 c3 sn' cf') : Rw B w' ρ' N i D m d X gl A' nc c' C ob z L sn' cf' ∧ Stp Ra w ρ w' ρ' := by
  obtain ⟨⟨A, n, c, h1⟩, h2, ⟨A2, n2, c2, h3⟩, h4⟩ := h
  have q1 : ∀ k, k = 10 ∨ k = 11 → ¬ ((fun l : Lab => l = .own 12 ∨ l = .own 13) (.own k)) := fun k hk => by rintro (e | e) <;> (injection e with e; omega)
  exact ⟨⟨⟨A, n, c, h1.carry hs (by rintro (e | e) <;> cases e) (q1 10 (.inl rfl)) (q1 11 (.inr rfl))⟩, h2.carry hs (by rintro (e | e) <;> cases e) (by rintro (e | e) <;> cases e) (by rintro (e | e) <;> cases e), ⟨A3, n3, c3, ho⟩, h4⟩, hs.mono fun l hl => .inr (.inr hl)⟩
set_option maxRecDepth 100000 in
set_option maxHeartbeats 3200000 in
theorem p14_any (h : Rw B w ρ N i D m d X gl A' nc c' C ob z L sn cf) (hn0 : 0 < z.st.length) (hsn : sn.length ≤ 900) (_ha : 0 ≤ a ∧ a ≤ 255) :
    Calls Try.prog 32 #[.pointer (some ⟨N, 0, none⟩), .agg #[.int .i64 14, .int .i64 a], .pointer (some ⟨X, 0, none⟩), .pointer (some ⟨ob, 0, none⟩)] w
      (Rp B w ρ N i D m d X gl A' nc c' C ob (if (snds C L i.p a (top z.st)).1.2 = 0 then { z with st := z.st.dropLast } else z) (snds C L i.p a (top z.st)).2 (if (snds C L i.p a (top z.st)).1.2 = 0 then sn ++ [(a, top z.st)] else sn) cf (if (snds C L i.p a (top z.st)).1.2 = 0 then 0 else 15)) := by
  have hb1 : Below w.heap.size w (w.alloc (.cells #[.int .i64 14, .int .i64 a] 106)) := (Below.refl _ _).alloc (Nat.le_refl _) _
  obtain ⟨x0, hx0⟩ : ∃ x0, x0 = w.heap.size := ⟨_, rfl⟩
  obtain ⟨w1, hw1⟩ : ∃ w1, w1 = w.alloc (.cells #[.int .i64 14, .int .i64 a] 106) := ⟨_, rfl⟩
  rw [← hw1] at hb1
  have HX1 := Lib.hid (show Blk w1 x0 106 [.int .i64 14, .int .i64 a] from by rw [hw1, hx0]; exact Blk.new w _ _)
  have H1 := Lib.hid (h.below hb1)
  have S1 := Lib.hid (show Stp Ra w ρ w1 ρ from Stp.of_below h.bd hb1)
  have LX := Lib.hid (show ρ x0 = .out from Classical.byContradiction fun hq => by have := (h.bd x0 hq).2; omega)
  obtain ⟨⟨A, n, c, hrm⟩, _, _, _⟩ := h.below hb1
  have hln := hrm.len
  obtain ⟨q, rfl⟩ : ∃ q, n = q + 1 := ⟨n - 1, by omega⟩
  obtain ⟨x, bx, ox, hx, rfl, _, gx⟩ := i64_at hrm.st (k := q) (by omega)
  have hxt : top z.st = x := top_last hln hx
  have k9 := hrm.blk.cell (i := 9) (v := .slice (some ⟨bx, ox, none⟩) (q + 1) c) rfl
  have hq8 := hrm.n8
  have hc1 := hrm.st.2.1
  have hc2 := hrm.st.2.2.1
  have hs1 : ((q + 1 : Nat) : Int) - 1 = (q : Nat) := by omega
  rw [hxt]
  have HXT := Lib.hid hxt
  clear hb1 h hrm hln hx hxt
  obtain ⟨v, hv⟩ : ∃ v, v = snds C L i.p a x := ⟨_, rfl⟩
  have HS := Lib.hid (fun (W : World) (σ : Nat → Lab) (hh : Rw B W σ N i D m d X gl A' nc c' C ob z L sn cf) => rsend_any hh.rf hh.ft.fits i.p a x)
  have HFT := Lib.hid (fun (W : World) (σ : Nat → Lab) (hh : Rw B W σ N i D m d X gl A' nc c' C ob z L sn cf) => Ft.snds (p := i.p) (k := a) (y := x) hh.ft)
  rw [← hv] at HS HFT ⊢
  clear hv
  obtain ⟨⟨vb, ve⟩, L2⟩ := v
  dsimp only at HS HFT ⊢
  have kf := fun (W : World) => Fld.run_field_one (P := Try.prog) (T := 61) (xs := [.int .i64 0, .bool vb, .int .i64 ve]) (k := 2) (v := .int .i64 ve) Try.underlying61 rfl ⟨_, Try.underlying3⟩ rfl W
  by_cases hve : ve = 0
  · have e0 : (ve != 0) = false := by simpa using hve
    rw [if_pos hve, if_pos hve, if_pos hve]
    clear hve
    go_enter Try.func32, Try.ntmps32
    go_upto_region 1 with (fail)
    rw [← hw1, ← hx0]
    clear hw1 hx0
    have b0 := HX1.out.cell (i := 0) rfl
    have b1 := HX1.out.cell (i := 1) rfl
    go_upto_region 2 with (fail)
    go_quiet (fail)
    go_upto_region 3 with (fail)
    obtain ⟨w2, hw2⟩ : ∃ w2, w2 = w1.drewN nq := ⟨_, rfl⟩
    have hb2 : Below w1.heap.size w1 w2 := by rw [hw2]; exact drawn (Below.refl _ _) nq
    rw [← hw2]
    have H2 := Lib.hid (H1.out.below hb2)
    have S2 := Lib.hid (S1.out.trans (Stp.of_below H1.out.bd hb2))
    have HX2 := Lib.hid (HX1.out.below hb2)
    clear hw2 hb2 k9 gx b0 b1 H1 S1 HX1
    have b1 := HX2.out.cell (i := 1) rfl
    have k0 : w2.cell? ⟨N, 0, none⟩ = some (.int .i64 i.p) := by
      obtain ⟨⟨A, n, c, hrm⟩, _, _, _⟩ := H2.out
      exact hrm.blk.cell (i := 0) (v := .int .i64 i.p) rfl
    go_still_tail 9, (by kernel_rfl)
    change wpList _ _ _ _ _ (World.drew _)
    have H2 := Lib.hid (show Rw B w2.drew ρ N i D m d X gl A' nc c' C ob z L sn cf from H2.out.below ⟨rfl, rfl, rfl, Nat.le_refl _, fun _ _ => rfl⟩)
    have S2 := Lib.hid (show Stp Ra w ρ w2.drew ρ from S2.out.drew)
    have HX2 := Lib.hid (show Blk w2.drew x0 106 [.int .i64 14, .int .i64 a] from HX2.out)
    clear k0 b1
    go_wp2_with fail
    refine (HS.out _ _ H2.out).mono ?_
    intro e w3 hgo
    obtain ⟨rfl, ρ3, r3, s3⟩ := H2.out.chan (HFT.out _ _ H2.out) hgo
    have H3 := Lib.hid r3
    have S3 := Lib.hid (S2.out.trans s3)
    have HX3 := Lib.hid (s3.keep.blk HX2.out (by rw [LX.out]; exact ra_out))
    have LX3 := Lib.hid (show ρ3 x0 = .out from by rw [s3.old x0 HX2.out.lt]; exact LX.out)
    clear hgo r3 s3 H2 S2 HX2 HS HFT
    go_wp2_with fail
    obtain ⟨⟨A3, n3, c3, hrm⟩, _, _, _⟩ := H3.out
    refine (pop_rm hrm (by have := hrm.len; omega)).mono ?_
    intro e w4 hgo
    obtain ⟨rfl, r4, s4⟩ := H3.out.mach hgo
    have H4 := Lib.hid r4
    have S4 := Lib.hid (S3.out.trans s4)
    have HX4 := Lib.hid (s4.keep.blk HX3.out (by rw [LX3.out]; exact ra_out))
    clear hgo r4 s4 H3 S3 HX3 hrm
    obtain ⟨_, _, ⟨A5, n5, c5, ho⟩, _⟩ := H4.out
    have hn5 : n5 ≤ 900 := by
      have h1 := ho.row.1
      have h2 : ∀ l : List (Int × Int), (l.flatMap pcs).length = l.length * 2 := fun l => by
        induction l with
        | nil => rfl
        | cons p l ih => rw [List.flatMap_cons, List.length_append, ih, List.length_cons]; show 2 + _ = _; omega
      rw [h2] at h1
      omega
    obtain ⟨i0, hi0, hz0, hz1, hz2⟩ := info_parts info_sent
    have b1 := HX4.out.cell (i := 1) rfl
    have o0 := ho.blk.cell (i := 0) rfl
    have of0 := ho.blk.frozen 0
    have hobl := ho.blk.lt
    have HOB := Lib.hid ho
    clear ho
    have H4d := Lib.hid (H4.out.below (w' := w4.drew) ⟨rfl, rfl, rfl, Nat.le_refl _, fun _ _ => rfl⟩)
    have HOBd := Lib.hid (show Ob B w4.drew ρ3 ob A5 n5 c5 sn cf from HOB.out.below H4.out.bd ⟨rfl, rfl, rfl, Nat.le_refl _, fun _ _ => rfl⟩)
    have HOW := Lib.hid (show (w4.drew.alloc (.cells #[.int .i64 a, .int .i64 x] 78)).ownsRow B 78 2 (.slice A5 n5 c5) n5 (sn.flatMap pcs) from HOBd.out.row.alloc _)
    have HNP := Lib.hid (show ∀ j u, (pcs (a, x))[j]? = some u → (w4.drew.alloc (.cells #[.int .i64 a, .int .i64 x] 78)).cell? ((⟨w4.heap.size, 0, none⟩ : Addr).add j) = some u from OpsN.new_pcs w4.drew _ (a, x))
    have hal : B ≤ (w4.drew.alloc (.cells #[.int .i64 a, .int .i64 x] 78)).heap.size := by have := H4.out.rf.base; simp; omega
    have HFAR := Lib.hid (show ∀ w6, (w4.drew.alloc (.cells #[.int .i64 a, .int .i64 x] 78)).grownBy w6 (Value.slice A5 n5 c5).ownBlock → w6.cell? ⟨ob, 0, none⟩ = some (.slice A5 n5 c5) ∧ w6.frozen? ⟨ob, 0, none⟩ = false from fun w6 hg => by
      have hb : Blk w6 ob 53 [.slice A5 n5 c5, .bool cf] := (Keep.grown (F := fun j => (Value.slice A5 n5 c5).ownBlock = some j) hg fun _ h => h).blk (HOBd.out.blk.alloc _) fun hq => by
        have h1 := HOBd.out.lr ob hq
        rw [HOBd.out.lo] at h1
        injection h1 with h1
        omega
      exact ⟨hb.cell (i := 0) rfl, hb.frozen 0⟩)
    go_upto_region 6 with (fail)
    go_region_law (first
      | (rw [if_pos (by rfl)]; refine wp_append_at (.tmp 46) (.tmp 51) 49 rfl B 78 i0 _ 2 16 Try.underlying49 hi0 hz0 hz1 hz2 rfl (by omega) (.slice A5 n5 c5) n5 (sn.flatMap pcs) rfl HOW.out ⟨w4.heap.size, 0, none⟩ 1 1 (pcs (a, x)) rfl rfl HNP.out (OpsN.one_pcs _) (by unfold maxLen; omega) (by omega) hal ?_; intro A6 n6 c6 w6 hn6 hown6 hg6 hat6; have HG6 := Lib.hid hg6; obtain ⟨k3, f3⟩ := HFAR.out w6 hg6; clear hg6))
    all_goals
      go_wp2_with fail
      go_ret
      obtain ⟨ρ4, ho4, hs4⟩ := Ob.more (p := (a, x)) HOBd.out H4d.out.bd H4d.out.rf.base (by omega) hn6.out hown6.out HG6.out hat6.out
      obtain ⟨r5, s5⟩ := Rw.told H4d.out hs4 ho4
      exact ⟨rfl, ρ4, r5, (S4.out.drew).trans s5⟩
  · have e0 : (ve != 0) = true := by simpa using hve
    rw [if_neg hve, if_neg hve, if_neg hve]
    clear hve
    go_enter Try.func32, Try.ntmps32
    go_upto_region 1 with (fail)
    rw [← hw1, ← hx0]
    clear hw1 hx0
    have b0 := HX1.out.cell (i := 0) rfl
    have b1 := HX1.out.cell (i := 1) rfl
    go_upto_region 2 with (fail)
    go_quiet (fail)
    go_upto_region 3 with (fail)
    obtain ⟨w2, hw2⟩ : ∃ w2, w2 = w1.drewN nq := ⟨_, rfl⟩
    have hb2 : Below w1.heap.size w1 w2 := by rw [hw2]; exact drawn (Below.refl _ _) nq
    rw [← hw2]
    have H2 := Lib.hid (H1.out.below hb2)
    have S2 := Lib.hid (S1.out.trans (Stp.of_below H1.out.bd hb2))
    have HX2 := Lib.hid (HX1.out.below hb2)
    clear hw2 hb2 k9 gx b0 b1 H1 S1 HX1
    have b1 := HX2.out.cell (i := 1) rfl
    have k0 : w2.cell? ⟨N, 0, none⟩ = some (.int .i64 i.p) := by
      obtain ⟨⟨A, n, c, hrm⟩, _, _, _⟩ := H2.out
      exact hrm.blk.cell (i := 0) (v := .int .i64 i.p) rfl
    go_still_tail 9, (by kernel_rfl)
    change wpList _ _ _ _ _ (World.drew _)
    have H2 := Lib.hid (show Rw B w2.drew ρ N i D m d X gl A' nc c' C ob z L sn cf from H2.out.below ⟨rfl, rfl, rfl, Nat.le_refl _, fun _ _ => rfl⟩)
    have S2 := Lib.hid (show Stp Ra w ρ w2.drew ρ from S2.out.drew)
    have HX2 := Lib.hid (show Blk w2.drew x0 106 [.int .i64 14, .int .i64 a] from HX2.out)
    clear k0 b1
    go_wp2_with fail
    refine (HS.out _ _ H2.out).mono ?_
    intro e w3 hgo
    obtain ⟨rfl, ρ3, r3, s3⟩ := H2.out.chan (HFT.out _ _ H2.out) hgo
    have H3 := Lib.hid r3
    have S3 := Lib.hid (S2.out.trans s3)
    have HX3 := Lib.hid (s3.keep.blk HX2.out (by rw [LX.out]; exact ra_out))
    have LX3 := Lib.hid (show ρ3 x0 = .out from by rw [s3.old x0 HX2.out.lt]; exact LX.out)
    clear hgo r3 s3 H2 S2 HX2 HS HFT
    go_wp2_with fail
    go_ret
    exact ⟨rfl, ρ3, H3.out, S3.out⟩
end
end Go.Proofs.Ytegnehdfedfphaa.VmrH
