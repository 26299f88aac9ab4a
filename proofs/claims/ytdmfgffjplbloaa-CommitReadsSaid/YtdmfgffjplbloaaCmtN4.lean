/- A log opened, by the program. Conditions: the disk lies as the facts say; numbers of 64 bits; what it holds is bytes. -/
import Derived.Test.YtdmfgffjplbloaaCmtN3
namespace Go.Proofs.Ytdmfgffjplbloaa.CmtN
open Go.RowKit Go.Proofs.Ytdmfgffjplbloaa.Kit Go.Proofs.Ytdmfgffjplbloaa.Byt Go.Proofs.Ytdmfgffjplbloaa.Mem Go.Proofs.Ytdmfgffjplbloaa.DskA Go.Proofs.Ytdmfgffjplbloaa.DskC Go.Proofs.Ytdmfgffjplbloaa.DskD Go.Proofs.Ytdmfgffjplbloaa.DskE Go.Proofs.Ytdmfgffjplbloaa.DskF Go.Proofs.Ytdmfgffjplbloaa.RecM Go.Proofs.Ytdmfgffjplbloaa.CmtM Go.Proofs.Ytdmfgffjplbloaa.StgM
open Go.Proofs.Ytdmfgffjplbloaa.RecA (rval rcells rok)

theorem cp_none {p : Int} {xs : List Nat} (h : (cp p xs).q < 1) : cp p xs = Rc.none := by
  unfold cp at h ⊢
  split
  · rfl
  · rename_i h0
    rw [if_neg h0] at h
    have h1 := getR_right (xs := xs) (Classical.byContradiction fun e => h0 (.inl e))
    unfold Rc.right at h1
    omega
theorem rok_right {r : Rc} (h : r.right) : rok r := by
  have h1 := h
  unfold Rc.right at h1
  refine ⟨⟨?_, ?_⟩, ⟨?_, ?_⟩, ⟨?_, ?_⟩, ⟨?_, ?_⟩, ⟨?_, ?_⟩, ⟨?_, ?_⟩⟩ <;> omega
theorem rok_cp (p : Int) (xs : List Nat) : rok (cp p xs) := by
  by_cases h : 1 ≤ (cp p xs).q
  · exact rok_right (cp_right h)
  · rw [cp_none (by omega)]; exact rok_none
theorem open_nil (p : Int) (w : World) : Calls Try.prog 14 #[.pointer none, .int .i64 p] w fun e w' => e = .returned (.tuple #[.pointer none, .int .i64 7]) ∧ Below w.heap.size w w' := by
  go_enter Try.func14, Try.ntmps14
  go_wp2_with (go_at_call 24; refine (logOf_nil p _).mono ?_; rintro e w1 ⟨rfl, rfl⟩)
  go_ret2
  exact ⟨rfl, Below.refl _ _⟩
theorem open_range (F : Nat → Prop) (g : Nat) (s : St) (p : Int) (w : World) (hD : Dk w F g s) (hp : RecA.n64 p) (hr : ¬ (0 ≤ p ∧ p ≤ 3 ∧ 10 * p + 2 ≤ s.S.length)) :
    Calls Try.prog 14 #[.pointer (some ⟨g, 0, none⟩), .int .i64 p] w fun e w' => e = .returned (.tuple #[.pointer none, .int .i64 3]) ∧ Below w.heap.size w w' := by
  have H1 := Lib.hid (logOf_range F g s p w hD hp hr)
  clear hD hp hr
  go_enter Try.func14, Try.ntmps14
  go_wp2_with (go_at_call 24; refine H1.out.mono ?_; rintro e w1 ⟨rfl, hb1⟩; have L1 := Lib.hid hb1; clear hb1)
  go_ret2
  exact ⟨rfl, L1.out⟩
set_option maxRecDepth 100000 in
set_option maxHeartbeats 6400000 in
theorem open_any (F : Nat → Prop) (g : Nat) (s : St) (p : Nat) (w : World) (hD : Dk w F g s) (hp : p ≤ 3) (hf : 10 * p + 2 ≤ s.S.length) (hu : s.down = false) (hL : s.L.length ≤ 1000000) (hb : ∀ i, byt (Go.Proofs.Ytdmfgffjplbloaa.DskD.now s i)) :
    Calls Try.prog 14 #[.pointer (some ⟨g, 0, none⟩), .int .i64 (p : Nat)] w fun e w' => Below w.heap.size w w' ∧
      ((1 ≤ (lO s p).r.q ∧ ∃ a J, e = .returned (.tuple #[.pointer (some ⟨a, 0, none⟩), .int .i64 0]) ∧ Lm w' J a g (lO s p) ∧ (∀ i, J i → w.heap.size ≤ i)) ∨
       ((lO s p).r.q < 1 ∧ e = .returned (.tuple #[.pointer none, .int .i64 5]))) := by
  have H1 := Lib.hid (logOf_any F g s p w hD hp hf)
  have H2 := Lib.hid (fun (w' : World) a (hb' : Below w.heap.size w w') (h : Lm w' (fun i => i = a) a g ⟨p, Rc.none, 0⟩) => held_any (hD.below hb') h hp hf hu hL hb)
  have HO := Lib.hid (show lO s p = ⟨p, if (cp p (now s (10 * p))).q < (cp p (now s (10 * p + 1))).q then cp p (now s (10 * p + 1)) else cp p (now s (10 * p)), best (cp p (now s (10 * p))) (cp p (now s (10 * p + 1)))⟩ from by
    unfold lO late best
    split <;> rfl)
  have HKC := Lib.hid (And.intro (rok_cp p (now s (10 * p))) (rok_cp p (now s (10 * p + 1))))
  have HNC := Lib.hid (And.intro (@cp_none p (now s (10 * p))) (@cp_none p (now s (10 * p + 1))))
  obtain ⟨R, hR⟩ : ∃ R, R = lO s p := ⟨_, rfl⟩
  rw [← hR] at HO ⊢
  obtain ⟨c, hc⟩ : ∃ c, c = cp (p : Int) (now s (10 * p)) := ⟨_, rfl⟩
  obtain ⟨d, hd⟩ : ∃ d, d = cp (p : Int) (now s (10 * p + 1)) := ⟨_, rfl⟩
  simp only [← hc, ← hd] at H2 HO HKC HNC
  clear hR hc hd hD hp hf hu hL hb
  obtain ⟨m, hm⟩ : ∃ m, m = best c d := ⟨_, rfl⟩
  obtain ⟨r, hr⟩ : ∃ r, r = if c.q < d.q then d else c := ⟨_, rfl⟩
  have HN := Lib.hid (fun w' => newest_any c d w')
  rw [← hm] at HN HO
  rw [← hr] at HO
  have hcase : (m = 0 ∧ r = c) ∨ (m = 1 ∧ r = d) := by
    rw [hm, hr]; unfold best
    split
    · exact .inr ⟨rfl, rfl⟩
    · exact .inl ⟨rfl, rfl⟩
  have HRK := Lib.hid (show rok r from by rcases hcase with ⟨_, e⟩ | ⟨_, e⟩ <;> rw [e]; exact HKC.out.1; exact HKC.out.2)
  have HRN := Lib.hid (show r.q < 1 → r = Rc.none from by rcases hcase with ⟨_, e⟩ | ⟨_, e⟩ <;> rw [e]; exact HNC.out.1; exact HNC.out.2)
  clear hm hr HKC HNC
  have HDR := Lib.hid (show ((rcells c ++ rcells d).drop (m * 6)).take 6 = rcells r from by rcases hcase with ⟨rfl, rfl⟩ | ⟨rfl, rfl⟩ <;> rfl)
  have hm1 : m ≤ 1 := by omega
  clear hcase
  obtain ⟨b, hb⟩ : ∃ b : Bool, b = true ↔ r = Rc.none := RecA.bool_of _
  have hE : ∀ w : World, (Op.equalIn 10000 31 (.agg #[.int .i64 r.p, .int .i64 r.q, .int .i64 r.a, .int .i64 r.c, .int .i64 r.l, .int .i64 r.b]) (.agg #[.int .i64 0, .int .i64 0, .int .i64 0, .int .i64 0, .int .i64 0, .int .i64 0])).run Try.prog w = .ok b w := fun w => CmtC.req r Rc.none b hb w
  have HBB := Lib.hid (show (b = true → r.q < 1) ∧ (b = false → 1 ≤ r.q) from ⟨fun h => by rw [hb.1 h]; show (0 : Int) < 1; omega, fun h => by
    refine Classical.byContradiction fun h1 => ?_
    have := hb.2 (HRN.out (by omega))
    rw [h] at this
    cases this⟩)
  clear hb
  cases b
  all_goals
    go_enter Try.func14, Try.ntmps14
    go_wp2_with (first
      | (go_at_call 24; refine H1.out.mono ?_; rintro e w1 ⟨a, rfl, ha, hlm, hb1⟩; have L1 := Lib.hid hb1; have HA := Lib.hid ha; have HM1 := Lib.hid hlm; clear hb1 ha hlm)
      | (go_at_call 29; refine (H2.out w1 a L1.out HM1.out).mono ?_; rintro e w2 ⟨rfl, hb2⟩; have L2 := Lib.hid (L1.out.trans (hb2.mono L1.out.size)); have HM2 := Lib.hid (HM1.out.below hb2); clear hb2)
      | (refine wpList_store_blk rfl 65 (.tmp 8) (.tmp 21) rfl w2.heap.size rfl (rcells c ++ rcells d) rfl (Blk.new w2 65 zer) rfl size_two (one_two c d) ?_; intro w3 hB3 ho3; have L3 := Lib.hid (show Below w.heap.size w w3 from ho3.out.below (L2.out.alloc L2.out.size _) L2.out.size (L2.out.alloc L2.out.size _).size); have hm2 := HM2.out.blk.lt; have HM3 := Lib.hid (show Blk w3 a 61 (lgc g ⟨p, Rc.none, 0⟩) from ho3.out.blk (HM2.out.blk.alloc _) (by omega)); have HX3 := Lib.hid hB3.out; clear hB3 ho3; obtain ⟨xb, hxb⟩ : ∃ xb, xb = w2.heap.size := ⟨_, rfl⟩; rw [← hxb] at HX3 hm2 ⊢; clear hxb)
      | (refine wpList_load_blk rfl 65 _ rfl xb rfl HX3.out Try.underlying65 rfl size_two ?_)
      | (go_at_call 30; refine (HN.out w3).mono ?_; rintro e w4 ⟨rfl, hb4⟩; have L4 := Lib.hid (L3.out.trans (hb4.mono L3.out.size)); have HM4 := Lib.hid (HM3.out.below hb4); have HX4 := Lib.hid (HX3.out.below hb4); have e8 := HM4.out.cell (i := 8) rfl; have f8 := HM4.out.frozen 8; have HM5 := Lib.hid (show Blk (w4.setCell ⟨a, 8, none⟩ (.int .i64 (m : Nat))) a 61 (lgc g ⟨p, Rc.none, m⟩) from HM4.out.set 8 _); have hne : xb ≠ a := (by omega); have HX5 := Lib.hid (HX4.out.far (p := ⟨a, 8, none⟩) hne (.int .i64 (m : Nat))); have hs4 := HA.out; have L5 := Lib.hid (show Below w.heap.size w (w4.setCell ⟨a, 8, none⟩ (.int .i64 (m : Nat))) from (Only.set w4 a 8 _).below L4.out HA.out L4.out.size); clear hb4)
      | (refine wpList_load_part rfl 31 (.tmp 36) rfl xb (m * 6) rfl [.int .i64 r.p, .int .i64 r.q, .int .i64 r.a, .int .i64 r.c, .int .i64 r.l, .int .i64 r.b] HX5.out HDR.out Try.underlying31 rfl size_rc6 ?_)
      | (refine wpList_store_part rfl 31 (.tmp 39) (.tmp 37) rfl a 2 rfl (rcells r) rfl HM5.out (by simp [lgc, rcells]) size_rc6 (RecN.one_r _) ?_; intro w6 hB6 ho6; have HM6 := Lib.hid (show Blk w6 a 61 (lgc g ⟨p, r, m⟩) from hB6.out); have L6 := Lib.hid (show Below w.heap.size w w6 from ho6.out.below L5.out HA.out L5.out.size); clear hB6 ho6)
      | (refine wpList_load_part rfl 31 (.tmp 42) rfl a 2 rfl [.int .i64 r.p, .int .i64 r.q, .int .i64 r.a, .int .i64 r.c, .int .i64 r.l, .int .i64 r.b] HM6.out rfl Try.underlying31 rfl size_rc6 ?_))
  · have HQ := Lib.hid HBB.out.2
    go_ret2
    rw [HO.out]
    refine ⟨L6.out, .inl ⟨by simpa using HQ.out, a, (fun i => i = a), rfl, ⟨HM6.out, fun _ => Iff.rfl, HRK.out⟩, fun i hi => ?_⟩⟩
    rw [show i = a from hi]
    exact HA.out
  · have HQ := Lib.hid HBB.out.1
    go_ret2
    rw [HO.out]
    exact ⟨L6.out, .inr ⟨by simpa using HQ.out, rfl⟩⟩
end Go.Proofs.Ytdmfgffjplbloaa.CmtN
