/- The contracts of the commit record by the names that the laws' walks use: a log formatted, saved to. Conditions: log and disk lie as the facts say; numbers of 64 bits. -/
import Derived.Test.YtdmfgffjplbloaaCmtN4
namespace Go.Proofs.Ytdmfgffjplbloaa.CmtN
open Go.RowKit Go.Proofs.Ytdmfgffjplbloaa.Kit Go.Proofs.Ytdmfgffjplbloaa.Byt Go.Proofs.Ytdmfgffjplbloaa.Mem Go.Proofs.Ytdmfgffjplbloaa.DskA Go.Proofs.Ytdmfgffjplbloaa.DskC Go.Proofs.Ytdmfgffjplbloaa.DskD Go.Proofs.Ytdmfgffjplbloaa.DskE Go.Proofs.Ytdmfgffjplbloaa.DskF Go.Proofs.Ytdmfgffjplbloaa.RecM Go.Proofs.Ytdmfgffjplbloaa.CmtM Go.Proofs.Ytdmfgffjplbloaa.StgM
open Go.Proofs.Ytdmfgffjplbloaa.RecA (rval rcells rok)
open Go.Proofs.Ytdmfgffjplbloaa.DskB (zs zs_len)

/-! ### a record saved -/
theorem sv_lS {s : St} {l : Lg} (r : Rc) (hp : l.r.p = l.p) (hq : l.r.q ≤ 4294967295) : sv s l r = lS s l r := by
  have e : nextR l.r r = nexty l r := by unfold nextR nexty; rw [hp]
  by_cases h : l.r.q = 4294967295
  · have e2 : nx l.r r = (l.r, 4) := by unfold nx; rw [if_pos (by omega)]
    unfold sv lS
    rw [if_pos h, e2, if_pos (by show (4 : Int) ≠ 0; omega)]
  · by_cases hr : (nexty l r).right
    · have e2 : nx l.r r = (nexty l r, 0) := by unfold nx; rw [if_neg (by omega), e, if_pos hr]
      unfold sv lS
      rw [if_neg h, if_pos hr, e2, e]
      rcases put1_08 s (10 * l.p + (1 - l.i)) (shut (nexty l r).bytes) with h0 | h0
      · rw [if_pos h0, if_neg (show ¬ ((nexty l r, (0 : Int)).2 ≠ 0) from by simp), if_pos h0]
      · rw [if_neg (show ¬ (put1 s (10 * l.p + (1 - l.i)) (shut (nexty l r).bytes)).2 = 0 from by omega), if_neg (show ¬ ((nexty l r, (0 : Int)).2 ≠ 0) from by simp), if_neg (show ¬ (put1 s (10 * l.p + (1 - l.i)) (shut (nexty l r).bytes)).2 = 0 from by omega), h0]
    · have e2 : nx l.r r = (l.r, 3) := by unfold nx; rw [if_neg (by omega), e, if_neg hr]
      unfold sv lS
      rw [if_neg h, if_neg hr, e2, if_pos (by show (3 : Int) ≠ 0; omega)]
theorem LS.ld {w : World} {F J : Nat → Prop} {g a : Nat} {s : St} {l : Lg} (h : LS w F J g a s l) : LD w F J g a s l := by
  have h1 := h.rec_.1
  unfold Rc.right at h1
  exact ⟨h.dk, h.lm, h.dis, h.most, h.fits, h.rec_.2.2, by omega⟩
theorem save_any (F J : Nat → Prop) (g a : Nat) (s : St) (l : Lg) (r : Rc) (w : World) (h : LS w F J g a s l) (hr : rok r) :
    Calls Try.prog 11 #[.pointer (some ⟨a, 0, none⟩), rval r] w (Lgo F J g a w (.int .i64 (lS s l r).2.2) (lS s l r).1 (lS s l r).2.1) := by
  have h1 := h.ld.q
  rw [← sv_lS r h.rec_.2.1 h1.2]
  exact save_at h.ld r hr
theorem save_nil (r : Rc) (w : World) : Calls Try.prog 11 #[.pointer none, rval r] w fun e w' => e = .returned (.int .i64 7) ∧ Below w.heap.size w w' := by
  obtain ⟨r0, r1, r2, r3, r4, r5⟩ := r
  go_enter Try.func11, Try.ntmps11
  go_wp2
  go_ret
  exact ⟨rfl, (Below.refl _ _).alloc (Nat.le_refl _) _⟩

/-! ### a log formatted -/
theorem format_nil (p : Int) (w : World) : Calls Try.prog 9 #[.pointer none, .int .i64 p] w fun e w' => e = .returned (.tuple #[.pointer none, .int .i64 7]) ∧ Below w.heap.size w w' := by
  go_enter Try.func9, Try.ntmps9
  go_wp2_with (go_at_call 24; refine (logOf_nil p _).mono ?_; rintro e w1 ⟨rfl, rfl⟩)
  go_ret2
  exact ⟨rfl, Below.refl _ _⟩
theorem format_range (F : Nat → Prop) (g : Nat) (s : St) (p : Int) (w : World) (hD : Dk w F g s) (hp : RecA.n64 p) (hr : ¬ (0 ≤ p ∧ p ≤ 3 ∧ 10 * p + 2 ≤ s.S.length)) :
    Calls Try.prog 9 #[.pointer (some ⟨g, 0, none⟩), .int .i64 p] w fun e w' => e = .returned (.tuple #[.pointer none, .int .i64 3]) ∧ Below w.heap.size w w' := by
  have H1 := Lib.hid (logOf_range F g s p w hD hp hr)
  clear hD hp hr
  go_enter Try.func9, Try.ntmps9
  go_wp2_with (go_at_call 24; refine H1.out.mono ?_; rintro e w1 ⟨rfl, hb1⟩; have L1 := Lib.hid hb1; clear hb1)
  go_ret2
  exact ⟨rfl, L1.out⟩
/-- The first record saved, behind none. -/
theorem sv_one (s : St) {p : Nat} (hp : p ≤ 3) : sv s ⟨p, Rc.none, 1⟩ Rc.none = if (put1 s (10 * p) (shut (one p).bytes)).2 = 0 then ((put1 s (10 * p) (shut (one p).bytes)).1, ⟨p, one p, 0⟩, 0) else ((put1 s (10 * p) (shut (one p).bytes)).1, ⟨p, Rc.none, 1⟩, (put1 s (10 * p) (shut (one p).bytes)).2) := by
  have e : nexty ⟨p, Rc.none, 1⟩ Rc.none = one p := rfl
  unfold sv
  rw [e, if_neg (by show ¬ (0 : Int) = 4294967295; omega), if_pos (one_right hp)]
  rfl
theorem put1_done {s : St} {i : Nat} {bs : List Nat} (h : (put1 s i bs).2 = 0) : (put1 s i bs).1.L = [] := by
  unfold put1 at h ⊢
  split
  · rename_i h0; rw [if_pos h0] at h; exact absurd h (by show ¬ (8 : Int) = 0; omega)
  · rename_i h0
    rw [if_neg h0] at h
    split
    · rename_i h1; rw [if_pos h1] at h; exact absurd h (by show ¬ (8 : Int) = 0; omega)
    · rfl
set_option maxRecDepth 100000 in
set_option maxHeartbeats 6400000 in
theorem format_any (F : Nat → Prop) (g : Nat) (s : St) (p : Nat) (w : World) (hD : Dk w F g s) (hp : p ≤ 3) (hf : 10 * p + 2 ≤ s.S.length) (_hu : s.down = false) (hL : s.L.length ≤ 1000000) :
    Calls Try.prog 9 #[.pointer (some ⟨g, 0, none⟩), .int .i64 (p : Nat)] w fun e w' => ∃ F', Dk w' F' g (lF s p).1 ∧ Keep F w w' ∧ (∀ i, F' i → F i ∨ w.heap.size ≤ i) ∧
      (((lF s p).2 = 0 ∧ ∃ a J, e = .returned (.tuple #[.pointer (some ⟨a, 0, none⟩), .int .i64 0]) ∧ Lm w' J a g ⟨p, one p, 0⟩ ∧ (∀ i, J i → w.heap.size ≤ i) ∧ (∀ i, F' i → ¬ J i)) ∨
       ((lF s p).2 = 8 ∧ e = .returned (.tuple #[.pointer none, .int .i64 8]))) := by
  obtain ⟨Z, hZ⟩ : ∃ Z, Z = (u8n (zs 64)).toArray := ⟨_, rfl⟩
  have hmk := mk64
  simp only [← hZ] at hmk
  have HBZ := Lib.hid (show ∀ w' : World, Rd (w'.alloc (.cells Z 5)) (some ⟨w'.heap.size, 0, none⟩) 64 64 (u8n (zs 64)) from fun w' => blk_rd (t := 5) (by rw [hZ]; exact Blk.new w' _ _) (zs_len 64) (by omega))
  have H1 := Lib.hid (logOf_any F g s p w hD hp hf)
  have HD := Lib.hid hD
  have HF := Lib.hid (And.intro hp (And.intro hf hL))
  clear hZ hD hp hf hL
  go_enter Try.func9, Try.ntmps9
  go_wp2_with (go_at_call 24; refine H1.out.mono ?_; rintro e w1 ⟨a, rfl, ha, hlm, hb1⟩; have L1 := Lib.hid hb1; have HA := Lib.hid ha; have HM1 := Lib.hid hlm; have e8 := HM1.out.blk.cell (i := 8) rfl; have f8 := HM1.out.blk.frozen 8; clear hb1 ha hlm)
  have HM2 := Lib.hid (show Lm (w1.setCell ⟨a, 8, none⟩ (.int .i64 1)) (fun i => i = a) a g ⟨p, Rc.none, 1⟩ from ⟨HM1.out.blk.set 8 _, fun _ => Iff.rfl, rok_none⟩)
  have L2 := Lib.hid (show Below w.heap.size w (w1.setCell ⟨a, 8, none⟩ (.int .i64 1)) from (Only.set w1 a 8 _).below L1.out HA.out L1.out.size)
  obtain ⟨w2, hw2⟩ : ∃ w2, w2 = w1.setCell ⟨a, 8, none⟩ (.int .i64 1) := ⟨_, rfl⟩
  rw [← hw2] at HM2 L2 ⊢
  clear hw2 e8 f8 HM1 L1
  have e8 : w2.cell? ⟨a, 8, none⟩ = some (.int .i64 1) := HM2.out.blk.cell rfl
  have hal := HM2.out.blk.lt
  obtain ⟨P, hP⟩ : ∃ P, P = put1 s (10 * p + 1) (zs 64) := ⟨_, rfl⟩
  have h08 := put1_08 s (10 * p + 1) (zs 64)
  have HW := Lib.hid (fun (w' : World) (hb : Below w2.heap.size w2 w') A (hR : Rd w' A 64 64 (u8n (zs 64))) (hA : ∀ b o, A = some ⟨b, o, none⟩ → ¬ F b) => write_any (i := 1) (HD.out.below (L2.out.trans (hb.mono L2.out.size))) (HM2.out.below hb) (fun hF => by have := HD.out.lt a hF; have := HA.out; omega) HF.out.1 (Nat.le_refl 1) HF.out.2.1 hR hA HF.out.2.2)
  dsimp only at HW
  rw [← hP] at HW h08
  have HP := Lib.hid hP
  have HLF := Lib.hid (show lF s p = if P.2 = 0 then put1 P.1 (10 * p) (shut (one p).bytes) else (P.1, 8) from by rw [hP]; rfl)
  obtain ⟨x, hx⟩ : ∃ x, x = P.2 := ⟨_, rfl⟩
  rw [← hx] at HW h08 HLF
  have HX := Lib.hid hx
  clear hP hx
  have hlt0 : ∀ b, w2.heap.size ≤ b → ¬ F b := fun b hb hF => by have := HD.out.lt b hF; have := L2.out.size; omega
  have HLT := Lib.hid hlt0
  clear hlt0
  have hsv := sv_one P.1 HF.out.1
  obtain ⟨Q, hQ⟩ : ∃ Q, Q = put1 P.1 (10 * p) (shut (one p).bytes) := ⟨_, rfl⟩
  have hq08 := put1_08 P.1 (10 * p) (shut (one p).bytes)
  rw [← hQ] at hsv hq08 HLF
  obtain ⟨y, hy⟩ : ∃ y, y = Q.2 := ⟨_, rfl⟩
  rw [← hy] at hsv hq08
  have HY := Lib.hid hy
  have HSV := Lib.hid hsv
  have LZ := Lib.hid (show Below w2.heap.size w2 (w2.alloc (.cells Z 5)).drew from ((Below.refl _ _).alloc (Nat.le_refl _) _).drew)
  have HRZ := Lib.hid (show Rd (w2.alloc (.cells Z 5)).drew (some ⟨w2.heap.size, 0, none⟩) 64 64 (u8n (zs 64)) from HBZ.out w2)
  have HAZ := Lib.hid (show ∀ b o, (some ⟨w2.heap.size, 0, none⟩ : Option Addr) = some ⟨b, o, none⟩ → ¬ F b from fun b o h => by
    injection h with h
    injection h with h _
    exact HLT.out b (by omega))
  have haF : ¬ F a := fun hF => by have := HD.out.lt a hF; have := HA.out; omega
  have HAF := Lib.hid haF
  clear hQ hy hsv haF
  rcases h08 with rfl | rfl
  rcases hq08 with rfl | rfl
  · rw [if_pos rfl] at HSV HLF
    go_wp2_with fail
    go_region_held3 (fun w' => w'.cell? ⟨a, 8, none⟩ = some (.int .i64 1))
      (first
       | go_keep
       | exact HK3.out)
      ((go_at_call 25; refine (HW.out _ LZ.out _ HRZ.out HAZ.out).mono ?_; rintro e w3 ⟨rfl, F1, hD1, hk1, hf1⟩; have HM3 := Lib.hid ((HM2.out.below LZ.out).keep hk1 fun i hi hF => HAF.out ((show i = a from hi) ▸ hF)); have HK3 := Lib.hid (show w3.cell? ⟨a, 8, none⟩ = some (.int .i64 1) from HM3.out.blk.cell rfl); have HD3 := Lib.hid hD1; have KK3 := Lib.hid ((Keep.of_below (L2.out.trans (LZ.out.mono L2.out.size))).trans hk1 fun i hi => .inl hi); have FF3 := Lib.hid (show ∀ i, F1 i → F i ∨ w.heap.size ≤ i from fun i hi => (hf1 i hi).imp id fun h => Nat.le_trans (Nat.le_trans L2.out.size LZ.out.size) h); have hs3 := hk1.size; have HNA := Lib.hid (show ∀ i, F1 i → i ≠ a from fun i hi e => by { rcases hf1 i hi with h | h; exact HAF.out (e ▸ h); have := LZ.out.size; have : w2.heap.size ≤ i := Nat.le_trans LZ.out.size h; omega }); clear hD1 hk1 hf1))
    have HLD := Lib.hid (show LD w3 F1 (fun i => i = a) g a P.1 ⟨p, Rc.none, 1⟩ from ⟨HD3.out, HM3.out, HNA.out, by rw [HP.out, put1_done (by rw [← HP.out, ← HX.out])]; exact Nat.zero_le _, ⟨HF.out.1, by rw [HP.out, put1_len]; exact HF.out.2.1⟩, Nat.le_refl 1, ⟨by show (0 : Int) ≤ 0; omega, by show (0 : Int) ≤ 4294967295; omega⟩⟩)
    have HSA := Lib.hid (save_at HLD.out Rc.none rok_none)
    rw [HSV.out] at HSA
    go_wp2_with (go_at_call 11; refine HSA.out.mono ?_; rintro e w4 ⟨rfl, F2, J2, hD4, hM4, hdj, hk4, hf4, hj4⟩; have HD4 := Lib.hid hD4; have HM4 := Lib.hid hM4; have HDJ := Lib.hid hdj; have KK4 := Lib.hid hk4; have FF4 := Lib.hid hf4; clear hD4 hM4 hdj hk4 hf4 hj4)
    go_ret2
    rw [HLF.out]
    have ha := HA.out
    have hs0 := L2.out.size
    have hs1 := LZ.out.size
    refine ⟨F2, HD4.out, ?_, fun i hi => ?_, .inl ⟨HY.out.symm, a, J2, rfl, HM4.out, fun i hi => by rw [(HM4.out.own i).1 hi]; exact ha, HDJ.out⟩⟩
    · refine KK3.out.trans KK4.out fun i hi => ?_
      rcases hi with h | h
      · exact FF3.out i h
      · exact .inr (by omega)
    · rcases FF4.out i hi with (h | h) | h
      · exact FF3.out i h
      · exact .inr (by omega)
      · exact .inr (Nat.le_trans (Nat.le_trans hs0 hs1) (Nat.le_trans hs3 h))
  · rw [if_neg (show ¬ (8 : Int) = 0 by omega)] at HSV
    rw [if_pos rfl] at HLF
    go_wp2_with fail
    go_region_held3 (fun w' => w'.cell? ⟨a, 8, none⟩ = some (.int .i64 1))
      (first
       | go_keep
       | exact HK3.out)
      ((go_at_call 25; refine (HW.out _ LZ.out _ HRZ.out HAZ.out).mono ?_; rintro e w3 ⟨rfl, F1, hD1, hk1, hf1⟩; have HM3 := Lib.hid ((HM2.out.below LZ.out).keep hk1 fun i hi hF => HAF.out ((show i = a from hi) ▸ hF)); have HK3 := Lib.hid (show w3.cell? ⟨a, 8, none⟩ = some (.int .i64 1) from HM3.out.blk.cell rfl); have HD3 := Lib.hid hD1; have KK3 := Lib.hid ((Keep.of_below (L2.out.trans (LZ.out.mono L2.out.size))).trans hk1 fun i hi => .inl hi); have FF3 := Lib.hid (show ∀ i, F1 i → F i ∨ w.heap.size ≤ i from fun i hi => (hf1 i hi).imp id fun h => Nat.le_trans (Nat.le_trans L2.out.size LZ.out.size) h); have hs3 := hk1.size; have HNA := Lib.hid (show ∀ i, F1 i → i ≠ a from fun i hi e => by { rcases hf1 i hi with h | h; exact HAF.out (e ▸ h); have := LZ.out.size; have : w2.heap.size ≤ i := Nat.le_trans LZ.out.size h; omega }); clear hD1 hk1 hf1))
    have HLD := Lib.hid (show LD w3 F1 (fun i => i = a) g a P.1 ⟨p, Rc.none, 1⟩ from ⟨HD3.out, HM3.out, HNA.out, by rw [HP.out, put1_done (by rw [← HP.out, ← HX.out])]; exact Nat.zero_le _, ⟨HF.out.1, by rw [HP.out, put1_len]; exact HF.out.2.1⟩, Nat.le_refl 1, ⟨by show (0 : Int) ≤ 0; omega, by show (0 : Int) ≤ 4294967295; omega⟩⟩)
    have HSA := Lib.hid (save_at HLD.out Rc.none rok_none)
    rw [HSV.out] at HSA
    go_wp2_with (go_at_call 11; refine HSA.out.mono ?_; rintro e w4 ⟨rfl, F2, J2, hD4, hM4, hdj, hk4, hf4, hj4⟩; have HD4 := Lib.hid hD4; have HM4 := Lib.hid hM4; have HDJ := Lib.hid hdj; have KK4 := Lib.hid hk4; have FF4 := Lib.hid hf4; clear hD4 hM4 hdj hk4 hf4 hj4)
    go_ret2
    rw [HLF.out]
    have ha := HA.out
    have hs0 := L2.out.size
    have hs1 := LZ.out.size
    refine ⟨F2, HD4.out, ?_, fun i hi => ?_, .inr ⟨HY.out.symm, rfl⟩⟩
    · refine KK3.out.trans KK4.out fun i hi => ?_
      rcases hi with h | h
      · exact FF3.out i h
      · exact .inr (by omega)
    · rcases FF4.out i hi with (h | h) | h
      · exact FF3.out i h
      · exact .inr (by omega)
      · exact .inr (Nat.le_trans (Nat.le_trans hs0 hs1) (Nat.le_trans hs3 h))
  · rw [if_neg (show ¬ (8 : Int) = 0 by omega)] at HLF
    go_wp2_with fail
    go_region_held3 (fun w' => w'.cell? ⟨a, 8, none⟩ = some (.int .i64 1))
      (first
       | go_keep
       | exact HK3.out)
      ((go_at_call 25; refine (HW.out _ LZ.out _ HRZ.out HAZ.out).mono ?_; rintro e w3 ⟨rfl, F1, hD1, hk1, hf1⟩; have HM3 := Lib.hid ((HM2.out.below LZ.out).keep hk1 fun i hi hF => HAF.out ((show i = a from hi) ▸ hF)); have HK3 := Lib.hid (show w3.cell? ⟨a, 8, none⟩ = some (.int .i64 1) from HM3.out.blk.cell rfl); have HD3 := Lib.hid hD1; have KK3 := Lib.hid ((Keep.of_below (L2.out.trans (LZ.out.mono L2.out.size))).trans hk1 fun i hi => .inl hi); have FF3 := Lib.hid (show ∀ i, F1 i → F i ∨ w.heap.size ≤ i from fun i hi => (hf1 i hi).imp id fun h => Nat.le_trans (Nat.le_trans L2.out.size LZ.out.size) h); have hs3 := hk1.size; have HNA := Lib.hid (show ∀ i, F1 i → i ≠ a from fun i hi e => by { rcases hf1 i hi with h | h; exact HAF.out (e ▸ h); have := LZ.out.size; have : w2.heap.size ≤ i := Nat.le_trans LZ.out.size h; omega }); clear hD1 hk1 hf1))
    go_wp2
    go_ret2
    rw [HLF.out]
    exact ⟨F1, HD3.out, KK3.out, FF3.out, .inr ⟨rfl, rfl⟩⟩
end Go.Proofs.Ytdmfgffjplbloaa.CmtN
