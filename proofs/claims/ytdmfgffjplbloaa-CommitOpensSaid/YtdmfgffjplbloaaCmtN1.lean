/- A record saved, by the program. Conditions: log and disk lie as the facts say; numbers of 64 bits. -/
import Derived.Test.YtdmfgffjplbloaaCmtN0
namespace Go.Proofs.Ytdmfgffjplbloaa.CmtN
open Go.RowKit Go.Proofs.Ytdmfgffjplbloaa.Kit Go.Proofs.Ytdmfgffjplbloaa.Byt Go.Proofs.Ytdmfgffjplbloaa.Mem Go.Proofs.Ytdmfgffjplbloaa.DskA Go.Proofs.Ytdmfgffjplbloaa.DskC Go.Proofs.Ytdmfgffjplbloaa.DskD Go.Proofs.Ytdmfgffjplbloaa.DskE Go.Proofs.Ytdmfgffjplbloaa.DskF Go.Proofs.Ytdmfgffjplbloaa.RecM Go.Proofs.Ytdmfgffjplbloaa.CmtM Go.Proofs.Ytdmfgffjplbloaa.StgM
open Go.Proofs.Ytdmfgffjplbloaa.RecA (rval rcells rok)

/-- What is saved behind what a log tells, by the program: a log's record may be none yet. -/
def nexty (l : Lg) (r : Rc) : Rc := ⟨l.p, l.r.q + 1, r.a, r.c, r.l, r.b⟩
def sv (s : St) (l : Lg) (r : Rc) : St × Lg × Int :=
  if l.r.q = 4294967295 then (s, l, 4)
  else if (nexty l r).right then
    (if (put1 s (10 * l.p + (1 - l.i)) (shut (nexty l r).bytes)).2 = 0 then ((put1 s (10 * l.p + (1 - l.i)) (shut (nexty l r).bytes)).1, ⟨l.p, nexty l r, 1 - l.i⟩, 0)
     else ((put1 s (10 * l.p + (1 - l.i)) (shut (nexty l r).bytes)).1, l, (put1 s (10 * l.p + (1 - l.i)) (shut (nexty l r).bytes)).2))
  else (s, l, 3)
/-- A disk, and a log on it that may have no record yet. -/
structure LD (w : World) (F J : Nat → Prop) (g a : Nat) (s : St) (l : Lg) : Prop where
  dk : Dk w F g s
  lm : Lm w J a g l
  dis : ∀ i, F i → ¬ J i
  most : s.L.length ≤ 1000000
  fits : l.p ≤ 3 ∧ 10 * l.p + 2 ≤ s.S.length
  i1 : l.i ≤ 1
  q : 0 ≤ l.r.q ∧ l.r.q ≤ 4294967295
section
variable {w w1 : World} {F F1 J : Nat → Prop} {g a : Nat} {s s1 : St} {l : Lg}
/-- The disk alone has changed. -/
theorem Lgo.disk {v : Value} (h : LD w F J g a s l) (hD : Dk w1 F1 g s1) (hk : Keep F w w1) (hf : ∀ i, F1 i → F i ∨ w.heap.size ≤ i) : Lgo F J g a w v s1 l (.returned v) w1 :=
  ⟨rfl, F1, J, hD, h.lm.keep hk fun i hj hF => h.dis i hF hj, fun i hF hj => by
    rcases hf i hF with h4 | h4
    · exact h.dis i h4 hj
    · have := h.lm.lt i hj; omega, hk.mono fun _ _ h => .inl h, fun i hi => (hf i hi).imp .inl id, fun i hi => .inl (.inr hi)⟩
theorem LD.fa (h : LD w F J g a s l) : ¬ F a := fun hF => h.dis a hF ((h.lm.own a).2 rfl)
theorem LD.below (h : LD w F J g a s l) (hb : Below w.heap.size w w1) : LD w1 F J g a s l := ⟨h.dk.below hb, h.lm.below hb, h.dis, h.most, h.fits, h.i1, h.q⟩
theorem rok_next (h : LD w F J g a s l) {r : Rc} (hr : rok r) : rok (nexty l r) := by
  have h1 := h.fits.1
  have h2 := h.q
  exact ⟨⟨by show -9223372036854775808 ≤ (l.p : Int); omega, by show (l.p : Int) ≤ 9223372036854775807; omega⟩, ⟨by show -9223372036854775808 ≤ l.r.q + 1; omega, by show l.r.q + 1 ≤ 9223372036854775807; omega⟩, hr.a, hr.c, hr.l, hr.b⟩
set_option maxRecDepth 100000 in
set_option maxHeartbeats 3200000 in
theorem save_at (h : LD w F J g a s l) (r : Rc) (hr : rok r) :
    Calls Try.prog 11 #[.pointer (some ⟨a, 0, none⟩), rval r] w (Lgo F J g a w (.int .i64 (sv s l r).2.2) (sv s l r).1 (sv s l r).2.1) := by
  have H := Lib.hid h
  have L0 := Lib.hid (show Below w.heap.size w (w.alloc (.cells #[.int .i64 r.p, .int .i64 r.q, .int .i64 r.a, .int .i64 r.c, .int .i64 r.l, .int .i64 r.b] 31)) from (Below.refl _ _).alloc (Nat.le_refl _) _)
  have HX0 := Lib.hid (show Blk (w.alloc (.cells #[.int .i64 r.p, .int .i64 r.q, .int .i64 r.a, .int .i64 r.c, .int .i64 r.l, .int .i64 r.b] 31)) w.heap.size 31 (rcells r) from Blk.new w _ _)
  have HK := Lib.hid (rok_next h hr)
  have hal := h.lm.blk.lt
  obtain ⟨c0, c1, c3, c8⟩ := h.lm.cells
  have hq0 := h.q
  obtain ⟨R, hR⟩ : ∃ R, R = sv s l r := ⟨_, rfl⟩
  rw [← hR]
  have HR := Lib.hid hR
  obtain ⟨q, hq⟩ : ∃ q, q = l.r.q := ⟨_, rfl⟩
  obtain ⟨p, hp⟩ : ∃ p, p = l.p := ⟨_, rfl⟩
  have hp3 := h.fits.1
  have hi1 := h.i1
  rw [← hp] at c1 hp3
  rw [← hq] at c3 hq0
  have HQ := Lib.hid hq
  have HP := Lib.hid hp
  clear h hr hR hq hp
  by_cases hf : q = 4294967295
  · subst hf
    have hRR : R = (s, l, 4) := by rw [HR.out]; unfold sv; rw [if_pos HQ.out.symm]
    clear HR
    go_enter Try.func11, Try.ntmps11
    go_wp2
    go_ret
    rw [hRR]
    exact Lgo.disk H.out (H.out.dk.below L0.out) (Keep.of_below L0.out) fun i hi => .inl hi
  · obtain ⟨y, hy⟩ : ∃ y : Rc, y = ⟨(p : Int), q + 1, r.a, r.c, r.l, r.b⟩ := ⟨_, rfl⟩
    have hyn : y = nexty l r := by rw [hy, HP.out, HQ.out]; rfl
    have LA := Lib.hid (show Below w.heap.size w (w.alloc (.cells (rcells y).toArray 31)).drew from ((Below.refl _ _).alloc (Nat.le_refl _) _).drew)
    have HXA := Lib.hid (show Blk (w.alloc (.cells (rcells y).toArray 31)).drew w.heap.size 31 (rcells y) from Blk.new w _ _)
    have HAL : (w.alloc (.cells #[.int .i64 (p : Nat), .int .i64 (q + 1), .int .i64 r.a, .int .i64 r.c, .int .i64 r.l, .int .i64 r.b] 31)).drew = (w.alloc (.cells (rcells y).toArray 31)).drew := by rw [hy]; rfl
    have HALH := Lib.hid HAL
    rw [← hyn] at HK
    have HYN := Lib.hid hyn
    have HV := Lib.hid (show rval y = .agg #[.int .i64 (p : Nat), .int .i64 (q + 1), .int .i64 r.a, .int .i64 r.c, .int .i64 r.l, .int .i64 r.b] from by rw [hy])
    clear hyn HAL hy
    by_cases hr : y.right
    · have hRR : R = if (put1 s (10 * l.p + (1 - l.i)) (shut y.bytes)).2 = 0 then ((put1 s (10 * l.p + (1 - l.i)) (shut y.bytes)).1, ⟨l.p, y, 1 - l.i⟩, 0) else ((put1 s (10 * l.p + (1 - l.i)) (shut y.bytes)).1, l, (put1 s (10 * l.p + (1 - l.i)) (shut y.bytes)).2) := by
        rw [HR.out]; unfold sv; rw [if_neg (by rw [← HQ.out]; exact hf), ← HYN.out, if_pos hr]
      have HPUT := Lib.hid (RecN.rput_yes y (w.alloc (.cells (rcells y).toArray 31)).drew HK.out hr)
      have HBL := Lib.hid (show (shut y.bytes).length = 64 from shut_len (by rw [Rc.bytes_len]; omega))
      obtain ⟨P, hP⟩ : ∃ P, P = put1 s (10 * l.p + (1 - l.i)) (shut y.bytes) := ⟨_, rfl⟩
      have h08 := put1_08 s (10 * l.p + (1 - l.i)) (shut y.bytes)
      rw [← hP] at h08 hRR
      have HW := Lib.hid (fun w' (hb : Below w.heap.size w w') A c (hR : Rd w' A 64 c (u8n (shut y.bytes))) (hA : ∀ b o, A = some ⟨b, o, none⟩ → ¬ F b) => write_any (H.out.dk.below hb) (H.out.lm.below hb) H.out.fa H.out.fits.1 (i := 1 - l.i) (by omega) H.out.fits.2 hR hA H.out.most)
      obtain ⟨o, ho⟩ : ∃ o, o = 1 - l.i := ⟨_, rfl⟩
      rw [← ho] at hP hRR HW
      have hcase : (l.i = 0 ∧ o = 1) ∨ (l.i = 1 ∧ o = 0) := by omega
      rw [← hP] at HW
      obtain ⟨x, hx⟩ : ∃ x, x = P.2 := ⟨_, rfl⟩
      rw [← hx] at h08 hRR HW
      have HX := Lib.hid hx
      have Ho := Lib.hid ho
      have HPP := Lib.hid hP
      rw [HV.out] at HPUT
      obtain ⟨i, hi⟩ : ∃ i, i = l.i := ⟨_, rfl⟩
      rw [← hi] at c8 hcase
      have HI := Lib.hid hi
      have hFl := Lib.hid (H.out.dk.lt)
      have haJ := Lib.hid ((H.out.lm.own a).2 rfl)
      clear HR hr HV HX0 ho hP hx hi hi1
      rcases hcase with ⟨rfl, rfl⟩ | ⟨rfl, rfl⟩ <;> rcases h08 with rfl | rfl
      all_goals
        go_enter Try.func11, Try.ntmps11
        go_wp2_with fail
        go_region
        go_wp2_with fail
        rw [HALH.out]
        refine HPUT.out.mono ?_
        rintro e w1 ⟨B, m, d, rfl, hown, hb1⟩
        obtain rfl : m = 64 := by { have h1 := hown.1; rw [u8n_len, HBL.out] at h1; omega }
        have L1 := Lib.hid (LA.out.trans (hb1.mono LA.out.size))
        have HX1 := Lib.hid (HXA.out.below hb1)
        have HBF := Lib.hid (show ∀ b o, B = some ⟨b, o, none⟩ → ¬ F b from fun b o hB hF => by
          have h1 := (hown.lt b (by rw [hB]; rfl)).1
          have h2 := hFl.out b hF
          have h3 := LA.out.size
          omega)
        have HRD := Lib.hid (Rd.own hown)
        have b8 := (L1.out.cell (p := ⟨a, 8, none⟩) hal).trans c8
        clear hb1 hown
        go_wp2_with fail
        refine (HW.out w1 L1.out B d HRD.out HBF.out).mono ?_
        rintro e w2 ⟨rfl, F1, hD1, hk1, hf1⟩
        have HK2 := Lib.hid ((Keep.of_below L1.out).trans hk1 fun i hi => .inl hi)
        have HF2 := Lib.hid (show ∀ i, F1 i → F i ∨ w.heap.size ≤ i from fun i hi => (hf1 i hi).imp id fun h => Nat.le_trans L1.out.size h)
        have HD2 := Lib.hid hD1
        have HX2 := Lib.hid (hk1.blk HX1.out fun hF => by have := hFl.out _ hF; omega)
        have HL2 := Lib.hid (hk1.blk (H.out.lm.below L1.out).blk H.out.fa)
        clear hD1 hk1 hf1
      rotate_left 1
      iterate 2
        · go_wp2
          go_ret
          rw [hRR, if_neg (by omega)]
          exact Lgo.disk H.out HD2.out HK2.out HF2.out
        rotate_left 1
      all_goals
        go_wp2_with (first
          | (refine wpList_load_blk rfl 31 _ rfl w.heap.size rfl HX2.out Try.underlying31 rfl size_rc6 ?_)
          | (refine wpList_store_part rfl 31 (.tmp 57) (.tmp 54) rfl a 2 rfl (rcells y) rfl HL2.out (by simp [lgc, rcells]) size_rc6 (RecN.one_r _) ?_; intro w3 hB3 ho3; have e8 := hB3.out.cell (i := 8) rfl; have f8 := hB3.out.frozen 8))
        go_ret
        rw [hRR, if_pos trivial]
        have hB4 := hB3.out.set 8 (.int .i64 ((1 - l.i : Nat) : Int))
        have hk4 : Keep (fun i => i = a) w2 (w3.setCell ⟨a, 8, none⟩ (.int .i64 ((1 - l.i : Nat) : Int))) := (Keep.only (F := fun i => i = a) ho3.out rfl).trans (Keep.set (F := fun i => i = a) w3 8 _ rfl) fun i hi => .inl hi
        rw [← Ho.out] at hB4 hk4
        have haF1 : ¬ F1 a := fun hF => by
          rcases HF2.out a hF with h1 | h1
          · exact H.out.fa h1
          · omega
        refine ⟨rfl, F1, J, HD2.out.keep hk4 (fun i hF (e : i = a) => haF1 (e ▸ hF)), ⟨hB4, H.out.lm.own, HK.out⟩, fun i hF hj => haF1 ((H.out.lm.own i).1 hj ▸ hF), ?_, fun i hi => (HF2.out i hi).imp .inl id, fun i hi => .inl (.inr hi)⟩
        exact (HK2.out.mono (fun _ _ h => Or.inl h)).trans (hk4.mono (G := fun i => F i ∨ J i) fun i _ (e : i = a) => .inr (e ▸ haJ.out)) fun i hi => .inl hi
    · have hRR : R = (s, l, 3) := by rw [HR.out]; unfold sv; rw [if_neg (by rw [← HQ.out]; exact hf), if_neg (by rw [← HYN.out]; exact hr)]
      have HPUT := Lib.hid (RecN.rput_no y (w.alloc (.cells (rcells y).toArray 31)).drew HK.out hr)
      rw [HV.out] at HPUT
      clear HR hr HV HK HXA HX0
      go_enter Try.func11, Try.ntmps11
      go_wp2_with fail
      go_region
      go_wp2_with fail
      rw [HALH.out]
      refine HPUT.out.mono ?_
      rintro e w1 ⟨rfl, hb1⟩
      have L1 := Lib.hid (LA.out.trans (hb1.mono LA.out.size))
      clear hb1
      go_wp2
      go_ret
      rw [hRR]
      exact Lgo.disk H.out (H.out.dk.below L1.out) (Keep.of_below L1.out) fun i hi => .inl hi
end
end Go.Proofs.Ytdmfgffjplbloaa.CmtN
