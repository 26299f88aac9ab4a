/- Both copies read, by the program. Conditions: log and disk lie as the facts say, the disk is up; what it holds is bytes. -/
import Derived.Test.YtdmfgffjplbloaaCmtN2
namespace Go.Proofs.Ytdmfgffjplbloaa.CmtN
open Go.RowKit Go.Proofs.Ytdmfgffjplbloaa.Kit Go.Proofs.Ytdmfgffjplbloaa.Byt Go.Proofs.Ytdmfgffjplbloaa.Mem Go.Proofs.Ytdmfgffjplbloaa.DskA Go.Proofs.Ytdmfgffjplbloaa.DskC Go.Proofs.Ytdmfgffjplbloaa.DskD Go.Proofs.Ytdmfgffjplbloaa.DskE Go.Proofs.Ytdmfgffjplbloaa.DskF Go.Proofs.Ytdmfgffjplbloaa.RecM Go.Proofs.Ytdmfgffjplbloaa.CmtM Go.Proofs.Ytdmfgffjplbloaa.StgM
open Go.Proofs.Ytdmfgffjplbloaa.RecA (rval rcells rok)

theorem size_two : (Try.prog.info? 65).map (·.size) = some 12 := by kernel_rfl
def zer : List Value := rcells Rc.none ++ rcells Rc.none
/-- What the array has when so many copies were read. -/
def hcs (c d : Rc) (k : Nat) : List Value := if k = 0 then zer else if k = 1 then rcells c ++ rcells Rc.none else rcells c ++ rcells d
theorem one_two (c d : Rc) : ∀ u ∈ rcells c ++ rcells d, u.oneCell' = true := by
  intro u hu
  rcases List.mem_append.1 hu with h | h
  · exact RecN.one_r c u h
  · exact RecN.one_r d u h
theorem hcs_none {c d y : Rc} {k : Nat} (hk : k < 2) (hc : k = 0 → y = c) (hd : k = 1 → y = d) (hy : y = Rc.none) : hcs c d k = hcs c d (k + 1) := by
  rcases (show k = 0 ∨ k = 1 by omega) with rfl | rfl
  · rw [show c = Rc.none from (hc rfl).symm.trans hy]; rfl
  · rw [show d = Rc.none from (hd rfl).symm.trans hy]; rfl
theorem hcs_yes {c d y : Rc} {k : Nat} (hk : k < 2) (hc : k = 0 → y = c) (hd : k = 1 → y = d) : splice (hcs c d k) (6 * k) (rcells y) = hcs c d (k + 1) := by
  rcases (show k = 0 ∨ k = 1 by omega) with rfl | rfl
  · rw [show y = c from hc rfl]; rfl
  · rw [show y = d from hd rfl]; rfl
theorem hcs_len (c d : Rc) (k : Nat) : (hcs c d k).length = 12 := by
  unfold hcs
  split
  · rfl
  · split <;> rfl
section
variable {w : World} {F J : Nat → Prop} {a g : Nat} {s : St} {l : Lg}
set_option maxRecDepth 100000 in
set_option maxHeartbeats 3200000 in
theorem held_any (hD : Dk w F g s) (h : Lm w J a g l) (hp : l.p ≤ 3) (hf : 10 * l.p + 2 ≤ s.S.length) (hu : s.down = false) (hL : s.L.length ≤ 1000000) (hb : ∀ i, byt (now s i)) :
    Calls Try.prog 29 #[.pointer (some ⟨a, 0, none⟩)] w fun e w' => e = .returned (.tuple #[.agg (rcells (cp l.p (now s (10 * l.p))) ++ rcells (cp l.p (now s (10 * l.p + 1)))).toArray, .int .i64 0]) ∧ Below w.heap.size w w' := by
  obtain ⟨c0, c1, _, _⟩ := h.cells
  have hal := h.blk.lt
  have H := Lib.hid h
  have HP3 := Lib.hid hp
  have HRD := Lib.hid (fun k w' (hk : k ≤ 1) (hb : Below w.heap.size w w') => read_ok F g s (10 * l.p + k) w' (hD.below hb) (by omega) hu (by omega))
  have HBY := Lib.hid hb
  obtain ⟨p, hpp⟩ : ∃ p, p = l.p := ⟨_, rfl⟩
  rw [← hpp] at c1 HRD ⊢
  have HPP := Lib.hid hpp
  clear hD h hp hf hu hL hb hpp
  obtain ⟨x0, hx0⟩ : ∃ x0, x0 = now s (10 * p) := ⟨_, rfl⟩
  obtain ⟨x1, hx1⟩ : ∃ x1, x1 = now s (10 * p + 1) := ⟨_, rfl⟩
  rw [← hx0, ← hx1]
  have HX := Lib.hid (And.intro hx0 hx1)
  clear hx0 hx1
  obtain ⟨c, hc⟩ : ∃ c, c = cp p x0 := ⟨_, rfl⟩
  obtain ⟨d, hd⟩ : ∃ d, d = cp p x1 := ⟨_, rfl⟩
  rw [← hc, ← hd]
  have HCD := Lib.hid (And.intro hc hd)
  clear hc hd
  have L0 := Lib.hid (show Below w.heap.size w ((w.alloc (.cells zer.toArray 65)).alloc (.cells zer.toArray 65)) from ((Below.refl _ _).alloc (Nat.le_refl _) _).alloc (by rw [World.size_alloc]; omega) _)
  have B0 := Lib.hid (show Blk ((w.alloc (.cells zer.toArray 65)).alloc (.cells zer.toArray 65)) w.heap.size 65 zer from (Blk.new w _ _).alloc _)
  have B1 := Lib.hid (show Blk ((w.alloc (.cells zer.toArray 65)).alloc (.cells zer.toArray 65)) (w.heap.size + 1) 65 zer from by have := Blk.new (w.alloc (.cells zer.toArray 65)) 65 zer; rw [World.size_alloc] at this; exact this)
  go_enter Try.func29, Try.ntmps29
  go_wp2
  obtain ⟨w0, hw0⟩ : ∃ w0, w0 = (w.alloc (.cells zer.toArray 65)).alloc (.cells zer.toArray 65) := ⟨_, rfl⟩
  rw [← hw0] at L0 B0 B1
  have hw0' : (w.alloc (.cells #[.int .i64 0, .int .i64 0, .int .i64 0, .int .i64 0, .int .i64 0, .int .i64 0, .int .i64 0, .int .i64 0, .int .i64 0, .int .i64 0, .int .i64 0, .int .i64 0] 65)).alloc (.cells #[.int .i64 0, .int .i64 0, .int .i64 0, .int .i64 0, .int .i64 0, .int .i64 0, .int .i64 0, .int .i64 0, .int .i64 0, .int .i64 0, .int .i64 0, .int .i64 0] 65) = w0 := hw0.symm
  rw [hw0']
  clear hw0 hw0'
  go_loopw [10] (fun i wr => ∃ (k : Nat), k ≤ 2 ∧ i = .int .i64 k ∧ Hid (Below w.heap.size w wr) ∧ Hid (Blk wr w.heap.size 65 zer) ∧ Hid (Blk wr (w.heap.size + 1) 65 (hcs c d k))) (fun i _ => 2 - (intOf i).toNat)
  case atStart => exact ⟨0, by omega, rfl, L0, B0, B1⟩
  case round =>
    obtain ⟨k, hk, rfl, HL, HB, HC⟩ := hrel
    by_cases hlt : k < 2
    · have HS := Lib.hid (sector_any ((H.out.below HL.out).below ((Below.refl wr.heap.size wr).drew)) HP3.out (i := k) (by omega))
      rw [← HPP.out] at HS
      obtain ⟨xs, hxs⟩ : ∃ xs, xs = now s (10 * p + k) := ⟨_, rfl⟩
      have HR := Lib.hid (fun w' hw => HRD.out k w' (by omega) hw)
      rw [← hxs] at HR
      have HBX := Lib.hid (hxs ▸ HBY.out (10 * p + k))
      obtain ⟨q, hq⟩ : ∃ q, q = 10 * p + k := ⟨_, rfl⟩
      rw [← hq] at HR HS
      have d0 := (HL.out.cell (p := ⟨a, 0, none⟩) hal).trans c0
      have d1 := (HL.out.cell (p := ⟨a, 1, none⟩) hal).trans c1
      have hal' : a < wr.heap.size := Nat.lt_of_lt_of_le hal HL.out.size
      have HXQ := Lib.hid (And.intro hxs hq)
      clear hxs hq c0 c1
      go_wp2_with fail
      go_region_held3 (fun w' => w'.cell? ⟨a, 0, none⟩ = some (.pointer (some ⟨g, 0, none⟩)))
        (first
         | go_keep
         | (rw [hb1.cell (by simpa using hal')]; assumption)
         | (rw [hb2.cell (by simpa using hal1)]; assumption))
        ((first
          | (have hq := HB1; clear hq; go_at_call 19; refine (HR.out _ HB1.out).mono ?_; rintro e w2 ⟨A, rfl, hown, hb2⟩; have HB2 := Lib.hid hb2; have HOW := Lib.hid hown; clear hown)
          | (go_at_call 40; refine HS.out.mono ?_; rintro e w1 ⟨rfl, hb1⟩; have HB1 := Lib.hid (show Below w.heap.size w w1 from HL.out.trans ((((Below.refl wr.heap.size wr).drew).trans hb1).mono HL.out.size)); have hal1 : a < w1.heap.size := Nat.lt_of_lt_of_le hal HB1.out.size)))
      have HG := Lib.hid (fun w' (h : Rd w' A 64 64 (u8n xs)) => RecN.rget_any A 64 64 xs w' h HBX.out)
      have HCP := Lib.hid (show cp (p : Int) xs = if (getR xs).2 ≠ 0 ∨ (getR xs).1.p ≠ p then Rc.none else (getR xs).1 from rfl)
      obtain ⟨G, hG⟩ : ∃ G, G = (getR xs).1 := ⟨_, rfl⟩
      obtain ⟨x, hx⟩ : ∃ x, x = (getR xs).2 := ⟨_, rfl⟩
      rw [← hG, ← hx] at HG HCP
      clear hG hx
      obtain ⟨gp, gq, ga, gc, gl, gb⟩ := G
      have T1 : Below wr.heap.size wr w1 := ((Below.refl wr.heap.size wr).drew).trans hb1
      have T2 := T1.trans (HB2.out.mono T1.size)
      have HT2 := Lib.hid T2
      clear T1 T2 hb1 hb2 HB1 HB2 HR HS HRD
      go_wp2_with fail
      refine (HG.out w2 (Rd.own HOW.out)).mono ?_
      rintro e w3 ⟨rfl, hb3⟩
      have HT3 := Lib.hid (HT2.out.trans (hb3.mono HT2.out.size))
      have e1 := (HT3.out.cell (p := ⟨a, 1, none⟩) hal').trans d1
      have hal3 : a < w3.heap.size := Nat.lt_of_lt_of_le hal' HT3.out.size
      clear hb3 HT2 HOW d0 d1 HG
      have HB4 := Lib.hid ((HB.out.below HT3.out).alloc (.cells (rcells ⟨gp, gq, ga, gc, gl, gb⟩).toArray 31))
      have HC4 := Lib.hid ((HC.out.below HT3.out).alloc (.cells (rcells ⟨gp, gq, ga, gc, gl, gb⟩).toArray 31))
      have HL4 := Lib.hid (HL.out.trans ((HT3.out.alloc HT3.out.size (.cells (rcells ⟨gp, gq, ga, gc, gl, gb⟩).toArray 31)).mono HL.out.size))
      have HY := Lib.hid (show (k = 0 → cp (p : Int) xs = c) ∧ (k = 1 → cp (p : Int) xs = d) from ⟨fun h => by rw [HCD.out.1, HX.out.1, HXQ.out.1, h]; rfl, fun h => by rw [HCD.out.2, HX.out.2, HXQ.out.1, h]⟩)
      by_cases hx : x = 0
      · subst hx
        by_cases hgp : gp = p
        · subst hgp
          have HGC := Lib.hid (show cp (p : Int) xs = ⟨p, gq, ga, gc, gl, gb⟩ from by rw [HCP.out, if_neg (by simp)])
          rw [HGC.out] at HY
          have HYS := Lib.hid (hcs_yes hlt HY.out.1 HY.out.2)
          rcases (show k = 0 ∨ k = 1 by omega) with rfl | rfl
          · go_wp2
            go_region
            go_wp2_with (refine wpList_store_part rfl 31 (.tmp 46) (.tmp 45) rfl (w.heap.size + 1) 0 rfl (rcells ⟨p, gq, ga, gc, gl, gb⟩) rfl HC4.out (by rw [hcs_len]; simp [rcells]) size_rc6 (RecN.one_r _) ?_; intro w5 hB5 ho5)
            go_roundw
            case rel =>
              have hB6 := hB5.out
              have h6 := HYS.out
              have hn : ¬ w.heap.size = w.heap.size + 1 := by omega
              refine ⟨1, by omega, by go_num, Lib.hid (ho5.out.below HL4.out.drew (by omega) (HL4.out.drew).size), Lib.hid (ho5.out.blk HB4.out hn), Lib.hid ?_⟩
              rw [← h6]
              exact hB6
            case measure => simp [intOf]
          · go_wp2
            go_region
            go_wp2_with (refine wpList_store_part rfl 31 (.tmp 46) (.tmp 45) rfl (w.heap.size + 1) 6 rfl (rcells ⟨p, gq, ga, gc, gl, gb⟩) rfl HC4.out (by rw [hcs_len]; simp [rcells]) size_rc6 (RecN.one_r _) ?_; intro w5 hB5 ho5)
            go_roundw
            case rel =>
              have hB6 := hB5.out
              have h6 := HYS.out
              have hn : ¬ w.heap.size = w.heap.size + 1 := by omega
              refine ⟨2, by omega, by go_num, Lib.hid (ho5.out.below HL4.out.drew (by omega) (HL4.out.drew).size), Lib.hid (ho5.out.blk HB4.out hn), Lib.hid ?_⟩
              rw [← h6]
              exact hB6
            case measure => simp [intOf]
        · have HNO := Lib.hid (hcs_none hlt HY.out.1 HY.out.2 (by rw [HCP.out, if_pos (.inr hgp)]))
          go_wp2
          go_region
          go_wp2
          go_roundw
          case rel => exact ⟨k + 1, by omega, by go_num, Lib.hid HL4.out.drew, Lib.hid HB4.out, Lib.hid (HNO.out ▸ HC4.out)⟩
          case measure => simp [intOf]; omega
      · have HNO := Lib.hid (hcs_none hlt HY.out.1 HY.out.2 (by rw [HCP.out, if_pos (.inl hx)]))
        have hxb : (x == 0) = false := by simpa using hx
        go_wp2
        go_region
        go_wp2
        go_roundw
        case rel => exact ⟨k + 1, by omega, by go_num, Lib.hid HL4.out.drew, Lib.hid HB4.out, Lib.hid (HNO.out ▸ HC4.out)⟩
        case measure => simp [intOf]; omega
    · obtain rfl : k = 2 := by omega
      have HT := Lib.hid (show Blk wr (w.heap.size + 1) 65 (rcells c ++ rcells d) from HC.out)
      clear HC
      go_wp2_with (first
        | (refine wpList_load_blk rfl 65 _ rfl (w.heap.size + 1) rfl HT.out Try.underlying65 rfl size_two ?_)
        | (refine wpList_store_blk rfl 65 (.tmp 2) (.tmp 48) rfl w.heap.size rfl (rcells c ++ rcells d) rfl HB.out rfl size_two (one_two c d) ?_; intro w9 hB9 ho9))
      have e0 := hB9.out.cell (i := 0) rfl
      have e1 := hB9.out.cell (i := 1) rfl
      have e2 := hB9.out.cell (i := 2) rfl
      have e3 := hB9.out.cell (i := 3) rfl
      have e4 := hB9.out.cell (i := 4) rfl
      have e5 := hB9.out.cell (i := 5) rfl
      have e6 := hB9.out.cell (i := 6) rfl
      have e7 := hB9.out.cell (i := 7) rfl
      have e8 := hB9.out.cell (i := 8) rfl
      have e9 := hB9.out.cell (i := 9) rfl
      have ea := hB9.out.cell (i := 10) rfl
      have eb := hB9.out.cell (i := 11) rfl
      refine bodyPost_ret (v := .tuple #[.agg (rcells c ++ rcells d).toArray, .int .i64 0]) (by simp [results, Try.results29, go_sem, rcells, e0, e1, e2, e3, e4, e5, e6, e7, e8, e9, ea, eb]) rfl ?_
      exact ⟨rfl, ho9.out.below HL.out (Nat.le_refl _) HL.out.size⟩
end
end Go.Proofs.Ytdmfgffjplbloaa.CmtN
