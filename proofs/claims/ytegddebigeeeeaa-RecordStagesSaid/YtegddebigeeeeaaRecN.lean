/- A record, and a stage, put and got by the code. Conditions: numbers of 64 bits; the bytes lie as the facts say. -/
import Derived.Test.YtegddebigeeeeaaRecL
import Derived.Test.YtegddebigeeeeaaRecH
import Derived.Test.YtegddebigeeeeaaRecF
namespace Go.Proofs.Ytegddebigeeeeaa.RecN
open Go.RowKit Go.Proofs.Ytegddebigeeeeaa.Kit Go.Proofs.Ytegddebigeeeeaa.Byt Go.Proofs.Ytegddebigeeeeaa.Mem Go.Proofs.Ytegddebigeeeeaa.RecM Go.Proofs.Ytegddebigeeeeaa.RecA Go.Proofs.Ytegddebigeeeeaa.RecC Go.Proofs.Ytegddebigeeeeaa.RecG Go.Proofs.Ytegddebigeeeeaa.RecI Go.Proofs.Ytegddebigeeeeaa.RecJ Go.Proofs.Ytegddebigeeeeaa.RecK Go.Proofs.Ytegddebigeeeeaa.RecL

theorem mark_r : marks { data := #[76, 67] } 67 := rfl
theorem mark_s : marks { data := #[76, 83] } 83 := rfl
theorem size_rec : (Try.prog.info? 23).map (·.size) = some 6 := by kernel_rfl
theorem size_stg : (Try.prog.info? 35).map (·.size) = some 3 := by kernel_rfl
theorem one_r (r : Rc) : ∀ u ∈ rcells r, u.oneCell' = true := by intro u hu; simp [rcells] at hu; rcases hu with rfl | rfl | rfl | rfl | rfl | rfl <;> rfl
theorem one_s (g : Sg) : ∀ u ∈ scells g, u.oneCell' = true := by intro u hu; simp [scells] at hu; rcases hu with rfl | rfl | rfl <;> rfl
def rF (r : Rc) : List (Nat × Int) := [(1, r.p), (4, r.q), (1, r.a), (1, r.c), (1, r.l), (1, r.b)]
def sF (g : Sg) : List (Nat × Int) := [(2, g.s), (2, g.z), (2, g.h)]
theorem rF_told (r : Rc) : r.bytes = [76, 67] ++ told (rF r) := by simp [told, rF, Rc.bytes]
theorem sF_told (g : Sg) : g.bytes = [76, 83] ++ told (sF g) := by simp [told, sF, Sg.bytes]
theorem rF_len (r : Rc) : (told (rF r)).length = 9 := by have h := r.bytes_len; rw [rF_told, List.length_append] at h; simp at h; omega
theorem sF_len (g : Sg) : (told (sF g)).length = 6 := by have h := g.bytes_len; rw [sF_told, List.length_append] at h; simp at h; omega
/-- Bytes in new memory, and no error. -/
def Puts (w : World) (xs : List Nat) (e : Ending) (w' : World) : Prop := ∃ B m d, e = .returned (.tuple #[.slice B m d, .int .i64 0]) ∧ w'.ownsRow w.heap.size 5 1 (.slice B m d) m (u8n xs) ∧ Below w.heap.size w w'
/-- A value, an error, and all that was there. -/
def Gets (w : World) (v : Value) (x : Int) (e : Ending) (w' : World) : Prop := e = .returned (.tuple #[v, .int .i64 x]) ∧ Below w.heap.size w w'

set_option maxRecDepth 100000 in
set_option maxHeartbeats 800000 in
theorem rput_no (r : Rc) (w : World) (hk : rok r) (hr : ¬ r.right) : Calls Try.prog 9 #[rval r] w (Gets w (.slice none 0 0) 3) := by
  have HR := Lib.hid (fun w' => right_any r w' false (by simpa using hr))
  have HX := Lib.hid (Bx.new w 23 (rcells r))
  clear hr hk
  obtain ⟨p, q, a, c, l, t⟩ := r
  show Calls _ _ #[.agg #[.int .i64 p, .int .i64 q, .int .i64 a, .int .i64 c, .int .i64 l, .int .i64 t]] w _
  go_enter Try.func9, Try.ntmps9
  go_wp2_with fail
  refine (HR.out _).mono ?_
  rintro e w1 ⟨rfl, hb1⟩
  have HX1 := Lib.hid (HX.out.step hb1)
  clear hb1 HX
  go_wp2
  go_ret2
  exact ⟨rfl, HX1.out.bel⟩
set_option maxRecDepth 100000 in
set_option maxHeartbeats 1600000 in
theorem rput_yes (r : Rc) (w : World) (hk : rok r) (hr : r.right) : Calls Try.prog 9 #[rval r] w (Puts w (shut r.bytes)) := by
  have HR := Lib.hid (fun w' => right_any r w' true (by simpa using hr))
  have HX := Lib.hid (Bx.new w 23 (rcells r))
  have HT := Lib.hid (rF_told r)
  have HL := Lib.hid (rF_len r)
  have HS := Lib.hid (fun g gb t' t2 w' => sector_any { data := #[76, 67] } 67 mark_r (by omega) (rF r) g gb 6 t' t2 w' rfl (by omega) (by omega))
  clear hr hk
  obtain ⟨p, q, a, c, l, t⟩ := r
  show Calls _ _ #[.agg #[.int .i64 p, .int .i64 q, .int .i64 a, .int .i64 c, .int .i64 l, .int .i64 t]] w _
  go_enter Try.func9, Try.ntmps9
  go_wp2_with fail
  refine (HR.out _).mono ?_
  rintro e w1 ⟨rfl, hb1⟩
  have HX1 := Lib.hid (HX.out.step hb1)
  clear hb1 HX
  go_wp2_with fail
  refine (ofRecord_any w.heap.size w1).mono ?_
  rintro e w2 ⟨rfl, hb2⟩
  have HX2 := Lib.hid (HX1.out.step hb2)
  have hs2 := HX2.out.bel.size
  clear hb2 HX1
  go_wp2_with (refine wpList_store_blk rfl 54 (.tmp 4) (.tmp 8) rfl w2.heap.size rfl (fcells w.heap.size rws) rfl (Blk.new w2 54 [.pointer none, .int .i64 0, .pointer none, .int .i64 0, .pointer none, .int .i64 0, .pointer none, .int .i64 0, .pointer none, .int .i64 0, .pointer none, .int .i64 0]) (by rw [fcells_len]; rfl) (by rw [fcells_len]; exact size_f6) (fcells_one _ _) ?_; intro w3 hB3 ho3)
  have HL3 := Lib.hid (show Below w2.heap.size w2 w3 from ho3.out.below ((Below.refl _ _).alloc (Nat.le_refl _) _) (Nat.le_refl _) (by simp))
  have HX3 := Lib.hid (HX2.out.step HL3.out)
  refine (HS.out w.heap.size w2.heap.size _ _ w3 hB3.out HX3.out.blk (by have := HL.out; omega) _ HT.out).mono ?_
  rintro e w4 ⟨B, k, d, rfl, hown, hb4⟩
  have HO4 := Lib.hid (own_mono hown HX3.out.bel.size)
  have HL4 := Lib.hid (HX3.out.bel.trans (hb4.mono HX3.out.bel.size))
  clear hown hb4
  go_wp2
  go_ret2
  exact ⟨B, k, d, rfl, HO4.out, HL4.out⟩

set_option maxRecDepth 100000 in
set_option maxHeartbeats 3200000 in
theorem rget_any (A : Option Addr) (n c : Nat) (xs : List Nat) (w : World) (hR : Rd w A n c (u8n xs)) (hb : byt xs) :
    Calls Try.prog 12 #[.slice A n c] w (Gets w (rval (getR xs).1) (getR xs).2) := by
  have HR := Lib.hid hR
  have HBY := Lib.hid hb
  have HL0 := Lib.hid (fun g gb t' t2 (V : List Int) w' (h : Rd w' A n c (u8n xs)) (hV : V.length = 6) => lay_any A n c xs { data := #[76, 67] } 67 rws V g gb 6 11 t' t2 w' h hb mark_r (by omega) rfl hV (by omega) (by omega) (by intro x hx; simp [rws] at hx; omega) rfl (by omega))
  have hB0 := Blk.new w 23 (rcells Rc.none)
  have hl0 : Below w.heap.size w (w.alloc (.cells (rcells Rc.none).toArray 23)) := (Below.refl _ _).alloc (Nat.le_refl _) _
  have hB1 := Blk.new (w.alloc (.cells (rcells Rc.none).toArray 23)) 23 (rcells Rc.none)
  have hs1 : (w.alloc (.cells (rcells Rc.none).toArray 23)).heap.size = w.heap.size + 1 := by simp
  rw [hs1] at hB1
  have hB0' := hB0.alloc (.cells (rcells Rc.none).toArray 23)
  have hl1 : Below w.heap.size w ((w.alloc (.cells (rcells Rc.none).toArray 23)).alloc (.cells (rcells Rc.none).toArray 23)) := hl0.alloc (by rw [hs1]; omega) _
  have H0 := Lib.hid hB0'
  have H1 := Lib.hid hB1
  have HL1 := Lib.hid hl1
  obtain ⟨x, hx⟩ : ∃ x, x = wrong 67 11 xs := ⟨_, rfl⟩
  have HXW := Lib.hid hx
  rw [← hx] at HL0
  clear hB0 hB0' hB1 hl0 hl1 hs1 hR hb hx
  obtain ⟨w1, hw1⟩ : ∃ w1, w1 = ((w.alloc (.cells (rcells Rc.none).toArray 23)).alloc (.cells (rcells Rc.none).toArray 23)) := ⟨_, rfl⟩
  rw [← hw1] at H0 H1 HL1
  have hw1' : ((w.alloc (.cells #[.int .i64 0, .int .i64 0, .int .i64 0, .int .i64 0, .int .i64 0, .int .i64 0] 23)).alloc (.cells #[.int .i64 0, .int .i64 0, .int .i64 0, .int .i64 0, .int .i64 0, .int .i64 0] 23)) = w1 := hw1.symm
  have HW1 := Lib.hid hw1'
  clear hw1 hw1'
  go_enter Try.func12, Try.ntmps12
  go_wp2_with fail
  rw [HW1.out]
  clear HW1
  refine (ofRecord_any (w.heap.size + 1) w1).mono ?_
  rintro e w2 ⟨rfl, hb2⟩
  have H02 := Lib.hid (H0.out.below hb2)
  have H12 := Lib.hid (H1.out.below hb2)
  have HL2 := Lib.hid (HL1.out.trans (hb2.mono HL1.out.size))
  have hs2 := HL2.out.size
  have hg1 := H12.out.lt
  clear hb2 H0 H1 HL1
  go_wp2_with (refine wpList_store_blk rfl 54 (.tmp 5) (.tmp 7) rfl w2.heap.size rfl (fcells (w.heap.size + 1) rws) rfl (Blk.new w2 54 [.pointer none, .int .i64 0, .pointer none, .int .i64 0, .pointer none, .int .i64 0, .pointer none, .int .i64 0, .pointer none, .int .i64 0, .pointer none, .int .i64 0]) (by rw [fcells_len]; rfl) (by rw [fcells_len]; exact size_f6) (fcells_one _ _) ?_; intro w3 hB3 ho3)
  have hl3 : Below w2.heap.size w2 w3 := ho3.out.below ((Below.refl _ _).alloc (Nat.le_refl _) _) (Nat.le_refl _) (by simp)
  have H03 := Lib.hid (H02.out.below hl3)
  have H13 := Lib.hid (H12.out.below hl3)
  have HL3 := Lib.hid (HL2.out.trans (hl3.mono hs2))
  clear hl3 ho3 H02 H12 HL2
  refine (HL0.out (w.heap.size + 1) w2.heap.size _ _ [0, 0, 0, 0, 0, 0] w3 (HR.out.below HL3.out) rfl hB3.out H13.out (by omega)).mono ?_
  rintro e w4 ⟨rfl, hy, hno, hk4⟩
  have H04 := Lib.hid (hk4.blk H03.out (by show ¬ w.heap.size = w.heap.size + 1; omega))
  have HL4 := Lib.hid (show Below w.heap.size w w4 from HL3.out.trans (hk4.below (B := w.heap.size) (fun k hk => by rw [show k = w.heap.size + 1 from hk]; omega) HL3.out.size))
  have HY := Lib.hid hy
  clear hy hno hk4 hB3 H03 H13 HL3 HL0
  by_cases hx0 : x = 0
  · subst hx0
    have H14 := Lib.hid (show Blk w4 (w.heap.size + 1) 23 (rcells (rcOf xs)) from by rw [← numsOf_r]; exact HY.out rfl)
    have HG := Lib.hid (show getR xs = if (rcOf xs).right then (rcOf xs, 0) else (Rc.none, 3) from by unfold getR; rw [← HXW.out, if_neg (by simp)])
    have HK := Lib.hid (trivial)
    obtain ⟨br, hbr⟩ := bool_of (rcOf xs).right
    have HBR := Lib.hid hbr
    clear hbr HY
    go_wp2_with (refine wpList_load_blk rfl 23 _ rfl (w.heap.size + 1) rfl H14.out Try.underlying23 rfl size_rec ?_)
    refine (right_any (rcOf xs) _ br HBR.out).mono ?_
    rintro e w8 ⟨rfl, hb8⟩
    have H08 := Lib.hid (H04.out.below hb8)
    have H18 := Lib.hid (H14.out.below hb8)
    have HL8 := Lib.hid (HL4.out.trans (hb8.mono HL4.out.size))
    clear hb8 H04 H14 HL4
    cases br
    · have hG : getR xs = (Rc.none, 3) := by rw [HG.out, if_neg (fun h => by have := HBR.out.2 h; cases this)]
      go_wp2_with (refine wpList_store_blk rfl 23 (.tmp 2) (.tmp 18) rfl w.heap.size rfl (rcells Rc.none) rfl H08.out rfl size_rec (one_r _) ?_; intro w9 hB9 ho9)
      have e0 := hB9.out.cell (i := 0) rfl
      have e1 := hB9.out.cell (i := 1) rfl
      have e2 := hB9.out.cell (i := 2) rfl
      have e3 := hB9.out.cell (i := 3) rfl
      have e4 := hB9.out.cell (i := 4) rfl
      have e5 := hB9.out.cell (i := 5) rfl
      refine bodyPost_ret (v := .tuple #[rval Rc.none, .int .i64 3]) (by simp [results, Try.results12, go_sem, e0, e1, e2, e3, e4, e5]) rfl ?_
      exact ⟨by rw [hG], ho9.out.below HL8.out (Nat.le_refl _) HL8.out.size⟩
    · have hG : getR xs = (rcOf xs, 0) := by rw [HG.out, if_pos (HBR.out.1 rfl)]
      go_wp2_with (first
        | (refine wpList_load_blk rfl 23 _ rfl (w.heap.size + 1) rfl H18.out Try.underlying23 rfl size_rec ?_)
        | (refine wpList_store_blk rfl 23 (.tmp 2) (.tmp 19) rfl w.heap.size rfl (rcells (rcOf xs)) rfl H08.out rfl size_rec (one_r _) ?_; intro w9 hB9 ho9))
      have e0 := hB9.out.cell (i := 0) rfl
      have e1 := hB9.out.cell (i := 1) rfl
      have e2 := hB9.out.cell (i := 2) rfl
      have e3 := hB9.out.cell (i := 3) rfl
      have e4 := hB9.out.cell (i := 4) rfl
      have e5 := hB9.out.cell (i := 5) rfl
      refine bodyPost_ret (v := .tuple #[rval (rcOf xs), .int .i64 0]) (by simp [results, Try.results12, go_sem, rcOf, e0, e1, e2, e3, e4, e5]) rfl ?_
      exact ⟨by rw [hG], ho9.out.below HL8.out (Nat.le_refl _) HL8.out.size⟩
  · have HG := Lib.hid (show getR xs = (Rc.none, x) from by unfold getR; rw [← HXW.out, if_pos hx0])
    have hxb : (x != 0) = true := by simpa using hx0
    go_wp2_with (refine wpList_store_blk rfl 23 (.tmp 2) (.tmp 13) rfl w.heap.size rfl (rcells Rc.none) rfl H04.out rfl size_rec (one_r _) ?_; intro w9 hB9 ho9)
    have e0 := hB9.out.cell (i := 0) rfl
    have e1 := hB9.out.cell (i := 1) rfl
    have e2 := hB9.out.cell (i := 2) rfl
    have e3 := hB9.out.cell (i := 3) rfl
    have e4 := hB9.out.cell (i := 4) rfl
    have e5 := hB9.out.cell (i := 5) rfl
    refine bodyPost_ret (v := .tuple #[rval Rc.none, .int .i64 x]) (by simp [results, Try.results12, go_sem, e0, e1, e2, e3, e4, e5]) rfl ?_
    exact ⟨by rw [HG.out], ho9.out.below HL4.out (Nat.le_refl _) HL4.out.size⟩

set_option maxRecDepth 100000 in
set_option maxHeartbeats 800000 in
theorem sput_no (r : Sg) (w : World) (hk : sok r) (hr : ¬ r.right) : Calls Try.prog 16 #[sval r] w (Gets w (.slice none 0 0) 3) := by
  have HR := Lib.hid (fun w' => rights_any r w' hk false (by simpa using hr))
  have HX := Lib.hid (Bx.new w 35 (scells r))
  clear hr hk
  obtain ⟨s, z, h⟩ := r
  show Calls _ _ #[.agg #[.int .i64 s, .int .i64 z, .int .i64 h]] w _
  go_enter Try.func16, Try.ntmps16
  go_wp2_with fail
  refine (HR.out _).mono ?_
  rintro e w1 ⟨rfl, hb1⟩
  have HX1 := Lib.hid (HX.out.step hb1)
  clear hb1 HX
  go_wp2
  go_ret2
  exact ⟨rfl, HX1.out.bel⟩
set_option maxRecDepth 100000 in
set_option maxHeartbeats 1600000 in
theorem sput_yes (r : Sg) (w : World) (hk : sok r) (hr : r.right) : Calls Try.prog 16 #[sval r] w (Puts w (shut r.bytes)) := by
  have HR := Lib.hid (fun w' => rights_any r w' hk true (by simpa using hr))
  have HX := Lib.hid (Bx.new w 35 (scells r))
  have HT := Lib.hid (sF_told r)
  have HL := Lib.hid (sF_len r)
  have HS := Lib.hid (fun g gb t' t2 w' => sector_any { data := #[76, 83] } 83 mark_s (by omega) (sF r) g gb 3 t' t2 w' rfl (by omega) (by omega))
  clear hr hk
  obtain ⟨s, z, h⟩ := r
  show Calls _ _ #[.agg #[.int .i64 s, .int .i64 z, .int .i64 h]] w _
  go_enter Try.func16, Try.ntmps16
  go_wp2_with fail
  refine (HR.out _).mono ?_
  rintro e w1 ⟨rfl, hb1⟩
  have HX1 := Lib.hid (HX.out.step hb1)
  clear hb1 HX
  go_wp2_with fail
  refine (ofStage_any w.heap.size w1).mono ?_
  rintro e w2 ⟨rfl, hb2⟩
  have HX2 := Lib.hid (HX1.out.step hb2)
  have hs2 := HX2.out.bel.size
  clear hb2 HX1
  go_wp2_with (refine wpList_store_blk rfl 64 (.tmp 4) (.tmp 8) rfl w2.heap.size rfl (fcells w.heap.size sws) rfl (Blk.new w2 64 [.pointer none, .int .i64 0, .pointer none, .int .i64 0, .pointer none, .int .i64 0]) (by rw [fcells_len]; rfl) (by rw [fcells_len]; exact size_f3) (fcells_one _ _) ?_; intro w3 hB3 ho3)
  have HL3 := Lib.hid (show Below w2.heap.size w2 w3 from ho3.out.below ((Below.refl _ _).alloc (Nat.le_refl _) _) (Nat.le_refl _) (by simp))
  have HX3 := Lib.hid (HX2.out.step HL3.out)
  refine (HS.out w.heap.size w2.heap.size _ _ w3 hB3.out HX3.out.blk (by have := HL.out; omega) _ HT.out).mono ?_
  rintro e w4 ⟨B, k, d, rfl, hown, hb4⟩
  have HO4 := Lib.hid (own_mono hown HX3.out.bel.size)
  have HL4 := Lib.hid (HX3.out.bel.trans (hb4.mono HX3.out.bel.size))
  clear hown hb4
  go_wp2
  go_ret2
  exact ⟨B, k, d, rfl, HO4.out, HL4.out⟩

set_option maxRecDepth 100000 in
set_option maxHeartbeats 3200000 in
theorem sget_any (A : Option Addr) (n c : Nat) (xs : List Nat) (w : World) (hR : Rd w A n c (u8n xs)) (hb : byt xs) :
    Calls Try.prog 20 #[.slice A n c] w (Gets w (sval (getS xs).1) (getS xs).2) := by
  have HR := Lib.hid hR
  have HBY := Lib.hid hb
  have HL0 := Lib.hid (fun g gb t' t2 (V : List Int) w' (h : Rd w' A n c (u8n xs)) (hV : V.length = 3) => lay_any A n c xs { data := #[76, 83] } 83 sws V g gb 3 8 t' t2 w' h hb mark_s (by omega) rfl hV (by omega) (by omega) (by intro x hx; simp [sws] at hx; omega) rfl (by omega))
  have hB0 := Blk.new w 35 (scells Sg.none)
  have hl0 : Below w.heap.size w (w.alloc (.cells (scells Sg.none).toArray 35)) := (Below.refl _ _).alloc (Nat.le_refl _) _
  have hB1 := Blk.new (w.alloc (.cells (scells Sg.none).toArray 35)) 35 (scells Sg.none)
  have hs1 : (w.alloc (.cells (scells Sg.none).toArray 35)).heap.size = w.heap.size + 1 := by simp
  rw [hs1] at hB1
  have hB0' := hB0.alloc (.cells (scells Sg.none).toArray 35)
  have hl1 : Below w.heap.size w ((w.alloc (.cells (scells Sg.none).toArray 35)).alloc (.cells (scells Sg.none).toArray 35)) := hl0.alloc (by rw [hs1]; omega) _
  have H0 := Lib.hid hB0'
  have H1 := Lib.hid hB1
  have HL1 := Lib.hid hl1
  obtain ⟨x, hx⟩ : ∃ x, x = wrong 83 8 xs := ⟨_, rfl⟩
  have HXW := Lib.hid hx
  rw [← hx] at HL0
  clear hB0 hB0' hB1 hl0 hl1 hs1 hR hb hx
  obtain ⟨w1, hw1⟩ : ∃ w1, w1 = ((w.alloc (.cells (scells Sg.none).toArray 35)).alloc (.cells (scells Sg.none).toArray 35)) := ⟨_, rfl⟩
  rw [← hw1] at H0 H1 HL1
  have hw1' : ((w.alloc (.cells #[.int .i64 0, .int .i64 0, .int .i64 0] 35)).alloc (.cells #[.int .i64 0, .int .i64 0, .int .i64 0] 35)) = w1 := hw1.symm
  have HW1 := Lib.hid hw1'
  clear hw1 hw1'
  go_enter Try.func20, Try.ntmps20
  go_wp2_with fail
  rw [HW1.out]
  clear HW1
  refine (ofStage_any (w.heap.size + 1) w1).mono ?_
  rintro e w2 ⟨rfl, hb2⟩
  have H02 := Lib.hid (H0.out.below hb2)
  have H12 := Lib.hid (H1.out.below hb2)
  have HL2 := Lib.hid (HL1.out.trans (hb2.mono HL1.out.size))
  have hs2 := HL2.out.size
  have hg1 := H12.out.lt
  clear hb2 H0 H1 HL1
  go_wp2_with (refine wpList_store_blk rfl 64 (.tmp 5) (.tmp 7) rfl w2.heap.size rfl (fcells (w.heap.size + 1) sws) rfl (Blk.new w2 64 [.pointer none, .int .i64 0, .pointer none, .int .i64 0, .pointer none, .int .i64 0]) (by rw [fcells_len]; rfl) (by rw [fcells_len]; exact size_f3) (fcells_one _ _) ?_; intro w3 hB3 ho3)
  have hl3 : Below w2.heap.size w2 w3 := ho3.out.below ((Below.refl _ _).alloc (Nat.le_refl _) _) (Nat.le_refl _) (by simp)
  have H03 := Lib.hid (H02.out.below hl3)
  have H13 := Lib.hid (H12.out.below hl3)
  have HL3 := Lib.hid (HL2.out.trans (hl3.mono hs2))
  clear hl3 ho3 H02 H12 HL2
  refine (HL0.out (w.heap.size + 1) w2.heap.size _ _ [0, 0, 0] w3 (HR.out.below HL3.out) rfl hB3.out H13.out (by omega)).mono ?_
  rintro e w4 ⟨rfl, hy, hno, hk4⟩
  have H04 := Lib.hid (hk4.blk H03.out (by show ¬ w.heap.size = w.heap.size + 1; omega))
  have HL4 := Lib.hid (show Below w.heap.size w w4 from HL3.out.trans (hk4.below (B := w.heap.size) (fun k hk => by rw [show k = w.heap.size + 1 from hk]; omega) HL3.out.size))
  have HY := Lib.hid hy
  clear hy hno hk4 hB3 H03 H13 HL3 HL0
  by_cases hx0 : x = 0
  · subst hx0
    have H14 := Lib.hid (show Blk w4 (w.heap.size + 1) 35 (scells (sgOf xs)) from by rw [← numsOf_s]; exact HY.out rfl)
    have HG := Lib.hid (show getS xs = if (sgOf xs).right then (sgOf xs, 0) else (Sg.none, 3) from by unfold getS; rw [← HXW.out, if_neg (by simp)])
    have HK := Lib.hid (show sok (sgOf xs) from ⟨RecF.n64_of HBY.out 2 2 (by omega), RecF.n64_of HBY.out 4 2 (by omega), RecF.n64_of HBY.out 6 2 (by omega)⟩)
    obtain ⟨br, hbr⟩ := bool_of (sgOf xs).right
    have HBR := Lib.hid hbr
    clear hbr HY
    go_wp2_with (refine wpList_load_blk rfl 35 _ rfl (w.heap.size + 1) rfl H14.out Try.underlying35 rfl size_stg ?_)
    refine (rights_any (sgOf xs) _ HK.out br HBR.out).mono ?_
    rintro e w8 ⟨rfl, hb8⟩
    have H08 := Lib.hid (H04.out.below hb8)
    have H18 := Lib.hid (H14.out.below hb8)
    have HL8 := Lib.hid (HL4.out.trans (hb8.mono HL4.out.size))
    clear hb8 H04 H14 HL4
    cases br
    · have hG : getS xs = (Sg.none, 3) := by rw [HG.out, if_neg (fun h => by have := HBR.out.2 h; cases this)]
      go_wp2_with (refine wpList_store_blk rfl 35 (.tmp 2) (.tmp 18) rfl w.heap.size rfl (scells Sg.none) rfl H08.out rfl size_stg (one_s _) ?_; intro w9 hB9 ho9)
      have e0 := hB9.out.cell (i := 0) rfl
      have e1 := hB9.out.cell (i := 1) rfl
      have e2 := hB9.out.cell (i := 2) rfl
      refine bodyPost_ret (v := .tuple #[sval Sg.none, .int .i64 3]) (by simp [results, Try.results20, go_sem, e0, e1, e2]) rfl ?_
      exact ⟨by rw [hG], ho9.out.below HL8.out (Nat.le_refl _) HL8.out.size⟩
    · have hG : getS xs = (sgOf xs, 0) := by rw [HG.out, if_pos (HBR.out.1 rfl)]
      go_wp2_with (first
        | (refine wpList_load_blk rfl 35 _ rfl (w.heap.size + 1) rfl H18.out Try.underlying35 rfl size_stg ?_)
        | (refine wpList_store_blk rfl 35 (.tmp 2) (.tmp 19) rfl w.heap.size rfl (scells (sgOf xs)) rfl H08.out rfl size_stg (one_s _) ?_; intro w9 hB9 ho9))
      have e0 := hB9.out.cell (i := 0) rfl
      have e1 := hB9.out.cell (i := 1) rfl
      have e2 := hB9.out.cell (i := 2) rfl
      refine bodyPost_ret (v := .tuple #[sval (sgOf xs), .int .i64 0]) (by simp [results, Try.results20, go_sem, sgOf, e0, e1, e2]) rfl ?_
      exact ⟨by rw [hG], ho9.out.below HL8.out (Nat.le_refl _) HL8.out.size⟩
  · have HG := Lib.hid (show getS xs = (Sg.none, x) from by unfold getS; rw [← HXW.out, if_pos hx0])
    have hxb : (x != 0) = true := by simpa using hx0
    go_wp2_with (refine wpList_store_blk rfl 35 (.tmp 2) (.tmp 13) rfl w.heap.size rfl (scells Sg.none) rfl H04.out rfl size_stg (one_s _) ?_; intro w9 hB9 ho9)
    have e0 := hB9.out.cell (i := 0) rfl
    have e1 := hB9.out.cell (i := 1) rfl
    have e2 := hB9.out.cell (i := 2) rfl
    refine bodyPost_ret (v := .tuple #[sval Sg.none, .int .i64 x]) (by simp [results, Try.results20, go_sem, e0, e1, e2]) rfl ?_
    exact ⟨by rw [HG.out], ho9.out.below HL4.out (Nat.le_refl _) HL4.out.size⟩
end Go.Proofs.Ytegddebigeeeeaa.RecN
