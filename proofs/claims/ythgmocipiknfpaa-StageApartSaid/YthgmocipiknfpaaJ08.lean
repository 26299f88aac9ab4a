/- A record, and a stage, put and got by the code. Conditions: numbers of 64 bits; the bytes lie as the facts say. Places in plain terms; the reference's find. No conditions. A slot's places by the reference. No conditions. A copy's place by the reference. No conditions. Places on a disk, in plain terms, and by the reference. Conditions: numbers of 64 bits where the law says so. -/
import Derived.Test.YthgmocipiknfpaaRecL
import Derived.Test.YthgmocipiknfpaaJ07
import Derived.Test.YthgmocipiknfpaaJ01
import Derived.BigQuiet
namespace Go.Proofs.Ythgmocipiknfpaa.RecN
open Go.RowKit Go.Proofs.Ythgmocipiknfpaa.Kit Go.Proofs.Ythgmocipiknfpaa.Byt Go.Proofs.Ythgmocipiknfpaa.Mem Go.Proofs.Ythgmocipiknfpaa.RecM Go.Proofs.Ythgmocipiknfpaa.RecA Go.Proofs.Ythgmocipiknfpaa.RecC Go.Proofs.Ythgmocipiknfpaa.RecG Go.Proofs.Ythgmocipiknfpaa.RecI Go.Proofs.Ythgmocipiknfpaa.RecJ Go.Proofs.Ythgmocipiknfpaa.RecK Go.Proofs.Ythgmocipiknfpaa.RecL

theorem mark_r : marks { data := #[76, 67] } 67 := rfl
theorem mark_s : marks { data := #[76, 83] } 83 := rfl
theorem size_stg : (Try.prog.info? 32).map (·.size) = some 3 := by kernel_rfl
theorem one_r (r : Rc) : ∀ u ∈ rcells r, u.oneCell' = true := by intro u hu; simp [rcells] at hu; rcases hu with rfl | rfl | rfl | rfl | rfl | rfl <;> rfl
theorem one_s (g : Sg) : ∀ u ∈ scells g, u.oneCell' = true := by intro u hu; simp [scells] at hu; rcases hu with rfl | rfl | rfl <;> rfl
def rF (r : Rc) : List (Nat × Int) := [(1, r.p), (4, r.q), (1, r.a), (1, r.c), (1, r.l), (1, r.b)]
def sF (g : Sg) : List (Nat × Int) := [(2, g.s), (2, g.z), (2, g.h)]
theorem rF_told (r : Rc) : r.bytes = [76, 67] ++ told (rF r) := by simp [told, rF, Rc.bytes]
theorem sF_told (g : Sg) : g.bytes = [76, 83] ++ told (sF g) := by simp [told, sF, Sg.bytes]
theorem rF_len (r : Rc) : (told (rF r)).length = 9 := by have h := r.bytes_len; rw [rF_told, List.length_append] at h; simp at h; omega
theorem sF_len (g : Sg) : (told (sF g)).length = 6 := by have h := g.bytes_len; rw [sF_told, List.length_append] at h; simp at h; omega
/-- Bytes in new memory, and no error. -/
def Puts (w : World) (xs : List Nat) (e : Ending) (w' : World) : Prop := ∃ B m d, e = .returned (.tuple #[.slice B m d, .int .i64 0]) ∧ w'.ownsRow w.heap.size 5 1 (.slice B m d) m (u8n xs) ∧ Below w.heap.size w w'
/-- A value, an error, and all that was there. -/
def Gets (w : World) (v : Value) (x : Int) (e : Ending) (w' : World) : Prop := e = .returned (.tuple #[v, .int .i64 x]) ∧ Below w.heap.size w w'



set_option maxRecDepth 100000 in
set_option maxHeartbeats 800000 in
theorem sput_no (r : Sg) (w : World) (hk : sok r) (hr : ¬ r.right) : Calls Try.prog 56 #[sval r] w (Gets w (.slice none 0 0) 3) := by
  have HR := Lib.hid (fun w' => rights_any r w' hk false (by simpa using hr))
  have HX := Lib.hid (Bx.new w 32 (scells r))
  clear hr hk
  obtain ⟨s, z, h⟩ := r
  show Calls _ _ #[.agg #[.int .i64 s, .int .i64 z, .int .i64 h]] w _
  go_enter Try.func56, Try.ntmps56
  go_wp2_with fail
  refine (HR.out _).mono ?_
  rintro e w1 ⟨rfl, hb1⟩
  have HX1 := Lib.hid (HX.out.step hb1)
  clear hb1 HX
  go_wp2
  go_ret2
  exact ⟨rfl, HX1.out.bel⟩
set_option maxRecDepth 100000 in
set_option maxHeartbeats 1600000 in
theorem sput_yes (r : Sg) (w : World) (hk : sok r) (hr : r.right) : Calls Try.prog 56 #[sval r] w (Puts w (shut r.bytes)) := by
  have HR := Lib.hid (fun w' => rights_any r w' hk true (by simpa using hr))
  have HX := Lib.hid (Bx.new w 32 (scells r))
  have HT := Lib.hid (sF_told r)
  have HL := Lib.hid (sF_len r)
  have HS := Lib.hid (fun g gb t' t2 w' => sector_any { data := #[76, 83] } 83 mark_s (by omega) (sF r) g gb 3 t' t2 w' rfl (by omega) (by omega))
  clear hr hk
  obtain ⟨s, z, h⟩ := r
  show Calls _ _ #[.agg #[.int .i64 s, .int .i64 z, .int .i64 h]] w _
  go_enter Try.func56, Try.ntmps56
  go_wp2_with fail
  refine (HR.out _).mono ?_
  rintro e w1 ⟨rfl, hb1⟩
  have HX1 := Lib.hid (HX.out.step hb1)
  clear hb1 HX
  go_wp2_with fail
  refine (ofStage_any w.heap.size w1).mono ?_
  rintro e w2 ⟨rfl, hb2⟩
  have HX2 := Lib.hid (HX1.out.step hb2)
  have hs2 := HX2.out.bel.size
  clear hb2 HX1
  go_wp2_with (refine wpList_store_blk rfl 92 (.tmp 4) (.tmp 8) rfl w2.heap.size rfl (fcells w.heap.size sws) rfl (Blk.new w2 92 [.pointer none, .int .i64 0, .pointer none, .int .i64 0, .pointer none, .int .i64 0]) (by rw [fcells_len]; rfl) (by rw [fcells_len]; exact size_f3) (fcells_one _ _) ?_; intro w3 hB3 ho3)
  have HL3 := Lib.hid (show Below w2.heap.size w2 w3 from ho3.out.below ((Below.refl _ _).alloc (Nat.le_refl _) _) (Nat.le_refl _) (by simp))
  have HX3 := Lib.hid (HX2.out.step HL3.out)
  refine (HS.out w.heap.size w2.heap.size _ _ w3 hB3.out HX3.out.blk (by have := HL.out; omega) _ HT.out).mono ?_
  rintro e w4 ⟨B, k, d, rfl, hown, hb4⟩
  have HO4 := Lib.hid (own_mono hown HX3.out.bel.size)
  have HL4 := Lib.hid (HX3.out.bel.trans (hb4.mono HX3.out.bel.size))
  clear hown hb4
  go_wp2
  go_ret2
  exact ⟨B, k, d, rfl, HO4.out, HL4.out⟩

set_option maxRecDepth 100000 in
set_option maxHeartbeats 3200000 in
theorem sget_any (A : Option Addr) (n c : Nat) (xs : List Nat) (w : World) (hR : Rd w A n c (u8n xs)) (hb : byt xs) :
    Calls Try.prog 29 #[.slice A n c] w (Gets w (sval (getS xs).1) (getS xs).2) := by
  have HR := Lib.hid hR
  have HBY := Lib.hid hb
  have HL0 := Lib.hid (fun g gb t' t2 (V : List Int) w' (h : Rd w' A n c (u8n xs)) (hV : V.length = 3) => lay_any A n c xs { data := #[76, 83] } 83 sws V g gb 3 8 t' t2 w' h hb mark_s (by omega) rfl hV (by omega) (by omega) (by intro x hx; simp [sws] at hx; omega) rfl (by omega))
  have hB0 := Blk.new w 32 (scells Sg.none)
  have hl0 : Below w.heap.size w (w.alloc (.cells (scells Sg.none).toArray 32)) := (Below.refl _ _).alloc (Nat.le_refl _) _
  have hB1 := Blk.new (w.alloc (.cells (scells Sg.none).toArray 32)) 32 (scells Sg.none)
  have hs1 : (w.alloc (.cells (scells Sg.none).toArray 32)).heap.size = w.heap.size + 1 := by simp
  rw [hs1] at hB1
  have hB0' := hB0.alloc (.cells (scells Sg.none).toArray 32)
  have hl1 : Below w.heap.size w ((w.alloc (.cells (scells Sg.none).toArray 32)).alloc (.cells (scells Sg.none).toArray 32)) := hl0.alloc (by rw [hs1]; omega) _
  have H0 := Lib.hid hB0'
  have H1 := Lib.hid hB1
  have HL1 := Lib.hid hl1
  obtain ⟨x, hx⟩ : ∃ x, x = wrong 83 8 xs := ⟨_, rfl⟩
  have HXW := Lib.hid hx
  rw [← hx] at HL0
  clear hB0 hB0' hB1 hl0 hl1 hs1 hR hb hx
  obtain ⟨w1, hw1⟩ : ∃ w1, w1 = ((w.alloc (.cells (scells Sg.none).toArray 32)).alloc (.cells (scells Sg.none).toArray 32)) := ⟨_, rfl⟩
  rw [← hw1] at H0 H1 HL1
  have hw1' : ((w.alloc (.cells #[.int .i64 0, .int .i64 0, .int .i64 0] 32)).alloc (.cells #[.int .i64 0, .int .i64 0, .int .i64 0] 32)) = w1 := hw1.symm
  have HW1 := Lib.hid hw1'
  clear hw1 hw1'
  go_enter Try.func29, Try.ntmps29
  go_wp2_with fail
  rw [HW1.out]
  clear HW1
  refine (ofStage_any (w.heap.size + 1) w1).mono ?_
  rintro e w2 ⟨rfl, hb2⟩
  have H02 := Lib.hid (H0.out.below hb2)
  have H12 := Lib.hid (H1.out.below hb2)
  have HL2 := Lib.hid (HL1.out.trans (hb2.mono HL1.out.size))
  have hs2 := HL2.out.size
  have hg1 := H12.out.lt
  clear hb2 H0 H1 HL1
  go_wp2_with (refine wpList_store_blk rfl 92 (.tmp 5) (.tmp 7) rfl w2.heap.size rfl (fcells (w.heap.size + 1) sws) rfl (Blk.new w2 92 [.pointer none, .int .i64 0, .pointer none, .int .i64 0, .pointer none, .int .i64 0]) (by rw [fcells_len]; rfl) (by rw [fcells_len]; exact size_f3) (fcells_one _ _) ?_; intro w3 hB3 ho3)
  have hl3 : Below w2.heap.size w2 w3 := ho3.out.below ((Below.refl _ _).alloc (Nat.le_refl _) _) (Nat.le_refl _) (by simp)
  have H03 := Lib.hid (H02.out.below hl3)
  have H13 := Lib.hid (H12.out.below hl3)
  have HL3 := Lib.hid (HL2.out.trans (hl3.mono hs2))
  clear hl3 ho3 H02 H12 HL2
  refine (HL0.out (w.heap.size + 1) w2.heap.size _ _ [0, 0, 0] w3 (HR.out.below HL3.out) rfl hB3.out H13.out (by omega)).mono ?_
  rintro e w4 ⟨rfl, hy, hno, hk4⟩
  have H04 := Lib.hid (hk4.blk H03.out (by show ¬ w.heap.size = w.heap.size + 1; omega))
  have HL4 := Lib.hid (show Below w.heap.size w w4 from HL3.out.trans (hk4.below (B := w.heap.size) (fun k hk => by rw [show k = w.heap.size + 1 from hk]; omega) HL3.out.size))
  have HY := Lib.hid hy
  clear hy hno hk4 hB3 H03 H13 HL3 HL0
  by_cases hx0 : x = 0
  · subst hx0
    have H14 := Lib.hid (show Blk w4 (w.heap.size + 1) 32 (scells (sgOf xs)) from by rw [← numsOf_s]; exact HY.out rfl)
    have HG := Lib.hid (show getS xs = if (sgOf xs).right then (sgOf xs, 0) else (Sg.none, 3) from by unfold getS; rw [← HXW.out, if_neg (by simp)])
    have HK := Lib.hid (show sok (sgOf xs) from ⟨RecF.n64_of HBY.out 2 2 (by omega), RecF.n64_of HBY.out 4 2 (by omega), RecF.n64_of HBY.out 6 2 (by omega)⟩)
    obtain ⟨br, hbr⟩ := bool_of (sgOf xs).right
    have HBR := Lib.hid hbr
    clear hbr HY
    go_wp2_with (refine wpList_load_blk rfl 32 _ rfl (w.heap.size + 1) rfl H14.out Try.underlying32 rfl size_stg ?_)
    refine (rights_any (sgOf xs) _ HK.out br HBR.out).mono ?_
    rintro e w8 ⟨rfl, hb8⟩
    have H08 := Lib.hid (H04.out.below hb8)
    have H18 := Lib.hid (H14.out.below hb8)
    have HL8 := Lib.hid (HL4.out.trans (hb8.mono HL4.out.size))
    clear hb8 H04 H14 HL4
    cases br
    · have hG : getS xs = (Sg.none, 3) := by rw [HG.out, if_neg (fun h => by have := HBR.out.2 h; cases this)]
      go_wp2_with (refine wpList_store_blk rfl 32 (.tmp 2) (.tmp 18) rfl w.heap.size rfl (scells Sg.none) rfl H08.out rfl size_stg (one_s _) ?_; intro w9 hB9 ho9)
      have e0 := hB9.out.cell (i := 0) rfl
      have e1 := hB9.out.cell (i := 1) rfl
      have e2 := hB9.out.cell (i := 2) rfl
      refine bodyPost_ret (v := .tuple #[sval Sg.none, .int .i64 3]) (by simp [results, Try.results29, go_sem, e0, e1, e2]) rfl ?_
      exact ⟨by rw [hG], ho9.out.below HL8.out (Nat.le_refl _) HL8.out.size⟩
    · have hG : getS xs = (sgOf xs, 0) := by rw [HG.out, if_pos (HBR.out.1 rfl)]
      go_wp2_with (first
        | (refine wpList_load_blk rfl 32 _ rfl (w.heap.size + 1) rfl H18.out Try.underlying32 rfl size_stg ?_)
        | (refine wpList_store_blk rfl 32 (.tmp 2) (.tmp 19) rfl w.heap.size rfl (scells (sgOf xs)) rfl H08.out rfl size_stg (one_s _) ?_; intro w9 hB9 ho9))
      have e0 := hB9.out.cell (i := 0) rfl
      have e1 := hB9.out.cell (i := 1) rfl
      have e2 := hB9.out.cell (i := 2) rfl
      refine bodyPost_ret (v := .tuple #[sval (sgOf xs), .int .i64 0]) (by simp [results, Try.results29, go_sem, sgOf, e0, e1, e2]) rfl ?_
      exact ⟨by rw [hG], ho9.out.below HL8.out (Nat.le_refl _) HL8.out.size⟩
  · have HG := Lib.hid (show getS xs = (Sg.none, x) from by unfold getS; rw [← HXW.out, if_pos hx0])
    have hxb : (x != 0) = true := by simpa using hx0
    go_wp2_with (refine wpList_store_blk rfl 32 (.tmp 2) (.tmp 13) rfl w.heap.size rfl (scells Sg.none) rfl H04.out rfl size_stg (one_s _) ?_; intro w9 hB9 ho9)
    have e0 := hB9.out.cell (i := 0) rfl
    have e1 := hB9.out.cell (i := 1) rfl
    have e2 := hB9.out.cell (i := 2) rfl
    refine bodyPost_ret (v := .tuple #[sval Sg.none, .int .i64 x]) (by simp [results, Try.results29, go_sem, e0, e1, e2]) rfl ?_
    exact ⟨by rw [HG.out], ho9.out.below HL4.out (Nat.le_refl _) HL4.out.size⟩
end Go.Proofs.Ythgmocipiknfpaa.RecN
namespace Go.Proofs.Ythgmocipiknfpaa.PlaM
open Go.RowKit Go.Proofs.Ythgmocipiknfpaa.Kit

def n64 (x : Int) : Prop := -9223372036854775808 ≤ x ∧ x ≤ 9223372036854775807
theorem below_drewN {B : Nat} {w w' : World} (h : Below B w w') (n : Nat) : Below B w (w'.drewN n) := ⟨h.os, h.tape, h.output, h.size, h.block⟩
def sec (n : Int) : Int := if n < 1 then 10 else if 4 < n then 40 else 10 * n
def fnd (p n : Int) : Int := if p < 0 ∨ 3 < p then -1 else 10 * p + n
def rC (p c : Int) : Int := if c = 0 ∨ c = 1 then fnd p c else -1
def rS (p s : Int) : Int := if s = 0 then fnd p 2 else if s = 1 then fnd p 6 else -1
def rD (p s i : Int) : Int := if rS p s < 0 ∨ i < 0 ∨ 2 < i then -1 else rS p s + 1 + i
/-- A place as it is told: 0 and false, if there is none. -/
def tv (x : Int) : Int := if x < 0 then 0 else x
def tb (x : Int) : Bool := decide (0 ≤ x)
theorem fnd_bd (p n : Int) (h : 0 ≤ n ∧ n ≤ 9) : -1 ≤ fnd p n ∧ fnd p n ≤ 39 := by unfold fnd; split <;> omega
theorem rC_bd (p c : Int) : -1 ≤ rC p c ∧ rC p c ≤ 39 := by
  unfold rC
  split
  · rename_i h; exact fnd_bd p c (by omega)
  · omega
theorem rS_bd (p s : Int) : -1 ≤ rS p s ∧ rS p s ≤ 36 := by unfold rS fnd; repeat (first | split | omega)
theorem rD_bd (p s i : Int) : -1 ≤ rD p s i ∧ rD p s i ≤ 39 := by
  have := rS_bd p s
  unfold rD
  split <;> omega

theorem ret_i {a b : Int} (h : a = b) : Ending.returned (.int .i64 a) = .returned (.int .i64 b) := by rw [h]
set_option maxRecDepth 100000 in
theorem rfind_any (p n : Int) (w : World) (hn : 0 ≤ n ∧ n ≤ 9) : Calls Try.prog 43 #[.int .i64 p, .int .i64 n] w fun e w' => e = .returned (.int .i64 (fnd p n)) ∧ w = w' := by
  by_cases h1 : p < 0
  · have H := Lib.hid (show -1 = fnd p n from by unfold fnd; rw [if_pos (Or.inl h1)])
    go_enter Try.func43, Try.ntmps43
    go_wp2
    go_ret
    exact ⟨ret_i H.out, rfl⟩
  · by_cases h4 : 3 < p
    · have H := Lib.hid (show -1 = fnd p n from by unfold fnd; rw [if_pos (Or.inr h4)])
      go_enter Try.func43, Try.ntmps43
      go_wp2
      go_ret
      exact ⟨ret_i H.out, rfl⟩
    · have H := Lib.hid (show 10 * p + n = fnd p n from by unfold fnd; rw [if_neg (by omega)])
      go_enter Try.func43, Try.ntmps43
      go_wp2
      go_ret
      exact ⟨ret_i H.out, rfl⟩
end Go.Proofs.Ythgmocipiknfpaa.PlaM
namespace Go.Proofs.Ythgmocipiknfpaa.PlaM
open Go.RowKit Go.Proofs.Ythgmocipiknfpaa.Kit

set_option maxRecDepth 100000 in
theorem rstage_any (p s : Int) (w : World) : Calls Try.prog 20 #[.int .i64 p, .int .i64 s] w fun e w' => e = .returned (.int .i64 (rS p s)) ∧ w = w' := by
  have F2 := Lib.hid (fun w' => rfind_any p 2 w' (by omega))
  have F6 := Lib.hid (fun w' => rfind_any p 6 w' (by omega))
  by_cases h0 : s = 0
  · have H := Lib.hid (show fnd p 2 = rS p s from by unfold rS; rw [if_pos h0])
    subst h0
    go_enter Try.func20, Try.ntmps20
    go_wp2_with (go_at_call 43; refine (F2.out _).mono ?_; rintro e w' ⟨rfl, rfl⟩)
    go_ret
    exact ⟨ret_i H.out, rfl⟩
  · by_cases h1 : s = 1
    · have H := Lib.hid (show fnd p 6 = rS p s from by unfold rS; rw [if_neg h0, if_pos h1])
      subst h1
      go_enter Try.func20, Try.ntmps20
      go_wp2_with (go_at_call 43; refine (F6.out _).mono ?_; rintro e w' ⟨rfl, rfl⟩)
      go_ret
      exact ⟨ret_i H.out, rfl⟩
    · have H := Lib.hid (show -1 = rS p s from by unfold rS; rw [if_neg h0, if_neg h1])
      have e0 : (s == 0) = false := by simpa using h0
      have e1 : (s == 1) = false := by simpa using h1
      go_enter Try.func20, Try.ntmps20
      go_wp2
      go_ret
      exact ⟨ret_i H.out, rfl⟩
set_option maxRecDepth 100000 in
theorem rdata_any (p s i : Int) (w : World) : Calls Try.prog 25 #[.int .i64 p, .int .i64 s, .int .i64 i] w fun e w' => e = .returned (.int .i64 (rD p s i)) ∧ w = w' := by
  have HS := Lib.hid (fun w' => rstage_any p s w')
  have hb := rS_bd p s
  have HD := Lib.hid (show rD p s i = if rS p s < 0 ∨ i < 0 ∨ 2 < i then -1 else rS p s + 1 + i from rfl)
  obtain ⟨x, hx⟩ : ∃ x, x = rS p s := ⟨_, rfl⟩
  rw [← hx] at HS HD hb
  clear hx
  by_cases h0 : x < 0
  · have H := Lib.hid (show -1 = rD p s i from by rw [HD.out, if_pos (Or.inl h0)])
    go_enter Try.func25, Try.ntmps25
    go_wp2_with (go_at_call 20; refine (HS.out _).mono ?_; rintro e w' ⟨rfl, rfl⟩)
    go_ret
    exact ⟨ret_i H.out, rfl⟩
  · by_cases h1 : i < 0
    · have H := Lib.hid (show -1 = rD p s i from by rw [HD.out, if_pos (Or.inr (Or.inl h1))])
      go_enter Try.func25, Try.ntmps25
      go_wp2_with (go_at_call 20; refine (HS.out _).mono ?_; rintro e w' ⟨rfl, rfl⟩)
      go_ret
      exact ⟨ret_i H.out, rfl⟩
    · by_cases h2 : 2 < i
      · have H := Lib.hid (show -1 = rD p s i from by rw [HD.out, if_pos (Or.inr (Or.inr h2))])
        go_enter Try.func25, Try.ntmps25
        go_wp2_with (go_at_call 20; refine (HS.out _).mono ?_; rintro e w' ⟨rfl, rfl⟩)
        go_ret
        exact ⟨ret_i H.out, rfl⟩
      · have H := Lib.hid (show x + 1 + i = rD p s i from by rw [HD.out, if_neg (by omega)])
        go_enter Try.func25, Try.ntmps25
        go_wp2_with (go_at_call 20; refine (HS.out _).mono ?_; rintro e w' ⟨rfl, rfl⟩)
        go_ret
        exact ⟨ret_i H.out, rfl⟩
end Go.Proofs.Ythgmocipiknfpaa.PlaM
namespace Go.Proofs.Ythgmocipiknfpaa.PlaM
open Go.RowKit Go.Proofs.Ythgmocipiknfpaa.Kit

end Go.Proofs.Ythgmocipiknfpaa.PlaM
namespace Go.Proofs.Ythgmocipiknfpaa.PlaM
open Go.RowKit Go.Proofs.Ythgmocipiknfpaa.Kit

end Go.Proofs.Ythgmocipiknfpaa.PlaM
