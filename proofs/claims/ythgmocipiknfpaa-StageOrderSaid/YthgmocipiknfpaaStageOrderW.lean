/- The walk of StageOrder. No conditions. -/
import Derived.Test.YthgmocipiknfpaaJ14
namespace Go.Proofs.Ythgmocipiknfpaa.StageOrderW
open Go.RowKit Go.Proofs.Ythgmocipiknfpaa.Kit Go.Proofs.Ythgmocipiknfpaa.Byt Go.Proofs.Ythgmocipiknfpaa.Mem Go.Proofs.Ythgmocipiknfpaa.DskA Go.Proofs.Ythgmocipiknfpaa.DskE Go.Proofs.Ythgmocipiknfpaa.DskF Go.Proofs.Ythgmocipiknfpaa.RecM Go.Proofs.Ythgmocipiknfpaa.StgM Go.Proofs.Ythgmocipiknfpaa.StgP Go.Proofs.Ythgmocipiknfpaa.StgQ Go.Proofs.Ythgmocipiknfpaa.StgF Go.Proofs.Ythgmocipiknfpaa.StgI Go.Proofs.Ythgmocipiknfpaa.StgN Go.Proofs.Ythgmocipiknfpaa.StgJ Go.Proofs.Ythgmocipiknfpaa.StgK Go.Proofs.Ythgmocipiknfpaa.Same Go.Proofs.Ythgmocipiknfpaa.KitG
open Go.Proofs.Ythgmocipiknfpaa.RecA (n64 sval)
open Go.Proofs.Ythgmocipiknfpaa.DskB (newSt cnt zs new_any)

/-- The blocks that were put are there, with the law's bytes. -/
structure Od (L : List Nat) (n : Int) (j : Nat) (x : Rf) : Prop where
  wf : x.wf
  has : x.has = true
  s : x.g.s = 7
  z : x.g.z = n
  each : ∀ k, k < x.bl.length → x.bl.getD k [] = [] ∨ x.bl.getD k [] = fb k 16
  put : ∀ i, i < j → ∀ h : i < L.length, L[i] % 10 < x.bl.length → x.bl.getD (L[i] % 10) [] ≠ []
theorem Od.len {L : List Nat} {n : Int} {j : Nat} {x : Rf} (h : Od L n j x) : x.bl.length = blocks n := by rw [h.wf.len h.has, h.z]
theorem right7 {n : Int} (h : 1 ≤ n ∧ n ≤ 160) : (fresh 7 n).right := by
  refine ⟨⟨by show (1 : Int) ≤ 7; omega, by show (7 : Int) ≤ 65535; omega⟩, h, by show (0 : Int) ≤ 0; omega, ?_⟩
  show (0 : Int) < 2 ^ blocks n
  have h2 : 1 ≤ 2 ^ blocks n := Nat.one_le_two_pow
  have h3 : ((2 ^ blocks n : Nat) : Int) = (2 : Int) ^ blocks n := by simp
  omega
theorem od_first (L : List Nat) {n : Int} (h : 1 ≤ n ∧ n ≤ 160) : (rB Rf.none 7 n).2 = 0 ∧ Od L n 0 (rB Rf.none 7 n).1 := by
  unfold rB
  rw [if_pos (right7 h)]
  refine ⟨rfl, fresh_wf (right7 h), rfl, rfl, rfl, fun k hk => .inl ?_, fun i hi => by omega⟩
  have hk' : k < blocks n := by simpa using hk
  show (List.replicate (blocks n) []).getD k [] = []
  rw [List.getD_eq_getElem?_getD, List.getElem?_replicate, if_pos hk']
  rfl
theorem fb_ne (k : Nat) : fb k 16 ≠ [] := fun e => by have := fb_len k 16; rw [e] at this; simp at this
theorem od_skip {L : List Nat} {n : Int} {j : Nat} {x : Rf} (h : Od L n j x) (hj : j < L.length) (hk : ¬ L[j] % 10 < x.bl.length) : Od L n (j + 1) x :=
  ⟨h.wf, h.has, h.s, h.z, h.each, fun i hi hil hlt => by
    by_cases e : i = j
    · subst e; exact absurd hlt hk
    · exact h.put i (by omega) hil hlt⟩
theorem od_put {L : List Nat} {n : Int} {j : Nat} {x : Rf} (h : Od L n j x) (hj : j < L.length) {k : Nat} (hkk : L[j] % 10 = k) (hk : k < x.bl.length) : (rP x 7 k (fb k 16)).2 = 0 ∧ Od L n (j + 1) (rP x 7 k (fb k 16)).1 := by
  have hw : StgA.rW x 7 k (fb k 16).length = 0 := by
    unfold StgA.rW
    rw [if_neg (by rw [h.has]; simp), if_neg (by rw [h.s]; simp), if_neg (by omega), if_neg (by rw [fb_len]; simp)]
  rw [StgC.rP_same hw]
  rw [show ((k : Int)).toNat = k from by omega]
  by_cases hb : x.bl.getD k [] ≠ []
  · rw [if_pos hb]
    exact ⟨rfl, h.wf, h.has, h.s, h.z, h.each, fun i hi hil hlt => by
      by_cases e : i = j
      · subst e; rw [hkk]; exact hb
      · exact h.put i (by omega) hil hlt⟩
  · rw [if_neg hb]
    have hb' : x.bl.getD k [] = [] := by simpa using hb
    have hy := rP_yes h.wf h.has hk (fb_len k 16) hb'
    refine ⟨rfl, hy.2, rfl, h.s, h.z, fun i hi => ?_, fun i hi hil hlt => ?_⟩
    · have hi' : i < x.bl.length := by simpa using hi
      show (x.bl.set k (fb k 16)).getD i [] = [] ∨ (x.bl.set k (fb k 16)).getD i [] = fb i 16
      rw [getD_set _ hk]
      by_cases e : k = i
      · rw [if_pos e, e]; exact .inr rfl
      · rw [if_neg e]; exact h.each i hi'
    · have hlt' : L[i] % 10 < x.bl.length := by simpa using hlt
      show (x.bl.set k (fb k 16)).getD (L[i] % 10) [] ≠ []
      rw [getD_set _ hk]
      by_cases e : k = L[i] % 10
      · rw [if_pos e]; exact fb_ne k
      · rw [if_neg e]
        refine h.put i ?_ hil hlt'
        by_cases e2 : i = j
        · subst e2; exact absurd hkk.symm e
        · omega
def ten : List Nat := [0, 1, 2, 3, 4, 5, 6, 7, 8, 9]
/-- The bytes of the first blocks. -/
def cat : Nat → List Nat
  | 0 => []
  | m + 1 => cat m ++ fb m 16
theorem cat_len (m : Nat) : (cat m).length = 16 * m := by
  induction m with
  | zero => rfl
  | succ m ih => unfold cat; rw [List.length_append, ih, fb_len]; omega
theorem od_all {xs : List Nat} {n : Int} {x : Rf} (hn : 1 ≤ n ∧ n ≤ 160) (h : Od (xs ++ ten) n (xs ++ ten).length x) : rY x = ((cat (blocks n)).take n.toNat, 0) := by
  have hl := h.len
  have h10 := blocks_10 hn.2
  have hall : ∀ k, k < x.bl.length → x.bl.getD k [] = fb k 16 := fun k hk => by
    have hk10 : k < 10 := by omega
    have hil : xs.length + k < (xs ++ ten).length := by rw [List.length_append]; show xs.length + k < xs.length + 10; omega
    have e : (xs ++ ten)[xs.length + k] = k := by
      rw [List.getElem_append_right (by omega)]
      have : ∀ j (hj : j < ten.length), ten[j] = j := by decide
      have h2 := this k hk10
      have h3 : ∀ m (hm : m < ten.length), m = k → ten[m] = k := fun m hm em => by subst em; exact h2
      exact h3 _ _ (by omega)
    have h1 := h.put (xs.length + k) hil hil
    rw [e, show k % 10 = k from by omega] at h1
    rcases h.each k hk with h4 | h4
    · exact absurd h4 (h1 hk)
    · exact h4
  have hflat : x.bl.flatten = cat x.bl.length := by
    have e : ∀ m, m ≤ x.bl.length → (x.bl.take m).flatten = cat m := by
      intro m
      induction m with
      | zero => intro _; simp [cat]
      | succ m ih =>
        intro hm
        rw [StgD.flat_next (by omega), ih (by omega), hall m (by omega)]
        rfl
    have := e x.bl.length (Nat.le_refl _)
    rwa [List.take_length] at this
  unfold rY
  rw [if_neg (by rw [h.has]; simp), if_neg, hflat, hl, h.z]
  intro hm
  obtain ⟨i, hi, e⟩ := mem_nil.1 hm
  rw [hall i hi] at e
  exact fb_ne i e
theorem u8_small {k : Nat} (h : k < 256) : IntKind.u8.wrap (k : Int) = (k : Int) := by rw [IntKind.wrap_u8]; omega
theorem ten_rd (w : World) : Rd (w.alloc (.cells #[.int .u8 0, .int .u8 1, .int .u8 2, .int .u8 3, .int .u8 4, .int .u8 5, .int .u8 6, .int .u8 7, .int .u8 8, .int .u8 9] 5)) (some ⟨w.heap.size, 0, none⟩) 10 10 (u8n ten) := by
  have h := own_of_block (w := w.alloc (.cells #[.int .u8 0, .int .u8 1, .int .u8 2, .int .u8 3, .int .u8 4, .int .u8 5, .int .u8 6, .int .u8 7, .int .u8 8, .int .u8 9] 5)) (g := w.heap.size) (cur := u8n ten) (e := 5) (base := w.heap.size) (n := 10) (heap_alloc_new w _) (Nat.le_refl _) (by rw [u8n_len]; decide) (by rw [u8n_len]; decide)
  rw [u8n_len, List.take_of_length_le (by rw [u8n_len]; decide)] at h
  exact Rd.own h
theorem n7 : n64 7 := by unfold n64; omega
set_option maxRecDepth 100000 in
set_option maxHeartbeats 6400000 in
theorem core (y : Nat) (A : Option Addr) (m c : Nat) (xs : List Nat) (w : World) (hy : y < 256) (hR : Rd w A m c (u8n xs)) (hx : ∀ u ∈ xs, u < 256) : Calls Try.prog 4 #[.int .u8 (y : Nat), .slice A m c] w fun e w' => e = .returned (.bool true) ∧ Below w.heap.size w w' := by
  obtain ⟨i0, hi0, hz0, hz1, hz2⟩ := info_parts NumA.info8
  have hm : xs.length = m := Rd.nats hR
  have hcap := hR.cap
  have hle := hR.le
  have HR := Lib.hid hR
  by_cases h40 : 40 < m
  · clear hm hR
    go_enter Try.func4, Try.ntmps4
    go_wp2_with (go_at_call 7; refine (wakes_any _).mono ?_; rintro e w1 ⟨rfl, hb1⟩; have L1 := Lib.hid hb1; clear hb1)
    go_ret
    exact ⟨rfl, L1.out⟩
  · have h40' : ¬ (40 : Int) < (m : Int) := by omega
    obtain ⟨r, hr⟩ : ∃ r, r = y % 160 := ⟨_, rfl⟩
    obtain ⟨n, hn⟩ : ∃ n, n = 1 + r := ⟨_, rfl⟩
    have hyr : ((y : Int)).tmod 160 = (r : Int) := by rw [Int.tmod_eq_emod_of_nonneg (by omega)]; omega
    have hrn : (1 : Int) + (r : Int) = (n : Int) := by omega
    have hn1 : 1 ≤ n ∧ n ≤ 160 := by omega
    obtain ⟨q, hq⟩ : ∃ q, q = blocks (n : Int) := ⟨_, rfl⟩
    have hnq : ((n : Int) + 15).tdiv 16 = (q : Int) := by rw [Int.tdiv_eq_ediv_of_nonneg (by omega), hq]; unfold blocks; omega
    have hq10 : q ≤ 10 := by rw [hq]; exact blocks_10 (by omega)
    have HQ := Lib.hid hq
    have HN1 := Lib.hid (show (1 : Int) ≤ (n : Int) ∧ (n : Int) ≤ 160 by omega)
    have HX := Lib.hid hx
    have HM := Lib.hid hm
    have hnn1 : (1 : Int) ≤ (n : Int) := by omega
    have hnn2 : (n : Int) ≤ 160 := by omega
    have HNC := Lib.hid (show n ≤ (cat q).length from by rw [cat_len, hq]; unfold blocks; omega)
    clear hr hn hn1 hq hx hm hR
    go_enter Try.func4, Try.ntmps4
    go_wp2_with (go_at_call 7; refine (wakes_any _).mono ?_; rintro e w1 ⟨rfl, hb1⟩; have L1 := Lib.hid hb1; clear hb1)
    refine (new_any 40 _).mono ?_
    rintro e w2 ⟨g, F2, rfl, hD2, hbl2, hf2⟩
    have HD2 := Lib.hid hD2
    have L2 := Lib.hid (L1.out.trans (hbl2.mono L1.out.size))
    have HF2 := Lib.hid (fun i hi => Nat.le_trans L1.out.size (hf2 i hi))
    clear hD2 hbl2 hf2
    go_wp2_with fail
    refine (open_any F2 g (newSt 40) 3 0 w2 HD2.out (by omega) (by omega) (by decide) rfl (by simp [newSt]) (Put2.new_byts 40)).mono ?_
    rintro e w3 ⟨a, J3, rfl, hS3, hJ3, hb3⟩
    have R3 := Lib.hid (fr_new (w0 := w) (p := 3) (k := 0) HD2.out HF2.out L2.out (by omega) (by omega) (by decide) hS3 hJ3 hb3)
    obtain ⟨Z0, hZ0⟩ : ∃ Z, Z = (newSt 40).S := ⟨_, rfl⟩
    obtain ⟨T0, hT0⟩ : ∃ Z, Z = (newSt 40) := ⟨_, rfl⟩
    rw [← hZ0, ← hT0] at R3
    clear hZ0 hT0 hS3 hJ3 hb3 HD2 L2 HF2
    go_wp2_with fail
    refine (fr_begin R3.out 7 n n7 (by unfold n64; omega)).mono ?_
    intro e w4 hgo
    obtain ⟨rfl, F4, J4, s4, hR4, _⟩ := hgo
    have hod := od_first (xs ++ ten) HN1.out
    rw [hod.1]
    have OD0 := Lib.hid hod.2
    obtain ⟨x0, hx0⟩ : ∃ x, x = (rB Rf.none 7 n).1 := ⟨_, rfl⟩
    rw [← hx0] at OD0 hR4
    have R4 := Lib.hid hR4
    have HR4 := Lib.hid (HR.out.below hR4.bel)
    clear hR4 hod hx0 R3
    go_wp2_with (first
      | (have hq := HO5; clear hq; at_builtin; refine wpList_add _ rfl (.tmp 43) (.tmp 44) _ rfl w4.heap.size 5 i0 _ 1 Try.underlying43 hi0 hz0 hz1 hz2 rfl _ m _ rfl (own_below HO5.out ((Below.refl _ _).alloc (Nat.le_refl _) _)) (some ⟨w5.heap.size, 0, none⟩) 10 10 (u8n ten) rfl (ten_rd w5) (u8n_one _) (by omega) (by omega) (by have := L5.out.size; simp; omega) ?_; intro A6 n6 c6 w6 hn6 hown6 hg6 hat6; rw [u8n_app] at hown6; have hb6 : Below w4.heap.size w4 w6 := below_add (L5.out.alloc L5.out.size _) (own_below HO5.out ((Below.refl _ _).alloc (Nat.le_refl _) _)) (Nat.le_refl _) hg6; obtain rfl : m + 10 = n6 := hn6.out.symm; have HO6 := Lib.hid hown6; have R6 := Lib.hid (R4.out.below hb6); have L6 := Lib.hid hb6; clear hown6 hg6 hat6 hb6)
      | (at_builtin; refine wpList_add _ rfl (.tmp 41) (.tmp 42) _ rfl w4.heap.size 5 i0 _ 1 Try.underlying43 hi0 hz0 hz1 hz2 rfl _ 0 [] rfl (emptied w4 _) A m c (u8n xs) rfl (HR4.out.alloc _) (u8n_one _) (by omega) (by omega) (by simp) ?_; intro A5 n5 c5 w5 hn5 hown5 hg5 hat5; have hb5 : Below w4.heap.size w4 w5 := below_add ((Below.refl _ _).alloc (Nat.le_refl _) _) (emptied w4 _) (Nat.le_refl _) hg5; obtain rfl : m = n5 := (by have := hn5.out; omega); have HO5 := Lib.hid (show w5.ownsRow w4.heap.size 5 1 (.slice A5 m c5) m (u8n xs) from (by simpa using hown5)); have L5 := Lib.hid hb5; clear hown5 hg5 hat5 hb5 hn5))
    have HRR := Lib.hid (Rd.own HO6.out)
    have hlen : (xs ++ ten).length = m + 10 := Rd.nats HRR.out
    have HLN := Lib.hid hlen
    have HNW := Lib.hid (show ∀ b o, A6 = some ⟨b, o, none⟩ → ¬ (F4 b ∨ J4 b) from fun b o e hh => by
      have h1 := (HO6.out.lt b (by rw [e]; rfl)).1
      have h2 := R4.out.lt b hh
      omega)
    have HTB := Lib.hid (show ∀ u ∈ xs ++ ten, u < 256 from fun u hu => by
      rcases List.mem_append.1 hu with h | h
      · exact HX.out u h
      · exact (show ∀ v ∈ ten, v < 256 by decide) u h)
    clear hlen R4 HR4
    go_loopw [47] (fun i' wr => ∃ (j : Nat) (F J : Nat → Prop) (s : St) (x : Rf), j ≤ m + 10 ∧ i' = .int .i64 j ∧ Hid (Fr w wr F J g a 3 0 Z0 s x) ∧ Hid (Od (xs ++ ten) n j x) ∧ Hid (Rd wr A6 (m + 10) c6 (u8n (xs ++ ten))) ∧ Hid (∀ b o, A6 = some ⟨b, o, none⟩ → ¬ (F b ∨ J b))) (fun i' _ => m + 10 - (intOf i').toNat)
    case atStart => exact ⟨0, F4, J4, s4, x0, by omega, rfl, R6, OD0, HRR, HNW⟩
    case round =>
      clear R6 OD0 HRR HNW
      obtain ⟨j, F, J, s, x, hj, rfl, RR, OD, HRR, HNW⟩ := hrel
      by_cases hlt : j < m + 10
      · obtain ⟨B, o, rfl, hc⟩ := Rd.nat HRR.out (k := j) (by rw [HLN.out]; exact hlt)
        have hub := HTB.out ((xs ++ ten)[j]'(by rw [HLN.out]; exact hlt)) (List.getElem_mem _)
        obtain ⟨u, hu⟩ : ∃ u, u = (xs ++ ten)[j]'(by rw [HLN.out]; exact hlt) := ⟨_, rfl⟩
        rw [← hu] at hc hub
        obtain ⟨k, hk⟩ : ∃ k, k = u % 10 := ⟨_, rfl⟩
        have huk : ((u : Int)).tmod 10 = (k : Int) := by rw [Int.tmod_eq_emod_of_nonneg (by omega)]; omega
        have hk10 : k < 10 := by omega
        have HK := Lib.hid (show (xs ++ ten)[j]'(by rw [HLN.out]; exact hlt) % 10 = k from by rw [← hu, hk])
        have HBL := Lib.hid (show x.bl.length = q from by rw [OD.out.len, ← HQ.out])
        have hkc := u8_small (k := k) (by omega)
        have hbk := block_lt_of_cell hc
        clear hu hk
        by_cases hkq : k < q
        · have hkqi : (k : Int) < (q : Int) := by omega
          have hp := od_put OD.out (by rw [HLN.out]; exact hlt) HK.out (by rw [HBL.out]; exact hkq)
          have HP := Lib.hid hp
          have HFI := Lib.hid (fun w' => fill_rd (b := k) (by omega) false w')
          obtain ⟨bs, hbs⟩ : ∃ bs, bs = fb k 16 := ⟨_, rfl⟩
          have HFI' : Hid (∀ w', Calls Try.prog 14 #[.int .u8 (k : Nat), .bool false] w' fun e w'' => ∃ D m d, e = .returned (.slice D m d) ∧ Rd w'' D m d (u8n bs) ∧ (∀ q o, D = some ⟨q, o, none⟩ → w'.heap.size ≤ q) ∧ Below w'.heap.size w' w'') := by rw [hbs]; exact HFI
          have HBY := Lib.hid (show byt bs from by rw [hbs]; exact fb_byt k 16)
          rw [← hbs] at HP
          clear hp hbs HFI
          go_wp2_with (first
            | (go_at_call 14; refine (HFI'.out _).mono ?_; rintro e w7 ⟨D7, m7, d7, rfl, hr7, hn7, hb7⟩; have R7 := Lib.hid (RR.out.below hb7); have HN7 := Lib.hid (fun b o (e : D7 = some ⟨b, o, none⟩) => newer RR.out hn7 b o e); have HR7 := Lib.hid hr7; have HRR7 := Lib.hid (HRR.out.below hb7); have hs7 := hb7.size; clear hr7 hn7 hb7)
            | (go_at_call 13; refine (fr_put R7.out 7 k D7 m7 d7 bs n7 (by unfold n64; omega) HR7.out HBY.out HN7.out).mono ?_; intro e w8 hgo; obtain ⟨rfl, F8, J8, s8, hR8, hk8, hg8⟩ := hgo; rw [HP.out.1]; have R8 := Lib.hid hR8; have HRR8 := Lib.hid (hk8.rd HRR7.out (fun _ b o e => HNW.out b o e)); have HG8 := Lib.hid hg8; clear hR8 hk8 hg8))
          have HNW8 := Lib.hid (show ∀ b' o', (some ⟨B, o, none⟩ : Option Addr) = some ⟨b', o', none⟩ → ¬ (F8 b' ∨ J8 b') from fun b' o' e hh => by
            rcases HG8.out b' hh with h | h
            · exact HNW.out b' o' e h
            · injection e with e
              injection e with e1 _
              omega)
          exact ⟨⟨j + 1, F8, J8, s8, (rP x 7 k bs).1, by omega, by simp, R8, Lib.hid HP.out.2, HRR8, HNW8⟩, by show m + 10 - ((j : Int) + 1).toNat < m + 10 - (j : Int).toNat; omega⟩
        · have hkqi : ¬ (k : Int) < (q : Int) := by omega
          have HOS := Lib.hid (od_skip OD.out (by rw [HLN.out]; exact hlt) (by rw [HK.out, HBL.out]; exact hkq))
          go_wp2
          exact ⟨⟨j + 1, F, J, s, x, by omega, by simp, RR, HOS, HRR, HNW⟩, by show m + 10 - ((j : Int) + 1).toNat < m + 10 - (j : Int).toNat; omega⟩
      · obtain rfl : j = m + 10 := by omega
        have hall := od_all HN1.out (by rw [HLN.out]; exact OD.out)
        rw [← HQ.out, show ((n : Int)).toNat = n from by omega] at hall
        have HY := Lib.hid hall
        clear hall OD HRR HNW HTB HLN L6 HO6 HX HM
        obtain ⟨wo, rfl⟩ : ∃ wo : World, wo = wr := ⟨_, rfl⟩
        go_wp2
        go_loopw [12, 68] (fun o' i' wx => ∃ (i mm cc : Nat) (B : Option Addr), i ≤ q ∧ i' = .int .i64 i ∧ o' = .slice B mm cc ∧ mm ≤ 160 ∧ Hid (mm = 16 * i) ∧ Hid (wx.ownsRow wo.heap.size 5 1 (.slice B mm cc) mm (u8n (cat i))) ∧ Hid (Below wo.heap.size wo wx)) (fun _ i' _ => q - (intOf i').toNat)
        case atStart => exact ⟨0, 0, 0, none, by omega, rfl, rfl, by omega, Lib.hid rfl, Lib.hid (World.ownsRow_nil _ _ _ _), Lib.hid (Below.refl _ _)⟩
        case round =>
          obtain ⟨i, mm, cc, B, hi, rfl, rfl, hmm, HM, HO, HL⟩ := hrel
          by_cases hiq : i < q
          · have hic := u8_small (k := i) (by omega)
            have HFI := Lib.hid (fun w' => fill_rd (b := i) (by omega) false w')
            obtain ⟨bs, hbs⟩ : ∃ bs, bs = fb i 16 := ⟨_, rfl⟩
            have HFI' : Hid (∀ w', Calls Try.prog 14 #[.int .u8 (i : Nat), .bool false] w' fun e w'' => ∃ D m d, e = .returned (.slice D m d) ∧ Rd w'' D m d (u8n bs) ∧ (∀ q o, D = some ⟨q, o, none⟩ → w'.heap.size ≤ q) ∧ Below w'.heap.size w' w'') := by rw [hbs]; exact HFI
            have HBS := Lib.hid (show bs.length = 16 from by rw [hbs]; exact fb_len i 16)
            have HCN := Lib.hid (show cat (i + 1) = cat i ++ bs from by rw [hbs]; rfl)
            have hmb : mm + 16 ≤ 160 := by have := HM.out; omega
            clear HFI hbs
            go_wp2_with (first
              | (go_at_call 14; refine (HFI'.out _).mono ?_; rintro e w7 ⟨D7, m7, d7, rfl, hr7, hn7, hb7⟩; obtain rfl : 16 = m7 := (by have := Rd.nats hr7; rw [HBS.out] at this; exact this); have HO7 := Lib.hid (own_below HO.out hb7); have HR7 := Lib.hid hr7; have L7 := Lib.hid (HL.out.trans (hb7.mono HL.out.size)); clear hr7 hn7 hb7)
              | (at_builtin; refine wpList_add _ rfl (.tmp 71) (.tmp 74) _ rfl wo.heap.size 5 i0 _ 1 Try.underlying43 hi0 hz0 hz1 hz2 rfl _ mm _ rfl HO7.out D7 16 d7 _ rfl HR7.out (u8n_one _) (by omega) (by omega) L7.out.size ?_; intro A8 n8 c8 w8 hn8 hown8 hg8 hat8; rw [u8n_app] at hown8; have HB8 := Lib.hid (below_add L7.out HO7.out (Nat.le_refl _) hg8); have HO8 := Lib.hid hown8; clear hown8 hg8 hat8))
            go_roundw
            case rel => (repeat apply Exists.intro); exact ⟨⟨i + 1, n8, c8, A8, by omega, by go_num, rfl, by have := hn8.out; omega, Lib.hid (by have := hn8.out; have := HM.out; omega), Lib.hid (by rw [HCN.out]; exact HO8.out), HB8⟩, rfl⟩
            case measure => simp [intOf]; omega
          · obtain rfl : i = q := by omega
            have RX := Lib.hid (RR.out.below HL.out)
            have hby := fr_bytes RX.out
            rw [HY.out] at hby
            have HBYT := Lib.hid hby
            clear hby
            go_wp2_with fail
            refine HBYT.out.mono ?_
            rintro e w9 ⟨B9, m9, d9, rfl, hr9, hb9⟩
            have HR9 := Lib.hid hr9
            have hO9 := Rd.own (own_below HO.out hb9)
            have hnm : n ≤ mm := by have := HNC.out; have := Rd.nats hO9; omega
            have hmc := hO9.le
            have hcc := hO9.cap
            obtain ⟨bb, oo, rfl, _, _⟩ := hO9.2.2.2 (by omega)
            have HT9 := Lib.hid (show Rd w9 (some ⟨bb, oo, none⟩) n cc (u8n ((cat i).take n)) from by have h := hO9.take hnm; simpa [u8n, List.map_take] using h)
            have k1 : n ≤ cc := by omega
            have k2 : (n : Int) ≤ (cc : Int) := by omega
            have L9 := Lib.hid (RX.out.bel.trans (hb9.mono RX.out.bel.size))
            clear hr9 hO9 hb9
            go_wp2_with fail
            refine (same_n HR9.out HT9.out).mono ?_
            rintro e w10 ⟨rfl, nq, rfl⟩
            rw [show decide ((cat i).take n = (cat i).take n) = true from by simp]
            go_wp2
            go_ret
            exact ⟨rfl, below_drewN L9.out _⟩
theorem hole (a0 : Int) (a1 : Option Addr) (len1 cap1 : Nat) (z1 : List Int) (w : World) (w0 : (Lit.int .u8 a0).wf = true) (w1 : Row .u8 w a1 len1 cap1 z1) :
    Calls Try.prog 4 #[.int .u8 a0, .slice a1 len1 cap1] w fun e w' => e = .returned (.bool true) ∧ Below w.heap.size w w' := by
  obtain ⟨xs, hx, hb⟩ := Row.nats w1
  obtain ⟨y, hy, rfl⟩ : ∃ y : Nat, y < 256 ∧ a0 = y := by have h := bounds_u8 w0; exact ⟨a0.toNat, by omega, by omega⟩
  exact core y a1 len1 cap1 xs w hy hx hb
end Go.Proofs.Ythgmocipiknfpaa.StageOrderW
