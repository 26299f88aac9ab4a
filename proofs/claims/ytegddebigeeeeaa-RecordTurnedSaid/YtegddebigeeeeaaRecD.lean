/- The bytes of a record and of a stage, by the reference. Conditions: they are right. -/
import Derived.Test.YtegddebigeeeeaaRecC
import Derived.Laws.Cover3
namespace Go.Proofs.Ytegddebigeeeeaa.RecD
open Go.RowKit Go.Proofs.Ytegddebigeeeeaa.Kit Go.Proofs.Ytegddebigeeeeaa.Byt Go.Proofs.Ytegddebigeeeeaa.Mem Go.Proofs.Ytegddebigeeeeaa.RecM Go.Proofs.Ytegddebigeeeeaa.RecA Go.Proofs.Ytegddebigeeeeaa.RecC

theorem own_lit {w : World} (xs : List Nat) {n : Nat} (hn : xs.length = n) (h63 : n ≤ 1000) : (w.alloc (.cells (u8n xs).toArray 5)).ownsRow w.heap.size 5 1 (.slice (some ⟨w.heap.size, 0, none⟩) n n) n (u8n xs) := by
  have h := own_of_block (w := w.alloc (.cells (u8n xs).toArray 5)) (g := w.heap.size) (cur := u8n xs) (e := 5) (base := w.heap.size) (n := n) (heap_alloc_new w _) (Nat.le_refl _) (by rw [u8n_len]; omega) (by rw [u8n_len]; omega)
  rw [u8n_len, hn, List.take_of_length_le (by rw [u8n_len]; omega)] at h
  exact h
theorem Bx.cells6 {w wr : World} {g : Nat} {t : TypeId} {r : Rc} (h : Bx w g t (rcells r) wr) : wr.cell? ⟨g, 0, none⟩ = some (.int .i64 r.p) ∧ wr.cell? ⟨g, 1, none⟩ = some (.int .i64 r.q) ∧ wr.cell? ⟨g, 2, none⟩ = some (.int .i64 r.a) ∧ wr.cell? ⟨g, 3, none⟩ = some (.int .i64 r.c) ∧ wr.cell? ⟨g, 4, none⟩ = some (.int .i64 r.l) ∧ wr.cell? ⟨g, 5, none⟩ = some (.int .i64 r.b) :=
  ⟨h.blk.cell rfl, h.blk.cell rfl, h.blk.cell rfl, h.blk.cell rfl, h.blk.cell rfl, h.blk.cell rfl⟩
theorem Bx.cells3 {w wr : World} {g : Nat} {t : TypeId} {r : Sg} (h : Bx w g t (scells r) wr) : wr.cell? ⟨g, 0, none⟩ = some (.int .i64 r.s) ∧ wr.cell? ⟨g, 1, none⟩ = some (.int .i64 r.z) ∧ wr.cell? ⟨g, 2, none⟩ = some (.int .i64 r.h) :=
  ⟨h.blk.cell rfl, h.blk.cell rfl, h.blk.cell rfl⟩

set_option maxRecDepth 100000 in
set_option maxHeartbeats 1600000 in
theorem rbytes_any (r : Rc) (w : World) (hr : r.right) : Calls Try.prog 14 #[rval r] w (Gives w (shut r.bytes)) := by
  obtain ⟨i0, hi0, hz0, hz1, hz2⟩ := info_parts NumA.info8
  obtain ⟨p, q, a, c, l, b, rfl⟩ := Rc.nats hr
  have HE := Lib.hid (show Rc.bytes ⟨p, q, a, c, l, b⟩ = [76, 67, p] ++ pbn (q : Int) 4 ++ [a, c, l, b] from by
    obtain ⟨⟨h1, h2, h3, h4⟩, h5, h6, _⟩ := hr
    dsimp only at h1 h2 h3 h4 h5 h6
    unfold Rc.bytes
    rw [pbn1 p (by omega), pbn1 a (by omega), pbn1 c (by omega), pbn1 l (by omega), pbn1 b (by omega)]
    simp)
  have HS := Lib.hid (fun (A : Option Addr) (n k : Nat) w' (h : Rd w' A n k (u8n (Rc.bytes ⟨p, q, a, c, l, b⟩))) => rsealed_any A n k _ w' h (Rc.bytes_lt _) (by rw [Rc.bytes_len]; omega))
  have HX := Lib.hid (Bx.new w 23 (rcells ⟨p, q, a, c, l, b⟩))
  obtain ⟨⟨h1, h2, h3, h4⟩, h5, h6, _⟩ := hr
  dsimp only at h1 h2 h3 h4 h5 h6
  have wp : IntKind.u8.wrap (p : Int) = (p : Int) := by rw [IntKind.wrap_u8]; omega
  have wa : IntKind.u8.wrap (a : Int) = (a : Int) := by rw [IntKind.wrap_u8]; omega
  have wc : IntKind.u8.wrap (c : Int) = (c : Int) := by rw [IntKind.wrap_u8]; omega
  have wl : IntKind.u8.wrap (l : Int) = (l : Int) := by rw [IntKind.wrap_u8]; omega
  have wb : IntKind.u8.wrap (b : Int) = (b : Int) := by rw [IntKind.wrap_u8]; omega
  show Calls _ _ #[.agg #[.int .i64 (p : Int), .int .i64 (q : Int), .int .i64 (a : Int), .int .i64 (c : Int), .int .i64 (l : Int), .int .i64 (b : Int)]] w _
  go_enter Try.func14, Try.ntmps14
  go_wp2_with fail
  have hw1 : (w.alloc (.cells (rcells ⟨p, q, a, c, l, b⟩).toArray 23)) = w.alloc (.cells #[.int .i64 (p : Int), .int .i64 (q : Int), .int .i64 (a : Int), .int .i64 (c : Int), .int .i64 (l : Int), .int .i64 (b : Int)] 23) := rfl
  rw [hw1] at HX
  have hsz : (w.alloc (.cells #[.int .i64 (p : Int), .int .i64 (q : Int), .int .i64 (a : Int), .int .i64 (c : Int), .int .i64 (l : Int), .int .i64 (b : Int)] 23)).heap.size = w.heap.size + 1 := by simp
  obtain ⟨w1, hw1e⟩ : ∃ w1, w1 = w.alloc (.cells #[.int .i64 (p : Int), .int .i64 (q : Int), .int .i64 (a : Int), .int .i64 (c : Int), .int .i64 (l : Int), .int .i64 (b : Int)] 23) := ⟨_, rfl⟩
  have hlit : (#[.int .u8 76, .int .u8 67, .int .u8 (p : Int)] : Array Value) = (u8n [76, 67, p]).toArray := by simp [u8n]
  rw [hlit, ← hw1e]
  rw [← hw1e] at HX hsz
  have HO2 := Lib.hid (own_lit (w := w1) [76, 67, p] (n := 3) rfl (by omega))
  have hb2 : Below w1.heap.size w1 (w1.alloc (.cells (u8n [76, 67, p]).toArray 5)) := (Below.refl _ _).alloc (Nat.le_refl _) _
  rw [hsz] at HO2
  obtain ⟨w2, hw2e⟩ : ∃ w2, w2 = w1.alloc (.cells (u8n [76, 67, p]).toArray 5) := ⟨_, rfl⟩
  rw [← hw2e] at HO2 hb2 ⊢
  clear hw1 hw1e hw2e hlit
  refine (NumR.rput_any (q : Int) 4 _ (by omega)).mono ?_
  rintro e w3 ⟨A3, n3, c3, hn3, rfl, ho3, hb3⟩
  have hr3 := Rd.own ho3
  rw [← pbn_nl, ← nl_u8s] at hr3
  obtain ⟨E, hE⟩ : ∃ E, E = pbn (q : Int) 4 := ⟨_, rfl⟩
  have hel : E.length = 4 := by rw [hE, pbn_len]; rfl
  rw [← hE] at hr3 HE
  obtain rfl : 4 = n3 := by have := Rd.nats hr3; omega
  have HO3 := Lib.hid (own_below HO2.out hb3)
  have HB3 := Lib.hid (hb2.trans (hb3.mono hb2.size))
  have HR3 := Lib.hid hr3
  clear hn3 ho3 hb3 hb2 hr3 hE HO2
  have HL := Lib.hid (fun w' : World => (show (w'.alloc (.cells #[.int .u8 (a : Int), .int .u8 (c : Int), .int .u8 (l : Int), .int .u8 (b : Int)] 5)).ownsRow w'.heap.size 5 1 (.slice (some ⟨w'.heap.size, 0, none⟩) 4 4) 4 (u8n [a, c, l, b]) from own_lit [a, c, l, b] rfl (by omega)))
  have HT := Lib.hid (fun (w' : World) (v : Obj) => (show Below w'.heap.size w' (w'.alloc v) from (Below.refl _ _).alloc (Nat.le_refl _) _))
  go_wp2_with (first
    | (at_builtin; refine wpList_add _ rfl (.tmp 8) (.tmp 11) _ rfl (w.heap.size + 1) 5 i0 _ 1 Try.underlying25 hi0 hz0 hz1 hz2 rfl _ 3 (u8n [76, 67, p]) rfl HO3.out A3 4 c3 (u8n E) rfl HR3.out (u8n_one _) (by omega) (by omega) (by have := HB3.out.size; omega) ?_; intro A4 n4 c4 w4 hn4 hown4 hg4 hat4; have hb4 : Below w1.heap.size w1 w4 := below_add HB3.out HO3.out (by omega) hg4; clear hat4 hg4; obtain rfl : n4 = 7 := (by have := hn4.out; omega); have HO4 := Lib.hid hown4; have HB4 := Lib.hid hb4; obtain ⟨e0, e1, e2, e3, e4, e5⟩ := Bx.cells6 (HX.out.step hb4); dsimp only at e0 e1 e2 e3 e4 e5; clear hown4 hb4 hn4)
    | (at_builtin; refine wpList_add _ rfl (.tmp 13) (.tmp 26) _ rfl (w.heap.size + 1) 5 i0 _ 1 Try.underlying25 hi0 hz0 hz1 hz2 rfl _ 7 (u8n [76, 67, p] ++ u8n E) rfl (own_below HO4.out (HT.out _ _)) _ 4 4 (u8n [a, c, l, b]) rfl (Rd.own (HL.out _)) (u8n_one _) (by omega) (by omega) (by have h1 := HB4.out.size; have h2 := (HT.out w4 (.cells #[.int .u8 (a : Int), .int .u8 (c : Int), .int .u8 (l : Int), .int .u8 (b : Int)] 5)).size; omega) ?_; intro A6 n6 c6 w6 hn6 hown6 hg6 hat6; have hb6 : Below w1.heap.size w1 w6 := below_add (HB4.out.trans ((HT.out _ _).mono HB4.out.size)) (own_below HO4.out (HT.out _ _)) (by omega) hg6; clear hat6 hg6; obtain rfl : n6 = 11 := (by have := hn6.out; omega); have HO6 := Lib.hid hown6; have HB6 := Lib.hid hb6; clear hown6 hb6 hn6)
    | (go_at_call 22; refine (HS.out _ _ _ _ (by have h := Rd.own HO6.out; rw [u8n_app, u8n_app, ← HE.out] at h; exact h)).mono ?_; rintro e w7 ⟨A7, n7, c7, rfl, ho7, hb7⟩))
  go_ret
  exact ⟨A7, n7, c7, rfl, own_mono ho7 (by have := HB6.out.size; omega), HX.out.bel.trans ((HB6.out.trans (hb7.mono HB6.out.size)).mono (by omega))⟩
theorem put2 (x : Nat) (w : World) (hx : x < 65536) : Calls Try.prog 32 #[.int .i64 x, .int .i64 2] w fun e w' => ∃ A c, e = .returned (.slice A 2 c) ∧ Rd w' A 2 c (u8n (pbn x 2)) ∧ Below w.heap.size w w' := by
  refine (NumR.rput_any (x : Int) 2 _ (by omega)).mono ?_
  rintro e w3 ⟨A3, n3, c3, hn3, rfl, ho3, hb3⟩
  have hr3 := Rd.own ho3
  rw [← pbn_nl, ← nl_u8s] at hr3
  obtain rfl : 2 = n3 := by
    have h1 := Rd.nats hr3
    rw [pbn_len] at h1
    exact h1
  exact ⟨A3, c3, rfl, hr3, hb3⟩
set_option maxRecDepth 100000 in
set_option maxHeartbeats 1600000 in
theorem rsbytes_any (r : Sg) (w : World) (hr : r.right) : Calls Try.prog 21 #[sval r] w (Gives w (shut r.bytes)) := by
  obtain ⟨i0, hi0, hz0, hz1, hz2⟩ := info_parts NumA.info8
  obtain ⟨s, z, k, rfl⟩ := Sg.nats hr
  have HE := Lib.hid (show Sg.bytes ⟨s, z, k⟩ = [76, 83] ++ pbn (s : Int) 2 ++ pbn (z : Int) 2 ++ pbn (k : Int) 2 from rfl)
  have HS := Lib.hid (fun (A : Option Addr) (n c : Nat) w' (h : Rd w' A n c (u8n (Sg.bytes ⟨s, z, k⟩))) => rsealed_any A n c _ w' h (Sg.bytes_lt _) (by rw [Sg.bytes_len]; omega))
  have HX := Lib.hid (Bx.new w 35 (scells ⟨s, z, k⟩))
  obtain ⟨h1, h2, h3, h4⟩ := hr
  dsimp only at h1 h2 h3 h4
  have hp := pow_blocks h2.2
  obtain ⟨E1, hE1⟩ : ∃ E, E = pbn (s : Int) 2 := ⟨_, rfl⟩
  obtain ⟨E2, hE2⟩ : ∃ E, E = pbn (z : Int) 2 := ⟨_, rfl⟩
  obtain ⟨E3, hE3⟩ : ∃ E, E = pbn (k : Int) 2 := ⟨_, rfl⟩
  have HP1 := Lib.hid (fun w' => put2 s w' (by omega))
  have HP2 := Lib.hid (fun w' => put2 z w' (by omega))
  have HP3 := Lib.hid (fun w' => put2 k w' (by omega))
  rw [← hE1, ← hE2, ← hE3] at HE
  rw [← hE1] at HP1
  rw [← hE2] at HP2
  rw [← hE3] at HP3
  clear hE1 hE2 hE3 hp h4
  show Calls _ _ #[.agg #[.int .i64 (s : Int), .int .i64 (z : Int), .int .i64 (k : Int)]] w _
  go_enter Try.func21, Try.ntmps21
  go_wp2_with fail
  have hw1 : (w.alloc (.cells (scells ⟨s, z, k⟩).toArray 35)) = w.alloc (.cells #[.int .i64 (s : Int), .int .i64 (z : Int), .int .i64 (k : Int)] 35) := rfl
  rw [hw1] at HX
  have hsz : (w.alloc (.cells #[.int .i64 (s : Int), .int .i64 (z : Int), .int .i64 (k : Int)] 35)).heap.size = w.heap.size + 1 := by simp
  obtain ⟨w1, hw1e⟩ : ∃ w1, w1 = w.alloc (.cells #[.int .i64 (s : Int), .int .i64 (z : Int), .int .i64 (k : Int)] 35) := ⟨_, rfl⟩
  have hlit : (#[.int .u8 76, .int .u8 83] : Array Value) = (u8n [76, 83]).toArray := by simp [u8n]
  rw [hlit, ← hw1e]
  rw [← hw1e] at HX hsz
  have HO2 := Lib.hid (own_lit (w := w1) [76, 83] (n := 2) rfl (by omega))
  have hb2 : Below w1.heap.size w1 (w1.alloc (.cells (u8n [76, 83]).toArray 5)) := (Below.refl _ _).alloc (Nat.le_refl _) _
  rw [hsz] at HO2
  obtain ⟨w2, hw2e⟩ : ∃ w2, w2 = w1.alloc (.cells (u8n [76, 83]).toArray 5) := ⟨_, rfl⟩
  rw [← hw2e] at HO2 hb2 ⊢
  clear hw1 hw1e hw2e hlit
  refine (HP1.out _).mono ?_
  rintro e w13 ⟨A1, c1, rfl, hr1, hb1⟩
  have HR1 := Lib.hid hr1
  have HQ1 := Lib.hid (own_below HO2.out hb1)
  have HB1 := Lib.hid (hb2.trans (hb1.mono hb2.size))
  clear hr1 hb1
  go_wp2_with (at_builtin; refine wpList_add _ rfl (.tmp 5) (.tmp 8) _ rfl (w.heap.size + 1) 5 i0 _ 1 Try.underlying25 hi0 hz0 hz1 hz2 rfl _ 2 (u8n ([76, 83])) rfl HQ1.out A1 2 c1 (u8n E1) rfl HR1.out (u8n_one _) (by omega) (by omega) (by have := HB1.out.size; omega) ?_; intro B1 n1 d1 v1 hn1 ho1 hg1 hat1; have hv1 : Below w1.heap.size w1 v1 := below_add HB1.out HQ1.out (by omega) hg1; clear hat1 hg1; obtain rfl : n1 = 4 := (by have := hn1.out; omega); rw [u8n_app] at ho1; have HO1 := Lib.hid ho1; have HV1 := Lib.hid hv1; obtain ⟨e10, e11, e12⟩ := Bx.cells3 (HX.out.step hv1); dsimp only at e10 e11 e12; clear ho1 hv1 hn1)
  refine (HP2.out _).mono ?_
  rintro e w23 ⟨A2, c2, rfl, hr2, hb2⟩
  have HR2 := Lib.hid hr2
  have HQ2 := Lib.hid (own_below HO1.out hb2)
  have HB2 := Lib.hid (HV1.out.trans (hb2.mono HV1.out.size))
  clear hr2 hb2
  go_wp2_with (at_builtin; refine wpList_add _ rfl (.tmp 10) (.tmp 13) _ rfl (w.heap.size + 1) 5 i0 _ 1 Try.underlying25 hi0 hz0 hz1 hz2 rfl _ 4 (u8n ([76, 83] ++ E1)) rfl HQ2.out A2 2 c2 (u8n E2) rfl HR2.out (u8n_one _) (by omega) (by omega) (by have := HB2.out.size; omega) ?_; intro B2 n2 d2 v2 hn2 ho2 hg2 hat2; have hv2 : Below w1.heap.size w1 v2 := below_add HB2.out HQ2.out (by omega) hg2; clear hat2 hg2; obtain rfl : n2 = 6 := (by have := hn2.out; omega); rw [u8n_app] at ho2; have HO2 := Lib.hid ho2; have HV2 := Lib.hid hv2; obtain ⟨e20, e21, e22⟩ := Bx.cells3 (HX.out.step hv2); dsimp only at e20 e21 e22; clear ho2 hv2 hn2)
  refine (HP3.out _).mono ?_
  rintro e w33 ⟨A3, c3, rfl, hr3, hb3⟩
  have HR3 := Lib.hid hr3
  have HQ3 := Lib.hid (own_below HO2.out hb3)
  have HB3 := Lib.hid (HV2.out.trans (hb3.mono HV2.out.size))
  clear hr3 hb3
  go_wp2_with (first
    | (at_builtin; refine wpList_add _ rfl (.tmp 15) (.tmp 18) _ rfl (w.heap.size + 1) 5 i0 _ 1 Try.underlying25 hi0 hz0 hz1 hz2 rfl _ 6 (u8n ([76, 83] ++ E1 ++ E2)) rfl HQ3.out A3 2 c3 (u8n E3) rfl HR3.out (u8n_one _) (by omega) (by omega) (by have := HB3.out.size; omega) ?_; intro B3 n3 d3 v3 hn3 ho3 hg3 hat3; have hv3 : Below w1.heap.size w1 v3 := below_add HB3.out HQ3.out (by omega) hg3; clear hat3 hg3; obtain rfl : n3 = 8 := (by have := hn3.out; omega); rw [u8n_app] at ho3; have HO3 := Lib.hid ho3; have HV3 := Lib.hid hv3; obtain ⟨e30, e31, e32⟩ := Bx.cells3 (HX.out.step hv3); dsimp only at e30 e31 e32; clear ho3 hv3 hn3)
    | (go_at_call 22; refine (HS.out _ _ _ _ (by have h := Rd.own HO3.out; rw [← HE.out] at h; exact h)).mono ?_; rintro e w7 ⟨A7, n7, c7, rfl, ho7, hb7⟩))
  go_ret
  exact ⟨A7, n7, c7, rfl, own_mono ho7 (by have := HV3.out.size; omega), HX.out.bel.trans ((HV3.out.trans (hb7.mono HV3.out.size)).mono (by omega))⟩
end Go.Proofs.Ytegddebigeeeeaa.RecD
