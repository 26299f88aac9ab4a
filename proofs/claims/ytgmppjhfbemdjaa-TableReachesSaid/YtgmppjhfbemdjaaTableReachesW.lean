/- The walk of TableReaches. No conditions. -/
import Derived.Test.YtgmppjhfbemdjaaTabG
import Derived.Test.YtgmppjhfbemdjaaTabJ
import Derived.Deep.RegionHeld3
namespace Go.Proofs.Ytgmppjhfbemdjaa.TableReachesW
open Go.RowKit Go.Proofs.Ytgmppjhfbemdjaa.Kit Go.Proofs.Ytgmppjhfbemdjaa.Byt Go.Proofs.Ytgmppjhfbemdjaa.Mem Go.Proofs.Ytgmppjhfbemdjaa.TabA Go.Proofs.Ytgmppjhfbemdjaa.TabB Go.Proofs.Ytgmppjhfbemdjaa.TabC Go.Proofs.Ytgmppjhfbemdjaa.TabD Go.Proofs.Ytgmppjhfbemdjaa.TabE Go.Proofs.Ytgmppjhfbemdjaa.TabF Go.Proofs.Ytgmppjhfbemdjaa.TabG Go.Proofs.Ytgmppjhfbemdjaa.TabH Go.Proofs.Ytgmppjhfbemdjaa.TabI Go.Proofs.Ytgmppjhfbemdjaa.TabJ

/-- The table's box and the channel's, and all that was there. -/
structure S3 (w : World) (t : Ta) (r : Tri) (wr : World) : Prop where
  bx : Bx w t wr
  cb : Blk wr (w.heap.size + 1) 51 r.cells
section
variable {w wr w' : World} {t : Ta} {r : Tri}
theorem S3.step (h : S3 w t r wr) (hb : Below wr.heap.size wr w') : S3 w t r w' := ⟨h.bx.step hb, h.cb.below hb⟩
theorem S3.alloc (h : S3 w t r wr) (o : Obj) : S3 w t r (wr.alloc o) := h.step ((Below.refl _ _).alloc (Nat.le_refl _) o)
theorem S3.four (h : S3 w t r wr) : wr.cell? ⟨w.heap.size, 3, none⟩ = some (.slice t.A3 t.n3 t.c3) ∧ wr.cell? ⟨w.heap.size + 1, 0, none⟩ = some (.int .i64 r.a) ∧ wr.cell? ⟨w.heap.size + 1, 1, none⟩ = some (.int .i64 r.b) ∧ wr.cell? ⟨w.heap.size + 1, 2, none⟩ = some (.int .i64 r.c) :=
  ⟨h.bx.blk.cell rfl, h.cb.cell rfl, h.cb.cell rfl, h.cb.cell rfl⟩
theorem S3.set (h : S3 w t r wr) {g k : Nat} (hg : w.heap.size + 1 < g) (v : Value) : S3 w t r (wr.setCell ⟨g, k, none⟩ v) :=
  ⟨⟨h.bx.blk.far (by show w.heap.size ≠ g; omega) _, h.bx.bel.setCell (by show w.heap.size ≤ g; omega) _⟩, h.cb.far (by show w.heap.size + 1 ≠ g; omega) _⟩
end
theorem one_tris {w : World} {g : Nat} {ty : TypeId} {r : Tri} (h : Blk w g ty r.cells) (hr : r.ok) : Tris w (some ⟨g, 0, none⟩) 1 1 [r] :=
  Tris.of_blk (R := [r]) (c := 1) (xs := []) (by simpa [tcells] using h) (Nat.le_refl _) (by omega) (by simpa using hr)
theorem own_al {w : World} {v : Value} {base n : Nat} {e : TypeId} {xs : List Value} (h : w.ownsRow base e 3 v n xs) (o : Obj) : (w.alloc o).ownsRow base e 3 v n xs :=
  (Keep.of_below (F := fun _ => False) ((Below.refl _ _).alloc (Nat.le_refl _) o)).own h fun _ _ h => h

theorem grown_blk {w w5 : World} {g gB : Nat} {ty : TypeId} {xs : List Value} (hB : Blk w gB ty xs) (hg : w.grownBy w5 (Value.slice (some ⟨g, 0, none⟩) 0 0).ownBlock) (hne : g ≠ gB) : Blk w5 gB ty xs :=
  (hg.block gB hB.lt (by simp only [Value.ownBlock]; intro h; injection h with h; exact hne h.symm)).trans hB
theorem emptied3_at {w : World} {e : TypeId} {base g : Nat} (hg : g = w.heap.size) (hb : base ≤ g) : (w.alloc (.cells #[] e)).ownsRow base e 3 (.slice (some ⟨g, 0, none⟩) 0 0) 0 [] := by
  subst hg
  exact emptied3 w e base hb
set_option maxRecDepth 100000 in
set_option maxHeartbeats 6400000 in
theorem core (t : Ta) (p : Int) (r : Tri) (w : World) (h : t.ok w) (hr : r.ok) : Calls Try.prog 8 #[t.val, .int .i64 p, .agg #[.int .i64 r.a, .int .i64 r.b, .int .i64 r.c]] w (Yes w true) := by
  obtain ⟨bl, hbl⟩ := bool_of (huge t)
  obtain ⟨br, hbr⟩ := bool_of (right t)
  have HL := Lib.hid (fun w' (hb : Below w.heap.size w w') => long_any t w' (h.below hb) bl hbl)
  have HR := Lib.hid (fun w' (hb : Below w.heap.size w w') => right_any t w' (h.below hb) br hbr)
  have HRE := Lib.hid (fun (hrt : right t) (x : Int) w' (hb : Below w.heap.size w w') => reach_any t x w' (h.below hb) hrt)
  have HBR := Lib.hid hbr
  have HO := Lib.hid h
  have HK := Lib.hid hr
  have hm3 : t.n3 ≤ 9223372036854775807 := h.C.le
  clear hbl hbr h hr
  obtain ⟨fr, A1, n1, c1, P, A2, n2, c2, W, A3, n3, c3, C, tr⟩ := t
  obtain ⟨ra, rb, rc⟩ := r
  have hm3 : n3 ≤ 9223372036854775807 := hm3
  have HS0 := Lib.hid (show S3 w ⟨fr, A1, n1, c1, P, A2, n2, c2, W, A3, n3, c3, C, tr⟩ ⟨ra, rb, rc⟩ ((w.alloc (.cells #[.int .i64 fr, .slice A1 n1 c1, .slice A2 n2 c2, .slice A3 n3 c3, .int .i64 tr] 26)).alloc (.cells #[.int .i64 ra, .int .i64 rb, .int .i64 rc] 51)) from
    ⟨(Bx.new w ⟨fr, A1, n1, c1, P, A2, n2, c2, W, A3, n3, c3, C, tr⟩).alloc _, blk_at (xs := Tri.cells ⟨ra, rb, rc⟩) (by simp)⟩)
  show Calls _ _ #[.agg #[.int .i64 fr, .slice A1 n1 c1, .slice A2 n2 c2, .slice A3 n3 c3, .int .i64 tr], .int .i64 p, .agg #[.int .i64 ra, .int .i64 rb, .int .i64 rc]] w _
  go_enter Try.func8, Try.ntmps8
  go_wp2_with fail
  refine (wakes_any _).mono ?_
  rintro e w1 ⟨rfl, hb1⟩
  have HS1 := Lib.hid (HS0.out.step hb1)
  clear hb1 HS0
  obtain ⟨y0, y1, y2, y3, y4⟩ := HS1.out.bx.cell
  dsimp only at y0 y1 y2 y3 y4
  go_wp2_with fail
  refine (HL.out _ HS1.out.bx.bel).mono ?_
  rintro e w2 ⟨rfl, hb2⟩
  have HS2 := Lib.hid (HS1.out.step hb2)
  clear hb2 y0 y1 y2 y3 y4 HS1
  obtain ⟨y0, y1, y2, y3, y4⟩ := HS2.out.bx.cell
  dsimp only at y0 y1 y2 y3 y4
  cases bl
  · go_wp2_with fail
    refine (HR.out _ HS2.out.bx.bel).mono ?_
    rintro e w3 ⟨rfl, hb3⟩
    have HS3 := Lib.hid (HS2.out.step hb3)
    clear hb3 y0 y1 y2 y3 y4 HS2
    obtain ⟨y0, y1, y2, y3, y4⟩ := HS3.out.bx.cell
    dsimp only at y0 y1 y2 y3 y4
    cases br
    · go_wp2
      go_ret
      exact ⟨rfl, HS3.out.bx.bel⟩
    · have HT := Lib.hid (HBR.out.1 rfl)
      clear HBR HL HR
      by_cases h4 : 4 ≤ n3
      · go_wp2
        go_ret
        exact ⟨rfl, HS3.out.bx.bel⟩
      · go_wp2_with fail
        refine (HRE.out HT.out p _ HS3.out.bx.bel).mono ?_
        rintro e w4 ⟨A, n, c, l, rfl, hl, hb4, hn, hmem⟩
        have HS4 := Lib.hid (HS3.out.step hb4)
        have HLR := Lib.hid hl
        have HMEM := Lib.hid hmem
        clear hb4 y0 y1 y2 y3 y4 HS3 hl hmem
        go_wp2_with fail
        go_loopw [36] (fun i wr => ∃ k : Nat, k ≤ n ∧ i = .int .i64 k ∧ Hid (Rd wr A n c (i64s l)) ∧ Hid (S3 w ⟨fr, A1, n1, c1, P, A2, n2, c2, W, A3, n3, c3, C, tr⟩ ⟨ra, rb, rc⟩ wr)) (fun i _ => n - (intOf i).toNat)
        case atStart => exact ⟨0, Nat.zero_le _, rfl, HLR, HS4⟩
        case round =>
          obtain ⟨k, hk, rfl, HLk, HSk⟩ := hrel
          obtain ⟨wo, rfl⟩ : ∃ wo : World, wo = wr := ⟨_, rfl⟩
          obtain ⟨y0, y1, y2, y3, y4⟩ := HSk.out.bx.cell
          dsimp only at y0 y1 y2 y3 y4
          by_cases hlt : k < n
          · obtain ⟨x, b', o, hx, hA, hbl, q0⟩ := i64_at HLk.out hlt
            have HXM := Lib.hid ((HMEM.out x).1 (List.mem_of_getElem? hx))
            have HLk2 := Lib.hid (HLk.out)
            subst hA
            clear hx
            go_wp2_with fail
            refine (HRE.out HT.out x _ HSk.out.bx.bel).mono ?_
            rintro e w5 ⟨A', n', c', m, rfl, hm, hb5, hn', hmem'⟩
            have HS5 := Lib.hid (HSk.out.step hb5)
            have HL5 := Lib.hid (HLk.out.below hb5)
            have HMR := Lib.hid hm
            have HALL := Lib.hid (show ∀ y ∈ m, y ∈ l from fun y hy => by
              obtain ⟨_, h2, h3⟩ := (hmem' y).1 hy
              obtain ⟨g1, g2, g3⟩ := HXM.out
              exact (HMEM.out y).2 ⟨g1, h2, g3.trans h3⟩)
            clear hb5 y0 y1 y2 y3 y4 hm hmem'
            go_wp2_with fail
            go_loopw [44] (fun i wr => ∃ j : Nat, j ≤ n' ∧ i = .int .i64 j ∧ w5 = wr) (fun i _ => n' - (intOf i).toNat)
            case atStart => exact ⟨0, Nat.zero_le _, rfl, rfl⟩
            case round =>
              obtain ⟨j, hj, rfl, rfl⟩ := hrel
              by_cases hjt : j < n'
              · obtain ⟨y, b2, o2, hy, hA, hbl2, q2⟩ := i64_at HMR.out hjt
                have HYM := Lib.hid (HALL.out y (List.mem_of_getElem? hy))
                subst hA
                clear hy
                have HH := Lib.hid (has_list _ n c l y w5 HL5.out true ⟨fun _ => HYM.out, fun _ => rfl⟩)
                go_wp2_with fail
                refine HH.out.mono ?_
                rintro e w' ⟨rfl, rfl⟩
                go_wp2_with fail
                go_roundw
                case rel => exact ⟨j + 1, by omega, by go_num, (by first | trivial | rfl)⟩
                case measure => simp [intOf]; omega
              · obtain rfl : j = n' := by omega
                go_wp2_with fail
                go_roundw
                case rel => exact ⟨k + 1, by omega, by go_num, HL5, HS5⟩
                case measure => simp [intOf]; omega
          · obtain rfl : k = n := by omega
            go_upto_region 17 with (fail)
            have HX2 := Lib.hid (At2.new HSk.out.bx HO.out)
            dsimp only [Ta.cells] at HX2
            have HSa := Lib.hid (HSk.out.alloc (.cells #[.int .i64 fr, .slice A1 n1 c1, .slice A2 n2 c2, .slice A3 n3 c3, .int .i64 tr] 26))
            have HBa := Lib.hid (show Below wo.heap.size wo (wo.alloc (.cells #[.int .i64 fr, .slice A1 n1 c1, .slice A2 n2 c2, .slice A3 n3 c3, .int .i64 tr] 26)) from (Below.refl _ _).alloc (Nat.le_refl _) _)
            have hgo : w.heap.size + 1 < wo.heap.size := HSk.out.cb.lt
            obtain ⟨wa, hwa⟩ : ∃ wa, wa = wo.alloc (.cells #[.int .i64 fr, .slice A1 n1 c1, .slice A2 n2 c2, .slice A3 n3 c3, .int .i64 tr] 26) := ⟨_, rfl⟩
            rw [← hwa] at HX2 HSa HBa ⊢
            obtain ⟨gx, hgx⟩ : ∃ gx, gx = wo.heap.size := ⟨_, rfl⟩
            have HGX := Lib.hid (show wo.heap.size ≤ gx from by omega)
            rw [← hgx] at HX2 ⊢
            have hlo : w.heap.size + 1 < gx := by omega
            clear hwa y0 y1 y2 y3 y4 hgo hgx
            obtain ⟨ic, hic, hiz, his, hib⟩ := Go.Proofs.Ytgmppjhfbemdjaa.TabF.info_of info_chan
            have HCD := Lib.hid (show Tris wa A3 n3 c3 C from (HO.out.below HX2.out.bx.bel).C)
            obtain ⟨k0, k1, k2, k3⟩ := HSa.out.four
            dsimp only at k0 k1 k2 k3
            have hgw : gx < wa.heap.size := HX2.out.xb.lt
            have hn3 : n3 ≤ 3 := by omega
            go_cut [] (fun wx => ∃ A' n' c', Hid (At2 w ⟨fr, A1, n1, c1, P, A2, n2, c2, W, A3, n3, c3, C, tr⟩ gx ⟨fr, A1, n1, c1, P, A2, n2, c2, W, A', n', c', C ++ [⟨ra, rb, rc⟩], tr⟩ wx) ∧ Hid (Below wo.heap.size wo wx))
            case first =>
              go_region_held3 (fun w' => w'.cell? ⟨w.heap.size, 3, none⟩ = some (.slice A3 n3 c3) ∧ w'.cell? ⟨w.heap.size + 1, 0, none⟩ = some (.int .i64 ra) ∧ w'.cell? ⟨w.heap.size + 1, 1, none⟩ = some (.int .i64 rb) ∧ w'.cell? ⟨w.heap.size + 1, 2, none⟩ = some (.int .i64 rc))
                (first | go_keep | exact (HSa.out.step HB5.out).four | exact (HSa.out.step HB6.out).four | exact ((HSa.out.step HB6.out).set hlo _).four)
                (first
                 | (rw [if_pos (by rfl)]; refine wp_add3 (.tmp 55) (.tmp 57) 24 rfl wa.heap.size 51 ic _ 24 Try.underlying24 hic hiz his hib rfl (.slice (some ⟨wa.heap.size, 0, none⟩) 0 0) 0 [] rfl (emptied3 wa.drew 51 wa.heap.size (Nat.le_refl _)) A3 n3 c3 C rfl (HCD.out.below (((Below.refl wa.heap.size wa).drew).alloc (Nat.le_refl _) (.cells #[] 51))) (by omega) (by omega) (by simp; try omega) ?_; intro A5 n5 c5 w5 hn5 hown5 hg5; have hb5 : Below wa.heap.size wa w5 := (((Below.refl wa.heap.size wa).drew).alloc (Nat.le_refl _) (.cells #[] 51)).grown hg5 (by simp; try omega) (fun k hk => by have := (emptied3 wa.drew 51 wa.heap.size (Nat.le_refl _)).lt k hk; omega); have HB5 := Lib.hid hb5; clear hb5 hg5)
                 | (rw [if_pos (by rfl)]; refine wp_add3 (.tmp 55) (.tmp 57) 24 rfl wa.heap.size 51 ic _ 24 Try.underlying24 hic hiz his hib rfl (.slice (some ⟨wa.heap.size, 0, none⟩) 0 0) 0 [] rfl (own_al (emptied3 wa.drew 51 wa.heap.size (Nat.le_refl _)) (.cells #[.int .i64 ra, .int .i64 rb, .int .i64 rc] 51)) A3 n3 c3 C rfl (HCD.out.below ((((Below.refl wa.heap.size wa).drew).alloc (Nat.le_refl _) (.cells #[] 51)).alloc (by simp) (.cells #[.int .i64 ra, .int .i64 rb, .int .i64 rc] 51))) (by omega) (by omega) (by simp; try omega) ?_; intro A5 n5 c5 w5 hn5 hown5 hg5; have hb5 : Below wa.heap.size wa w5 := ((((Below.refl wa.heap.size wa).drew).alloc (Nat.le_refl _) (.cells #[] 51)).alloc (by simp) (.cells #[.int .i64 ra, .int .i64 rb, .int .i64 rc] 51)).grown hg5 (by simp; try omega) (fun k hk => by have := (own_al (emptied3 wa.drew 51 wa.heap.size (Nat.le_refl _)) (.cells #[.int .i64 ra, .int .i64 rb, .int .i64 rc] 51)).lt k hk; omega); have HB5 := Lib.hid hb5; have ht5 := one_tris (g := wa.heap.size + 1) (grown_blk (gB := wa.heap.size + 1) (blk_at (w := wa.drew.alloc (.cells #[] 51)) (n := wa.heap.size + 1) (t := 51) (xs := Tri.cells ⟨ra, rb, rc⟩) (by simp)) hg5 (by omega)) HK.out; have HT5 := Lib.hid ht5; clear hb5 hg5 ht5)
                 | (rw [if_pos (by rfl)]; refine wp_add3 (.tmp 55) (.tmp 57) 24 rfl wa.heap.size 51 ic _ 24 Try.underlying24 hic hiz his hib rfl (.slice (some ⟨wa.heap.size + 1, 0, none⟩) 0 0) 0 [] rfl (emptied3_at (w := wa.drew.alloc (.cells #[.int .i64 ra, .int .i64 rb, .int .i64 rc] 51)) (e := 51) (g := wa.heap.size + 1) (base := wa.heap.size) (by simp) (by omega)) A3 n3 c3 C rfl (HCD.out.below ((((Below.refl wa.heap.size wa).drew).alloc (Nat.le_refl _) (.cells #[.int .i64 ra, .int .i64 rb, .int .i64 rc] 51)).alloc (by simp) (.cells #[] 51))) (by omega) (by omega) (by simp; try omega) ?_; intro A5 n5 c5 w5 hn5 hown5 hg5; have hb5 : Below wa.heap.size wa w5 := ((((Below.refl wa.heap.size wa).drew).alloc (Nat.le_refl _) (.cells #[.int .i64 ra, .int .i64 rb, .int .i64 rc] 51)).alloc (by simp) (.cells #[] 51)).grown hg5 (by simp; try omega) (fun k hk => by have := (emptied3_at (w := wa.drew.alloc (.cells #[.int .i64 ra, .int .i64 rb, .int .i64 rc] 51)) (e := 51) (g := wa.heap.size + 1) (base := wa.heap.size) (by simp) (by omega)).lt k hk; omega); have HB5 := Lib.hid hb5; have ht5 := one_tris (g := wa.heap.size) (grown_blk (gB := wa.heap.size) ((Blk.new wa.drew 51 (Tri.cells ⟨ra, rb, rc⟩)).alloc (.cells #[] 51)) hg5 (by omega)) HK.out; have HT5 := Lib.hid ht5; clear hb5 hg5 ht5)
                 | (rw [if_pos (by rfl)]; refine wp_add3 (.tmp 58) (.tmp 60) 24 rfl wa.heap.size 51 ic _ 24 Try.underlying24 hic hiz his hib rfl _ n5 _ rfl (own_al hown5.out (.cells #[.int .i64 ra, .int .i64 rb, .int .i64 rc] 51)) _ 1 1 [⟨ra, rb, rc⟩] rfl (one_tris (Blk.new w5 51 (Tri.cells ⟨ra, rb, rc⟩)) HK.out) (by have := hn5.out; omega) (by omega) (by have := HB5.out.size; simp; omega) ?_; intro A6 n6 c6 w6 hn6 hown6 hg6; have hb6 : Below wa.heap.size wa w6 := (HB5.out.alloc HB5.out.size (.cells #[.int .i64 ra, .int .i64 rb, .int .i64 rc] 51)).grown hg6 (by have := HB5.out.size; simp; omega) (fun k hk => by have := (own_al hown5.out (.cells #[.int .i64 ra, .int .i64 rb, .int .i64 rc] 51)).lt k hk; omega); have HB6 := Lib.hid hb6; have f6 := (HX2.out.step hb6).xb.frozen 3; have q6 := (HX2.out.step hb6).cell.2.2.2.1; dsimp only at q6; clear hb6 hg6)
                 | (rw [if_pos (by rfl)]; refine wp_add3 (.tmp 58) (.tmp 60) 24 rfl wa.heap.size 51 ic _ 24 Try.underlying24 hic hiz his hib rfl _ n5 _ rfl hown5.out _ 1 1 [⟨ra, rb, rc⟩] rfl HT5.out (by have := hn5.out; omega) (by omega) HB5.out.size ?_; intro A6 n6 c6 w6 hn6 hown6 hg6; have hb6 : Below wa.heap.size wa w6 := HB5.out.grown hg6 HB5.out.size (fun k hk => by have := hown5.out.lt k hk; omega); have HB6 := Lib.hid hb6; have f6 := (HX2.out.step hb6).xb.frozen 3; have q6 := (HX2.out.step hb6).cell.2.2.2.1; dsimp only at q6; clear hb6 hg6))
              all_goals
                have h6 := hown6.out
                rw [List.nil_append, ← tcells_app] at h6
                have HN := Lib.hid (At2.putC HX2.out HB6.out (R := C ++ [⟨ra, rb, rc⟩]) h6 (fun r hr => by
                  rcases List.mem_append.1 hr with h | h
                  · exact HO.out.C.2.2.2.1 r h
                  · rw [List.mem_singleton.1 h]; exact HK.out))
                have HBN := Lib.hid (show Below wo.heap.size wo (w6.setCell ⟨gx, 3, none⟩ (.slice A6 n6 c6)) from (HBa.out.trans (HB6.out.mono HBa.out.size)).setCell HGX.out _)
                dsimp only at HN
                clear h6 q6 f6 hown6 hn6 HB6 hown5 hn5 HB5 HCD k0 k1 k2 k3 hgw
                go_wp2_with fail
                go_meet
                exact ⟨A6, n6, c6, HN, HBN⟩
            case rest =>
              obtain ⟨A', n', c', HN, HBN⟩ := hcut
              clear HX2 HCD k0 k1 k2 k3 hgw HSa HBa
              obtain ⟨bu, hbu⟩ := bool_of (right ⟨fr, A1, n1, c1, P, A2, n2, c2, W, A', n', c', C ++ [⟨ra, rb, rc⟩], tr⟩)
              have HU := Lib.hid hbu
              have HLw := Lib.hid (HLk.out.below HBN.out)
              have HRX := Lib.hid (fun (hr : right ⟨fr, A1, n1, c1, P, A2, n2, c2, W, A', n', c', C ++ [⟨ra, rb, rc⟩], tr⟩) w' (hb : Below wc.heap.size wc w') => reach_any ⟨fr, A1, n1, c1, P, A2, n2, c2, W, A', n', c', C ++ [⟨ra, rb, rc⟩], tr⟩ p w' (HN.out.xok.below hb) hr)
              have HRI := Lib.hid (right_any ⟨fr, A1, n1, c1, P, A2, n2, c2, W, A', n', c', C ++ [⟨ra, rb, rc⟩], tr⟩ wc HN.out.xok bu hbu)
              obtain ⟨x0, x1, x2, x3, x4⟩ := HN.out.cell
              dsimp only at x0 x1 x2 x3 x4
              clear hbu
              go_wp2_with fail
              refine HRI.out.mono ?_
              rintro e w8 ⟨rfl, hb8⟩
              have HN8 := Lib.hid (HN.out.step hb8)
              have HL8 := Lib.hid (HLw.out.below hb8)
              have HB8 := Lib.hid hb8
              clear hb8 x0 x1 x2 x3 x4
              obtain ⟨x0, x1, x2, x3, x4⟩ := HN8.out.cell
              dsimp only at x0 x1 x2 x3 x4
              cases bu
              · go_wp2
                go_ret
                exact ⟨rfl, HN8.out.bx.bel⟩
              · have HTU := Lib.hid (HU.out.1 rfl)
                clear HU
                go_wp2_with fail
                refine (HRX.out HTU.out _ HB8.out).mono ?_
                rintro e w9 ⟨A9, n9, c9, l9, rfl, hl9, hb9, hn9, hmem9⟩
                have HN9 := Lib.hid (HN8.out.step hb9)
                have HL9 := Lib.hid (HL8.out.below hb9)
                have HM9 := Lib.hid hl9
                have HALL := Lib.hid (show ∀ y ∈ l, y ∈ l9 from fun y hy => by
                  obtain ⟨h1, h2, h3⟩ := (HMEM.out y).1 hy
                  exact (hmem9 y).2 ⟨h1, h2, h3.mono fun r hr => List.mem_append_left _ hr⟩)
                clear hb9 hl9 hmem9 x0 x1 x2 x3 x4
                go_wp2_with fail
                go_loopw [71] (fun i wr => ∃ j : Nat, j ≤ k ∧ i = .int .i64 j ∧ w9 = wr) (fun i _ => k - (intOf i).toNat)
                case atStart => exact ⟨0, Nat.zero_le _, rfl, rfl⟩
                case round =>
                  obtain ⟨j, hj, rfl, rfl⟩ := hrel
                  by_cases hjt : j < k
                  · obtain ⟨y, b2, o2, hy, hA, hbl2, q2⟩ := i64_at HL9.out hjt
                    have HYM := Lib.hid (HALL.out y (List.mem_of_getElem? hy))
                    have HL10 := Lib.hid HL9.out
                    subst hA
                    clear hy
                    have HH := Lib.hid (has_list _ n9 c9 l9 y w9 HM9.out true ⟨fun _ => HYM.out, fun _ => rfl⟩)
                    go_wp2_with fail
                    refine HH.out.mono ?_
                    rintro e w' ⟨rfl, rfl⟩
                    go_wp2_with fail
                    go_roundw
                    case rel => exact ⟨j + 1, by omega, by go_num, (by first | trivial | rfl)⟩
                    case measure => simp [intOf]; omega
                  · obtain rfl : j = k := by omega
                    go_wp2_with fail
                    go_ret
                    exact ⟨rfl, HN9.out.bx.bel⟩
  · go_wp2
    go_ret
    exact ⟨rfl, HS2.out.bx.bel⟩

theorem hole {H : Type} (enc : TypeId × Value → H) (base : Nat) (v0 : Value) (d0 : DataW H) (p0 : List MemPlace) (a1 : Int) (v2 : Value) (d2 : DataW H) (p2 : List MemPlace) (w : World) (w0 : DataW.Trod enc Try.prog w 0 (fun _ => true) true 26 v0 d0 p0) (o0 : Value.okWide Try.prog w .any base 26 v0) (w1 : (Lit.int .i64 a1).wf = true) (w2 : DataW.Trod enc Try.prog w 0 (fun _ => true) true 51 v2 d2 p2) (o2 : Value.okWide Try.prog w .any base 51 v2) :
    Calls Try.prog 8 #[v0, .int .i64 a1, v2] w fun e w' => e = .returned (.bool true) ∧ Below w.heap.size w w' := by
  obtain ⟨t, rfl, ht⟩ := open_table w0 o0
  obtain ⟨r, rfl, hr⟩ := open_channel w2 o2
  exact core t a1 r w ht hr
end Go.Proofs.Ytgmppjhfbemdjaa.TableReachesW
