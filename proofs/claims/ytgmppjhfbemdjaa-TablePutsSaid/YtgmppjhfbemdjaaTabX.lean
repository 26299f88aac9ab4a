/- The reference's bytes of a right table. Conditions: the table lies as the facts say. -/
import Derived.Test.YtgmppjhfbemdjaaTabV
namespace Go.Proofs.Ytgmppjhfbemdjaa.TabX
open Go.RowKit Go.Proofs.Ytgmppjhfbemdjaa.Kit Go.Proofs.Ytgmppjhfbemdjaa.NumA Go.Proofs.Ytgmppjhfbemdjaa.NumB Go.Proofs.Ytgmppjhfbemdjaa.Mem Go.Proofs.Ytgmppjhfbemdjaa.TabA Go.Proofs.Ytgmppjhfbemdjaa.TabB Go.Proofs.Ytgmppjhfbemdjaa.TabC Go.Proofs.Ytgmppjhfbemdjaa.TabD Go.Proofs.Ytgmppjhfbemdjaa.TabE Go.Proofs.Ytgmppjhfbemdjaa.TabP Go.Proofs.Ytgmppjhfbemdjaa.TabU

theorem p1_eq {x : Int} (h0 : 0 ≤ x) (h1 : x ≤ 255) : p1 x = [x] := by
  have h : wd 1 = 1 := rfl
  have hc : cl 1 x = x.toNat := by unfold cl; omega
  unfold p1 putb
  rw [h, hc]
  simp [be]
  omega
theorem p2_eq {x : Int} (h0 : 0 ≤ x) (h1 : x ≤ 65535) : putb x 2 = [x / 256, x % 256] := by
  have h : wd 2 = 2 := rfl
  have hc : cl 2 x = x.toNat := by unfold cl; omega
  unfold putb
  rw [h, hc]
  simp [be, List.range_succ]
  omega
theorem own1_al {w : World} {v : Value} {base n : Nat} {e : TypeId} {xs : List Value} (h : w.ownsRow base e 1 v n xs) (o : Obj) : (w.alloc o).ownsRow base e 1 v n xs :=
  (Keep.of_below (F := fun _ => False) ((Below.refl _ _).alloc (Nat.le_refl _) o)).own h fun _ _ h => h
theorem wrap8 {x : Int} (h0 : 0 ≤ x) (h1 : x ≤ 255) : IntKind.u8.wrap x = x := by
  have h : IntKind.u8.signed = false := rfl
  simp [IntKind.wrap, IntKind.bits, h]
  omega
theorem quo256 {x : Int} (h0 : 0 ≤ x) : x.tdiv 256 = x / 256 := Int.tdiv_eq_ediv_of_nonneg h0
theorem rem256 {x : Int} (h0 : 0 ≤ x) : x.tmod 256 = x % 256 := Int.tmod_eq_emod_of_nonneg h0
theorem u8s_app2 (xs ys : List Int) : u8s xs ++ u8s ys = u8s (xs ++ ys) := by simp [u8s]
theorem u8_rd_at {w : World} {g : Nat} (l : List Int) (t : TypeId) (hg : g = w.heap.size) (hl : l.length ≤ 1000) : Rd (w.alloc (.cells (u8s l).toArray t)) (some ⟨g, 0, none⟩) l.length l.length (u8s l) := by
  subst hg
  have h := own_of_block (w := w.alloc (.cells (u8s l).toArray t)) (g := w.heap.size) (cur := u8s l) (e := t) (base := w.heap.size) (n := l.length) (heap_alloc_new w _) (Nat.le_refl _) (by rw [u8s_len]; exact Nat.le_refl _) (by rw [u8s_len]; omega)
  have h2 := Rd.own h
  rw [u8s_len, List.take_of_length_le (by rw [u8s_len]; exact Nat.le_refl _)] at h2
  exact h2
/-- A box below what is written. -/
theorem bx_kept {w wr w' : World} {t : Ta} (h : Bx w t wr) (k : Keep (fun i => w.heap.size + 1 ≤ i) wr w') : Bx w t w' :=
  ⟨k.blk h.blk (by show ¬ w.heap.size + 1 ≤ w.heap.size; omega), h.bel.trans (k.below (fun i hi => by have : w.heap.size + 1 ≤ i := hi; omega) h.bel.size)⟩

set_option maxRecDepth 100000 in
set_option maxHeartbeats 6400000 in
theorem rbytes_any (t : Ta) (w : World) (h : t.ok w) (hr : right t) : Calls Try.prog 16 #[t.val] w (Gives w (encT t)) := by
  obtain ⟨i0, hi0, hz0, hz1, hz2⟩ := info_parts info8
  have HX := Lib.hid (Bx.new w t)
  have HO := Lib.hid h
  have hm1 : t.n1 ≤ 4 := by rw [← h.P.1]; exact hr.2.2.1.1.2
  have hm2 : t.n2 ≤ 8 := by rw [← h.W.1]; exact hr.2.2.2.1.1
  have hm3 : t.n3 ≤ 4 := by rw [← h.C.1]; exact hr.2.2.2.2.1
  have HL1 := Lib.hid (show t.P.length = t.n1 from h.P.1)
  have HL2 := Lib.hid (show t.W.length = t.n2 from h.W.1)
  have HL3 := Lib.hid (show t.C.length = t.n3 from h.C.1)
  obtain ⟨⟨hf0, hf1⟩, ⟨ht0, ht1⟩, ⟨⟨_, hp1⟩, hP⟩, ⟨hw1, hW, _⟩, hc1, hC⟩ := hr
  have SP := Lib.hid (show ∀ k r, t.P[k]? = some r → small 65535 r from fun k r hk => by
    have := hP k r hk
    unfold PartOk at this
    unfold small
    omega)
  have SW := Lib.hid (show ∀ k r, t.W[k]? = some r → small 255 r from fun k r hk => by
    have := WinOk.bounds hW hk
    unfold small
    omega)
  have SC := Lib.hid (show ∀ k r, t.C[k]? = some r → small 255 r from fun k r hk => by
    have := hC k r hk
    unfold ChanOk at this
    unfold small
    omega)
  clear h hP hW hC hp1 hw1 hc1
  obtain ⟨fr, A1, n1, c1, P, A2, n2, c2, W, A3, n3, c3, C, tr⟩ := t
  have hm1 : n1 ≤ 4 := hm1
  have hm2 : n2 ≤ 8 := hm2
  have hm3 : n3 ≤ 4 := hm3
  dsimp only at hf0 hf1 ht0 ht1
  have HE := Lib.hid (show encT ⟨fr, A1, n1, c1, P, A2, n2, c2, W, A3, n3, c3, C, tr⟩ = hdrT fr tr n1 n2 n3 ++ P.flatMap encP ++ W.flatMap enc3 ++ C.flatMap enc3 from rfl)
  have HH := Lib.hid (show hdrT fr tr n1 n2 n3 = [fr, tr, (n1 : Int), (n2 : Int), (n3 : Int)] from by
    rw [hdr_eq, p1_eq (by omega) (by omega), p1_eq (by omega) (by omega), p1_eq (by omega) (by omega), p1_eq (by omega) (by omega), p1_eq (by omega) (by omega)]
    rfl)
  have v0 := wrap8 (x := fr) (by omega) (by omega)
  have v1 := wrap8 (x := tr) (by omega) (by omega)
  have v2 := wrap8 (x := (n1 : Int)) (by omega) (by omega)
  have v3 := wrap8 (x := (n2 : Int)) (by omega) (by omega)
  have v4 := wrap8 (x := (n3 : Int)) (by omega) (by omega)
  obtain ⟨y0, y1, y2, y3, y4⟩ := HX.out.cell
  dsimp only at y0 y1 y2 y3 y4
  show Calls _ _ #[.agg #[.int .i64 fr, .slice A1 n1 c1, .slice A2 n2 c2, .slice A3 n3 c3, .int .i64 tr]] w _
  go_enter Try.func16, Try.ntmps16
  go_wp2_with fail
  clear y0 y1 y2 y3 y4 v0 v1 v2 v3 v4
  go_loopw [3, 4] (fun s i wr => ∃ (k : Nat) (A' : Option Addr) (n' c' : Nat), k ≤ n1 ∧ i = .int .i64 k ∧ s = .slice A' n' c' ∧ n' ≤ 5 + 4 * k ∧ Hid (wr.ownsRow (w.heap.size + 1) 5 1 (.slice A' n' c') n' (u8s (hdrT fr tr n1 n2 n3 ++ (P.take k).flatMap encP))) ∧ Hid (Bx w ⟨fr, A1, n1, c1, P, A2, n2, c2, W, A3, n3, c3, C, tr⟩ wr)) (fun _ i _ => n1 - (intOf i).toNat)
  case atStart => exact ⟨0, _, _, _, Nat.zero_le _, rfl, rfl, by omega, Lib.hid (by
    have h := own_of_block (w := (w.alloc (.cells #[.int .i64 fr, .slice A1 n1 c1, .slice A2 n2 c2, .slice A3 n3 c3, .int .i64 tr] 26)).alloc (.cells #[.int .u8 fr, .int .u8 tr, .int .u8 (n1 : Int), .int .u8 (n2 : Int), .int .u8 (n3 : Int)] 5)) (g := w.heap.size + 1) (cur := u8s [fr, tr, (n1 : Int), (n2 : Int), (n3 : Int)]) (e := 5) (base := w.heap.size + 1) (n := 5) (by have h := heap_alloc_new (w.alloc (.cells #[.int .i64 fr, .slice A1 n1 c1, .slice A2 n2 c2, .slice A3 n3 c3, .int .i64 tr] 26)) (.cells #[.int .u8 fr, .int .u8 tr, .int .u8 (n1 : Int), .int .u8 (n2 : Int), .int .u8 (n3 : Int)] 5); simpa [u8s] using h) (Nat.le_refl _) (by simp [u8s]) (by simp [u8s])
    rw [HH.out]
    simpa [u8s] using h), Lib.hid (HX.out.alloc _)⟩
  case round =>
    obtain ⟨k, A', n', c', hk, rfl, rfl, hn', HW, HXr⟩ := hrel
    obtain ⟨y0, y1, y2, y3, y4⟩ := HXr.out.cell
    dsimp only at y0 y1 y2 y3 y4
    by_cases hlt : k < n1
    · obtain ⟨r, b1, o1, hr, _, hA, hl1, q0, q1, q2⟩ := (HO.out.below HXr.out.bel).P.at_ hlt
      dsimp only at hr hA
      obtain ⟨⟨ha0, ha1⟩, ⟨hb0, hb1⟩, ⟨hc0, hc1⟩⟩ := SP.out k r hr
      have HF := Lib.hid (flat_next encP hr)
      have HEr := Lib.hid (show encP r = [r.a, r.b, r.c / 256, r.c % 256] from by rw [encP, p1_eq ha0 ha1, p1_eq hb0 hb1, p2_eq hc0 hc1]; rfl)
      clear hr
      subst hA
      have v0 := wrap8 ha0 ha1
      have v1 := wrap8 hb0 hb1
      have v2 := quo256 hc0
      have v3 := rem256 hc0
      have hbs := HXr.out.sz
      have HOW := Lib.hid (own1_al (own1_al HW.out (.cells #[.int .i64 r.a, .int .i64 r.b, .int .i64 r.c] 57)) (.cells #[.int .u8 r.a, .int .u8 r.b, .int .u8 (r.c / 256), .int .u8 (r.c % 256)] 5))
      have HRD := Lib.hid (u8_rd_at (w := wr.alloc (.cells #[.int .i64 r.a, .int .i64 r.b, .int .i64 r.c] 57)) (g := wr.heap.size + 1) [r.a, r.b, r.c / 256, r.c % 256] 5 (by simp) (by simp))
      go_wp2_with (first
       | (refine wpList_add _ rfl (.tmp 41) (.tmp 56) 29 rfl (w.heap.size + 1) 5 i0 _ 1 Try.underlying29 hi0 hz0 hz1 hz2 rfl (.slice A' n' c') n' _ rfl HOW.out (some ⟨wr.heap.size + 1, 0, none⟩) 4 4 (u8s [r.a, r.b, r.c / 256, r.c % 256]) rfl HRD.out (u8s_one _) (by omega) (by omega) (by simp; omega) ?_; intro A5 n5 c5 w5 hn5 hown5 hg5 hat5))
      have HK5 := Lib.hid ((Keep.of_below (F := fun i => w.heap.size + 1 ≤ i) (((Below.refl wr.heap.size wr).alloc (Nat.le_refl _) (.cells #[.int .i64 r.a, .int .i64 r.b, .int .i64 r.c] 57)).alloc (by simp) (.cells #[.int .u8 r.a, .int .u8 r.b, .int .u8 (r.c / 256), .int .u8 (r.c % 256)] 5))).trans (Keep.grown (F := fun i => w.heap.size + 1 ≤ i) hg5 (fun i hi => (HOW.out.lt i hi).1)) (fun _ h => .inl h))
      have HN5 := Lib.hid hn5.out
      have HO5 := Lib.hid hown5
      clear hn5 hown5 hg5 hat5
      go_roundw
      case rel => exact ⟨k + 1, A5, n5, c5, by omega, by go_num, rfl, by have := HN5.out; omega, Lib.hid (by
        have h := HO5.out
        rw [HF.out, ← List.append_assoc, HEr.out, ← u8s_app2]
        exact h), Lib.hid (bx_kept HXr.out HK5.out)⟩
      case measure => simp [intOf]; omega
    · obtain rfl : n1 = k := by omega
      have HW2 := Lib.hid (show wr.ownsRow (w.heap.size + 1) 5 1 (.slice A' n' c') n' (u8s (hdrT fr tr n1 n2 n3 ++ P.flatMap encP)) from by
        have h := HW.out
        rwa [List.take_of_length_le (by have := HL1.out; omega)] at h)
      obtain ⟨h2, hh2⟩ : ∃ h2, h2 = hdrT fr tr n1 n2 n3 ++ P.flatMap encP := ⟨_, rfl⟩
      rw [← hh2] at HW2 HE
      have hn2' : n' ≤ 21 := by omega
      clear hh2 hn' hk HW
      go_wp2_with fail
      clear y0 y1 y2 y3 y4
      go_loopw [3, 6] (fun s i wr => ∃ (k : Nat) (A' : Option Addr) (n' c' : Nat), k ≤ n2 ∧ i = .int .i64 k ∧ s = .slice A' n' c' ∧ n' ≤ 21 + 3 * k ∧ Hid (wr.ownsRow (w.heap.size + 1) 5 1 (.slice A' n' c') n' (u8s (h2 ++ (W.take k).flatMap enc3))) ∧ Hid (Bx w ⟨fr, A1, n1, c1, P, A2, n2, c2, W, A3, n3, c3, C, tr⟩ wr)) (fun _ i _ => n2 - (intOf i).toNat)
      case atStart => exact ⟨0, A', n', c', Nat.zero_le _, rfl, rfl, by omega, Lib.hid (by simpa using HW2.out), HXr⟩
      case round =>
        obtain ⟨k, A', n', c', hk, rfl, rfl, hn', HW, HXr⟩ := hrel
        obtain ⟨y0, y1, y2, y3, y4⟩ := HXr.out.cell
        dsimp only at y0 y1 y2 y3 y4
        by_cases hlt : k < n2
        · obtain ⟨r, b1, o1, hr, _, hA, hl1, q0, q1, q2⟩ := (HO.out.below HXr.out.bel).W.at_ hlt
          dsimp only at hr hA
          obtain ⟨⟨ha0, ha1⟩, ⟨hb0, hb1⟩, ⟨hc0, hc1⟩⟩ := SW.out k r hr
          have HF := Lib.hid (flat_next enc3 hr)
          have HEr := Lib.hid (show enc3 r = [r.a, r.b, r.c] from by rw [enc3, p1_eq ha0 ha1, p1_eq hb0 hb1, p1_eq hc0 hc1]; rfl)
          clear hr
          subst hA
          have v0 := wrap8 ha0 ha1
          have v1 := wrap8 hb0 hb1
          have v2 := wrap8 hc0 hc1
          have hbs := HXr.out.sz
          have HOW := Lib.hid (own1_al (own1_al HW.out (.cells #[.int .i64 r.a, .int .i64 r.b, .int .i64 r.c] 46)) (.cells #[.int .u8 r.a, .int .u8 r.b, .int .u8 r.c] 5))
          have HRD := Lib.hid (u8_rd_at (w := wr.alloc (.cells #[.int .i64 r.a, .int .i64 r.b, .int .i64 r.c] 46)) (g := wr.heap.size + 1) [r.a, r.b, r.c] 5 (by simp) (by simp))
          go_wp2_with (first
           | (refine wpList_add _ rfl (.tmp 70) (.tmp 80) 29 rfl (w.heap.size + 1) 5 i0 _ 1 Try.underlying29 hi0 hz0 hz1 hz2 rfl (.slice A' n' c') n' _ rfl HOW.out (some ⟨wr.heap.size + 1, 0, none⟩) 3 3 (u8s [r.a, r.b, r.c]) rfl HRD.out (u8s_one _) (by omega) (by omega) (by simp; omega) ?_; intro A5 n5 c5 w5 hn5 hown5 hg5 hat5))
          have HK5 := Lib.hid ((Keep.of_below (F := fun i => w.heap.size + 1 ≤ i) (((Below.refl wr.heap.size wr).alloc (Nat.le_refl _) (.cells #[.int .i64 r.a, .int .i64 r.b, .int .i64 r.c] 46)).alloc (by simp) (.cells #[.int .u8 r.a, .int .u8 r.b, .int .u8 r.c] 5))).trans (Keep.grown (F := fun i => w.heap.size + 1 ≤ i) hg5 (fun i hi => (HOW.out.lt i hi).1)) (fun _ h => .inl h))
          have HN5 := Lib.hid hn5.out
          have HO5 := Lib.hid hown5
          clear hn5 hown5 hg5 hat5
          go_roundw
          case rel => exact ⟨k + 1, A5, n5, c5, by omega, by go_num, rfl, by have := HN5.out; omega, Lib.hid (by
            have h := HO5.out
            rw [HF.out, ← List.append_assoc, HEr.out, ← u8s_app2]
            exact h), Lib.hid (bx_kept HXr.out HK5.out)⟩
          case measure => simp [intOf]; omega
        · obtain rfl : n2 = k := by omega
          have HW2 := Lib.hid (show wr.ownsRow (w.heap.size + 1) 5 1 (.slice A' n' c') n' (u8s (h2 ++ W.flatMap enc3)) from by
            have h := HW.out
            rwa [List.take_of_length_le (by have := HL2.out; omega)] at h)
          obtain ⟨h3, hh2⟩ : ∃ h3, h3 = h2 ++ W.flatMap enc3 := ⟨_, rfl⟩
          rw [← hh2] at HW2 HE
          have hn2' : n' ≤ 45 := by omega
          clear hh2 hn' hk HW
          go_wp2_with fail
          clear y0 y1 y2 y3 y4
          go_loopw [3, 8] (fun s i wr => ∃ (k : Nat) (A' : Option Addr) (n' c' : Nat), k ≤ n3 ∧ i = .int .i64 k ∧ s = .slice A' n' c' ∧ n' ≤ 45 + 3 * k ∧ Hid (wr.ownsRow (w.heap.size + 1) 5 1 (.slice A' n' c') n' (u8s (h3 ++ (C.take k).flatMap enc3))) ∧ Hid (Bx w ⟨fr, A1, n1, c1, P, A2, n2, c2, W, A3, n3, c3, C, tr⟩ wr)) (fun _ i _ => n3 - (intOf i).toNat)
          case atStart => exact ⟨0, A', n', c', Nat.zero_le _, rfl, rfl, by omega, Lib.hid (by simpa using HW2.out), HXr⟩
          case round =>
            obtain ⟨k, A', n', c', hk, rfl, rfl, hn', HW, HXr⟩ := hrel
            obtain ⟨y0, y1, y2, y3, y4⟩ := HXr.out.cell
            dsimp only at y0 y1 y2 y3 y4
            by_cases hlt : k < n3
            · obtain ⟨r, b1, o1, hr, _, hA, hl1, q0, q1, q2⟩ := (HO.out.below HXr.out.bel).C.at_ hlt
              dsimp only at hr hA
              obtain ⟨⟨ha0, ha1⟩, ⟨hb0, hb1⟩, ⟨hc0, hc1⟩⟩ := SC.out k r hr
              have HF := Lib.hid (flat_next enc3 hr)
              have HEr := Lib.hid (show enc3 r = [r.a, r.b, r.c] from by rw [enc3, p1_eq ha0 ha1, p1_eq hb0 hb1, p1_eq hc0 hc1]; rfl)
              clear hr
              subst hA
              have v0 := wrap8 ha0 ha1
              have v1 := wrap8 hb0 hb1
              have v2 := wrap8 hc0 hc1
              have hbs := HXr.out.sz
              have HOW := Lib.hid (own1_al (own1_al HW.out (.cells #[.int .i64 r.a, .int .i64 r.b, .int .i64 r.c] 51)) (.cells #[.int .u8 r.a, .int .u8 r.b, .int .u8 r.c] 5))
              have HRD := Lib.hid (u8_rd_at (w := wr.alloc (.cells #[.int .i64 r.a, .int .i64 r.b, .int .i64 r.c] 51)) (g := wr.heap.size + 1) [r.a, r.b, r.c] 5 (by simp) (by simp))
              go_wp2_with (first
               | (refine wpList_add _ rfl (.tmp 94) (.tmp 104) 29 rfl (w.heap.size + 1) 5 i0 _ 1 Try.underlying29 hi0 hz0 hz1 hz2 rfl (.slice A' n' c') n' _ rfl HOW.out (some ⟨wr.heap.size + 1, 0, none⟩) 3 3 (u8s [r.a, r.b, r.c]) rfl HRD.out (u8s_one _) (by omega) (by omega) (by simp; omega) ?_; intro A5 n5 c5 w5 hn5 hown5 hg5 hat5))
              have HK5 := Lib.hid ((Keep.of_below (F := fun i => w.heap.size + 1 ≤ i) (((Below.refl wr.heap.size wr).alloc (Nat.le_refl _) (.cells #[.int .i64 r.a, .int .i64 r.b, .int .i64 r.c] 51)).alloc (by simp) (.cells #[.int .u8 r.a, .int .u8 r.b, .int .u8 r.c] 5))).trans (Keep.grown (F := fun i => w.heap.size + 1 ≤ i) hg5 (fun i hi => (HOW.out.lt i hi).1)) (fun _ h => .inl h))
              have HN5 := Lib.hid hn5.out
              have HO5 := Lib.hid hown5
              clear hn5 hown5 hg5 hat5
              go_roundw
              case rel => exact ⟨k + 1, A5, n5, c5, by omega, by go_num, rfl, by have := HN5.out; omega, Lib.hid (by
                have h := HO5.out
                rw [HF.out, ← List.append_assoc, HEr.out, ← u8s_app2]
                exact h), Lib.hid (bx_kept HXr.out HK5.out)⟩
              case measure => simp [intOf]; omega
            · obtain rfl : n3 = k := by omega
              go_wp2_with fail
              go_ret
              have h := Rd.own HW.out
              rw [List.take_of_length_le (by have := HL3.out; omega)] at h
              exact ⟨A', n', c', rfl, by rw [HE.out]; exact h, HXr.out.bel⟩
end Go.Proofs.Ytgmppjhfbemdjaa.TabX
