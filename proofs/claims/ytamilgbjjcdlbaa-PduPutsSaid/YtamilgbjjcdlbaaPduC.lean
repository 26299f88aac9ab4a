/- The head of a message, and bytes with their sum behind them, by the reference. Conditions: the message lies as the facts say, its kind is one that there is. -/
import Derived.Test.YtamilgbjjcdlbaaPduA
import Derived.Test.YtamilgbjjcdlbaaCrcB
import Derived.Test.YtamilgbjjcdlbaaNumR
namespace Go.Proofs.Ytamilgbjjcdlbaa.PduC
open Go.RowKit Go.Proofs.Ytamilgbjjcdlbaa.Kit Go.Proofs.Ytamilgbjjcdlbaa.Byt Go.Proofs.Ytamilgbjjcdlbaa.Mem Go.Proofs.Ytamilgbjjcdlbaa.RecM Go.Proofs.Ytamilgbjjcdlbaa.PduM Go.Proofs.Ytamilgbjjcdlbaa.PduA

theorem low_of (x : Int) : ∃ b : Nat, b = b1 x ∧ x % 256 = (b : Int) := ⟨b1 x, rfl, by unfold b1; omega⟩
theorem high_of {x : Int} : ∃ b : Nat, b = hi x ∧ x.tdiv 256 % 256 = (b : Int) := ⟨hi x, rfl, by unfold hi; omega⟩
theorem tdiv_bd {x : Int} (h : n64 x) : n64 (x.tdiv 256) := by
  have h1 := h.1
  have h2 := h.2
  unfold n64
  rcases Int.le_total 0 x with h0 | h0
  · rw [Int.tdiv_eq_ediv_of_nonneg h0]; omega
  · rw [← Int.neg_neg x, Int.neg_tdiv, Int.tdiv_eq_ediv_of_nonneg (by omega)]; omega

set_option maxRecDepth 100000 in
set_option maxHeartbeats 1600000 in
theorem rhead1 (s p n z y c h : Int) (A : Option Addr) (m d : Nat) (xs : List Nat) (w : World) (ho : Pu.ok w ⟨1, s, p, n, z, y, c, h, A, m, d, xs⟩) (hn : Pu.bd ⟨1, s, p, n, z, y, c, h, A, m, d, xs⟩) (hm : m ≤ 1000000) : Calls Try.prog 17 #[Pu.val ⟨1, s, p, n, z, y, c, h, A, m, d, xs⟩] w (Gives w (Pd.rhead (Pu.pd ⟨1, s, p, n, z, y, c, h, A, m, d, xs⟩))) := by
  obtain ⟨i0, hi0, hz0, hz1, hz2⟩ := info_parts NumA.info8
  have HX := Lib.hid (Bx.new w (Pu.cells ⟨1, s, p, n, z, y, c, h, A, m, d, xs⟩))
  have HD := Lib.hid (show Rd w A m d (u8n xs) from ho.data)
  obtain ⟨s1, hs1, es1⟩ := high_of (x := s)
  have ts := tdiv_bd hn.s
  have qs0 := ts.1
  have qs1 := ts.2
  obtain ⟨s0, hs0, es0⟩ := low_of s
  obtain ⟨p0, hp0, ep0⟩ := low_of p
  obtain ⟨z1, hz1, ez1⟩ := high_of (x := z)
  have tz := tdiv_bd hn.z
  have qz0 := tz.1
  have qz1 := tz.2
  obtain ⟨z0, hz0, ez0⟩ := low_of z
  have HH := Lib.hid (show Pd.rhead (Pu.pd ⟨1, s, p, n, z, y, c, h, A, m, d, xs⟩) = [1, s1, s0, p0, z1, z0] from by rw [hs1, hs0, hp0, hz1, hz0]; rfl)
  obtain ⟨s2, hhs⟩ : ∃ t, t = s.tdiv 256 := ⟨_, rfl⟩
  rw [← hhs] at es1 qs0 qs1
  have ees := hhs.symm
  obtain ⟨z2, hhz⟩ : ∃ t, t = z.tdiv 256 := ⟨_, rfl⟩
  rw [← hhz] at ez1 qz0 qz1
  have eez := hhz.symm
  clear ho hn hs1 hs0 hp0 hz1 hz0 ts tz hhs hhz
  show Calls _ _ #[.agg #[.int .i64 1, .int .i64 s, .int .i64 p, .int .i64 n, .int .i64 z, .int .i64 y, .int .i64 c, .int .i64 h, .slice A m d]] w _
  go_enter Try.func17, Try.ntmps17
  go_wp2_with (at_builtin; refine wpList_add _ rfl (.tmp 19) (.tmp 30) _ rfl w.heap.size 5 i0 _ 1 Try.underlying22 hi0 hz0 hz1 hz2 rfl _ 3 (u8n [1, s1, s0]) rfl (own_below (own_at (w.alloc (.cells #[.int .i64 1, .int .i64 s, .int .i64 p, .int .i64 n, .int .i64 z, .int .i64 y, .int .i64 c, .int .i64 h, .slice A m d] 24)) (w.heap.size + 1) 3 w.heap.size [1, s1, s0] (by simp) rfl (by omega) (by omega)) ((Below.refl _ _).alloc (Nat.le_refl _) (.cells (u8n [p0, z1, z0]).toArray 5))) (some ⟨w.heap.size + 2, 0, none⟩) 3 3 (u8n [p0, z1, z0]) rfl (rd_at ((w.alloc (.cells #[.int .i64 1, .int .i64 s, .int .i64 p, .int .i64 n, .int .i64 z, .int .i64 y, .int .i64 c, .int .i64 h, .slice A m d] 24)).alloc (.cells (u8n [1, s1, s0]).toArray 5)) (w.heap.size + 2) 3 [p0, z1, z0] (by simp) rfl (by omega)) (u8n_one _) (by omega) (by omega) (by simp; omega) ?_; intro A5 n5 c5 w5 hn5 hown5 hg5 hat5; have hb5 : Below w.heap.size w w5 := below_add (((HX.out.bel).alloc HX.out.bel.size (.cells (u8n [1, s1, s0]).toArray 5)).alloc (by simp; omega) (.cells (u8n [p0, z1, z0]).toArray 5)) (own_below (own_at (w.alloc (.cells #[.int .i64 1, .int .i64 s, .int .i64 p, .int .i64 n, .int .i64 z, .int .i64 y, .int .i64 c, .int .i64 h, .slice A m d] 24)) (w.heap.size + 1) 3 w.heap.size [1, s1, s0] (by simp) rfl (by omega) (by omega)) ((Below.refl _ _).alloc (Nat.le_refl _) (.cells (u8n [p0, z1, z0]).toArray 5))) (Nat.le_refl _) hg5)
  go_ret
  exact ⟨A5, n5, c5, rfl, by rw [HH.out]; rw [u8n_app] at hown5; exact hown5, hb5⟩
set_option maxRecDepth 100000 in
set_option maxHeartbeats 1600000 in
theorem rhead2 (s p n z y c h : Int) (A : Option Addr) (m d : Nat) (xs : List Nat) (w : World) (ho : Pu.ok w ⟨2, s, p, n, z, y, c, h, A, m, d, xs⟩) (hn : Pu.bd ⟨2, s, p, n, z, y, c, h, A, m, d, xs⟩) (hm : m ≤ 1000000) : Calls Try.prog 17 #[Pu.val ⟨2, s, p, n, z, y, c, h, A, m, d, xs⟩] w (Gives w (Pd.rhead (Pu.pd ⟨2, s, p, n, z, y, c, h, A, m, d, xs⟩))) := by
  obtain ⟨i0, hi0, hz0, hz1, hz2⟩ := info_parts NumA.info8
  have HX := Lib.hid (Bx.new w (Pu.cells ⟨2, s, p, n, z, y, c, h, A, m, d, xs⟩))
  have HD := Lib.hid (show Rd w A m d (u8n xs) from ho.data)
  obtain ⟨s1, hs1, es1⟩ := high_of (x := s)
  have ts := tdiv_bd hn.s
  have qs0 := ts.1
  have qs1 := ts.2
  obtain ⟨s0, hs0, es0⟩ := low_of s
  obtain ⟨n0, hn0, en0⟩ := low_of n
  have HH := Lib.hid (show Pd.rhead (Pu.pd ⟨2, s, p, n, z, y, c, h, A, m, d, xs⟩) = [2, s1, s0, n0] ++ xs from by rw [hs1, hs0, hn0]; rfl)
  obtain ⟨s2, hhs⟩ : ∃ t, t = s.tdiv 256 := ⟨_, rfl⟩
  rw [← hhs] at es1 qs0 qs1
  have ees := hhs.symm
  clear ho hn hs1 hs0 hn0 ts hhs
  show Calls _ _ #[.agg #[.int .i64 2, .int .i64 s, .int .i64 p, .int .i64 n, .int .i64 z, .int .i64 y, .int .i64 c, .int .i64 h, .slice A m d]] w _
  go_enter Try.func17, Try.ntmps17
  go_wp2_with (first
   | (have hq := HO5; clear hq; at_builtin; refine wpList_add _ rfl (.tmp 40) (.tmp 42) _ rfl w.heap.size 5 i0 _ 1 Try.underlying22 hi0 hz0 hz1 hz2 rfl _ n5 _ rfl HO5.out A m d (u8n xs) rfl (HD.out.below hb5) (u8n_one _) (by have := hn5.out; omega) (by have := hn5.out; omega) hb5.size ?_; intro A6 n6 c6 w6 hn6 hown6 hg6 hat6; have hb6 : Below w.heap.size w w6 := below_add hb5 HO5.out (Nat.le_refl _) hg6)
   | (at_builtin; refine wpList_add _ rfl (.tmp 34) (.tmp 38) _ rfl w.heap.size 5 i0 _ 1 Try.underlying22 hi0 hz0 hz1 hz2 rfl _ 3 (u8n [2, s1, s0]) rfl (own_below (own_at (w.alloc (.cells #[.int .i64 2, .int .i64 s, .int .i64 p, .int .i64 n, .int .i64 z, .int .i64 y, .int .i64 c, .int .i64 h, .slice A m d] 24)) (w.heap.size + 1) 3 w.heap.size [2, s1, s0] (by simp) rfl (by omega) (by omega)) ((Below.refl _ _).alloc (Nat.le_refl _) (.cells (u8n [n0]).toArray 5))) (some ⟨w.heap.size + 2, 0, none⟩) 1 1 (u8n [n0]) rfl (rd_at ((w.alloc (.cells #[.int .i64 2, .int .i64 s, .int .i64 p, .int .i64 n, .int .i64 z, .int .i64 y, .int .i64 c, .int .i64 h, .slice A m d] 24)).alloc (.cells (u8n [2, s1, s0]).toArray 5)) (w.heap.size + 2) 1 [n0] (by simp) rfl (by omega)) (u8n_one _) (by omega) (by omega) (by simp; omega) ?_; intro A5 n5 c5 w5 hn5 hown5 hg5 hat5; have hb5 : Below w.heap.size w w5 := below_add (((HX.out.bel).alloc HX.out.bel.size (.cells (u8n [2, s1, s0]).toArray 5)).alloc (by simp; omega) (.cells (u8n [n0]).toArray 5)) (own_below (own_at (w.alloc (.cells #[.int .i64 2, .int .i64 s, .int .i64 p, .int .i64 n, .int .i64 z, .int .i64 y, .int .i64 c, .int .i64 h, .slice A m d] 24)) (w.heap.size + 1) 3 w.heap.size [2, s1, s0] (by simp) rfl (by omega) (by omega)) ((Below.refl _ _).alloc (Nat.le_refl _) (.cells (u8n [n0]).toArray 5))) (Nat.le_refl _) hg5; have HO5 := Lib.hid hown5; have hB5 : Blk w5 w.heap.size 24 (Pu.cells ⟨2, s, p, n, z, y, c, h, A, m, d, xs⟩) := ((show World.grownBy (((w.alloc (.cells #[.int .i64 2, .int .i64 s, .int .i64 p, .int .i64 n, .int .i64 z, .int .i64 y, .int .i64 c, .int .i64 h, .slice A m d] 24)).alloc (.cells (u8n [2, s1, s0]).toArray 5)).alloc (.cells (u8n [n0]).toArray 5)) w5 (some (w.heap.size + 1)) from hg5).block w.heap.size (by simp; omega) (by simp)).trans ((HX.out.blk.alloc (.cells (u8n [2, s1, s0]).toArray 5)).alloc (.cells (u8n [n0]).toArray 5)); have z8 := (nine hB5).2.2.2.2.2.2.2.2; clear hB5; clear hown5 hg5 hat5))
  go_ret
  exact ⟨A6, n6, c6, rfl, by rw [HH.out]; rw [u8n_app, u8n_app] at hown6; exact hown6, hb6⟩
set_option maxRecDepth 100000 in
set_option maxHeartbeats 1600000 in
theorem rhead3 (s p n z y c h : Int) (A : Option Addr) (m d : Nat) (xs : List Nat) (w : World) (ho : Pu.ok w ⟨3, s, p, n, z, y, c, h, A, m, d, xs⟩) (hn : Pu.bd ⟨3, s, p, n, z, y, c, h, A, m, d, xs⟩) (hm : m ≤ 1000000) : Calls Try.prog 17 #[Pu.val ⟨3, s, p, n, z, y, c, h, A, m, d, xs⟩] w (Gives w (Pd.rhead (Pu.pd ⟨3, s, p, n, z, y, c, h, A, m, d, xs⟩))) := by
  obtain ⟨i0, hi0, hz0, hz1, hz2⟩ := info_parts NumA.info8
  have HX := Lib.hid (Bx.new w (Pu.cells ⟨3, s, p, n, z, y, c, h, A, m, d, xs⟩))
  have HD := Lib.hid (show Rd w A m d (u8n xs) from ho.data)
  obtain ⟨s1, hs1, es1⟩ := high_of (x := s)
  have ts := tdiv_bd hn.s
  have qs0 := ts.1
  have qs1 := ts.2
  obtain ⟨s0, hs0, es0⟩ := low_of s
  have HH := Lib.hid (show Pd.rhead (Pu.pd ⟨3, s, p, n, z, y, c, h, A, m, d, xs⟩) = [3, s1, s0] from by rw [hs1, hs0]; rfl)
  obtain ⟨s2, hhs⟩ : ∃ t, t = s.tdiv 256 := ⟨_, rfl⟩
  rw [← hhs] at es1 qs0 qs1
  have ees := hhs.symm
  clear ho hn hs1 hs0 ts hhs
  show Calls _ _ #[.agg #[.int .i64 3, .int .i64 s, .int .i64 p, .int .i64 n, .int .i64 z, .int .i64 y, .int .i64 c, .int .i64 h, .slice A m d]] w _
  go_enter Try.func17, Try.ntmps17
  go_wp2
  go_ret
  exact ⟨_, _, _, rfl, by rw [HH.out]; exact own_at (w.alloc (.cells #[.int .i64 3, .int .i64 s, .int .i64 p, .int .i64 n, .int .i64 z, .int .i64 y, .int .i64 c, .int .i64 h, .slice A m d] 24)) (w.heap.size + 1) 3 w.heap.size [3, s1, s0] (by simp) rfl (by omega) (by omega), (HX.out.bel).alloc HX.out.bel.size (.cells (u8n [3, s1, s0]).toArray 5)⟩
set_option maxRecDepth 100000 in
set_option maxHeartbeats 1600000 in
theorem rhead4 (s p n z y c h : Int) (A : Option Addr) (m d : Nat) (xs : List Nat) (w : World) (ho : Pu.ok w ⟨4, s, p, n, z, y, c, h, A, m, d, xs⟩) (hn : Pu.bd ⟨4, s, p, n, z, y, c, h, A, m, d, xs⟩) (hm : m ≤ 1000000) : Calls Try.prog 17 #[Pu.val ⟨4, s, p, n, z, y, c, h, A, m, d, xs⟩] w (Gives w (Pd.rhead (Pu.pd ⟨4, s, p, n, z, y, c, h, A, m, d, xs⟩))) := by
  obtain ⟨i0, hi0, hz0, hz1, hz2⟩ := info_parts NumA.info8
  have HX := Lib.hid (Bx.new w (Pu.cells ⟨4, s, p, n, z, y, c, h, A, m, d, xs⟩))
  have HD := Lib.hid (show Rd w A m d (u8n xs) from ho.data)
  obtain ⟨s1, hs1, es1⟩ := high_of (x := s)
  have ts := tdiv_bd hn.s
  have qs0 := ts.1
  have qs1 := ts.2
  obtain ⟨s0, hs0, es0⟩ := low_of s
  have HH := Lib.hid (show Pd.rhead (Pu.pd ⟨4, s, p, n, z, y, c, h, A, m, d, xs⟩) = [4, s1, s0] from by rw [hs1, hs0]; rfl)
  obtain ⟨s2, hhs⟩ : ∃ t, t = s.tdiv 256 := ⟨_, rfl⟩
  rw [← hhs] at es1 qs0 qs1
  have ees := hhs.symm
  clear ho hn hs1 hs0 ts hhs
  show Calls _ _ #[.agg #[.int .i64 4, .int .i64 s, .int .i64 p, .int .i64 n, .int .i64 z, .int .i64 y, .int .i64 c, .int .i64 h, .slice A m d]] w _
  go_enter Try.func17, Try.ntmps17
  go_wp2
  go_ret
  exact ⟨_, _, _, rfl, by rw [HH.out]; exact own_at (w.alloc (.cells #[.int .i64 4, .int .i64 s, .int .i64 p, .int .i64 n, .int .i64 z, .int .i64 y, .int .i64 c, .int .i64 h, .slice A m d] 24)) (w.heap.size + 1) 3 w.heap.size [4, s1, s0] (by simp) rfl (by omega) (by omega), (HX.out.bel).alloc HX.out.bel.size (.cells (u8n [4, s1, s0]).toArray 5)⟩
set_option maxRecDepth 100000 in
set_option maxHeartbeats 1600000 in
theorem rhead5 (s p n z y c h : Int) (A : Option Addr) (m d : Nat) (xs : List Nat) (w : World) (ho : Pu.ok w ⟨5, s, p, n, z, y, c, h, A, m, d, xs⟩) (hn : Pu.bd ⟨5, s, p, n, z, y, c, h, A, m, d, xs⟩) (hm : m ≤ 1000000) : Calls Try.prog 17 #[Pu.val ⟨5, s, p, n, z, y, c, h, A, m, d, xs⟩] w (Gives w (Pd.rhead (Pu.pd ⟨5, s, p, n, z, y, c, h, A, m, d, xs⟩))) := by
  obtain ⟨i0, hi0, hz0, hz1, hz2⟩ := info_parts NumA.info8
  have HX := Lib.hid (Bx.new w (Pu.cells ⟨5, s, p, n, z, y, c, h, A, m, d, xs⟩))
  have HD := Lib.hid (show Rd w A m d (u8n xs) from ho.data)
  obtain ⟨s1, hs1, es1⟩ := high_of (x := s)
  have ts := tdiv_bd hn.s
  have qs0 := ts.1
  have qs1 := ts.2
  obtain ⟨s0, hs0, es0⟩ := low_of s
  have HH := Lib.hid (show Pd.rhead (Pu.pd ⟨5, s, p, n, z, y, c, h, A, m, d, xs⟩) = [5, s1, s0] from by rw [hs1, hs0]; rfl)
  obtain ⟨s2, hhs⟩ : ∃ t, t = s.tdiv 256 := ⟨_, rfl⟩
  rw [← hhs] at es1 qs0 qs1
  have ees := hhs.symm
  clear ho hn hs1 hs0 ts hhs
  show Calls _ _ #[.agg #[.int .i64 5, .int .i64 s, .int .i64 p, .int .i64 n, .int .i64 z, .int .i64 y, .int .i64 c, .int .i64 h, .slice A m d]] w _
  go_enter Try.func17, Try.ntmps17
  go_wp2
  go_ret
  exact ⟨_, _, _, rfl, by rw [HH.out]; exact own_at (w.alloc (.cells #[.int .i64 5, .int .i64 s, .int .i64 p, .int .i64 n, .int .i64 z, .int .i64 y, .int .i64 c, .int .i64 h, .slice A m d] 24)) (w.heap.size + 1) 3 w.heap.size [5, s1, s0] (by simp) rfl (by omega) (by omega), (HX.out.bel).alloc HX.out.bel.size (.cells (u8n [5, s1, s0]).toArray 5)⟩
set_option maxRecDepth 100000 in
set_option maxHeartbeats 1600000 in
theorem rhead6 (s p n z y c h : Int) (A : Option Addr) (m d : Nat) (xs : List Nat) (w : World) (ho : Pu.ok w ⟨6, s, p, n, z, y, c, h, A, m, d, xs⟩) (hn : Pu.bd ⟨6, s, p, n, z, y, c, h, A, m, d, xs⟩) (hm : m ≤ 1000000) : Calls Try.prog 17 #[Pu.val ⟨6, s, p, n, z, y, c, h, A, m, d, xs⟩] w (Gives w (Pd.rhead (Pu.pd ⟨6, s, p, n, z, y, c, h, A, m, d, xs⟩))) := by
  obtain ⟨i0, hi0, hz0, hz1, hz2⟩ := info_parts NumA.info8
  have HX := Lib.hid (Bx.new w (Pu.cells ⟨6, s, p, n, z, y, c, h, A, m, d, xs⟩))
  have HD := Lib.hid (show Rd w A m d (u8n xs) from ho.data)
  obtain ⟨s1, hs1, es1⟩ := high_of (x := s)
  have ts := tdiv_bd hn.s
  have qs0 := ts.1
  have qs1 := ts.2
  obtain ⟨s0, hs0, es0⟩ := low_of s
  obtain ⟨y0, hy0, ey0⟩ := low_of y
  obtain ⟨n0, hn0, en0⟩ := low_of n
  have HH := Lib.hid (show Pd.rhead (Pu.pd ⟨6, s, p, n, z, y, c, h, A, m, d, xs⟩) = [6, s1, s0, y0, n0] from by rw [hs1, hs0, hy0, hn0]; rfl)
  obtain ⟨s2, hhs⟩ : ∃ t, t = s.tdiv 256 := ⟨_, rfl⟩
  rw [← hhs] at es1 qs0 qs1
  have ees := hhs.symm
  clear ho hn hs1 hs0 hy0 hn0 ts hhs
  show Calls _ _ #[.agg #[.int .i64 6, .int .i64 s, .int .i64 p, .int .i64 n, .int .i64 z, .int .i64 y, .int .i64 c, .int .i64 h, .slice A m d]] w _
  go_enter Try.func17, Try.ntmps17
  go_wp2_with (at_builtin; refine wpList_add _ rfl (.tmp 46) (.tmp 53) _ rfl w.heap.size 5 i0 _ 1 Try.underlying22 hi0 hz0 hz1 hz2 rfl _ 3 (u8n [6, s1, s0]) rfl (own_below (own_at (w.alloc (.cells #[.int .i64 6, .int .i64 s, .int .i64 p, .int .i64 n, .int .i64 z, .int .i64 y, .int .i64 c, .int .i64 h, .slice A m d] 24)) (w.heap.size + 1) 3 w.heap.size [6, s1, s0] (by simp) rfl (by omega) (by omega)) ((Below.refl _ _).alloc (Nat.le_refl _) (.cells (u8n [y0, n0]).toArray 5))) (some ⟨w.heap.size + 2, 0, none⟩) 2 2 (u8n [y0, n0]) rfl (rd_at ((w.alloc (.cells #[.int .i64 6, .int .i64 s, .int .i64 p, .int .i64 n, .int .i64 z, .int .i64 y, .int .i64 c, .int .i64 h, .slice A m d] 24)).alloc (.cells (u8n [6, s1, s0]).toArray 5)) (w.heap.size + 2) 2 [y0, n0] (by simp) rfl (by omega)) (u8n_one _) (by omega) (by omega) (by simp; omega) ?_; intro A5 n5 c5 w5 hn5 hown5 hg5 hat5; have hb5 : Below w.heap.size w w5 := below_add (((HX.out.bel).alloc HX.out.bel.size (.cells (u8n [6, s1, s0]).toArray 5)).alloc (by simp; omega) (.cells (u8n [y0, n0]).toArray 5)) (own_below (own_at (w.alloc (.cells #[.int .i64 6, .int .i64 s, .int .i64 p, .int .i64 n, .int .i64 z, .int .i64 y, .int .i64 c, .int .i64 h, .slice A m d] 24)) (w.heap.size + 1) 3 w.heap.size [6, s1, s0] (by simp) rfl (by omega) (by omega)) ((Below.refl _ _).alloc (Nat.le_refl _) (.cells (u8n [y0, n0]).toArray 5))) (Nat.le_refl _) hg5)
  go_ret
  exact ⟨A5, n5, c5, rfl, by rw [HH.out]; rw [u8n_app] at hown5; exact hown5, hb5⟩
set_option maxRecDepth 100000 in
set_option maxHeartbeats 1600000 in
theorem rhead7 (s p n z y c h : Int) (A : Option Addr) (m d : Nat) (xs : List Nat) (w : World) (ho : Pu.ok w ⟨7, s, p, n, z, y, c, h, A, m, d, xs⟩) (hn : Pu.bd ⟨7, s, p, n, z, y, c, h, A, m, d, xs⟩) (hm : m ≤ 1000000) : Calls Try.prog 17 #[Pu.val ⟨7, s, p, n, z, y, c, h, A, m, d, xs⟩] w (Gives w (Pd.rhead (Pu.pd ⟨7, s, p, n, z, y, c, h, A, m, d, xs⟩))) := by
  obtain ⟨i0, hi0, hz0, hz1, hz2⟩ := info_parts NumA.info8
  have HX := Lib.hid (Bx.new w (Pu.cells ⟨7, s, p, n, z, y, c, h, A, m, d, xs⟩))
  have HD := Lib.hid (show Rd w A m d (u8n xs) from ho.data)
  obtain ⟨s1, hs1, es1⟩ := high_of (x := s)
  have ts := tdiv_bd hn.s
  have qs0 := ts.1
  have qs1 := ts.2
  obtain ⟨s0, hs0, es0⟩ := low_of s
  obtain ⟨y0, hy0, ey0⟩ := low_of y
  obtain ⟨n0, hn0, en0⟩ := low_of n
  obtain ⟨c0, hc0, ec0⟩ := low_of c
  have HH := Lib.hid (show Pd.rhead (Pu.pd ⟨7, s, p, n, z, y, c, h, A, m, d, xs⟩) = [7, s1, s0, y0, n0, c0] from by rw [hs1, hs0, hy0, hn0, hc0]; rfl)
  obtain ⟨s2, hhs⟩ : ∃ t, t = s.tdiv 256 := ⟨_, rfl⟩
  rw [← hhs] at es1 qs0 qs1
  have ees := hhs.symm
  clear ho hn hs1 hs0 hy0 hn0 hc0 ts hhs
  show Calls _ _ #[.agg #[.int .i64 7, .int .i64 s, .int .i64 p, .int .i64 n, .int .i64 z, .int .i64 y, .int .i64 c, .int .i64 h, .slice A m d]] w _
  go_enter Try.func17, Try.ntmps17
  go_wp2_with (at_builtin; refine wpList_add _ rfl (.tmp 57) (.tmp 67) _ rfl w.heap.size 5 i0 _ 1 Try.underlying22 hi0 hz0 hz1 hz2 rfl _ 3 (u8n [7, s1, s0]) rfl (own_below (own_at (w.alloc (.cells #[.int .i64 7, .int .i64 s, .int .i64 p, .int .i64 n, .int .i64 z, .int .i64 y, .int .i64 c, .int .i64 h, .slice A m d] 24)) (w.heap.size + 1) 3 w.heap.size [7, s1, s0] (by simp) rfl (by omega) (by omega)) ((Below.refl _ _).alloc (Nat.le_refl _) (.cells (u8n [y0, n0, c0]).toArray 5))) (some ⟨w.heap.size + 2, 0, none⟩) 3 3 (u8n [y0, n0, c0]) rfl (rd_at ((w.alloc (.cells #[.int .i64 7, .int .i64 s, .int .i64 p, .int .i64 n, .int .i64 z, .int .i64 y, .int .i64 c, .int .i64 h, .slice A m d] 24)).alloc (.cells (u8n [7, s1, s0]).toArray 5)) (w.heap.size + 2) 3 [y0, n0, c0] (by simp) rfl (by omega)) (u8n_one _) (by omega) (by omega) (by simp; omega) ?_; intro A5 n5 c5 w5 hn5 hown5 hg5 hat5; have hb5 : Below w.heap.size w w5 := below_add (((HX.out.bel).alloc HX.out.bel.size (.cells (u8n [7, s1, s0]).toArray 5)).alloc (by simp; omega) (.cells (u8n [y0, n0, c0]).toArray 5)) (own_below (own_at (w.alloc (.cells #[.int .i64 7, .int .i64 s, .int .i64 p, .int .i64 n, .int .i64 z, .int .i64 y, .int .i64 c, .int .i64 h, .slice A m d] 24)) (w.heap.size + 1) 3 w.heap.size [7, s1, s0] (by simp) rfl (by omega) (by omega)) ((Below.refl _ _).alloc (Nat.le_refl _) (.cells (u8n [y0, n0, c0]).toArray 5))) (Nat.le_refl _) hg5)
  go_ret
  exact ⟨A5, n5, c5, rfl, by rw [HH.out]; rw [u8n_app] at hown5; exact hown5, hb5⟩
set_option maxRecDepth 100000 in
set_option maxHeartbeats 1600000 in
theorem rhead8 (s p n z y c h : Int) (A : Option Addr) (m d : Nat) (xs : List Nat) (w : World) (ho : Pu.ok w ⟨8, s, p, n, z, y, c, h, A, m, d, xs⟩) (hn : Pu.bd ⟨8, s, p, n, z, y, c, h, A, m, d, xs⟩) (hm : m ≤ 1000000) : Calls Try.prog 17 #[Pu.val ⟨8, s, p, n, z, y, c, h, A, m, d, xs⟩] w (Gives w (Pd.rhead (Pu.pd ⟨8, s, p, n, z, y, c, h, A, m, d, xs⟩))) := by
  obtain ⟨i0, hi0, hz0, hz1, hz2⟩ := info_parts NumA.info8
  have HX := Lib.hid (Bx.new w (Pu.cells ⟨8, s, p, n, z, y, c, h, A, m, d, xs⟩))
  have HD := Lib.hid (show Rd w A m d (u8n xs) from ho.data)
  obtain ⟨s1, hs1, es1⟩ := high_of (x := s)
  have ts := tdiv_bd hn.s
  have qs0 := ts.1
  have qs1 := ts.2
  obtain ⟨s0, hs0, es0⟩ := low_of s
  obtain ⟨p0, hp0, ep0⟩ := low_of p
  obtain ⟨z1, hz1, ez1⟩ := high_of (x := z)
  have tz := tdiv_bd hn.z
  have qz0 := tz.1
  have qz1 := tz.2
  obtain ⟨z0, hz0, ez0⟩ := low_of z
  obtain ⟨h1, hh1, eh1⟩ := high_of (x := h)
  have th := tdiv_bd hn.h
  have qh0 := th.1
  have qh1 := th.2
  obtain ⟨h0, hh0, eh0⟩ := low_of h
  have HH := Lib.hid (show Pd.rhead (Pu.pd ⟨8, s, p, n, z, y, c, h, A, m, d, xs⟩) = [8, s1, s0, p0, z1, z0, h1, h0] from by rw [hs1, hs0, hp0, hz1, hz0, hh1, hh0]; rfl)
  obtain ⟨s2, hhs⟩ : ∃ t, t = s.tdiv 256 := ⟨_, rfl⟩
  rw [← hhs] at es1 qs0 qs1
  have ees := hhs.symm
  obtain ⟨z2, hhz⟩ : ∃ t, t = z.tdiv 256 := ⟨_, rfl⟩
  rw [← hhz] at ez1 qz0 qz1
  have eez := hhz.symm
  obtain ⟨h2, hhh⟩ : ∃ t, t = h.tdiv 256 := ⟨_, rfl⟩
  rw [← hhh] at eh1 qh0 qh1
  have eeh := hhh.symm
  clear ho hn hs1 hs0 hp0 hz1 hz0 hh1 hh0 ts tz th hhs hhz hhh
  show Calls _ _ #[.agg #[.int .i64 8, .int .i64 s, .int .i64 p, .int .i64 n, .int .i64 z, .int .i64 y, .int .i64 c, .int .i64 h, .slice A m d]] w _
  go_enter Try.func17, Try.ntmps17
  go_wp2_with (at_builtin; refine wpList_add _ rfl (.tmp 71) (.tmp 89) _ rfl w.heap.size 5 i0 _ 1 Try.underlying22 hi0 hz0 hz1 hz2 rfl _ 3 (u8n [8, s1, s0]) rfl (own_below (own_at (w.alloc (.cells #[.int .i64 8, .int .i64 s, .int .i64 p, .int .i64 n, .int .i64 z, .int .i64 y, .int .i64 c, .int .i64 h, .slice A m d] 24)) (w.heap.size + 1) 3 w.heap.size [8, s1, s0] (by simp) rfl (by omega) (by omega)) ((Below.refl _ _).alloc (Nat.le_refl _) (.cells (u8n [p0, z1, z0, h1, h0]).toArray 5))) (some ⟨w.heap.size + 2, 0, none⟩) 5 5 (u8n [p0, z1, z0, h1, h0]) rfl (rd_at ((w.alloc (.cells #[.int .i64 8, .int .i64 s, .int .i64 p, .int .i64 n, .int .i64 z, .int .i64 y, .int .i64 c, .int .i64 h, .slice A m d] 24)).alloc (.cells (u8n [8, s1, s0]).toArray 5)) (w.heap.size + 2) 5 [p0, z1, z0, h1, h0] (by simp) rfl (by omega)) (u8n_one _) (by omega) (by omega) (by simp; omega) ?_; intro A5 n5 c5 w5 hn5 hown5 hg5 hat5; have hb5 : Below w.heap.size w w5 := below_add (((HX.out.bel).alloc HX.out.bel.size (.cells (u8n [8, s1, s0]).toArray 5)).alloc (by simp; omega) (.cells (u8n [p0, z1, z0, h1, h0]).toArray 5)) (own_below (own_at (w.alloc (.cells #[.int .i64 8, .int .i64 s, .int .i64 p, .int .i64 n, .int .i64 z, .int .i64 y, .int .i64 c, .int .i64 h, .slice A m d] 24)) (w.heap.size + 1) 3 w.heap.size [8, s1, s0] (by simp) rfl (by omega) (by omega)) ((Below.refl _ _).alloc (Nat.le_refl _) (.cells (u8n [p0, z1, z0, h1, h0]).toArray 5))) (Nat.le_refl _) hg5)
  go_ret
  exact ⟨A5, n5, c5, rfl, by rw [HH.out]; rw [u8n_app] at hown5; exact hown5, hb5⟩
end Go.Proofs.Ytamilgbjjcdlbaa.PduC
