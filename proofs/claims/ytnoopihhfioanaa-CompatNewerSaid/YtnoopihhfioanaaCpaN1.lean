/- Is an image made for the partition, and is it small enough, by the landed code? Conditions: the table lies as the facts say, and has the partition; numbers of 64 bits. -/
import Derived.Test.YtnoopihhfioanaaCpaN0
import Derived.BigQuiet
namespace Go.Proofs.Ytnoopihhfioanaa.CpaN1
open Go.RowKit Go.Proofs.Ytnoopihhfioanaa.Kit Go.Proofs.Ytnoopihhfioanaa.Byt Go.Proofs.Ytnoopihhfioanaa.Mem Go.Proofs.Ytnoopihhfioanaa.CpaM Go.Proofs.Ytnoopihhfioanaa.CpaN0
open Go.Proofs.Ytnoopihhfioanaa.TabA (Tri Ta Tris)
open Go.Proofs.Ytnoopihhfioanaa.TabB (Yes)
open Go.Proofs.Ytnoopihhfioanaa.ImgA (Im)
theorem pof_at {t : Ta} {q : Nat} {r : Tri} (h : t.P[q]? = some r) : pof t (q : Int) = r := by
  unfold pof
  rw [Int.toNat_natCast, List.getD_eq_getElem?_getD, h]
  rfl
set_option maxRecDepth 100000 in
set_option maxHeartbeats 1600000 in
theorem q_meant (t : Ta) (q : Nat) (i : Im) (v : Int) (w : World) (ht : t.ok w) (hq : q < t.n1) (b : Bool) (hb : b = true ↔ i.p = (q : Int) ∧ i.h = (pof t (q : Int)).c) :
    Calls Try.prog 26 #[qval t (q : Int) i v] w (Yes w b) := by
  have HN := Lib.hid (Rq.new w t (q : Int) i v)
  obtain ⟨r, bl, o, hr, _, hA, _, r0, r1, r2⟩ := (ht.alloc (.cells (qcells t (q : Int) i v).toArray 50)).P.at_ hq
  rw [pof_at hr] at hb
  have hn1 := ht.P.le
  have HB := Lib.hid hb
  obtain ⟨fr, A1, n1, c1, P, A2, n2, c2, W, A3, n3, c3, C, tr⟩ := t
  obtain ⟨ip, iv, ih, im, if_, is_, ir, iA, in_, ic, ixs⟩ := i
  obtain ⟨ra, rb, rc⟩ := r
  dsimp only at hA hn1 HB r2 hq
  subst hA
  clear hb hr ht r0 r1
  have s2 : (w.alloc (.cells #[.int .i64 fr, .slice (some ⟨bl, o, none⟩) n1 c1, .slice A2 n2 c2, .slice A3 n3 c3, .int .i64 tr, .int .i64 (q : Int), .int .i64 ip, .int .i64 iv, .int .i64 ih, .int .i64 im, .int .i64 if_, .int .i64 is_, .int .i64 ir, .slice iA in_ ic, .int .i64 v] 50)).cell? ⟨bl, o + q * 3 + 2, none⟩ = some (.int .i64 rc) := r2
  clear r2
  by_cases h1 : ip = (q : Int)
  · subst h1
    have e1 : ((q : Int) == (q : Int)) = true := by simp
    go_enter Try.func26, Try.ntmps26
    go_wp2_with fail
    go_quiet (fail)
    go_wp2_with fail
    go_ret
    exact ⟨ret_y (by rw [Bool.eq_iff_iff, HB.out]; simp), (HN.out.drewN _).bel⟩
  · have e1 : (ip == (q : Int)) = false := by simpa using h1
    go_enter Try.func26, Try.ntmps26
    go_wp2_with fail
    go_quiet (fail)
    go_wp2_with fail
    go_ret
    exact ⟨ret_y (by rw [Bool.eq_iff_iff, HB.out]; simp [h1]), (HN.out.drewN _).bel⟩
set_option maxRecDepth 100000 in
set_option maxHeartbeats 1600000 in
theorem q_small (t : Ta) (q : Nat) (i : Im) (v : Int) (w : World) (ht : t.ok w) (hq : q < t.n1) (b : Bool) (hb : b = true ↔ i.m ≤ (pof t (q : Int)).a ∧ i.f ≤ (pof t (q : Int)).b) :
    Calls Try.prog 27 #[qval t (q : Int) i v] w (Yes w b) := by
  have HN := Lib.hid (Rq.new w t (q : Int) i v)
  obtain ⟨r, bl, o, hr, _, hA, _, r0, r1, r2⟩ := (ht.alloc (.cells (qcells t (q : Int) i v).toArray 50)).P.at_ hq
  rw [pof_at hr] at hb
  have hn1 := ht.P.le
  have HB := Lib.hid hb
  obtain ⟨fr, A1, n1, c1, P, A2, n2, c2, W, A3, n3, c3, C, tr⟩ := t
  obtain ⟨ip, iv, ih, im, if_, is_, ir, iA, in_, ic, ixs⟩ := i
  obtain ⟨ra, rb, rc⟩ := r
  dsimp only at hA hn1 HB r0 r1 r2 hq
  subst hA
  clear hb hr ht
  have s0 : (w.alloc (.cells #[.int .i64 fr, .slice (some ⟨bl, o, none⟩) n1 c1, .slice A2 n2 c2, .slice A3 n3 c3, .int .i64 tr, .int .i64 (q : Int), .int .i64 ip, .int .i64 iv, .int .i64 ih, .int .i64 im, .int .i64 if_, .int .i64 is_, .int .i64 ir, .slice iA in_ ic, .int .i64 v] 50)).cell? ⟨bl, o + q * 3, none⟩ = some (.int .i64 ra) := r0
  have s1 : (w.alloc (.cells #[.int .i64 fr, .slice (some ⟨bl, o, none⟩) n1 c1, .slice A2 n2 c2, .slice A3 n3 c3, .int .i64 tr, .int .i64 (q : Int), .int .i64 ip, .int .i64 iv, .int .i64 ih, .int .i64 im, .int .i64 if_, .int .i64 is_, .int .i64 ir, .slice iA in_ ic, .int .i64 v] 50)).cell? ⟨bl, o + q * 3 + 1, none⟩ = some (.int .i64 rb) := r1
  have s2 : (w.alloc (.cells #[.int .i64 fr, .slice (some ⟨bl, o, none⟩) n1 c1, .slice A2 n2 c2, .slice A3 n3 c3, .int .i64 tr, .int .i64 (q : Int), .int .i64 ip, .int .i64 iv, .int .i64 ih, .int .i64 im, .int .i64 if_, .int .i64 is_, .int .i64 ir, .slice iA in_ ic, .int .i64 v] 50)).cell? ⟨bl, o + q * 3 + 2, none⟩ = some (.int .i64 rc) := r2
  clear r0 r1 r2
  by_cases h1 : im ≤ ra
  · go_enter Try.func27, Try.ntmps27
    go_wp2_with fail
    go_ret
    exact ⟨ret_y (by rw [Bool.eq_iff_iff, HB.out]; simp [h1]), ((HN.out.alloc _)).bel⟩
  · go_enter Try.func27, Try.ntmps27
    go_wp2_with fail
    go_ret
    exact ⟨ret_y (by rw [Bool.eq_iff_iff, HB.out]; simp; omega), ((HN.out.alloc _)).bel⟩
end Go.Proofs.Ytnoopihhfioanaa.CpaN1
