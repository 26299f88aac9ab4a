/- Whether two messages are alike, by the code. Conditions: each lies as the facts say. -/
import Derived.Test.YtamilgbjjcdlbaaPduG
import Derived.Test.YtamilgbjjcdlbaaPduB
import Derived.Test.YtamilgbjjcdlbaaBeq
import Derived.BigQuiet
namespace Go.Proofs.Ytamilgbjjcdlbaa.PduS
open Go.RowKit Go.Proofs.Ytamilgbjjcdlbaa.Kit Go.Proofs.Ytamilgbjjcdlbaa.Byt Go.Proofs.Ytamilgbjjcdlbaa.Mem Go.Proofs.Ytamilgbjjcdlbaa.RecM Go.Proofs.Ytamilgbjjcdlbaa.PduM Go.Proofs.Ytamilgbjjcdlbaa.PduA Go.Proofs.Ytamilgbjjcdlbaa.PduG Go.Proofs.Ytamilgbjjcdlbaa.PduB

/-! ### arrays of numbers held against each other -/
section
variable {P : Program} (w : World)
theorem items_any (d : Nat) {e : TypeId} (he : P.underlying e = some (.int .i64)) (xs ys : List Int) : ∀ is : List Nat, (∀ i ∈ is, i < xs.length ∧ i < ys.length) → (Op.eqItems (d + 1) e 1 (i64s xs).toArray (i64s ys).toArray is).run P w = .ok (is.all fun i => xs.getD i 0 == ys.getD i 0) w
  | [], _ => by simp [Op.eqItems]
  | i :: is, h => by
    obtain ⟨hi, hj⟩ := h i (by simp)
    have px : (part e (i64s xs).toArray (i * 1)).run P w = .ok (.int .i64 (xs.getD i 0)) w := by
      rw [Nat.mul_one]
      simp [part, isAgg, run_underlying he, i64s, hi]
    have py : (part e (i64s ys).toArray (i * 1)).run P w = .ok (.int .i64 (ys.getD i 0)) w := by
      rw [Nat.mul_one]
      simp [part, isAgg, run_underlying he, i64s, hj]
    have pe : (Op.equalIn (d + 1) e (.int .i64 (xs.getD i 0)) (.int .i64 (ys.getD i 0))).run P w = .ok (xs.getD i 0 == ys.getD i 0) w := run_equalIn_int w d e .i64 .i64 _ _ he
    have ih := items_any d he xs ys is fun j hj => h j (by simp [hj])
    simp only [Op.eqItems, Sem.run_bind, px, py, pe, Result.andThen_ok, List.all_cons]
    cases xs.getD i 0 == ys.getD i 0
    · simp
    · simpa using ih
theorem equal_ints {t e : TypeId} {n : Nat} {i : TypeInfo} (ht : P.underlying t = some (.array n e)) (he : P.underlying e = some (.int .i64)) (hi : P.info? e = some i) (hc : P.cellsOf e = 1) {xs ys : List Int} (hn : xs.length = n) (hm : ys.length = n) :
    (Op.equalIn 10000 t (.agg (i64s xs).toArray) (.agg (i64s ys).toArray)).run P w = .ok (decide (xs = ys)) w := by
  rw [show (10000 : Nat) = 9999 + 1 from rfl, run_equalIn_array w 9999 _ _ ht hi, hc, items_any w 9998 he xs ys _ fun j hj => by rw [hn, hm]; exact ⟨List.mem_range.1 hj, List.mem_range.1 hj⟩]
  congr 1
  rw [Bool.eq_iff_iff]
  simp only [List.all_eq_true, List.mem_range, beq_iff_eq, decide_eq_true_eq]
  constructor
  · intro h
    refine List.ext_getElem (by omega) fun j h1 h2 => ?_
    have := h j (by omega)
    simpa [List.getD, h1, h2] using this
  · intro h j _
    rw [h]
end


theorem infoI : ∃ i, Try.prog.info? 3 = some i := by
  have h : (Try.prog.info? 3).isSome = true := by kernel_rfl
  exact ⟨_, Option.eq_some_of_isSome h⟩
theorem cellsI : Try.prog.cellsOf 3 = 1 := by kernel_rfl
theorem numbers_v {k s p n z y c h : Int} {A : Option Addr} {m d : Nat} (w : World) : Calls Try.prog 23 #[.agg #[.int .i64 k, .int .i64 s, .int .i64 p, .int .i64 n, .int .i64 z, .int .i64 y, .int .i64 c, .int .i64 h, .slice A m d]] w fun e w' => e = .returned (.agg #[.int .i64 s, .int .i64 p, .int .i64 z, .int .i64 h, .int .i64 y, .int .i64 n, .int .i64 c]) ∧ Below w.heap.size w w' := numbers_any ⟨k, s, p, n, z, y, c, h, A, m, d, []⟩ w
/-- Two messages' own boxes, and all that was there. -/
structure B2 (w : World) (g k : Nat) (i j : Pu) (wr : World) : Prop where
  x : Bx w g i.cells wr
  y : Bx w k j.cells wr
section
variable {w wr w' : World} {g k : Nat} {i j : Pu}
theorem B2.step (H : B2 w g k i j wr) (hb : Below wr.heap.size wr w') : B2 w g k i j w' := ⟨H.x.step hb, H.y.step hb⟩
theorem B2.new (w : World) (i j : Pu) : B2 w w.heap.size (w.heap.size + 1) i j ((w.alloc (.cells i.cells.toArray 24)).alloc (.cells j.cells.toArray 24)) := by
  refine ⟨(Bx.new w i.cells).alloc _, ?_, Nat.le_succ _, ((Bx.new w i.cells).alloc _).bel⟩
  have h := Blk.new (w.alloc (.cells i.cells.toArray 24)) 24 j.cells
  rwa [show ∀ o : Obj, (w.alloc o).heap.size = w.heap.size + 1 from fun o => by simp] at h
theorem B2.cell {k s p n z y c h : Int} {A : Option Addr} {m d : Nat} {xs : List Nat} {k' s' p' n' z' y' c' h' : Int} {A' : Option Addr} {m' d' : Nat} {xs' : List Nat} {g0 k0 : Nat} (H : B2 w g0 k0 ⟨k, s, p, n, z, y, c, h, A, m, d, xs⟩ ⟨k', s', p', n', z', y', c', h', A', m', d', xs'⟩ wr) : (wr.cell? ⟨g0, 0, none⟩ = some (.int .i64 k) ∧ wr.cell? ⟨g0, 1, none⟩ = some (.int .i64 s) ∧ wr.cell? ⟨g0, 2, none⟩ = some (.int .i64 p) ∧ wr.cell? ⟨g0, 3, none⟩ = some (.int .i64 n) ∧ wr.cell? ⟨g0, 4, none⟩ = some (.int .i64 z) ∧ wr.cell? ⟨g0, 5, none⟩ = some (.int .i64 y) ∧ wr.cell? ⟨g0, 6, none⟩ = some (.int .i64 c) ∧ wr.cell? ⟨g0, 7, none⟩ = some (.int .i64 h) ∧ wr.cell? ⟨g0, 8, none⟩ = some (.slice A m d)) ∧
    wr.cell? ⟨k0, 0, none⟩ = some (.int .i64 k') ∧ wr.cell? ⟨k0, 1, none⟩ = some (.int .i64 s') ∧ wr.cell? ⟨k0, 2, none⟩ = some (.int .i64 p') ∧ wr.cell? ⟨k0, 3, none⟩ = some (.int .i64 n') ∧ wr.cell? ⟨k0, 4, none⟩ = some (.int .i64 z') ∧ wr.cell? ⟨k0, 5, none⟩ = some (.int .i64 y') ∧ wr.cell? ⟨k0, 6, none⟩ = some (.int .i64 c') ∧ wr.cell? ⟨k0, 7, none⟩ = some (.int .i64 h') ∧ wr.cell? ⟨k0, 8, none⟩ = some (.slice A' m' d') :=
  ⟨nine H.x.blk, nine H.y.blk⟩
end

set_option maxRecDepth 100000 in
set_option maxHeartbeats 3200000 in
theorem same_any (i j : Pu) (w : World) (hi : i.ok w) (hj : j.ok w) (b : Bool) (hb : b = true ↔ like i j) : Calls Try.prog 19 #[i.val, j.val] w (Yes w b) := by
  obtain ⟨i0, hi0⟩ := infoI
  have HE := Lib.hid (fun w => equal_ints (P := Try.prog) w (xs := nums i) (ys := nums j) Try.underlying46 Try.underlying3 hi0 cellsI rfl rfl)
  have HX := Lib.hid (B2.new w i j)
  have HQ := Lib.hid (fun w' (hb : Below w.heap.size w w') => Beq.equal_any i.A j.A i.m j.m i.d j.d i.xs j.xs w' (hi.below hb).data (hj.below hb).data hi.byt hj.byt)
  have HB := Lib.hid hb
  clear hi hj hb hi0
  obtain ⟨k, s, p, n, z, y, c, h, A, m, d, xs⟩ := i
  obtain ⟨k', s', p', n', z', y', c', h', A', m', d', xs'⟩ := j
  dsimp only at HQ
  have HF := Lib.hid (show ∀ q : Prop, (b = true → q) → ¬ q → b = false from fun q h hp => by rw [Bool.eq_false_iff]; exact fun hb => hp (h hb))
  have heq : ∀ w, (Op.equalIn 10000 46 (.agg #[.int .i64 s, .int .i64 p, .int .i64 z, .int .i64 h, .int .i64 y, .int .i64 n, .int .i64 c]) (.agg #[.int .i64 s', .int .i64 p', .int .i64 z', .int .i64 h', .int .i64 y', .int .i64 n', .int .i64 c'])).run Try.prog w = .ok (decide ([s, p, z, h, y, n, c] = [s', p', z', h', y', n', c'])) w := HE.out
  clear HE
  show Calls _ _ #[.agg #[.int .i64 k, .int .i64 s, .int .i64 p, .int .i64 n, .int .i64 z, .int .i64 y, .int .i64 c, .int .i64 h, .slice A m d], .agg #[.int .i64 k', .int .i64 s', .int .i64 p', .int .i64 n', .int .i64 z', .int .i64 y', .int .i64 c', .int .i64 h', .slice A' m' d']] w _
  cases g0 : (k == k')
  · have hbf := Lib.hid (HF.out _ (fun h => (HB.out.1 h).1) (by simpa using g0))
    clear heq
    go_enter Try.func19, Try.ntmps19
    go_wp2_with fail
    go_quiet (fail)
    go_wp2
    go_ret
    exact ⟨by rw [hbf.out]; rfl, below_drewN HX.out.x.bel _⟩
  · cases hd : decide ([s, p, z, h, y, n, c] = [s', p', z', h', y', n', c'])
    · rw [hd] at heq
      have hbf := Lib.hid (show b = false from by
        rw [Bool.eq_false_iff]
        intro hb
        obtain ⟨h0, h1, h2, h3, h4, h5, h6, h7, _⟩ := HB.out.1 hb
        refine of_decide_eq_false hd ?_
        dsimp only at h0 h1 h2 h3 h4 h5 h6 h7
        rw [h1, h2, h3, h4, h5, h6, h7])
      clear hd
      go_enter Try.func19, Try.ntmps19
      go_wp2_with fail
      have HX2 : Hid (B2 w w.heap.size (w.heap.size + 1) ⟨k, s, p, n, z, y, c, h, A, m, d, xs⟩ ⟨k', s', p', n', z', y', c', h', A', m', d', xs'⟩ ((w.alloc (.cells #[.int .i64 k, .int .i64 s, .int .i64 p, .int .i64 n, .int .i64 z, .int .i64 y, .int .i64 c, .int .i64 h, .slice A m d] 24)).alloc (.cells #[.int .i64 k', .int .i64 s', .int .i64 p', .int .i64 n', .int .i64 z', .int .i64 y', .int .i64 c', .int .i64 h', .slice A' m' d'] 24))) := HX
      generalize (w.alloc (.cells #[.int .i64 k, .int .i64 s, .int .i64 p, .int .i64 n, .int .i64 z, .int .i64 y, .int .i64 c, .int .i64 h, .slice A m d] 24)).alloc (.cells #[.int .i64 k', .int .i64 s', .int .i64 p', .int .i64 n', .int .i64 z', .int .i64 y', .int .i64 c', .int .i64 h', .slice A' m' d'] 24) = w2 at *
      obtain ⟨⟨a0, a1, a2, a3, a4, a5, a6, a7, a8⟩, b0, b1, b2, b3, b4, b5, b6, b7, b8⟩ := HX2.out.cell
      first | (go_region_law
        (first
         | (rw [if_pos (by rfl)]; go_simp; go_at_call 23; refine (numbers_v _).mono ?_; rintro e wn ⟨rfl, hbn⟩; first | (have HXb := Lib.hid (HXa.out.step hbn); clear hbn; obtain ⟨⟨a0, a1, a2, a3, a4, a5, a6, a7, a8⟩, b0, b1, b2, b3, b4, b5, b6, b7, b8⟩ := HXb.out.cell) | (have HXa := Lib.hid (HX2.out.step (((Below.refl w2.heap.size w2).drew).trans hbn)); clear hbn; obtain ⟨⟨a0, a1, a2, a3, a4, a5, a6, a7, a8⟩, b0, b1, b2, b3, b4, b5, b6, b7, b8⟩ := HXa.out.cell)))) | fail
      all_goals (clear a0 a1 a2 a3 a4 a5 a6 a7 a8 b0 b1 b2 b3 b4 b5 b6 b7 b8; go_wp2; go_ret; exact ⟨by rw [hbf.out]; rfl, by first | exact HXb.out.x.bel | exact HXa.out.x.bel⟩)
    · rw [hd] at heq
      have hbt := Lib.hid (show b = decide (xs = xs') from by
        have hd2 := of_decide_eq_true hd
        simp only [List.cons.injEq, and_true] at hd2
        obtain ⟨h1, h2, h3, h4, h5, h6, h7⟩ := hd2
        have h0 : k = k' := by simpa using g0
        rw [Bool.eq_iff_iff, HB.out]
        simp only [decide_eq_true_eq, like]
        exact ⟨fun h => h.2.2.2.2.2.2.2.2, fun h => ⟨h0, h1, h2, h6, h3, h5, h7, h4, h⟩⟩)
      clear hd
      go_enter Try.func19, Try.ntmps19
      go_wp2_with fail
      have HX2 : Hid (B2 w w.heap.size (w.heap.size + 1) ⟨k, s, p, n, z, y, c, h, A, m, d, xs⟩ ⟨k', s', p', n', z', y', c', h', A', m', d', xs'⟩ ((w.alloc (.cells #[.int .i64 k, .int .i64 s, .int .i64 p, .int .i64 n, .int .i64 z, .int .i64 y, .int .i64 c, .int .i64 h, .slice A m d] 24)).alloc (.cells #[.int .i64 k', .int .i64 s', .int .i64 p', .int .i64 n', .int .i64 z', .int .i64 y', .int .i64 c', .int .i64 h', .slice A' m' d'] 24))) := HX
      generalize (w.alloc (.cells #[.int .i64 k, .int .i64 s, .int .i64 p, .int .i64 n, .int .i64 z, .int .i64 y, .int .i64 c, .int .i64 h, .slice A m d] 24)).alloc (.cells #[.int .i64 k', .int .i64 s', .int .i64 p', .int .i64 n', .int .i64 z', .int .i64 y', .int .i64 c', .int .i64 h', .slice A' m' d'] 24) = w2 at *
      obtain ⟨⟨a0, a1, a2, a3, a4, a5, a6, a7, a8⟩, b0, b1, b2, b3, b4, b5, b6, b7, b8⟩ := HX2.out.cell
      go_region_held3 (fun w' => (w'.cell? ⟨w.heap.size, 0, none⟩ = some (.int .i64 k) ∧ w'.cell? ⟨w.heap.size, 1, none⟩ = some (.int .i64 s) ∧ w'.cell? ⟨w.heap.size, 2, none⟩ = some (.int .i64 p) ∧ w'.cell? ⟨w.heap.size, 3, none⟩ = some (.int .i64 n) ∧ w'.cell? ⟨w.heap.size, 4, none⟩ = some (.int .i64 z) ∧ w'.cell? ⟨w.heap.size, 5, none⟩ = some (.int .i64 y) ∧ w'.cell? ⟨w.heap.size, 6, none⟩ = some (.int .i64 c) ∧ w'.cell? ⟨w.heap.size, 7, none⟩ = some (.int .i64 h) ∧ w'.cell? ⟨w.heap.size, 8, none⟩ = some (.slice A m d)) ∧ w'.cell? ⟨w.heap.size + 1, 0, none⟩ = some (.int .i64 k') ∧ w'.cell? ⟨w.heap.size + 1, 1, none⟩ = some (.int .i64 s') ∧ w'.cell? ⟨w.heap.size + 1, 2, none⟩ = some (.int .i64 p') ∧ w'.cell? ⟨w.heap.size + 1, 3, none⟩ = some (.int .i64 n') ∧ w'.cell? ⟨w.heap.size + 1, 4, none⟩ = some (.int .i64 z') ∧ w'.cell? ⟨w.heap.size + 1, 5, none⟩ = some (.int .i64 y') ∧ w'.cell? ⟨w.heap.size + 1, 6, none⟩ = some (.int .i64 c') ∧ w'.cell? ⟨w.heap.size + 1, 7, none⟩ = some (.int .i64 h') ∧ w'.cell? ⟨w.heap.size + 1, 8, none⟩ = some (.slice A' m' d'))
        (first | go_keep | exact HXb.out.cell | exact HXa.out.cell)
        (first
         | (go_at_call 23; refine (numbers_v _).mono ?_; rintro e wn ⟨rfl, hbn⟩; first | (have HXb := Lib.hid (HXa.out.step hbn)) | (have HXa := Lib.hid (HX2.out.step (((Below.refl w2.heap.size w2).drew).trans hbn))); clear hbn)
         | (go_at_call 27; (first | refine (HQ.out _ HXb.out.x.bel).mono ?_ | refine (HQ.out _ HXa.out.x.bel).mono ?_); rintro e wc ⟨rfl, rfl⟩))
      all_goals (clear a0 a1 a2 a3 a4 a5 a6 a7 a8 b0 b1 b2 b3 b4 b5 b6 b7 b8; go_wp2; go_ret; exact ⟨by rw [hbt.out]; rfl, by first | exact HXb.out.x.bel | exact HXa.out.x.bel⟩)
end Go.Proofs.Ytamilgbjjcdlbaa.PduS
