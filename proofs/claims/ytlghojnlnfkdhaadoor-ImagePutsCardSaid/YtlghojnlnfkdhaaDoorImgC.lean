/- The numbers of an image, and whether two are alike, by the code. Conditions: each image lies as the facts say. -/
import Derived.Test.YtlghojnlnfkdhaaDoorImgB
import Derived.Deep.RegionHeld3
import Derived.ChangeKeysEq
import Derived.Laws.StructEq
namespace Go.Proofs.YtlghojnlnfkdhaaDoor.ImgC
open Go.RowKit Go.Proofs.YtlghojnlnfkdhaaDoor.Kit Go.Proofs.YtlghojnlnfkdhaaDoor.Byt Go.Proofs.YtlghojnlnfkdhaaDoor.Mem Go.Proofs.YtlghojnlnfkdhaaDoor.ImgA Go.Proofs.YtlghojnlnfkdhaaDoor.Beq Go.Proofs.YtlghojnlnfkdhaaDoor.Same Go.Proofs.YtlghojnlnfkdhaaDoor.ImgB

theorem ret_row {P : Program} {fn : Func} {p : Tmp} {ty : TypeId} {R : Ending → World → Prop} {a : Act} {w : World} {g : Nat} {t : TypeId} {cs : Array Value} {fr : Nat × Nat} {d : TypeDesc} (h : fn.results = #[.cell p ty]) (h0 : a.defers = [])
    (hp : a.tmps.getD p undef = .pointer (some ⟨g, 0, none⟩)) (hg : w.heap[g]? = some (.cells cs t fr)) (hu : P.underlying ty = some d) (hd : (match d with | .struct _ | .array _ _ => true | _ => false) = true) (hi : (P.info? ty).map (·.size) = some cs.size)
    (hR : R (.returned (.agg cs)) w) : bodyPost P fn R .ret a w :=
  bodyPost_ret (results_cell_row h _ w g t cs fr d hp hg hu hd hi) h0 hR

/-! ### arrays of numbers held against each other -/
def i64s (xs : List Int) : List Value := xs.map (Value.int .i64)
section
variable {P : Program} (w : World)
theorem items_any (d : Nat) {e : TypeId} (he : P.underlying e = some (.int .i64)) (xs ys : List Int) : ∀ is : List Nat, (∀ i ∈ is, i < xs.length ∧ i < ys.length) → (Op.eqItems (d + 1) e 1 (i64s xs).toArray (i64s ys).toArray is).run P w = .ok (is.all fun i => xs.getD i 0 == ys.getD i 0) w
  | [], _ => by simp [Op.eqItems]
  | i :: is, h => by
    obtain ⟨hi, hj⟩ := h i (by simp)
    have px : (part e (i64s xs).toArray (i * 1)).run P w = .ok (.int .i64 (xs.getD i 0)) w := by
      rw [Nat.mul_one]
      simp [part, isAgg, run_underlying he, i64s, hi]
    have py : (part e (i64s ys).toArray (i * 1)).run P w = .ok (.int .i64 (ys.getD i 0)) w := by
      rw [Nat.mul_one]
      simp [part, isAgg, run_underlying he, i64s, hj]
    have pe : (Op.equalIn (d + 1) e (.int .i64 (xs.getD i 0)) (.int .i64 (ys.getD i 0))).run P w = .ok (xs.getD i 0 == ys.getD i 0) w := run_equalIn_int w d e .i64 .i64 _ _ he
    have ih := items_any d he xs ys is fun j hj => h j (by simp [hj])
    simp only [Op.eqItems, Sem.run_bind, px, py, pe, Result.andThen_ok, List.all_cons]
    cases xs.getD i 0 == ys.getD i 0
    · simp
    · simpa using ih
theorem equal_ints {t e : TypeId} {n : Nat} {i : TypeInfo} (ht : P.underlying t = some (.array n e)) (he : P.underlying e = some (.int .i64)) (hi : P.info? e = some i) (hc : P.cellsOf e = 1) {xs ys : List Int} (hn : xs.length = n) (hm : ys.length = n) :
    (Op.equalIn 10000 t (.agg (i64s xs).toArray) (.agg (i64s ys).toArray)).run P w = .ok (decide (xs = ys)) w := by
  rw [show (10000 : Nat) = 9999 + 1 from rfl, run_equalIn_array w 9999 _ _ ht hi, hc, items_any w 9998 he xs ys _ fun j hj => by rw [hn, hm]; exact ⟨List.mem_range.1 hj, List.mem_range.1 hj⟩]
  congr 1
  rw [Bool.eq_iff_iff]
  simp only [List.all_eq_true, List.mem_range, beq_iff_eq, decide_eq_true_eq]
  constructor
  · intro h
    refine List.ext_getElem (by omega) fun j h1 h2 => ?_
    have := h j (by omega)
    simpa [List.getD, h1, h2] using this
  · intro h j _
    rw [h]
end

@[reducible] def nums (i : Im) : List Int := [i.p, i.v, i.h, i.m, i.f, i.s, i.r]
theorem size7 : (Tryd.prog.info? 47).map (·.size) = some 7 := by kernel_rfl
theorem infoI : ∃ i, Tryd.prog.info? 3 = some i := by
  have h : (Tryd.prog.info? 3).isSome = true := by kernel_rfl
  exact ⟨_, Option.eq_some_of_isSome h⟩
theorem cellsI : Tryd.prog.cellsOf 3 = 1 := by kernel_rfl
set_option maxRecDepth 100000 in
set_option maxHeartbeats 800000 in
theorem numbers_any (i : Im) (w : World) : Calls Tryd.prog 26 #[i.val] w fun e w' => e = .returned (.agg #[.int .i64 i.p, .int .i64 i.v, .int .i64 i.h, .int .i64 i.m, .int .i64 i.f, .int .i64 i.s, .int .i64 i.r]) ∧ Below w.heap.size w w' := by
  obtain ⟨p, v, h, m, f, s, r, A, n, c, xs⟩ := i
  show Calls _ _ #[.agg #[.int .i64 p, .int .i64 v, .int .i64 h, .int .i64 m, .int .i64 f, .int .i64 s, .int .i64 r, .slice A n c]] w _
  have hB := Lib.hid (((Below.refl w.heap.size w).alloc (Nat.le_refl _) (.cells #[.int .i64 p, .int .i64 v, .int .i64 h, .int .i64 m, .int .i64 f, .int .i64 s, .int .i64 r, .slice A n c] 24)).alloc (by simp) (.cells #[.int .i64 p, .int .i64 v, .int .i64 h, .int .i64 m, .int .i64 f, .int .i64 s, .int .i64 r] 47))
  go_enter Tryd.func26, Tryd.ntmps26
  go_wp2
  have hN := heap_alloc_new (w.alloc (.cells #[.int .i64 p, .int .i64 v, .int .i64 h, .int .i64 m, .int .i64 f, .int .i64 s, .int .i64 r, .slice A n c] 24)) (.cells #[.int .i64 p, .int .i64 v, .int .i64 h, .int .i64 m, .int .i64 f, .int .i64 s, .int .i64 r] 47)
  rw [show ∀ o : Obj, (w.alloc o).heap.size = w.heap.size + 1 from fun o => by simp] at hN
  exact ret_row (g := w.heap.size + 1) (t := 47) (fr := (0, 0)) (cs := #[.int .i64 p, .int .i64 v, .int .i64 h, .int .i64 m, .int .i64 f, .int .i64 s, .int .i64 r]) Tryd.results26 rfl rfl hN Tryd.underlying47 rfl size7 ⟨rfl, hB.out⟩

theorem numbers_v {p v h m f s r : Int} {A : Option Addr} {n c : Nat} (w : World) : Calls Tryd.prog 26 #[.agg #[.int .i64 p, .int .i64 v, .int .i64 h, .int .i64 m, .int .i64 f, .int .i64 s, .int .i64 r, .slice A n c]] w fun e w' => e = .returned (.agg #[.int .i64 p, .int .i64 v, .int .i64 h, .int .i64 m, .int .i64 f, .int .i64 s, .int .i64 r]) ∧ Below w.heap.size w w' := numbers_any ⟨p, v, h, m, f, s, r, A, n, c, []⟩ w
/-- Two images' own boxes, and all that was there. -/
structure B2 (w : World) (g k : Nat) (i j : Im) (wr : World) : Prop where
  x : Bx w g i wr
  y : Bx w k j wr
section
variable {w wr w' : World} {g k : Nat} {i j : Im}
theorem B2.step (H : B2 w g k i j wr) (hb : Below wr.heap.size wr w') : B2 w g k i j w' := ⟨H.x.step hb, H.y.step hb⟩
theorem B2.alloc (H : B2 w g k i j wr) (o : Obj) : B2 w g k i j (wr.alloc o) := ⟨H.x.alloc o, H.y.alloc o⟩
theorem B2.drewN (H : B2 w g k i j wr) (n : Nat) : B2 w g k i j (wr.drewN n) := ⟨H.x.drewN n, H.y.drewN n⟩
theorem B2.new (w : World) (i j : Im) : B2 w w.heap.size (w.heap.size + 1) i j ((w.alloc (.cells i.cells.toArray 24)).alloc (.cells j.cells.toArray 24)) := by
  refine ⟨(Bx.new w i).alloc _, ?_, Nat.le_succ _, ((Bx.new w i).alloc _).bel⟩
  have h := Blk.new (w.alloc (.cells i.cells.toArray 24)) 24 j.cells
  rwa [show ∀ o : Obj, (w.alloc o).heap.size = w.heap.size + 1 from fun o => by simp] at h
theorem B2.cell (H : B2 w g k i j wr) : (wr.cell? ⟨g, 0, none⟩ = some (.int .i64 i.p) ∧ wr.cell? ⟨g, 1, none⟩ = some (.int .i64 i.v) ∧ wr.cell? ⟨g, 2, none⟩ = some (.int .i64 i.h) ∧ wr.cell? ⟨g, 3, none⟩ = some (.int .i64 i.m) ∧ wr.cell? ⟨g, 4, none⟩ = some (.int .i64 i.f) ∧ wr.cell? ⟨g, 5, none⟩ = some (.int .i64 i.s) ∧ wr.cell? ⟨g, 6, none⟩ = some (.int .i64 i.r) ∧ wr.cell? ⟨g, 7, none⟩ = some (.slice i.A i.n i.c)) ∧
    wr.cell? ⟨k, 0, none⟩ = some (.int .i64 j.p) ∧ wr.cell? ⟨k, 1, none⟩ = some (.int .i64 j.v) ∧ wr.cell? ⟨k, 2, none⟩ = some (.int .i64 j.h) ∧ wr.cell? ⟨k, 3, none⟩ = some (.int .i64 j.m) ∧ wr.cell? ⟨k, 4, none⟩ = some (.int .i64 j.f) ∧ wr.cell? ⟨k, 5, none⟩ = some (.int .i64 j.s) ∧ wr.cell? ⟨k, 6, none⟩ = some (.int .i64 j.r) ∧ wr.cell? ⟨k, 7, none⟩ = some (.slice j.A j.n j.c) :=
  ⟨H.x.cell, H.y.cell⟩
end

set_option maxRecDepth 100000 in
set_option maxHeartbeats 3200000 in
theorem isame_any (i j : Im) (w : World) (hi : i.ok w) (hj : j.ok w) (b : Bool) (hb : b = true ↔ like i j) : Calls Tryd.prog 16 #[i.val, j.val] w (Yes w b) := by
  obtain ⟨i0, hi0⟩ := infoI
  have HE := Lib.hid (fun w => equal_ints (P := Tryd.prog) w (xs := nums i) (ys := nums j) Tryd.underlying47 Tryd.underlying3 hi0 cellsI rfl rfl)
  have HX := Lib.hid (B2.new w i j)
  have HI := Lib.hid hi
  have HJ := Lib.hid hj
  have HQ := Lib.hid (fun w' (hb : Below w.heap.size w w') => equal_any i.A j.A i.n j.n i.c j.c i.xs j.xs w' (hi.below hb).code (hj.below hb).code hi.byt hj.byt)
  have HB := Lib.hid hb
  clear hi hj hb hi0
  obtain ⟨p, v, h, m, f, s, r, A, n, c, xs⟩ := i
  obtain ⟨p', v', h', m', f', s', r', A', n', c', xs'⟩ := j
  have heq : ∀ w, (Op.equalIn 10000 47 (.agg #[.int .i64 p, .int .i64 v, .int .i64 h, .int .i64 m, .int .i64 f, .int .i64 s, .int .i64 r]) (.agg #[.int .i64 p', .int .i64 v', .int .i64 h', .int .i64 m', .int .i64 f', .int .i64 s', .int .i64 r'])).run Tryd.prog w = .ok (decide ([p, v, h, m, f, s, r] = [p', v', h', m', f', s', r'])) w := HE.out
  clear HE
  show Calls _ _ #[.agg #[.int .i64 p, .int .i64 v, .int .i64 h, .int .i64 m, .int .i64 f, .int .i64 s, .int .i64 r, .slice A n c], .agg #[.int .i64 p', .int .i64 v', .int .i64 h', .int .i64 m', .int .i64 f', .int .i64 s', .int .i64 r', .slice A' n' c']] w _
  cases hd : decide ([p, v, h, m, f, s, r] = [p', v', h', m', f', s', r'])
  · rw [hd] at heq
    have hbf := Lib.hid (show b = false from by
      rw [Bool.eq_false_iff]
      intro hb
      obtain ⟨h1, h2, h3, h4, h5, h6, h7, _⟩ := HB.out.1 hb
      refine of_decide_eq_false hd ?_
      dsimp only at h1 h2 h3 h4 h5 h6 h7
      rw [h1, h2, h3, h4, h5, h6, h7])
    clear hd
    go_enter Tryd.func16, Tryd.ntmps16
    go_wp2_with fail
    have HX2 : Hid (B2 w w.heap.size (w.heap.size + 1) ⟨p, v, h, m, f, s, r, A, n, c, xs⟩ ⟨p', v', h', m', f', s', r', A', n', c', xs'⟩ ((w.alloc (.cells #[.int .i64 p, .int .i64 v, .int .i64 h, .int .i64 m, .int .i64 f, .int .i64 s, .int .i64 r, .slice A n c] 24)).alloc (.cells #[.int .i64 p', .int .i64 v', .int .i64 h', .int .i64 m', .int .i64 f', .int .i64 s', .int .i64 r', .slice A' n' c'] 24))) := HX
    generalize (w.alloc (.cells #[.int .i64 p, .int .i64 v, .int .i64 h, .int .i64 m, .int .i64 f, .int .i64 s, .int .i64 r, .slice A n c] 24)).alloc (.cells #[.int .i64 p', .int .i64 v', .int .i64 h', .int .i64 m', .int .i64 f', .int .i64 s', .int .i64 r', .slice A' n' c'] 24) = w2 at *
    obtain ⟨⟨y0, y1, y2, y3, y4, y5, y6, y7⟩, z0, z1, z2, z3, z4, z5, z6, z7⟩ := HX2.out.cell
    dsimp only at y0 y1 y2 y3 y4 y5 y6 y7 z0 z1 z2 z3 z4 z5 z6 z7
    first | (go_region_law
      (first
       | (rw [if_pos (by rfl)]; go_simp; go_at_call 26; refine (numbers_v _).mono ?_; rintro e wn ⟨rfl, hbn⟩; first | (have HXb := Lib.hid (HXa.out.step hbn); clear hbn; obtain ⟨⟨y0, y1, y2, y3, y4, y5, y6, y7⟩, z0, z1, z2, z3, z4, z5, z6, z7⟩ := HXb.out.cell) | (have HXa := Lib.hid (HX2.out.step (((Below.refl w2.heap.size w2).drew).trans hbn)); clear hbn; obtain ⟨⟨y0, y1, y2, y3, y4, y5, y6, y7⟩, z0, z1, z2, z3, z4, z5, z6, z7⟩ := HXa.out.cell); dsimp only at y0 y1 y2 y3 y4 y5 y6 y7 z0 z1 z2 z3 z4 z5 z6 z7))) | fail
    all_goals (clear y0 y1 y2 y3 y4 y5 y6 y7 z0 z1 z2 z3 z4 z5 z6 z7; go_wp2; go_ret; exact ⟨by rw [hbf.out]; rfl, by first | exact HXb.out.x.bel | exact HXa.out.x.bel⟩)
  · rw [hd] at heq
    have hbt := Lib.hid (show b = decide (xs = xs') from by
      have hd2 := of_decide_eq_true hd
      simp only [List.cons.injEq, and_true] at hd2
      rw [Bool.eq_iff_iff, HB.out]
      simp only [decide_eq_true_eq, like]
      exact ⟨fun h => h.2.2.2.2.2.2.2, fun h => ⟨hd2.1, hd2.2.1, hd2.2.2.1, hd2.2.2.2.1, hd2.2.2.2.2.1, hd2.2.2.2.2.2.1, hd2.2.2.2.2.2.2, h⟩⟩)
    clear hd
    go_enter Tryd.func16, Tryd.ntmps16
    go_wp2_with fail
    have HX2 : Hid (B2 w w.heap.size (w.heap.size + 1) ⟨p, v, h, m, f, s, r, A, n, c, xs⟩ ⟨p', v', h', m', f', s', r', A', n', c', xs'⟩ ((w.alloc (.cells #[.int .i64 p, .int .i64 v, .int .i64 h, .int .i64 m, .int .i64 f, .int .i64 s, .int .i64 r, .slice A n c] 24)).alloc (.cells #[.int .i64 p', .int .i64 v', .int .i64 h', .int .i64 m', .int .i64 f', .int .i64 s', .int .i64 r', .slice A' n' c'] 24))) := HX
    generalize (w.alloc (.cells #[.int .i64 p, .int .i64 v, .int .i64 h, .int .i64 m, .int .i64 f, .int .i64 s, .int .i64 r, .slice A n c] 24)).alloc (.cells #[.int .i64 p', .int .i64 v', .int .i64 h', .int .i64 m', .int .i64 f', .int .i64 s', .int .i64 r', .slice A' n' c'] 24) = w2 at *
    obtain ⟨⟨y0, y1, y2, y3, y4, y5, y6, y7⟩, z0, z1, z2, z3, z4, z5, z6, z7⟩ := HX2.out.cell
    dsimp only at y0 y1 y2 y3 y4 y5 y6 y7 z0 z1 z2 z3 z4 z5 z6 z7
    go_region_held3 (fun w' => (w'.cell? ⟨w.heap.size, 0, none⟩ = some (.int .i64 p) ∧ w'.cell? ⟨w.heap.size, 1, none⟩ = some (.int .i64 v) ∧ w'.cell? ⟨w.heap.size, 2, none⟩ = some (.int .i64 h) ∧ w'.cell? ⟨w.heap.size, 3, none⟩ = some (.int .i64 m) ∧ w'.cell? ⟨w.heap.size, 4, none⟩ = some (.int .i64 f) ∧ w'.cell? ⟨w.heap.size, 5, none⟩ = some (.int .i64 s) ∧ w'.cell? ⟨w.heap.size, 6, none⟩ = some (.int .i64 r) ∧ w'.cell? ⟨w.heap.size, 7, none⟩ = some (.slice A n c)) ∧ w'.cell? ⟨w.heap.size + 1, 0, none⟩ = some (.int .i64 p') ∧ w'.cell? ⟨w.heap.size + 1, 1, none⟩ = some (.int .i64 v') ∧ w'.cell? ⟨w.heap.size + 1, 2, none⟩ = some (.int .i64 h') ∧ w'.cell? ⟨w.heap.size + 1, 3, none⟩ = some (.int .i64 m') ∧ w'.cell? ⟨w.heap.size + 1, 4, none⟩ = some (.int .i64 f') ∧ w'.cell? ⟨w.heap.size + 1, 5, none⟩ = some (.int .i64 s') ∧ w'.cell? ⟨w.heap.size + 1, 6, none⟩ = some (.int .i64 r') ∧ w'.cell? ⟨w.heap.size + 1, 7, none⟩ = some (.slice A' n' c'))
      (first | go_keep | exact HXb.out.cell | exact HXa.out.cell)
      (first
       | (go_at_call 26; refine (numbers_v _).mono ?_; rintro e wn ⟨rfl, hbn⟩; first | (have HXb := Lib.hid (HXa.out.step hbn)) | (have HXa := Lib.hid (HX2.out.step (((Below.refl w2.heap.size w2).drew).trans hbn))); clear hbn)
       | (go_at_call 21; (first | refine (HQ.out _ HXb.out.x.bel).mono ?_ | refine (HQ.out _ HXa.out.x.bel).mono ?_); rintro e wc ⟨rfl, rfl⟩))
    all_goals (clear y0 y1 y2 y3 y4 y5 y6 y7 z0 z1 z2 z3 z4 z5 z6 z7; go_wp2; go_ret; exact ⟨by rw [hbt.out]; rfl, by first | exact HXb.out.x.bel | exact HXa.out.x.bel⟩)
end Go.Proofs.YtlghojnlnfkdhaaDoor.ImgC
