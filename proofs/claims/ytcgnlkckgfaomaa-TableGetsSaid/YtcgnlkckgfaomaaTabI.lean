/- Reach: the partitions that one of them reaches. Conditions: the table lies as the facts say. -/
import Derived.Test.YtcgnlkckgfaomaaTabH
import Derived.StillTailTactics
import Derived.ChangeKeysEq
import Derived.Laws.StructEq
namespace Go.Proofs.Ytcgnlkckgfaomaa.TabI
open Go.RowKit Go.Proofs.Ytcgnlkckgfaomaa.Kit Go.Proofs.Ytcgnlkckgfaomaa.Byt Go.Proofs.Ytcgnlkckgfaomaa.Mem Go.Proofs.Ytcgnlkckgfaomaa.TabA Go.Proofs.Ytcgnlkckgfaomaa.TabB Go.Proofs.Ytcgnlkckgfaomaa.TabC Go.Proofs.Ytcgnlkckgfaomaa.TabD Go.Proofs.Ytcgnlkckgfaomaa.TabE Go.Proofs.Ytcgnlkckgfaomaa.TabH

def i64s (l : List Int) : List Value := l.map (Value.int .i64)
theorem i64s_one (l : List Int) : ∀ u ∈ i64s l, u.oneCell' = true := ints_oneCell _ _
theorem i64s_app (l m : List Int) : i64s l ++ i64s m = i64s (l ++ m) := by simp [i64s]
theorem i64s_len (l : List Int) : (i64s l).length = l.length := List.length_map ..
theorem info_int : (Try.prog.info? 3).map (fun i => (i.zero, i.size, i.bytes)) = some (some (.int .i64 0), 1, 8) := by kernel_rfl
theorem info_of {t : TypeId} {z : Value} {size bytes : Nat} (h : (Try.prog.info? t).map (fun i => (i.zero, i.size, i.bytes)) = some (some z, size, bytes)) : ∃ i, Try.prog.info? t = some i ∧ i.zero = some z ∧ i.size = size ∧ i.bytes = bytes := by
  cases hi : Try.prog.info? t with
  | none => rw [hi] at h; cases h
  | some i =>
    rw [hi] at h
    simp at h
    exact ⟨i, rfl, h.1, h.2.1, h.2.2⟩
/-- What Reach hands back: nothing, or the partitions. -/
def Hands (w : World) (l : List Int) (e : Ending) (w' : World) : Prop := ∃ A n c, e = .returned (.slice A n c) ∧ Rd w' A n c (i64s l) ∧ Below w.heap.size w w'

set_option maxHeartbeats 1600000 in
theorem reach_no (t : Ta) (p : Int) (w : World) (h : t.ok w) (hr : ¬ (right t ∧ 0 ≤ p ∧ p < t.n1)) : Calls Try.prog 20 #[t.val, .int .i64 p] w (Hands w []) := by
  obtain ⟨br, hbr⟩ := bool_of (right t)
  have H1 := Lib.hid (fun w' (hb : Below w.heap.size w w') => right_any t w' (h.below hb) br hbr)
  have HBR := Lib.hid hbr
  have HX := Lib.hid (Bx.new w t)
  have HN := Lib.hid hr
  have hm1 : t.n1 ≤ 9223372036854775807 := h.P.le
  clear h hbr hr
  obtain ⟨fr, A1, n1, c1, P, A2, n2, c2, W, A3, n3, c3, C, tr⟩ := t
  have hm1 : n1 ≤ 9223372036854775807 := hm1
  show Calls _ _ #[.agg #[.int .i64 fr, .slice A1 n1 c1, .slice A2 n2 c2, .slice A3 n3 c3, .int .i64 tr], .int .i64 p] w _
  go_enter Try.func20, Try.ntmps20
  go_wp2_with fail
  refine (H1.out _ HX.out.bel).mono ?_
  rintro e w2 ⟨rfl, hb2⟩
  have HX2 := Lib.hid (HX.out.step hb2)
  clear hb2
  obtain ⟨y0, y1, y2, y3, y4⟩ := HX2.out.cell
  dsimp only at y0 y1 y2 y3 y4
  cases br
  · go_wp2_with fail
    go_ret
    exact ⟨none, 0, 0, rfl, Rd.nil _, HX2.out.bel⟩
  · have s0 : inn p 0 ((n1 : Int) - 1) = false := by
      have h1 := HN.out
      have h2 := HBR.out.1 rfl
      rw [Bool.eq_false_iff]
      intro h3
      have := inn_true h3
      exact h1 ⟨h2, this.1, by show p < (n1 : Int); omega⟩
    go_wp2_with (go_at_call 38; refine (has_any _ _ _ _ _ _ _ _ _ _ _ _ hm1 _).mono ?_; rintro e w' ⟨rfl, rfl⟩)
    go_ret
    exact ⟨none, 0, 0, rfl, Rd.nil _, (HX2.out.alloc _).bel⟩

theorem zero4 (w : World) : (zeroValue 70).run Try.prog w = .ok (.agg (bs zeroB).toArray) w := by kernel_rfl

theorem info_bool : (Try.prog.info? 4).map (fun i => (i.zero, i.size, i.bytes)) = some (some (.bool false), 1, 1) := by kernel_rfl
theorem cells_bool : Try.prog.cellsOf 4 = 1 := by kernel_rfl
theorem part_bool {xs : Array Value} {i : Nat} {v : Bool} (h : xs[i]? = some (.bool v)) (w : World) : (part 4 xs i).run Try.prog w = .ok (.bool v) w := by
  simp [part, isAgg, run_underlying Try.underlying4, h]
theorem eq_step {d : Nat} {xs ys : Array Value} {i : Nat} {is : List Nat} {a b : Bool} (hx : xs[i]? = some (.bool a)) (hy : ys[i]? = some (.bool b)) (w : World) :
    (Op.eqItems (d + 1) 4 1 xs ys (i :: is)).run Try.prog w = if a = b then (Op.eqItems (d + 1) 4 1 xs ys is).run Try.prog w else .ok false w := by
  have px : (part 4 xs (i * 1)).run Try.prog w = .ok (.bool a) w := by rw [Nat.mul_one]; exact part_bool hx w
  have py : (part 4 ys (i * 1)).run Try.prog w = .ok (.bool b) w := by rw [Nat.mul_one]; exact part_bool hy w
  have pe : (Op.equalIn (d + 1) 4 (.bool a) (.bool b)).run Try.prog w = .ok (a == b) w := run_equalIn_bool w d _ a b Try.underlying4
  simp only [Op.eqItems, Sem.run_bind, px, py, pe, Result.andThen_ok]
  cases a <;> cases b <;> simp
theorem equal4 {Y S : List Bool} (h1 : Y.length = 4) (h2 : S.length = 4) (b : Bool) (hb : b = true ↔ Y = S) (w : World) : (Op.equalIn 10000 70 (.agg (bs Y).toArray) (.agg (bs S).toArray)).run Try.prog w = .ok b w := by
  obtain ⟨i, hi, _⟩ := info_of info_bool
  rw [show (10000 : Nat) = 9999 + 1 from rfl, run_equalIn_array w 9999 _ _ Try.underlying70 hi, cells_bool, show List.range 4 = [0, 1, 2, 3] from rfl]
  match Y, h1, S, h2 with
  | [a0, a1, a2, a3], _, [c0, c1, c2, c3], _ =>
    rw [eq_step (a := a0) (b := c0) rfl rfl, eq_step (a := a1) (b := c1) rfl rfl, eq_step (a := a2) (b := c2) rfl rfl, eq_step (a := a3) (b := c3) rfl rfl]
    have he : (Op.eqItems (9998 + 1) 4 1 (bs [a0, a1, a2, a3]).toArray (bs [c0, c1, c2, c3]).toArray []).run Try.prog w = .ok true w := by simp [Op.eqItems]
    rw [he]
    cases b
    · have hn : ¬ ([a0, a1, a2, a3] = [c0, c1, c2, c3]) := fun h => by have := hb.2 h; cases this
      simp only [List.cons.injEq, and_true] at hn
      by_cases q0 : a0 = c0
      · by_cases q1 : a1 = c1
        · by_cases q2 : a2 = c2
          · by_cases q3 : a3 = c3
            · exact absurd ⟨q0, q1, q2, q3⟩ hn
            · rw [if_pos q0, if_pos q1, if_pos q2, if_neg q3]
          · rw [if_pos q0, if_pos q1, if_neg q2]
        · rw [if_pos q0, if_neg q1]
      · rw [if_neg q0]
    · have hy := hb.1 rfl
      simp only [List.cons.injEq, and_true] at hy
      obtain ⟨q0, q1, q2, q3⟩ := hy
      rw [if_pos q0, if_pos q1, if_pos q2, if_pos q3]

theorem index4 {S : List Bool} {k : Nat} (h : S.length = 4) (hk : k < 4) (w : World) : (Instr.index 70 (.agg (bs S).toArray) (.int .i64 (k : Int))).run Try.prog w = .ok (.bool (S.getD k false)) w := by
  obtain ⟨i, hi, _, hs, _⟩ := info_of info_bool
  have hv := bs_at (S := S) (k := k) (by omega)
  simp [Instr.index, run_underlying Try.underlying70, asIntOf, sizeOf, typeInfo, hi, hs, hk, part, isAgg, run_underlying Try.underlying4, hv]
theorem size4 : (Try.prog.info? 70).map (·.size) = some 4 := by kernel_rfl
theorem bs_one (S : List Bool) : ∀ u ∈ bs S, u.oneCell' = true := by
  intro u hu
  simp only [bs, List.mem_map] at hu
  obtain ⟨b, _, rfl⟩ := hu
  rfl
theorem one_rd {w : World} (x : Int) (t : TypeId) : Rd (w.alloc (.cells #[.int .i64 x] t)) (some ⟨w.heap.size, 0, none⟩) 1 1 (i64s [x]) := by
  have h := own_of_block (w := w.alloc (.cells #[.int .i64 x] t)) (g := w.heap.size) (cur := [.int .i64 x]) (e := t) (base := w.heap.size) (n := 1) (heap_alloc_new w _) (Nat.le_refl _) (by simp) (by simp)
  exact Rd.own h
theorem blk_at {w : World} {n : Nat} {t : TypeId} {xs : List Value} (h : n = w.heap.size) : Blk (w.alloc (.cells xs.toArray t)) n t xs := by
  subst h
  exact Blk.new w t xs
theorem list4 {S : List Bool} (h : S.length = 4) : ∃ a b c d, S = [a, b, c, d] := by
  match S, h with
  | [a, b, c, d], _ => exact ⟨a, b, c, d, rfl⟩
/-- The two arrays of truths, beside the table. -/
structure RS (w : World) (t : Ta) (g5 g6 : Nat) (Y S : List Bool) (wr : World) : Prop where
  bx : Bx w t wr
  b5 : Blk wr g5 70 (bs Y)
  b6 : Blk wr g6 70 (bs S)
  l5 : Y.length = 4
  l6 : S.length = 4
  lo : w.heap.size < g5
  ne : g5 < g6
section
variable {w wr w' : World} {t : Ta} {g5 g6 : Nat} {Y S : List Bool}
theorem RS.step (h : RS w t g5 g6 Y S wr) (hb : Below wr.heap.size wr w') : RS w t g5 g6 Y S w' := ⟨h.bx.step hb, h.b5.below hb, h.b6.below hb, h.l5, h.l6, h.lo, h.ne⟩
theorem RS.alloc (h : RS w t g5 g6 Y S wr) (o : Obj) : RS w t g5 g6 Y S (wr.alloc o) := h.step ((Below.refl _ _).alloc (Nat.le_refl _) o)
theorem RS.drew (h : RS w t g5 g6 Y S wr) : RS w t g5 g6 Y S wr.drew := h.step (Below.refl _ _).drew
theorem RS.set (h : RS w t g5 g6 Y S wr) (k : Nat) (v : Bool) : RS w t g5 g6 Y (S.set k v) (wr.setCell ⟨g6, k, none⟩ (.bool v)) := by
  have h1 := h.lo
  have h2 := h.ne
  exact ⟨⟨h.bx.blk.far (by show w.heap.size ≠ g6; omega) _, h.bx.bel.setCell (by show w.heap.size ≤ g6; omega) _⟩, h.b5.far (by show g5 ≠ g6; omega) _, by rw [← bs_set]; exact h.b6.set k _, h.l5, by simpa using h.l6, h.lo, h.ne⟩
theorem RS.copy (h : RS w t g5 g6 Y S wr) (hB : Blk w' g5 70 (bs S)) (ho : Only g5 wr w') : RS w t g5 g6 S S w' := by
  have h1 := h.lo
  have h2 := h.ne
  exact ⟨⟨ho.blk h.bx.blk (by omega), ho.below h.bx.bel (by omega) h.bx.bel.size⟩, hB, ho.blk h.b6 (by omega), h.l6, h.l6, h.lo, h.ne⟩
theorem RS.at6 (h : RS w t g5 g6 Y S wr) {k : Nat} (hk : k < 4) : wr.cell? ⟨g6, k, none⟩ = some (.bool (S.getD k false)) := h.b6.cell (bs_at (by rw [h.l6]; exact hk))
end

set_option maxRecDepth 100000 in
set_option maxHeartbeats 6400000 in
theorem reach_yes (t : Ta) (p : Nat) (w : World) (h : t.ok w) (hr : right t) (hp : p < t.n1) : Calls Try.prog 20 #[t.val, .int .i64 (p : Int)] w fun e w' => ∃ S : List Bool, (∀ q : Nat, S.getD q false = true ↔ Conn t.C p q) ∧ Hands w (lst S 4) e w' := by
  have H1 := Lib.hid (fun w' (hb : Below w.heap.size w w') => right_any t w' (h.below hb) true (by simpa using hr))
  have HX := Lib.hid (Bx.new w t)
  have hm1 : t.n1 ≤ 9223372036854775807 := h.P.le
  have hn4 : t.n1 ≤ 4 := by rw [← h.P.1]; exact hr.2.2.1.1.2
  have HCN := Lib.hid (show ∀ (k : Nat) (r : Tri), t.C[k]? = some r → ChanOk t.n1 r from by rw [← h.P.1]; exact hr.2.2.2.2.2)
  have hn3 : t.n3 ≤ 4 := by rw [← h.C.1]; exact hr.2.2.2.2.1
  obtain ⟨fr, A1, n1, c1, P, A2, n2, c2, W, A3, n3, c3, C, tr⟩ := t
  have hm1 : n1 ≤ 9223372036854775807 := hm1
  have hn4 : n1 ≤ 4 := hn4
  have hn3 : n3 ≤ 4 := hn3
  have hp : p < n1 := hp
  have HC := Lib.hid (show Tris w A3 n3 c3 C from h.C)
  have HL := Lib.hid (show C.length = n3 from h.C.1)
  have HIN := Lib.hid (show ∀ r ∈ C, (0 ≤ r.a ∧ r.a.toNat < 4) ∧ (0 ≤ r.b ∧ r.b.toNat < 4) from fun r hr => by
    obtain ⟨k, hk, he⟩ := List.getElem_of_mem hr
    have := HCN.out k r (by rw [← he]; exact List.getElem?_eq_getElem hk)
    have h1 := this.1
    have h2 := this.2.1
    dsimp only at h1 h2
    omega)
  clear h hr HCN
  show Calls _ _ #[.agg #[.int .i64 fr, .slice A1 n1 c1, .slice A2 n2 c2, .slice A3 n3 c3, .int .i64 tr], .int .i64 (p : Int)] w _
  have s0 : inn (p : Int) 0 ((n1 : Int) - 1) = true := by simp [inn]; omega
  have hp0 : (0 : Int) ≤ (p : Int) := by omega
  have hp4 : (p : Int) < 4 := by omega
  go_enter Try.func20, Try.ntmps20
  go_wp2_with fail
  refine (H1.out _ HX.out.bel).mono ?_
  rintro e w2 ⟨rfl, hb2⟩
  have HX2 := Lib.hid (HX.out.step hb2)
  clear hb2 H1 HX
  obtain ⟨y0, y1, y2, y3, y4⟩ := HX2.out.cell
  dsimp only at y0 y1 y2 y3 y4
  have hsz := HX2.out.sz
  have hz4 := zero4
  have hzb : (bs zeroB).toArray = #[.bool false, .bool false, .bool false, .bool false] := rfl
  rw [hzb] at hz4
  clear hzb
  go_upto_region 4 with (go_at_call 38; refine (has_any _ _ _ _ _ _ _ _ _ _ _ _ hm1 _).mono ?_; rintro e w' ⟨rfl, rfl⟩)
  have hrs : RS w ⟨fr, A1, n1, c1, P, A2, n2, c2, W, A3, n3, c3, C, tr⟩ (w2.heap.size + 1) (w2.heap.size + 1 + 1) zeroB zeroB (((w2.alloc (.cells #[.int .i64 fr, .slice A1 n1 c1, .slice A2 n2 c2, .slice A3 n3 c3, .int .i64 tr] 26)).alloc (.cells #[.bool false, .bool false, .bool false, .bool false] 70)).alloc (.cells #[.bool false, .bool false, .bool false, .bool false] 70)) :=
    ⟨((HX2.out.alloc _).alloc _).alloc _, (blk_at (xs := bs zeroB) (by simp)).alloc _, blk_at (xs := bs zeroB) (by simp), rfl, rfl, by omega, by omega⟩
  obtain ⟨g5, hg5⟩ : ∃ g5, g5 = w2.heap.size + 1 := ⟨_, rfl⟩
  obtain ⟨wb, hwb⟩ : ∃ wb, wb = (((w2.alloc (.cells #[.int .i64 fr, .slice A1 n1 c1, .slice A2 n2 c2, .slice A3 n3 c3, .int .i64 tr] 26)).alloc (.cells #[.bool false, .bool false, .bool false, .bool false] 70)).alloc (.cells #[.bool false, .bool false, .bool false, .bool false] 70)) := ⟨_, rfl⟩
  rw [← hwb, ← hg5] at hrs ⊢
  obtain ⟨g6, hg6⟩ : ∃ g6, g6 = g5 + 1 := ⟨_, rfl⟩
  rw [← hg6] at hrs ⊢
  have HRS := Lib.hid hrs
  clear hrs hwb hg5 hg6 hsz hz4 y0 y1 y2 y3 y4 HX2
  have c6 := HRS.out.at6 (k := p) (by omega)
  have f6 := HRS.out.b6.frozen p
  go_upto_region 5 with (fail)
  have HR0 := Lib.hid (HRS.out.set p true)
  have HS0 := Lib.hid (zero_sound C p (by omega))
  have HP0 := Lib.hid (show (zeroB.set p true).getD p false = true from by
    rw [List.getD_eq_getElem?_getD, List.getElem?_set, if_pos rfl, if_pos (by show p < 4; omega)]; rfl)
  have HLE0 := Lib.hid (show le zeroB (zeroB.set p true) from fun q hq => by
    have : zeroB.getD q false = false := by
      match q with
      | 0 => rfl
      | 1 => rfl
      | 2 => rfl
      | 3 => rfl
      | q + 4 => rfl
    rw [this] at hq; cases hq)
  obtain ⟨S0, hS0⟩ : ∃ S0, S0 = zeroB.set p true := ⟨_, rfl⟩
  rw [← hS0] at HR0 HS0 HP0 HLE0
  obtain ⟨w3, hw3⟩ : ∃ w3, w3 = wb.setCell ⟨g6, p, none⟩ (.bool true) := ⟨_, rfl⟩
  rw [← hw3] at HR0 ⊢
  clear hS0 hw3 c6 f6 HRS
  go_loopw [30] (fun _ wr => ∃ Y S, Hid (RS w ⟨fr, A1, n1, c1, P, A2, n2, c2, W, A3, n3, c3, C, tr⟩ g5 g6 Y S wr) ∧ Hid (Sound C p S) ∧ Hid (S.getD p false = true) ∧ Hid (Y = S → pass S C = S)) (fun _ wr => meas wr g5 g6)
  case atStart => exact ⟨zeroB, S0, HR0, HS0, HP0, Lib.hid (fun h => by
    have h1 := HP0.out
    rw [← h] at h1
    have : zeroB.getD p false = false := by
      match p with
      | 0 => rfl
      | 1 => rfl
      | 2 => rfl
      | 3 => rfl
      | q + 4 => rfl
    rw [this] at h1; cases h1)⟩
  case round =>
    obtain ⟨Y, S, HR, HS, HP, HC1⟩ := hrel
    clear HR0 HS0 HP0 HLE0
    by_cases hYS : Y = S
    · have heq := fun w => equal4 HR.out.l5 HR.out.l6 true (by simpa using hYS) w
      have HCL := Lib.hid (HC1.out hYS)
      subst hYS
      have HCONN := Lib.hid (sound_closed HS.out HP.out (fun r hr => ⟨(HIN.out r hr).1.1, (HIN.out r hr).2.1⟩) (closed C Y (fun r hr => by rw [HR.out.l5]; exact (HIN.out r hr).2.2) HCL.out))
      have hix := fun (k : Nat) (hk : k < 4) (w : World) => index4 HR.out.l5 hk w
      obtain ⟨y0, y1, y2, y3, hY⟩ := list4 HR.out.l5
      have HY := Lib.hid hY
      have b5 := HR.out.b5
      have b6 := HR.out.b6
      rw [hY] at b5 b6 heq
      simp only [bs, List.map_cons, List.map_nil] at heq
      have hbs : (bs Y).toArray = #[.bool y0, .bool y1, .bool y2, .bool y3] := by rw [hY]; rfl
      rw [hbs] at hix
      have HIX := Lib.hid hix
      clear hY hbs hix
      have p0 := b5.cell (i := 0) (v := .bool y0) rfl
      have p1 := b5.cell (i := 1) (v := .bool y1) rfl
      have p2 := b5.cell (i := 2) (v := .bool y2) rfl
      have p3 := b5.cell (i := 3) (v := .bool y3) rfl
      have r0 := b6.cell (i := 0) (v := .bool y0) rfl
      have r1 := b6.cell (i := 1) (v := .bool y1) rfl
      have r2 := b6.cell (i := 2) (v := .bool y2) rfl
      have r3 := b6.cell (i := 3) (v := .bool y3) rfl
      clear b5 b6
      obtain ⟨wq, rfl⟩ : ∃ wq : World, wq = wr := ⟨_, rfl⟩
      obtain ⟨i0, hi0, hz0, hz1, hz2⟩ := info_of info_int
      go_wp2_with (fail)
      clear p0 p1 p2 p3 r0 r1 r2 r3 heq
      go_loopw [9, 49] (fun s i wr => ∃ (k : Nat) (A : Option Addr) (n c : Nat), k ≤ 4 ∧ i = .int .i64 k ∧ s = .slice A n c ∧ n ≤ k ∧ Hid (wr.ownsRow wq.heap.size 3 1 (.slice A n c) n (i64s (lst Y k))) ∧ Hid (Below wq.heap.size wq wr)) (fun _ i _ => 4 - (intOf i).toNat)
      case atStart => exact ⟨0, none, 0, 0, Nat.zero_le _, rfl, rfl, by omega, Lib.hid ⟨rfl, .inl ⟨rfl, rfl⟩⟩, Lib.hid (Below.refl _ _)⟩
      case round =>
        obtain ⟨k, A, n, c, hk, rfl, rfl, hnk, HO, HB⟩ := hrel
        by_cases hlt : k < 4
        · have hix := HIX.out k hlt
          obtain ⟨x, hx⟩ : ∃ x, x = Y.getD k false := ⟨_, rfl⟩
          rw [← hx] at hix
          have HLN := Lib.hid (lst_next Y k)
          rw [← hx] at HLN
          clear hx
          cases x
          · go_wp2
            go_roundw
            case rel => exact ⟨k + 1, A, n, c, by omega, by go_num, rfl, by omega, Lib.hid (by rw [HLN.out, if_neg (by simp)]; exact HO.out), HB⟩
            case measure => simp [intOf]; omega
          · go_wp2_with (at_builtin; refine wpList_add _ rfl (.tmp 54) (.tmp 56) _ rfl wq.heap.size 3 i0 _ 8 Try.underlying42 hi0 hz0 hz1 hz2 rfl _ n _ rfl (own_below HO.out ((Below.refl _ _).alloc (Nat.le_refl _) _)) (some ⟨wr.heap.size, 0, none⟩) 1 1 (i64s [(k : Int)]) rfl (one_rd _ _) (i64s_one _) (by omega) (by omega) (by have := HB.out.size; simp; omega) ?_; intro A5 n5 c5 w5 hn5 hown5 hg5 hat5; have hb5 := below_add (HB.out.alloc HB.out.size _) (own_below HO.out ((Below.refl _ _).alloc (Nat.le_refl _) _)) (Nat.le_refl _) hg5; clear hat5 hg5)
            go_roundw
            case rel => exact ⟨k + 1, A5, n5, c5, by omega, by go_num, rfl, by have := hn5.out; omega, Lib.hid (by rw [HLN.out, if_pos rfl, ← i64s_app]; exact hown5), Lib.hid hb5⟩
            case measure => simp [intOf]; omega
        · obtain rfl : k = 4 := by omega
          go_wp2
          go_ret
          exact ⟨Y, HCONN.out, A, n, c, rfl, Rd.own HO.out, HR.out.bx.bel.trans (HB.out.mono HR.out.bx.bel.size)⟩
    · have heq := fun w => equal4 HR.out.l5 HR.out.l6 false (by simpa using hYS) w
      have HNE := Lib.hid hYS
      clear hYS
      obtain ⟨y0, y1, y2, y3, hY⟩ := list4 HR.out.l5
      obtain ⟨s0', s1', s2', s3', hS⟩ := list4 HR.out.l6
      have HY := Lib.hid hY
      have HSS := Lib.hid hS
      rw [hY, hS] at heq
      simp only [bs, List.map_cons, List.map_nil] at heq
      have b5 := HR.out.b5
      have b6 := HR.out.b6
      rw [hY] at b5
      rw [hS] at b6
      have HB5 := Lib.hid b5
      clear hY hS
      have p0 := b5.cell (i := 0) (v := .bool y0) rfl
      have p1 := b5.cell (i := 1) (v := .bool y1) rfl
      have p2 := b5.cell (i := 2) (v := .bool y2) rfl
      have p3 := b5.cell (i := 3) (v := .bool y3) rfl
      have r0 := b6.cell (i := 0) (v := .bool s0') rfl
      have r1 := b6.cell (i := 1) (v := .bool s1') rfl
      have r2 := b6.cell (i := 2) (v := .bool s2') rfl
      have r3 := b6.cell (i := 3) (v := .bool s3') rfl
      clear b5 b6
      go_upto_region 7 with (refine wpList_store_blk rfl 70 (.tmp 5) (.tmp 26) rfl g5 rfl (bs [s0', s1', s2', s3']) rfl HB5.out rfl size4 (bs_one _) ?_; intro w5 hB5 ho5)
      have HR5 := Lib.hid (show RS w ⟨fr, A1, n1, c1, P, A2, n2, c2, W, A3, n3, c3, C, tr⟩ g5 g6 S S w5 from HR.out.copy (by rw [HSS.out]; exact hB5) ho5.out)
      have HM0 := Lib.hid (show meas wr g5 g6 = 2 * (bn (S.getD 0 false) + bn (S.getD 1 false) + bn (S.getD 2 false) + bn (S.getD 3 false)) + 1 from by
        rw [meas_of HR.out.b5 HR.out.b6 HR.out.l5 HR.out.l6, if_neg HNE.out])
      clear p0 p1 p2 p3 r0 r1 r2 r3 hB5 ho5 heq HB5 HSS HY HNE
      obtain ⟨wo, rfl⟩ : ∃ wo : World, wo = wr := ⟨_, rfl⟩
      obtain ⟨y0, y1, y2, y3, y4⟩ := HR5.out.bx.cell
      dsimp only at y0 y1 y2 y3 y4
      go_wp2_with (fail)
      clear y0 y1 y2 y3 y4
      go_loopw [30] (fun i wr => ∃ k S', k ≤ n3 ∧ i = .int .i64 ((k : Nat) : Int) ∧ Hid (S' = pass S (C.take k)) ∧ Hid (Sound C p S') ∧ Hid (RS w ⟨fr, A1, n1, c1, P, A2, n2, c2, W, A3, n3, c3, C, tr⟩ g5 g6 S S' wr)) (fun i _ => n3 - (intOf i).toNat)
      case atStart => exact ⟨0, S, Nat.zero_le _, rfl, Lib.hid rfl, HS, HR5⟩
      case round =>
        obtain ⟨k, S', hk, rfl, HPS, HSD, HRr⟩ := hrel
        clear HR5
        have hszr : wr.heap.size < wr.heap.size + 1 := by omega
        have h6r := HRr.out.b6.lt
        by_cases hlt : k < n3
        · obtain ⟨r, b', o, hr, hok, hA, hbl, q0, q1, q2⟩ := (HC.out.below HRr.out.bx.bel).at_ hlt
          subst hA
          have hmem : r ∈ C := List.mem_of_getElem? hr
          have hi := HIN.out r hmem
          have HNX := Lib.hid (pass_snoc (S := S) hr)
          have HMEM := Lib.hid hmem
          obtain ⟨an, han⟩ : ∃ an : Nat, r.a = an := ⟨r.a.toNat, by omega⟩
          obtain ⟨bn', hbn⟩ : ∃ bn' : Nat, r.b = bn' := ⟨r.b.toNat, by omega⟩
          have ha4 : an < 4 := by omega
          have hb4 : bn' < 4 := by omega
          have HAN := Lib.hid han
          have HBN := Lib.hid hbn
          have HU := Lib.hid (show upd S' r = S'.set bn' (S'.getD bn' false || S'.getD an false) from by
            have h1 : r.b.toNat = bn' := by rw [hbn]; rfl
            have h2 : r.a.toNat = an := by rw [han]; rfl
            rw [upd, h1, h2])
          have HSU := Lib.hid (HSD.out.upd hmem (by omega) (by omega) (by rw [HRr.out.l6]; omega))
          rw [han] at q0
          rw [hbn] at q1
          obtain ⟨xa, hxa⟩ : ∃ xa, xa = S'.getD an false := ⟨_, rfl⟩
          obtain ⟨xb, hxb⟩ : ∃ xb, xb = S'.getD bn' false := ⟨_, rfl⟩
          rw [← hxa, ← hxb] at HU
          have ia0 : (0 : Int) ≤ (an : Int) := by omega
          have ia1 : (an : Int) < 4 := by omega
          have ib0 : (0 : Int) ≤ (bn' : Int) := by omega
          have ib1 : (bn' : Int) < 4 := by omega
          have HXA := Lib.hid hxa
          have HXB := Lib.hid hxb
          clear hr hok hi hmem han hbn hxa hxb
          go_upto_region 10 with (fail)
          have HRc := Lib.hid (HRr.out.alloc (.cells #[.int .i64 (an : Int), .int .i64 (bn' : Int), .int .i64 r.c] 51))
          have hbc := Blk.new wr 51 [.int .i64 (an : Int), .int .i64 (bn' : Int), .int .i64 r.c]
          have hsc : wr.heap.size < (wr.alloc (.cells #[.int .i64 (an : Int), .int .i64 (bn' : Int), .int .i64 r.c] 51)).heap.size := by simp
          obtain ⟨wc, hwc⟩ : ∃ wc, wc = wr.alloc (.cells #[.int .i64 (an : Int), .int .i64 (bn' : Int), .int .i64 r.c] 51) := ⟨_, rfl⟩
          have hbc' : Blk wc wr.heap.size 51 [.int .i64 (an : Int), .int .i64 (bn' : Int), .int .i64 r.c] := by rw [hwc]; exact hbc
          rw [← hwc] at HRc hsc ⊢
          have p0 : wc.cell? ⟨wr.heap.size, 0, none⟩ = some (.int .i64 (an : Int)) := hbc'.cell rfl
          have p1 : wc.cell? ⟨wr.heap.size, 1, none⟩ = some (.int .i64 (bn' : Int)) := hbc'.cell rfl
          clear hwc hbc hbc' q0 q1 q2 hszr
          obtain ⟨bx, hbx⟩ : ∃ bx, bx = wr.heap.size := ⟨_, rfl⟩
          rw [← hbx] at p0 p1 hsc h6r hbl ⊢
          have va := HRc.out.at6 ha4
          have vb := HRc.out.at6 hb4
          rw [← HXA.out] at va
          rw [← HXB.out] at vb
          have f6 := HRc.out.b6.frozen bn'
          clear hbx
          cases xb
          · go_still_tail 13, (by kernel_rfl)
            change wpList _ _ _ _ _ (World.drew _)
            go_wp2
            go_roundw
            case rel =>
              have hst : S'.set bn' xa = upd S' r := by rw [HU.out]; rfl
              exact ⟨k + 1, upd S' r, by omega, by go_num, Lib.hid (by rw [HNX.out, HPS.out]), HSU, Lib.hid (by rw [← hst]; exact (HRc.out.set bn' xa).drew)⟩
            case measure => simp [intOf]; omega
          · go_still_tail 13, (by kernel_rfl)
            change wpList _ _ _ _ _ (World.drew _)
            go_wp2
            go_roundw
            case rel =>
              have hst : S'.set bn' true = upd S' r := by rw [HU.out]; rfl
              exact ⟨k + 1, upd S' r, by omega, by go_num, Lib.hid (by rw [HNX.out, HPS.out]), HSU, Lib.hid (by rw [← hst]; exact (HRc.out.set bn' true).drew)⟩
            case measure => simp [intOf]; omega
        · obtain rfl : k = n3 := by omega
          have hps : S' = pass S C := by have := HPS.out; rwa [List.take_of_length_le (by have := HL.out; omega)] at this
          have hle : le S S' := by rw [hps]; exact pass_le C S (fun r hr => by rw [HRr.out.l5]; exact (HIN.out r hr).2.2)
          have HPN := Lib.hid (hle p HP.out)
          have HCN := Lib.hid (show S = S' → pass S' C = S' from fun h => by
            have h2 := hps
            rw [← h] at h2 ⊢
            exact h2.symm)
          have HMN := Lib.hid (show meas wr g5 g6 < meas wo g5 g6 from by
            rw [HM0.out, meas_of HRr.out.b5 HRr.out.b6 HRr.out.l5 HRr.out.l6]
            exact meas_less HRr.out.l5 HRr.out.l6 hle)
          clear hps hle
          go_wp2
          go_roundw
          case rel => exact ⟨S, S', HRr, HSD, HPN, HCN⟩
          case measure => exact HMN.out
end Go.Proofs.Ytcgnlkckgfaomaa.TabI
