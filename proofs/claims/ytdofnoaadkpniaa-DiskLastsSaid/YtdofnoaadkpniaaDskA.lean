/- A disk in plain terms, and as it lies in memory; the small calls on it. Conditions: the disk lies as the facts say. -/
import Derived.Test.YtdofnoaadkpniaaMem
namespace Go.Proofs.Ytdofnoaadkpniaa.DskA
open Go.RowKit Go.Proofs.Ytdofnoaadkpniaa.Kit Go.Proofs.Ytdofnoaadkpniaa.Byt Go.Proofs.Ytdofnoaadkpniaa.Mem

/-- What a disk is: its sectors, what waits, the fuse, whether it is down. -/
structure St where
  S : List (List Nat)
  L : List (Nat × List Nat)
  fuse : Int
  down : Bool
structure St.ok (s : St) : Prop where
  pos : 1 ≤ s.S.length
  most : s.S.length ≤ 128
  sec : ∀ x ∈ s.S, x.length = 64
  wait : ∀ p ∈ s.L, p.1 < s.S.length ∧ p.2.length = 64
  lo : -9223372036854775808 ≤ s.fuse
  hi : s.fuse ≤ 9223372036854775807
/-- A write that waits, as it lies. -/
structure Wr where
  at_ : Nat
  b : Nat
  c : Nat
  bs : List Nat
def Wr.cells (e : Wr) : List Value := [.int .i64 (e.at_ : Int), .slice (some ⟨e.b, 0, none⟩) 64 e.c]
def wc (E : List Wr) : List Value := E.flatMap Wr.cells
theorem wc_len (E : List Wr) : (wc E).length = E.length * 2 := by
  induction E with
  | nil => rfl
  | cons e E ih => simp only [wc, List.flatMap_cons, List.length_append] at ih ⊢; rw [ih]; simp [Wr.cells]; omega
theorem wc_app (E E' : List Wr) : wc (E ++ E') = wc E ++ wc E' := by simp [wc]
theorem wc_at {E : List Wr} {k : Nat} (h : k < E.length) : (wc E)[2 * k]? = some (.int .i64 (E[k].at_ : Int)) ∧ (wc E)[2 * k + 1]? = some (.slice (some ⟨E[k].b, 0, none⟩) 64 E[k].c) := by
  induction E generalizing k with
  | nil => simp at h
  | cons e E ih =>
    have hc : wc (e :: E) = .int .i64 (e.at_ : Int) :: .slice (some ⟨e.b, 0, none⟩) 64 e.c :: wc E := rfl
    rw [hc]
    cases k with
    | zero => exact ⟨rfl, rfl⟩
    | succ k =>
      have := ih (k := k) (by simpa using h)
      rw [show 2 * (k + 1) = 2 * k + 1 + 1 by omega]
      simpa using this
def hd (gl N : Nat) (A : Option Addr) (n c : Nat) (f : Int) (d : Bool) : List Value := [.slice (some ⟨gl, 0, none⟩) N N, .slice A n c, .int .i64 f, .bool d]

/-- Block g holds the disk s; its blocks are those of F. -/
structure At (w : World) (F : Nat → Prop) (g : Nat) (s : St) (gl : Nat) (A : Option Addr) (n c : Nat) (E : List Wr) : Prop where
  head : Blk w g 58 (hd gl s.S.length A n c s.fuse s.down)
  laid : Blk w gl 66 (u8n s.S.flatten)
  own : w.ownsRow 0 62 2 (.slice A n c) n (wc E)
  list : s.L = E.map fun e => (e.at_, e.bs)
  ent : ∀ e ∈ E, Rd w (some ⟨e.b, 0, none⟩) 64 e.c (u8n e.bs) ∧ F e.b ∧ e.b ≠ g ∧ e.b ≠ gl ∧ ∀ k, (Value.slice A n c).ownBlock = some k → e.b ≠ k
  fg : F g
  fl : F gl
  ne : gl ≠ g
  fw : ∀ k, (Value.slice A n c).ownBlock = some k → F k ∧ k ≠ g ∧ k ≠ gl
  lt : ∀ k, F k → k < w.heap.size
  ok : s.ok
def Dk (w : World) (F : Nat → Prop) (g : Nat) (s : St) : Prop := ∃ gl A n c E, At w F g s gl A n c E

section
variable {w w' : World} {F G : Nat → Prop} {g gl n c : Nat} {s : St} {A : Option Addr} {E : List Wr}
theorem At.len (h : At w F g s gl A n c E) : E.length = n := by
  have := h.own.1
  rw [wc_len] at this
  omega
theorem At.long (h : At w F g s gl A n c E) : s.L.length = n := by rw [h.list, List.length_map, h.len]
theorem At.cells (h : At w F g s gl A n c E) : w.cell? ⟨g, 0, none⟩ = some (.slice (some ⟨gl, 0, none⟩) s.S.length s.S.length) ∧ w.cell? ⟨g, 1, none⟩ = some (.slice A n c) ∧ w.cell? ⟨g, 2, none⟩ = some (.int .i64 s.fuse) ∧ w.cell? ⟨g, 3, none⟩ = some (.bool s.down) :=
  ⟨h.head.cell rfl, h.head.cell rfl, h.head.cell rfl, h.head.cell rfl⟩
theorem At.keep (h : At w F g s gl A n c E) (k : Keep G w w') (hd : ∀ k, F k → ¬ G k) : At w' F g s gl A n c E :=
  ⟨k.blk h.head (hd _ h.fg), k.blk h.laid (hd _ h.fl), k.own h.own fun i hi => hd i (h.fw i hi).1, h.list, fun e he => by
    obtain ⟨h1, h2, h3, h4, h5⟩ := h.ent e he
    exact ⟨k.rd h1 fun _ b o hb => by injection hb with hb; injection hb with hb _; exact hb ▸ hd _ h2, h2, h3, h4, h5⟩,
    h.fg, h.fl, h.ne, h.fw, fun i hi => Nat.lt_of_lt_of_le (h.lt i hi) k.size, h.ok⟩
theorem Dk.keep (h : Dk w F g s) (k : Keep G w w') (hd : ∀ k, F k → ¬ G k) : Dk w' F g s := by
  obtain ⟨gl, A, n, c, E, h⟩ := h
  exact ⟨gl, A, n, c, E, h.keep k hd⟩
theorem Dk.below (h : Dk w F g s) (hb : Below w.heap.size w w') : Dk w' F g s := h.keep (Keep.of_below (F := fun _ => False) hb) fun _ _ h => h
theorem Dk.lt (h : Dk w F g s) : ∀ k, F k → k < w.heap.size := by obtain ⟨_, _, _, _, _, h⟩ := h; exact h.lt
theorem Dk.ok (h : Dk w F g s) : s.ok := by obtain ⟨_, _, _, _, _, h⟩ := h; exact h.ok
/-- The head alone was written: fuse and down. -/
theorem At.heads {f : Int} {d : Bool} (h : At w F g s gl A n c E) (h' : Blk w' g 58 (hd gl s.S.length A n c f d)) (k : Keep (fun i => i = g) w w') (lo : -9223372036854775808 ≤ f) (hi : f ≤ 9223372036854775807) : At w' F g { s with fuse := f, down := d } gl A n c E :=
  ⟨h', k.blk h.laid h.ne, k.own h.own fun i hi => (h.fw i hi).2.1, h.list, fun e he => by
    obtain ⟨h1, h2, h3, h4, h5⟩ := h.ent e he
    exact ⟨k.rd h1 fun _ b o hb => by injection hb with hb; injection hb with hb _; exact hb ▸ h3, h2, h3, h4, h5⟩,
    h.fg, h.fl, h.ne, h.fw, fun i hi => Nat.lt_of_lt_of_le (h.lt i hi) k.size, ⟨h.ok.pos, h.ok.most, h.ok.sec, h.ok.wait, lo, hi⟩⟩
theorem At.fuse (h : At w F g s gl A n c E) {f : Int} (lo : -9223372036854775808 ≤ f) (hi : f ≤ 9223372036854775807) : At (w.setCell ⟨g, 2, none⟩ (.int .i64 f)) F g { s with fuse := f } gl A n c E :=
  h.heads (f := f) (d := s.down) (h.head.set 2 _) (Keep.set w 2 _ rfl) lo hi
theorem At.down_ (h : At w F g s gl A n c E) (d : Bool) : At (w.setCell ⟨g, 3, none⟩ (.bool d)) F g { s with down := d } gl A n c E :=
  h.heads (f := s.fuse) (d := d) (h.head.set 3 _) (Keep.set w 3 _ rfl) h.ok.lo h.ok.hi
end

/-- What a call on the disk hands back and leaves. -/
def Got (F : Nat → Prop) (g : Nat) (w : World) (v : Value) (s' : St) (e : Ending) (w' : World) : Prop :=
  e = .returned v ∧ ∃ F', Dk w' F' g s' ∧ Keep F w w' ∧ ∀ k, F' k → F k ∨ w.heap.size ≤ k

/-- Does a call go on? -/
def spend (s : St) : Bool × St :=
  if s.fuse = 0 then (false, { s with down := true }) else if s.down then (false, s) else (true, if 0 < s.fuse then { s with fuse := s.fuse - 1 } else s)

def inB (s : St) (i : Int) : Bool := decide (0 ≤ i ∧ i < (s.S.length : Int))
theorem has_any (F : Nat → Prop) (g : Nat) (s : St) (i : Int) (w : World) (hD : Dk w F g s) :
    Calls Try.prog 25 #[.pointer (some ⟨g, 0, none⟩), .int .i64 i] w fun e w' => e = .returned (.bool (inB s i)) ∧ w = w' := by
  obtain ⟨gl, A, n, c, E, h⟩ := hD
  obtain ⟨c0, _, _, _⟩ := h.cells
  have hp := h.ok.pos
  have hm := h.ok.most
  clear h
  obtain ⟨N, hN⟩ : ∃ N, N = s.S.length := ⟨_, rfl⟩
  unfold inB
  rw [← hN] at c0 hp hm ⊢
  clear hN
  by_cases h0 : 0 ≤ i
  · go_enter Try.func25, Try.ntmps25
    go_wp2
    go_ret
    exact ⟨ret_bool (by simp [h0]), rfl⟩
  · go_enter Try.func25, Try.ntmps25
    go_wp2
    go_ret
    exact ⟨ret_bool (by rw [Bool.eq_iff_iff]; simp; omega), rfl⟩

theorem down_any (F : Nat → Prop) (g : Nat) (s : St) (w : World) (hD : Dk w F g s) : Calls Try.prog 23 #[.pointer (some ⟨g, 0, none⟩)] w fun e w' => e = .returned (.bool s.down) ∧ w = w' := by
  obtain ⟨gl, A, n, c, E, h⟩ := hD
  obtain ⟨_, _, _, c3⟩ := h.cells
  clear h
  go_enter Try.func23, Try.ntmps23
  go_wp2
  go_ret
  exact ⟨rfl, rfl⟩
theorem down_nil (w : World) : Calls Try.prog 23 #[.pointer none] w fun e w' => e = .returned (.bool true) ∧ w = w' := by
  go_enter Try.func23, Try.ntmps23
  go_wp2
  go_ret
  exact ⟨rfl, rfl⟩
theorem waits_any (F : Nat → Prop) (g : Nat) (s : St) (w : World) (hD : Dk w F g s) : Calls Try.prog 22 #[.pointer (some ⟨g, 0, none⟩)] w fun e w' => e = .returned (.int .i64 (s.L.length : Nat)) ∧ w = w' := by
  obtain ⟨gl, A, n, c, E, h⟩ := hD
  obtain ⟨_, c1, _, _⟩ := h.cells
  rw [h.long]
  clear h
  go_enter Try.func22, Try.ntmps22
  go_wp2
  go_ret
  exact ⟨rfl, rfl⟩
theorem waits_nil (w : World) : Calls Try.prog 22 #[.pointer none] w fun e w' => e = .returned (.int .i64 0) ∧ w = w' := by
  go_enter Try.func22, Try.ntmps22
  go_wp2
  go_ret
  exact ⟨rfl, rfl⟩
theorem len_any (F : Nat → Prop) (g : Nat) (s : St) (w : World) (hD : Dk w F g s) : Calls Try.prog 24 #[.pointer (some ⟨g, 0, none⟩)] w fun e w' => e = .returned (.int .i64 (s.S.length : Nat)) ∧ w = w' := by
  obtain ⟨gl, A, n, c, E, h⟩ := hD
  obtain ⟨c0, _, _, _⟩ := h.cells
  clear h
  go_enter Try.func24, Try.ntmps24
  go_wp2
  go_ret
  exact ⟨rfl, rfl⟩
theorem len_nil (w : World) : Calls Try.prog 24 #[.pointer none] w fun e w' => e = .returned (.int .i64 0) ∧ w = w' := by
  go_enter Try.func24, Try.ntmps24
  go_wp2
  go_ret
  exact ⟨rfl, rfl⟩

theorem fuse_nil (i : Int) (w : World) : Calls Try.prog 16 #[.pointer none, .int .i64 i] w fun e w' => e = .returned (.tuple #[]) ∧ w = w' := by
  go_enter Try.func16, Try.ntmps16
  go_wp2
  go_end0
  exact ⟨rfl, rfl⟩
theorem fuse_any (F : Nat → Prop) (g : Nat) (s : St) (i : Int) (w : World) (hD : Dk w F g s) (lo : -9223372036854775808 ≤ i) (hi : i ≤ 9223372036854775807) :
    Calls Try.prog 16 #[.pointer (some ⟨g, 0, none⟩), .int .i64 i] w (Got F g w (.tuple #[]) { s with fuse := i }) := by
  obtain ⟨gl, A, n, c, E, h⟩ := hD
  obtain ⟨_, _, c2, _⟩ := h.cells
  have f2 := h.head.frozen 2
  have H := Lib.hid h
  clear h
  go_enter Try.func16, Try.ntmps16
  go_wp2
  go_end0
  exact ⟨rfl, F, ⟨gl, A, n, c, E, H.out.fuse lo hi⟩, Keep.set _ _ _ H.out.fg, fun k hk => .inl hk⟩

set_option maxHeartbeats 400000 in
theorem spend_any (F : Nat → Prop) (g : Nat) (s : St) (w : World) (hD : Dk w F g s) :
    Calls Try.prog 26 #[.pointer (some ⟨g, 0, none⟩)] w (Got F g w (.bool (spend s).1) (spend s).2) := by
  obtain ⟨gl, A, n, c, E, h⟩ := hD
  obtain ⟨_, _, c2, c3⟩ := h.cells
  have f2 := h.head.frozen 2
  have f3 := h.head.frozen 3
  have lo := h.ok.lo
  have hi := h.ok.hi
  have H := Lib.hid h
  clear h
  unfold spend
  by_cases h0 : s.fuse = 0
  · rw [if_pos h0]
    rw [h0] at c2
    go_enter Try.func26, Try.ntmps26
    go_wp2
    go_ret
    exact ⟨rfl, F, ⟨gl, A, n, c, E, H.out.down_ true⟩, Keep.set _ _ _ H.out.fg, fun k hk => .inl hk⟩
  · rw [if_neg h0]
    have h0' : (s.fuse == 0) = false := by simpa using h0
    have H0 := Lib.hid h0
    clear h0
    cases hd : s.down with
    | true =>
      rw [hd] at c3
      rw [if_pos rfl]
      have Hd := Lib.hid hd
      clear hd
      go_enter Try.func26, Try.ntmps26
      go_wp2
      go_ret
      exact ⟨rfl, F, ⟨gl, A, n, c, E, H.out⟩, Keep.refl _ _, fun k hk => .inl hk⟩
    | false =>
      rw [hd] at c3
      rw [if_neg (by simp)]
      have Hd := Lib.hid hd
      clear hd
      by_cases hp : 0 < s.fuse
      · rw [if_pos hp]
        go_enter Try.func26, Try.ntmps26
        go_wp2
        go_ret
        have hA := H.out.fuse (f := s.fuse - 1) (by omega) (by omega)
        rw [Hd.out] at hA
        exact ⟨rfl, F, ⟨gl, A, n, c, E, hA⟩, Keep.set _ _ _ H.out.fg, fun k hk => .inl hk⟩
      · rw [if_neg hp]
        go_enter Try.func26, Try.ntmps26
        go_wp2
        go_ret
        exact ⟨rfl, F, ⟨gl, A, n, c, E, H.out⟩, Keep.refl _ _, fun k hk => .inl hk⟩

theorem all_any (i : Int) (w : World) : Calls Try.prog 30 #[.int .i64 i] w fun e w' => e = .returned (.bool true) ∧ w = w' := by
  go_enter Try.func30, Try.ntmps30
  go_wp2
  go_ret
  exact ⟨rfl, rfl⟩
end Go.Proofs.Ytdofnoaadkpniaa.DskA
