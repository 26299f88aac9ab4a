/- A new disk; a sector's bytes as the law fills them; bytes cloned. Conditions: what is read reads as the list that is named. -/
import Derived.Test.YtdmfgffjplbloaaJ01
namespace Go.Proofs.Ytdmfgffjplbloaa.DskB
open Go.RowKit Go.Proofs.Ytdmfgffjplbloaa.Kit Go.Proofs.Ytdmfgffjplbloaa.Byt Go.Proofs.Ytdmfgffjplbloaa.Mem Go.Proofs.Ytdmfgffjplbloaa.DskA

theorem info8 : (Try.prog.info? 5).map (fun i => (i.zero, i.size, i.bytes)) = some (some (.int .u8 0), 1, 1) := by kernel_rfl
theorem size8 : (Try.prog.info? 5).map (·.size) = some 1 := by kernel_rfl

/-- What comes back is new memory that reads as these bytes; all that was there is as it was. -/
def Fresh (w : World) (xs : List Nat) (e : Ending) (w' : World) : Prop :=
  ∃ A n c, Hid (n = xs.length) ∧ e = .returned (.slice A n c) ∧ w'.ownsRow w.heap.size 5 1 (.slice A n c) n (u8n xs) ∧ Below w.heap.size w w'
theorem Fresh.of {w w' : World} {xs : List Nat} {A : Option Addr} {n c : Nat} (h : w'.ownsRow w.heap.size 5 1 (.slice A n c) n (u8n xs)) (hb : Below w.heap.size w w') : Fresh w xs (.returned (.slice A n c)) w' := by
  have hn := h.1
  rw [u8n_len] at hn
  exact ⟨A, n, c, (show _ = _ by omega), rfl, h, hb⟩
theorem Rd.one (w : World) (x : Nat) (t : TypeId) : Rd (w.alloc (.cells #[.int .u8 (x : Int)] t)) (some ⟨w.heap.size, 0, none⟩) 1 1 (u8n [x]) :=
  ⟨rfl, Nat.le_refl _, by omega, fun _ => ⟨_, _, rfl, by simp, fun j u hu => by
    have := new_one w (.int .u8 (x : Int)) t j u (by simpa [u8n] using hu)
    rwa [Addr.add_lit] at this⟩⟩
theorem own_some {w : World} {base n c size : Nat} {e : TypeId} {A : Option Addr} {xs : List Value} (h : w.ownsRow base e size (.slice A n c) n xs) (hn : 0 < n) : ∃ g, A = some ⟨g, 0, none⟩ ∧ base ≤ g ∧ g < w.heap.size := by
  rcases h.2 with ⟨hv, h0⟩ | ⟨g, cap', cur, hv, hb, hh, _⟩
  · omega
  · simp only [Value.slice.injEq] at hv
    exact ⟨g, hv.1, hb, lt_of_block hh⟩

/-- A sector's bytes, as the law fills them. -/
def fl (b n : Nat) : List Nat := (List.range n).map fun i => (b + i) % 256
theorem fl_len (b n : Nat) : (fl b n).length = n := by simp [fl]
/-- k of n are filled. -/
def part (b n k : Nat) : List Nat := fl b k ++ List.replicate (n - k) 0
theorem part_len {b n k : Nat} (h : k ≤ n) : (part b n k).length = n := by simp [part, fl_len]; omega
theorem part_set {b n k : Nat} (h : k < n) : (part b n k).set k ((b + k) % 256) = part b n (k + 1) := by
  obtain ⟨m, hm⟩ : ∃ m, n - k = m + 1 := ⟨n - k - 1, by omega⟩
  have hm' : n - (k + 1) = m := by omega
  have h1 : fl b (k + 1) = fl b k ++ [(b + k) % 256] := by simp [fl, List.range_succ]
  rw [part, part, hm, hm', h1, List.set_append, if_neg (by rw [fl_len]; omega), fl_len, Nat.sub_self, List.replicate_succ, List.set_cons_zero, List.append_assoc]
  rfl
theorem part_all (b n : Nat) : part b n n = fl b n := by simp [part]
theorem part_zero (b n : Nat) : part b n 0 = List.replicate n 0 := by simp [part, fl]
theorem u8n_set (xs : List Nat) (k y : Nat) : (u8n xs).set k (.int .u8 (y : Int)) = u8n (xs.set k y) := by simp [u8n, List.map_set]

theorem u8_conv {k : Nat} (h : k < 256) : IntKind.u8.wrap (k : Int) = (k : Int) := by rw [IntKind.wrap_u8]; omega
theorem u8_sum (b k : Nat) : IntKind.u8.wrap ((b : Int) + (k : Int)) = (((b + k) % 256 : Nat) : Int) := by rw [IntKind.wrap_u8]; omega

/-- Zeros. -/
def zs (n : Nat) : List Nat := List.replicate n 0
theorem zs_len (n : Nat) : (zs n).length = n := List.length_replicate
theorem zs_more : u8n (zs 64) ++ u8n [0] = u8n (zs 65) := by rw [u8n_app]; rfl
theorem zs_flat (k : Nat) : (List.replicate k (zs 64)).flatten = zs (k * 64) := by unfold zs; generalize 64 = m; simp
theorem zs_made (m : Nat) : madeCells (u8n (zs 64)).toArray m = (u8n (zs m)).toArray := by
  obtain ⟨q, hq⟩ : ∃ q : Nat, q = 64 := ⟨_, rfl⟩
  rw [← hq]
  apply Array.ext
  · simp [madeCells, u8n, zs]
  · intro i h1 h2
    have : i % q < q := Nat.mod_lt _ (by omega)
    simp [madeCells, u8n, zs, this]
theorem own_zero {w : World} {g : Nat} (h : w.heap[g]? = some (.cells (List.replicate 64 (Value.int .u8 0)).toArray 5 (0, 0))) : w.ownsRow g 5 1 (.slice (some ⟨g, 0, none⟩) 64 64) 64 (u8n (zs 64)) := by
  have h' := own_of_block (base := g) (n := 64) h (Nat.le_refl _) (by simp) (by simp)
  simpa [u8n, zs] using h'
/-! ### a new disk -/

theorem info_sec : (Try.prog.info? 91).map (fun i => (i.zero, i.size, i.bytes)) = some (some (.agg (u8n (zs 64)).toArray), 64, 64) := by kernel_rfl
theorem wpList_make_wide {P : Program} {ops : Array Oper} {rest : List Oper} {o : Oper} {a : Act} {Q : Exit → Act → World → Prop} (w : World) (hg : o.guard = none) (l : Operand) (t : TypeId) (hop : o.op = Op.makeSlice t l l)
    (e : TypeId) (i : TypeInfo) (h1 : P.underlying t = some (.slice e)) (h2 : P.info? e = some i) (h3 : i.zero = some (.agg (u8n (zs 64)).toArray)) (h4 : i.size = 64) (h5 : i.bytes = 64)
    (L : Int) (n : Nat) (hl : a.eval l = .int .i64 L) (hL : L = (n : Int)) (hn : n ≤ 128)
    (hK : ∀ w', Hid (Blk w' w.heap.size e (u8n (zs (n * 64)))) → Below w.heap.size w w' → Hid (w'.heap.size = w.heap.size + 1) → wpList P ops Q rest (a.put o.dst (.slice (some ⟨w.heap.size, 0, none⟩) n n)) w') : wpList P ops Q (o :: rest) a w := by
  refine wpList_plain hg fun K hK' => ?_
  subst hL
  have hrun := run_make (P := P) w t e i _ h1 h2 h3 .i64 .i64 n n (by omega) (by omega) (by rw [h5]; omega) (by omega)
  simp only [Int.toNat_natCast, h4, Value.cells, zs_made] at hrun
  unfold Oper.wp
  simp [execOp, hop, hl, hrun, Result.andThen]
  exact hK' _ _ (hK _ (Blk.new w e _) ((Below.refl _ _).alloc (Nat.le_refl _) _) (by simp [Hid]))
/-- How many sectors a new disk has. -/
def cnt (n : Int) : Nat := (min (max n 1) 128).toNat
theorem cnt_pos (n : Int) : 1 ≤ cnt n := by unfold cnt; omega
theorem cnt_le (n : Int) : cnt n ≤ 128 := by unfold cnt; omega
def newSt (n : Int) : St := ⟨List.replicate (cnt n) (zs 64), [], -1, false⟩
/-- What a maker hands back: a new disk. -/
def Made (w : World) (s : St) (e : Ending) (w' : World) : Prop :=
  ∃ g F, e = .returned (.pointer (some ⟨g, 0, none⟩)) ∧ Dk w' F g s ∧ Below w.heap.size w w' ∧ ∀ k, F k → w.heap.size ≤ k

theorem newSt_at {w : World} {F : Nat → Prop} {g gl : Nat} {n : Int} (h : Blk w g 59 (hd gl (cnt n) none 0 0 (-1) false)) (hl : Blk w gl 91 (u8n (zs (cnt n * 64)))) (hg : F g) (hgl : F gl) (hne : gl ≠ g) (hlt : ∀ k, F k → k < w.heap.size) :
    Dk w F g (newSt n) := by
  have p1 := cnt_pos n
  have p2 := cnt_le n
  refine ⟨gl, none, 0, 0, [], ⟨?_, ?_, World.ownsRow_nil _ _ _ _, rfl, by simp, hg, hgl, hne, (fun k hk => by cases hk), hlt, ⟨?_, ?_, ?_, by simp [newSt], by simp [newSt], by simp [newSt]⟩⟩⟩
  · simpa [newSt] using h
  · simpa only [newSt, zs_flat] using hl
  · simpa [newSt] using p1
  · simpa [newSt] using p2
  · intro x hx
    rw [(List.mem_replicate.1 hx).2, zs_len]

set_option maxHeartbeats 800000 in
theorem new_any (n : Int) (w : World) : Calls Try.prog 8 #[.int .i64 n] w (Made w (newSt n)) := by
  obtain ⟨i0, hi0, hz0, hz1, hz2⟩ := info_parts info_sec
  have p1 := cnt_pos n
  have p2 := cnt_le n
  have hc : (n ≤ 0 ∧ cnt n ≤ 1) ∨ (1 ≤ n ∧ n ≤ 128 ∧ n ≤ (cnt n : Nat) ∧ (cnt n : Nat) ≤ n) ∨ (128 < n ∧ 128 ≤ cnt n) := by unfold cnt; omega
  obtain ⟨K, hK⟩ : ∃ K, K = cnt n := ⟨_, rfl⟩
  rw [← hK] at p1 p2 hc
  have HK := Lib.hid hK
  clear hK
  rcases hc with ⟨h1, h2⟩ | ⟨h1, h1', h2, h2'⟩ | ⟨h1, h2⟩
  all_goals
    go_enter Try.func8, Try.ntmps8
    go_wp2_with (refine wpList_make_wide _ rfl (.tmp 5) 56 rfl 91 i0 Try.underlying56 hi0 hz0 hz1 hz2 _ K rfl (by omega) p2 ?_; intro w1 hB1 hb1 hs1)
    go_ret
    have hs := hs1.out
    refine ⟨w1.heap.size, fun k => k = w.heap.size ∨ k = w1.heap.size, rfl, newSt_at (gl := w.heap.size) ?_ ?_ (.inr rfl) (.inl rfl) (by omega) (fun k hk => by simp; omega), hb1.alloc hb1.size _, fun k hk => by omega⟩
    · rw [← HK.out]; exact Blk.new w1 _ (hd w.heap.size K none 0 0 (-1) false)
    · rw [← HK.out]; exact Blk.alloc hB1.out _
end Go.Proofs.Ytdmfgffjplbloaa.DskB
