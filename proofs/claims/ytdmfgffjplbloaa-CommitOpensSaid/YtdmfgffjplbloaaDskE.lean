/- What waits is laid: a flush, a failure of power. Conditions: the disk lies as the facts say. -/
import Derived.StillTailTactics
import Derived.Laws.Bits64b
import Derived.Test.YtdmfgffjplbloaaDskC
import Derived.Test.YtdmfgffjplbloaaDskD
namespace Go.Proofs.Ytdmfgffjplbloaa.DskE
open Go.RowKit Go.Proofs.Ytdmfgffjplbloaa.Kit Go.Proofs.Ytdmfgffjplbloaa.Byt Go.Proofs.Ytdmfgffjplbloaa.Mem Go.Proofs.Ytdmfgffjplbloaa.DskA Go.Proofs.Ytdmfgffjplbloaa.DskB Go.Proofs.Ytdmfgffjplbloaa.DskC

/-- The sectors behind the first k writes that wait, of which those are laid that kp tells. -/
def laidTo (kp : Nat → Bool) (S : List (List Nat)) (L : List (Nat × List Nat)) : Nat → List (List Nat)
  | 0 => S
  | k + 1 => if kp k then (laidTo kp S L k).set (L.getD k (0, [])).1 (L.getD k (0, [])).2 else laidTo kp S L k
theorem laidTo_len (kp : Nat → Bool) (S : List (List Nat)) (L : List (Nat × List Nat)) (k : Nat) : (laidTo kp S L k).length = S.length := by
  induction k with
  | zero => rfl
  | succ k ih =>
    rw [laidTo]
    split
    · rw [List.length_set, ih]
    · exact ih
theorem laidTo_sec {kp : Nat → Bool} {S : List (List Nat)} {L : List (Nat × List Nat)} (hS : ∀ x ∈ S, x.length = 64) (hL : ∀ p ∈ L, p.2.length = 64) (k : Nat) (hk : k ≤ L.length) : ∀ x ∈ laidTo kp S L k, x.length = 64 := by
  induction k with
  | zero => exact hS
  | succ k ih =>
    rw [laidTo]
    split
    · intro x hx
      rcases List.mem_or_eq_of_mem_set hx with h | h
      · exact ih (by omega) x h
      · subst h
        have hk' : k < L.length := by omega
        have : L.getD k (0, []) = L[k] := by simp [hk']
        rw [this]
        exact hL _ (List.getElem_mem _)
    · exact ih (by omega)
def lay (kp : Nat → Bool) (s : St) : St := { s with S := laidTo kp s.S s.L s.L.length, L := [] }
theorem flat_len {S : List (List Nat)} (h : ∀ x ∈ S, x.length = 64) : S.flatten.length = S.length * 64 := by
  induction S with
  | nil => rfl
  | cons x S ih => rw [List.flatten_cons, List.length_append, h x (by simp), ih fun y hy => h y (by simp [hy])]; simp; omega
theorem flat_set {S : List (List Nat)} (h : ∀ x ∈ S, x.length = 64) {ys : List Nat} (hy : ys.length = 64) : ∀ {i : Nat}, i < S.length → splice S.flatten (i * 64) ys = (S.set i ys).flatten := by
  induction S with
  | nil => intro i hi; simp at hi
  | cons x S ih =>
    intro i hi
    have hx := h x (by simp)
    cases i with
    | zero =>
      rw [List.set_cons_zero, List.flatten_cons, List.flatten_cons, splice, Nat.zero_mul, List.take_zero, List.nil_append, Nat.zero_add, hy, List.drop_append_of_le_length (by omega), List.drop_of_length_le (by omega), List.nil_append]
    | succ i =>
      have := ih (fun y hy => h y (by simp [hy])) (i := i) (by simpa using hi)
      rw [List.set_cons_succ, List.flatten_cons, List.flatten_cons, ← this, splice, splice, show (i + 1) * 64 = x.length + i * 64 by omega, List.take_length_add_append, Nat.add_assoc, List.drop_length_add_append, List.append_assoc]
theorem u8n_splice (xs ys : List Nat) (o : Nat) : splice (u8n xs) o (u8n ys) = u8n (splice xs o ys) := by simp [splice, u8n]

section
variable {w w' : World} {F : Nat → Prop} {g gl n c : Nat} {s : St} {A : Option Addr} {E : List Wr}
theorem At.laid_ (h : At w F g s gl A n c E) {S' : List (List Nat)} (hB : Blk w' gl 91 (u8n S'.flatten)) (k : Keep (fun j => j = gl) w w') (hl : S'.length = s.S.length) (hs : ∀ x ∈ S', x.length = 64) : At w' F g { s with S := S' } gl A n c E :=
  ⟨by rw [show ({ s with S := S' } : St).S.length = s.S.length from hl]; exact k.blk h.head (Ne.symm h.ne), hB, k.own h.own fun i hi => (h.fw i hi).2.2, h.list, fun e he => by
    obtain ⟨h1, h2, h3, h4, h5⟩ := h.ent e he
    exact ⟨k.rd h1 fun _ b o hb => by injection hb with hb; injection hb with hb _; exact hb ▸ h4, h2, h3, h4, h5⟩,
    h.fg, h.fl, h.ne, h.fw, fun i hi => Nat.lt_of_lt_of_le (h.lt i hi) k.size,
    ⟨by rw [show ({ s with S := S' } : St).S.length = s.S.length from hl]; exact h.ok.pos, by rw [show ({ s with S := S' } : St).S.length = s.S.length from hl]; exact h.ok.most, hs, fun p hp => by rw [show ({ s with S := S' } : St).S.length = s.S.length from hl]; exact h.ok.wait p hp, h.ok.lo, h.ok.hi⟩⟩
theorem own_cut {base size : Nat} {e : TypeId} {xs : List Value} (h : w.ownsRow base e size (.slice A n c) n xs) : w.ownsRow base e size (.slice A 0 c) 0 [] := by
  refine ⟨by simp, ?_⟩
  rcases h.2 with ⟨hv, h0⟩ | ⟨g, cap', cur, hv, hb, hh, hnc, hcm, hcs, _⟩
  · simp only [Value.slice.injEq] at hv
    obtain ⟨rfl, _, rfl⟩ := hv
    exact .inl ⟨rfl, rfl⟩
  · simp only [Value.slice.injEq] at hv
    obtain ⟨rfl, _, rfl⟩ := hv
    exact .inr ⟨g, c, cur, rfl, hb, hh, Nat.zero_le _, hcm, hcs, by simp⟩
theorem ob_any {n' : Nat} : (Value.slice A n' c).ownBlock = (Value.slice A n c).ownBlock := by cases A <;> rfl
/-- The list was emptied. -/
theorem At.emptied {w1 w2 : World} (h : At w F g s gl A n c E) (hk : Keep (fun j => (Value.slice A n c).ownBlock = some j) w w1) {ys : List Value} (ho : w1.ownsRow 0 71 2 (.slice A n c) n ys) (hw2 : w2 = w1.setCell ⟨g, 1, none⟩ (.slice A 0 c)) : At w2 F g { s with L := [] } gl A 0 c [] := by
  subst hw2
  have hks := hk.size
  have hS : Keep (fun k => k = g) w1 (w1.setCell ⟨g, 1, none⟩ (.slice A 0 c)) := Keep.set _ _ _ rfl
  refine ⟨(hk.blk h.head fun hk => (h.fw g hk).2.1 rfl).set 1 _, hS.blk (hk.blk h.laid fun hk => (h.fw gl hk).2.2 rfl) h.ne, hS.own (own_cut ho) (fun k hk => ?_), rfl, by simp, h.fg, h.fl, h.ne, fun k hk => ?_, fun k hk => ?_, ⟨h.ok.pos, h.ok.most, h.ok.sec, by simp, h.ok.lo, h.ok.hi⟩⟩
  · rw [ob_any (n := n)] at hk
    exact (h.fw k hk).2.1
  · rw [ob_any (n := n)] at hk
    exact h.fw k hk
  · have h1 := h.lt k hk
    have h2 := Nat.lt_of_lt_of_le h1 hks
    simpa [World.setCell] using h2
end

theorem zero_wr (w : World) : (zeroValue 71).run Try.prog w = .ok (.agg #[.int .i64 0, .slice none 0 0]) w := by kernel_rfl
theorem zero_one : ∀ u ∈ [Value.int .i64 0, Value.slice none 0 0], u.oneCell' = true := by
  intro u hu
  simp only [List.mem_cons, List.not_mem_nil, or_false] at hu
  rcases hu with rfl | rfl <;> rfl

/-- What the loop keeps. -/
def Inv (w : World) (F : Nat → Prop) (g : Nat) (s : St) (gl : Nat) (A : Option Addr) (n c : Nat) (E : List Wr) (kp : Nat → Bool) (k : Nat) (wr : World) : Prop :=
  At wr F g { s with S := laidTo kp s.S s.L k } gl A n c E ∧ Keep (fun j => j = gl) w wr
theorem ent_at {w : World} {F : Nat → Prop} {g gl n c : Nat} {s : St} {A : Option Addr} {E : List Wr} (h : At w F g s gl A n c E) {k : Nat} (hk : k < n) (_kp : Nat → Bool) :
    ∃ e b, e ∈ E ∧ s.L.getD k (0, []) = (e.at_, e.bs) ∧ A = some ⟨b, 0, none⟩ ∧ w.cell? ⟨b, k * 2, none⟩ = some (.int .i64 (e.at_ : Int)) ∧ w.cell? ⟨b, k * 2 + 1, none⟩ = some (.slice (some ⟨e.b, 0, none⟩) 64 e.c) := by
  have hE := h.len
  obtain ⟨b, hA, _, _⟩ := own_some h.own (by omega)
  have hw := wc_at (E := E) (k := k) (by omega)
  subst hA
  refine ⟨E[k], b, List.getElem_mem _, ?_, rfl, ?_, ?_⟩
  · rw [h.list]; simp [hE, hk]
  · rw [h.own.cellAt _ (by omega), Nat.mul_comm, hw.1]
  · rw [h.own.cellAt _ (by omega), Nat.mul_comm, hw.2]
theorem Inv.skip {w wr : World} {F : Nat → Prop} {g gl n c : Nat} {s : St} {A : Option Addr} {E : List Wr} {kp : Nat → Bool} {k : Nat} (h : Inv w F g s gl A n c E kp k wr) (hk : kp k = false) {o : Obj} : Inv w F g s gl A n c E kp (k + 1) (wr.alloc o) := by
  have hK : Keep (fun j => j = gl) wr (wr.alloc o) := Keep.of_below ((Below.refl _ _).alloc (Nat.le_refl _) o)
  refine ⟨?_, h.2.trans hK fun _ h => .inl h⟩
  rw [laidTo, if_neg (by rw [hk]; simp)]
  exact h.1.keep (Keep.of_below (F := fun _ => False) ((Below.refl _ _).alloc (Nat.le_refl _) o)) fun _ _ h => h
theorem Inv.take {w wr w3 : World} {F : Nat → Prop} {g gl n c : Nat} {s : St} {A : Option Addr} {E : List Wr} {kp : Nat → Bool} {k : Nat} {e : Wr} (h : Inv w F g s gl A n c E kp k wr) (hk : kp k = true) (he : s.L.getD k (0, []) = (e.at_, e.bs)) (hkl : k < s.L.length) {o : Obj}
    (hB : Blk w3 gl 91 (splice (u8n (laidTo kp s.S s.L k).flatten) (e.at_ * 64) (u8n e.bs))) (ho : Only gl (wr.alloc o).drew w3) : Inv w F g s gl A n c E kp (k + 1) w3 := by
  have hK : Keep (fun j => j = gl) wr w3 := ((Keep.of_below ((Below.refl _ _).alloc (Nat.le_refl _) o)).drew).trans (Keep.only (F := fun j => j = gl) ho rfl) fun _ h => .inl h
  have hm : s.L.getD k (0, []) ∈ s.L := by
    have : s.L.getD k (0, []) = s.L[k] := by simp [hkl]
    rw [this]
    exact List.getElem_mem _
  have hw := h.1.ok.wait _ hm
  rw [he] at hw
  have hS := h.1.ok.sec
  have hl1 : e.bs.length = 64 := hw.2
  have hl2 : e.at_ < (laidTo kp s.S s.L k).length := hw.1
  refine ⟨?_, h.2.trans hK fun _ h => .inl h⟩
  rw [laidTo, if_pos hk, he]
  rw [u8n_splice, flat_set hS hl1 hl2] at hB
  refine At.laid_ (s := { s with S := laidTo kp s.S s.L k }) h.1 hB hK (by simp) fun x hx => ?_
  rcases List.mem_or_eq_of_mem_set hx with hx | hx
  · exact hS x hx
  · subst hx; exact hl1
theorem Inv.done {w wr w1 : World} {F : Nat → Prop} {g gl n c : Nat} {s : St} {A : Option Addr} {E : List Wr} {kp : Nat → Bool} (h : Inv w F g s gl A n c E kp n wr) (hn : s.L.length = n) {ys : List Value} (ho : w1.ownsRow 0 71 2 (.slice A n c) n ys) (hg : wr.grownBy w1 (Value.slice A n c).ownBlock) :
    Got F g w (.tuple #[]) (lay kp s) (.returned (.tuple #[])) (w1.setCell ⟨g, 1, none⟩ (.slice A 0 c)) := by
  have hk : Keep (fun j => (Value.slice A n c).ownBlock = some j) wr w1 := Keep.grown hg fun _ h => h
  have h2 := At.emptied h.1 hk ho rfl
  refine ⟨rfl, F, ⟨gl, A, 0, c, [], ?_⟩, ?_, fun k hk => .inl hk⟩
  · rw [lay, hn]
    exact h2
  · exact ((h.2.mono fun j _ hj => hj ▸ h.1.fl).trans (hk.mono (G := F) fun j _ hj => (h.1.fw j hj).1) fun _ h => .inl h).trans (Keep.set (F := F) _ _ _ h.1.fg) fun _ h => .inl h

theorem fit {S0 : List (List Nat)} {L : List (Nat × List Nat)} {kp : Nat → Bool} {k i : Nat} (h : ∀ x ∈ laidTo kp S0 L k, x.length = 64) (hi : i < S0.length) : i * 64 + 64 ≤ (u8n (laidTo kp S0 L k).flatten).length := by
  rw [u8n_len, flat_len h, laidTo_len]
  omega
theorem blk_done {w wr w4 : World} {F : Nat → Prop} {g gl n c k : Nat} {s : St} {A : Option Addr} {E : List Wr} {kp : Nat → Bool} (h : Inv w F g s gl A n c E kp k wr) (hg : wr.grownBy w4 (Value.slice A n c).ownBlock) : w4.cell? ⟨g, 1, none⟩ = some (.slice A n c) ∧ w4.frozen? ⟨g, 1, none⟩ = false := by
  have hk : Keep (fun j => (Value.slice A n c).ownBlock = some j) wr w4 := Keep.grown hg fun _ h => h
  have hB := hk.blk h.1.head fun hk => (h.1.fw g hk).2.1 rfl
  exact ⟨hB.cell rfl, hB.frozen 1⟩
/-- Bit k of what a failure of power keeps. -/
def kb (K k : Nat) : Bool := decide (K / 2 ^ k % 2 = 1)
theorem kb_min {K k : Nat} (hK : K < 18446744073709551616) : K / 2 ^ min k 64 % 2 = K / 2 ^ k % 2 := by
  rcases Nat.le_total k 64 with h | h
  · rw [Nat.min_eq_left h]
  · rw [Nat.min_eq_right h, Nat.div_eq_of_lt (show K < 2 ^ 64 by omega), Nat.div_eq_of_lt (Nat.lt_of_lt_of_le (show K < 2 ^ 64 by omega) (Nat.pow_le_pow_right (by omega) h))]
theorem kb_bits {K k : Nat} (hK : K < 18446744073709551616) : (bits BinOp.and IntKind.u64 ((K : Int) / 2 ^ min k 64) 1 == 1) = kb K k := by
  have h1 : (K : Int) / 2 ^ min k 64 = ((K / 2 ^ min k 64 : Nat) : Int) := by simp
  rw [h1, show (1 : Int) = ((1 : Nat) : Int) from rfl, bits_and_u64_nat _ _ (Nat.lt_of_le_of_lt (Nat.div_le_self _ _) hK) (by omega), Nat.and_one_is_mod, kb_min hK, kb, Bool.eq_iff_iff, beq_iff_eq, decide_eq_true_eq]
  generalize K / 2 ^ k % 2 = x
  omega
theorem keep_any (K k bx : Nat) (w : World) (hK : K < 18446744073709551616) (_hk : k ≤ 1000000000) (h0 : w.cell? ⟨bx, 0, none⟩ = some (.int .u64 (K : Int))) :
    Calls Try.prog 28 #[.int .i64 (k : Int), .pointer (some ⟨bx, 0, none⟩)] w fun e w' => e = .returned (.bool (kb K k)) ∧ w = w' := by
  go_enter Try.func28, Try.ntmps28
  go_wp2
  go_ret
  exact ⟨ret_bool (kb_bits hK), rfl⟩
set_option maxHeartbeats 1600000 in
set_option maxRecDepth 100000 in
theorem lay_all (F : Nat → Prop) (g : Nat) (s : St) (w : World) (hD : Dk w F g s) (hL : s.L.length ≤ 1000000000) :
    Calls Try.prog 27 #[.pointer (some ⟨g, 0, none⟩), .func (.func 53) #[] #[]] w (Got F g w (.tuple #[]) (lay (fun _ => true) s)) := by
  obtain ⟨gl, A, n, c, E, h⟩ := hD
  obtain ⟨_, c1, _, _⟩ := h.cells
  have hlen := Lib.hid h.long
  have hn : n ≤ 1000000000 := by rw [← h.long]; exact hL
  have hg := h.lt g h.fg
  have H := Lib.hid h
  clear h hL
  go_enter Try.func27, Try.ntmps27
  go_wp2
  go_loopw [11] (fun i wr => ∃ k : Nat, k ≤ n ∧ i = .int .i64 k ∧ Hid (Inv w F g s gl A n c E (fun _ => true) k wr)) (fun i _ => n - (intOf i).toNat)
  case atStart => exact ⟨0, Nat.zero_le _, rfl, H.out, Keep.refl _ _⟩
  case round =>
    obtain ⟨k, hk, rfl, HI⟩ := hrel
    obtain ⟨d0, d1, _, _⟩ := HI.out.1.cells
    have hgr := HI.out.1.lt g HI.out.1.fg
    by_cases hlt : k < n
    · obtain ⟨e, b, he, heq, hA, g0, g1⟩ := ent_at HI.out.1 hlt (fun _ => true)
      subst hA
      have HE := Lib.hid heq
      have HM := Lib.hid he
      clear heq he
      have hat : e.at_ < s.S.length := by
        have := HI.out.1.ok.wait (e.at_, e.bs) (by rw [← HE.out, show s.L.getD k (0, []) = s.L[k]'(by rw [hlen.out]; exact hlt) from by simp [hlen.out, hlt]]; exact List.getElem_mem _)
        have h2 := this.1
        simpa [laidTo_len] using h2
      have hmo := H.out.ok.most
      simp only [laidTo_len] at d0
      obtain ⟨N, hN⟩ : ∃ N, N = s.S.length := ⟨_, rfl⟩
      rw [← hN] at hat hmo d0
      have HN := Lib.hid hN
      clear hN
      go_wp2_with (go_at_call 53; refine (all_any _ _).mono ?_; rintro e w3 ⟨rfl, rfl⟩)
      have m0 := ((Below.refl wr.heap.size wr).alloc (Nat.le_refl _) (.cells #[.int .i64 (e.at_ : Int), .slice (some ⟨e.b, 0, none⟩) 64 e.c] 71)).cell (p := ⟨g, 0, none⟩) hgr |>.trans d0
      have mR := Lib.hid (Rd.alloc (HI.out.1.ent e HM.out).1 (.cells #[.int .i64 (e.at_ : Int), .slice (some ⟨e.b, 0, none⟩) 64 e.c] 71))
      have mB := Lib.hid (Blk.alloc HI.out.1.laid (.cells #[.int .i64 (e.at_ : Int), .slice (some ⟨e.b, 0, none⟩) 64 e.c] 71))
      have p0 : (0 : Int) ≤ (e.at_ : Int) := by omega
      have p1 : (e.at_ : Int) < (N : Int) := by omega
      have hbx := Blk.new wr 71 [.int .i64 (e.at_ : Int), .slice (some ⟨e.b, 0, none⟩) 64 e.c]
      obtain ⟨wa, hwa⟩ : ∃ wa, wa = wr.alloc (.cells #[.int .i64 (e.at_ : Int), .slice (some ⟨e.b, 0, none⟩) 64 e.c] 71) := ⟨_, rfl⟩
      rw [← hwa] at m0 mR mB hbx ⊢
      have HWA := Lib.hid hwa
      clear hwa
      have b0 : wa.cell? ⟨wr.heap.size, 0, none⟩ = some (.int .i64 (e.at_ : Int)) := hbx.cell rfl
      have b1 : wa.cell? ⟨wr.heap.size, 1, none⟩ = some (.slice (some ⟨e.b, 0, none⟩) 64 e.c) := hbx.cell rfl
      clear hbx d0 d1
      go_still_tail 10, (by kernel_rfl)
      change wpList _ _ _ _ _ (World.drew _)
      refine wpList_copy_part rfl (.tmp 26) (.tmp 28) 42 42 rfl 5 Try.underlying42 size8 gl (e.at_ * 64) 64 64 rfl rfl (show Rd (World.drew _) _ _ _ _ from mR.out) (u8n_one _) (show Blk (World.drew _) _ _ _ from mB.out) (fit HI.out.1.ok.sec (by rw [← HN.out]; exact hat)) ?_
      intro w5 m hm hB5 ho5
      clear m0 p0 p1 b0 b1
      go_wp2
      go_roundw
      case rel =>
        have hm' : m = 64 := hm.out
        subst hm'
        have hB6 := hB5.out
        rw [List.take_of_length_le (by rw [u8n_len, Rd.nats mR.out]; omega)] at hB6
        exact ⟨k + 1, by omega, by go_num, Inv.take HI.out rfl HE.out (by rw [hlen.out]; exact hlt) hB6 (by rw [← HWA.out]; exact ho5.out)⟩
      case measure => simp [intOf]; omega
    · obtain rfl : k = n := by omega
      have fz := fun w4 ys (h4 : w4.ownsRow 0 71 2 (.slice A k c) k ys) (hg : wr.grownBy w4 (Value.slice A k c).ownBlock) => blk_done HI.out hg
      have Fz := Lib.hid fz
      clear fz
      go_wp2_with (refine wpList_clear_own rfl (.tmp 34) 57 71 rfl _ Try.underlying57 zero_wr rfl zero_one rfl rfl HI.out.1.own ?_; intro w4 ys ho4 hg4 hs4; have HG4 := Lib.hid hg4; obtain ⟨k4, f4⟩ := Fz.out w4 ys ho4.out hg4; clear hg4)
      go_end0
      exact HI.out.done hlen.out ho4.out HG4.out
set_option maxHeartbeats 1600000 in
set_option maxRecDepth 100000 in
theorem lay_keep (F : Nat → Prop) (g : Nat) (s : St) (K bx : Nat) (w : World) (hD : Dk w F g s) (hL : s.L.length ≤ 1000000000) (hK : K < 18446744073709551616) (hbx : ¬ F bx) (hbl : bx < w.heap.size) (hbc : w.cell? ⟨bx, 0, none⟩ = some (.int .u64 (K : Int))) :
    Calls Try.prog 27 #[.pointer (some ⟨g, 0, none⟩), .func (.func 28) #[] #[.pointer (some ⟨bx, 0, none⟩)]] w (Got F g w (.tuple #[]) (lay (kb K) s)) := by
  obtain ⟨gl, A, n, c, E, h⟩ := hD
  obtain ⟨_, c1, _, _⟩ := h.cells
  have hlen := Lib.hid h.long
  have hn : n ≤ 1000000000 := by rw [← h.long]; exact hL
  have hg := h.lt g h.fg
  have H := Lib.hid h
  clear h hL
  go_enter Try.func27, Try.ntmps27
  go_wp2
  go_loopw [11] (fun i wr => ∃ k : Nat, k ≤ n ∧ i = .int .i64 k ∧ Hid (Inv w F g s gl A n c E (kb K) k wr)) (fun i _ => n - (intOf i).toNat)
  case atStart => exact ⟨0, Nat.zero_le _, rfl, H.out, Keep.refl _ _⟩
  case round =>
    obtain ⟨k, hk, rfl, HI⟩ := hrel
    obtain ⟨d0, d1, _, _⟩ := HI.out.1.cells
    have hgr := HI.out.1.lt g HI.out.1.fg
    by_cases hlt : k < n
    · obtain ⟨e, b, he, heq, hA, g0, g1⟩ := ent_at HI.out.1 hlt (kb K)
      subst hA
      have HE := Lib.hid heq
      have HM := Lib.hid he
      clear heq he
      have hat : e.at_ < s.S.length := by
        have := HI.out.1.ok.wait (e.at_, e.bs) (by rw [← HE.out, show s.L.getD k (0, []) = s.L[k]'(by rw [hlen.out]; exact hlt) from by simp [hlen.out, hlt]]; exact List.getElem_mem _)
        have h2 := this.1
        simpa [laidTo_len] using h2
      have hmo := H.out.ok.most
      simp only [laidTo_len] at d0
      obtain ⟨N, hN⟩ : ∃ N, N = s.S.length := ⟨_, rfl⟩
      rw [← hN] at hat hmo d0
      have HN := Lib.hid hN
      clear hN
      have hbc1 : wr.cell? ⟨bx, 0, none⟩ = some (.int .u64 (K : Int)) := (World.cell?_of_block (HI.out.2.block bx hbl (fun h => hbx (h ▸ HI.out.1.fl)))).trans hbc
      have hbr := HI.out.2.size
      have hbc2 := ((Below.refl wr.heap.size wr).alloc (Nat.le_refl _) (.cells #[.int .i64 (e.at_ : Int), .slice (some ⟨e.b, 0, none⟩) 64 e.c] 71)).cell (p := ⟨bx, 0, none⟩) (by show bx < _; omega) |>.trans hbc1
      have HCX := Lib.hid hbc2
      clear hbc1 hbc2
      have hkp := fun W h => keep_any K k bx W hK (by omega) h
      cases hkt : kb K k with
      | true =>
        rw [hkt] at hkp
        have HKT := Lib.hid hkt
        have HKP := Lib.hid hkp
        clear hkt hkp
        go_wp2_with (go_at_call 28; refine (HKP.out _ HCX.out).mono ?_; rintro e w3 ⟨rfl, rfl⟩)
        have m0 := ((Below.refl wr.heap.size wr).alloc (Nat.le_refl _) (.cells #[.int .i64 (e.at_ : Int), .slice (some ⟨e.b, 0, none⟩) 64 e.c] 71)).cell (p := ⟨g, 0, none⟩) hgr |>.trans d0
        have mR := Lib.hid (Rd.alloc (HI.out.1.ent e HM.out).1 (.cells #[.int .i64 (e.at_ : Int), .slice (some ⟨e.b, 0, none⟩) 64 e.c] 71))
        have mB := Lib.hid (Blk.alloc HI.out.1.laid (.cells #[.int .i64 (e.at_ : Int), .slice (some ⟨e.b, 0, none⟩) 64 e.c] 71))
        have p0 : (0 : Int) ≤ (e.at_ : Int) := by omega
        have p1 : (e.at_ : Int) < (N : Int) := by omega
        have hbx := Blk.new wr 71 [.int .i64 (e.at_ : Int), .slice (some ⟨e.b, 0, none⟩) 64 e.c]
        obtain ⟨wa, hwa⟩ : ∃ wa, wa = wr.alloc (.cells #[.int .i64 (e.at_ : Int), .slice (some ⟨e.b, 0, none⟩) 64 e.c] 71) := ⟨_, rfl⟩
        rw [← hwa] at m0 mR mB hbx ⊢
        have HWA := Lib.hid hwa
        clear hwa
        have b0 : wa.cell? ⟨wr.heap.size, 0, none⟩ = some (.int .i64 (e.at_ : Int)) := hbx.cell rfl
        have b1 : wa.cell? ⟨wr.heap.size, 1, none⟩ = some (.slice (some ⟨e.b, 0, none⟩) 64 e.c) := hbx.cell rfl
        clear hbx d0 d1
        go_still_tail 10, (by kernel_rfl)
        change wpList _ _ _ _ _ (World.drew _)
        refine wpList_copy_part rfl (.tmp 26) (.tmp 28) 42 42 rfl 5 Try.underlying42 size8 gl (e.at_ * 64) 64 64 rfl rfl (show Rd (World.drew _) _ _ _ _ from mR.out) (u8n_one _) (show Blk (World.drew _) _ _ _ from mB.out) (fit HI.out.1.ok.sec (by rw [← HN.out]; exact hat)) ?_
        intro w5 m hm hB5 ho5
        clear m0 p0 p1 b0 b1
        go_wp2
        go_roundw
        case rel =>
          have hm' : m = 64 := hm.out
          subst hm'
          have hB6 := hB5.out
          rw [List.take_of_length_le (by rw [u8n_len, Rd.nats mR.out]; omega)] at hB6
          exact ⟨k + 1, by omega, by go_num, Inv.take HI.out HKT.out HE.out (by rw [hlen.out]; exact hlt) hB6 (by rw [← HWA.out]; exact ho5.out)⟩
        case measure => simp [intOf]; omega
      | false =>
        rw [hkt] at hkp
        have HKT := Lib.hid hkt
        have HKP := Lib.hid hkp
        clear hkt hkp
        go_wp2_with (go_at_call 28; refine (HKP.out _ HCX.out).mono ?_; rintro e w3 ⟨rfl, rfl⟩)
        go_roundw
        case rel => exact ⟨k + 1, by omega, by go_num, HI.out.skip HKT.out⟩
        case measure => simp [intOf]; omega
    · obtain rfl : k = n := by omega
      have fz := fun w4 ys (h4 : w4.ownsRow 0 71 2 (.slice A k c) k ys) (hg : wr.grownBy w4 (Value.slice A k c).ownBlock) => blk_done HI.out hg
      have Fz := Lib.hid fz
      clear fz
      go_wp2_with (refine wpList_clear_own rfl (.tmp 34) 57 71 rfl _ Try.underlying57 zero_wr rfl zero_one rfl rfl HI.out.1.own ?_; intro w4 ys ho4 hg4 hs4; have HG4 := Lib.hid hg4; obtain ⟨k4, f4⟩ := Fz.out w4 ys ho4.out hg4; clear hg4)
      go_end0
      exact HI.out.done hlen.out ho4.out HG4.out

theorem flush_nil (w : World) : Calls Try.prog 41 #[.pointer none] w fun e w' => e = .returned (.int .i64 7) ∧ w = w' := by
  go_enter Try.func41, Try.ntmps41
  go_wp2
  go_ret
  exact ⟨rfl, rfl⟩
theorem Got.trans {w w1 w2 : World} {F F1 : Nat → Prop} {g : Nat} {v : Value} {s : St} {e : Ending} (hk : Keep F w w1) (hf : ∀ k, F1 k → F k ∨ w.heap.size ≤ k) (h : Got F1 g w1 v s e w2) : Got F g w v s e w2 := by
  obtain ⟨he, F2, hD, hk2, hf2⟩ := h
  refine ⟨he, F2, hD, hk.trans hk2 hf, fun k h => ?_⟩
  rcases hf2 k h with h | h
  · exact hf k h
  · exact .inr (Nat.le_trans hk.size h)
theorem spend_sl (s : St) : (spend s).2.L = s.L ∧ (spend s).2.S = s.S := by
  unfold spend
  split
  · exact ⟨rfl, rfl⟩
  · split
    · exact ⟨rfl, rfl⟩
    · dsimp only
      split <;> exact ⟨rfl, rfl⟩
set_option maxHeartbeats 400000 in
theorem flush_down (F : Nat → Prop) (g : Nat) (s : St) (w : World) (hD : Dk w F g s) (hs : (spend s).1 = false) : Calls Try.prog 41 #[.pointer (some ⟨g, 0, none⟩)] w (Got F g w (.int .i64 8) (spend s).2) := by
  have HS := fun W h => spend_any F g s W h
  rw [hs] at HS
  have HS' := Lib.hid HS
  have Hs := Lib.hid hs
  clear HS hs
  go_enter Try.func41, Try.ntmps41
  go_wp2_with (go_at_call 32; refine (HS'.out _ hD).mono ?_; rintro e w' ⟨rfl, F1, hD1, hk1, hf1⟩)
  go_ret
  exact ⟨rfl, F1, hD1, hk1, hf1⟩
set_option maxHeartbeats 400000 in
set_option maxRecDepth 100000 in
theorem flush_ok (F : Nat → Prop) (g : Nat) (s : St) (w : World) (hD : Dk w F g s) (hs : (spend s).1 = true) (hL : s.L.length ≤ 1000000000) :
    Calls Try.prog 41 #[.pointer (some ⟨g, 0, none⟩)] w (Got F g w (.int .i64 0) (lay (fun _ => true) (spend s).2)) := by
  have HS := fun W h => spend_any F g s W h
  rw [hs] at HS
  have HS' := Lib.hid HS
  have hL1 : (spend s).2.L.length ≤ 1000000000 := by rw [(spend_sl s).1]; exact hL
  obtain ⟨s1, hs1⟩ : ∃ s1, s1 = (spend s).2 := ⟨_, rfl⟩
  rw [← hs1] at hL1 HS' ⊢
  have HL := Lib.hid hL1
  clear HS hs hs1 hL1 hL
  go_enter Try.func41, Try.ntmps41
  go_wp2_with (first
   | (go_at_call 32; refine (HS'.out _ hD).mono ?_; rintro e w1 ⟨rfl, F1, hD1, hk1, hf1⟩)
   | (go_at_call 27; refine (lay_all F1 g s1 _ hD1 HL.out).mono ?_; rintro e w2 ⟨rfl, F2, hD2, hk2, hf2⟩))
  go_ret
  exact Got.trans hk1 hf1 ⟨rfl, F2, hD2, hk2, hf2⟩
theorem power_nil (K : Int) (w : World) : Calls Try.prog 13 #[.pointer none, .int .u64 K] w fun e w' => e = .returned (.tuple #[]) ∧ Below w.heap.size w w' := by
  go_enter Try.func13, Try.ntmps13
  go_wp2
  refine bodyPost_ret (results_none rfl _ _ _) rfl ?_
  exact ⟨rfl, (Below.refl _ _).alloc (Nat.le_refl _) _⟩
/-- The power fails, and comes back. -/
def power (K : Nat) (s : St) : St := { lay (kb K) s with fuse := -1, down := false }
set_option maxHeartbeats 800000 in
set_option maxRecDepth 100000 in
theorem power_any (F : Nat → Prop) (g : Nat) (s : St) (K : Nat) (w : World) (hD : Dk w F g s) (hL : s.L.length ≤ 1000000000) (hK : K < 18446744073709551616) :
    Calls Try.prog 13 #[.pointer (some ⟨g, 0, none⟩), .int .u64 (K : Int)] w (Got F g w (.tuple #[]) (power K s)) := by
  have HL := Lib.hid hL
  clear hL
  have HP := Lib.hid (lay_keep F g s K w.heap.size (w.alloc (.cells #[.int .u64 (K : Int)] 32)) (hD.below ((Below.refl _ _).alloc (Nat.le_refl _) _)) HL.out hK (fun h => by have := hD.lt _ h; omega) (by simp) ((Blk.new w 32 [.int .u64 (K : Int)]).cell rfl))
  go_enter Try.func13, Try.ntmps13
  go_wp2_with (go_at_call 27; refine HP.out.mono ?_; rintro e w2 ⟨rfl, F2, ⟨gl, A, n, c, E, h2⟩, hk2, hf2⟩; obtain ⟨_, _, q2, q3⟩ := h2.cells; have r2 := h2.head.frozen 2; have r3 := h2.head.frozen 3; have H2 := Lib.hid h2; clear h2)
  go_end0
  have h3 := (H2.out.fuse (f := -1) (by omega) (by omega)).down_ false
  have hf : ∀ k, F2 k → F k ∨ w.heap.size ≤ k := fun k hk => by
    rcases hf2 k hk with h | h
    · exact .inl h
    · rw [World.size_alloc] at h
      exact .inr (by omega)
  have hka : Keep F w (w.alloc (.cells #[.int .u64 (K : Int)] 32)) := Keep.of_below ((Below.refl _ _).alloc (Nat.le_refl _) _)
  have hkb : Keep F w w2 := hka.trans hk2 fun _ h => .inl h
  exact ⟨rfl, F2, ⟨gl, A, n, c, E, h3⟩, (hkb.trans (Keep.set (F := F2) w2 2 _ H2.out.fg) hf).trans (Keep.set (F := F2) _ 3 _ H2.out.fg) hf, hf⟩
end Go.Proofs.Ytdmfgffjplbloaa.DskE
