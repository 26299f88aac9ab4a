/- The channels from a partition, and to it, by the landed code. Conditions: the table lies as the facts say; numbers of 64 bits. -/
import Derived.Test.YtnoopihhfioanaaCpaN0
import Derived.BigQuiet
namespace Go.Proofs.Ytnoopihhfioanaa.CpaN2
open Go.RowKit Go.Proofs.Ytnoopihhfioanaa.Kit Go.Proofs.Ytnoopihhfioanaa.Byt Go.Proofs.Ytnoopihhfioanaa.Mem Go.Proofs.Ytnoopihhfioanaa.CpaM Go.Proofs.Ytnoopihhfioanaa.CpaN0
open Go.Proofs.Ytnoopihhfioanaa.TabA (Tri Ta Tris)
open Go.Proofs.Ytnoopihhfioanaa.TabB (Yes Bx)
open Go.Proofs.Ytnoopihhfioanaa.BitM (hb pw ret_i)
/-- The bits below k of those channels. -/
structure Acc (P : Nat → Prop) (k : Nat) (x : Int) : Prop where
  lo : 0 ≤ x
  hi : x ≤ 15
  bit : ∀ j : Nat, j < 4 → (hb x j = true ↔ j < k ∧ P j)
theorem Acc.zero (P : Nat → Prop) : Acc P 0 0 := ⟨by decide, by decide, fun j _ => ⟨fun h => by unfold hb at h; simp at h, fun h => absurd h.1 (by omega)⟩⟩
theorem Acc.no {P : Nat → Prop} {k : Nat} {x : Int} (h : Acc P k x) (hp : ¬ P k) : Acc P (k + 1) x := ⟨h.lo, h.hi, fun j hj => by
  rw [h.bit j hj]
  refine ⟨fun ⟨a, b⟩ => ⟨by omega, b⟩, fun ⟨a, b⟩ => ⟨?_, b⟩⟩
  by_cases e : j = k
  · subst e
    exact absurd b hp
  · omega⟩
set_option maxRecDepth 100000 in
set_option maxHeartbeats 4000000 in
theorem or_four : ∀ s : Fin 16, ∀ k : Fin 4, 0 ≤ bits .or .i64 (s.val : Int) (2 ^ k.val) ∧ bits .or .i64 (s.val : Int) (2 ^ k.val) ≤ 15 ∧ ∀ j : Fin 4, hb (bits .or .i64 (s.val : Int) (2 ^ k.val)) (j.val : Int) = (hb (s.val : Int) (j.val : Int) || decide (j = k)) := by decide +kernel
theorem Acc.yes {P : Nat → Prop} {k : Nat} {x : Int} (h : Acc P k x) (hk : k < 4) (hp : P k) : Acc P (k + 1) (bits .or .i64 x (wrap64 (2 ^ k))) := by
  obtain ⟨s, rfl⟩ : ∃ s : Fin 16, x = (s.val : Int) := ⟨⟨x.toNat, by have := h.lo; have := h.hi; omega⟩, by have := h.lo; show x = ((x.toNat : Nat) : Int); omega⟩
  obtain ⟨h0, h1, h2⟩ := or_four s ⟨k, hk⟩
  have e : wrap64 (2 ^ k) = 2 ^ k := by
    match k, hk with
    | 0, _ => unfold wrap64; decide
    | 1, _ => unfold wrap64; decide
    | 2, _ => unfold wrap64; decide
    | 3, _ => unfold wrap64; decide
  rw [e]
  refine ⟨h0, h1, fun j hj => ?_⟩
  have h3 := h2 ⟨j, hj⟩
  have h3 : hb (bits .or .i64 (s.val : Int) (2 ^ k)) (j : Int) = (hb (s.val : Int) (j : Int) || decide ((⟨j, hj⟩ : Fin 4) = ⟨k, hk⟩)) := h3
  rw [h3, Bool.or_eq_true, h.bit j hj, decide_eq_true_eq, Fin.mk.injEq]
  refine ⟨?_, fun ⟨a, b⟩ => ?_⟩
  · rintro (⟨a, b⟩ | rfl)
    · exact ⟨by omega, b⟩
    · exact ⟨by omega, hp⟩
  · by_cases e : j = k
    · exact .inr e
    · exact .inl ⟨by omega, b⟩
theorem Acc.bits {P : Nat → Prop} {k : Nat} {x : Int} (h : Acc P k x) (hP : ∀ j, P j → j < k) : Bits4 P x := ⟨h.lo, h.hi, fun j hj => by rw [h.bit j hj]; exact ⟨fun a => a.2, fun a => ⟨hP j a, a⟩⟩⟩
theorem Acc.none {P : Nat → Prop} {k : Nat} {x : Int} (h : Acc P k x) (hP : ∀ j, ¬ P j) : x = 0 := by
  have h0 := h.lo
  have h1 := h.hi
  have hb0 : ∀ j : Nat, j < 4 → hb x j = false := fun j hj => by rw [Bool.eq_false_iff]; intro e; exact hP j ((h.bit j hj).1 e).2
  obtain ⟨s, rfl⟩ : ∃ s : Fin 16, x = (s.val : Int) := ⟨⟨x.toNat, by omega⟩, by show x = ((x.toNat : Nat) : Int); omega⟩
  have key : ∀ s : Fin 16, (hb (s.val : Int) ((0 : Nat) : Int) = false ∧ hb (s.val : Int) ((1 : Nat) : Int) = false ∧ hb (s.val : Int) ((2 : Nat) : Int) = false ∧ hb (s.val : Int) ((3 : Nat) : Int) = false) → (s.val : Int) = 0 := by decide +kernel
  exact key s ⟨hb0 0 (by omega), hb0 1 (by omega), hb0 2 (by omega), hb0 3 (by omega)⟩
set_option maxRecDepth 100000 in
theorem fr_any (a b c : Int) (w : World) : Calls Try.prog 20 #[.agg #[.int .i64 a, .int .i64 b, .int .i64 c]] w fun e w' => e = .returned (.int .i64 a) ∧ Below w.heap.size w w' := by
  go_enter Try.func20, Try.ntmps20
  go_wp2_with fail
  go_ret
  exact ⟨rfl, (Below.refl _ _).alloc (Nat.le_refl _) _⟩
set_option maxRecDepth 100000 in
set_option maxHeartbeats 1600000 in
theorem ch_from (t : Ta) (p : Int) (w : World) (ht : t.ok w) :
    Calls Try.prog 19 #[t.val, .int .i64 p, .func (.func 20) #[] #[]] w fun e w' => ∃ x, e = .returned (.int .i64 x) ∧ Below w.heap.size w w' ∧ (¬ (Go.Proofs.Ytnoopihhfioanaa.TabD.right t ∧ 0 ≤ p ∧ p < t.n1) → x = 0) ∧ (Go.Proofs.Ytnoopihhfioanaa.TabD.right t ∧ 0 ≤ p ∧ p < t.n1 → Bits4 (From t p) x) := by
  obtain ⟨br, hbr⟩ := Go.Proofs.Ytnoopihhfioanaa.TabD.bool_of (Go.Proofs.Ytnoopihhfioanaa.TabD.right t)
  have HT := Lib.hid ht
  have HBR := Lib.hid hbr
  have hn3 := ht.C.le
  have hln : t.P.length = t.n1 := ht.P.1
  have hlc : t.C.length = t.n3 := ht.C.1
  have HLN := Lib.hid hln
  have HLC := Lib.hid hlc
  have HR := Lib.hid (fun w' (hb : Below w.heap.size w w') => Go.Proofs.Ytnoopihhfioanaa.TabD.right_any t w' (ht.below hb) br hbr)
  have HX := Lib.hid (Bx.new w t)
  obtain ⟨fr, A1, n1, c1, P, A2, n2, c2, W, A3, n3, c3, C, tr⟩ := t
  dsimp only at hn3
  clear ht hbr hln hlc
  show Calls _ _ #[.agg #[.int .i64 fr, .slice A1 n1 c1, .slice A2 n2 c2, .slice A3 n3 c3, .int .i64 tr], _, _] w _
  go_enter Try.func19, Try.ntmps19
  go_wp2_with fail
  refine (HR.out _ HX.out.bel).mono ?_
  rintro e w2 ⟨rfl, hb2⟩
  have HX2 := Lib.hid (HX.out.step hb2)
  clear hb2 HX
  cases br with
  | false =>
    have HF := Lib.hid (show ¬ Go.Proofs.Ytnoopihhfioanaa.TabD.right ⟨fr, A1, n1, c1, P, A2, n2, c2, W, A3, n3, c3, C, tr⟩ from fun h => by have := HBR.out.2 h; cases this)
    go_wp2_with fail
    go_ret
    exact ⟨0, rfl, HX2.out.bel, fun _ => rfl, fun h => absurd h.1 HF.out⟩
  | true =>
    have HRt := Lib.hid (HBR.out.1 rfl)
    have h34 : n3 ≤ 4 := by
      have h := HRt.out.2.2.2.2.1
      have := HLC.out
      dsimp only at this h
      omega
    obtain ⟨z0, z1, z2, z3, z4⟩ := HX2.out.cell
    dsimp only at z0 z1 z2 z3 z4
    go_wp2_with fail
    clear z0 z1 z2 z3 z4
    go_loopw [7, 16] (fun x i wr => ∃ (k : Nat) (v : Int), k ≤ n3 ∧ i = .int .i64 k ∧ x = .int .i64 v ∧ Hid (Acc (From ⟨fr, A1, n1, c1, P, A2, n2, c2, W, A3, n3, c3, C, tr⟩ p) k v) ∧ Hid (Bx w ⟨fr, A1, n1, c1, P, A2, n2, c2, W, A3, n3, c3, C, tr⟩ wr)) (fun _ i _ => n3 - (intOf i).toNat)
    case atStart => exact ⟨0, 0, Nat.zero_le _, rfl, rfl, Lib.hid (Acc.zero _), HX2⟩
    case round =>
      obtain ⟨k, v, hk, rfl, rfl, HU, HX1⟩ := hrel
      clear HX2
      by_cases hlt : k < n3
      · obtain ⟨r, b', o, hr, hok, hA, hb', q0, q1, q2⟩ := (HT.out.below HX1.out.bel).C.at_ hlt
        dsimp only at hA q0 q1 q2
        subst hA
        obtain ⟨ra, rb, rc⟩ := r
        dsimp only at q0 q1 q2
        have HR := Lib.hid (show C[k]? = some ⟨ra, rb, rc⟩ from hr)
        clear hr hok
        by_cases he : ra = p
        · have he' : (ra == p) = true := by simpa using he
          have HP := Lib.hid (show From ⟨fr, A1, n1, c1, P, A2, n2, c2, W, some ⟨b', o, none⟩, n3, c3, C, tr⟩ p k from ⟨_, HR.out, he⟩)
          clear he
          go_wp2_with (go_at_call 20; refine (fr_any _ _ _ _).mono ?_; rintro e w3 ⟨rfl, hb3⟩; have HX3 := Lib.hid ((HX1.out.alloc _).step hb3); clear hb3)
          go_roundw
          case rel => exact ⟨k + 1, _, by omega, by go_num, rfl, Lib.hid (HU.out.yes (by omega) HP.out), HX3⟩
          case measure => simp [intOf]; omega
        · have he' : (ra == p) = false := by simpa using he
          have HP := Lib.hid (show ¬ From ⟨fr, A1, n1, c1, P, A2, n2, c2, W, some ⟨b', o, none⟩, n3, c3, C, tr⟩ p k from fun ⟨r, h1, h2⟩ => by rw [show C[k]? = some r from h1] at HR; have h3 := HR.out; injection h3 with h3; subst h3; exact he h2)
          clear he
          go_wp2_with (go_at_call 20; refine (fr_any _ _ _ _).mono ?_; rintro e w3 ⟨rfl, hb3⟩; have HX3 := Lib.hid ((HX1.out.alloc _).step hb3); clear hb3)
          go_roundw
          case rel => exact ⟨k + 1, _, by omega, by go_num, rfl, Lib.hid (HU.out.no HP.out), HX3⟩
          case measure => simp [intOf]; omega
      · obtain rfl : k = n3 := by omega
        go_wp2_with fail
        go_ret
        refine ⟨v, rfl, HX1.out.bel, fun h => ?_, fun _ => HU.out.bits fun j ⟨r, h1, _⟩ => ?_⟩
        · refine HU.out.none fun j ⟨r, h1, h2⟩ => h ⟨HRt.out, ?_⟩
          have h3 := HRt.out.2.2.2.2.2 j r h1
          have h4 := HLN.out
          dsimp only at h4 h3
          have h5 := h3.1
          rw [h4] at h5
          show 0 ≤ p ∧ p < (n1 : Int)
          omega
        · have := (List.getElem?_eq_some_iff.1 (show C[j]? = some r from h1)).1
          have := HLC.out
          omega
set_option maxRecDepth 100000 in
theorem to_any (a b c : Int) (w : World) : Calls Try.prog 21 #[.agg #[.int .i64 a, .int .i64 b, .int .i64 c]] w fun e w' => e = .returned (.int .i64 b) ∧ Below w.heap.size w w' := by
  go_enter Try.func21, Try.ntmps21
  go_wp2_with fail
  go_ret
  exact ⟨rfl, (Below.refl _ _).alloc (Nat.le_refl _) _⟩
set_option maxRecDepth 100000 in
set_option maxHeartbeats 1600000 in
theorem ch_to (t : Ta) (p : Int) (w : World) (ht : t.ok w) :
    Calls Try.prog 19 #[t.val, .int .i64 p, .func (.func 21) #[] #[]] w fun e w' => ∃ x, e = .returned (.int .i64 x) ∧ Below w.heap.size w w' ∧ (¬ (Go.Proofs.Ytnoopihhfioanaa.TabD.right t ∧ 0 ≤ p ∧ p < t.n1) → x = 0) ∧ (Go.Proofs.Ytnoopihhfioanaa.TabD.right t ∧ 0 ≤ p ∧ p < t.n1 → Bits4 (To t p) x) := by
  obtain ⟨br, hbr⟩ := Go.Proofs.Ytnoopihhfioanaa.TabD.bool_of (Go.Proofs.Ytnoopihhfioanaa.TabD.right t)
  have HT := Lib.hid ht
  have HBR := Lib.hid hbr
  have hn3 := ht.C.le
  have hln : t.P.length = t.n1 := ht.P.1
  have hlc : t.C.length = t.n3 := ht.C.1
  have HLN := Lib.hid hln
  have HLC := Lib.hid hlc
  have HR := Lib.hid (fun w' (hb : Below w.heap.size w w') => Go.Proofs.Ytnoopihhfioanaa.TabD.right_any t w' (ht.below hb) br hbr)
  have HX := Lib.hid (Bx.new w t)
  obtain ⟨fr, A1, n1, c1, P, A2, n2, c2, W, A3, n3, c3, C, tr⟩ := t
  dsimp only at hn3
  clear ht hbr hln hlc
  show Calls _ _ #[.agg #[.int .i64 fr, .slice A1 n1 c1, .slice A2 n2 c2, .slice A3 n3 c3, .int .i64 tr], _, _] w _
  go_enter Try.func19, Try.ntmps19
  go_wp2_with fail
  refine (HR.out _ HX.out.bel).mono ?_
  rintro e w2 ⟨rfl, hb2⟩
  have HX2 := Lib.hid (HX.out.step hb2)
  clear hb2 HX
  cases br with
  | false =>
    have HF := Lib.hid (show ¬ Go.Proofs.Ytnoopihhfioanaa.TabD.right ⟨fr, A1, n1, c1, P, A2, n2, c2, W, A3, n3, c3, C, tr⟩ from fun h => by have := HBR.out.2 h; cases this)
    go_wp2_with fail
    go_ret
    exact ⟨0, rfl, HX2.out.bel, fun _ => rfl, fun h => absurd h.1 HF.out⟩
  | true =>
    have HRt := Lib.hid (HBR.out.1 rfl)
    have h34 : n3 ≤ 4 := by
      have h := HRt.out.2.2.2.2.1
      have := HLC.out
      dsimp only at this h
      omega
    obtain ⟨z0, z1, z2, z3, z4⟩ := HX2.out.cell
    dsimp only at z0 z1 z2 z3 z4
    go_wp2_with fail
    clear z0 z1 z2 z3 z4
    go_loopw [7, 16] (fun x i wr => ∃ (k : Nat) (v : Int), k ≤ n3 ∧ i = .int .i64 k ∧ x = .int .i64 v ∧ Hid (Acc (To ⟨fr, A1, n1, c1, P, A2, n2, c2, W, A3, n3, c3, C, tr⟩ p) k v) ∧ Hid (Bx w ⟨fr, A1, n1, c1, P, A2, n2, c2, W, A3, n3, c3, C, tr⟩ wr)) (fun _ i _ => n3 - (intOf i).toNat)
    case atStart => exact ⟨0, 0, Nat.zero_le _, rfl, rfl, Lib.hid (Acc.zero _), HX2⟩
    case round =>
      obtain ⟨k, v, hk, rfl, rfl, HU, HX1⟩ := hrel
      clear HX2
      by_cases hlt : k < n3
      · obtain ⟨r, b', o, hr, hok, hA, hb', q0, q1, q2⟩ := (HT.out.below HX1.out.bel).C.at_ hlt
        dsimp only at hA q0 q1 q2
        subst hA
        obtain ⟨ra, rb, rc⟩ := r
        dsimp only at q0 q1 q2
        have HR := Lib.hid (show C[k]? = some ⟨ra, rb, rc⟩ from hr)
        clear hr hok
        by_cases he : rb = p
        · have he' : (rb == p) = true := by simpa using he
          have HP := Lib.hid (show To ⟨fr, A1, n1, c1, P, A2, n2, c2, W, some ⟨b', o, none⟩, n3, c3, C, tr⟩ p k from ⟨_, HR.out, he⟩)
          clear he
          go_wp2_with (go_at_call 21; refine (to_any _ _ _ _).mono ?_; rintro e w3 ⟨rfl, hb3⟩; have HX3 := Lib.hid ((HX1.out.alloc _).step hb3); clear hb3)
          go_roundw
          case rel => exact ⟨k + 1, _, by omega, by go_num, rfl, Lib.hid (HU.out.yes (by omega) HP.out), HX3⟩
          case measure => simp [intOf]; omega
        · have he' : (rb == p) = false := by simpa using he
          have HP := Lib.hid (show ¬ To ⟨fr, A1, n1, c1, P, A2, n2, c2, W, some ⟨b', o, none⟩, n3, c3, C, tr⟩ p k from fun ⟨r, h1, h2⟩ => by rw [show C[k]? = some r from h1] at HR; have h3 := HR.out; injection h3 with h3; subst h3; exact he h2)
          clear he
          go_wp2_with (go_at_call 21; refine (to_any _ _ _ _).mono ?_; rintro e w3 ⟨rfl, hb3⟩; have HX3 := Lib.hid ((HX1.out.alloc _).step hb3); clear hb3)
          go_roundw
          case rel => exact ⟨k + 1, _, by omega, by go_num, rfl, Lib.hid (HU.out.no HP.out), HX3⟩
          case measure => simp [intOf]; omega
      · obtain rfl : k = n3 := by omega
        go_wp2_with fail
        go_ret
        refine ⟨v, rfl, HX1.out.bel, fun h => ?_, fun _ => HU.out.bits fun j ⟨r, h1, _⟩ => ?_⟩
        · refine HU.out.none fun j ⟨r, h1, h2⟩ => h ⟨HRt.out, ?_⟩
          have h3 := HRt.out.2.2.2.2.2 j r h1
          have h4 := HLN.out
          dsimp only at h4 h3
          have h5 := h3.2.1
          rw [h4] at h5
          show 0 ≤ p ∧ p < (n1 : Int)
          omega
        · have := (List.getElem?_eq_some_iff.1 (show C[j]? = some r from h1)).1
          have := HLC.out
          omega
end Go.Proofs.Ytnoopihhfioanaa.CpaN2
