/- A disk beside what came in: what each call does to it. Conditions: it is up, or as each law names. One sector of a plain disk written, and flushed: what becomes of it; a new disk; a failure of power. No conditions but those each law names; nothing of the program. Small functions of layer 1, each by what it hands back: the width of a number held between one and six, in the program and in the reference; two slices held against each other by the reference. Conditions: each slice reads as the list that is named. A number of one to six bytes is put behind what is there: the answer is new memory that reads as the old bytes and the number's. Conditions: the slice reads as the list that is named, and there is room for six bytes more. Plain facts on the sum CRC-32: one step, eight steps, a byte fed; what is linear, what is one-to-one, and that a byte is no fixed point of eight steps. No conditions but those each law names; nothing of the program. Records and stages in plain terms: their bytes, the sealed sector, what a sector tells, and that a sector of which a byte is turned tells nothing. No conditions but those each law names; nothing of the program. What a disk holds is bytes: a new disk, a write, a failure of power. No conditions but those each law names; nothing of the program. -/
import Derived.Test.YtdmfgffjplbloaaDskE
import Derived.Test.YtdmfgffjplbloaaJ01
namespace Go.Proofs.Ytdmfgffjplbloaa.DskF
open Go.RowKit Go.Proofs.Ytdmfgffjplbloaa.Kit Go.Proofs.Ytdmfgffjplbloaa.Byt Go.Proofs.Ytdmfgffjplbloaa.Mem Go.Proofs.Ytdmfgffjplbloaa.DskA Go.Proofs.Ytdmfgffjplbloaa.DskB Go.Proofs.Ytdmfgffjplbloaa.DskC Go.Proofs.Ytdmfgffjplbloaa.DskD Go.Proofs.Ytdmfgffjplbloaa.DskE

/-- A disk that is up, with no fuse. -/
theorem spend_free {s : St} (h1 : s.fuse < 0) (h2 : s.down = false) : spend s = (true, s) := by
  rw [spend, if_neg (by omega), h2, if_neg (by simp), if_neg (by omega)]
def wrote (s : St) (i : Nat) (bs : List Nat) : St := { s with L := s.L ++ [(i, bs)] }
theorem Below.drewN {B : Nat} {w w' : World} (h : Below B w w') (n : Nat) : Below B w (w'.drewN n) := ⟨h.os, h.tape, h.output, h.size, h.block⟩
/-- A disk that is up and has no fuse; its blocks are beyond B; what lay below B lies as it did. -/
structure Up (w0 w : World) (F : Nat → Prop) (g : Nat) (s : St) : Prop where
  dk : Dk w F g s
  low : ∀ k, F k → w0.heap.size ≤ k
  bel : Below w0.heap.size w0 w
theorem Up.step {w0 w w' : World} {F : Nat → Prop} {g : Nat} {s s' : St} {v : Value} {e : Ending} (h : Up w0 w F g s) (hg : Got F g w v s' e w') : e = .returned v ∧ ∃ F', Up w0 w' F' g s' ∧ Keep F w w' ∧ ∀ k, F' k → F k ∨ w.heap.size ≤ k := by
  obtain ⟨he, F', hD, hk, hf⟩ := hg
  have hs := h.bel.size
  refine ⟨he, F', ⟨hD, fun k hk => ?_, h.bel.trans (hk.below h.low hs)⟩, hk, hf⟩
  rcases hf k hk with h1 | h1
  · exact h.low k h1
  · omega
theorem Up.under {w0 w w' : World} {F : Nat → Prop} {g : Nat} {s : St} (h : Up w0 w F g s) (hb : Below w.heap.size w w') : Up w0 w' F g s :=
  ⟨h.dk.below hb, h.low, h.bel.trans (hb.mono h.bel.size)⟩

theorem Up.drew {w0 w : World} {F : Nat → Prop} {g : Nat} {s : St} (h : Up w0 w F g s) : Up w0 w.drew F g s :=
  ⟨h.dk.keep ((Keep.refl (fun _ => False) w).drew) fun _ _ h => h, h.low, h.bel.drew⟩
theorem Up.drewN {w0 w : World} {F : Nat → Prop} {g : Nat} {s : St} (h : Up w0 w F g s) (n : Nat) : Up w0 (w.drewN n) F g s :=
  ⟨h.dk.keep ((Keep.refl (fun _ => False) w).drewN n) fun _ _ h => h, h.low, Below.drewN h.bel n⟩
/-- What a call on such a disk hands back and leaves. -/
def Went (w0 : World) (F : Nat → Prop) (g : Nat) (w : World) (v : Value) (s' : St) (e : Ending) (w' : World) : Prop :=
  e = .returned v ∧ ∃ F', Up w0 w' F' g s' ∧ Keep F w w' ∧ ∀ k, F' k → F k ∨ w.heap.size ≤ k
section
variable {w0 w : World} {F : Nat → Prop} {g : Nat} {s : St}
theorem Up.write (h : Up w0 w F g s) (h1 : s.fuse < 0) (h2 : s.down = false) {i : Nat} (hi : i < s.S.length) {A : Option Addr} {c : Nat} {bs : List Nat} (hR : Rd w A 64 c (u8n bs)) (hA : ∀ b o, A = some ⟨b, o, none⟩ → ¬ F b) (hL : s.L.length ≤ 1000000000) :
    Calls Try.prog 16 #[.pointer (some ⟨g, 0, none⟩), .int .i64 (i : Int), .slice A 64 c] w (Went w0 F g w (.int .i64 0) (wrote s i bs)) := by
  have sp := spend_free h1 h2
  have hw := write_ok F g s i A c bs w h.dk hi hR hA (by rw [sp]) hL
  rw [sp] at hw
  exact hw.mono fun e w' hg => h.step hg
theorem Up.flush (h : Up w0 w F g s) (h1 : s.fuse < 0) (h2 : s.down = false) (hL : s.L.length ≤ 1000000000) :
    Calls Try.prog 41 #[.pointer (some ⟨g, 0, none⟩)] w (Went w0 F g w (.int .i64 0) (lay (fun _ => true) s)) := by
  have sp := spend_free h1 h2
  have hw := flush_ok F g s w h.dk (by rw [sp]) hL
  rw [sp] at hw
  exact hw.mono fun e w' hg => h.step hg
theorem Up.power (h : Up w0 w F g s) (K : Nat) (hL : s.L.length ≤ 1000000000) (hK : K < 18446744073709551616) :
    Calls Try.prog 13 #[.pointer (some ⟨g, 0, none⟩), .int .u64 (K : Int)] w (Went w0 F g w (.tuple #[]) (power K s)) :=
  (power_any F g s K w h.dk hL hK).mono fun _e _w' hg => h.step hg
theorem Up.fuse (h : Up w0 w F g s) (i : Int) (lo : -9223372036854775808 ≤ i) (hi : i ≤ 9223372036854775807) :
    Calls Try.prog 12 #[.pointer (some ⟨g, 0, none⟩), .int .i64 i] w (Went w0 F g w (.tuple #[]) { s with fuse := i }) :=
  (fuse_any F g s i w h.dk lo hi).mono fun _e _w' hg => h.step hg
/-- What a read leaves: the disk as it was, and new bytes. -/
def Saw (w0 : World) (F : Nat → Prop) (g : Nat) (s : St) (w : World) (xs : List Nat) (e : Ending) (w' : World) : Prop :=
  ∃ A, e = .returned (.tuple #[.slice A 64 64, .int .i64 0]) ∧ Rd w' A 64 64 (u8n xs) ∧ (∀ b o, A = some ⟨b, o, none⟩ → ¬ F b ∧ w.heap.size ≤ b ∧ b < w'.heap.size) ∧ Up w0 w' F g s ∧ Below w.heap.size w w'
theorem Up.read (h : Up w0 w F g s) (h2 : s.down = false) {i : Nat} (hi : i < s.S.length) (hL : s.L.length ≤ 1000000000) :
    Calls Try.prog 19 #[.pointer (some ⟨g, 0, none⟩), .int .i64 (i : Int)] w (Saw w0 F g s w (now s i)) :=
  (read_ok F g s i w h.dk hi h2 hL).mono fun e w' ⟨A, he, ho, hb⟩ => ⟨A, he, Rd.own ho, fun b o hA => by
    obtain ⟨g', hA', h1, h3⟩ := own_some ho (by omega)
    rw [hA] at hA'
    injection hA' with hA'
    injection hA' with hb' _
    exact ⟨fun hF => by have := h.dk.lt b hF; omega, by omega, by omega⟩, h.under hb, hb⟩
end
theorem fresh64 {w w' : World} {xs : List Nat} {e : Ending} (h : Fresh w xs e w') (hx : xs.length = 64) : ∃ A c, e = .returned (.slice A 64 c) ∧ Rd w' A 64 c (u8n xs) ∧ (∀ b o, A = some ⟨b, o, none⟩ → w.heap.size ≤ b ∧ b < w'.heap.size) ∧ Below w.heap.size w w' := by
  obtain ⟨A, n, c, hn, he, ho, hb⟩ := h
  obtain rfl : n = 64 := hn.out.trans hx
  refine ⟨A, c, he, Rd.own ho, fun b o hA => ?_, hb⟩
  obtain ⟨g', hA', h1, h2⟩ := own_some ho (by omega)
  rw [hA] at hA'
  injection hA' with hA'
  injection hA' with hb' _
  omega

theorem blk_rd {w : World} {g : Nat} {t : TypeId} {xs : List Nat} (h : Blk w g t (u8n xs)) {n : Nat} (hn : xs.length = n) (hm : n ≤ 9223372036854775807) : Rd w (some ⟨g, 0, none⟩) n n (u8n xs) :=
  ⟨by rw [u8n_len, hn], Nat.le_refl _, hm, fun _ => ⟨g, 0, rfl, h.lt, fun j u hu => by rw [Nat.zero_add]; exact h.cell hu⟩⟩
theorem mk64 (w : World) : (Instr.makeSlice 42 (.int .i64 64) (.int .i64 64)).run Try.prog w = .ok (.slice (some ⟨w.heap.size, 0, none⟩) 64 64) (w.alloc (.cells (u8n (zs 64)).toArray 5)) := by
  obtain ⟨i0, hi0, hz0, hz1, hz2⟩ := info_parts info8
  have h := run_make (P := Try.prog) w 42 5 i0 _ Try.underlying42 hi0 hz0 .i64 .i64 64 64 (by omega) (by omega) (by rw [hz2]; omega) (by omega)
  have hm : madeCells (Value.int .u8 0).cells ((64 : Int).toNat * i0.size) = (u8n (zs 64)).toArray := by
    rw [hz1]
    apply Array.ext'
    exact toList_madeCells_one (.int .u8 0) 64 |>.trans (by simp [u8n, zs])
  rw [hm] at h
  exact h
end Go.Proofs.Ytdmfgffjplbloaa.DskF
namespace Go.Proofs.Ytdmfgffjplbloaa.StgM
open Go.RowKit Go.Proofs.Ytdmfgffjplbloaa.Kit Go.Proofs.Ytdmfgffjplbloaa.Byt Go.Proofs.Ytdmfgffjplbloaa.Mem Go.Proofs.Ytdmfgffjplbloaa.DskA Go.Proofs.Ytdmfgffjplbloaa.DskB Go.Proofs.Ytdmfgffjplbloaa.DskD Go.Proofs.Ytdmfgffjplbloaa.DskE Go.Proofs.Ytdmfgffjplbloaa.DskF

/-! ### one sector written, and flushed -/
def put1 (s : St) (i : Nat) (bs : List Nat) : St × Int :=
  if (spend s).1 = false then ((spend s).2, 8)
  else if (spend (wrote (spend s).2 i bs)).1 = false then ((spend (wrote (spend s).2 i bs)).2, 8)
  else (lay (fun _ => true) (spend (wrote (spend s).2 i bs)).2, 0)
/-- A disk that is up, of which nothing waits. -/
structure Up0 (s : St) : Prop where
  up : s.down = false
  none_ : s.L = []
  ok : s.ok
theorem spend_S (s : St) : (spend s).2.S = s.S ∧ (spend s).2.L = s.L := by
  unfold spend
  split
  · exact ⟨rfl, rfl⟩
  · split
    · exact ⟨rfl, rfl⟩
    · dsimp only
      split <;> exact ⟨rfl, rfl⟩
theorem spend_no {s : St} (h : (spend s).1 = false) : (spend s).2.down = true := by
  unfold spend at h ⊢
  split at h
  · rename_i h0; rw [if_pos h0]
  · rename_i h0
    rw [if_neg h0]
    split at h
    · rename_i h1; rw [if_pos h1]; exact h1
    · cases h
theorem spend_yes {s : St} (h : (spend s).1 = true) : (spend s).2.down = false := by
  unfold spend at h ⊢
  split at h
  · cases h
  · rename_i h0
    rw [if_neg h0]
    split at h
    · cases h
    · rename_i h1
      rw [if_neg h1]
      dsimp only
      have : s.down = false := by simpa using h1
      split <;> exact this
theorem spend_ok {s : St} (h : s.ok) : (spend s).2.ok := by
  have h1 := h.lo
  have h2 := h.hi
  unfold spend
  split
  · exact ⟨h.pos, h.most, h.sec, h.wait, h1, h2⟩
  · split
    · exact h
    · dsimp only
      split
      · rename_i h3
        exact ⟨h.pos, h.most, h.sec, h.wait, by show -9223372036854775808 ≤ s.fuse - 1; omega, by show s.fuse - 1 ≤ 9223372036854775807; omega⟩
      · exact h
theorem spend_down {s : St} (h : s.down = true) : spend s = (false, s) := by
  have e : { s with down := true } = s := by rw [← h]
  unfold spend
  rw [e, if_pos h]
  split <;> rfl
theorem put1_down {s : St} (h : s.down = true) (i : Nat) (bs : List Nat) : put1 s i bs = (s, 8) := by
  unfold put1
  rw [spend_down h]
  rfl
theorem power_S (K : Nat) (s : St) : (power K s).S = laidTo (kb K) s.S s.L s.L.length := rfl
theorem wrote_ok {s : St} (h : s.ok) {i : Nat} {bs : List Nat} (hi : i < s.S.length) (hb : bs.length = 64) : (wrote s i bs).ok :=
  ⟨h.pos, h.most, h.sec, fun p hp => by
    rcases List.mem_append.1 (show p ∈ s.L ++ [(i, bs)] from hp) with h1 | h1
    · exact h.wait p h1
    · rw [List.mem_singleton.1 h1]; exact ⟨hi, hb⟩, h.lo, h.hi⟩
theorem lay_ok {s : St} (h : s.ok) (kp : Nat → Bool) : (lay kp s).ok :=
  ⟨by show 1 ≤ (laidTo kp s.S s.L s.L.length).length; rw [laidTo_len]; exact h.pos, by show (laidTo kp s.S s.L s.L.length).length ≤ 128; rw [laidTo_len]; exact h.most,
   laidTo_sec h.sec (fun p hp => (h.wait p hp).2) _ (Nat.le_refl _), (fun p hp => by cases hp), h.lo, h.hi⟩
theorem power_ok {s : St} (h : s.ok) (K : Nat) : (power K s).ok := ⟨(lay_ok h _).pos, (lay_ok h _).most, (lay_ok h _).sec, (lay_ok h _).wait, by show -9223372036854775808 ≤ (-1 : Int); omega, by show (-1 : Int) ≤ 9223372036854775807; omega⟩
/-- What becomes of it: done, or the disk is down, and the sector is, whatever it keeps, as it was, or as it was to be. -/
theorem put1_cases {s : St} (h : Up0 s) {i : Nat} {bs : List Nat} (hi : i < s.S.length) (hb : bs.length = 64) :
    ((put1 s i bs).2 = 0 ∧ Up0 (put1 s i bs).1 ∧ (put1 s i bs).1.S = s.S.set i bs) ∨
    ((put1 s i bs).2 = 8 ∧ (put1 s i bs).1.down = true ∧ (put1 s i bs).1.ok ∧ (put1 s i bs).1.L.length ≤ 1 ∧ (∀ K, (power K (put1 s i bs).1).S = s.S ∨ (power K (put1 s i bs).1).S = s.S.set i bs)) := by
  unfold put1
  have hok := spend_ok h.ok
  have hS := spend_S s
  by_cases h1 : (spend s).1 = false
  · rw [if_pos h1]
    refine .inr ⟨rfl, spend_no h1, hok, by rw [hS.2, h.none_]; exact Nat.zero_le 1, fun K => .inl ?_⟩
    rw [power_S, hS.1, hS.2, h.none_]
    rfl
  · rw [if_neg h1]
    have hw := wrote_ok hok (i := i) (bs := bs) (by rw [hS.1]; exact hi) hb
    have hwk := spend_ok hw
    have hS2 := spend_S (wrote (spend s).2 i bs)
    have hL : (spend (wrote (spend s).2 i bs)).2.L = [(i, bs)] := by rw [hS2.2]; show (spend s).2.L ++ [(i, bs)] = _; rw [hS.2, h.none_]; rfl
    have hSS : (spend (wrote (spend s).2 i bs)).2.S = s.S := by rw [hS2.1]; exact hS.1
    by_cases h2 : (spend (wrote (spend s).2 i bs)).1 = false
    · rw [if_pos h2]
      refine .inr ⟨rfl, spend_no h2, hwk, by rw [hL]; exact Nat.le_refl 1, fun K => ?_⟩
      rw [power_S, hL, hSS]
      show (if kb K 0 then _ else _) = _ ∨ (if kb K 0 then _ else _) = _
      cases kb K 0
      · exact .inl rfl
      · exact .inr rfl
    · rw [if_neg h2]
      refine .inl ⟨rfl, ⟨spend_yes (by simpa using h2), rfl, lay_ok hwk _⟩, ?_⟩
      show laidTo (fun _ => true) (spend (wrote (spend s).2 i bs)).2.S (spend (wrote (spend s).2 i bs)).2.L (spend (wrote (spend s).2 i bs)).2.L.length = _
      rw [hL, hSS]
      rfl
theorem put1_len (s : St) (i : Nat) (bs : List Nat) : (put1 s i bs).1.S.length = s.S.length := by
  unfold put1
  split
  · rw [(spend_S s).1]
  · split
    · rw [(spend_S _).1]
      show (spend s).2.S.length = _
      rw [(spend_S s).1]
    · show (laidTo _ _ _ _).length = _
      rw [laidTo_len, (spend_S _).1]
      show (spend s).2.S.length = _
      rw [(spend_S s).1]
theorem now_S {s : St} (h : s.L = []) (i : Nat) : now s i = s.S.getD i [] := by unfold now; rw [h]; rfl
end Go.Proofs.Ytdmfgffjplbloaa.StgM
namespace Go.Proofs.Ytdmfgffjplbloaa.StgP
open Go.RowKit Go.Proofs.Ytdmfgffjplbloaa.Kit Go.Proofs.Ytdmfgffjplbloaa.Byt Go.Proofs.Ytdmfgffjplbloaa.Mem Go.Proofs.Ytdmfgffjplbloaa.DskA Go.Proofs.Ytdmfgffjplbloaa.DskB Go.Proofs.Ytdmfgffjplbloaa.DskD Go.Proofs.Ytdmfgffjplbloaa.DskE Go.Proofs.Ytdmfgffjplbloaa.DskF Go.Proofs.Ytdmfgffjplbloaa.StgM
theorem getD_set {S : List (List Nat)} {i j : Nat} (bs : List Nat) (hi : i < S.length) : (S.set i bs).getD j [] = if i = j then bs else S.getD j [] := by
  rw [List.getD_eq_getElem?_getD, List.getElem?_set]
  by_cases e : i = j
  · subst e; rw [if_pos rfl, if_pos rfl, if_pos hi]; rfl
  · rw [if_neg e, if_neg e, ← List.getD_eq_getElem?_getD]
theorem power_len (K : Nat) (s : St) : (power K s).S.length = s.S.length := laidTo_len _ _ _ _
theorem len_dn {s s' : St} {i m : Nat} {bs : List Nat} (h : m ≤ s.S.length) (hp : ∀ K, (power K s').S = s.S ∨ (power K s').S = s.S.set i bs) : m ≤ s'.S.length := by
  have hl := power_len 0 s'
  rcases hp 0 with e | e
  · rw [e] at hl; omega
  · rw [e, List.length_set] at hl; omega
end Go.Proofs.Ytdmfgffjplbloaa.StgP
namespace Go.Proofs.Ytdmfgffjplbloaa.StgQ
open Go.RowKit Go.Proofs.Ytdmfgffjplbloaa.Kit Go.Proofs.Ytdmfgffjplbloaa.Byt Go.Proofs.Ytdmfgffjplbloaa.Mem Go.Proofs.Ytdmfgffjplbloaa.DskA Go.Proofs.Ytdmfgffjplbloaa.DskB Go.Proofs.Ytdmfgffjplbloaa.DskD Go.Proofs.Ytdmfgffjplbloaa.DskE Go.Proofs.Ytdmfgffjplbloaa.DskF Go.Proofs.Ytdmfgffjplbloaa.StgM Go.Proofs.Ytdmfgffjplbloaa.StgP
theorem power_up0 {s : St} (h : s.ok) (K : Nat) : Up0 (power K s) := ⟨rfl, rfl, power_ok h K⟩
end Go.Proofs.Ytdmfgffjplbloaa.StgQ
namespace Go.Proofs.Ytdmfgffjplbloaa.StgJ
open Go.RowKit Go.Proofs.Ytdmfgffjplbloaa.Kit Go.Proofs.Ytdmfgffjplbloaa.Byt Go.Proofs.Ytdmfgffjplbloaa.Mem Go.Proofs.Ytdmfgffjplbloaa.DskA Go.Proofs.Ytdmfgffjplbloaa.DskB Go.Proofs.Ytdmfgffjplbloaa.DskD Go.Proofs.Ytdmfgffjplbloaa.DskE Go.Proofs.Ytdmfgffjplbloaa.DskF Go.Proofs.Ytdmfgffjplbloaa.StgM Go.Proofs.Ytdmfgffjplbloaa.StgP
def Free (s : St) : Prop := s.fuse < 0 ∧ s.down = false
theorem put1_free {s : St} (h : Free s) (i : Nat) (bs : List Nat) : (put1 s i bs).2 = 0 ∧ Free (put1 s i bs).1 := by
  have e1 := spend_free h.1 h.2
  have e2 : spend (wrote s i bs) = (true, wrote s i bs) := spend_free h.1 h.2
  unfold put1
  rw [e1]
  dsimp only
  rw [if_neg (by simp), e2]
  dsimp only
  rw [if_neg (by simp)]
  exact ⟨rfl, h⟩
theorem new_getD (n : Int) (i : Nat) (h : i < cnt n) : (newSt n).S.getD i [] = zs 64 := by
  show (List.replicate (cnt n) (zs 64)).getD i [] = _
  rw [List.getD_eq_getElem?_getD, List.getElem?_replicate, if_pos h]
  rfl
theorem new_ok (n : Int) : (newSt n).ok := by
  have h1 := DskB.cnt_pos n
  have h2 := DskB.cnt_le n
  refine ⟨by show 1 ≤ (List.replicate (cnt n) (zs 64)).length; rw [List.length_replicate]; exact h1, by show (List.replicate (cnt n) (zs 64)).length ≤ 128; rw [List.length_replicate]; exact h2, fun x hx => ?_, fun p hp => (by cases hp), by show -9223372036854775808 ≤ (-1 : Int); omega, by show (-1 : Int) ≤ 9223372036854775807; omega⟩
  rw [List.eq_of_mem_replicate hx]
  exact DskB.zs_len 64
theorem new_len (n : Int) : (newSt n).S.length = cnt n := List.length_replicate
end Go.Proofs.Ytdmfgffjplbloaa.StgJ
namespace Go.Proofs.Ytdmfgffjplbloaa.NumA
open Go.RowKit Go.Proofs.Ytdmfgffjplbloaa.Kit

/-- A number's width, held between one and six. -/
def wd (w : Int) : Nat := (min (max w 1) 6).toNat
theorem wd_pos (w : Int) : 1 ≤ wd w := by unfold wd; omega
theorem wd_le (w : Int) : wd w ≤ 6 := by unfold wd; omega

theorem width_any (x : Int) (w : World) : Calls Try.prog 63 #[.int .i64 x] w fun e w' => e = .returned (.int .i64 (wd x : Nat)) ∧ w = w' := by
  go_enter Try.func63, Try.ntmps63
  go_wp2
  all_goals (go_ret; exact ⟨ret_int (by unfold wd; omega), rfl⟩)

theorem Width_any (x : Int) (w : World) : Calls Try.prog 49 #[.int .i64 x] w fun e w' => e = .returned (.int .i64 (wd x : Nat)) ∧ w = w' := by
  go_enter Try.func49, Try.ntmps49
  go_wp2
  all_goals (go_ret; exact ⟨ret_int (by unfold wd; omega), rfl⟩)

abbrev u8s (xs : List Int) : List Value := xs.map (Value.int .u8)
theorem u8s_one (xs : List Int) : ∀ u ∈ u8s xs, u.oneCell' = true := ints_oneCell _ _

theorem u8s_len (xs : List Int) : (u8s xs).length = xs.length := List.length_map ..
theorem Rd.bytes {w : World} {A : Option Addr} {n c : Nat} {xs : List Int} (h : Rd w A n c (u8s xs)) : xs.length = n := by have := h.len; rwa [u8s_len] at this
theorem Rd.byte {w : World} {A : Option Addr} {n c : Nat} {xs : List Int} (h : Rd w A n c (u8s xs)) {k : Nat} (hk : k < xs.length) : ∃ b o, A = some ⟨b, o, none⟩ ∧ w.cell? ⟨b, o + k, none⟩ = some (.int .u8 xs[k]) := by
  obtain ⟨b, o, hA, hc⟩ := Rd.at_ h (k := k) (by have := Rd.bytes h; omega)
  exact ⟨b, o, hA, by simpa using hc⟩

set_option maxRecDepth 100000 in
set_option maxHeartbeats 400000 in
theorem same_any (A B : Option Addr) (n m c d : Nat) (xs ys : List Int) (w : World) (hx : Rd w A n c (u8s xs)) (hy : Rd w B m d (u8s ys)) :
    Calls Try.prog 20 #[.slice A n c, .slice B m d] w fun e w' => e = .returned (.bool (decide (xs = ys))) ∧ ∃ n, w' = w.drewN n := by
  obtain rfl := Rd.bytes hx
  obtain rfl := Rd.bytes hy
  have lx : xs.length ≤ 9223372036854775807 := by have := hx.le; have := hx.cap; omega
  have ly : ys.length ≤ 9223372036854775807 := by have := hy.le; have := hy.cap; omega
  by_cases hl : xs.length = ys.length
  · go_enter Try.func20, Try.ntmps20
    go_wp2
    go_loopw [5] (fun i wr => ∃ k : Nat, k ≤ xs.length ∧ i = .int .i64 k ∧ (∃ n, wr = w.drewN n) ∧ xs.take k = ys.take k) (fun i _ => xs.length - (intOf i).toNat)
    case atStart => exact ⟨0, Nat.zero_le _, rfl, ⟨0, rfl⟩, rfl⟩
    case round =>
      obtain ⟨k, hk, rfl, ⟨n, rfl⟩, he⟩ := hrel
      by_cases hlt : k < xs.length
      · obtain ⟨bx, ox, rfl, gx⟩ := Rd.byte hx hlt
        obtain ⟨by', oy, rfl, gy⟩ := Rd.byte hy (k := k) (by omega)
        have hlt' : k < ys.length := by omega
        go_wp2_with fail
        go_quiet (fail)
        go_wp2
        · have h : (xs[k] != ys[k]) = true := by assumption
          go_ret
          refine ⟨?_, _, World.drewN_drewN _ _ _⟩
          have hne : ¬ xs = ys := by
            intro hh; subst hh; simp at h
          simp [hne]
        · have h : (xs[k] != ys[k]) = false := by assumption
          go_roundw
          case rel =>
            refine ⟨k + 1, by omega, by go_num, ⟨_, rfl⟩, ?_⟩
            have h' : xs[k] = ys[k] := by simpa using h
            rw [List.take_succ_eq_append_getElem hlt, List.take_succ_eq_append_getElem hlt', he, h']
          case measure => simp [intOf]; omega
      · go_wp2
        go_ret
        refine ⟨?_, n, rfl⟩
        have hxy : xs = ys := by
          rw [List.take_of_length_le (by omega), List.take_of_length_le (by omega)] at he
          exact he
        simp [hxy]
  · have hne : ((xs.length : Int) != (ys.length : Int)) = true := by simp; omega
    go_enter Try.func20, Try.ntmps20
    go_wp2
    go_ret
    have : ¬ xs = ys := fun h => hl (by rw [h])
    exact ⟨by simp [this], 0, rfl⟩

theorem same_yes {A B : Option Addr} {n m c d : Nat} {xs : List Int} {w : World} (hx : Rd w A n c (u8s xs)) (hy : Rd w B m d (u8s xs)) :
    Calls Try.prog 20 #[.slice A n c, .slice B m d] w fun e w' => e = .returned (.bool true) ∧ ∃ n, w' = w.drewN n :=
  (same_any A B n m c d xs xs w hx hy).mono fun e w' h => ⟨by rw [h.1]; simp, h.2⟩

theorem info8 : (Try.prog.info? 5).map (fun i => (i.zero, i.size, i.bytes)) = some (some (.int .u8 0), 1, 1) := by kernel_rfl
theorem size8 : (Try.prog.info? 5).map (·.size) = some 1 := by kernel_rfl

/-- A block of bytes that is known whole. -/
def Blk8 (w : World) (g : Nat) (cs : List Int) : Prop := w.heap[g]? = some (.cells (u8s cs).toArray 5 (0, 0))
section
variable {w w' : World} {g : Nat} {cs : List Int}
theorem Blk8.cell (h : Blk8 w g cs) {i : Nat} (hi : i < cs.length) : w.cell? ⟨g, i, none⟩ = some (.int .u8 cs[i]) := by
  rw [cell_of_row w g i _ _ _ h]
  simp [u8s, hi]
theorem Blk8.frozen (h : Blk8 w g cs) (i : Nat) : w.frozen? ⟨g, i, none⟩ = false := frozen_of_row w g i _ _ h
theorem Blk8.set (h : Blk8 w g cs) (i : Nat) (b : Int) : Blk8 (w.setCell ⟨g, i, none⟩ (.int .u8 b)) g (cs.set i b) := by
  unfold Blk8
  rw [heap_setCell_same w g i _ _ _ h]
  simp [u8s, List.map_set]
theorem Blk8.own (h : Blk8 w g cs) {base : Nat} (hb : base ≤ g) (hm : cs.length ≤ 9223372036854775807) {k : Nat} (hk : cs.length = k) : w.ownsRow base 5 1 (.slice (some ⟨g, 0, none⟩) k k) k (u8s cs) := by
  subst hk
  have h' := own_of_block (base := base) (n := cs.length) (w := w) (g := g) (cur := u8s cs) h hb (by simp) (by simpa using hm)
  rw [u8s_len, List.take_of_length_le (by simp)] at h'
  exact h'
theorem Blk8.lt (h : Blk8 w g cs) : g < w.heap.size := lt_of_block h
end

/-- What comes back is new memory that reads as these bytes; all that was there is as it was. -/
def Fresh (w : World) (xs : List Int) (e : Ending) (w' : World) : Prop :=
  ∃ A n c, Hid (n = xs.length) ∧ e = .returned (.slice A n c) ∧ w'.ownsRow w.heap.size 5 1 (.slice A n c) n (u8s xs) ∧ Below w.heap.size w w'

theorem Fresh.of {w w' : World} {xs : List Int} {A : Option Addr} {n c : Nat} (h : w'.ownsRow w.heap.size 5 1 (.slice A n c) n (u8s xs)) (hb : Below w.heap.size w w') : Fresh w xs (.returned (.slice A n c)) w' := by
  have hn := h.1
  exact ⟨A, n, c, (show _ = _ by simpa using hn.symm), rfl, h, hb⟩

end Go.Proofs.Ytdmfgffjplbloaa.NumA
namespace Go.Proofs.Ytdmfgffjplbloaa.NumB
open Go.RowKit Go.Proofs.Ytdmfgffjplbloaa.Kit Go.Proofs.Ytdmfgffjplbloaa.NumA

/-- A number held within so many bytes. -/
def cl (k : Nat) (n : Int) : Nat := min n.toNat (2 ^ (8 * k) - 1)
/-- The bytes of a number, the highest first. -/
def be (k m : Nat) : List Int := (List.range k).map fun i => ((m / 2 ^ (8 * (k - 1 - i)) % 256 : Nat) : Int)
theorem be_len (k m : Nat) : (be k m).length = k := by simp [be]

theorem pow_le {k : Nat} (h : k ≤ 6) : 2 ^ (8 * k) ≤ 281474976710656 := by
  have : 2 ^ (8 * k) ≤ 2 ^ 48 := Nat.pow_le_pow_right (by omega) (by omega)
  simpa using this
theorem pow_pos' (k : Nat) : 1 ≤ 2 ^ (8 * k) := Nat.one_le_two_pow

def putb (n x : Int) : List Int := be (wd x) (cl (wd x) n)
theorem putb_len (n x : Int) : (putb n x).length = wd x := be_len _ _
theorem be_take {k m j : Nat} (h : j < k) : (be k m).take (j + 1) = (be k m).take j ++ [(m : Int) / 2 ^ (8 * (k - 1 - j)) % 256] := by
  have hl : j < (be k m).length := by rw [be_len]; exact h
  rw [List.take_succ_eq_append_getElem hl]
  congr 2
  simp [be]
theorem u8s_app (xs ys : List Int) (b : Int) : u8s (xs ++ (ys ++ [b])) = u8s (xs ++ ys) ++ [Value.int .u8 b] := by simp [u8s]
theorem ipow (k : Nat) : ((2 ^ k : Nat) : Int) = (2 : Int) ^ k := by rw [Int.natCast_pow]; rfl

theorem cl_top {k : Nat} {n : Int} (h : (2 : Int) ^ (8 * k) - 1 < if n < 0 then 0 else n) : (2 : Int) ^ (8 * k) - 1 = (cl k n : Nat) := by
  have p := pow_pos' k
  unfold cl
  rw [← ipow] at h ⊢
  split at h <;> omega
theorem cl_neg {k : Nat} {n : Int} (h : n < 0) : 0 = ((cl k n : Nat) : Int) := by unfold cl; omega
theorem cl_mid {k : Nat} {n : Int} (h : (if n < 0 then 0 else n) ≤ (2 : Int) ^ (8 * k) - 1) (h0 : 0 ≤ n) : n = (cl k n : Nat) := by
  have p := pow_pos' k
  unfold cl
  rw [← ipow] at h
  split at h <;> omega
theorem int_eq {k : IntKind} {a b : Int} (h : a = b) : Value.int k a = Value.int k b := by rw [h]

set_option maxRecDepth 100000 in
set_option maxHeartbeats 800000 in
theorem put_any (A : Option Addr) (m c : Nat) (xs : List Int) (n x : Int) (w : World) (hx : Rd w A m c (u8s xs)) (hl : m ≤ 140737488351232) :
    Calls Try.prog 57 #[.slice A m c, .int .i64 n, .int .i64 x] w fun e w' => Fresh w (xs ++ putb n x) e w' := by
  obtain rfl := Rd.bytes hx
  obtain ⟨i0, hi0, hz0, hz1, hz2⟩ := info_parts info8
  have w1 := wd_pos x
  have w2 := wd_le x
  have p1 : (2 : Int) ^ (8 * wd x) ≤ 281474976710656 := by have := pow_le w2; rw [← ipow]; omega
  have p2 : 1 ≤ (2 : Int) ^ (8 * wd x) := by have := pow_pos' (wd x); rw [← ipow]; omega
  go_enter Try.func57, Try.ntmps57
  go_upto_region 2 with (go_at_call 63; refine (width_any _ _).mono ?_; rintro e w' ⟨rfl, rfl⟩)
  go_cut [1] (fun v wx => v = .int .i64 (cl (wd x) n : Nat) ∧ w = wx)
  case first =>
    go_wp2
    all_goals (go_meet; case rel => exact ⟨int_eq (by first | exact cl_top ‹_› | exact cl_neg ‹_› | exact cl_mid ‹_› ‹_›), rfl⟩)
  case rest =>
    obtain ⟨rfl, rfl⟩ := hcut
    go_wp2_with (first
     | (at_make; refine wpList_make_room _ rfl _ _ _ rfl 5 i0 _ 1 Try.underlying42 hi0 hz0 hz1 hz2 rfl _ _ _ _ xs.length (xs.length + wd x) rfl rfl (by omega) (by omega) (by omega) (by omega) (by omega) ?_; intro w1' H1 hb1 hs1)
     | (with_reducible refine wpList_copy_splice rfl (.tmp 25) (.tmp 26) _ _ rfl 5 Try.underlying42 size8 _ _ _ _ _ _ rfl rfl w.heap.size 0 (List.replicate (xs.length + wd x) (Value.int .u8 0)) 5 H1.out (u8s xs) (by simp) (fun h => ⟨rfl, Rd.src hx hb1 h⟩) (by simp) (u8s_one _) w.heap.size w hb1 (Nat.le_refl _) ?_; intro w2' H2 hb2))
    have hown0 : w2'.ownsRow w.heap.size 5 1 (.slice (some ⟨w.heap.size, 0, none⟩) xs.length (xs.length + wd x)) xs.length (u8s xs) := by
      have h := own_of_block (base := w.heap.size) (n := xs.length) H2.out (Nat.le_refl _) (by rw [length_splice _ _ _ (by simp)]; simp) (by rw [length_splice _ _ _ (by simp)]; simp; omega)
      rw [length_splice _ _ _ (by simp), List.length_replicate] at h
      have e : (splice (List.replicate (xs.length + wd x) (Value.int .u8 0)) 0 (u8s xs)).take xs.length = u8s xs := by
        simp [splice]
      rw [e] at h
      exact h
    go_loopw [7, 29] (fun v i wr => ∃ k : Nat, k ≤ wd x ∧ i = .int .i64 k ∧ v = .slice (some ⟨w.heap.size, 0, none⟩) (xs.length + k) (xs.length + wd x) ∧
        wr.ownsRow w.heap.size 5 1 (.slice (some ⟨w.heap.size, 0, none⟩) (xs.length + k) (xs.length + wd x)) (xs.length + k) (u8s (xs ++ (be (wd x) (cl (wd x) n)).take k)) ∧ Below w.heap.size w wr)
      (fun _ i _ => wd x - (intOf i).toNat)
    case atStart => exact ⟨0, by omega, rfl, rfl, by simpa using hown0, hb2⟩
    case round =>
      obtain ⟨k, hk, rfl, rfl, hown, hb⟩ := hrel
      by_cases hlt : k < wd x
      · go_wp2_with (at_builtin; refine wpList_append_fits _ rfl (.tmp 32) (.tmp 41) _ rfl w.heap.size 5 i0 1 Try.underlying42 hi0 hz1 w.heap.size (xs.length + k) (xs.length + wd x) _ rfl (hown.alloc _) ⟨wr.heap.size, 0, none⟩ 1 1 [.int .u8 ((cl (wd x) n : Nat) / 2 ^ (8 * (wd x - 1 - k)) % 256)] rfl rfl (new_one _ _ _) (by simp [Value.oneCell']) (by omega) ?_; intro w3 hown3 hg3)
        go_roundw
        case rel => 
          refine ⟨k + 1, by omega, by go_num, rfl, ?_, ?_⟩
          · rw [be_take hlt, u8s_app]
            exact hown3
          · exact below_add (hb.alloc hb.size _) (hown.alloc _) (Nat.le_refl _) hg3
        case measure => simp [intOf]; omega
      · go_wp2
        obtain rfl : k = wd x := by omega
        go_ret
        rw [List.take_of_length_le (by rw [be_len]; omega)] at hown
        exact Fresh.of hown hb

end Go.Proofs.Ytdmfgffjplbloaa.NumB
namespace Go.Proofs.Ytdmfgffjplbloaa.CrcM

/-- A register of 32 bits goes one bit down. -/
def stp (x : Nat) : Nat := if x % 2 = 1 then x / 2 ^^^ 3988292384 else x / 2
def it : Nat → Nat → Nat
  | 0, x => x
  | k + 1, x => stp (it k x)
/-- Eight steps. -/
def s8 (x : Nat) : Nat := it 8 x
/-- A byte fed. -/
def fb (x c : Nat) : Nat := s8 (x ^^^ c)
/-- Bytes fed. -/
def fd (x : Nat) (l : List Nat) : Nat := l.foldl fb x
/-- The sum. -/
def sm (l : List Nat) : Nat := 4294967295 - fd 4294967295 l

theorem xor_div2 (a b : Nat) : (a ^^^ b) / 2 = a / 2 ^^^ b / 2 := by
  have := Nat.shiftRight_xor_distrib (a := a) (b := b) (i := 1)
  simpa [Nat.shiftRight_succ] using this
theorem xor_mod2 (a b : Nat) : (a ^^^ b) % 2 = (a % 2 + b % 2) % 2 := by
  have := @Nat.xor_mod_two_eq_one a b
  rcases Nat.mod_two_eq_zero_or_one a with h1 | h1 <;> rcases Nat.mod_two_eq_zero_or_one b with h2 | h2 <;> rcases Nat.mod_two_eq_zero_or_one (a ^^^ b) with h3 | h3 <;> simp_all
theorem stp_lt {x : Nat} (h : x < 4294967296) : stp x < 4294967296 := by
  unfold stp
  split
  · exact Nat.xor_lt_two_pow (n := 32) (by omega) (by decide)
  · omega
theorem stp_xor (a b : Nat) : stp (a ^^^ b) = stp a ^^^ stp b := by
  unfold stp
  rw [xor_div2, xor_mod2]
  rcases Nat.mod_two_eq_zero_or_one a with h1 | h1 <;> rcases Nat.mod_two_eq_zero_or_one b with h2 | h2 <;> simp only [h1, h2]
  · simp
  · simp only [if_true, Nat.reduceEqDiff, if_false, Nat.xor_assoc]
  · simp only [if_true, Nat.reduceEqDiff, if_false]
    simp only [Nat.xor_assoc]
    rw [Nat.xor_comm (b / 2)]
  · simp only [Nat.reduceAdd, Nat.reduceMod, if_true, Nat.zero_ne_one, if_false]
    rw [Nat.xor_assoc, ← Nat.xor_assoc 3988292384, Nat.xor_comm 3988292384, Nat.xor_assoc (b / 2), Nat.xor_self, Nat.xor_zero]
theorem stp_zero : stp 0 = 0 := rfl
theorem stp_eq_zero {x : Nat} (hx : x < 4294967296) (h : stp x = 0) : x = 0 := by
  unfold stp at h
  split at h
  · have h2 : x / 2 = 3988292384 := by
      have := congrArg (· ^^^ 3988292384) h
      simpa [Nat.xor_assoc] using this
    omega
  · omega
theorem it_lt (k : Nat) {x : Nat} (h : x < 4294967296) : it k x < 4294967296 := by
  induction k with
  | zero => exact h
  | succ k ih => exact stp_lt ih
theorem it_xor (k a b : Nat) : it k (a ^^^ b) = it k a ^^^ it k b := by
  induction k with
  | zero => rfl
  | succ k ih => show stp _ = _; rw [ih, stp_xor]; rfl
theorem it_eq_zero {k x : Nat} (hx : x < 4294967296) (h : it k x = 0) : x = 0 := by
  induction k with
  | zero => exact h
  | succ k ih => exact ih (stp_eq_zero (it_lt k hx) h)
theorem it_succ' (k x : Nat) : it (k + 1) x = it k (stp x) := by
  induction k with
  | zero => rfl
  | succ k ih => show stp (it (k + 1) x) = _; rw [ih]; rfl
theorem it_even (k m : Nat) : it k (2 ^ k * m) = m := by
  induction k generalizing m with
  | zero => simp [it]
  | succ k ih =>
    rw [it_succ']
    have e : stp (2 ^ (k + 1) * m) = 2 ^ k * m := by
      unfold stp
      have h1 : 2 ^ (k + 1) * m = 2 * (2 ^ k * m) := by rw [Nat.pow_succ, Nat.mul_comm (2 ^ k) 2, Nat.mul_assoc]
      rw [h1, if_neg (by omega)]
      omega
    rw [e, ih]
theorem s8_lt {x : Nat} (h : x < 4294967296) : s8 x < 4294967296 := it_lt 8 h
theorem s8_xor (a b : Nat) : s8 (a ^^^ b) = s8 a ^^^ s8 b := it_xor 8 a b
theorem s8_inj {a b : Nat} (ha : a < 4294967296) (hb : b < 4294967296) (h : s8 a = s8 b) : a = b := by
  have h0 : s8 (a ^^^ b) = 0 := by rw [s8_xor, h, Nat.xor_self]
  have := it_eq_zero (k := 8) (Nat.xor_lt_two_pow (n := 32) ha hb) h0
  have h2 := congrArg (· ^^^ b) this
  simpa [Nat.xor_assoc] using h2
theorem s8_high (m : Nat) : s8 (256 * m) = m := it_even 8 m
theorem split8 (y : Nat) : y = (256 * (y / 256)) ^^^ (y % 256) := by
  apply Nat.eq_of_testBit_eq
  intro i
  rw [Nat.testBit_xor, show (256 : Nat) = 2 ^ 8 from rfl, Nat.testBit_mod_two_pow, Nat.testBit_two_pow_mul, Nat.testBit_div_two_pow]
  by_cases h : i < 8
  · have : ¬ 8 ≤ i := by omega
    simp [h, this]
  · have : 8 ≤ i := by omega
    simp [h, this]
/-- A byte fed by the table. -/
theorem fb_table {x c : Nat} (hc : c < 256) : fb x c = s8 ((x % 256) ^^^ c) ^^^ x / 256 := by
  have e1 : (x ^^^ c) / 256 = x / 256 := by
    have := Nat.shiftRight_xor_distrib (a := x) (b := c) (i := 8)
    rw [Nat.shiftRight_eq_div_pow, Nat.shiftRight_eq_div_pow, Nat.shiftRight_eq_div_pow] at this
    have h0 : c / 2 ^ 8 = 0 := by omega
    rw [h0] at this
    simpa using this
  have e2 : (x ^^^ c) % 256 = (x % 256) ^^^ c := by
    have := @Nat.xor_mod_two_pow x c 8
    rw [Nat.mod_eq_of_lt (a := c) (by omega)] at this
    exact this
  unfold fb
  conv => lhs; rw [split8 (x ^^^ c)]
  rw [s8_xor, s8_high, e1, e2, Nat.xor_comm]
theorem fb_lt {x c : Nat} (hx : x < 4294967296) (hc : c < 256) : fb x c < 4294967296 := s8_lt (Nat.xor_lt_two_pow (n := 32) hx (by omega))
theorem xor_inj_left {a b c : Nat} (h : a ^^^ c = b ^^^ c) : a = b := by
  have h2 := congrArg (· ^^^ c) h
  simpa [Nat.xor_assoc] using h2
theorem xor_inj_right {a b c : Nat} (h : c ^^^ a = c ^^^ b) : a = b := by
  rw [Nat.xor_comm c, Nat.xor_comm c] at h
  exact xor_inj_left h
theorem fb_inj {x y c : Nat} (hx : x < 4294967296) (hy : y < 4294967296) (hc : c < 256) (h : fb x c = fb y c) : x = y :=
  xor_inj_left (s8_inj (Nat.xor_lt_two_pow (n := 32) hx (by omega)) (Nat.xor_lt_two_pow (n := 32) hy (by omega)) h)
theorem fb_inj' {x c d : Nat} (hx : x < 4294967296) (hc : c < 256) (hd : d < 256) (h : fb x c = fb x d) : c = d :=
  xor_inj_right (s8_inj (Nat.xor_lt_two_pow (n := 32) hx (by omega)) (Nat.xor_lt_two_pow (n := 32) hx (by omega)) h)
theorem fd_nil (x : Nat) : fd x [] = x := by unfold fd; rw [List.foldl_nil]
theorem fd_cons (x c : Nat) (l : List Nat) : fd x (c :: l) = fd (fb x c) l := by unfold fd; rw [List.foldl_cons]
theorem fd_app (x : Nat) (l m : List Nat) : fd x (l ++ m) = fd (fd x l) m := List.foldl_append
theorem fd_snoc (x : Nat) (l : List Nat) (c : Nat) : fd x (l ++ [c]) = fb (fd x l) c := by rw [fd_app, fd_cons, fd_nil]
theorem fd_lt {x : Nat} (hx : x < 4294967296) {l : List Nat} (hl : ∀ c ∈ l, c < 256) : fd x l < 4294967296 := by
  induction l generalizing x with
  | nil => rw [fd_nil]; exact hx
  | cons c l ih => rw [fd_cons]; exact ih (fb_lt hx (hl c (by simp))) fun d hd => hl d (by simp [hd])
theorem fd_inj {x y : Nat} (hx : x < 4294967296) (hy : y < 4294967296) {l : List Nat} (hl : ∀ c ∈ l, c < 256) (h : fd x l = fd y l) : x = y := by
  induction l generalizing x y with
  | nil => rw [fd_nil, fd_nil] at h; exact h
  | cons c l ih =>
    have hc := hl c (by simp)
    rw [fd_cons, fd_cons] at h
    exact fb_inj hx hy hc (ih (fb_lt hx hc) (fb_lt hy hc) (fun d hd => hl d (by simp [hd])) h)
theorem sm_lt (l : List Nat) : sm l < 4294967296 := by unfold sm; omega
theorem sm_eq {l m : List Nat} (hl : ∀ c ∈ l, c < 256) (hm : ∀ c ∈ m, c < 256) (h : sm l = sm m) : fd 4294967295 l = fd 4294967295 m := by
  have h1 := fd_lt (x := 4294967295) (by decide) hl
  have h2 := fd_lt (x := 4294967295) (by decide) hm
  unfold sm at h
  omega
/-- Of bytes of which one is another the sum is another. -/
theorem sm_turned {l m : List Nat} {a b : Nat} (hl : ∀ c ∈ l, c < 256) (hm : ∀ c ∈ m, c < 256) (ha : a < 256) (hb : b < 256) (hab : a ≠ b) : sm (l ++ a :: m) ≠ sm (l ++ b :: m) := by
  intro h
  have h := sm_eq (by intro c hc; simp at hc; rcases hc with hc | hc | hc; exact hl c hc; omega; exact hm c hc) (by intro c hc; simp at hc; rcases hc with hc | hc | hc; exact hl c hc; omega; exact hm c hc) h
  rw [fd_app, fd_app, fd_cons, fd_cons] at h
  have hx := fd_lt (x := 4294967295) (by decide) hl
  exact hab (fb_inj' hx ha hb (fd_inj (fb_lt hx ha) (fb_lt hx hb) hm h))
/-- No byte but zero stays as it is through eight steps. -/
theorem s8_byte : ∀ d, d < 256 → s8 d = d → d = 0 := by
  have h : (List.range 256).all (fun d => s8 d != d || d == 0) = true := by decide +kernel
  intro d hd he
  have := List.all_eq_true.1 h d (by simp [hd])
  simp [he] at this
  exact this
/-- Of bytes of which two neighbours change places the sum is another, if they are unlike. -/
theorem sm_swapped {l m : List Nat} {a b : Nat} (hl : ∀ c ∈ l, c < 256) (hm : ∀ c ∈ m, c < 256) (ha : a < 256) (hb : b < 256) (hab : a ≠ b) : sm (l ++ a :: b :: m) ≠ sm (l ++ b :: a :: m) := by
  intro h
  have h := sm_eq (by intro c hc; simp at hc; rcases hc with hc | hc | hc | hc; exact hl c hc; omega; omega; exact hm c hc) (by intro c hc; simp at hc; rcases hc with hc | hc | hc | hc; exact hl c hc; omega; omega; exact hm c hc) h
  rw [fd_app, fd_app, fd_cons, fd_cons, fd_cons, fd_cons] at h
  have hx := fd_lt (x := 4294967295) (by decide) hl
  have h := fd_inj (fb_lt (fb_lt hx ha) hb) (fb_lt (fb_lt hx hb) ha) hm h
  have h := s8_inj (Nat.xor_lt_two_pow (n := 32) (fb_lt hx ha) (by omega)) (Nat.xor_lt_two_pow (n := 32) (fb_lt hx hb) (by omega)) h
  unfold fb at h
  rw [s8_xor, s8_xor, Nat.xor_assoc, Nat.xor_assoc] at h
  have h := xor_inj_right h
  have h2 : s8 (a ^^^ b) = a ^^^ b := by
    rw [s8_xor]
    have h3 : s8 a ^^^ b ^^^ b ^^^ s8 b = s8 b ^^^ a ^^^ b ^^^ s8 b := by rw [h]
    have e1 : s8 a ^^^ b ^^^ b ^^^ s8 b = s8 a ^^^ s8 b := by rw [Nat.xor_assoc (s8 a), Nat.xor_self, Nat.xor_zero]
    have e2 : s8 b ^^^ a ^^^ b ^^^ s8 b = a ^^^ b := by
      rw [Nat.xor_assoc (s8 b), Nat.xor_comm (s8 b), Nat.xor_assoc, Nat.xor_self, Nat.xor_zero]
    rw [e1, e2] at h3
    exact h3
  have h4 := s8_byte _ (Nat.xor_lt_two_pow (n := 8) ha hb) h2
  have h5 := congrArg (· ^^^ b) h4
  exact hab (by simpa [Nat.xor_assoc] using h5)
theorem example_sum : sm [49, 50, 51, 52, 53, 54, 55, 56, 57] = 3421780262 := by decide +kernel

end Go.Proofs.Ytdmfgffjplbloaa.CrcM
namespace Go.Proofs.Ytdmfgffjplbloaa.RecM
open Go.RowKit Go.Proofs.Ytdmfgffjplbloaa.Kit Go.Proofs.Ytdmfgffjplbloaa.Byt

def nl (xs : List Nat) : List Int := xs.map fun n : Nat => (n : Int)
theorem nl_u8s (xs : List Nat) : u8n xs = NumA.u8s (nl xs) := by simp [u8n, nl, NumA.u8s]
theorem nl_app (xs ys : List Nat) : nl (xs ++ ys) = nl xs ++ nl ys := by simp [nl]
theorem nl_len (xs : List Nat) : (nl xs).length = xs.length := by simp [nl]
/-- Bytes. -/
def byt (xs : List Nat) : Prop := ∀ c ∈ xs, c < 256
theorem byt_app {xs ys : List Nat} (h : byt xs) (g : byt ys) : byt (xs ++ ys) := by
  intro c hc
  rcases List.mem_append.1 hc with h1 | h1
  · exact h c h1
  · exact g c h1
theorem byt_take {xs : List Nat} (h : byt xs) (k : Nat) : byt (xs.take k) := fun c hc => h c (List.mem_of_mem_take hc)
theorem byt_drop {xs : List Nat} (h : byt xs) (k : Nat) : byt (xs.drop k) := fun c hc => h c (List.mem_of_mem_drop hc)
theorem nl_255 {xs : List Nat} (h : byt xs) : ∀ u ∈ nl xs, 0 ≤ u ∧ u ≤ 255 := by
  intro u hu
  simp only [nl, List.mem_map] at hu
  obtain ⟨c, hc, rfl⟩ := hu
  have := h c hc
  omega
/-- A number's bytes. -/
def pbn (n x : Int) : List Nat := (List.range (NumA.wd x)).map fun i => NumB.cl (NumA.wd x) n / 2 ^ (8 * (NumA.wd x - 1 - i)) % 256
theorem pbn_nl (n x : Int) : nl (pbn n x) = NumB.putb n x := by simp [nl, pbn, NumB.putb, NumB.be, List.map_map, Function.comp_def]
theorem pbn_len (n x : Int) : (pbn n x).length = NumA.wd x := by simp [pbn]
theorem pbn_lt (n x : Int) : byt (pbn n x) := by
  intro c hc
  simp only [pbn, List.mem_map, List.mem_range] at hc
  obtain ⟨i, _, rfl⟩ := hc
  omega
theorem pbn1 (x : Nat) (h : x < 256) : pbn (x : Int) 1 = [x] := by
  have h1 : NumA.wd 1 = 1 := rfl
  unfold pbn NumB.cl
  rw [h1]
  have h2 : (2 : Nat) ^ (8 * 1) - 1 = 255 := rfl
  rw [h2]
  simp only [Int.toNat_natCast, List.range_succ, List.range_zero, List.nil_append, List.map_cons, List.map_nil]
  rw [Nat.min_eq_left (by omega)]
  simp
  omega
theorem pbn2 (x : Nat) (h : x < 65536) : pbn (x : Int) 2 = [x / 256, x % 256] := by
  have h1 : NumA.wd 2 = 2 := rfl
  unfold pbn NumB.cl
  rw [h1]
  have h2 : (2 : Nat) ^ (8 * 2) - 1 = 65535 := rfl
  rw [h2]
  simp only [Int.toNat_natCast, List.range_succ, List.range_zero, List.nil_append, List.map_cons, List.map_nil, List.singleton_append]
  rw [Nat.min_eq_left (by omega)]
  simp
  omega
theorem pbn4 (x : Nat) (h : x < 4294967296) : pbn (x : Int) 4 = [x / 16777216, x / 65536 % 256, x / 256 % 256, x % 256] := by
  have h1 : NumA.wd 4 = 4 := rfl
  unfold pbn NumB.cl
  rw [h1]
  have h2 : (2 : Nat) ^ (8 * 4) - 1 = 4294967295 := rfl
  rw [h2]
  simp only [Int.toNat_natCast, List.range_succ, List.range_zero, List.nil_append, List.map_cons, List.map_nil, List.cons_append]
  rw [Nat.min_eq_left (by omega)]
  simp
  omega
theorem pbn4_inj {x y : Nat} (hx : x < 4294967296) (hy : y < 4294967296) (h : pbn (x : Int) 4 = pbn (y : Int) 4) : x = y := by
  rw [pbn4 x hx, pbn4 y hy] at h
  simp only [List.cons.injEq, and_true] at h
  omega

/-! ### a sealed sector -/

/-- The sum of bytes, in four bytes. -/
def s4 (xs : List Nat) : List Nat := pbn (CrcM.sm xs : Nat) 4
theorem s4_len (xs : List Nat) : (s4 xs).length = 4 := by unfold s4; rw [pbn_len]; rfl
/-- Bytes, their sum, and zeros up to 64. -/
def shut (xs : List Nat) : List Nat := xs ++ (s4 xs ++ List.replicate (60 - xs.length) 0)
theorem shut_len {xs : List Nat} (h : xs.length ≤ 60) : (shut xs).length = 64 := by
  unfold shut
  rw [List.length_append, List.length_append, s4_len, List.length_replicate]
  omega
theorem shut_lt {xs : List Nat} (h : byt xs) : byt (shut xs) := byt_app h (byt_app (pbn_lt _ _) (fun c hc => by have := List.eq_of_mem_replicate hc; omega))
theorem shut_take (xs : List Nat) : (shut xs).take xs.length = xs := by unfold shut; rw [List.take_append_of_le_length (Nat.le_refl _), List.take_length]
theorem shut_drop (xs : List Nat) : (shut xs).drop (xs.length + 4) = List.replicate (60 - xs.length) 0 := by
  unfold shut
  rw [← List.append_assoc, List.drop_append_of_le_length (by rw [List.length_append, s4_len]; omega), List.drop_of_length_le (by rw [List.length_append, s4_len]; omega), List.nil_append]
theorem shut_sum {xs ys : List Nat} (h : shut xs = shut ys) (hl : xs.length = ys.length) : s4 xs = s4 ys := by
  unfold shut at h
  have h1 := (List.append_inj h hl).2
  exact (List.append_inj h1 (by rw [s4_len, s4_len])).1
theorem set_cut {xs : List Nat} {k : Nat} (h : k < xs.length) (y : Nat) : xs.set k y = xs.take k ++ y :: xs.drop (k + 1) := List.set_eq_take_append_cons_drop ▸ by simp [h]
theorem own_cut {xs : List Nat} {k : Nat} (h : k < xs.length) : xs = xs.take k ++ xs[k] :: xs.drop (k + 1) := by simp
/-- A sector that is sealed, of which a byte is turned, is none. -/
theorem shut_turned {xs : List Nat} {k y : Nat} (hb : byt xs) (hy : y < 256) (h60 : xs.length ≤ 60) (hk : k < 64) (hne : (shut xs)[k]'(by rw [shut_len h60]; exact hk) ≠ y) :
    shut (((shut xs).set k y).take xs.length) ≠ (shut xs).set k y := by
  intro h
  have hl := shut_len h60
  by_cases hx : k < xs.length
  · have e1 : ((shut xs).set k y).take xs.length = xs.set k y := by rw [List.take_set, shut_take]
    rw [e1] at h
    have e2 : (shut xs).set k y = xs.set k y ++ (s4 xs ++ List.replicate (60 - xs.length) 0) := by unfold shut; rw [List.set_append_left _ _ hx]
    rw [e2] at h
    have e3 : shut (xs.set k y) = xs.set k y ++ (s4 (xs.set k y) ++ List.replicate (60 - (xs.set k y).length) 0) := rfl
    rw [e3] at h
    have h1 := (List.append_inj h rfl).2
    have h2 := (List.append_inj h1 (by rw [s4_len, s4_len])).1
    have h3 := pbn4_inj (CrcM.sm_lt _) (CrcM.sm_lt _) h2
    have hg : (shut xs)[k]'(by omega) = xs[k] := by
      unfold shut
      rw [List.getElem_append_left hx]
    rw [hg] at hne
    have h4 := CrcM.sm_turned (l := xs.take k) (m := xs.drop (k + 1)) (byt_take hb k) (byt_drop hb (k + 1)) (hb _ (List.getElem_mem hx)) hy hne
    rw [← own_cut hx, ← set_cut hx] at h4
    exact h4 h3.symm
  · have e1 : ((shut xs).set k y).take xs.length = xs := by
      rw [List.take_set, shut_take, List.set_eq_of_length_le (by omega)]
    rw [e1] at h
    have h2 : (shut xs)[k]'(by omega) = ((shut xs).set k y)[k]'(by rw [List.length_set]; omega) := by
      have : ∀ (l : List Nat) (hl : k < l.length), shut xs = l → (shut xs)[k]'(by omega) = l[k] := fun l hl e => by subst e; rfl
      exact this _ _ h
    rw [List.getElem_set_self] at h2
    exact hne h2

/-! ### what a sector tells -/

/-- What is wrong with a sector of this second mark and so many first bytes. -/
def wrong (m n : Nat) (xs : List Nat) : Int := if xs.length ≠ 64 then 14 else if xs.take 2 ≠ [76, m] ∨ xs.drop (n + 4) ≠ List.replicate (60 - n) 0 then 2 else if shut (xs.take n) ≠ xs then 10 else 0
/-- The number of k bytes from the i-th on. -/
def nm (xs : List Nat) (i k : Nat) : Int := (nl ((xs.drop i).take k)).foldl (fun a b => 256 * a + b) 0

/-- A record. -/
structure Rc where
  (p q a c l b : Int)
/-- Is a bit of Bad on, of slot 0 or 1? -/
def bitOn (b i : Int) : Prop := (if i = 0 then b % 2 else b / 2 % 2) = 1
instance (b i : Int) : Decidable (bitOn b i) := by unfold bitOn; infer_instance
def Rc.right (r : Rc) : Prop := ((0 ≤ r.p ∧ r.p ≤ 3) ∧ (1 ≤ r.q ∧ r.q ≤ 4294967295) ∧ (0 ≤ r.a ∧ r.a ≤ 1) ∧ (0 ≤ r.c ∧ r.c ≤ 1)) ∧ (0 ≤ r.l ∧ r.l ≤ 7) ∧ (0 ≤ r.b ∧ r.b ≤ 3) ∧ (r.a = r.c → r.l = 0) ∧ ¬ bitOn r.b r.a ∧ ¬ bitOn r.b r.c
instance (r : Rc) : Decidable r.right := by unfold Rc.right; infer_instance
def Rc.none : Rc := ⟨0, 0, 0, 0, 0, 0⟩
def Rc.bytes (r : Rc) : List Nat := [76, 67] ++ pbn r.p 1 ++ pbn r.q 4 ++ pbn r.a 1 ++ pbn r.c 1 ++ pbn r.l 1 ++ pbn r.b 1
def rcOf (xs : List Nat) : Rc := ⟨nm xs 2 1, nm xs 3 4, nm xs 7 1, nm xs 8 1, nm xs 9 1, nm xs 10 1⟩
/-- The record that a sector tells, and its error. -/
def getR (xs : List Nat) : Rc × Int := if wrong 67 11 xs ≠ 0 then (Rc.none, wrong 67 11 xs) else if (rcOf xs).right then (rcOf xs, 0) else (Rc.none, 3)

/-- A stage. -/
structure Sg where
  (s z h : Int)
/-- Its blocks. -/
def blocks (z : Int) : Nat := ((z + 15) / 16).toNat
def Sg.right (g : Sg) : Prop := (1 ≤ g.s ∧ g.s ≤ 65535) ∧ (1 ≤ g.z ∧ g.z ≤ 160) ∧ (0 ≤ g.h ∧ g.h < 2 ^ blocks g.z)
instance (g : Sg) : Decidable g.right := by unfold Sg.right; infer_instance
def Sg.none : Sg := ⟨0, 0, 0⟩
def Sg.bytes (g : Sg) : List Nat := [76, 83] ++ pbn g.s 2 ++ pbn g.z 2 ++ pbn g.h 2
def sgOf (xs : List Nat) : Sg := ⟨nm xs 2 2, nm xs 4 2, nm xs 6 2⟩
def getS (xs : List Nat) : Sg × Int := if wrong 83 8 xs ≠ 0 then (Sg.none, wrong 83 8 xs) else if (sgOf xs).right then (sgOf xs, 0) else (Sg.none, 3)

theorem Rc.bytes_len (r : Rc) : r.bytes.length = 11 := by simp [Rc.bytes, pbn_len]; rfl
theorem Sg.bytes_len (g : Sg) : g.bytes.length = 8 := by simp [Sg.bytes, pbn_len]; rfl
theorem Rc.bytes_lt (r : Rc) : byt r.bytes := byt_app (byt_app (byt_app (byt_app (byt_app (byt_app (by unfold byt; simp) (pbn_lt _ _)) (pbn_lt _ _)) (pbn_lt _ _)) (pbn_lt _ _)) (pbn_lt _ _)) (pbn_lt _ _)
theorem Sg.bytes_lt (g : Sg) : byt g.bytes := byt_app (byt_app (byt_app (by unfold byt; simp) (pbn_lt _ _)) (pbn_lt _ _)) (pbn_lt _ _)
/-- A right record's bytes, one by one. -/
theorem Rc.bytes_eq {p q a c l b : Nat} (h : Rc.right ⟨p, q, a, c, l, b⟩) : Rc.bytes ⟨p, q, a, c, l, b⟩ = [76, 67, p, q / 16777216, q / 65536 % 256, q / 256 % 256, q % 256, a, c, l, b] := by
  obtain ⟨⟨h1, h2, h3, h4⟩, h5, h6, _⟩ := h
  dsimp only at h1 h2 h3 h4 h5 h6
  unfold Rc.bytes
  rw [pbn1 p (by omega), pbn4 q (by omega), pbn1 a (by omega), pbn1 c (by omega), pbn1 l (by omega), pbn1 b (by omega)]
  rfl
theorem pow_blocks {z : Int} (h : z ≤ 160) : (2 : Int) ^ blocks z ≤ 1024 := by
  have h1 : blocks z ≤ 10 := by unfold blocks; omega
  have h2 : (2 : Nat) ^ blocks z ≤ 2 ^ 10 := Nat.pow_le_pow_right (by omega) h1
  have h3 : ((2 ^ blocks z : Nat) : Int) = (2 : Int) ^ blocks z := by simp
  omega
theorem Sg.bytes_eq {s z h : Nat} (hr : Sg.right ⟨s, z, h⟩) : Sg.bytes ⟨s, z, h⟩ = [76, 83, s / 256, s % 256, z / 256, z % 256, h / 256, h % 256] := by
  obtain ⟨h1, h2, h3⟩ := hr
  dsimp only at h1 h2 h3
  have := pow_blocks h2.2
  unfold Sg.bytes
  rw [pbn2 s (by omega), pbn2 z (by omega), pbn2 h (by omega)]
  rfl
theorem Rc.nats {r : Rc} (h : r.right) : ∃ p q a c l b : Nat, r = ⟨p, q, a, c, l, b⟩ := by
  obtain ⟨p, q, a, c, l, b⟩ := r
  obtain ⟨⟨h1, h2, h3, h4⟩, h5, h6, _⟩ := h
  dsimp only at h1 h2 h3 h4 h5 h6
  exact ⟨p.toNat, q.toNat, a.toNat, c.toNat, l.toNat, b.toNat, by simp; omega⟩
theorem Sg.nats {g : Sg} (h : g.right) : ∃ s z k : Nat, g = ⟨s, z, k⟩ := by
  obtain ⟨s, z, k⟩ := g
  obtain ⟨h1, h2, h3, _⟩ := h
  dsimp only at h1 h2 h3
  exact ⟨s.toNat, z.toNat, k.toNat, by simp; omega⟩
theorem wrong_shut {m n : Nat} {xs : List Nat} (hl : xs.length = n) (h60 : n ≤ 60) (hm : xs.take 2 = [76, m]) (h2 : 2 ≤ n) : wrong m n (shut xs) = 0 := by
  have e1 : (shut xs).take 2 = [76, m] := by unfold shut; rw [List.take_append_of_le_length (by omega), hm]
  have e2 : (shut xs).drop (n + 4) = List.replicate (60 - n) 0 := by rw [← hl]; exact shut_drop xs
  have e3 : shut ((shut xs).take n) = shut xs := by rw [← hl, shut_take]
  unfold wrong
  rw [if_neg (by rw [shut_len (by omega)]; simp), if_neg (by rw [e1, e2]; simp), if_neg (by rw [e3]; simp)]
theorem rcOf_shut {r : Rc} (h : r.right) : rcOf (shut r.bytes) = r := by
  obtain ⟨p, q, a, c, l, b, rfl⟩ := Rc.nats h
  have he := Rc.bytes_eq h
  unfold shut rcOf nm
  rw [he]
  simp [nl]
  omega
theorem sgOf_shut {g : Sg} (h : g.right) : sgOf (shut g.bytes) = g := by
  obtain ⟨s, z, k, rfl⟩ := Sg.nats h
  have he := Sg.bytes_eq h
  unfold shut sgOf nm
  rw [he]
  simp [nl]
  omega
theorem getR_back {r : Rc} (h : r.right) : getR (shut r.bytes) = (r, 0) := by
  have h0 : wrong 67 11 (shut r.bytes) = 0 := wrong_shut r.bytes_len (by omega) (by simp [Rc.bytes]) (by omega)
  unfold getR
  rw [if_neg (by simp [h0]), rcOf_shut h, if_pos h]
theorem getS_back {g : Sg} (h : g.right) : getS (shut g.bytes) = (g, 0) := by
  have h0 : wrong 83 8 (shut g.bytes) = 0 := wrong_shut g.bytes_len (by omega) (by simp [Sg.bytes]) (by omega)
  unfold getS
  rw [if_neg (by simp [h0]), sgOf_shut h, if_pos h]
/-- A stage's sector is no record's. -/
theorem getR_stage (g : Sg) : getR (shut g.bytes) = (Rc.none, 2) := by
  have hl := g.bytes_len
  have e1 : (shut g.bytes).take 2 = [76, 83] := by unfold shut; rw [List.take_append_of_le_length (by omega)]; simp [Sg.bytes]
  have h0 : wrong 67 11 (shut g.bytes) = 2 := by
    unfold wrong
    rw [if_neg (by rw [shut_len (by omega)]; simp), if_pos (Or.inl (by rw [e1]; simp))]
  unfold getR
  rw [h0, if_pos (by omega)]
/-- Of a sector of which a byte is turned nothing is got. -/
theorem getR_turned (r : Rc) {k y : Nat} (hy : y < 256) (hk : k < 64) (hne : (shut r.bytes)[k]'(by rw [shut_len (by rw [r.bytes_len]; omega)]; exact hk) ≠ y) :
    (getR ((shut r.bytes).set k y)).1 = Rc.none ∧ (getR ((shut r.bytes).set k y)).2 ≠ 0 := by
  have ht := shut_turned r.bytes_lt hy (by rw [r.bytes_len]; omega) hk hne
  rw [r.bytes_len] at ht
  have h0 : wrong 67 11 ((shut r.bytes).set k y) ≠ 0 := by
    unfold wrong
    split
    · omega
    · split
      · omega
      · omega
  unfold getR
  rw [if_pos h0]
  exact ⟨rfl, h0⟩
/-- A sector of one byte, again and again. -/
theorem wrong_same (m y n k : Nat) (hm : m ≠ 76) : wrong m k (List.replicate n y) = if n = 64 then 2 else 14 := by
  unfold wrong
  rw [List.length_replicate]
  by_cases h : n = 64
  · rw [if_neg (by simp [h]), if_pos h, if_pos (Or.inl (by
      subst h
      intro e
      simp [List.replicate_succ] at e
      omega))]
  · rw [if_pos h, if_neg h]
end Go.Proofs.Ytdmfgffjplbloaa.RecM
namespace Go.Proofs.Ytdmfgffjplbloaa.Put2
open Go.RowKit Go.Proofs.Ytdmfgffjplbloaa.Kit Go.Proofs.Ytdmfgffjplbloaa.Byt Go.Proofs.Ytdmfgffjplbloaa.Mem Go.Proofs.Ytdmfgffjplbloaa.DskA Go.Proofs.Ytdmfgffjplbloaa.DskB Go.Proofs.Ytdmfgffjplbloaa.DskD Go.Proofs.Ytdmfgffjplbloaa.DskE Go.Proofs.Ytdmfgffjplbloaa.DskF Go.Proofs.Ytdmfgffjplbloaa.RecM Go.Proofs.Ytdmfgffjplbloaa.StgM
/-- All that is laid, and all that waits, is bytes. -/
structure Byts (s : St) : Prop where
  laid : ∀ x ∈ s.S, byt x
  wait : ∀ p ∈ s.L, byt p.2
theorem zs_byt (n : Nat) : byt (zs n) := fun c hc => by
  have := List.eq_of_mem_replicate hc
  omega
theorem new_byts (n : Int) : Byts (newSt n) := ⟨fun x hx => by
  have := List.eq_of_mem_replicate (show x ∈ List.replicate (cnt n) (zs 64) from hx)
  rw [this]
  exact zs_byt 64, fun p hp => (by cases hp)⟩
theorem spend_byts {s : St} (h : Byts s) : Byts (spend s).2 := ⟨by rw [(spend_S s).1]; exact h.laid, by rw [(spend_S s).2]; exact h.wait⟩
theorem wrote_byts {s : St} (h : Byts s) {i : Nat} {bs : List Nat} (hb : byt bs) : Byts (wrote s i bs) := ⟨h.laid, fun p hp => by
  rcases List.mem_append.1 (show p ∈ s.L ++ [(i, bs)] from hp) with h1 | h1
  · exact h.wait p h1
  · rw [List.mem_singleton.1 h1]; exact hb⟩
theorem laidTo_byt {kp : Nat → Bool} {S : List (List Nat)} {L : List (Nat × List Nat)} (hS : ∀ x ∈ S, byt x) (hL : ∀ p ∈ L, byt p.2) (k : Nat) (hk : k ≤ L.length) : ∀ x ∈ laidTo kp S L k, byt x := by
  induction k with
  | zero => exact hS
  | succ k ih =>
    rw [laidTo]
    split
    · intro x hx
      rcases List.mem_or_eq_of_mem_set hx with h | h
      · exact ih (by omega) x h
      · subst h
        have hk' : k < L.length := by omega
        have : L.getD k (0, []) = L[k] := by simp [hk']
        rw [this]
        exact hL _ (List.getElem_mem _)
    · exact ih (by omega)
theorem lay_byts {s : St} (h : Byts s) (kp : Nat → Bool) : Byts (lay kp s) := ⟨laidTo_byt h.laid h.wait _ (Nat.le_refl _), fun p hp => (by cases hp)⟩
theorem power_byts {s : St} (h : Byts s) (K : Nat) : Byts (power K s) := ⟨(lay_byts h (kb K)).laid, fun p hp => (by cases hp)⟩
theorem put1_byts {s : St} (h : Byts s) (i : Nat) {bs : List Nat} (hb : byt bs) : Byts (put1 s i bs).1 := by
  unfold put1
  split
  · exact spend_byts h
  · split
    · exact spend_byts (wrote_byts (spend_byts h) hb)
    · exact lay_byts (spend_byts (wrote_byts (spend_byts h) hb)) _
theorem now_byt {s : St} (h : Byts s) (i : Nat) : byt (now s i) := by
  unfold now
  split
  · rename_i p hp
    exact h.wait p (by
      have := List.mem_of_find?_eq_some hp
      simpa using this)
  · rw [List.getD_eq_getElem?_getD]
    cases e : s.S[i]? with
    | none => exact fun c hc => (by cases hc)
    | some x => exact h.laid x (List.mem_of_getElem? e)
end Go.Proofs.Ytdmfgffjplbloaa.Put2
