/- A block put into a slot, by the program. Conditions: disk and slot lie as the facts say; the data read as the bytes that are named, and are neither the disk's nor the slot's; numbers of 64 bits. -/
import Derived.Test.YthgmocipiknfpaaStgN5
namespace Go.Proofs.Ythgmocipiknfpaa.StgN
open Go.RowKit Go.Proofs.Ythgmocipiknfpaa.Kit Go.Proofs.Ythgmocipiknfpaa.Byt Go.Proofs.Ythgmocipiknfpaa.Mem Go.Proofs.Ythgmocipiknfpaa.DskA Go.Proofs.Ythgmocipiknfpaa.DskC Go.Proofs.Ythgmocipiknfpaa.DskD Go.Proofs.Ythgmocipiknfpaa.DskE Go.Proofs.Ythgmocipiknfpaa.DskF Go.Proofs.Ythgmocipiknfpaa.RecM Go.Proofs.Ythgmocipiknfpaa.StgM
open Go.Proofs.Ythgmocipiknfpaa.RecA (sval scells sok n64)
open Go.Proofs.Ythgmocipiknfpaa.BitM (hb pw)
open Go.Proofs.Ythgmocipiknfpaa.BitB (wv)

/-! ### plain -/
theorem more_right {g : Sg} {k : Nat} (hr : g.right) (hk : k < blocks g.z) (h0 : hb g.h k = false) : (more g k).right := by
  have h10 := blocks_10 hr.2.1.2
  refine ⟨hr.1, hr.2.1, ?_⟩
  show 0 ≤ wv g.h k ∧ wv g.h k < 2 ^ blocks g.z
  rw [BitC.wv_no (by omega) h0]
  have hp := BitB.pw_pos k
  exact ⟨by have := hr.2.2.1; omega, BitC.more_lt (m := blocks g.z) hr.2.2.1 hr.2.2.2 (by omega) (by omega) h0⟩
theorem pQ_two (s : St) (i j : Nat) (bs cs : List Nat) : pQ s [(i, bs), (j, cs)] = if (put1 s i bs).2 = 0 then put1 (put1 s i bs).1 j cs else ((put1 s i bs).1, 8) := by
  show (if (put1 s i bs).2 = 0 then pQ (put1 s i bs).1 [(j, cs)] else ((put1 s i bs).1, 8)) = _
  rw [pQ_one]
theorem has_same {t : Slt} (h : t.has = true) (g : Sg) : ({ t with has := true, g := g } : Slt) = { t with g := g } := by
  cases t
  simp only at h
  subst h
  rfl
theorem pP_eq {s : St} {t : Slt} {n no : Int} {d : List Nat} (h1 : t.has = true) (h2 : n = t.g.s) (h3 : 0 ≤ no ∧ no < blocks t.g.z) (h4 : d.length = 16) (h5 : hb t.g.h no = false) :
    pP s t n no d = ((pQ s [(t.dat (no.toNat / 4), sect s t no.toNat d), (t.at_, shut (more t.g no).bytes)]).1, became t true (more t.g no) (pQ s [(t.dat (no.toNat / 4), sect s t no.toNat d), (t.at_, shut (more t.g no).bytes)]).2, (pQ s [(t.dat (no.toNat / 4), sect s t no.toNat d), (t.at_, shut (more t.g no).bytes)]).2) := by
  unfold pP became
  rw [if_neg (by rw [h1]; simp), if_neg (fun e => e h2), if_neg (by omega), if_neg (by omega), if_neg (by rw [h5]; simp), pQ_two]
  rcases put1_8 s (t.dat (no.toNat / 4)) (sect s t no.toNat d) with e | e
  · rw [if_neg (fun h => h e), if_pos e]
    rcases put1_8 (put1 s (t.dat (no.toNat / 4)) (sect s t no.toNat d)).1 t.at_ (shut (more t.g no).bytes) with e2 | e2
    · rw [if_neg (fun h => h e2), if_pos e2, e2, has_same h1]
    · rw [if_pos (by omega), if_neg (by omega), e2]
  · rw [if_pos (by omega), if_neg (by omega)]
    show _ = ((put1 s (t.dat (no.toNat / 4)) (sect s t no.toNat d)).1, (if (8 : Int) = 0 then _ else t), 8)
    rw [if_neg (by omega)]
theorem pP_down {s : St} {t : Slt} {n no : Int} {d : List Nat} (h1 : t.has = true) (h2 : n = t.g.s) (h3 : 0 ≤ no ∧ no < blocks t.g.z) (h4 : d.length = 16) (h5 : hb t.g.h no = false) (hd : s.down = true) : pP s t n no d = (s, t, 8) := by
  unfold pP
  rw [if_neg (by rw [h1]; simp), if_neg (fun e => e h2), if_neg (by omega), if_neg (by omega), if_neg (by rw [h5]; simp), put1_down hd, if_pos (show (s, (8 : Int)).2 ≠ 0 from by show (8 : Int) ≠ 0; omega)]
theorem into_splice {c d : List Nat} {o : Nat} (h : d.length = 16) : splice (u8n c) o ((u8n d).take 16) = u8n (into c o d) := by
  rw [List.take_of_length_le (by rw [u8n_len]; omega), u8n_splice]
  unfold splice into
  rw [h]
/-- A slice of all of its block is known whole. -/
theorem blk_of_own {w : World} {base b n : Nat} {e : TypeId} {xs : List Value} (h : w.ownsRow base e 1 (.slice (some ⟨b, 0, none⟩) n n) n xs) : Blk w b e xs ∧ base ≤ b := by
  rcases h.2 with ⟨hv, _⟩ | ⟨g, cap, cur, hv, hb, hg, _, _, hc, ht⟩
  · cases hv
  · injection hv with h1 h2 h3
    injection h1 with h1
    injection h1 with h1
    subst h1 h3
    rw [List.take_of_length_le (by rw [Array.length_toList]; omega)] at ht
    refine ⟨?_, hb⟩
    show w.heap[b]? = some (.cells xs.toArray e (0, 0))
    rw [← ht]
    simpa using hg

section
variable {F J : Nat → Prop} {g a : Nat} {s : St} {t : Slt} {n no : Int} {D : Option Addr} {m d : Nat} {xs : List Nat} {w : World}
set_option maxRecDepth 100000 in
set_option maxHeartbeats 1600000 in
theorem put_early (h : DS w F J g a s t) (hno : n64 no) (hm : xs.length = m)
    (hc : t.has = false ∨ (t.has = true ∧ n ≠ t.g.s) ∨ (t.has = true ∧ n = t.g.s ∧ (no < 0 ∨ (blocks t.g.z : Int) ≤ no)) ∨ (t.has = true ∧ n = t.g.s ∧ ¬ (no < 0 ∨ (blocks t.g.z : Int) ≤ no) ∧ m ≠ 16) ∨ (t.has = true ∧ n = t.g.s ∧ ¬ (no < 0 ∨ (blocks t.g.z : Int) ≤ no) ∧ m = 16 ∧ hb t.g.h no = true)) :
    Calls Try.prog 13 #[.pointer (some ⟨a, 0, none⟩), .int .i64 n, .int .i64 no, .slice D m d] w fun e w' => e = .returned (.int .i64 (pP s t n no xs).2.2) ∧ pP s t n no xs = (s, t, (pP s t n no xs).2.2) ∧ w = w' := by
  obtain ⟨_, _, _, c3, c4, c5⟩ := h.sm.cells
  have HS := Lib.hid (staged_any h.sm)
  have HB := Lib.hid (fun w' => RecG.blocks_any t.g.z w' h.sm.ok.z)
  have HH := Lib.hid (fun w' => BitO.has_any t.g.h no w')
  obtain ⟨gs, hgs⟩ : ∃ gs, gs = t.g.s := ⟨_, rfl⟩
  obtain ⟨gz, hgz⟩ : ∃ gz, gz = t.g.z := ⟨_, rfl⟩
  obtain ⟨gh, hgh⟩ : ∃ gh, gh = t.g.h := ⟨_, rfl⟩
  obtain ⟨B, hB⟩ : ∃ B, B = blocks t.g.z := ⟨_, rfl⟩
  rw [← hB] at HB hc
  rw [← hgz] at HB c4
  rw [← hgs] at c3 hc
  rw [← hgh] at c5 HH hc
  have HN := Lib.hid (show pP s t n no xs = if t.has = false then (s, t, 16) else if n ≠ gs then (s, t, 17) else if no < 0 ∨ (B : Int) ≤ no then (s, t, 3) else if m ≠ 16 then (s, t, 14) else if hb gh no = true then (s, t, 0) else pP s t n no xs from by
    subst hgs hgh hB hm
    by_cases e1 : t.has = false
    · rw [if_pos e1]; unfold pP; rw [if_pos e1]
    rw [if_neg e1]
    by_cases e2 : n ≠ t.g.s
    · rw [if_pos e2]; unfold pP; rw [if_neg e1, if_pos e2]
    rw [if_neg e2]
    by_cases e3 : no < 0 ∨ (blocks t.g.z : Int) ≤ no
    · rw [if_pos e3]; unfold pP; rw [if_neg e1, if_neg e2, if_pos e3]
    rw [if_neg e3]
    by_cases e4 : xs.length ≠ 16
    · rw [if_pos e4]; unfold pP; rw [if_neg e1, if_neg e2, if_neg e3, if_pos e4]
    rw [if_neg e4]
    by_cases e5 : hb t.g.h no = true
    · rw [if_pos e5]; unfold pP; rw [if_neg e1, if_neg e2, if_neg e3, if_neg e4, if_pos e5]
    · rw [if_neg e5])
  have hB0 : (0 : Int) ≤ (B : Int) := by omega
  clear h hm hgs hgz hgh hB
  have n0 := hno.1
  have n1 := hno.2
  rcases hc with h1 | ⟨h1, h2⟩ | ⟨h1, h2, h3⟩ | ⟨h1, h2, h3, h4⟩ | ⟨h1, h2, h3, h4, h5⟩
  · have HP := Lib.hid (show pP s t n no xs = (s, t, 16) from by rw [HN.out, if_pos h1])
    rw [h1] at HS
    clear h1 HN
    rw [HP.out]
    go_enter Try.func13, Try.ntmps13
    go_wp2_with (go_at_call 33; refine HS.out.mono ?_; rintro e w1 ⟨rfl, rfl⟩)
    go_ret
    exact ⟨rfl, trivial, rfl⟩
  · have HP := Lib.hid (show pP s t n no xs = (s, t, 17) from by rw [HN.out, if_neg (by rw [h1]; simp), if_pos h2])
    rw [h1] at HS
    have e2 : (n != gs) = true := by simpa using h2
    clear h1 h2 HN
    rw [HP.out]
    go_enter Try.func13, Try.ntmps13
    go_wp2_with (go_at_call 33; refine HS.out.mono ?_; rintro e w1 ⟨rfl, rfl⟩)
    go_ret
    exact ⟨rfl, trivial, rfl⟩
  · have HP := Lib.hid (show pP s t n no xs = (s, t, 3) from by rw [HN.out, if_neg (by rw [h1]; simp), if_neg (fun e => e h2), if_pos h3])
    rw [h1] at HS
    subst h2
    clear h1 HN
    rw [HP.out]
    by_cases h0 : no < 0
    · clear h3
      go_enter Try.func13, Try.ntmps13
      go_wp2_with (go_at_call 33; refine HS.out.mono ?_; rintro e w1 ⟨rfl, rfl⟩)
      go_ret
      exact ⟨rfl, trivial, rfl⟩
    · have h3' : (B : Int) ≤ no := by rcases h3 with h | h; exact absurd h h0; exact h
      clear h3
      go_enter Try.func13, Try.ntmps13
      go_wp2_with (first
        | (go_at_call 33; refine HS.out.mono ?_; rintro e w1 ⟨rfl, rfl⟩)
        | (go_at_call 34; refine (HB.out _).mono ?_; rintro e w1 ⟨rfl, rfl⟩))
      go_ret
      exact ⟨rfl, trivial, rfl⟩
  · have HP := Lib.hid (show pP s t n no xs = (s, t, 14) from by rw [HN.out, if_neg (by rw [h1]; simp), if_neg (fun e => e h2), if_neg h3, if_pos h4])
    rw [h1] at HS
    subst h2
    have h30 : ¬ no < 0 := fun h => h3 (.inl h)
    have h31 : ¬ (B : Int) ≤ no := fun h => h3 (.inr h)
    have e4 : ((m : Int) != 16) = true := by simp; omega
    clear h1 h3 h4 HN
    rw [HP.out]
    go_enter Try.func13, Try.ntmps13
    go_wp2_with (first
      | (go_at_call 33; refine HS.out.mono ?_; rintro e w1 ⟨rfl, rfl⟩)
      | (go_at_call 34; refine (HB.out _).mono ?_; rintro e w1 ⟨rfl, rfl⟩))
    go_ret
    exact ⟨rfl, trivial, rfl⟩
  · have HP := Lib.hid (show pP s t n no xs = (s, t, 0) from by rw [HN.out, if_neg (by rw [h1]; simp), if_neg (fun e => e h2), if_neg h3, if_neg (fun e => e h4), if_pos h5])
    rw [h1] at HS
    rw [h5] at HH
    subst h2 h4
    have h30 : ¬ no < 0 := fun h => h3 (.inl h)
    have h31 : ¬ (B : Int) ≤ no := fun h => h3 (.inr h)
    clear h1 h3 h5 HN
    rw [HP.out]
    go_enter Try.func13, Try.ntmps13
    go_wp2_with (first
      | (go_at_call 33; refine HS.out.mono ?_; rintro e w1 ⟨rfl, rfl⟩)
      | (go_at_call 34; refine (HB.out _).mono ?_; rintro e w1 ⟨rfl, rfl⟩)
      | (go_at_call 35; refine (HH.out _).mono ?_; rintro e w1 ⟨rfl, rfl⟩))
    go_ret
    exact ⟨rfl, trivial, rfl⟩
end
end Go.Proofs.Ythgmocipiknfpaa.StgN
