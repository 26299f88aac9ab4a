/- A log on a disk, and boxes of records beside it, in memory; when two records are one. No conditions but those each law names. The laws' own example: a log that is made, a record that is saved, and told again. No conditions. Acts on a log, and records, that came in, as lists. No conditions but those each law names. A log, and what might be its record, act by act, in plain terms. No conditions but those each law names; nothing of the program. Two sectors that are written and not flushed, a log on them, and a record that is saved behind, in plain terms. No conditions but those each law names; nothing of the program. -/
import Derived.Test.YtdmfgffjplbloaaCmtN
import Derived.Test.YtdmfgffjplbloaaCmtA
import Derived.Test.YtdmfgffjplbloaaJ03
import Derived.Deep.Slices
import Derived.Deep.Fields
import Derived.WideShapes
namespace Go.Proofs.Ytdmfgffjplbloaa.CmtC
open Go.RowKit Go.Proofs.Ytdmfgffjplbloaa.Kit Go.Proofs.Ytdmfgffjplbloaa.Byt Go.Proofs.Ytdmfgffjplbloaa.Mem Go.Proofs.Ytdmfgffjplbloaa.DskA Go.Proofs.Ytdmfgffjplbloaa.DskE Go.Proofs.Ytdmfgffjplbloaa.DskF Go.Proofs.Ytdmfgffjplbloaa.RecM Go.Proofs.Ytdmfgffjplbloaa.RecA Go.Proofs.Ytdmfgffjplbloaa.CmtM Go.Proofs.Ytdmfgffjplbloaa.CmtN Go.Proofs.Ytdmfgffjplbloaa.CmtA Go.Proofs.Ytdmfgffjplbloaa.StgM Go.Proofs.Ytdmfgffjplbloaa.StgJ Go.Proofs.Ytdmfgffjplbloaa.Put2
open Go.Proofs.Ytdmfgffjplbloaa.DskB (newSt cnt)

/-! ### a log, and a box beside it -/
structure Lo (w0 w : World) (F J : Nat → Prop) (g a : Nat) (s : St) (l : Lg) : Prop where
  ls : LS w F J g a s l
  low : ∀ i, F i ∨ J i → w0.heap.size ≤ i
  bel : Below w0.heap.size w0 w
/-- A box of a record that nothing of the disk and its log touches. -/
def Bo (w : World) (F J : Nat → Prop) (b : Nat) (r : Rc) : Prop := Blk w b 31 (rcells r) ∧ ¬ (F b ∨ J b)
section
variable {w0 w w' : World} {F J F' J' : Nat → Prop} {g a b c : Nat} {s s' : St} {l l' : Lg} {r r' : Rc}
theorem Lo.below (h : Lo w0 w F J g a s l) (hb : Below w.heap.size w w') : Lo w0 w' F J g a s l :=
  ⟨⟨h.ls.dk.below hb, h.ls.lm.keep (Keep.of_below (F := fun _ => False) hb) (fun _ _ h => h), h.ls.dis, h.ls.most, h.ls.fits, h.ls.rec_⟩, h.low, h.bel.trans (hb.mono h.bel.size)⟩
theorem Lo.lt (h : Lo w0 w F J g a s l) : ∀ i, F i ∨ J i → i < w.heap.size := by
  intro i hi
  rcases hi with hi | hi
  · exact h.ls.dk.lt i hi
  · exact h.ls.lm.lt i hi
theorem Lo.step {v : Value} {e : Ending} (h : Lo w0 w F J g a s l) (hg : Lgo F J g a w v s' l' e w') (hm : s'.L.length ≤ 1000000) (hf : l'.p ≤ 3 ∧ 10 * l'.p + 2 ≤ s'.S.length) (hr : l'.r.right ∧ l'.r.p = l'.p ∧ l'.i ≤ 1) :
    e = .returned v ∧ ∃ F' J', Lo w0 w' F' J' g a s' l' ∧ Keep (fun i => F i ∨ J i) w w' ∧ (∀ i, F' i ∨ J' i → (F i ∨ J i) ∨ w.heap.size ≤ i) := by
  obtain ⟨he, F', J', h1, h2, h3, h4, h5, h6⟩ := hg
  have hs := h.bel.size
  have hgo : ∀ i, F' i ∨ J' i → (F i ∨ J i) ∨ w.heap.size ≤ i := fun i hi => by
    rcases hi with hi | hi
    · exact h5 i hi
    · exact h6 i hi
  refine ⟨he, F', J', ⟨⟨h1, h2, h3, hm, hf, hr⟩, fun i hi => ?_, h.bel.trans (h4.below h.low hs)⟩, h4, hgo⟩
  rcases hgo i hi with h7 | h7
  · exact h.low i h7
  · omega
/-- A call on the disk alone. -/
theorem got_lgo {v : Value} {e : Ending} (h : LS w F J g a s l) (hg : Got F g w v s' e w') : Lgo F J g a w v s' l e w' := by
  obtain ⟨he, F', h1, h2, h3⟩ := hg
  refine ⟨he, F', J, h1, h.lm.keep h2 (fun i hj hf => h.dis i hf hj), fun i hf hj => ?_, h2.mono (fun _ _ h => .inl h), fun i hi => (h3 i hi).imp .inl id, fun i hi => .inl (.inr hi)⟩
  rcases h3 i hf with h4 | h4
  · exact h.dis i h4 hj
  · have := h.lm.lt i hj
    omega
/-- The log is opened again. -/
theorem Lo.reopen {an : Nat} (h : Lo w0 w F J g a s l) (hS : Lm w' J' an g l') (hJ : ∀ i, J' i → w.heap.size ≤ i) (hb : Below w.heap.size w w') (hf : l'.p ≤ 3 ∧ 10 * l'.p + 2 ≤ s.S.length) (hr : l'.r.right ∧ l'.r.p = l'.p ∧ l'.i ≤ 1) : Lo w0 w' F J' g an s l' := by
  have hs := h.bel.size
  refine ⟨⟨h.ls.dk.below hb, hS, fun i h1 h2 => ?_, h.ls.most, hf, hr⟩, fun i hi => ?_, h.bel.trans (hb.mono hs)⟩
  · have := hJ i h2
    have := h.ls.dk.lt i h1
    omega
  · rcases hi with hi | hi
    · exact h.low i (.inl hi)
    · have := hJ i hi
      omega
/-- A box that is none of theirs is written. -/
theorem Lo.only (h : Lo w0 w F J g a s l) (ho : Only b w w') (hn : ¬ (F b ∨ J b)) (hl : w0.heap.size ≤ b) : Lo w0 w' F J g a s l := by
  have k : Keep (fun i => i = b) w w' := Keep.only ho rfl
  exact ⟨⟨h.ls.dk.keep k (fun i hi e => hn (.inl (e ▸ hi))), h.ls.lm.keep k (fun i hi e => hn (.inr (e ▸ hi))), h.ls.dis, h.ls.most, h.ls.fits, h.ls.rec_⟩, h.low, ho.below h.bel hl h.bel.size⟩
theorem Bo.below (h : Bo w F J b r) (hb : Below w.heap.size w w') : Bo w' F J b r := ⟨h.1.below hb, h.2⟩
theorem Bo.step (h : Bo w F J b r) (hk : Keep (fun i => F i ∨ J i) w w') (hg : ∀ i, F' i ∨ J' i → (F i ∨ J i) ∨ w.heap.size ≤ i) : Bo w' F' J' b r :=
  ⟨hk.blk h.1 h.2, fun hh => by
    rcases hg b hh with h1 | h1
    · exact h.2 h1
    · have := h.1.lt
      omega⟩
theorem Bo.again (h : Bo w F J b r) (hJ : ∀ i, J' i → w.heap.size ≤ i) (hb : Below w.heap.size w w') : Bo w' F J' b r :=
  ⟨h.1.below hb, fun hh => by
    rcases hh with hh | hh
    · exact h.2 (.inl hh)
    · have := hJ b hh
      have := h.1.lt
      omega⟩
theorem Bo.only (h : Bo w F J b r) (ho : Only c w w') (hne : b ≠ c) : Bo w' F J b r := ⟨ho.blk h.1 hne, h.2⟩
theorem Bo.new {w1 : World} (hF : ∀ i, F i ∨ J i → i < w1.heap.size) : Bo (w1.alloc (.cells (rcells r).toArray 31)) F J w1.heap.size r :=
  ⟨Blk.new w1 _ _, fun h => by have := hF _ h; omega⟩
theorem Bo.six (h : Bo w F J b r) : w.cell? ⟨b, 0, none⟩ = some (.int .i64 r.p) ∧ w.cell? ⟨b, 1, none⟩ = some (.int .i64 r.q) ∧ w.cell? ⟨b, 2, none⟩ = some (.int .i64 r.a) ∧ w.cell? ⟨b, 3, none⟩ = some (.int .i64 r.c) ∧ w.cell? ⟨b, 4, none⟩ = some (.int .i64 r.l) ∧ w.cell? ⟨b, 5, none⟩ = some (.int .i64 r.b) :=
  ⟨h.1.cell rfl, h.1.cell rfl, h.1.cell rfl, h.1.cell rfl, h.1.cell rfl, h.1.cell rfl⟩
end
theorem Li.fits {s : St} {l : Lg} (h : Li s l) : s.L.length ≤ 1000000 ∧ (l.p ≤ 3 ∧ 10 * l.p + 2 ≤ s.S.length) ∧ (l.r.right ∧ l.r.p = l.p ∧ l.i ≤ 1) :=
  ⟨by rw [h.up.none_]; exact Nat.zero_le _, ⟨h.p3, h.len⟩, h.right, h.pp, h.i1⟩
theorem Ld.fits {s : St} {l : Lg} {y : Rc} (h : Ld s l y) : s.L.length ≤ 1000000 ∧ (l.p ≤ 3 ∧ 10 * l.p + 2 ≤ s.S.length) ∧ (l.r.right ∧ l.r.p = l.p ∧ l.i ≤ 1) :=
  ⟨by have := h.most; omega, ⟨h.p3, h.len⟩, h.right, h.pp, h.i1⟩
theorem new_up0 (n : Int) : Up0 (newSt n) ∧ Free (newSt n) := ⟨⟨rfl, rfl, new_ok n⟩, by show (-1 : Int) < 0; omega, rfl⟩
theorem Lo.save_free {w0 w : World} {F J : Nat → Prop} {g a : Nat} {s : St} {l : Lg} (h : Lo w0 w F J g a s l) (hi : Li s l) (f : Free s) (r : Rc) (hr : rok r) :
    Calls Try.prog 11 #[.pointer (some ⟨a, 0, none⟩), rval r] w fun e w' => e = .returned (.int .i64 (nx l.r r).2) ∧ ∃ F' J' s' l', Lo w0 w' F' J' g a s' l' ∧ Li s' l' ∧ Free s' ∧ l'.r = (nx l.r r).1 ∧ l'.p = l.p ∧ Keep (fun i => F i ∨ J i) w w' ∧ (∀ i, F' i ∨ J' i → (F i ∨ J i) ∨ w.heap.size ≤ i) ∧ s' = (lS s l r).1 ∧ l' = (lS s l r).2.1 := by
  have hf := free_S (l := l) f r
  refine (save_any F J g a s l r w h.ls hr).mono fun e w' hg => ?_
  rcases step_S hi r with ⟨h1, _, h2, h3, h4⟩ | ⟨h8, _⟩
  · obtain ⟨he, F', J', k1, k2, k3⟩ := h.step hg (Li.fits h2).1 (Li.fits h2).2.1 (Li.fits h2).2.2
    exact ⟨by rw [he, h1], F', J', _, _, k1, h2, hf.1, h3, h4, k2, k3, rfl, rfl⟩
  · exact absurd h8 hf.2.2
/-- Behind a record that was saved the one ahead of it stands in the other copy still. -/
theorem save_both {s : St} {l : Lg} (hi : Li s l) (f : Free s) (r : Rc) (h0 : (nx l.r r).2 = 0) :
    getR ((lS s l r).1.S.getD (10 * l.p + l.i) []) = (l.r, 0) ∧ getR ((lS s l r).1.S.getD (10 * l.p + (1 - l.i)) []) = (nextR l.r r, 0) ∧ (lS s l r).2.1 = ⟨l.p, nextR l.r r, 1 - l.i⟩ ∧ (nextR l.r r).right ∧ (nx l.r r).1 = nextR l.r r := by
  have hg := tells_get hi.tell hi.i1 hi.right.1.2.1.1
  have hr : (nextR l.r r).right ∧ (nx l.r r).1 = nextR l.r r := by
    rcases nx_cases l.r r with ⟨_, e, h⟩ | ⟨h, _⟩
    · exact ⟨h, e⟩
    · omega
  have hp := put1_free f (10 * l.p + (1 - l.i)) (shut (nextR l.r r).bytes)
  have hl : 10 * l.p + (1 - l.i) < s.S.length := by have := hi.len; omega
  have hi1 := hi.i1
  have hS : (put1 s (10 * l.p + (1 - l.i)) (shut (nextR l.r r).bytes)).1.S = s.S.set (10 * l.p + (1 - l.i)) (shut (nextR l.r r).bytes) := by
    rcases put1_cases hi.up hl (shut_len (xs := (nextR l.r r).bytes) (by rw [Rc.bytes_len]; omega)) with ⟨_, _, h⟩ | ⟨h, _⟩
    · exact h
    · rw [hp.1] at h; exact absurd h (by omega)
  unfold lS
  rw [if_neg (fun e => e h0), if_pos hp.1]
  dsimp only
  rw [hS]
  refine ⟨?_, ?_, rfl, hr⟩
  · rw [Go.Proofs.Ytdmfgffjplbloaa.StgP.getD_set _ hl, if_neg (by omega)]
    exact hg
  · rw [Go.Proofs.Ytdmfgffjplbloaa.StgP.getD_set _ hl, if_pos rfl]
    exact getR_back hr.1
theorem lS_len (s : St) (l : Lg) (r : Rc) : (lS s l r).1.S.length = s.S.length := by
  unfold lS
  split
  · rfl
  · split <;> exact put1_len _ _ _
/-- A log that is opened again on a disk that is up. -/
theorem Lo.open_li {w0 w : World} {F J : Nat → Prop} {g a : Nat} {s : St} {l : Lg} (h : Lo w0 w F J g a s l) (hi : Li s l) :
    Calls Try.prog 14 #[.pointer (some ⟨g, 0, none⟩), .int .i64 (l.p : Nat)] w fun e w' => ∃ a' J', e = .returned (.tuple #[.pointer (some ⟨a', 0, none⟩), .int .i64 0]) ∧ Lo w0 w' F J' g a' s l ∧ (∀ i, J' i → w.heap.size ≤ i) ∧ Below w.heap.size w w' := by
  have e := lO_of hi.up.none_ hi.tell
  have hq : 1 ≤ l.r.q := hi.right.1.2.1.1
  have ho := open_any F g s l.p w h.ls.dk hi.p3 hi.len hi.up.up (by rw [hi.up.none_]; exact Nat.zero_le _) (now_byt hi.byts)
  rw [e] at ho
  refine ho.mono ?_
  rintro e w' ⟨hb, h1⟩
  rcases h1 with ⟨_, a', J', he, hm, hj⟩ | ⟨h2, _⟩
  · exact ⟨a', J', he, h.reopen hm hj hb ⟨hi.p3, hi.len⟩ ⟨hi.right, hi.pp, hi.i1⟩, hj, hb⟩
  · exact absurd hq (by show ¬ 1 ≤ l.r.q; have h2' : l.r.q < 1 := h2; omega)
/-- A log that is made on a new disk. -/
theorem fmt_new (n : Int) (p g : Nat) (F : Nat → Prop) (w0 w : World) (hD : Dk w F g (newSt n)) (hF : ∀ i, F i → w0.heap.size ≤ i) (hb : Below w0.heap.size w0 w) (hp : p ≤ 3) (hl : 10 * p + 2 ≤ cnt n) :
    Calls Try.prog 9 #[.pointer (some ⟨g, 0, none⟩), .int .i64 (p : Nat)] w fun e w' => ∃ a F' J s', e = .returned (.tuple #[.pointer (some ⟨a, 0, none⟩), .int .i64 0]) ∧ Lo w0 w' F' J g a s' ⟨p, one p, 0⟩ ∧ Li s' ⟨p, one p, 0⟩ ∧ Free s' ∧ s'.S.length = cnt n := by
  have hu := new_up0 n
  have hf := free_F hu.1 hu.2 (new_byts n) hp (by rw [new_len]; exact hl)
  have hlen : (lF (newSt n) p).1.S.length = cnt n := by
    unfold lF
    split
    · rw [put1_len, put1_len, new_len]
    · rw [put1_len, new_len]
  refine (format_any F g (newSt n) p w hD hp (by rw [new_len]; exact hl) rfl (Nat.zero_le _)).mono ?_
  rintro e w' ⟨F', h1, h2, h3, h4⟩
  rcases h4 with ⟨_, a, J, he, h5, h6, h7⟩ | ⟨h8, _⟩
  · have hs := hb.size
    refine ⟨a, F', J, _, he, ⟨⟨h1, h5, h7, (Li.fits hf.2.1).1, (Li.fits hf.2.1).2.1, (Li.fits hf.2.1).2.2⟩, fun i hi => ?_, hb.trans (h2.below hF hs)⟩, hf.2.1, hf.2.2, hlen⟩
    rcases hi with hi | hi
    · rcases h3 i hi with h9 | h9
      · exact hF i h9
      · omega
    · have := h6 i hi
      omega
  · rw [hf.1] at h8
    exact absurd h8 (by omega)
end Go.Proofs.Ytdmfgffjplbloaa.CmtC
namespace Go.Proofs.Ytdmfgffjplbloaa.CmtK
open Go.RowKit Go.Proofs.Ytdmfgffjplbloaa.Kit Go.Proofs.Ytdmfgffjplbloaa.Byt Go.Proofs.Ytdmfgffjplbloaa.Mem Go.Proofs.Ytdmfgffjplbloaa.DskA Go.Proofs.Ytdmfgffjplbloaa.DskE Go.Proofs.Ytdmfgffjplbloaa.DskF Go.Proofs.Ytdmfgffjplbloaa.RecM Go.Proofs.Ytdmfgffjplbloaa.RecA Go.Proofs.Ytdmfgffjplbloaa.CmtM Go.Proofs.Ytdmfgffjplbloaa.CmtN Go.Proofs.Ytdmfgffjplbloaa.CmtA Go.Proofs.Ytdmfgffjplbloaa.CmtC Go.Proofs.Ytdmfgffjplbloaa.StgM Go.Proofs.Ytdmfgffjplbloaa.StgJ Go.Proofs.Ytdmfgffjplbloaa.Put2
open Go.Proofs.Ytdmfgffjplbloaa.DskB (newSt cnt new_any)
theorem nx_ex : nx (one 0) ⟨0, 0, 1, 0, 2, 0⟩ = (⟨0, 2, 1, 0, 2, 0⟩, 0) := by
  unfold nx
  rw [if_neg (by decide), if_pos (by decide)]
  rfl
set_option maxRecDepth 100000 in
set_option maxHeartbeats 1600000 in
theorem wakes_any (w : World) : Calls Try.prog 7 #[] w fun e w' => e = .returned (.bool true) ∧ Below w.heap.size w w' := by
  have heq := fun (w : World) => req ⟨0, 2, 1, 0, 2, 0⟩ ⟨0, 2, 1, 0, 2, 0⟩ true ⟨fun _ => rfl, fun _ => rfl⟩ w
  dsimp only [rval] at heq
  go_enter Try.func7, Try.ntmps7
  go_wp2_with fail
  refine (new_any 10 _).mono ?_
  rintro e w1 ⟨g, F1, rfl, hD1, hb1, hf1⟩
  have HD1 := Lib.hid hD1
  have HB1 := Lib.hid hb1
  have HF1 := Lib.hid hf1
  clear hD1 hb1 hf1
  go_wp2_with fail
  refine (fmt_new 10 0 g F1 w w1 HD1.out HF1.out HB1.out (by omega) (by decide)).mono ?_
  rintro e w2 ⟨a, F2, J2, s2, rfl, hLo, hLi, hfr, _⟩
  have HO := Lib.hid hLo
  have HI := Lib.hid hLi
  have HF := Lib.hid hfr
  clear hLo hLi hfr HD1 HB1 HF1
  go_wp2_with fail
  refine (HO.out.save_free HI.out HF.out ⟨0, 0, 1, 0, 2, 0⟩ (by constructor <;> (unfold n64; decide))).mono ?_
  rintro e w3 ⟨rfl, F3, J3, s3, ⟨lp, lr, li⟩, hLo, hLi, hfr, hr, hp, _, _, _, _⟩
  have hr' : lr = ⟨0, 2, 1, 0, 2, 0⟩ := by
    have h : lr = (nx (one 0) ⟨0, 0, 1, 0, 2, 0⟩).1 := hr
    rw [nx_ex] at h
    exact h
  have hp' : lp = 0 := hp
  subst hr' hp'
  rw [show (nx (one 0) ⟨0, 0, 1, 0, 2, 0⟩).2 = 0 from by rw [nx_ex]]
  have HO3 := Lib.hid hLo
  have HI3 := Lib.hid hLi
  clear hLo hLi hfr hr hp HO HI HF
  go_wp2_with fail
  refine (HO3.out.open_li HI3.out).mono ?_
  rintro e w4 ⟨a4, J4, rfl, hLo, _, _⟩
  have HO4 := Lib.hid hLo
  clear hLo HO3 HI3
  go_wp2_with fail
  refine (latest_any J4 g a4 _ w4 HO4.out.ls.lm).mono ?_
  rintro e w5 ⟨rfl, hb5⟩
  have HO5 := Lib.hid (HO4.out.below hb5)
  clear hb5 HO4
  go_wp2
  go_ret
  exact ⟨rfl, HO5.out.bel⟩
end Go.Proofs.Ytdmfgffjplbloaa.CmtK
namespace Go.Proofs.Ytdmfgffjplbloaa.CmtL
open Go.RowKit Go.Proofs.Ytdmfgffjplbloaa.Kit Go.Proofs.Ytdmfgffjplbloaa.Byt Go.Proofs.Ytdmfgffjplbloaa.Mem Go.Proofs.Ytdmfgffjplbloaa.RecM Go.Proofs.Ytdmfgffjplbloaa.RecA

/-- An act: what, a number, a record, what is kept. -/
structure Ac where
  k : Int
  n : Int
  r : Rc
  keep : Nat
def Ac.cells (a : Ac) : List Value := [.int .i64 a.k, .int .i64 a.n, .int .i64 a.r.p, .int .i64 a.r.q, .int .i64 a.r.a, .int .i64 a.r.c, .int .i64 a.r.l, .int .i64 a.r.b, .int .u64 (a.keep : Nat)]
structure Ac.ok (a : Ac) : Prop where
  k : n64 a.k
  n : n64 a.n
  r : rok a.r
  keep : a.keep < 18446744073709551616
instance : Inhabited Ac := ⟨⟨0, 0, Rc.none, 0⟩⟩
/-- The slice at A is these acts. -/
def Acts (w : World) (A : Option Addr) (n c : Nat) (R : List Ac) : Prop :=
  R.length = n ∧ n ≤ c ∧ c ≤ 9223372036854775807 ∧ (∀ r ∈ R, r.ok) ∧
  (0 < n → ∃ b o, A = some ⟨b, o, none⟩ ∧ b < w.heap.size ∧ ∀ k r, R[k]? = some r → ∀ j u, r.cells[j]? = some u → w.cell? ⟨b, o + k * 9 + j, none⟩ = some u)
theorem Acts.below {w w' : World} {A : Option Addr} {n c : Nat} {R : List Ac} (h : Acts w A n c R) (hb : Below w.heap.size w w') : Acts w' A n c R :=
  ⟨h.1, h.2.1, h.2.2.1, h.2.2.2.1, fun hp => by
    obtain ⟨b, o, hA, hbl, hc⟩ := h.2.2.2.2 hp
    exact ⟨b, o, hA, Nat.lt_of_lt_of_le hbl hb.size, fun k r hr j u hu => (hb.cell (p := ⟨b, o + k * 9 + j, none⟩) hbl).trans (hc k r hr j u hu)⟩⟩
/-- The k-th act's cells. -/
theorem Acts.at_ {w : World} {A : Option Addr} {n c : Nat} {R : List Ac} (h : Acts w A n c R) {k : Nat} (hk : k < n) :
    ∃ (r : Ac) (b o : Nat), R[k]? = some r ∧ r ∈ R ∧ r.ok ∧ A = some ⟨b, o, none⟩ ∧ b < w.heap.size ∧ ∀ j u, r.cells[j]? = some u → w.cell? ⟨b, o + k * 9 + j, none⟩ = some u := by
  obtain ⟨b, o, hA, hb, hc⟩ := h.2.2.2.2 (by omega)
  have hk' : k < R.length := by rw [h.1]; exact hk
  have hr := List.getElem?_eq_getElem hk'
  have hm := List.getElem_mem hk'
  exact ⟨R[k], b, o, hr, hm, h.2.2.2.1 _ hm, hA, hb, fun j u hu => hc k _ hr j u hu⟩

set_option maxRecDepth 100000 in
theorem open_acts {H : Type} {enc : TypeId × Value → H} {w : World} {base : Nat} {v : Value} {d : DataW H} {p : List MemPlace} (h : DataW.Trod enc Try.prog w 0 (fun _ => true) true 22 v d p) (o : Value.okWide Try.prog w .any base 22 v) :
    ∃ A n c R, v = .slice A n c ∧ Acts w A n c R := by
  obtain ⟨a, n, c, rfl⟩ := Go.WideShapes.okWide_slice Try.underlying22 o
  obtain ⟨fuel, hf⟩ := h
  rcases Go.Deep.open_slice Try.underlying22 hf with ⟨hcs, _⟩ | ⟨x, len, cap, m, q, D, Pl, hcs, _, hl, hm, hmm, _, hi⟩
  · simp [Value.cells] at hcs
    obtain ⟨rfl, rfl, rfl⟩ := hcs
    exact ⟨none, 0, 0, [], rfl, rfl, by omega, by omega, by simp, fun h => absurd h (by simp)⟩
  · simp [Value.cells] at hcs
    obtain ⟨rfl, rfl, rfl⟩ := hcs
    have hC : Try.prog.cellsOf 34 = 9 := by kernel_rfl
    have each : ∀ i, i < n → ∃ r : Ac, r.ok ∧ ∀ j u, r.cells[j]? = some u → w.cell? (x.add (i * 9 + j)) = some u := by
      intro i hin
      obtain ⟨cs', hc, ht⟩ := hi i (by rw [hmm]; simp; omega)
      rw [hC] at hc
      obtain ⟨ys, n', _, _, _, hyl, hfl⟩ := DataW.trod_struct Try.underlying34 ht
      obtain ⟨_, hlen, hat⟩ := World.cells?_some hc
      match cs', hlen with
      | [c0, c1, c2, c3, c4, c5, c6, c7, c8], _ =>
        have ci : Try.prog.cellsOf 3 = 1 := by kernel_rfl
        have cu : Try.prog.cellsOf 32 = 1 := by kernel_rfl
        have cr : Try.prog.cellsOf 31 = 6 := by kernel_rfl
        match ys, hyl with
        | [y0, y1, y2, y3], _ =>
          have e0 : DataW.trod enc Try.prog w 0 (fun _ => true) true n' 3 (([c0, c1, c2, c3, c4, c5, c6, c7, c8].drop 0).take (Try.prog.cellsOf 3)) = some y0 := hfl 0 _ rfl
          rw [ci] at e0
          have e1 : DataW.trod enc Try.prog w 0 (fun _ => true) true n' 3 (([c0, c1, c2, c3, c4, c5, c6, c7, c8].drop 1).take (Try.prog.cellsOf 3)) = some y1 := hfl 1 _ rfl
          rw [ci] at e1
          have e2 : DataW.trod enc Try.prog w 0 (fun _ => true) true n' 31 (([c0, c1, c2, c3, c4, c5, c6, c7, c8].drop 2).take (Try.prog.cellsOf 31)) = some y2 := hfl 2 _ rfl
          rw [cr] at e2
          have e3 : DataW.trod enc Try.prog w 0 (fun _ => true) true n' 32 (([c0, c1, c2, c3, c4, c5, c6, c7, c8].drop 8).take (Try.prog.cellsOf 32)) = some y3 := hfl 3 _ rfl
          rw [cu] at e3
          obtain ⟨v0, q0, _, w0⟩ := DataW.trod_int (x := y0) Try.underlying3 e0
          obtain ⟨v1, q1, _, w1⟩ := DataW.trod_int (x := y1) Try.underlying3 e1
          obtain ⟨v8, q8, _, w8⟩ := DataW.trod_int (x := y3) Try.underlying32 e3
          obtain ⟨ts, n2, _, _, _, htl, hft⟩ := DataW.trod_struct Try.underlying31 e2
          match ts, htl with
          | [t0, t1, t2, t3, t4, t5], _ =>
            have g0 : DataW.trod enc Try.prog w 0 (fun _ => true) true n2 3 (([c2, c3, c4, c5, c6, c7].drop 0).take (Try.prog.cellsOf 3)) = some t0 := hft 0 _ rfl
            have g1 : DataW.trod enc Try.prog w 0 (fun _ => true) true n2 3 (([c2, c3, c4, c5, c6, c7].drop 1).take (Try.prog.cellsOf 3)) = some t1 := hft 1 _ rfl
            have g2 : DataW.trod enc Try.prog w 0 (fun _ => true) true n2 3 (([c2, c3, c4, c5, c6, c7].drop 2).take (Try.prog.cellsOf 3)) = some t2 := hft 2 _ rfl
            have g3 : DataW.trod enc Try.prog w 0 (fun _ => true) true n2 3 (([c2, c3, c4, c5, c6, c7].drop 3).take (Try.prog.cellsOf 3)) = some t3 := hft 3 _ rfl
            have g4 : DataW.trod enc Try.prog w 0 (fun _ => true) true n2 3 (([c2, c3, c4, c5, c6, c7].drop 4).take (Try.prog.cellsOf 3)) = some t4 := hft 4 _ rfl
            have g5 : DataW.trod enc Try.prog w 0 (fun _ => true) true n2 3 (([c2, c3, c4, c5, c6, c7].drop 5).take (Try.prog.cellsOf 3)) = some t5 := hft 5 _ rfl
            rw [ci] at g0 g1 g2 g3 g4 g5
            obtain ⟨v2, q2, _, w2⟩ := DataW.trod_int (x := t0) Try.underlying3 g0
            obtain ⟨v3, q3, _, w3⟩ := DataW.trod_int (x := t1) Try.underlying3 g1
            obtain ⟨v4, q4, _, w4⟩ := DataW.trod_int (x := t2) Try.underlying3 g2
            obtain ⟨v5, q5, _, w5⟩ := DataW.trod_int (x := t3) Try.underlying3 g3
            obtain ⟨v6, q6, _, w6⟩ := DataW.trod_int (x := t4) Try.underlying3 g4
            obtain ⟨v7, q7, _, w7⟩ := DataW.trod_int (x := t5) Try.underlying3 g5
            obtain rfl : c0 = _ := by simpa using q0
            obtain rfl : c1 = _ := by simpa using q1
            obtain rfl : c2 = _ := by simpa using q2
            obtain rfl : c3 = _ := by simpa using q3
            obtain rfl : c4 = _ := by simpa using q4
            obtain rfl : c5 = _ := by simpa using q5
            obtain rfl : c6 = _ := by simpa using q6
            obtain rfl : c7 = _ := by simpa using q7
            obtain rfl : c8 = _ := by simpa using q8
            have b8 := bounds_u64 w8
            refine ⟨⟨v0, v1, ⟨v2, v3, v4, v5, v6, v7⟩, v8.toNat⟩, ⟨bounds_i64 w0, bounds_i64 w1, ⟨bounds_i64 w2, bounds_i64 w3, bounds_i64 w4, bounds_i64 w5, bounds_i64 w6, bounds_i64 w7⟩, by show v8.toNat < 18446744073709551616; omega⟩, fun j u hu => ?_⟩
            have hj : j < 9 := by
              have := (List.getElem?_eq_some_iff.1 hu).1
              simpa [Ac.cells] using this
            have := hat j hj
            rw [Go.Deep.add_add] at this
            rw [this]
            simp only [Ac.cells, Int.toNat_of_nonneg b8.1] at hu
            exact hu
    obtain ⟨f, hf2⟩ := Go.Deep.choose_lt each
    refine ⟨some x, n, c, (List.range n).map f, rfl, by simp, hl, by unfold maxLen at hm; omega, ?_, fun hp => ?_⟩
    · intro r hr
      simp only [List.mem_map, List.mem_range] at hr
      obtain ⟨i, hi', rfl⟩ := hr
      exact (hf2 i hi').1
    · obtain ⟨b, off, spot⟩ := x
      have hc0 := (hf2 0 hp).2 0 _ rfl
      have hspot : spot = none := by simpa [Addr.add] using World.cell?_spot hc0
      subst hspot
      refine ⟨b, off, rfl, ?_, fun k r hr j u hu => ?_⟩
      · have := block_lt_of_cell hc0
        simpa [Addr.add] using this
      · have hk : k < n := by
          have := (List.getElem?_eq_some_iff.1 hr).1
          simpa using this
        simp only [List.getElem?_map, List.getElem?_range hk, Option.map_some, Option.some.injEq] at hr
        subst hr
        have := (hf2 k hk).2 j u hu
        rw [Addr.add_lit] at this
        rw [Nat.add_assoc]
        exact this

/-- The slice at A is these records. -/
def Recs (w : World) (A : Option Addr) (n c : Nat) (R : List Rc) : Prop :=
  R.length = n ∧ n ≤ c ∧ c ≤ 9223372036854775807 ∧ (∀ r ∈ R, rok r) ∧
  (0 < n → ∃ b o, A = some ⟨b, o, none⟩ ∧ b < w.heap.size ∧ ∀ k r, R[k]? = some r → ∀ j u, (rcells r)[j]? = some u → w.cell? ⟨b, o + k * 6 + j, none⟩ = some u)
theorem Recs.below {w w' : World} {A : Option Addr} {n c : Nat} {R : List Rc} (h : Recs w A n c R) (hb : Below w.heap.size w w') : Recs w' A n c R :=
  ⟨h.1, h.2.1, h.2.2.1, h.2.2.2.1, fun hp => by
    obtain ⟨b, o, hA, hbl, hc⟩ := h.2.2.2.2 hp
    exact ⟨b, o, hA, Nat.lt_of_lt_of_le hbl hb.size, fun k r hr j u hu => (hb.cell (p := ⟨b, o + k * 6 + j, none⟩) hbl).trans (hc k r hr j u hu)⟩⟩
theorem Recs.at_ {w : World} {A : Option Addr} {n c : Nat} {R : List Rc} (h : Recs w A n c R) {k : Nat} (hk : k < n) :
    ∃ (r : Rc) (b o : Nat), r ∈ R ∧ rok r ∧ A = some ⟨b, o, none⟩ ∧ b < w.heap.size ∧ ∀ j u, (rcells r)[j]? = some u → w.cell? ⟨b, o + k * 6 + j, none⟩ = some u := by
  obtain ⟨b, o, hA, hb, hc⟩ := h.2.2.2.2 (by omega)
  have hk' : k < R.length := by rw [h.1]; exact hk
  have hr := List.getElem?_eq_getElem hk'
  have hm := List.getElem_mem hk'
  exact ⟨R[k], b, o, hm, h.2.2.2.1 _ hm, hA, hb, fun j u hu => hc k _ hr j u hu⟩
instance : Inhabited Rc := ⟨Rc.none⟩
set_option maxRecDepth 100000 in
theorem open_recs {H : Type} {enc : TypeId × Value → H} {w : World} {base : Nat} {v : Value} {d : DataW H} {p : List MemPlace} (h : DataW.Trod enc Try.prog w 0 (fun _ => true) true 53 v d p) (o : Value.okWide Try.prog w .any base 53 v) :
    ∃ A n c R, v = .slice A n c ∧ Recs w A n c R := by
  obtain ⟨a, n, c, rfl⟩ := Go.WideShapes.okWide_slice Try.underlying53 o
  obtain ⟨fuel, hf⟩ := h
  rcases Go.Deep.open_slice Try.underlying53 hf with ⟨hcs, _⟩ | ⟨x, len, cap, m, q, D, Pl, hcs, _, hl, hm, hmm, _, hi⟩
  · simp [Value.cells] at hcs
    obtain ⟨rfl, rfl, rfl⟩ := hcs
    exact ⟨none, 0, 0, [], rfl, rfl, by omega, by omega, by simp, fun h => absurd h (by simp)⟩
  · simp [Value.cells] at hcs
    obtain ⟨rfl, rfl, rfl⟩ := hcs
    have hC : Try.prog.cellsOf 31 = 6 := by kernel_rfl
    have each : ∀ i, i < n → ∃ r : Rc, rok r ∧ ∀ j u, (rcells r)[j]? = some u → w.cell? (x.add (i * 6 + j)) = some u := by
      intro i hin
      obtain ⟨cs', hc, ht⟩ := hi i (by rw [hmm]; simp; omega)
      rw [hC] at hc
      obtain ⟨ts, n2, _, _, _, htl, hft⟩ := DataW.trod_struct Try.underlying31 ht
      obtain ⟨_, hlen, hat⟩ := World.cells?_some hc
      have ci : Try.prog.cellsOf 3 = 1 := by kernel_rfl
      match cs', hlen with
      | [c2, c3, c4, c5, c6, c7], _ =>
          match ts, htl with
          | [t0, t1, t2, t3, t4, t5], _ =>
            have g0 : DataW.trod enc Try.prog w 0 (fun _ => true) true n2 3 (([c2, c3, c4, c5, c6, c7].drop 0).take (Try.prog.cellsOf 3)) = some t0 := hft 0 _ rfl
            have g1 : DataW.trod enc Try.prog w 0 (fun _ => true) true n2 3 (([c2, c3, c4, c5, c6, c7].drop 1).take (Try.prog.cellsOf 3)) = some t1 := hft 1 _ rfl
            have g2 : DataW.trod enc Try.prog w 0 (fun _ => true) true n2 3 (([c2, c3, c4, c5, c6, c7].drop 2).take (Try.prog.cellsOf 3)) = some t2 := hft 2 _ rfl
            have g3 : DataW.trod enc Try.prog w 0 (fun _ => true) true n2 3 (([c2, c3, c4, c5, c6, c7].drop 3).take (Try.prog.cellsOf 3)) = some t3 := hft 3 _ rfl
            have g4 : DataW.trod enc Try.prog w 0 (fun _ => true) true n2 3 (([c2, c3, c4, c5, c6, c7].drop 4).take (Try.prog.cellsOf 3)) = some t4 := hft 4 _ rfl
            have g5 : DataW.trod enc Try.prog w 0 (fun _ => true) true n2 3 (([c2, c3, c4, c5, c6, c7].drop 5).take (Try.prog.cellsOf 3)) = some t5 := hft 5 _ rfl
            rw [ci] at g0 g1 g2 g3 g4 g5
            obtain ⟨v2, q2, _, w2⟩ := DataW.trod_int (x := t0) Try.underlying3 g0
            obtain ⟨v3, q3, _, w3⟩ := DataW.trod_int (x := t1) Try.underlying3 g1
            obtain ⟨v4, q4, _, w4⟩ := DataW.trod_int (x := t2) Try.underlying3 g2
            obtain ⟨v5, q5, _, w5⟩ := DataW.trod_int (x := t3) Try.underlying3 g3
            obtain ⟨v6, q6, _, w6⟩ := DataW.trod_int (x := t4) Try.underlying3 g4
            obtain ⟨v7, q7, _, w7⟩ := DataW.trod_int (x := t5) Try.underlying3 g5
            obtain rfl : c2 = _ := by simpa using q2
            obtain rfl : c3 = _ := by simpa using q3
            obtain rfl : c4 = _ := by simpa using q4
            obtain rfl : c5 = _ := by simpa using q5
            obtain rfl : c6 = _ := by simpa using q6
            obtain rfl : c7 = _ := by simpa using q7
            refine ⟨⟨v2, v3, v4, v5, v6, v7⟩, ⟨bounds_i64 w2, bounds_i64 w3, bounds_i64 w4, bounds_i64 w5, bounds_i64 w6, bounds_i64 w7⟩, fun j u hu => ?_⟩
            have hj : j < 6 := by
              have := (List.getElem?_eq_some_iff.1 hu).1
              simpa [rcells] using this
            have := hat j hj
            rw [Go.Deep.add_add] at this
            rw [this]
            exact hu
    obtain ⟨f, hf2⟩ := Go.Deep.choose_lt each
    refine ⟨some x, n, c, (List.range n).map f, rfl, by simp, hl, by unfold maxLen at hm; omega, ?_, fun hp => ?_⟩
    · intro r hr
      simp only [List.mem_map, List.mem_range] at hr
      obtain ⟨i, hi', rfl⟩ := hr
      exact (hf2 i hi').1
    · obtain ⟨b, off, spot⟩ := x
      have hc0 := (hf2 0 hp).2 0 _ rfl
      have hspot : spot = none := by simpa [Addr.add] using World.cell?_spot hc0
      subst hspot
      refine ⟨b, off, rfl, ?_, fun k r hr j u hu => ?_⟩
      · have := block_lt_of_cell hc0
        simpa [Addr.add] using this
      · have hk : k < n := by
          have := (List.getElem?_eq_some_iff.1 hr).1
          simpa using this
        simp only [List.getElem?_map, List.getElem?_range hk, Option.map_some, Option.some.injEq] at hr
        subst hr
        have := (hf2 k hk).2 j u hu
        rw [Addr.add_lit] at this
        rw [Nat.add_assoc]
        exact this
end Go.Proofs.Ytdmfgffjplbloaa.CmtL
namespace Go.Proofs.Ytdmfgffjplbloaa.CmtV
open Go.RowKit Go.Proofs.Ytdmfgffjplbloaa.Kit Go.Proofs.Ytdmfgffjplbloaa.Byt Go.Proofs.Ytdmfgffjplbloaa.Mem Go.Proofs.Ytdmfgffjplbloaa.DskA Go.Proofs.Ytdmfgffjplbloaa.DskB Go.Proofs.Ytdmfgffjplbloaa.DskD Go.Proofs.Ytdmfgffjplbloaa.DskE Go.Proofs.Ytdmfgffjplbloaa.DskF Go.Proofs.Ytdmfgffjplbloaa.RecM Go.Proofs.Ytdmfgffjplbloaa.StgM Go.Proofs.Ytdmfgffjplbloaa.StgP Go.Proofs.Ytdmfgffjplbloaa.StgQ Go.Proofs.Ytdmfgffjplbloaa.StgJ Go.Proofs.Ytdmfgffjplbloaa.Put2 Go.Proofs.Ytdmfgffjplbloaa.CmtM
/-- A disk that is up, or one that went down while a record was being saved. -/
def Lw (s : St) (l : Lg) : Option Rc → Prop
  | none => Li s l
  | some y => Ld s l y
theorem Lw.fits {s : St} {l : Lg} {m : Option Rc} (h : Lw s l m) : s.L.length ≤ 1000000 ∧ (l.p ≤ 3 ∧ 10 * l.p + 2 ≤ s.S.length) ∧ (l.r.right ∧ l.r.p = l.p ∧ l.i ≤ 1) := by
  cases m with
  | none =>
    have h : Li s l := h
    exact ⟨by rw [h.up.none_]; exact Nat.zero_le _, ⟨h.p3, h.len⟩, h.right, h.pp, h.i1⟩
  | some y =>
    have h : Ld s l y := h
    exact ⟨by have := h.most; omega, ⟨h.p3, h.len⟩, h.right, h.pp, h.i1⟩
theorem Lw.save {s : St} {l : Lg} {m : Option Rc} (h : Lw s l m) (r : Rc) :
    (lS s l r).2.1.p = l.p ∧ (((lS s l r).2.2 = (nx l.r r).2 ∧ (lS s l r).2.2 ≠ 8 ∧ Lw (lS s l r).1 (lS s l r).2.1 m ∧ (lS s l r).2.1.r = (nx l.r r).1) ∨
    ((lS s l r).2.2 = 8 ∧ (nx l.r r).2 = 0 ∧ (lS s l r).2.1 = l ∧ ((m = none ∧ Lw (lS s l r).1 l (some (nx l.r r).1)) ∨ ∃ z, m = some z ∧ Lw (lS s l r).1 l (some z) ∧ 1 ≤ z.q))) := by
  cases m with
  | none =>
    rcases step_S (show Li s l from h) r with ⟨h1, h2, h3, h4, h5⟩ | ⟨h1, h2, h3, h4⟩
    · exact ⟨h5, .inl ⟨h1, h2, h3, h4⟩⟩
    · exact ⟨by rw [h3], .inr ⟨h1, h2, h3, .inl ⟨rfl, h4⟩⟩⟩
  | some z =>
    have h : Ld s l z := h
    obtain ⟨e1, e2, e3⟩ := down_S (s := s) (l := l) h.down r
    refine ⟨by rw [e2], ?_⟩
    rw [e1, e2]
    rcases e3 with ⟨f0, h8⟩ | ⟨f0, hf, h8, hy⟩
    · exact .inr ⟨h8, f0, rfl, .inr ⟨z, rfl, h, h.righty.1.2.1.1⟩⟩
    · exact .inl ⟨hf, h8, h, hy.symm⟩
theorem Lw.fuse {s : St} {l : Lg} (h : Lw s l none) {n : Int} (lo : -9223372036854775808 ≤ n) (hi : n ≤ 9223372036854775807) : Lw { s with fuse := n } l none := by
  have h : Li s l := h
  exact ⟨⟨h.up.up, h.up.none_, ⟨h.up.ok.pos, h.up.ok.most, h.up.ok.sec, h.up.ok.wait, lo, hi⟩⟩, h.p3, h.len, h.right, h.pp, h.i1, h.tell, ⟨h.byts.laid, h.byts.wait⟩⟩
theorem Lw.power {s : St} {l : Lg} {m : Option Rc} (h : Lw s l m) (K : Nat) :
    (Lw (power K s) l none ∧ ∀ z, m = some z → l.r ≠ z ∧ 1 ≤ z.q) ∨ (∃ z, m = some z ∧ 1 ≤ z.q ∧ Lw (power K s) ⟨l.p, z, 1 - l.i⟩ none) := by
  cases m with
  | none => exact .inl ⟨(up_power (show Li s l from h) K).1, fun z e => (by cases e)⟩
  | some z =>
    have h : Ld s l z := h
    rcases dn_power h K with ⟨h1, _⟩ | ⟨h1, _⟩
    · refine .inl ⟨h1, fun z' e => ?_⟩
      injection e with e
      subst e
      exact ⟨fun e => by have := h.q; rw [e] at this; omega, h.righty.1.2.1.1⟩
    · exact .inr ⟨z, rfl, h.righty.1.2.1.1, h1⟩
end Go.Proofs.Ytdmfgffjplbloaa.CmtV
namespace Go.Proofs.Ytdmfgffjplbloaa.CmtR
open Go.RowKit Go.Proofs.Ytdmfgffjplbloaa.Kit Go.Proofs.Ytdmfgffjplbloaa.Byt Go.Proofs.Ytdmfgffjplbloaa.Mem Go.Proofs.Ytdmfgffjplbloaa.DskA Go.Proofs.Ytdmfgffjplbloaa.DskB Go.Proofs.Ytdmfgffjplbloaa.DskD Go.Proofs.Ytdmfgffjplbloaa.DskE Go.Proofs.Ytdmfgffjplbloaa.DskF Go.Proofs.Ytdmfgffjplbloaa.RecM Go.Proofs.Ytdmfgffjplbloaa.StgM Go.Proofs.Ytdmfgffjplbloaa.StgP Go.Proofs.Ytdmfgffjplbloaa.StgQ Go.Proofs.Ytdmfgffjplbloaa.StgJ Go.Proofs.Ytdmfgffjplbloaa.Put2 Go.Proofs.Ytdmfgffjplbloaa.CmtM
def s0 (a b : List Nat) : St := wrote (wrote (newSt 20) 10 a) 11 b
theorem cnt20 : cnt 20 = 20 := rfl
theorem s0_now (a b : List Nat) : now (s0 a b) 10 = a ∧ now (s0 a b) 11 = b := by simp [s0, now, wrote, newSt]
theorem s0_len (a b : List Nat) : (s0 a b).S.length = 20 := by simp [s0, wrote, newSt, cnt20]
theorem s0_free (a b : List Nat) : Free (s0 a b) := ⟨by show (-1 : Int) < 0; omega, rfl⟩
theorem s0_byts {a b : List Nat} (ha : byt a) (hb : byt b) : Byts (s0 a b) := wrote_byts (wrote_byts (new_byts 20) ha) hb
theorem s0_lO (a b : List Nat) : lO (s0 a b) 1 = ⟨1, (late 1 a b).1, (late 1 a b).2⟩ := by
  unfold lO
  rw [(s0_now a b).1, (s0_now a b).2]
  rfl
theorem cp_q (p : Int) (xs : List Nat) : (cp p xs).q = 0 ∨ 1 ≤ (cp p xs).q := by
  by_cases h : 1 ≤ (cp p xs).q
  · exact .inr h
  · left
    unfold cp at h ⊢
    by_cases e : (getR xs).2 ≠ 0 ∨ (getR xs).1.p ≠ p
    · rw [if_pos e]; rfl
    · rw [if_neg e] at h
      have e1 : (getR xs).2 = 0 := Classical.byContradiction fun h1 => e (.inl h1)
      exact absurd (getR_right e1).1.2.1.1 h
theorem late_q (p : Int) (a b : List Nat) : (late p a b).1.q = 0 ∨ 1 ≤ (late p a b).1.q := by
  unfold late
  split
  · exact cp_q p b
  · exact cp_q p a
theorem late_right {p : Int} {a b : List Nat} (h : 1 ≤ (late p a b).1.q) : (late p a b).1.right ∧ (late p a b).1.p = p := by
  unfold late at h ⊢
  split at h
  · rename_i h0
    rw [if_pos h0]
    exact ⟨cp_right h, (cp_get h).2⟩
  · rename_i h0
    rw [if_neg h0]
    exact ⟨cp_right h, (cp_get h).2⟩
theorem put1_is {s : St} (f : Free s) (i : Nat) (bs : List Nat) : put1 s i bs = (lay (fun _ => true) (wrote s i bs), 0) := by
  have e1 := spend_free f.1 f.2
  have e2 : spend (wrote s i bs) = (true, wrote s i bs) := spend_free f.1 f.2
  unfold put1
  rw [e1]
  dsimp only
  rw [if_neg (by simp), e2]
  dsimp only
  rw [if_neg (by simp)]
theorem s0_put (a b : List Nat) (i : Nat) (bs : List Nat) : (put1 (s0 a b) i bs).1.S = (((newSt 20).S.set 10 a).set 11 b).set i bs ∧ (put1 (s0 a b) i bs).1.L = [] ∧ (put1 (s0 a b) i bs).2 = 0 ∧ (put1 (s0 a b) i bs).1.down = false := by
  rw [put1_is (s0_free a b)]
  refine ⟨?_, rfl, rfl, rfl⟩
  simp [lay, wrote, s0, laidTo, newSt]
theorem two_get {S : List (List Nat)} (hl : S.length = 20) (a b bs : List Nat) {i : Nat} (hi : i < 20) :
    (((S.set 10 a).set 11 b).set i bs).getD 10 [] = (if i = 10 then bs else a) ∧ (((S.set 10 a).set 11 b).set i bs).getD 11 [] = (if i = 11 then bs else b) := by
  have h1 : 10 < S.length := by omega
  have h2 : 11 < (S.set 10 a).length := by rw [List.length_set]; omega
  have h3 : i < ((S.set 10 a).set 11 b).length := by rw [List.length_set, List.length_set]; omega
  refine ⟨?_, ?_⟩
  · rw [getD_set (j := 10) bs h3, getD_set (j := 10) b h2, if_neg (show ¬ 11 = 10 by omega), getD_set (j := 10) a h1, if_pos rfl]
  · rw [getD_set (j := 11) bs h3, getD_set (j := 11) b h2, if_pos rfl]
/-- The record that is saved stands in the other copy; the one ahead of it where it was. -/
theorem s0_save {a b : List Nat} {r : Rc} (h0 : (nx (late 1 a b).1 r).2 = 0) :
    (lS (s0 a b) ⟨1, (late 1 a b).1, (late 1 a b).2⟩ r).2.2 = 0 ∧ (lS (s0 a b) ⟨1, (late 1 a b).1, (late 1 a b).2⟩ r).2.1 = ⟨1, nextR (late 1 a b).1 r, 1 - (late 1 a b).2⟩ ∧
    (lS (s0 a b) ⟨1, (late 1 a b).1, (late 1 a b).2⟩ r).1.L = [] ∧ (lS (s0 a b) ⟨1, (late 1 a b).1, (late 1 a b).2⟩ r).1.down = false ∧ (lS (s0 a b) ⟨1, (late 1 a b).1, (late 1 a b).2⟩ r).1.S.length = 20 ∧
    ((late 1 a b).2 = 0 → now (lS (s0 a b) ⟨1, (late 1 a b).1, (late 1 a b).2⟩ r).1 10 = a ∧ now (lS (s0 a b) ⟨1, (late 1 a b).1, (late 1 a b).2⟩ r).1 11 = shut (nextR (late 1 a b).1 r).bytes) ∧
    ((late 1 a b).2 = 1 → now (lS (s0 a b) ⟨1, (late 1 a b).1, (late 1 a b).2⟩ r).1 10 = shut (nextR (late 1 a b).1 r).bytes ∧ now (lS (s0 a b) ⟨1, (late 1 a b).1, (late 1 a b).2⟩ r).1 11 = b) := by
  have hp := s0_put a b (10 * 1 + (1 - (late 1 a b).2)) (shut (nextR (late 1 a b).1 r).bytes)
  unfold lS
  dsimp only
  rw [if_neg (fun e => e h0), if_pos hp.2.2.1]
  have hl : (newSt 20).S.length = 20 := by simp [newSt, cnt20]
  refine ⟨rfl, rfl, hp.2.1, hp.2.2.2, by rw [hp.1]; simp [hl], fun e => ?_, fun e => ?_⟩
  · rw [now_S hp.2.1, now_S hp.2.1, hp.1, e]
    have h := two_get hl a b (shut (nextR (late 1 a b).1 r).bytes) (i := 10 * 1 + (1 - 0)) (by omega)
    rw [h.1, h.2]
    exact ⟨if_neg (by omega), if_pos (by omega)⟩
  · rw [now_S hp.2.1, now_S hp.2.1, hp.1, e]
    have h := two_get hl a b (shut (nextR (late 1 a b).1 r).bytes) (i := 10 * 1 + (1 - 1)) (by omega)
    rw [h.1, h.2]
    exact ⟨if_pos (by omega), if_neg (by omega)⟩
theorem s0_no {a b : List Nat} {r : Rc} (h0 : (nx (late 1 a b).1 r).2 ≠ 0) : lS (s0 a b) ⟨1, (late 1 a b).1, (late 1 a b).2⟩ r = (s0 a b, ⟨1, (late 1 a b).1, (late 1 a b).2⟩, (nx (late 1 a b).1 r).2) := by
  unfold lS
  rw [if_pos h0]
/-- Is it the first copy that tells? -/
theorem first_iff {a b : List Nat} (_ : 1 ≤ (late 1 a b).1.q) : ((late 1 a b).2 = 0 → (late 1 a (zs 64)).1 = (late 1 a b).1) ∧ ((late 1 a b).2 = 1 → (late 1 a (zs 64)).1 ≠ (late 1 a b).1) := by
  have hz : (late 1 a (zs 64)).1 = cp 1 a := by
    unfold late
    rw [cp_zs]
    have := cp_q 1 a
    rw [if_neg (by show ¬ (cp 1 a).q < 0; omega)]
  rw [hz]
  obtain ⟨⟨r, i⟩, hr⟩ : ∃ x, x = late 1 a b := ⟨_, rfl⟩
  rw [← hr]
  refine ⟨fun e => ?_, fun e => ?_⟩
  · have e : i = 0 := e
    subst e
    exact (late_0 hr.symm).1
  · have e : i = 1 := e
    subst e
    have h1 := (late_1 hr.symm).2
    intro e2
    have e2 : cp 1 a = r := e2
    rw [e2] at h1
    omega
theorem late_01 (p : Int) (a b : List Nat) : (late p a b).2 = 0 ∨ (late p a b).2 = 1 := by
  have := late_i p a b
  omega
end Go.Proofs.Ytdmfgffjplbloaa.CmtR
