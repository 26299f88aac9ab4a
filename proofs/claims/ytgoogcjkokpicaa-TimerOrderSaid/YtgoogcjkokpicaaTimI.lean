/- Timers in memory: all of it; New, Len, Next, At; those that are not there. Conditions: they lie as the facts say. -/
import Derived.Test.YtgoogcjkokpicaaTimH
import Derived.Test.YtgoogcjkokpicaaTimN
namespace Go.Proofs.Ytgoogcjkokpicaa.TimI
open Go.RowKit Go.Proofs.Ytgoogcjkokpicaa.Kit Go.Proofs.Ytgoogcjkokpicaa.Byt Go.Proofs.Ytgoogcjkokpicaa.Mem Go.Proofs.Ytgoogcjkokpicaa.TimM Go.Proofs.Ytgoogcjkokpicaa.TimA Go.Proofs.Ytgoogcjkokpicaa.TimB Go.Proofs.Ytgoogcjkokpicaa.TimC Go.Proofs.Ytgoogcjkokpicaa.TimD Go.Proofs.Ytgoogcjkokpicaa.TimE Go.Proofs.Ytgoogcjkokpicaa.TimG Go.Proofs.Ytgoogcjkokpicaa.TimH Go.Proofs.Ytgoogcjkokpicaa.TimN

def ntE (E : List En) : Xs := E.map En.nt
/-- The Timers at tb: their heap and their map; X what is set. -/
structure Sx (B : Nat) (w : World) (F : Nat → Prop) (tb mb : Nat) (A : Option Addr) (n c N : Nat) (E : List En) (f : Int → Option Nat) (X : Xs) : Prop where
  hp : HpA B w F tb mb A n c E
  mp : Mp w mb N f
  nf : ¬ F mb
  bm : B ≤ mb
  nN : n ≤ N
  N9 : N ≤ 900
  ord : Hp (at_ E) n
  perm : (ntE E).Perm X
  un : Un X
  yes : ∀ i, i < n → f (at_ E i).name = some (at_ E i).b
  no : ∀ k, hw k → (∀ i, i < n → (at_ E i).name ≠ k) → f k = none
def St (B : Nat) (w : World) (G : Nat → Prop) (tb N : Nat) (X : Xs) : Prop :=
  ∃ F mb A n c E f, Sx B w F tb mb A n c N E f X ∧ ∀ i, G i ↔ F i ∨ i = mb
/-- What a call leaves. -/
def Tu (B : Nat) (w : World) (G : Nat → Prop) (tb N : Nat) (X : Xs) (r : Value) (e : Ending) (w' : World) : Prop :=
  e = .returned r ∧ ∃ G', St B w' G' tb N X ∧ Keep G w w' ∧ ∀ i, G' i → G i ∨ w.heap.size ≤ i
section
variable {B tb mb n c N : Nat} {F G : Nat → Prop} {w w' w2 : World} {A : Option Addr} {E : List En} {f : Int → Option Nat} {X Y : Xs}
theorem nt_at {i : Nat} (h : i < E.length) : (at_ E i).nt ∈ ntE E := List.mem_map.2 ⟨_, at_mem h, rfl⟩
theorem Sx.mem (h : Sx B w F tb mb A n c N E f X) {i : Nat} (hi : i < n) : (at_ E i).nt ∈ X := h.perm.mem_iff.1 (nt_at (by rw [h.hp.len]; exact hi))
theorem Sx.find (h : Sx B w F tb mb A n c N E f X) {k t : Int} (hm : (k, t) ∈ X) : ∃ i, i < n ∧ (at_ E i).name = k ∧ (at_ E i).tick = t := by
  have := h.perm.mem_iff.2 hm
  obtain ⟨e, he, hnt⟩ := List.mem_map.1 this
  obtain ⟨i, hi, hie⟩ := List.getElem_of_mem he
  have h1 : at_ E i = e := at_of (by rw [List.getElem?_eq_getElem hi, hie])
  injection hnt with e1 e2
  exact ⟨i, by rw [← h.hp.len]; exact hi, by rw [h1]; exact e1, by rw [h1]; exact e2⟩
theorem Sx.ninj (h : Sx B w F tb mb A n c N E f X) {i j : Nat} (hi : i < n) (hj : j < n) (he : (at_ E i).name = (at_ E j).name) : i = j := by
  have h1 := h.yes i hi
  have h2 := h.yes j hj
  rw [he, h2] at h1
  injection h1 with h1
  exact (h.hp.nd j i hj hi h1).symm
theorem Sx.len (h : Sx B w F tb mb A n c N E f X) : X.length = n := by
  have := h.perm.length_eq
  rw [← h.hp.len, ← this]
  simp [ntE]
theorem Sx.min0 (h : Sx B w F tb mb A n c N E f X) (hn : 0 < n) : minX X = some (at_ E 0).nt := by
  have h1 : minX (ntE E) = some (at_ E 0).nt := min_is (nt_at (by rw [h.hp.len]; exact hn)) fun q hq => by
    obtain ⟨e, he, rfl⟩ := List.mem_map.1 hq
    obtain ⟨i, hi, hie⟩ := List.getElem_of_mem he
    have e1 : at_ E i = e := at_of (by rw [List.getElem?_eq_getElem hi, hie])
    rw [← e1]
    exact h.ord.root i (by rw [← h.hp.len]; exact hi)
  exact (min_perm h.perm).symm.trans h1
theorem Sx.keep {H : Nat → Prop} (h : Sx B w F tb mb A n c N E f X) (hk : Keep H w w') (hH : ∀ i, H i → F i ∨ i = mb → False) : Sx B w' F tb mb A n c N E f X :=
  ⟨h.hp.keep hk fun i h1 h2 => hH i h1 (.inl h2), h.mp.keep hk fun h1 => hH mb h1 (.inr rfl), h.nf, h.bm, h.nN, h.N9, h.ord, h.perm, h.un, h.yes, h.no⟩
theorem St.keep {H : Nat → Prop} (h : St B w G tb N X) (hk : Keep H w w') (hH : ∀ i, H i → G i → False) : St B w' G tb N X := by
  obtain ⟨F, mb, A, n, c, E, f, h1, h2⟩ := h
  exact ⟨F, mb, A, n, c, E, f, h1.keep hk fun i h3 h4 => hH i h3 ((h2 i).2 h4), h2⟩
theorem St.below (h : St B w G tb N X) (hb : Below w.heap.size w w') : St B w' G tb N X := h.keep (H := fun _ => False) (Keep.of_below hb) fun _ h => h.elim
theorem St.perm (h : St B w G tb N X) (hp : X.Perm Y) : St B w G tb N Y := by
  obtain ⟨F, mb, A, n, c, E, f, h1, h2⟩ := h
  exact ⟨F, mb, A, n, c, E, f, ⟨h1.hp, h1.mp, h1.nf, h1.bm, h1.nN, h1.N9, h1.ord, h1.perm.trans hp, h1.un.perm hp, h1.yes, h1.no⟩, h2⟩
theorem St.bd (h : St B w G tb N X) : ∀ i, G i → B ≤ i ∧ i < w.heap.size := by
  obtain ⟨F, mb, A, n, c, E, f, h1, h2⟩ := h
  intro i hi
  rcases (h2 i).1 hi with h3 | rfl
  · exact h1.hp.bd i h3
  · exact ⟨h1.bm, h1.mp.lt⟩
theorem St.base (h : St B w G tb N X) : B ≤ w.heap.size := by
  obtain ⟨F, mb, A, n, c, E, f, h1, h2⟩ := h
  exact h1.hp.base
theorem St.un (h : St B w G tb N X) : Un X := by
  obtain ⟨F, mb, A, n, c, E, f, h1, h2⟩ := h
  exact h1.un
theorem St.lenN (h : St B w G tb N X) : X.length ≤ N := by
  obtain ⟨F, mb, A, n, c, E, f, h1, h2⟩ := h
  rw [h1.len]
  exact h1.nN
theorem St.wf (h : St B w G tb N X) : ∀ p ∈ X, hw p.1 ∧ hw p.2 := by
  obtain ⟨F, mb, A, n, c, E, f, h1, h2⟩ := h
  intro p hp
  obtain ⟨i, hi, e1, e2⟩ := h1.find (k := p.1) (t := p.2) hp
  have := (h1.hp.en _ (at_mem (by rw [h1.hp.len]; exact hi))).2.2
  rw [e1, e2] at this
  exact this

set_option maxRecDepth 100000 in
theorem new_any (w : World) : Calls Try.prog 8 #[] w fun e w' => ∃ tb G, e = .returned (.pointer (some ⟨tb, 0, none⟩)) ∧ St w.heap.size w' G tb 0 [] ∧ Below w.heap.size w w' := by
  have hmm := @run_makeMap Try.prog
  go_enter Try.func8, Try.ntmps8
  go_wp2
  go_ret
  have e1 : (w.alloc (.map #[] 0)).heap.size = w.heap.size + 1 := by simp
  have hM := (Mp.made w).keep (Keep.of_below (F := fun _ => False) ((Below.refl (w.alloc (.map #[] 0)).heap.size (w.alloc (.map #[] 0))).alloc (Nat.le_refl _) (.cells #[.slice none 0 0, .map (some w.heap.size)] 55))) id
  have hB := Blk.new (w.alloc (.map #[] 0)) 55 [.slice none 0 0, .map (some w.heap.size)]
  rw [e1] at hB
  have hb : Below w.heap.size w ((w.alloc (.map #[] 0)).alloc (.cells #[.slice none 0 0, .map (some w.heap.size)] 55)) :=
    ((Below.refl _ _).alloc (Nat.le_refl _) _).alloc (by simp) _
  have e2 : ((w.alloc (.map #[] 0)).alloc (.cells #[.slice none 0 0, .map (some w.heap.size)] 55)).heap.size = w.heap.size + 2 := by simp
  refine ⟨w.heap.size + 1, _, rfl, ⟨fun i => i = w.heap.size + 1, w.heap.size, none, 0, 0, [], fun _ => none, ⟨⟨fun i hi => (by subst hi; rw [e2]; omega), (by rw [e2]; omega), hB, rfl, World.ownsRow_nil _ _ _ _, fun g hg => (by cases hg), rfl, (by omega), fun k hk => (by omega), fun e he => (by simp at he), fun i j hi => (by omega)⟩, hM, (by show ¬ w.heap.size = w.heap.size + 1; omega), Nat.le_refl _, Nat.le_refl _, (by omega), fun c _ hc => (by omega), List.Perm.refl _, un_nil, fun i hi => (by omega), fun _ _ _ => rfl⟩, fun i => Iff.rfl⟩, hb⟩
theorem len_any (h : St B w G tb N X) : Calls Try.prog 18 #[.pointer (some ⟨tb, 0, none⟩)] w fun e w' => e = .returned (.int .i64 (X.length : Nat)) ∧ w' = w := by
  obtain ⟨F, mb, A, n, c, E, f, h1, h2⟩ := h
  have c0 := h1.hp.box.cell (i := 0) rfl
  rw [h1.len]
  clear h1 h2
  go_enter Try.func18, Try.ntmps18
  go_wp2
  go_ret
  exact ⟨rfl, rfl⟩
theorem len_nil (w : World) : Calls Try.prog 18 #[.pointer none] w fun e w' => e = .returned (.int .i64 0) ∧ w' = w := by
  go_enter Try.func18, Try.ntmps18
  go_wp2
  go_ret
  exact ⟨rfl, rfl⟩
theorem next_nil (w : World) : Calls Try.prog 16 #[.pointer none] w fun e w' => e = .returned (.tuple #[.int .i64 0, .bool false]) ∧ w' = w := by
  go_enter Try.func16, Try.ntmps16
  go_wp2_with (go_at_call 18; refine (len_nil w).mono ?_; rintro e w1 ⟨rfl, rfl⟩)
  go_ret2
  exact ⟨rfl, rfl⟩
theorem at_nil (w : World) (k : Int) : Calls Try.prog 19 #[.pointer none, .int .i64 k] w fun e w' => e = .returned (.tuple #[.int .i64 0, .bool false]) ∧ w' = w := by
  go_enter Try.func19, Try.ntmps19
  go_wp2
  go_ret2
  exact ⟨rfl, rfl⟩
theorem set_nil (w : World) (k t : Int) : Calls Try.prog 9 #[.pointer none, .int .i64 k, .int .i64 t] w fun e w' => e = .returned (.tuple #[]) ∧ w' = w := by
  go_enter Try.func9, Try.ntmps9
  go_wp2
  refine bodyPost_ret (results_none rfl _ _ _) rfl ?_
  exact ⟨rfl, rfl⟩
theorem stop_nil (w : World) (k : Int) : Calls Try.prog 12 #[.pointer none, .int .i64 k] w fun e w' => e = .returned (.bool false) ∧ w' = w := by
  go_enter Try.func12, Try.ntmps12
  go_wp2
  go_ret
  exact ⟨rfl, rfl⟩
set_option maxHeartbeats 1000000 in
theorem next_any (h : St B w G tb N X) : Calls Try.prog 16 #[.pointer (some ⟨tb, 0, none⟩)] w fun e w' => e = .returned (.tuple #[.int .i64 (nextX X).1, .bool (nextX X).2]) ∧ w' = w := by
  have hL := Lib.hid (len_any h)
  obtain ⟨F, mb, A, n, c, E, f, h1, h2⟩ := h
  have hl := h1.len
  have hm := h1.hp.most
  by_cases h0 : n = 0
  · have hx : nextX X = (0, false) := by
      have : X = [] := List.eq_nil_of_length_eq_zero (by omega)
      subst this
      rfl
    rw [hx]
    rw [hl, h0] at hL
    clear h1 h2 hl hm h0 hx
    go_enter Try.func16, Try.ntmps16
    go_wp2_with (go_at_call 18; refine hL.out.mono ?_; rintro e w1 ⟨rfl, rfl⟩)
    go_ret2
    exact ⟨rfl, rfl⟩
  · have hx : nextX X = ((at_ E 0).tick, true) := by unfold nextX; rw [h1.min0 (by omega)]; rfl
    rw [hx]
    obtain ⟨g, ys, rfl, _⟩ := h1.hp.some_ (by omega)
    have c0 := h1.hp.box.cell (i := 0) rfl
    have ce := h1.hp.cell (k := 0) (by omega)
    have ct := h1.hp.tick (k := 0) (by omega)
    rw [hl] at hL
    have hne : ((n : Int) == 0) = false := by simp; omega
    have hn0 : 0 < n := by omega
    unfold pt at ce
    clear h1 h2 hl hx h0
    generalize at_ E 0 = x at ce ct ⊢
    go_enter Try.func16, Try.ntmps16
    go_wp2_with (go_at_call 18; refine hL.out.mono ?_; rintro e w1 ⟨rfl, rfl⟩)
    go_ret2
    exact ⟨rfl, rfl⟩
set_option maxHeartbeats 1000000 in
theorem att_any (h : St B w G tb N X) {k : Int} (hk : hw k) : Calls Try.prog 19 #[.pointer (some ⟨tb, 0, none⟩), .int .i64 k] w fun e w' => e = .returned (.tuple #[.int .i64 (atX X k).1, .bool (atX X k).2]) ∧ w' = w := by
  obtain ⟨F, mb, A, n, c, E, f, h1, h2⟩ := h
  have c1 := h1.hp.box.cell (i := 1) rfl
  have HM := Lib.hid h1.mp
  have HK := Lib.hid hk
  by_cases he : ∃ i, i < n ∧ (at_ E i).name = k
  · obtain ⟨i, hi, he⟩ := he
    have hf := h1.yes i hi
    rw [he] at hf
    have hx : atX X k = ((at_ E i).tick, true) := at_yes h1.un (by rw [← he]; exact h1.mem hi)
    rw [hx]
    have ct := h1.hp.tick hi
    clear h1 h2 he hx
    generalize at_ E i = x at hf ct ⊢
    go_enter Try.func19, Try.ntmps19
    go_wp2_with (at_lookup; refine wpList_look rfl _ _ rfl HM.out HK.out rfl rfl ?_; rw [hf]; unfold pv)
    go_ret2
    exact ⟨rfl, rfl⟩
  · have hf : f k = none := h1.no k hk fun i hi e => he ⟨i, hi, e⟩
    have hx : atX X k = (0, false) := at_no fun t ht => by
      obtain ⟨i, hi, e, _⟩ := h1.find ht
      exact he ⟨i, hi, e⟩
    rw [hx]
    clear h1 h2 he hx
    go_enter Try.func19, Try.ntmps19
    go_wp2_with (at_lookup; refine wpList_look rfl _ _ rfl HM.out HK.out rfl rfl ?_; rw [hf]; unfold pv)
    go_ret2
    exact ⟨rfl, rfl⟩
end
end Go.Proofs.Ytgoogcjkokpicaa.TimI
