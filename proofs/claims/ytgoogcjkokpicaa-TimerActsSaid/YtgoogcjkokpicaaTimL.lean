/- Timers in memory: Due. Conditions: they lie as the facts say. -/
import Derived.Test.YtgoogcjkokpicaaTimK
namespace Go.Proofs.Ytgoogcjkokpicaa.TimL
open Go.RowKit Go.Proofs.Ytgoogcjkokpicaa.Kit Go.Proofs.Ytgoogcjkokpicaa.Byt Go.Proofs.Ytgoogcjkokpicaa.Mem Go.Proofs.Ytgoogcjkokpicaa.TimM Go.Proofs.Ytgoogcjkokpicaa.TimA Go.Proofs.Ytgoogcjkokpicaa.TimB Go.Proofs.Ytgoogcjkokpicaa.TimC Go.Proofs.Ytgoogcjkokpicaa.TimD Go.Proofs.Ytgoogcjkokpicaa.TimE Go.Proofs.Ytgoogcjkokpicaa.TimF Go.Proofs.Ytgoogcjkokpicaa.TimG Go.Proofs.Ytgoogcjkokpicaa.TimH Go.Proofs.Ytgoogcjkokpicaa.TimN Go.Proofs.Ytgoogcjkokpicaa.TimI Go.Proofs.Ytgoogcjkokpicaa.TimJ Go.Proofs.Ytgoogcjkokpicaa.TimK

def ints (l : List Int) : List Value := l.map (Value.int .i64)
theorem ints_one (l : List Int) : ∀ u ∈ ints l, u.oneCell' = true := ints_oneCell _ _
theorem ints_app (l m : List Int) : ints l ++ ints m = ints (l ++ m) := by simp [ints]
theorem ints_len (l : List Int) : (ints l).length = l.length := List.length_map ..
theorem info_int : (Try.prog.info? 3).map (fun i => (i.zero, i.size, i.bytes)) = some (some (.int .i64 0), 1, 8) := by kernel_rfl
theorem one_rd (w : World) (x : Int) : Rd (w.alloc (.cells #[.int .i64 x] 3)) (some ⟨w.heap.size, 0, none⟩) 1 1 (ints [x]) :=
  Rd.own (base := 0) (own_of_block (cur := [.int .i64 x]) (heap_alloc_new w _) (Nat.zero_le _) (Nat.le_refl _) (by simp))
def lenOf : Value → Nat
  | .slice _ n _ => n
  | _ => 0
/-- What Due leaves: names in new memory. -/
def Du (B : Nat) (w : World) (G : Nat → Prop) (tb N : Nat) (X : Xs) (l : List Int) (A : Option Addr) (n c : Nat) (w' : World) : Prop :=
  ∃ G', w'.ownsRow w.heap.size 3 1 (.slice A n c) n (ints l) ∧ St B w' G' tb N X ∧ Keep G w w' ∧ (∀ i, G' i → G i ∨ w.heap.size ≤ i) ∧ ∀ g, (Value.slice A n c).ownBlock = some g → ¬ G' g
section
variable {B tb mb n c N g k i : Nat} {F G : Nat → Prop} {w wr w1 w2 : World} {A : Option Addr} {E E1 E2 : List En} {f : Int → Option Nat} {X Y : Xs} {x y : En} {l : List Int}
theorem Du.len (h : Du B w G tb N X l A n c w1) : l.length = n := by
  obtain ⟨G', h1, _⟩ := h
  have := h1.1
  rw [ints_len] at this
  omega
/-- One more name. -/
theorem du_more {A2 : Option Addr} {n2 c2 : Nat} {w3 : World} {v : Int} {G1 : Nat → Prop} {o : Obj} (d1 : wr.ownsRow w.heap.size 3 1 (.slice A n c) n (ints l)) (d3 : Keep G w wr) (d4 : ∀ i, G1 i → G i ∨ w.heap.size ≤ i) (d5 : ∀ g, (Value.slice A n c).ownBlock = some g → ¬ G1 g)
    (q1 : St B w2 G1 tb N Y) (q2 : Keep G1 wr w2) (ho : w3.ownsRow w.heap.size 3 1 (.slice A2 n2 c2) n2 (ints l ++ ints [v])) (hg : (w2.alloc o).grownBy w3 (Value.slice A n c).ownBlock)
    (hat : (Value.slice A2 n2 c2).ownBlock = (Value.slice A n c).ownBlock ∨ (Value.slice A2 n2 c2).ownBlock = some (w2.alloc o).heap.size) : Du B w G tb N Y (l ++ [v]) A2 n2 c2 w3 := by
  have k2 : Keep (fun i => (Value.slice A n c).ownBlock = some i) w2 w3 :=
    (Keep.of_below (F := fun i => (Value.slice A n c).ownBlock = some i) ((Below.refl _ _).alloc (Nat.le_refl _) o)).trans (Keep.grown (F := fun i => (Value.slice A n c).ownBlock = some i) hg fun _ h => h) fun _ h => .inl h
  refine ⟨G1, by rw [← ints_app]; exact ho, q1.keep k2 fun i h1 h2 => d5 i h1 h2, (d3.trans q2 d4).trans k2 fun i h1 => .inr (d1.lt i h1).1, d4, fun g hg' h1 => ?_⟩
  rcases hat with e | e
  · rw [e] at hg'
    exact d5 g hg' h1
  · rw [e] at hg'
    injection hg' with hg'
    have := (q1.bd g h1).2
    have e2 : (w2.alloc o).heap.size = w2.heap.size + 1 := by simp
    omega
set_option maxHeartbeats 4000000 in
set_option maxRecDepth 100000 in
theorem due_any (h : St B w G tb N X) (t : Int) : Calls Try.prog 15 #[.pointer (some ⟨tb, 0, none⟩), .int .i64 t] w fun e w' => ∃ A n c, e = .returned (.slice A n c) ∧ Du B w G tb N (dueL X t) (dueN X t) A n c w' := by
  obtain ⟨i0, hi0, hz0, hz1, hz2⟩ := info_parts info_int
  have hlX : X.length ≤ 900 := by
    have := h.lenN
    obtain ⟨F, mb, A, n, c, E, f, h1, h2⟩ := h
    have := h1.N9
    omega
  have HH := Lib.hid h
  obtain ⟨P, hP⟩ : ∃ P : Ending → World → Prop, P = fun e w' => ∃ A n c, e = .returned (.slice A n c) ∧ Du B w G tb N (dueL X t) (dueN X t) A n c w' := ⟨_, rfl⟩
  rw [← hP]
  have HP := Lib.hid (show ∀ A n c w', Du B w G tb N (dueL X t) (dueN X t) A n c w' → P (.returned (.slice A n c)) w' from fun A n c w' h => by rw [hP]; exact ⟨A, n, c, rfl, h⟩)
  clear h hP
  go_enter Try.func15, Try.ntmps15
  go_wp2
  go_loopw [5] (fun v wr => ∃ (A : Option Addr) (n c : Nat) (l : List Int) (Y : Xs), v = .slice A n c ∧ Hid (Du B w G tb N Y l A n c wr) ∧ Hid (n + Y.length ≤ X.length) ∧ Hid (l ++ dueN Y t = dueN X t) ∧ Hid (dueL Y t = dueL X t)) (fun v _ => X.length - lenOf v)
  case atStart => exact ⟨none, 0, 0, [], X, rfl, Lib.hid ⟨G, World.ownsRow_nil _ _ _ _, HH.out, Keep.refl _ _, fun i hi => .inl hi, fun g hg => by cases hg⟩, Lib.hid (by omega), Lib.hid rfl, Lib.hid rfl⟩
  case round =>
    obtain ⟨A, n, c, l, Y, rfl, HD, HN, HL1, HL2⟩ := hrel
    obtain ⟨G1, d1, d2, d3, d4, d5⟩ := HD.out
    have hx := Lib.hid (next_any d2)
    have D1 := Lib.hid d1
    have D2 := Lib.hid d2
    have D3 := Lib.hid d3
    have D4 := Lib.hid d4
    have D5 := Lib.hid d5
    clear d1 d2 d3 d4 d5
    cases hm : minX Y with
    | none =>
      have hnx : nextX Y = (0, false) := by unfold nextX; rw [hm]
      rw [hnx] at hx
      obtain ⟨a1, a2⟩ := due_no (X := Y) (t := t) (fun p hp => by rw [hm] at hp; cases hp)
      have HZ := Lib.hid (show Du B w G tb N (dueL X t) (dueN X t) A n c wr from by
        rw [← HL1.out, ← HL2.out, a1, a2, List.append_nil]
        exact HD.out)
      clear a1 a2 hm hnx
      go_wp2_with (go_at_call 16; refine hx.out.mono ?_; rintro e w1 ⟨rfl, rfl⟩)
      exact HP.out _ _ _ _ HZ.out
    | some p =>
      have hnx : nextX Y = (p.2, true) := by unfold nextX; rw [hm]
      rw [hnx] at hx
      by_cases ht : p.2 ≤ t
      · obtain ⟨a1, a2⟩ := due_yes hm ht
        obtain ⟨F, mb, A1, n1, c1, E, f, h1, h2⟩ := D2.out
        have hYl := stop_less (min_some hm).1
        have hn1 : 0 < n1 := by
          rw [← h1.len]
          have := (min_some hm).1
          exact List.length_pos_of_mem this
        obtain ⟨gh, ys, rfl, _⟩ := h1.hp.some_ hn1
        obtain ⟨k, rfl⟩ : ∃ k, n1 = k + 1 := ⟨n1 - 1, by omega⟩
        have h0 := h1.min0 (by omega)
        have hpx : p = (at_ E 0).nt := by rw [hm] at h0; injection h0
        have hnm : (at_ E 0).name = p.1 := by rw [hpx]; rfl
        have htk := Lib.hid (take_any h1 (i := 0) (Nat.zero_le _))
        unfold Tk at htk
        rw [hnm] at htk
        have HG2 := Lib.hid h2
        have hnX : n + 1 ≤ 900 := by have := HN.out; omega
        have hle : ¬ t < p.2 := by omega
        have HYL := Lib.hid hYl
        have HA1 := Lib.hid a1
        have HA2 := Lib.hid a2
        clear h1 h2 h0 hpx hnm hYl hm hnx a1 a2
        go_wp2_with (first
          | (go_at_call 16; refine hx.out.mono ?_; rintro e w1 ⟨rfl, rfl⟩)
          | (go_at_call 22; refine htk.out.mono ?_; rintro e w2 ⟨rfl, q1, q2⟩; have Q1 := Lib.hid (show St _ w2 G1 tb N (stopX Y p.1) from q1.elim fun E1 q => ⟨F, mb, _, k, c1, E1, _, q, HG2.out⟩); have Q2 := Lib.hid (G_keep HG2.out q2); have S2 : w.heap.size ≤ w2.heap.size := (by have := D3.out.size; have := q2.size; omega); have O2 := Lib.hid ((Q2.out.own D1.out D5.out).alloc (.cells #[.int .i64 p.1] 3)); clear q1 q2)
          | (at_builtin; refine wpList_add _ rfl (.tmp 21) (.tmp 24) _ rfl w.heap.size 3 i0 _ 8 Try.underlying33 hi0 hz0 hz1 hz2 rfl _ n (ints l) rfl O2.out (some ⟨w2.heap.size, 0, none⟩) 1 1 (ints [p.1]) rfl (one_rd _ _) (ints_one _) (by omega) (by omega) (by simp; omega) ?_; intro A2 n2 c2 w3 hn2 hown2 hg2 hat2; have HDU := Lib.hid (du_more D1.out D3.out D4.out D5.out Q1.out Q2.out hown2 hg2 hat2); have HN2 := Lib.hid hn2.out; clear hn2 hown2 hg2 hat2))
        go_roundw
        case rel => exact ⟨A2, n2, c2, l ++ [p.1], stopX Y p.1, rfl, HDU, Lib.hid (by have := HN.out; have := HN2.out; have := HYL.out; omega), Lib.hid (by rw [← HL1.out, HA1.out]; simp), Lib.hid (by rw [← HL2.out, HA2.out])⟩
        case measure => have h1 := HN.out; have h2 := HN2.out; have h3 := HYL.out; simp [lenOf]; omega
      · have HZ := Lib.hid (show Du B w G tb N (dueL X t) (dueN X t) A n c wr from by
          obtain ⟨a1, a2⟩ := due_no (X := Y) (t := t) (fun q hq => by rw [hm] at hq; injection hq with hq; rw [← hq]; exact ht)
          rw [← HL1.out, ← HL2.out, a1, a2, List.append_nil]
          exact HD.out)
        have hlt : t < p.2 := by omega
        clear hm hnx ht
        go_wp2_with (go_at_call 16; refine hx.out.mono ?_; rintro e w1 ⟨rfl, rfl⟩)
        exact HP.out _ _ _ _ HZ.out
end
end Go.Proofs.Ytgoogcjkokpicaa.TimL
