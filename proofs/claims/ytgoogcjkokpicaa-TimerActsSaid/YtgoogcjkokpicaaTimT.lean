/- The document's own timers (a list) in memory: Due. Conditions: the list lies as the facts say. -/
import Derived.Test.YtgoogcjkokpicaaTimS
import Derived.StillTailTactics
import Derived.Deep.RegionLaw
namespace Go.Proofs.Ytgoogcjkokpicaa.TimT
open Go.RowKit Go.Proofs.Ytgoogcjkokpicaa.Kit Go.Proofs.Ytgoogcjkokpicaa.Byt Go.Proofs.Ytgoogcjkokpicaa.Mem Go.Proofs.Ytgoogcjkokpicaa.TimM Go.Proofs.Ytgoogcjkokpicaa.TimA Go.Proofs.Ytgoogcjkokpicaa.TimN Go.Proofs.Ytgoogcjkokpicaa.TimQ Go.Proofs.Ytgoogcjkokpicaa.TimL Go.Proofs.Ytgoogcjkokpicaa.TimP Go.Proofs.Ytgoogcjkokpicaa.TimR Go.Proofs.Ytgoogcjkokpicaa.TimS

/-- What is under way: names so far at A1, the list that is left at A2; g the block of both, r the one of the result. -/
structure Gn (w wr : World) (A : Option Addr) (g r : Nat) (A1 : Option Addr) (n1 c1 : Nat) (A2 : Option Addr) (n2 c2 : Nat) (l : List Int) (Y : Xs) : Prop where
  bel : Below w.heap.size w wr
  gb : Blk wr g 35 [.slice A1 n1 c1, .slice A2 n2 c2]
  rb : Blk wr r 35 [.slice none 0 0, .slice none 0 0]
  gr : g ≠ r ∧ w.heap.size ≤ g ∧ w.heap.size ≤ r
  own : wr.ownsRow w.heap.size 3 1 (.slice A1 n1 c1) n1 (ints l)
  og : ∀ i, (Value.slice A1 n1 c1).ownBlock = some i → i ≠ g ∧ i ≠ r
  on : On wr A2 n2 c2 Y
  ob : 0 < n2 → ∀ b o, A2 = some ⟨b, o, none⟩ → b ≠ g ∧ b ≠ r ∧ (Value.slice A1 n1 c1).ownBlock ≠ some b ∧ ((∃ o', A = some ⟨b, o', none⟩) ∨ w.heap.size ≤ b)
theorem Gn.drewN {w wr : World} {A A1 A2 : Option Addr} {n1 c1 n2 c2 g r : Nat} {Y : Xs} {l : List Int} (h : Gn w wr A g r A1 n1 c1 A2 n2 c2 l Y) (q : Nat) : Gn w (wr.drewN q) A g r A1 n1 c1 A2 n2 c2 l Y :=
  ⟨Go.Proofs.Ytgoogcjkokpicaa.TimW.below_drewN h.bel q, h.gb, h.rb, h.gr, h.own, h.og, h.on, h.ob⟩
section
variable {w wr : World} {A A1 A2 : Option Addr} {n c n1 c1 n2 c2 g r : Nat} {X Y : Xs} {l : List Int} {t : Int}
theorem own_sh {W : World} {base : Nat} {e : TypeId} {size : Nat} {v : Value} {k : Nat} {xs : List Value} (h : W.ownsRow base e size v k xs) : ∃ A c, v = .slice A k c := by
  rcases h.2 with ⟨rfl, rfl⟩ | ⟨g, cap, cur, rfl, _⟩
  · exact ⟨none, 0, rfl⟩
  · exact ⟨_, _, rfl⟩
theorem app_keep {w3 : World} {p : Int} (hg : (wr.drew.alloc (.cells #[.int .i64 p] 3)).grownBy w3 (Value.slice A1 n1 c1).ownBlock) : Keep (fun i => (Value.slice A1 n1 c1).ownBlock = some i) wr w3 :=
  (Keep.of_below (F := fun i => (Value.slice A1 n1 c1).ownBlock = some i) (w := wr) (w' := wr.drew.alloc (.cells #[.int .i64 p] 3)) ⟨rfl, rfl, rfl, by simp, fun i hi => (Below.heap_alloc wr.drew _ i hi)⟩).trans (Keep.grown (F := fun i => (Value.slice A1 n1 c1).ownBlock = some i) hg fun _ h => h) fun _ h => .inl h
theorem gn_far {w3 : World} {p : Int} (h : Gn w wr A g r A1 n1 c1 A2 n2 c2 l Y) (hg : (wr.drew.alloc (.cells #[.int .i64 p] 3)).grownBy w3 (Value.slice A1 n1 c1).ownBlock) : w3.cell? ⟨g, 0, none⟩ = some (.slice A1 n1 c1) ∧ w3.frozen? ⟨g, 0, none⟩ = false := by
  have hb := (app_keep hg).blk h.gb fun hi => (h.og g hi).1 rfl
  exact ⟨hb.cell (i := 0) rfl, hb.frozen 0⟩
/-- One name more. -/
theorem gn_app {w3 : World} {p : Int} {A3 : Option Addr} {c3 : Nat} (h : Gn w wr A g r A1 n1 c1 A2 n2 c2 l Y) (ho : w3.ownsRow w.heap.size 3 1 (.slice A3 (n1 + 1) c3) (n1 + 1) (ints l ++ ints [p])) (hg : (wr.drew.alloc (.cells #[.int .i64 p] 3)).grownBy w3 (Value.slice A1 n1 c1).ownBlock)
    (hat : (Value.slice A3 (n1 + 1) c3).ownBlock = (Value.slice A1 n1 c1).ownBlock ∨ (Value.slice A3 (n1 + 1) c3).ownBlock = some (wr.drew.alloc (.cells #[.int .i64 p] 3)).heap.size) :
    Gn w (w3.setCell ⟨g, 0, none⟩ (.slice A3 (n1 + 1) c3)) A g r A3 (n1 + 1) c3 A2 n2 c2 (l ++ [p]) Y := by
  have k3 := app_keep hg
  have kg : Keep (fun i => i = g) w3 (w3.setCell ⟨g, 0, none⟩ (.slice A3 (n1 + 1) c3)) := Keep.set w3 0 _ rfl
  have hsz : (wr.drew.alloc (.cells #[.int .i64 p] 3)).heap.size = wr.heap.size + 1 := by simp
  have hgl := h.gb.lt
  have hrl := h.rb.lt
  have hob : ∀ i, (Value.slice A3 (n1 + 1) c3).ownBlock = some i → (Value.slice A1 n1 c1).ownBlock = some i ∨ i = wr.heap.size + 1 := fun i hi => by
    rcases hat with e | e
    · rw [e] at hi; exact .inl hi
    · rw [e, hsz] at hi; injection hi with hi; exact .inr hi.symm
  refine ⟨(h.bel.trans (k3.below (fun i hi => (h.own.lt i hi).1) h.bel.size)).trans (kg.below (fun i hi => by rw [hi]; exact h.gr.2.1) (by have := h.bel.size; have := k3.size; omega)), (k3.blk h.gb fun hi => (h.og g hi).1 rfl).set 0 _, (k3.blk h.rb fun hi => (h.og r hi).2 rfl).far (p := ⟨g, 0, none⟩) h.gr.1.symm _, h.gr, ?_, fun i hi => ?_, (h.on.keep k3 fun hp b o hA hi => (h.ob hp b o hA).2.2.1 hi).keep kg fun hp b o hA => (h.ob hp b o hA).1, fun hp b o hA => ⟨(h.ob hp b o hA).1, (h.ob hp b o hA).2.1, fun hi => ?_, (h.ob hp b o hA).2.2.2⟩⟩
  · rw [← ints_app]
    refine kg.own ho fun i hi e => ?_
    rcases hob i hi with h1 | h1
    · exact (h.og i h1).1 e
    · omega
  · rcases hob i hi with h1 | h1
    · exact h.og i h1
    · exact ⟨by omega, by omega⟩
  · rcases hob b hi with h1 | h1
    · exact (h.ob hp b o hA).2.2.1 h1
    · obtain ⟨b', o', hA', hb', _⟩ := h.on.2.2.2 hp
      rw [hA] at hA'
      injection hA' with hA'
      injection hA' with e _
      omega
/-- One fewer in the list. -/
theorem gn_stop {w4 : World} {k : Int} {A4 : Option Addr} {n4 c4 : Nat} (h : Gn w wr A g r A1 n1 c1 A2 n2 c2 l Y) (ho : w4.ownsRow wr.heap.size 43 2 (.slice A4 n4 c4) n4 ((stopX Y k).flatMap pcs)) (hb : Below wr.heap.size wr w4) :
    Gn w (w4.setCell ⟨g, 1, none⟩ (.slice A4 n4 c4)) A g r A1 n1 c1 A4 n4 c4 l (stopX Y k) := by
  have kg : Keep (fun i => i = g) w4 (w4.setCell ⟨g, 1, none⟩ (.slice A4 n4 c4)) := Keep.set w4 1 _ rfl
  have hgl := h.gb.lt
  have hrl := h.rb.lt
  have hbw := h.bel.trans (hb.mono h.bel.size)
  have hnew : ∀ b o, A4 = some ⟨b, o, none⟩ → wr.heap.size ≤ b := fun b o hA => (ho.lt b (by rw [hA]; rfl)).1
  refine ⟨hbw.trans (kg.below (fun i hi => by rw [hi]; exact h.gr.2.1) hbw.size), (h.gb.below hb).set 1 _, (h.rb.below hb).far (p := ⟨g, 1, none⟩) h.gr.1.symm _, h.gr, kg.own (own_below h.own hb) fun i hi e => (h.og i hi).1 e, h.og, (On.own ho).keep kg fun _ b o hA => ?_, fun _ b o hA => ?_⟩
  · have := hnew b o hA; omega
  · have h1 := hnew b o hA
    have h2 := h.bel.size
    exact ⟨by omega, by omega, fun hi => by have := (h.own.lt b hi).2; omega, .inr (by omega)⟩
theorem gn_end (h : Gn w wr A g r A1 n1 c1 A2 n2 c2 l Y) (e1 : l ++ dueN Y t = dueN X t) (e2 : dueL Y t = dueL X t) (a1 : dueN Y t = []) (a2 : dueL Y t = Y) {W : World} (hk : Keep (fun i => i = r) wr W) :
    Rd W A1 n1 c1 (ints (dueN X t)) ∧ On W A2 n2 c2 (dueL X t) ∧ (0 < n2 → ∀ b o, A2 = some ⟨b, o, none⟩ → (∃ o', A = some ⟨b, o', none⟩) ∨ w.heap.size ≤ b) ∧ (∀ b o, A1 = some ⟨b, o, none⟩ → w.heap.size ≤ b) ∧ Below w.heap.size w W := by
  rw [a1, List.append_nil] at e1
  rw [a2] at e2
  rw [← e1, ← e2]
  exact ⟨Rd.own (hk.own h.own fun i hi => (h.og i hi).2), h.on.keep hk fun hp b o hA => (h.ob hp b o hA).2.1, fun hp b o hA => (h.ob hp b o hA).2.2.2, fun b o hA => (h.own.lt b (by rw [hA]; rfl)).1, h.bel.trans (hk.below (fun i hi => by rw [hi]; exact h.gr.2.2) h.bel.size)⟩
set_option maxRecDepth 100000 in
set_option maxHeartbeats 6400000 in
theorem rdue_any (h : On w A n c X) (hn : n ≤ 1000) (t : Int) : Calls Try.prog 13 #[.slice A n c, .int .i64 t] w fun e w' => ∃ A1 n1 c1 A2 n2 c2, e = .returned (.agg #[.slice A1 n1 c1, .slice A2 n2 c2]) ∧ Rd w' A1 n1 c1 (ints (dueN X t)) ∧ On w' A2 n2 c2 (dueL X t) ∧ (0 < n2 → ∀ b o, A2 = some ⟨b, o, none⟩ → (∃ o', A = some ⟨b, o', none⟩) ∨ w.heap.size ≤ b) ∧ (∀ b o, A1 = some ⟨b, o, none⟩ → w.heap.size ≤ b) ∧ Below w.heap.size w w' := by
  obtain ⟨i0, hi0, hz0, hz1, hz2⟩ := info_parts info_int
  have HX := Lib.hid h
  clear h
  go_enter Try.func13, Try.ntmps13
  go_upto_region 2 with (fail)
  obtain ⟨g, hg⟩ : ∃ g, g = w.heap.size + 1 := ⟨_, rfl⟩
  obtain ⟨r, hr⟩ : ∃ r, r = w.heap.size := ⟨_, rfl⟩
  obtain ⟨w1, hw1⟩ : ∃ w1, w1 = (w.alloc (.cells #[.slice none 0 0, .slice none 0 0] 35)).alloc (.cells #[.slice none 0 0, .slice A n c] 35) := ⟨_, rfl⟩
  have HG1 := Lib.hid (show Gn w w1 A g r none 0 0 A n c [] X from by
    have hb : Below w.heap.size w w1 := by rw [hw1]; exact ((Below.refl _ _).alloc (Nat.le_refl _) _).alloc (by simp) _
    have h1 : Blk (w.alloc (.cells #[.slice none 0 0, .slice none 0 0] 35)) w.heap.size 35 [.slice none 0 0, .slice none 0 0] := Blk.new w _ _
    have h2 := Blk.new (w.alloc (.cells #[.slice none 0 0, .slice none 0 0] 35)) 35 [.slice none 0 0, .slice A n c]
    rw [World.size_alloc] at h2
    refine ⟨hb, by rw [hw1, hg]; exact h2, by rw [hw1, hr]; exact h1.alloc _, ⟨by omega, by omega, by omega⟩, World.ownsRow_nil _ _ _ _, fun i hi => (by cases hi), HX.out.below hb, fun hp b o hA => ?_⟩
    subst hA
    obtain ⟨b', o', hA, hb', _⟩ := HX.out.2.2.2 hp
    injection hA with hA
    injection hA with e1 _
    subst e1
    exact ⟨by omega, by omega, fun e => (by cases e), .inl ⟨o, rfl⟩⟩)
  rw [← hw1, ← hg, ← hr]
  clear hw1 hg hr
  have HF1 := Lib.hid (first_any HG1.out.on)
  have y1 := HG1.out.gb.cell (i := 1) rfl
  go_wp2_with fail
  refine HF1.out.mono ?_
  rintro e w2 ⟨b, rfl, hfs, q, rfl⟩
  have HFS := Lib.hid hfs
  have HG2 := Lib.hid (HG1.out.drewN q)
  clear hfs HF1 HG1 y1
  go_wp2_with fail
  go_loopw [6] (fun v wr => ∃ (b : Int) (A1 : Option Addr) (n1 c1 : Nat) (A2 : Option Addr) (n2 c2 : Nat) (l : List Int) (Y : Xs), v = .int .i64 b ∧ Hid (Fst Y b) ∧ Hid (Gn w wr A g r A1 n1 c1 A2 n2 c2 l Y) ∧ Hid (n1 + n2 ≤ n) ∧ Hid (l ++ dueN Y t = dueN X t) ∧ Hid (dueL Y t = dueL X t)) (fun _ wr => n - lenOf ((wr.cell? ⟨g, 0, none⟩).getD undef))
  case atStart => exact ⟨b, none, 0, 0, A, n, c, [], X, rfl, HFS, HG2, Lib.hid (by omega), Lib.hid rfl, Lib.hid rfl⟩
  case round =>
    obtain ⟨b, A1, n1, c1, A2, n2, c2, l, Y, rfl, HFS, HG, HLE, HE1, HE2⟩ := hrel
    have g0 := HG.out.gb.cell (i := 0) rfl
    have g1 := HG.out.gb.cell (i := 1) rfl
    rcases HFS.out with ⟨hm, rfl⟩ | ⟨j, p, rfl, hj, hm⟩
    · obtain ⟨a1, a2⟩ := due_no (X := Y) (t := t) (fun p hp => by rw [hm] at hp; cases hp)
      have HA1 := Lib.hid a1
      have HA2 := Lib.hid a2
      have rf := HG.out.rb.frozen
      have r0 := HG.out.rb.cell (i := 0) rfl
      have r1 := HG.out.rb.cell (i := 1) rfl
      have HK := Lib.hid (show Keep (fun i => i = r) wr ((wr.setCell ⟨r, 0, none⟩ (.slice A1 n1 c1)).setCell ⟨r, 1, none⟩ (.slice A2 n2 c2)) from (Keep.set (F := fun i => i = r) wr 0 (.slice A1 n1 c1) rfl).trans (Keep.set (F := fun i => i = r) _ 1 _ rfl) fun _ h => .inl h)
      have HB := Lib.hid ((HG.out.rb.set 0 (.slice A1 n1 c1)).set 1 (.slice A2 n2 c2))
      clear hm a1 a2
      go_wp2_with fail
      have e0 := HB.out.cell (i := 0) rfl
      have e1 := HB.out.cell (i := 1) rfl
      generalize (wr.setCell ⟨r, 0, none⟩ (.slice A1 n1 c1)).setCell ⟨r, 1, none⟩ (.slice A2 n2 c2) = W at HK e0 e1 ⊢
      refine bodyPost_ret (v := .agg #[.slice A1 n1 c1, .slice A2 n2 c2]) (by simp [results, Try.results13, go_sem, e0, e1]) rfl ?_
      exact ⟨A1, n1, c1, A2, n2, c2, rfl, gn_end HG.out HE1.out HE2.out HA1.out HA2.out HK.out⟩
    · have hjn : j < n2 := by
        have := (List.getElem?_eq_some_iff.1 hj).1
        rw [HG.out.on.1] at this
        exact this
      obtain ⟨p', b2, o2, hp', rfl, hb2, x1, x2⟩ := HG.out.on.at_ hjn
      obtain rfl : p = p' := by rw [hj] at hp'; injection hp'
      clear hp'
      by_cases ht : p.2 ≤ t
      · have hle : decide (p.2 ≤ t) = true := by simpa using ht
        obtain ⟨a1, a2⟩ := due_yes hm ht
        have HA1 := Lib.hid a1
        have HA2 := Lib.hid a2
        have HSL := Lib.hid (stop_less (min_some hm).1)
        have HJ := Lib.hid hj
        have HGC := Lib.hid g0
        clear HFS a1 a2 hm hj ht
        have HO := Lib.hid (show (wr.drew.alloc (.cells #[.int .i64 p.1] 3)).ownsRow w.heap.size 3 1 (.slice A1 n1 c1) n1 (ints l) from World.ownsRow.alloc (w := wr.drew) HG.out.own _)
        have hsz : w.heap.size ≤ (wr.drew.alloc (.cells #[.int .i64 p.1] 3)).heap.size := by have := HG.out.bel.size; simp; omega
        have hn1 : n1 ≤ 1000 := by have := HLE.out; omega
        have HGA := Lib.hid (fun w3 A3 c3 => gn_app (p := p.1) (w3 := w3) (A3 := A3) (c3 := c3) HG.out)
        have HFAR := Lib.hid (fun w3 => gn_far (p := p.1) (w3 := w3) HG.out)
        have hgl := HG.out.gb.lt
        go_upto_region 5 with (fail)
        go_region_law (first
          | (rw [if_pos (by rfl)]; refine wp_add _ (.tmp 28) (.tmp 35) 33 rfl w.heap.size 3 i0 (.int .i64 0) 8 Try.underlying33 hi0 hz0 hz1 hz2 rfl (.slice A1 n1 c1) n1 (ints l) rfl HO.out (some ⟨wr.heap.size, 0, none⟩) 1 1 (ints [p.1]) rfl (one_rd wr.drew p.1) (ints_one _) (by omega) (by omega) hsz ?_; intro v3 w3 hown3 hg3 hat3; obtain ⟨A3, c3, rfl⟩ := own_sh hown3; have HG3 := Lib.hid (HGA.out w3 A3 c3 hown3 hg3 hat3); obtain ⟨k3, f3⟩ := HFAR.out w3 hg3; clear hown3 hg3 hat3))
        all_goals
          generalize w3.setCell ⟨g, 0, none⟩ (.slice A3 (n1 + 1) c3) = w5 at HG3 ⊢
          clear k3 f3 HO hsz HGA HFAR hgl hb2 x1 x2 g0 g1 HG hle
          obtain ⟨p', b2', o2', hp', hA', hb2, x1, x2⟩ := HG3.out.on.at_ hjn
          obtain rfl : p = p' := by rw [HJ.out] at hp'; injection hp'
          injection hA' with hA'
          injection hA' with e1 e2
          subst e1 e2
          have g1 := HG3.out.gb.cell (i := 1) rfl
          have HGD := Lib.hid (show Gn w w5.drew A g r A3 (n1 + 1) c3 (some ⟨b2, o2, none⟩) n2 c2 (l ++ [p.1]) Y from HG3.out.drewN 1)
          have HST := Lib.hid (rstop_any HGD.out.on (by have := HLE.out; omega) p.1)
          clear hp'
          go_upto_region 6 with (fail)
          go_still_tail 8, (by kernel_rfl)
          change wpList _ _ _ _ _ (World.drew _)
          go_wp2_with fail
          refine HST.out.mono ?_
          rintro e w6 ⟨A4, n4, c4, rfl, ho, hb⟩
          have HG6 := Lib.hid (gn_stop HGD.out ho hb)
          have s1 := (HGD.out.gb.below hb).cell (i := 1) rfl
          have fr1 := (HGD.out.gb.below hb).frozen 1
          have HN4 := Lib.hid (show n4 + 1 ≤ n2 from by
            have h1 := ho.1
            rw [pcs_len] at h1
            have h2 := HSL.out
            have h3 := HG3.out.on.1
            omega)
          clear ho hb HST g1 x1 x2
          go_upto_region 4 with (fail)
          generalize w6.setCell ⟨g, 1, none⟩ (.slice A4 n4 c4) = w7 at HG6 ⊢
          clear s1 fr1
          have g1 := HG6.out.gb.cell (i := 1) rfl
          have HF := Lib.hid (first_any HG6.out.on)
          go_wp2_with fail
          refine HF.out.mono ?_
          rintro e w8 ⟨b8, rfl, hfs, q8, rfl⟩
          have HFS8 := Lib.hid hfs
          have HG8 := Lib.hid (HG6.out.drewN q8)
          have z0 := HG8.out.gb.cell (i := 0) rfl
          clear hfs HF g1
          go_wp2_with fail
          go_roundw
          case rel => exact ⟨b8, A3, n1 + 1, c3, A4, n4, c4, l ++ [p.1], stopX Y p.1, rfl, HFS8, HG8, Lib.hid (by have := HN4.out; have := HLE.out; omega), Lib.hid (by rw [← HE1.out, HA1.out]; simp), Lib.hid (by rw [← HE2.out, HA2.out])⟩
          case measure =>
            have h1 := HLE.out
            have h2 := HN4.out
            show n - lenOf (((w7.drewN q8).cell? ⟨g, 0, none⟩).getD undef) < n - lenOf ((wr.cell? ⟨g, 0, none⟩).getD undef)
            rw [HGC.out, z0]
            show n - (n1 + 1) < n - n1
            omega
      · have hle : decide (p.2 ≤ t) = false := by simpa using ht
        obtain ⟨a1, a2⟩ := due_no (X := Y) (t := t) (fun q hq => by rw [hm] at hq; injection hq with hq; rw [← hq]; exact ht)
        have HA1 := Lib.hid a1
        have HA2 := Lib.hid a2
        have rf := HG.out.rb.frozen
        have r0 := HG.out.rb.cell (i := 0) rfl
        have r1 := HG.out.rb.cell (i := 1) rfl
        have HK := Lib.hid (show Keep (fun i => i = r) wr ((wr.setCell ⟨r, 0, none⟩ (.slice A1 n1 c1)).setCell ⟨r, 1, none⟩ (.slice (some ⟨b2, o2, none⟩) n2 c2)) from (Keep.set (F := fun i => i = r) wr 0 (.slice A1 n1 c1) rfl).trans (Keep.set (F := fun i => i = r) _ 1 _ rfl) fun _ h => .inl h)
        have HB := Lib.hid ((HG.out.rb.set 0 (.slice A1 n1 c1)).set 1 (.slice (some ⟨b2, o2, none⟩) n2 c2))
        clear hm a1 a2 ht
        go_wp2_with fail
        have e0 := HB.out.cell (i := 0) rfl
        have e1 := HB.out.cell (i := 1) rfl
        generalize (wr.setCell ⟨r, 0, none⟩ (.slice A1 n1 c1)).setCell ⟨r, 1, none⟩ (.slice (some ⟨b2, o2, none⟩) n2 c2) = W at HK e0 e1 ⊢
        refine bodyPost_ret (v := .agg #[.slice A1 n1 c1, .slice (some ⟨b2, o2, none⟩) n2 c2]) (by simp [results, Try.results13, go_sem, e0, e1]) rfl ?_
        exact ⟨A1, n1, c1, _, n2, c2, rfl, gn_end HG.out HE1.out HE2.out HA1.out HA2.out HK.out⟩
end
end Go.Proofs.Ytgoogcjkokpicaa.TimT
