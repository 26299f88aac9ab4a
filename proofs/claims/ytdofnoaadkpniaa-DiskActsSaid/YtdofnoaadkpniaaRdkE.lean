/- A disk and the reference's disk, side by side. Conditions: both lie as the facts say. -/
import Derived.Test.YtdofnoaadkpniaaRdkD
import Derived.Outline
namespace Go.Proofs.Ytdofnoaadkpniaa.RdkE
open Go.RowKit Go.Proofs.Ytdofnoaadkpniaa.Kit Go.Proofs.Ytdofnoaadkpniaa.Byt Go.Proofs.Ytdofnoaadkpniaa.Mem Go.Proofs.Ytdofnoaadkpniaa.Same Go.Proofs.Ytdofnoaadkpniaa.DskA Go.Proofs.Ytdofnoaadkpniaa.DskB Go.Proofs.Ytdofnoaadkpniaa.DskC Go.Proofs.Ytdofnoaadkpniaa.DskD Go.Proofs.Ytdofnoaadkpniaa.DskE Go.Proofs.Ytdofnoaadkpniaa.DskF Go.Proofs.Ytdofnoaadkpniaa.RdkA Go.Proofs.Ytdofnoaadkpniaa.RdkB Go.Proofs.Ytdofnoaadkpniaa.RdkC Go.Proofs.Ytdofnoaadkpniaa.RdkD

def wcode (s : St) (i : Int) (n : Nat) : Int := if inB s i then (if n = 64 then (if (spend s).1 then 0 else 8) else 14) else 3
def wst (s : St) (i : Int) (n : Nat) (bs : List Nat) : St := if inB s i then (if n = 64 then (if (spend s).1 then { (spend s).2 with L := s.L ++ [(i.toNat, bs)] } else (spend s).2) else s) else s
def fcode (s : St) : Int := if (spend s).1 then 0 else 8
def fst_ (s : St) : St := if (spend s).1 then lay (fun _ => true) (spend s).2 else (spend s).2
theorem inB_nat {s : St} {i : Int} (h : inB s i = true) : ∃ k : Nat, i = (k : Int) ∧ k < s.S.length := by
  simp only [inB, decide_eq_true_eq] at h
  exact ⟨i.toNat, by omega, by omega⟩

section
variable {w : World} {F : Nat → Prop} {g : Nat} {s : St}
theorem dwrite (i : Int) {A : Option Addr} {n c : Nat} {bs : List Nat} (hD : Dk w F g s) (hR : Rd w A n c (u8n bs)) (hA : ∀ b o, A = some ⟨b, o, none⟩ → ¬ F b) (hL : s.L.length ≤ 1000000000) :
    Calls Try.prog 12 #[.pointer (some ⟨g, 0, none⟩), .int .i64 i, .slice A n c] w (Got F g w (.int .i64 (wcode s i n)) (wst s i n bs)) := by
  unfold wcode wst
  cases hi : inB s i with
  | false => exact (write_range F g s i A n c w hD hi).mono fun e w' h => ⟨h.1, F, h.2 ▸ hD, h.2 ▸ Keep.refl _ _, fun k hk => .inl hk⟩
  | true =>
    rw [if_pos rfl, if_pos rfl]
    by_cases hn : n = 64
    · subst hn
      rw [if_pos rfl, if_pos rfl]
      cases hs : (spend s).1 with
      | false => exact write_down F g s i A c w hD hi hs
      | true =>
        obtain ⟨k, rfl, hk⟩ := inB_nat hi
        exact write_ok F g s k A c bs w hD hk hR hA hs hL
    · rw [if_neg hn, if_neg hn]
      exact (write_size F g s i A n c w hD hi hn).mono fun e w' h => ⟨h.1, F, h.2 ▸ hD, h.2 ▸ Keep.refl _ _, fun k hk => .inl hk⟩
theorem rwrite (i : Int) {A : Option Addr} {n c : Nat} {bs : List Nat} (hD : RD w F g s) (hR : Rd w A n c (u8n bs)) (hA : ∀ b o, A = some ⟨b, o, none⟩ → ¬ F b) (hL : s.L.length ≤ 1000000000) :
    Calls Try.prog 13 #[.pointer (some ⟨g, 0, none⟩), .int .i64 i, .slice A n c] w (RGot F g w (.int .i64 (wcode s i n)) (wst s i n bs)) := by
  unfold wcode wst
  cases hi : inB s i with
  | false => exact (rwrite_range F g s i A n c w hD hi).mono fun e w' h => ⟨h.1, F, h.2 ▸ hD, h.2 ▸ Keep.refl _ _, fun k hk => .inl hk⟩
  | true =>
    rw [if_pos rfl, if_pos rfl]
    obtain ⟨k, rfl, hk⟩ := inB_nat hi
    by_cases hn : n = 64
    · subst hn
      rw [if_pos rfl, if_pos rfl]
      cases hs : (spend s).1 with
      | false => exact (rwrite_down F g s k A c w hD hk hs).mono fun e w' h => ⟨h.1, F, h.2.1, h.2.2, fun k hk => .inl hk⟩
      | true => exact rwrite_ok F g s k A c bs w hD hk hR hA hs hL
    · rw [if_neg hn, if_neg hn]
      exact (rwrite_size F g s k A n c w hD hk hn).mono fun e w' h => ⟨h.1, F, h.2 ▸ hD, h.2 ▸ Keep.refl _ _, fun k hk => .inl hk⟩
theorem dflush (hD : Dk w F g s) (hL : s.L.length ≤ 1000000000) : Calls Try.prog 14 #[.pointer (some ⟨g, 0, none⟩)] w (Got F g w (.int .i64 (fcode s)) (fst_ s)) := by
  unfold fcode fst_
  cases hs : (spend s).1 with
  | false => exact flush_down F g s w hD hs
  | true => exact flush_ok F g s w hD hs hL
theorem rflush (hD : RD w F g s) (hL : s.L.length ≤ 1000000000) : Calls Try.prog 15 #[.pointer (some ⟨g, 0, none⟩)] w (RGot F g w (.int .i64 (fcode s)) (fst_ s)) := by
  unfold fcode fst_
  cases hs : (spend s).1 with
  | false => exact rflush_down F g s w hD hs
  | true => exact rflush_ok F g s w hD hs hL
end

/-! ### alike -/

structure Sim (s t : St) : Prop where
  S : s.S = t.S
  L : s.L = t.L
  down : s.down = t.down
  fuse : s.down = false → s.fuse = t.fuse ∨ (s.fuse < 0 ∧ t.fuse < 0)
section
variable {s t : St}
theorem Sim.spend (h : Sim s t) : (spend s).1 = (spend t).1 ∧ Sim (DskA.spend s).2 (DskA.spend t).2 := by
  cases hd : s.down with
  | true =>
    have ht : t.down = true := by rw [← h.down]; exact hd
    have key : ∀ u : St, u.down = true → (DskA.spend u).1 = false ∧ (DskA.spend u).2.S = u.S ∧ (DskA.spend u).2.L = u.L ∧ (DskA.spend u).2.down = true := by
      intro u hu
      unfold DskA.spend
      by_cases h0 : u.fuse = 0
      · rw [if_pos h0]; exact ⟨rfl, rfl, rfl, rfl⟩
      · rw [if_neg h0, if_pos hu]; exact ⟨rfl, rfl, rfl, hu⟩
    obtain ⟨a1, a2, a3, a4⟩ := key s hd
    obtain ⟨b1, b2, b3, b4⟩ := key t ht
    exact ⟨a1.trans b1.symm, ⟨by rw [a2, b2, h.S], by rw [a3, b3, h.L], by rw [a4, b4], fun hx => by rw [a4] at hx; cases hx⟩⟩
  | false =>
    have ht : t.down = false := by rw [← h.down]; exact hd
    rcases h.fuse hd with hf | ⟨h1, h2⟩
    · have he : s = t := by
        obtain ⟨a, b, c, d⟩ := s
        obtain ⟨a', b', c', d'⟩ := t
        have e1 := h.S
        have e2 := h.L
        have e3 := h.down
        simp only at e1 e2 e3 hf
        rw [e1, e2, e3, hf]
      rw [he]
      exact ⟨rfl, ⟨rfl, rfl, rfl, fun _ => .inl rfl⟩⟩
    · rw [spend_free h1 hd, spend_free h2 ht]
      exact ⟨rfl, h⟩
theorem Sim.inB (h : Sim s t) (i : Int) : DskA.inB s i = DskA.inB t i := by unfold DskA.inB; rw [h.S]
theorem Sim.wcode (h : Sim s t) (i : Int) (n : Nat) : RdkE.wcode s i n = RdkE.wcode t i n := by unfold RdkE.wcode; rw [h.inB, h.spend.1]
theorem Sim.fcode (h : Sim s t) : RdkE.fcode s = RdkE.fcode t := by unfold RdkE.fcode; rw [h.spend.1]
theorem Sim.wst (h : Sim s t) (i : Int) (n : Nat) (bs : List Nat) : Sim (RdkE.wst s i n bs) (RdkE.wst t i n bs) := by
  unfold RdkE.wst
  rw [h.inB, h.spend.1]
  have hs := h.spend.2
  split
  · split
    · split
      · exact ⟨hs.S, by show s.L ++ _ = t.L ++ _; rw [h.L], hs.down, hs.fuse⟩
      · exact hs
    · exact h
  · exact h
theorem Sim.lay (h : Sim s t) (kp : Nat → Bool) : Sim (DskE.lay kp s) (DskE.lay kp t) :=
  ⟨by show laidTo _ _ _ _ = laidTo _ _ _ _; rw [h.S, h.L], rfl, h.down, h.fuse⟩
theorem Sim.fst (h : Sim s t) : Sim (fst_ s) (fst_ t) := by
  unfold fst_
  rw [h.spend.1]
  split
  · exact h.spend.2.lay _
  · exact h.spend.2
theorem Sim.power (h : Sim s t) (K : Nat) : Sim (DskE.power K s) { DskE.lay (kb K) t with fuse := -1, down := false } :=
  ⟨(h.lay (kb K)).S, rfl, rfl, fun _ => .inl rfl⟩
theorem Sim.now (h : Sim s t) (i : Nat) : DskD.now s i = DskD.now t i := by unfold DskD.now; rw [h.S, h.L]
theorem Sim.fused (h : Sim s t) (hd : t.down = false) (a : Int) : Sim { s with fuse := a } { t with fuse := max a (-1) } :=
  ⟨h.S, h.L, h.down, fun _ => by show a = max a (-1) ∨ (a < 0 ∧ max a (-1) < 0); omega⟩
theorem Sim.fused_d (h : Sim s t) (hd : t.down = true) (a : Int) : Sim { s with fuse := a } t :=
  ⟨h.S, h.L, h.down, fun hx => by have hx : s.down = false := hx; rw [h.down, hd] at hx; cases hx⟩
theorem wst_few (s : St) (i : Int) (n : Nat) (bs : List Nat) : (RdkE.wst s i n bs).L.length ≤ s.L.length + 1 := by
  unfold RdkE.wst
  split
  · split
    · split
      · simp
      · rw [(spend_sl s).1]; omega
    · omega
  · omega
theorem fst_few (s : St) : (fst_ s).L.length ≤ s.L.length := by
  unfold fst_
  split
  · simp [DskE.lay]
  · rw [(spend_sl s).1]; omega
end

set_option maxHeartbeats 3200000 in
theorem alike_any (F1 F2 : Nat → Prop) (g1 g2 : Nat) (s t : St) (w : World) (hD : Dk w F1 g1 s) (hE : RD w F2 g2 t) (hS : Sim s t) (hL : s.L.length ≤ 1000000000) :
    Calls Try.prog 19 #[.pointer (some ⟨g1, 0, none⟩), .pointer (some ⟨g2, 0, none⟩)] w fun e w' => e = .returned (.bool true) ∧ Below w.heap.size w w' := by
  have hDn : ∀ n, Dk (w.drewN n) F1 g1 s := fun n => hD.keep ((Keep.refl (fun _ => False) w).drewN n) fun _ _ h => h
  have hq1 := fun n => (waits_any F1 g1 s (w.drewN n) (hDn n)).mono (R' := fun e w' => e = .returned (.int .i64 (s.L.length : Nat)) ∧ w' = w.drewN n) fun e w' h => ⟨h.1, h.2.symm⟩
  have hq2 := fun n => (down_any F1 g1 s (w.drewN n) (hDn n)).mono (R' := fun e w' => e = .returned (.bool s.down) ∧ w' = w.drewN n) fun e w' h => ⟨h.1, h.2.symm⟩
  have hq3 := fun n => (len_any F1 g1 s (w.drewN n) (hDn n)).mono (R' := fun e w' => e = .returned (.int .i64 (s.S.length : Nat)) ∧ w' = w.drewN n) fun e w' h => ⟨h.1, h.2.symm⟩
  clear hDn
  have HS := Lib.hid hS
  have HE := Lib.hid hE
  have HD := Lib.hid hD
  obtain ⟨r, x, V, U, h⟩ := hE
  obtain ⟨c0, c1, _, _, c4⟩ := h.rb.cells
  rw [h.n0, ← hS.S] at c0
  rw [h.n1, ← hS.L] at c1
  rw [← hS.down] at c4
  have hgl := h.rb.lt g2 h.rb.fg
  have hm := hD.ok.most
  have HL := Lib.hid hL
  clear h hS hD hL
  obtain ⟨n, hn⟩ : ∃ n, n = s.L.length := ⟨_, rfl⟩
  obtain ⟨N, hN⟩ : ∃ N, N = s.S.length := ⟨_, rfl⟩
  rw [← hn] at c1 hq1
  rw [← hN] at c0 hq3 hm
  have HN := Lib.hid hN
  clear hn hN
  cases hd : s.down with
  | true =>
    rw [hd] at c4 hq2
    have Q1 := Lib.hid hq1
    have Q2 := Lib.hid hq2
    have Q3 := Lib.hid hq3
    have Hd := Lib.hid hd
    clear hq1 hq2 hq3 hd
    go_enter Try.func19, Try.ntmps19
    go_wp2_with fail
    go_quiet ((first
      | (go_at_call 22; exact Calls.quiet_of_same (Q1.out _))
      | (go_at_call 23; exact Calls.quiet_of_same (Q2.out _))
      | (go_at_call 24; exact Calls.quiet_of_same (Q3.out _))))
    go_wp2
    go_loopw [40] (fun i wr => ∃ k : Nat, k ≤ N ∧ i = .int .i64 k ∧ Hid (Below w.heap.size w wr)) (fun i _ => N - (intOf i).toNat)
    case atStart => exact ⟨0, Nat.zero_le _, rfl, Below.drewN (Below.refl _ _) _⟩
    case round =>
      obtain ⟨k, hk, rfl, HB⟩ := hrel
      have k0 := (HB.out.cell (p := ⟨g2, 0, none⟩) hgl).trans c0
      have k4 := (HB.out.cell (p := ⟨g2, 4, none⟩) hgl).trans c4
      have hgl2 : g2 < wr.heap.size := Nat.lt_of_lt_of_le hgl HB.out.size
      have HDr := Lib.hid (HD.out.below HB.out)
      clear Q1 Q2 Q3
      by_cases hlt : k < N
      · have hin : inB s (k : Int) = true := by simp [inB, ← HN.out, hlt]
        have hrd := read_down F1 g1 s (k : Int) wr HDr.out hin Hd.out
        have HRD := Lib.hid hrd
        clear hrd hin
        go_wp2_with (go_at_call 20; refine HRD.out.mono ?_; rintro e w' ⟨rfl, rfl⟩)
        go_roundw
        case rel => exact ⟨k + 1, by omega, by go_num, HB⟩
        case measure => simp [intOf]; omega
      · go_wp2
        go_ret
        exact ⟨rfl, HB.out⟩
  | false =>
    rw [hd] at c4 hq2
    have Q1 := Lib.hid hq1
    have Q2 := Lib.hid hq2
    have Q3 := Lib.hid hq3
    have Hd := Lib.hid hd
    clear hq1 hq2 hq3 hd
    go_enter Try.func19, Try.ntmps19
    go_wp2_with fail
    go_quiet ((first
      | (go_at_call 22; exact Calls.quiet_of_same (Q1.out _))
      | (go_at_call 23; exact Calls.quiet_of_same (Q2.out _))
      | (go_at_call 24; exact Calls.quiet_of_same (Q3.out _))))
    go_wp2
    go_loopw [40] (fun i wr => ∃ k : Nat, k ≤ N ∧ i = .int .i64 k ∧ Hid (Below w.heap.size w wr)) (fun i _ => N - (intOf i).toNat)
    case atStart => exact ⟨0, Nat.zero_le _, rfl, Below.drewN (Below.refl _ _) _⟩
    case round =>
      obtain ⟨k, hk, rfl, HB⟩ := hrel
      have k0 := (HB.out.cell (p := ⟨g2, 0, none⟩) hgl).trans c0
      have k4 := (HB.out.cell (p := ⟨g2, 4, none⟩) hgl).trans c4
      have hgl2 : g2 < wr.heap.size := Nat.lt_of_lt_of_le hgl HB.out.size
      have HDr := Lib.hid (HD.out.below HB.out)
      clear Q1 Q2 Q3
      by_cases hlt : k < N
      · have hrd := read_ok F1 g1 s k wr HDr.out (by rw [← HN.out]; exact hlt) Hd.out HL.out
        have HRD := Lib.hid hrd
        clear hrd
        go_wp2_with fail
        refine HRD.out.mono ?_
        rintro e w2 ⟨A2, rfl, hown2, hb2⟩
        have HR2 := Lib.hid (Rd.own hown2)
        have HB2 := Lib.hid (HB.out.trans (hb2.mono HB.out.size))
        have j4 := (HB2.out.cell (p := ⟨g2, 4, none⟩) hgl).trans c4
        have hE2 := HE.out.keep (Keep.of_below (F := fun _ => False) HB2.out) fun _ _ h => h
        have hnw := rnow_any _ g2 t k w2 hE2 (by rw [← HS.out.S, ← HN.out]; exact hlt) (by rw [← HS.out.L]; exact HL.out)
        rw [← HS.out.now] at hnw
        have HNW := Lib.hid hnw
        clear hown2 hb2 hE2 hnw HRD k0 k4
        go_wp2_with fail
        refine HNW.out.mono ?_
        rintro e w3 ⟨⟨A3, c3, rfl, hR3⟩, rfl⟩
        have HR3 := Lib.hid hR3
        clear hR3
        go_wp2_with fail
        refine (same_n HR2.out HR3.out).mono ?_
        rintro e w4 ⟨rfl, q, rfl⟩
        rw [decide_eq_true rfl]
        go_wp2_with fail
        go_roundw
        case rel => exact ⟨k + 1, by omega, by go_num, Below.drewN HB2.out q⟩
        case measure => simp [intOf]; omega
      · go_wp2
        go_ret
        exact ⟨rfl, HB.out⟩
end Go.Proofs.Ytdofnoaadkpniaa.RdkE
