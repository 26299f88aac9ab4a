/- The reference's disk: a sector's bytes; what waits is laid; a flush; a new one. Conditions: the disk lies as the facts say. -/
import Derived.StillTailTactics
import Derived.Test.YtdofnoaadkpniaaRdkB
import Derived.Test.YtdofnoaadkpniaaDskE
import Derived.Outline
namespace Go.Proofs.Ytdofnoaadkpniaa.RdkC
open Go.RowKit Go.Proofs.Ytdofnoaadkpniaa.Kit Go.Proofs.Ytdofnoaadkpniaa.Byt Go.Proofs.Ytdofnoaadkpniaa.Mem Go.Proofs.Ytdofnoaadkpniaa.DskA Go.Proofs.Ytdofnoaadkpniaa.DskB Go.Proofs.Ytdofnoaadkpniaa.DskD Go.Proofs.Ytdofnoaadkpniaa.DskE Go.Proofs.Ytdofnoaadkpniaa.RdkA Go.Proofs.Ytdofnoaadkpniaa.RdkB

theorem now_last {s : St} {i q : Nat} (hq : q < s.L.length) (he : (s.L.getD q (0, [])).1 = i) (hn : ∀ j, q < j → j < s.L.length → (s.L.getD j (0, [])).1 ≠ i) : now s i = (s.L.getD q (0, [])).2 := by
  have hg : ∀ j (h : j < s.L.length), s.L.getD j (0, []) = s.L[j] := fun j h => by simp [h]
  have hsplit : s.L.reverse = (s.L.drop (q + 1)).reverse ++ ([s.L[q]] ++ (s.L.take q).reverse) := by
    have h1 : s.L = s.L.take q ++ (s.L[q] :: s.L.drop (q + 1)) := by rw [← List.drop_eq_getElem_cons hq, List.take_append_drop]
    have h2 := congrArg List.reverse h1
    rw [List.reverse_append, List.reverse_cons] at h2
    rw [h2, List.append_assoc]
  have h0 : (s.L.drop (q + 1)).reverse.find? (fun p => p.1 == i) = none := by
    rw [List.find?_eq_none]
    intro p hp
    rw [List.mem_reverse] at hp
    obtain ⟨j, hj, rfl⟩ := List.mem_iff_getElem.1 hp
    rw [List.length_drop] at hj
    rw [List.getElem_drop]
    have := hn (q + 1 + j) (by omega) (by omega)
    rw [hg _ (by omega)] at this
    simpa using this
  rw [hg q hq] at he ⊢
  rw [now, hsplit, List.find?_append, h0]
  simp [he]
theorem now_no {s : St} {i : Nat} (hn : ∀ j, j < s.L.length → (s.L.getD j (0, [])).1 ≠ i) : now s i = s.S.getD i [] := by
  have : s.L.reverse.find? (fun p => p.1 == i) = none := by
    rw [List.find?_eq_none]
    intro p hp
    rw [List.mem_reverse] at hp
    obtain ⟨j, hj, rfl⟩ := List.mem_iff_getElem.1 hp
    have := hn j hj
    rw [show s.L.getD j (0, []) = s.L[j] from by simp [hj]] at this
    simpa using this
  rw [now, this]

/-- What a row's place holds. -/
theorem row_at {w : World} {F : Nat → Prop} {g : Nat} {r : Nat → Sv} {x : Nat → List Value} {f : Int} {d : Bool} (h : RB w F g r x f d) {j : Nat} (hj : j < 3) {k : Nat} (hk : k < (r j).n) : ∃ b, (r j).A = some ⟨b, 0, none⟩ ∧ w.cell? ⟨b, k, none⟩ = (x j)[k]? ∧ w.frozen? ⟨b, k, none⟩ = false := by
  have ho := h.own j hj
  obtain ⟨b, hA, _, _⟩ := own_some (show w.ownsRow 0 (ty j) 1 (.slice (r j).A (r j).n (r j).c) (r j).n (x j) from ho) (by omega)
  have ho' : w.ownsRow 0 (ty j) 1 (.slice (some ⟨b, 0, none⟩) (r j).n (r j).c) (r j).n (x j) := by
    rw [← hA]
    exact ho
  exact ⟨b, hA, ho'.cellAt k (by omega), ho'.frozenAt k⟩
section
variable {w : World} {F : Nat → Prop} {g : Nat} {s : St} {r : Nat → Sv} {x : Nat → List Value} {V U : List Sl}
theorem RA.sec (h : RA w F g s r x V U) {i : Nat} (hi : i < s.S.length) : ∃ v b, v ∈ V ∧ v.xs = s.S.getD i [] ∧ (r 0).A = some ⟨b, 0, none⟩ ∧ w.cell? ⟨b, i, none⟩ = some (.slice v.A v.n v.c) ∧ w.frozen? ⟨b, i, none⟩ = false := by
  obtain ⟨b, hA, hc, hf⟩ := row_at h.rb (j := 0) (by omega) (k := i) (by rw [h.n0]; exact hi)
  have hV : i < V.length := by have := congrArg List.length h.hS; rw [List.length_map] at this; omega
  refine ⟨V[i], b, List.getElem_mem _, ?_, hA, ?_, hf⟩
  · rw [← h.hS]; simp [hV]
  · rw [hc, h.x0]; simp [hV, Sl.val]
theorem RA.wait (h : RA w F g s r x V U) {k : Nat} (hk : k < s.L.length) : ∃ v b1 b2, v ∈ U ∧ v.xs = (s.L.getD k (0, [])).2 ∧ (r 1).A = some ⟨b1, 0, none⟩ ∧ w.cell? ⟨b1, k, none⟩ = some (.int .i64 ((s.L.getD k (0, [])).1 : Int)) ∧ (r 2).A = some ⟨b2, 0, none⟩ ∧ w.cell? ⟨b2, k, none⟩ = some (.slice v.A v.n v.c) := by
  obtain ⟨b1, hA1, hc1, _⟩ := row_at h.rb (j := 1) (by omega) (k := k) (by rw [h.n1]; exact hk)
  obtain ⟨b2, hA2, hc2, _⟩ := row_at h.rb (j := 2) (by omega) (k := k) (by rw [h.n2]; exact hk)
  have hU : k < U.length := by have := congrArg List.length h.hL; rw [List.length_map, List.length_map] at this; omega
  refine ⟨U[k], b1, b2, List.getElem_mem _, ?_, hA1, ?_, hA2, ?_⟩
  · have := congrArg (fun l => l[k]?) h.hL
    simp [hU, hk] at this
    simp [hk, this]
  · rw [hc1, h.x1]; simp [hk]
  · rw [hc2, h.x2]; simp [hU, Sl.val]
end

set_option maxHeartbeats 800000 in
theorem rnow_any (F : Nat → Prop) (g : Nat) (s : St) (i : Nat) (w : World) (hD : RD w F g s) (hi : i < s.S.length) (hL : s.L.length ≤ 1000000000) :
    Calls Try.prog 32 #[.pointer (some ⟨g, 0, none⟩), .int .i64 (i : Int)] w fun e w' => (∃ A c, e = .returned (.slice A 64 c) ∧ Rd w A 64 c (u8n (now s i))) ∧ w = w' := by
  obtain ⟨r, x, V, U, h⟩ := hD
  obtain ⟨c0, c1, c2, _, _⟩ := h.rb.cells
  have hn1 := h.n1
  have hn2 := h.n2
  have hn0 := h.n0
  have hm := h.ok.most
  rw [hn0] at c0
  rw [hn1] at c1
  rw [hn2] at c2
  have H := Lib.hid h
  clear h hn0 hn1 hn2
  obtain ⟨n, hn⟩ : ∃ n, n = s.L.length := ⟨_, rfl⟩
  obtain ⟨N, hN⟩ : ∃ N, N = s.S.length := ⟨_, rfl⟩
  rw [← hn] at c1 c2 hL
  rw [← hN] at c0 hi hm
  have HN := Lib.hid hN
  have Hn := Lib.hid hn
  clear hn hN
  go_enter Try.func32, Try.ntmps32
  go_wp2
  go_loop [5] (fun v => ∃ m : Nat, m ≤ n ∧ v = .int .i64 ((m : Int) - 1) ∧ Hid (∀ j, m ≤ j → j < n → (s.L.getD j (0, [])).1 ≠ i)) (fun v => (intOf v + 1).toNat)
  case atStart => exact ⟨n, Nat.le_refl _, rfl, fun j h1 h2 => by omega⟩
  case round =>
    obtain ⟨m, hmn, rfl, HJ⟩ := hrel
    by_cases hz : m = 0
    · have hz1 : m ≤ 0 := by omega
      obtain ⟨v, b, hv, hxs, hA, hc, _⟩ := RA.sec H.out (i := i) (by rw [← HN.out]; exact hi)
      rw [hA] at c0
      have HV := Lib.hid hv
      have HX := Lib.hid hxs
      have H64 := Lib.hid (H.out.el v (.inl hv)).n64
      clear hz hv hxs hA
      go_wp2
      go_ret
      have hno := now_no (s := s) (i := i) (fun j hj => HJ.out j (by omega) (by rw [Hn.out]; exact hj))
      have hrd := (H.out.el v (.inl HV.out)).rd
      rw [H64.out, HX.out, ← hno] at hrd
      rw [H64.out]
      exact ⟨⟨_, _, rfl, hrd⟩, rfl⟩
    · obtain ⟨q, rfl⟩ : ∃ q, m = q + 1 := ⟨m - 1, by omega⟩
      obtain ⟨v, b1, b2, hv, hxs, hA1, hc1, hA2, hc2⟩ := RA.wait H.out (k := q) (by rw [← Hn.out]; omega)
      rw [hA1] at c1
      rw [hA2] at c2
      have HV := Lib.hid hv
      have HX := Lib.hid hxs
      have H64 := Lib.hid (H.out.el v (.inr hv)).n64
      obtain ⟨a, ha⟩ : ∃ a, a = (s.L.getD q (0, [])).1 := ⟨_, rfl⟩
      rw [← ha] at hc1
      have HAA := Lib.hid ha
      have hq1 : ((q + 1 : Nat) : Int) - 1 = (q : Int) := by omega
      rw [hq1]
      clear hz hv hxs hA1 hA2 ha hq1
      by_cases hai : a = i
      · subst hai
        go_wp2
        go_ret
        have hno := now_last (s := s) (i := a) (q := q) (by rw [← Hn.out]; omega) HAA.out.symm (fun j h1 hj => HJ.out j (by omega) (by rw [Hn.out]; exact hj))
        have hrd := (H.out.el v (.inr HV.out)).rd
        rw [H64.out, HX.out, ← hno] at hrd
        rw [H64.out]
        exact ⟨⟨_, _, rfl, hrd⟩, rfl⟩
      · have hne : ((a : Int) == (i : Int)) = false := by simp; omega
        have Hai := Lib.hid hai
        clear hai
        go_wp2
        go_round
        case rel =>
          refine ⟨q, by omega, rfl, fun j h1 h2 => ?_⟩
          rcases Nat.lt_or_ge q j with h3 | h3
          · exact HJ.out j (by omega) h2
          · obtain rfl : j = q := by omega
            rw [← HAA.out]
            exact Hai.out
        case measure => simp [intOf] <;> omega

/-! ### what waits is laid -/

def RInv (w : World) (F : Nat → Prop) (g : Nat) (s : St) (r : Nat → Sv) (U : List Sl) (kp : Nat → Bool) (k : Nat) (wr : World) : Prop :=
  ∃ x V, RA wr F g { s with S := laidTo kp s.S s.L k } r x V U ∧ Keep F w wr
theorem RInv.take {w wr w3 : World} {F : Nat → Prop} {g b : Nat} {s : St} {r : Nat → Sv} {x : Nat → List Value} {V U : List Sl} {v : Sl} {kp : Nat → Bool} {k : Nat} (h : RA wr F g { s with S := laidTo kp s.S s.L k } r x V U) (hk0 : Keep F w wr) (hk : kp k = true) (hkl : k < s.L.length) (hv : v ∈ U) (hx : v.xs = (s.L.getD k (0, [])).2) (hb : (r 0).A = some ⟨b, 0, none⟩)
    (hw3 : w3 = (wr.drew).setCell ⟨b, (s.L.getD k (0, [])).1, none⟩ (.slice v.A v.n v.c)) : RInv w F g s r U kp (k + 1) w3 := by
  have hd : RB wr.drew F g r x s.fuse s.down := ⟨h.rb.head, h.rb.own, h.rb.fg, h.rb.fo, h.rb.lt⟩
  have hp := hd.put (j := 0) (by omega) hb (.slice v.A v.n v.c) hw3
  have hm : s.L.getD k (0, []) ∈ s.L := by
    have : s.L.getD k (0, []) = s.L[k] := by simp [hkl]
    rw [this]
    exact List.getElem_mem _
  have hwt := h.ok.wait _ hm
  have hl1 : (s.L.getD k (0, [])).2.length = 64 := hwt.2
  have hl2 : (s.L.getD k (0, [])).1 < (laidTo kp s.S s.L k).length := hwt.1
  have hS : laidTo kp s.S s.L (k + 1) = (laidTo kp s.S s.L k).set (s.L.getD k (0, [])).1 (s.L.getD k (0, [])).2 := by rw [laidTo, if_pos hk]
  refine ⟨_, V.set (s.L.getD k (0, [])).1 v, ⟨hp.1, ?_, h.x1, h.x2, ?_, h.hL, fun u hu => hp.2.1 u ?_, ?_⟩, ?_⟩
  · show (x 0).set _ _ = _
    rw [h.x0, List.map_set]
    rfl
  · show _ = laidTo kp s.S s.L (k + 1)
    rw [List.map_set, h.hS, hx, hS]
  · have he : El wr F g r u := by
      rcases hu with hu | hu
      · rcases List.mem_or_eq_of_mem_set hu with hu | hu
        · exact h.el u (.inl hu)
        · exact h.el u (.inr (hu ▸ hv))
      · exact h.el u (.inr hu)
    exact ⟨he.rd, he.n64, he.fp⟩
  · refine ⟨?_, ?_, ?_, ?_, h.ok.lo, h.ok.hi⟩
    · show 1 ≤ (laidTo kp s.S s.L (k + 1)).length
      rw [laidTo_len, ← laidTo_len kp s.S s.L k]; exact h.ok.pos
    · show (laidTo kp s.S s.L (k + 1)).length ≤ 128
      rw [laidTo_len, ← laidTo_len kp s.S s.L k]; exact h.ok.most
    · intro y hy
      rw [hS] at hy
      rcases List.mem_or_eq_of_mem_set hy with hy | hy
      · exact h.ok.sec y hy
      · subst hy; exact hl1
    · intro p hp
      show p.1 < (laidTo kp s.S s.L (k + 1)).length ∧ _
      rw [laidTo_len, ← laidTo_len kp s.S s.L k]
      exact h.ok.wait p hp
  · exact (hk0.drew).trans hp.2.2 fun _ h => .inl h
theorem RInv.skip {w wr : World} {F : Nat → Prop} {g : Nat} {s : St} {r : Nat → Sv} {U : List Sl} {kp : Nat → Bool} {k : Nat} (h : RInv w F g s r U kp k wr) (hk : kp k = false) : RInv w F g s r U kp (k + 1) wr := by
  unfold RInv
  rw [laidTo, if_neg (by rw [hk]; simp)]
  exact h
theorem RInv.done {w wr : World} {F : Nat → Prop} {g : Nat} {s : St} {r : Nat → Sv} {U : List Sl} {kp : Nat → Bool} (h : RInv w F g s r U kp s.L.length wr) :
    RGot F g w (.tuple #[]) (lay kp s) (.returned (.tuple #[])) ((wr.setCell ⟨g, 1, none⟩ (.slice none 0 0)).setCell ⟨g, 2, none⟩ (.slice none 0 0)) := by
  obtain ⟨x, V, h, hk⟩ := h
  have h1 := h.rb.nil (j := 1) (by omega) (w' := wr.setCell ⟨g, 1, none⟩ (.slice none 0 0)) rfl
  have h2 := h1.1.nil (j := 2) (by omega) rfl
  refine ⟨rfl, F, ⟨_, _, V, [], h2.1, h.x0, rfl, rfl, h.hS, rfl, fun v hv => h2.2.1 v (h1.2.1 v (h.el v ?_)), ⟨h.ok.pos, h.ok.most, h.ok.sec, by simp [lay], h.ok.lo, h.ok.hi⟩⟩, (hk.trans h1.2.2 fun _ h => .inl h).trans h2.2.2 fun _ h => .inl h, fun k hk => .inl hk⟩
  rcases hv with hv | hv
  · exact .inl hv
  · cases hv

set_option maxHeartbeats 3200000 in
theorem rlay_true (F : Nat → Prop) (g : Nat) (s : St) (w : World) (hD : RD w F g s) (hL : s.L.length ≤ 1000000000) :
    Calls Try.prog 18 #[.pointer (some ⟨g, 0, none⟩), .int .u64 0, .bool true] w (RGot F g w (.tuple #[]) (lay (fun _ => true) s)) := by
  obtain ⟨r, x0, V0, U, h⟩ := hD
  have hg := h.rb.lt g h.rb.fg
  have H := Lib.hid h
  obtain ⟨n, hn⟩ : ∃ n, n = s.L.length := ⟨_, rfl⟩
  rw [← hn] at hL
  have Hn := Lib.hid hn
  clear h hn
  go_enter Try.func18, Try.ntmps18
  go_wp2
  go_loopw [6, 1] (fun i q wr => ∃ k : Nat, k ≤ n ∧ i = .int .i64 k ∧ q = .int .u64 0 ∧ Hid (RInv w F g s r U (fun _ => true) k wr)) (fun i _ _ => n - (intOf i).toNat)
  case atStart => exact ⟨0, Nat.zero_le _, rfl, rfl, x0, V0, H.out, Keep.refl _ _⟩
  case round =>
    obtain ⟨k, hk, rfl, rfl, HI⟩ := hrel
    obtain ⟨x, V, hA, hK0⟩ := HI.out
    obtain ⟨c0, c1, c2, _, _⟩ := hA.rb.cells
    have hn1 := hA.n1
    have hn2 := hA.n2
    have hn0 : (r 0).n = s.S.length := by rw [hA.n0]; exact laidTo_len _ _ _ _
    rw [hn0] at c0
    rw [hn1, show ({ s with S := laidTo (fun _ => true) s.S s.L k } : St).L.length = n from Hn.out.symm] at c1
    rw [hn2, show ({ s with S := laidTo (fun _ => true) s.S s.L k } : St).L.length = n from Hn.out.symm] at c2
    have HA := Lib.hid hA
    have HK0 := Lib.hid hK0
    have hmo := H.out.ok.most
    obtain ⟨N, hN⟩ : ∃ N, N = s.S.length := ⟨_, rfl⟩
    have HN := Lib.hid hN
    rw [← hN] at c0 hmo
    clear hA hK0 hn1 hn2 hn0 hN
    by_cases hlt : k < n
    · by_cases h64 : k < 64
      · obtain ⟨v, b1, b2, hv, hxs, hA1, hc1, hA2, hc2⟩ := RA.wait HA.out (k := k) (show k < s.L.length from by rw [← Hn.out]; exact hlt)
        obtain ⟨a, ha⟩ : ∃ a, a = (s.L.getD k (0, [])).1 := ⟨_, rfl⟩
        have hal : a < N := by
          rw [ha, HN.out]
          exact (H.out.ok.wait _ (by rw [show s.L.getD k (0, []) = s.L[k]'(by rw [← Hn.out]; exact hlt) from by simp [← Hn.out, hlt]]; exact List.getElem_mem _)).1
        obtain ⟨v0, b0, _, _, hA0, hc0, hf0⟩ := RA.sec HA.out (i := a) (show a < (laidTo _ s.S s.L k).length from by rw [laidTo_len, ← HN.out]; exact hal)
        have HV := Lib.hid hv
        have HX := Lib.hid hxs
        have HAA := Lib.hid ha
        have HA0 := Lib.hid hA0
        replace hc1 : wr.cell? ⟨b1, k, none⟩ = some (.int .i64 (a : Int)) := by rw [ha]; exact hc1
        rw [hA0] at c0
        rw [hA1] at c1
        rw [hA2] at c2
        have p0 : (0 : Int) ≤ (a : Int) := by omega
        have p1 : (a : Int) < (N : Int) := by omega
        have p2 : (0 : Int) ≤ (k : Int) := by omega
        have p3 : (k : Int) < (n : Int) := by omega
        clear ha hv hxs hA0 hA1 hA2
        go_wp2
        go_still_tail 19, (by kernel_rfl)
        change wpList _ _ _ _ _ (World.drew _)
        clear c0 c1 c2 hc1 hc2 p0 p1 p2 p3
        go_wp2
        go_roundw
        case rel => exact ⟨k + 1, by omega, by go_num, rfl, RInv.take HA.out HK0.out rfl (by rw [← Hn.out]; exact hlt) HV.out HX.out HA0.out (by rw [← HAA.out]; rfl)⟩
        case measure => simp [intOf]; omega
      · obtain ⟨v, b1, b2, hv, hxs, hA1, hc1, hA2, hc2⟩ := RA.wait HA.out (k := k) (show k < s.L.length from by rw [← Hn.out]; exact hlt)
        obtain ⟨a, ha⟩ : ∃ a, a = (s.L.getD k (0, [])).1 := ⟨_, rfl⟩
        have hal : a < N := by
          rw [ha, HN.out]
          exact (H.out.ok.wait _ (by rw [show s.L.getD k (0, []) = s.L[k]'(by rw [← Hn.out]; exact hlt) from by simp [← Hn.out, hlt]]; exact List.getElem_mem _)).1
        obtain ⟨v0, b0, _, _, hA0, hc0, hf0⟩ := RA.sec HA.out (i := a) (show a < (laidTo _ s.S s.L k).length from by rw [laidTo_len, ← HN.out]; exact hal)
        have HV := Lib.hid hv
        have HX := Lib.hid hxs
        have HAA := Lib.hid ha
        have HA0 := Lib.hid hA0
        replace hc1 : wr.cell? ⟨b1, k, none⟩ = some (.int .i64 (a : Int)) := by rw [ha]; exact hc1
        rw [hA0] at c0
        rw [hA1] at c1
        rw [hA2] at c2
        have p0 : (0 : Int) ≤ (a : Int) := by omega
        have p1 : (a : Int) < (N : Int) := by omega
        have p2 : (0 : Int) ≤ (k : Int) := by omega
        have p3 : (k : Int) < (n : Int) := by omega
        clear ha hv hxs hA0 hA1 hA2
        go_wp2
        go_still_tail 19, (by kernel_rfl)
        change wpList _ _ _ _ _ (World.drew _)
        clear c0 c1 c2 hc1 hc2 p0 p1 p2 p3
        go_wp2
        go_roundw
        case rel => exact ⟨k + 1, by omega, by go_num, rfl, RInv.take HA.out HK0.out rfl (by rw [← Hn.out]; exact hlt) HV.out HX.out HA0.out (by rw [← HAA.out]; rfl)⟩
        case measure => simp [intOf]; omega
    · obtain rfl : k = n := by omega
      have f1 := HA.out.rb.head.frozen 1
      have f2 := HA.out.rb.head.frozen 2
      go_wp2
      go_end0
      exact RInv.done (by rw [← Hn.out]; exact HI.out)

set_option maxHeartbeats 3200000 in
theorem rlay_keep (F : Nat → Prop) (g : Nat) (s : St) (K : Nat) (w : World) (hD : RD w F g s) (hL : s.L.length ≤ 1000000000) (hK : K < 18446744073709551616) :
    Calls Try.prog 18 #[.pointer (some ⟨g, 0, none⟩), .int .u64 (K : Int), .bool false] w (RGot F g w (.tuple #[]) (lay (kb K) s)) := by
  obtain ⟨r, x0, V0, U, h⟩ := hD
  have hg := h.rb.lt g h.rb.fg
  have H := Lib.hid h
  obtain ⟨n, hn⟩ : ∃ n, n = s.L.length := ⟨_, rfl⟩
  rw [← hn] at hL
  have Hn := Lib.hid hn
  clear h hn
  go_enter Try.func18, Try.ntmps18
  go_wp2
  go_loopw [6, 1] (fun i q wr => ∃ k : Nat, k ≤ n ∧ i = .int .i64 k ∧ q = .int .u64 ((K / 2 ^ min k 64 : Nat) : Int) ∧ Hid (RInv w F g s r U (kb K) k wr)) (fun i _ _ => n - (intOf i).toNat)
  case atStart => exact ⟨0, Nat.zero_le _, rfl, by simp, x0, V0, H.out, Keep.refl _ _⟩
  case round =>
    obtain ⟨k, hk, rfl, rfl, HI⟩ := hrel
    obtain ⟨x, V, hA, hK0⟩ := HI.out
    obtain ⟨c0, c1, c2, _, _⟩ := hA.rb.cells
    have hn1 := hA.n1
    have hn2 := hA.n2
    have hn0 : (r 0).n = s.S.length := by rw [hA.n0]; exact laidTo_len _ _ _ _
    rw [hn0] at c0
    rw [hn1, show ({ s with S := laidTo (kb K) s.S s.L k } : St).L.length = n from Hn.out.symm] at c1
    rw [hn2, show ({ s with S := laidTo (kb K) s.S s.L k } : St).L.length = n from Hn.out.symm] at c2
    have HA := Lib.hid hA
    have HK0 := Lib.hid hK0
    have hmo := H.out.ok.most
    obtain ⟨N, hN⟩ : ∃ N, N = s.S.length := ⟨_, rfl⟩
    have HN := Lib.hid hN
    rw [← hN] at c0 hmo
    clear hA hK0 hn1 hn2 hn0 hN
    by_cases hlt : k < n
    · obtain ⟨q, hq⟩ : ∃ q : Nat, q = K / 2 ^ min k 64 := ⟨_, rfl⟩
      rw [← hq]
      have hq64 : q < 18446744073709551616 := by rw [hq]; exact Nat.lt_of_le_of_lt (Nat.div_le_self _ _) hK
      have Hq := Lib.hid hq
      clear hq
      by_cases h64 : k < 64
      · have hstep : q / 2 = K / 2 ^ min (k + 1) 64 := by rw [Hq.out, Nat.min_eq_left (by omega), Nat.min_eq_left (by omega), Nat.div_div_eq_div_mul, Nat.pow_succ]
        have HStep := Lib.hid hstep
        have hbit : kb K k = decide (q % 2 = 1) := by rw [kb, Hq.out, Nat.min_eq_left (by omega)]
        have Hbit := Lib.hid hbit
        clear hstep hbit
        by_cases hb : q % 2 = 1
        · have hbt : ((q : Int) % 2 == 1) = true := by simp; omega
          have HKT := Lib.hid (show kb K k = true from by rw [Hbit.out]; simpa using hb)
          clear hb
          obtain ⟨v, b1, b2, hv, hxs, hA1, hc1, hA2, hc2⟩ := RA.wait HA.out (k := k) (show k < s.L.length from by rw [← Hn.out]; exact hlt)
          obtain ⟨a, ha⟩ : ∃ a, a = (s.L.getD k (0, [])).1 := ⟨_, rfl⟩
          have hal : a < N := by
            rw [ha, HN.out]
            exact (H.out.ok.wait _ (by rw [show s.L.getD k (0, []) = s.L[k]'(by rw [← Hn.out]; exact hlt) from by simp [← Hn.out, hlt]]; exact List.getElem_mem _)).1
          obtain ⟨v0, b0, _, _, hA0, hc0, hf0⟩ := RA.sec HA.out (i := a) (show a < (laidTo _ s.S s.L k).length from by rw [laidTo_len, ← HN.out]; exact hal)
          have HV := Lib.hid hv
          have HX := Lib.hid hxs
          have HAA := Lib.hid ha
          have HA0 := Lib.hid hA0
          replace hc1 : wr.cell? ⟨b1, k, none⟩ = some (.int .i64 (a : Int)) := by rw [ha]; exact hc1
          rw [hA0] at c0
          rw [hA1] at c1
          rw [hA2] at c2
          have p0 : (0 : Int) ≤ (a : Int) := by omega
          have p1 : (a : Int) < (N : Int) := by omega
          have p2 : (0 : Int) ≤ (k : Int) := by omega
          have p3 : (k : Int) < (n : Int) := by omega
          clear ha hv hxs hA0 hA1 hA2
          go_wp2
          go_still_tail 19, (by kernel_rfl)
          change wpList _ _ _ _ _ (World.drew _)
          clear c0 c1 c2 hc1 hc2 p0 p1 p2 p3
          go_wp2
          go_roundw
          case rel => exact ⟨k + 1, by omega, by go_num, congrArg (Value.int .u64) (by rw [← HStep.out]; omega), RInv.take HA.out HK0.out HKT.out (by rw [← Hn.out]; exact hlt) HV.out HX.out HA0.out (by rw [← HAA.out]; rfl)⟩
          case measure => simp [intOf]; omega
        · have hbt : ((q : Int) % 2 == 1) = false := by simp; omega
          have HKT := Lib.hid (show kb K k = false from by rw [Hbit.out]; simpa using hb)
          clear hb
          go_wp2
          go_roundw
          case rel => exact ⟨k + 1, by omega, by go_num, congrArg (Value.int .u64) (by rw [← HStep.out]; omega), HI.out.skip HKT.out⟩
          case measure => simp [intOf]; omega
      · have HKT := Lib.hid (show kb K k = false from by rw [kb, Nat.div_eq_of_lt (Nat.lt_of_lt_of_le (show K < 2 ^ 64 by omega) (Nat.pow_le_pow_right (by omega) (by omega)))]; rfl)
        go_wp2
        go_roundw
        case rel => exact ⟨k + 1, by omega, by go_num, congrArg (Value.int .u64) (by rw [Hq.out, Nat.min_eq_right (by omega), Nat.min_eq_right (by omega)]), HI.out.skip HKT.out⟩
        case measure => simp [intOf]; omega
    · obtain rfl : k = n := by omega
      have f1 := HA.out.rb.head.frozen 1
      have f2 := HA.out.rb.head.frozen 2
      go_wp2
      go_end0
      exact RInv.done (by rw [← Hn.out]; exact HI.out)
end Go.Proofs.Ytdofnoaadkpniaa.RdkC
