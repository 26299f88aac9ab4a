/- The reference's Path and Window; two lists of numbers held against each other; facts on paths and shares. Conditions: the table lies as the facts say. -/
import Derived.Test.YtgmppjhfbemdjaaTabK
import Derived.Test.YtgmppjhfbemdjaaTabJ
import Derived.BigQuiet
import Derived.Deep.RegionHeld3
namespace Go.Proofs.Ytgmppjhfbemdjaa.TabL
open Go.RowKit Go.Proofs.Ytgmppjhfbemdjaa.Kit Go.Proofs.Ytgmppjhfbemdjaa.Byt Go.Proofs.Ytgmppjhfbemdjaa.Mem Go.Proofs.Ytgmppjhfbemdjaa.TabA Go.Proofs.Ytgmppjhfbemdjaa.TabB Go.Proofs.Ytgmppjhfbemdjaa.TabC Go.Proofs.Ytgmppjhfbemdjaa.TabD Go.Proofs.Ytgmppjhfbemdjaa.TabE Go.Proofs.Ytgmppjhfbemdjaa.TabH Go.Proofs.Ytgmppjhfbemdjaa.TabI Go.Proofs.Ytgmppjhfbemdjaa.TabJ

/-- A path of at most so many channels. -/
def pathN (C : List Tri) : Nat → Int → Int → Prop
  | 0, a, b => a = b
  | m + 1, a, b => a = b ∨ ∃ r ∈ C, r.a = a ∧ pathN C m r.b b
theorem pathN_mono {C D : List Tri} (h : ∀ r ∈ C, r ∈ D) : ∀ m a b, pathN C m a b → pathN D m a b
  | 0, _, _, h1 => h1
  | m + 1, a, b, h1 => by
    rcases h1 with h1 | ⟨r, hr, ha, h2⟩
    · exact .inl h1
    · exact .inr ⟨r, h r hr, ha, pathN_mono h m _ _ h2⟩
theorem conn_of {C : List Tri} : ∀ m a b, pathN C m a b → Conn C a b
  | 0, _, _, h => by rw [show _ = _ from h]; exact .here
  | m + 1, a, b, h => by
    rcases h with h | ⟨r, hr, ha, h2⟩
    · rw [h]; exact .here
    · exact (Conn.on .here hr ha).trans (conn_of m _ _ h2)
/-- A path begins with a channel that isn't used again. -/
theorem conn_first {C : List Tri} {a b : Int} (h : Conn C a b) : a = b ∨ ∃ L1 r L2, C = L1 ++ r :: L2 ∧ r.a = a ∧ Conn (L1 ++ L2) r.b b := by
  induction h with
  | here => exact .inl rfl
  | @on b' r' hb hr ha ih =>
    right
    rcases ih with h1 | ⟨L1, r, L2, hC, h2, h3⟩
    · obtain ⟨L1, L2, hC⟩ := List.append_of_mem hr
      exact ⟨L1, r', L2, hC, by rw [ha, h1], .here⟩
    · by_cases hm : r' ∈ L1 ++ L2
      · exact ⟨L1, r, L2, hC, h2, .on h3 hm ha⟩
      · have : r' = r := by
          rw [hC] at hr
          rcases List.mem_append.1 hr with h | h
          · exact absurd (List.mem_append_left _ h) hm
          · rcases List.mem_cons.1 h with h | h
            · exact h
            · exact absurd (List.mem_append_right _ h) hm
        exact ⟨L1, r, L2, hC, h2, by rw [this]; exact .here⟩
theorem path_of : ∀ (n : Nat) (C : List Tri) (a b : Int), C.length ≤ n → Conn C a b → pathN C n a b
  | 0, C, a, b, hl, h => by
    have : C = [] := List.eq_nil_of_length_eq_zero (by omega)
    subst this
    rcases conn_first h with h1 | ⟨L1, r, L2, hC, _⟩
    · exact h1
    · simp at hC
  | n + 1, C, a, b, hl, h => by
    rcases conn_first h with h1 | ⟨L1, r, L2, hC, h2, h3⟩
    · exact .inl h1
    · refine .inr ⟨r, by rw [hC]; simp, h2, ?_⟩
      have h4 := path_of n (L1 ++ L2) r.b b (by rw [hC] at hl; simp at hl ⊢; omega) h3
      exact pathN_mono (fun x hx => by
        rw [hC]
        rcases List.mem_append.1 hx with h | h
        · exact List.mem_append_left _ h
        · exact List.mem_append_right _ (List.mem_cons_of_mem _ h)) n _ _ h4

theorem below_drewN {B : Nat} {w w' : World} (h : Below B w w') (n : Nat) : Below B w (w'.drewN n) := ⟨h.os, h.tape, h.output, h.size, h.block⟩
set_option maxRecDepth 100000 in
set_option maxHeartbeats 1600000 in
theorem path_any (t : Ta) (hn : t.n3 ≤ 9223372036854775807) : ∀ (M : Nat), M ≤ 1000 → ∀ (a b : Int) (w : World), t.ok w → ∀ bb : Bool, (bb = true ↔ pathN t.C M a b) → Calls Try.prog 22 #[t.val, .int .i64 a, .int .i64 b, .int .i64 (M : Int)] w (Yes w bb) := by
  intro M
  induction M with
  | zero =>
    intro _ a b w h bb hb
    obtain ⟨fr, A1, n1, c1, P, A2, n2, c2, W, A3, n3, c3, C, tr⟩ := t
    have hm3 : n3 ≤ 9223372036854775807 := hn
    have HO := Lib.hid h
    have HB := Lib.hid (show bb = true ↔ a = b from hb)
    clear h hb hn
    have HX := Lib.hid (Bx.new w ⟨fr, A1, n1, c1, P, A2, n2, c2, W, A3, n3, c3, C, tr⟩)
    show Calls _ _ #[.agg #[.int .i64 fr, .slice A1 n1 c1, .slice A2 n2 c2, .slice A3 n3 c3, .int .i64 tr], .int .i64 a, .int .i64 b, .int .i64 0] w _
    by_cases hab : a = b
    · have hab' : (a == b) = true := by simpa using hab
      have hbt := Lib.hid (HB.out.2 hab)
      clear hab
      go_enter Try.func22, Try.ntmps22
      go_wp2
      go_ret
      exact ⟨by rw [hbt.out]; rfl, HX.out.bel⟩
    · have hab' : (a == b) = false := by simpa using hab
      have hbf := Lib.hid (show bb = false from by rw [Bool.eq_false_iff]; exact fun h => hab (HB.out.1 h))
      clear hab
      go_enter Try.func22, Try.ntmps22
      go_wp2_with fail
      go_loopw [9] (fun i wr => ∃ k : Nat, k ≤ n3 ∧ i = .int .i64 k ∧ Hid (Bx w ⟨fr, A1, n1, c1, P, A2, n2, c2, W, A3, n3, c3, C, tr⟩ wr)) (fun i _ => n3 - (intOf i).toNat)
      case atStart => exact ⟨0, Nat.zero_le _, rfl, HX⟩
      case round =>
        obtain ⟨k, hk, rfl, HX1⟩ := hrel
        obtain ⟨z0, z1, z2, z3, z4⟩ := HX1.out.cell
        dsimp only at z0 z1 z2 z3 z4
        clear z0 z1 z2 z4
        by_cases hlt : k < n3
        · go_wp2_with fail
          go_quiet (fail)
          go_wp2
          go_roundw
          case rel => exact ⟨k + 1, by omega, by go_num, Lib.hid (HX1.out.step (below_drewN (Below.refl _ _) _))⟩
          case measure => simp [intOf]; omega
        · obtain rfl : n3 = k := by omega
          go_wp2
          go_ret
          exact ⟨by rw [hbf.out]; rfl, HX1.out.bel⟩
  | succ M ih =>
    intro hM a b w h bb hb
    have IH := Lib.hid (ih (by omega))
    clear ih
    obtain ⟨fr, A1, n1, c1, P, A2, n2, c2, W, A3, n3, c3, C, tr⟩ := t
    have hm3 : n3 ≤ 9223372036854775807 := hn
    have HO := Lib.hid h
    have HB := Lib.hid (show bb = true ↔ a = b ∨ ∃ r ∈ C, r.a = a ∧ pathN C M r.b b from hb)
    have HL := Lib.hid (show C.length = n3 from h.C.1)
    clear h hb hn
    have HX := Lib.hid (Bx.new w ⟨fr, A1, n1, c1, P, A2, n2, c2, W, A3, n3, c3, C, tr⟩)
    obtain ⟨Q, hQ⟩ : ∃ Q, Q = M + 1 := ⟨_, rfl⟩
    rw [← hQ]
    have s0 : IntKind.i64.wrap ((Q : Int) - 1) = (M : Int) := by rw [IntKind.wrap_i64]; omega
    have s1 : (0 : Int) < (Q : Int) := by omega
    have s2 : 0 < Q := by omega
    clear hQ hM
    show Calls _ _ #[.agg #[.int .i64 fr, .slice A1 n1 c1, .slice A2 n2 c2, .slice A3 n3 c3, .int .i64 tr], .int .i64 a, .int .i64 b, .int .i64 (Q : Int)] w _
    by_cases hab : a = b
    · have hab' : (a == b) = true := by simpa using hab
      have hbt := Lib.hid (HB.out.2 (.inl hab))
      clear hab
      go_enter Try.func22, Try.ntmps22
      go_wp2
      go_ret
      exact ⟨by rw [hbt.out]; rfl, HX.out.bel⟩
    · have hab' : (a == b) = false := by simpa using hab
      have HAB := Lib.hid hab
      clear hab
      go_enter Try.func22, Try.ntmps22
      go_wp2_with fail
      go_loopw [9] (fun i wr => ∃ k : Nat, k ≤ n3 ∧ i = .int .i64 k ∧ Hid (∀ (j : Nat) (r : Tri), j < k → C[j]? = some r → ¬ (r.a = a ∧ pathN C M r.b b)) ∧ Hid (Bx w ⟨fr, A1, n1, c1, P, A2, n2, c2, W, A3, n3, c3, C, tr⟩ wr)) (fun i _ => n3 - (intOf i).toNat)
      case atStart => exact ⟨0, Nat.zero_le _, rfl, Lib.hid (fun _ _ h => by omega), HX⟩
      case round =>
        obtain ⟨k, hk, rfl, HU, HX1⟩ := hrel
        obtain ⟨z0, z1, z2, z3, z4⟩ := HX1.out.cell
        dsimp only at z0 z1 z2 z3 z4
        by_cases hlt : k < n3
        · obtain ⟨r, b', o, hr, hok, hA, hbl, q0, q1, q2⟩ := (HO.out.below HX1.out.bel).C.at_ hlt
          dsimp only at hr hA
          subst hA
          have HR := Lib.hid hr
          have HMEM := Lib.hid (List.mem_of_getElem? hr)
          have k0 : (0 : Int) ≤ (k : Int) := by omega
          have k1 : (k : Int) < (n3 : Int) := by omega
          have HNX := Lib.hid (show ¬ (r.a = a ∧ pathN C M r.b b) → ∀ (j : Nat) (r : Tri), j < k + 1 → C[j]? = some r → ¬ (r.a = a ∧ pathN C M r.b b) from fun hn j r' hj hr' => by
            rcases Nat.lt_or_ge j k with h | h
            · exact HU.out j r' h hr'
            · obtain rfl : j = k := by omega
              rw [HR.out] at hr'
              injection hr' with hr'
              exact hr' ▸ hn)
          clear hr hok
          by_cases ha : r.a = a
          · have ha' : (r.a == a) = true := by simpa using ha
            have HA := Lib.hid ha
            clear ha
            obtain ⟨bp, hbp⟩ := bool_of (pathN C M r.b b)
            have HBP := Lib.hid hbp
            have HC := Lib.hid (IH.out r.b b wr.drew ((HO.out.below HX1.out.bel).below ((Below.refl wr.heap.size wr).drew)) bp hbp)
            have hsb := HX1.out.sz
            clear hbp
            go_wp2_with fail
            go_region_held3 (fun w' => w'.cell? ⟨w.heap.size, 0, none⟩ = some (.int .i64 fr) ∧ w'.cell? ⟨w.heap.size, 1, none⟩ = some (.slice A1 n1 c1) ∧ w'.cell? ⟨w.heap.size, 2, none⟩ = some (.slice A2 n2 c2) ∧ w'.cell? ⟨w.heap.size, 3, none⟩ = some (.slice (some ⟨b', o, none⟩) n3 c3) ∧ w'.cell? ⟨w.heap.size, 4, none⟩ = some (.int .i64 tr) ∧ w'.cell? ⟨b', o + k * 3, none⟩ = some (.int .i64 r.a) ∧ w'.cell? ⟨b', o + k * 3 + 1, none⟩ = some (.int .i64 r.b))
              (first | go_keep | exact ⟨(hb5.cell (p := ⟨w.heap.size, 0, none⟩) hsb).trans z0, (hb5.cell (p := ⟨w.heap.size, 1, none⟩) hsb).trans z1, (hb5.cell (p := ⟨w.heap.size, 2, none⟩) hsb).trans z2, (hb5.cell (p := ⟨w.heap.size, 3, none⟩) hsb).trans z3, (hb5.cell (p := ⟨w.heap.size, 4, none⟩) hsb).trans z4, (hb5.cell (p := ⟨b', o + k * 3, none⟩) hbl).trans q0, (hb5.cell (p := ⟨b', o + k * 3 + 1, none⟩) hbl).trans q1⟩)
              ((go_at_call 22; refine HC.out.mono ?_; rintro e w5 ⟨rfl, hb5⟩))
            have HX5 := Lib.hid (HX1.out.step (((Below.refl wr.heap.size wr).drew).trans hb5))
            clear hb5 z0 z1 z2 z3 z4 q0 q1 q2
            cases bp
            · go_wp2_with fail
              go_roundw
              case rel => exact ⟨k + 1, by omega, by go_num, Lib.hid (HNX.out (fun h => by have := HBP.out.2 h.2; cases this)), HX5⟩
              case measure => simp [intOf]; omega
            · have hbt := Lib.hid (HB.out.2 (.inr ⟨r, HMEM.out, HA.out, HBP.out.1 rfl⟩))
              go_wp2_with fail
              go_ret
              exact ⟨by rw [hbt.out]; rfl, HX5.out.bel⟩
          · have ha' : (r.a == a) = false := by simpa using ha
            have HA := Lib.hid ha
            clear ha
            go_wp2_with fail
            go_quiet (fail)
            clear z0 z1 z2 z3 z4 q0 q1 q2
            go_wp2
            go_roundw
            case rel => exact ⟨k + 1, by omega, by go_num, Lib.hid (HNX.out (fun h => HA.out h.1)), Lib.hid (HX1.out.step (below_drewN (Below.refl _ _) _))⟩
            case measure => simp [intOf]; omega
        · obtain rfl : n3 = k := by omega
          have hbf := Lib.hid (show bb = false from by
            rw [Bool.eq_false_iff]
            intro h
            rcases HB.out.1 h with h | ⟨r, hr, h1, h2⟩
            · exact HAB.out h
            · obtain ⟨j, hj, he⟩ := List.getElem_of_mem hr
              exact HU.out j r (by have := HL.out; omega) (by rw [← he]; exact List.getElem?_eq_getElem hj) ⟨h1, h2⟩)
          go_wp2
          go_ret
          exact ⟨by rw [hbf.out]; rfl, HX1.out.bel⟩
end Go.Proofs.Ytgmppjhfbemdjaa.TabL
