/- The reference's primes. Conditions: it is asked for 64. -/
import Derived.Test.YtlghojnlnfkdhaaDoorRefB
namespace Go.Proofs.YtlghojnlnfkdhaaDoor.RefE
open Go.RowKit Go.Proofs.YtlghojnlnfkdhaaDoor.Kit Go.Proofs.YtlghojnlnfkdhaaDoor.ShaC Go.Proofs.YtlghojnlnfkdhaaDoor.ShaK Go.Proofs.YtlghojnlnfkdhaaDoor.RefM Go.Proofs.YtlghojnlnfkdhaaDoor.RefB

theorem isP_step {p : Nat} {l : List Nat} {i : Nat} (h : i < l.length) : isP p (l.take (i + 1)) = (isP p (l.take i) && p % l.getD i 0 != 0) := by
  unfold isP
  rw [List.take_succ_eq_append_getElem h, List.all_append, List.getD_eq_getElem?_getD, List.getElem?_eq_getElem h]
  simp
theorem mod_ne (q y : Nat) : ((q : Int) % (y : Int) != 0) = (q % y != 0) := by
  rw [← Int.natCast_emod, Bool.eq_iff_iff]
  simp only [bne_iff_ne, ne_eq]
  omega
theorem pb_at {p : Nat} (hp : p < 313) {i : Nat} (h : i < (pb p).length) : 2 ≤ (pb p).getD i 0 ∧ (pb p).getD i 0 < 313 := by
  rw [List.getD_eq_getElem?_getD, List.getElem?_eq_getElem h]
  exact pb_lt p hp _ (List.getElem_mem h)
theorem pb_len (p : Nat) : (pb p).length ≤ 64 := List.length_filter_le ..
theorem pb_go {p : Nat} (hp : p ≤ 312) (h : (pb p).length < 64) : p < 312 := by
  rcases Nat.lt_or_ge p 312 with h1 | h1
  · exact h1
  · obtain rfl : p = 312 := by omega
    rw [pb_less] at h
    exact absurd h (by decide)
theorem pb_full {p : Nat} (hp : p ≤ 312) (h : ¬ (pb p).length < 64) : pb p = PL := by
  rcases pb_end p (by omega) with h1 | h1
  · exact absurd h1 h
  · exact h1
theorem one_rd {w : World} (y : Nat) (t : TypeId) : Rd (w.alloc (.cells #[.int .i64 (y : Int)] t)) (some ⟨w.heap.size, 0, none⟩) 1 1 (i64n [y]) :=
  blk_rd (bs := [y]) (t := t) (heap_alloc_new w _) (by simp)

set_option maxRecDepth 100000 in
set_option maxHeartbeats 1600000 in
theorem primes_any (w : World) : Calls Tryd.prog 54 #[.int .i64 64] w fun e w' => ∃ A c, e = .returned (.slice A 64 c) ∧ Rd w' A 64 c (i64n PL) ∧ Below w.heap.size w w' := by
  obtain ⟨i0, hi0, hz0, hz1, hz2⟩ := info_parts info64
  have H0 : Hid (w.ownsRow w.heap.size 3 1 (.slice none 0 0) 0 (i64n (pb 2))) := Lib.hid (by rw [pb_two]; exact ⟨rfl, .inl ⟨rfl, rfl⟩⟩)
  go_enter Tryd.func54, Tryd.ntmps54
  go_wp2
  go_loopw [3, 4, 5, 6] (fun o p _ _ wr => ∃ q n c : Nat, ∃ A, 2 ≤ q ∧ q ≤ 312 ∧ o = .slice A n c ∧ p = .int .i64 q ∧ Hid (n = (pb q).length) ∧ n ≤ 64 ∧ Hid (wr.ownsRow w.heap.size 3 1 (.slice A n c) n (i64n (pb q))) ∧ Below w.heap.size w wr) (fun _ p _ _ _ => 313 - (intOf p).toNat)
  case atStart => exact ⟨2, 0, 0, none, by omega, by omega, rfl, rfl, Lib.hid (by rw [pb_two]; rfl), by omega, H0, Below.refl _ _⟩
  case round =>
    clear H0
    obtain ⟨q, n, c, A, hq2, hq, rfl, rfl, hn, hn64, hO, hbel⟩ := hrel
    by_cases hlt : n < 64
    · have hq3 : q < 312 := pb_go hq (by rw [← hn.out]; exact hlt)
      have hnext := Lib.hid (pb_all q (by omega) hq2 (by rw [← hn.out]; exact hlt))
      have hR := Lib.hid (Rd.own hO.out)
      go_wp2
      go_loop [5, 6] (fun b i => ∃ k : Nat, k ≤ n ∧ i = .int .i64 k ∧ b = .bool (isP q ((pb q).take k))) (fun _ i => n - (intOf i).toNat)
      case atStart => exact ⟨0, Nat.zero_le _, rfl, rfl⟩
      case round =>
        obtain ⟨k, hk, rfl, rfl⟩ := hrel
        by_cases hlt2 : k < n
        · have hs := Lib.hid (isP_step (p := q) (l := pb q) (i := k) (by rw [← hn.out]; exact hlt2))
          have ha := pb_at (p := q) (by omega) (i := k) (by rw [← hn.out]; exact hlt2)
          obtain ⟨b, off, rfl, cX⟩ := rd_int hR.out hlt2
          generalize (pb q).getD k 0 = y at *
          rcases hb : isP q ((pb q).take k) with _ | _
          · go_wp2
            go_round
            case rel => exact ⟨k + 1, by omega, by go_num, by rw [hs.out, hb]; rfl⟩
            case measure => simp [intOf]; omega
          · go_wp2
            go_round
            case rel => exact ⟨k + 1, by omega, by go_num, by rw [hs.out, hb, mod_ne, Bool.true_and]⟩
            case measure => simp [intOf]; omega
        · obtain rfl : k = n := by omega
          have hall : Hid ((pb q).take k = pb q) := Lib.hid (List.take_of_length_le (by rw [← hn.out]; exact Nat.le_refl _))
          rw [hall.out]
          rcases hb : isP q (pb q) with _ | _
          · rw [hb] at hnext
            go_wp2
            go_roundw
            case rel => exact ⟨q + 1, k, c, A, by omega, by omega, rfl, by go_num, Lib.hid (by rw [hnext.out]; exact hn.out), by omega, Lib.hid (by rw [hnext.out]; exact hO.out), hbel⟩
            case measure => simp [intOf]; omega
          · rw [hb] at hnext
            go_wp2_with (at_builtin; refine wpList_add _ rfl (.tmp 30) (.tmp 32) _ rfl w.heap.size 3 i0 _ 8 Tryd.underlying64 hi0 hz0 hz1 hz2 rfl _ k _ rfl (hO.out.alloc _) (some ⟨wr.heap.size, 0, none⟩) 1 1 (i64n [q]) rfl (one_rd q _) (i64n_one _) (by omega) (by omega) (by have := hbel.size; simp; omega) ?_; intro A3 n3 c3 w3 hn3 hown3 hg3 hat3; have hb3 := below_add (hbel.alloc hbel.size _) (hO.out.alloc _) (Nat.le_refl _) hg3; clear hat3 hg3)
            go_roundw
            case rel => exact ⟨q + 1, n3, c3, A3, by omega, by omega, rfl, by go_num, Lib.hid (by rw [hnext.out, hn3.out]; simp; exact hn.out), by have := hn3.out; omega, Lib.hid (by rw [hnext.out]; rw [i64n_app] at hown3; exact hown3), hb3⟩
            case measure => simp [intOf]; omega
    · obtain rfl : n = 64 := by omega
      have hR := Rd.own hO.out
      rw [pb_full hq (by rw [← hn.out]; exact hlt)] at hR
      go_wp2
      go_ret
      exact ⟨A, c, rfl, hR, hbel⟩

end Go.Proofs.YtlghojnlnfkdhaaDoor.RefE
