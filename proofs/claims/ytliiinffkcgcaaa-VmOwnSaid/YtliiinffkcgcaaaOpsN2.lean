/- The code's At. Condition: the bytes lie as the facts say. -/
import Derived.Test.YtliiinffkcgcaaaOpsN0
namespace Go.Proofs.Ytliiinffkcgcaaa.OpsN
open Go.RowKit Go.Proofs.Ytliiinffkcgcaaa.Kit Go.Proofs.Ytliiinffkcgcaaa.Byt Go.Proofs.Ytliiinffkcgcaaa.Mem Go.Proofs.Ytliiinffkcgcaaa.OpsM Go.Proofs.Ytliiinffkcgcaaa.OpsA

set_option maxRecDepth 100000 in
set_option maxHeartbeats 1600000 in
theorem at_any (A : Option Addr) (n c : Nat) (xs : List Nat) (pc : Int) (w : World) (hr : Rd w A n c (u8n xs)) (hx : ∀ b ∈ xs, b < 256) (hp : n64 pc) : Calls Try.prog 46 #[.slice A n c, .int .i64 pc] w (Finds w pc (atI xs pc)) := by
  obtain rfl := Rd.nats hr
  have hle : xs.length ≤ 9223372036854775807 := by have := hr.le; have := hr.cap; omega
  obtain ⟨hp1, hp2⟩ := hp
  have HB := Lib.hid (fun (G : Array Value) => (Below.refl w.heap.size w).alloc (Nat.le_refl _) (.cells G 107))
  by_cases h1 : pc < 0
  · have HE := Lib.hid (show atI xs pc = none from if_pos h1)
    go_enter Try.func46, Try.ntmps46
    go_wp2
    refine bodyPost_ret (v := .tuple #[.agg #[.int .i64 0, .int .i64 0], .int .i64 0, .int .i64 19]) (by simp [results, Try.results46, go_sem]) rfl ?_
    exact ⟨by rw [HE.out]; rfl, HB.out _⟩
  · obtain ⟨k, rfl⟩ : ∃ k : Nat, pc = k := ⟨pc.toNat, by omega⟩
    by_cases h2 : (k : Int) < xs.length
    · have hk : k < xs.length := by omega
      obtain ⟨b, hb⟩ : ∃ b, b = xs[k] := ⟨_, rfl⟩
      have hb256 := hx _ (List.getElem_mem hk)
      obtain ⟨bx, ox, rfl, gx⟩ := Rd.nat hr hk
      rw [← hb] at gx hb256
      have gx2 : (w.alloc (.cells #[.int .i64 0, .int .i64 0] 107)).cell? ⟨bx, ox + k, none⟩ = some (.int .u8 (b : Nat)) := ((HB.out _).cell (p := ⟨bx, ox + k, none⟩) (block_lt_of_cell gx)).trans gx
      have hnk : decide (xs.length ≤ k) = false := by simp; omega
      have hnk2 : ¬ (xs.length : Int) ≤ k := by omega
      have hdr : xs.drop k = b :: xs.drop (k + 1) := by rw [hb]; exact List.drop_eq_getElem_cons hk
      by_cases h3 : b ≤ 18
      · have hkn : kn (b : Int) = true := decide_eq_true (by omega)
        have HK := Lib.hid (fun w' => hkn ▸ known_any (b : Int) w')
        clear hkn
        cases hh : hasA b
        · have HE := Lib.hid (show atI xs k = some ((b : Int), 0, 1) from by rw [atI, if_neg h1, Int.toNat_natCast, hdr]; exact (if_neg (by omega)).trans (if_neg (by rw [hh]; simp)))
          have HT := Lib.hid (fun w' => hh ▸ takes_any b w')
          clear hh hdr hb hr hx
          go_enter Try.func46, Try.ntmps46
          go_wp2_with (first
            | (go_at_call 56; refine (HK.out _).mono ?_; rintro e w' ⟨rfl, rfl⟩)
            | (go_at_call 57; refine (HT.out _).mono ?_; rintro e w' ⟨rfl, rfl⟩))
          refine bodyPost_ret (v := .tuple #[.agg #[.int .i64 (b : Int), .int .i64 0], .int .i64 ((k : Int) + 1), .int .i64 0]) (by simp [results, Try.results46, go_sem]) rfl ?_
          exact ⟨by rw [HE.out]; rfl, HB.out _⟩
        · have HT := Lib.hid (fun w' => hh ▸ takes_any b w')
          by_cases h5 : (k : Int) + 1 = xs.length
          · have HE := Lib.hid (show atI xs k = none from by rw [atI, if_neg h1, Int.toNat_natCast, hdr, List.drop_eq_nil_of_le (show xs.length ≤ k + 1 from by omega)]; exact (if_neg (by omega)).trans (if_pos hh))
            have h5' : ((k : Int) + 1 == (xs.length : Int)) = true := by rw [beq_iff_eq]; exact h5
            clear hh hdr hb hr hx
            go_enter Try.func46, Try.ntmps46
            go_wp2_with (first
              | (go_at_call 56; refine (HK.out _).mono ?_; rintro e w' ⟨rfl, rfl⟩)
              | (go_at_call 57; refine (HT.out _).mono ?_; rintro e w' ⟨rfl, rfl⟩))
            refine bodyPost_ret (v := .tuple #[.agg #[.int .i64 0, .int .i64 0], .int .i64 0, .int .i64 19]) (by simp [results, Try.results46, go_sem]) rfl ?_
            exact ⟨by rw [HE.out]; rfl, HB.out _⟩
          · have hk5 : k + 1 < xs.length := by omega
            obtain ⟨d, hd⟩ : ∃ d, d = xs[k + 1] := ⟨_, rfl⟩
            have hd256 := hx _ (List.getElem_mem hk5)
            obtain ⟨bx', ox', hA, gy⟩ := Rd.nat hr hk5
            rw [← hd] at gy hd256
            simp only [Option.some.injEq, Addr.mk.injEq, and_true] at hA
            obtain ⟨rfl, rfl⟩ := hA
            have gy2 := ((HB.out #[.int .i64 0, .int .i64 0]).cell (p := ⟨bx, ox + (k + 1), none⟩) (block_lt_of_cell gy)).trans gy
            have gy3 : (w.alloc (.cells #[.int .i64 0, .int .i64 0] 107)).cell? ⟨bx, ox + k + 1, none⟩ = some (.int .u8 (d : Nat)) := gy2
            have h5' : ((k : Int) + 1 == (xs.length : Int)) = false := by rw [beq_eq_false_iff_ne]; exact h5
            have h5l : (k : Int) + 1 < (xs.length : Int) := by omega
            have hdr5 : xs.drop (k + 1) = d :: xs.drop (k + 1 + 1) := by rw [hd]; exact List.drop_eq_getElem_cons hk5
            have HE := Lib.hid (show atI xs k = some ((b : Int), (d : Int), 2) from by rw [atI, if_neg h1, Int.toNat_natCast, hdr, hdr5]; exact (if_neg (by omega)).trans (if_pos hh))
            clear hh hdr hdr5 hb hd hr hx
            go_enter Try.func46, Try.ntmps46
            go_wp2_with (first
              | (go_at_call 56; refine (HK.out _).mono ?_; rintro e w' ⟨rfl, rfl⟩)
              | (go_at_call 57; refine (HT.out _).mono ?_; rintro e w' ⟨rfl, rfl⟩))
            refine bodyPost_ret (v := .tuple #[.agg #[.int .i64 (b : Int), .int .i64 (d : Int)], .int .i64 ((k : Int) + 2), .int .i64 0]) (by simp [results, Try.results46, go_sem]) rfl ?_
            exact ⟨by rw [HE.out]; rfl, HB.out _⟩
      · have HE := Lib.hid (show atI xs k = none from by rw [atI, if_neg h1, Int.toNat_natCast, hdr]; exact if_pos (by omega))
        have hkn : kn (b : Int) = false := decide_eq_false (by omega)
        have HK := Lib.hid (fun w' => hkn ▸ known_any (b : Int) w')
        clear hkn
        clear hdr hb hr hx
        go_enter Try.func46, Try.ntmps46
        go_wp2_with (first
          | (go_at_call 56; refine (HK.out _).mono ?_; rintro e w' ⟨rfl, rfl⟩)
          | fail)
        refine bodyPost_ret (v := .tuple #[.agg #[.int .i64 0, .int .i64 0], .int .i64 0, .int .i64 19]) (by simp [results, Try.results46, go_sem]) rfl ?_
        exact ⟨by rw [HE.out]; rfl, HB.out _⟩
    · have HE := Lib.hid (show atI xs k = none from by rw [atI, if_neg h1, List.drop_eq_nil_of_le (by omega)]; rfl)
      have hnk2 : (xs.length : Int) ≤ k := by omega
      go_enter Try.func46, Try.ntmps46
      go_wp2
      refine bodyPost_ret (v := .tuple #[.agg #[.int .i64 0, .int .i64 0], .int .i64 0, .int .i64 19]) (by simp [results, Try.results46, go_sem]) rfl ?_
      exact ⟨by rw [HE.out]; rfl, HB.out _⟩
end Go.Proofs.Ytliiinffkcgcaaa.OpsN
