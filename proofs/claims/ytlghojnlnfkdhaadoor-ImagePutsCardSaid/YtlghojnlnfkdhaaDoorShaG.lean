/- What ends a digest. Conditions: less than 2^40 bytes were written. -/
import Derived.Test.YtlghojnlnfkdhaaDoorShaF
namespace Go.Proofs.YtlghojnlnfkdhaaDoor.ShaG
open Go.RowKit Go.Proofs.YtlghojnlnfkdhaaDoor.Kit Go.Proofs.YtlghojnlnfkdhaaDoor.Byt Go.Proofs.YtlghojnlnfkdhaaDoor.ShaM Go.Proofs.YtlghojnlnfkdhaaDoor.ShaA Go.Proofs.YtlghojnlnfkdhaaDoor.ShaB Go.Proofs.YtlghojnlnfkdhaaDoor.ShaC Go.Proofs.YtlghojnlnfkdhaaDoor.ShaK Go.Proofs.YtlghojnlnfkdhaaDoor.ShaD Go.Proofs.YtlghojnlnfkdhaaDoor.ShaE Go.Proofs.YtlghojnlnfkdhaaDoor.ShaF

theorem Rd.cells (w : World) (xs : List Nat) (e : TypeId) {m : Nat × Nat} {n : Nat} (hn : xs.length = n) (h63 : n ≤ 9223372036854775807) : Rd (w.alloc (.cells (u8n xs).toArray e m)) (some ⟨w.heap.size, 0, none⟩) n n (u8n xs) := by
  refine ⟨by rw [u8n_len, hn], by omega, by omega, fun _ => ⟨_, _, rfl, by simp, fun j u hu => ?_⟩⟩
  rw [Nat.zero_add, World.cell?_alloc_mark]
  simpa using hu
theorem Rd.one (w : World) (x : Nat) (e : TypeId) {m : Nat × Nat} : Rd (w.alloc (.cells #[.int .u8 (x : Int)] e m)) (some ⟨w.heap.size, 0, none⟩) 1 1 (u8n [x]) := Rd.cells w [x] e rfl (by omega)
theorem Rd.val (w : World) {x : Int} (y : Nat) (h : x = (y : Int)) (e : TypeId) {m : Nat × Nat} : Rd (w.alloc (.cells #[.int .u8 x] e m)) (some ⟨w.heap.size, 0, none⟩) 1 1 (u8n [y]) := by
  subst h
  exact Rd.one w y e
theorem eight_val (l k : Nat) : (l : Int) * 8 / 2 ^ (8 * (7 - k)) % 256 = ((8 * l / 2 ^ (8 * (7 - k)) % 256 : Nat) : Int) := by
  rw [Nat.mul_comm 8 l]
  simp
theorem info8 : (Tryd.prog.info? 5).map (fun i => (i.zero, i.size, i.bytes)) = some (some (.int .u8 0), 1, 1) := by kernel_rfl
/-- What comes back is new memory that reads as these bytes; all that was there is as it was. -/
def Fresh (w : World) (xs : List Nat) (e : Ending) (w' : World) : Prop :=
  ∃ A n c, Hid (n = xs.length) ∧ e = .returned (.slice A n c) ∧ w'.ownsRow w.heap.size 5 1 (.slice A n c) n (u8n xs) ∧ Below w.heap.size w w'
theorem eight_take (n : Nat) {k : Nat} (h : k < 8) : (eight n).take (k + 1) = (eight n).take k ++ [8 * n / 2 ^ (8 * (7 - k)) % 256] := by
  match k, h with
  | 0, _ => rfl
  | 1, _ => rfl
  | 2, _ => rfl
  | 3, _ => rfl
  | 4, _ => rfl
  | 5, _ => rfl
  | 6, _ => rfl
  | 7, _ => simp [eight]

theorem own_room {w : World} {g : Nat} {e : TypeId} (h : w.heap[g]? = some (.cells (List.replicate 72 (Value.int .u8 0)).toArray e (0, 0))) : w.ownsRow g e 1 (.slice (some ⟨g, 0, none⟩) 0 72) 0 (u8n []) := by
  have h' := own_of_block (base := g) (n := 0) h (Nat.le_refl _) (by simp) (by simp)
  simpa [u8n] using h'
/-- What the first loop keeps: j zeros are laid. -/
def Zs (w : World) (l j : Nat) (out : Value) (wr : World) : Prop :=
  ∃ A n c, out = .slice A n c ∧ n = 1 + j ∧ j ≤ zs l ∧ wr.ownsRow w.heap.size 5 1 (.slice A n c) n (u8n ([128] ++ List.replicate j 0)) ∧ Below w.heap.size w wr
/-- What the second keeps: k of the last bytes are laid. -/
def Es (w : World) (l k : Nat) (out : Value) (wr : World) : Prop :=
  ∃ A n c, out = .slice A n c ∧ n = 1 + zs l + k ∧ wr.ownsRow w.heap.size 5 1 (.slice A n c) n (u8n ([128] ++ List.replicate (zs l) 0 ++ (eight l).take k)) ∧ Below w.heap.size w wr
theorem zs_lt (l : Nat) : zs l < 64 := by unfold zs; omega
theorem zs_not {l j n : Nat} (h : j < zs l) (hn : n = 1 + j) : (((l : Int) + (n : Int) + 8) % 64 != 0) = true := by
  unfold zs at h
  simp
  omega
theorem zs_end {l j n : Nat} (h : j = zs l) (hn : n = 1 + j) : (((l : Int) + (n : Int) + 8) % 64 != 0) = false := by
  unfold zs at h
  simp
  omega

set_option maxRecDepth 100000 in
set_option maxHeartbeats 1600000 in
theorem ending_any (l : Nat) (w : World) (hl : l < 1099511627776) : Calls Tryd.prog 59 #[.int .i64 (l : Nat)] w (Fresh w (tail l)) := by
  obtain ⟨i0, hi0, hz0, hz1, hz2⟩ := info_parts info8
  have hzl := zs_lt l
  go_enter Tryd.func59, Tryd.ntmps59
  go_wp2_with (first
   | (refine wpList_make_room _ rfl _ _ 22 rfl 5 i0 (.int .u8 0) 1 Tryd.underlying22 hi0 hz0 hz1 hz2 rfl .i64 .i64 0 72 0 72 rfl rfl rfl rfl (by omega) (by omega) (by omega) ?_; intro w1 hB1 hb1 hs1)
   | (at_builtin; refine wpList_add _ rfl (.tmp 5) (.tmp 6) _ rfl w.heap.size 5 i0 _ 1 Tryd.underlying22 hi0 hz0 hz1 hz2 rfl _ 0 (u8n []) rfl ((own_room hB1.out).alloc _) (some ⟨w1.heap.size, 0, none⟩) 1 1 (u8n [128]) (by rw [hs1]; rfl) (Rd.one w1 128 _) (u8n_one _) (by omega) (by omega) (by simp; omega) ?_; intro A2 n2 c2 w2 hn2 hown2 hg2 hat2; have hb2 := below_add (hb1.alloc hb1.size _) ((own_room hB1.out).alloc _) (Nat.le_refl _) hg2; clear hat2 hg2))
  have H0 : Hid (Zs w l 0 (.slice A2 n2 c2) w2) := Lib.hid ⟨A2, n2, c2, rfl, by have := hn2.out; omega, by omega, by rw [u8n_app] at hown2; exact hown2, hb2⟩
  clear hown2 hb2 hn2 hB1 hb1 hs1
  go_loopw [3] (fun o wr => ∃ j : Nat, j ≤ zs l ∧ Hid (Zs w l j o wr) ∧ ∃ A, ∃ n c : Nat, o = .slice A n c) (fun o _ => match o with | .slice _ n _ => 100 - n | _ => 0)
  case atStart => exact ⟨0, by omega, H0, _, _, _, rfl⟩
  case round =>
    obtain ⟨j, hj, hT, A, n, c, rfl⟩ := hrel
    clear H0
    obtain ⟨_, _, _, ho, hn, _, hown, hbel⟩ := hT.out
    injection ho with h1 h2 h3
    subst h1 h2 h3
    by_cases hlt : j < zs l
    · have hne := zs_not hlt hn
      have hn65 : n ≤ 65 := by omega
      have hnj := Lib.hid hn
      clear hn
      go_wp2_with (at_builtin; refine wpList_add _ rfl (.tmp 15) (.tmp 16) _ rfl w.heap.size 5 i0 _ 1 Tryd.underlying22 hi0 hz0 hz1 hz2 rfl _ n _ rfl (hown.alloc _) (some ⟨wr.heap.size, 0, none⟩) 1 1 (u8n [0]) rfl (Rd.one wr 0 _) (u8n_one _) (by omega) (by omega) (by have := hbel.size; simp; omega) ?_; intro A3 n3 c3 w3 hn3 hown3 hg3 hat3; have hb3 := below_add (hbel.alloc hbel.size _) (hown.alloc _) (Nat.le_refl _) hg3; clear hat3 hg3)
      have H3 : Hid (Zs w l (j + 1) (.slice A3 n3 c3) w3) := Lib.hid ⟨A3, n3, c3, rfl, by have := hn3.out; have := hnj.out; omega, by omega, by rw [u8n_app, List.append_assoc, ← List.replicate_succ'] at hown3; exact hown3, hb3⟩
      clear hown3 hb3 hT hown hne
      go_roundw
      case rel => exact ⟨j + 1, by omega, H3, _, _, _, rfl⟩
      case measure => have := hn3.out; simp only []; omega
    · have hjz : j = zs l := by omega
      have hne := zs_end hjz hn
      subst hjz
      have H4 : Hid (Es w l 0 (.slice A n c) wr) := Lib.hid ⟨A, n, c, rfl, by omega, by simpa using hown, hbel⟩
      have hn65 : n ≤ 65 := by omega
      clear hT hown hn hbel hlt hj
      go_wp2
      clear hne hn65
      go_loopw [18, 3, 4] (fun i o _ wr => ∃ k : Nat, k ≤ 8 ∧ i = .int .i64 k ∧ Hid (Es w l k o wr) ∧ ∃ A, ∃ n c : Nat, o = .slice A n c) (fun i _ _ _ => 8 - (intOf i).toNat)
      case atStart => exact ⟨0, by omega, rfl, H4, _, _, _, rfl⟩
      case round =>
        obtain ⟨k, hk, rfl, hT, A, n, c, rfl⟩ := hrel
        clear H4
        obtain ⟨_, _, _, ho, hn, hown, hbel⟩ := hT.out
        injection ho with h1 h2 h3
        subst h1 h2 h3
        by_cases hlt : k < 8
        · have hn65 : n ≤ 72 := by omega
          have hnj := Lib.hid hn
          clear hn
          have hE : Hid ((eight l).take (k + 1) = (eight l).take k ++ [8 * l / 2 ^ (8 * (7 - k)) % 256]) := Lib.hid (eight_take l hlt)
          go_wp2_with (at_builtin; refine wpList_add _ rfl (.tmp 21) (.tmp 30) _ rfl w.heap.size 5 i0 _ 1 Tryd.underlying22 hi0 hz0 hz1 hz2 rfl _ n _ rfl (hown.alloc _) (some ⟨wr.heap.size, 0, none⟩) 1 1 (u8n [8 * l / 2 ^ (8 * (7 - k)) % 256]) rfl (Rd.val wr _ (eight_val l k) _) (u8n_one _) (by omega) (by omega) (by have := hbel.size; simp; omega) ?_; intro A3 n3 c3 w3 hn3 hown3 hg3 hat3; have hb3 := below_add (hbel.alloc hbel.size _) (hown.alloc _) (Nat.le_refl _) hg3; clear hat3 hg3)
          have H3 : Hid (Es w l (k + 1) (.slice A3 n3 c3) w3) := Lib.hid ⟨A3, n3, c3, rfl, by have := hn3.out; have := hnj.out; omega, by rw [u8n_app, List.append_assoc, ← hE.out] at hown3; exact hown3, hb3⟩
          clear hown3 hb3 hT hown hE
          go_roundw
          case rel => exact ⟨k + 1, by omega, by go_num, H3, _, _, _, rfl⟩
          case measure => simp [intOf]; omega
        · obtain rfl : k = 8 := by omega
          go_wp2
          go_ret
          exact ⟨A, n, c, Lib.hid (by rw [tail_len]; omega), rfl, hown, hbel⟩

end Go.Proofs.YtlghojnlnfkdhaaDoor.ShaG
