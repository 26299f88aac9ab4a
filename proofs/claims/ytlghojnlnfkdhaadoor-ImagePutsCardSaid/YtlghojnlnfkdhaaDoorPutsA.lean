/- The reference's text: its length in two bytes and the first 65535 of it. Condition: the slice reads as the list that is named. The reference's sum. Conditions: the constants as they are reckoned, at most a thousand bytes. An image's bytes by the reference, and the digest that stands in them by the code. Conditions: the image is right and lies as the facts say, the rounds' own numbers lie in the variable. -/
import Derived.Test.YtlghojnlnfkdhaaDoorNumE
import Derived.Test.YtlghojnlnfkdhaaDoorRefI
import Derived.Test.YtlghojnlnfkdhaaDoorRefA
import Derived.Test.YtlghojnlnfkdhaaDoorShaG
import Derived.Test.YtlghojnlnfkdhaaDoorRefG
import Derived.Test.YtlghojnlnfkdhaaDoorQTail
import Derived.StillTailTactics
import Derived.Handy
import Derived.Test.YtlghojnlnfkdhaaDoorImgF
import Derived.Test.YtlghojnlnfkdhaaDoorRefK
import Derived.Laws.Cover3
namespace Go.Proofs.YtlghojnlnfkdhaaDoor.NumF
open Go.RowKit Go.Proofs.YtlghojnlnfkdhaaDoor.Kit Go.Proofs.YtlghojnlnfkdhaaDoor.NumA Go.Proofs.YtlghojnlnfkdhaaDoor.NumB Go.Proofs.YtlghojnlnfkdhaaDoor.NumC Go.Proofs.YtlghojnlnfkdhaaDoor.NumE

set_option maxRecDepth 100000 in
set_option maxHeartbeats 400000 in
theorem rtext_any (B : Option Addr) (m d : Nat) (ts : List Int) (w : World) (ht : Rd w B m d (u8s ts)) :
    Calls Tryd.prog 42 #[.slice B m d] w fun e w' => Fresh w (txt ts) e w' := by
  obtain ⟨i0, hi0, hz0, hz1, hz2⟩ := info_parts info8
  have t1 := ht.le
  have t2 := ht.cap
  have HL : Hid (ts.length = m) := Rd.bytes ht
  by_cases hs : m ≤ 65535
  · go_enter Tryd.func42, Tryd.ntmps42
    go_wp2_with (first
     | (go_at_call 40; refine (rput_any m 2 _ (by omega)).mono ?_; rintro e w1 ⟨A1, n1, c1, hn1, rfl, hown1, hb1⟩; have hn2 : n1 ≤ 2 := by have := hn1.out; rw [this]; simp [putb_len, wd_two])
     | (at_builtin; refine wpList_add _ rfl (.tmp 11) (.tmp 14) _ rfl w.heap.size 5 i0 _ 1 Tryd.underlying22 hi0 hz0 hz1 hz2 rfl _ n1 (u8s (putb m 2)) rfl hown1 B m d (u8s ts) rfl (ht.below hb1) (u8s_one _) (by omega) (by omega) hb1.size ?_; intro A2 n2 c2 w2 hn3 hown2 hg2 hat2))
    go_ret
    refine ret_fresh (xs := putb m 2 ++ ts) (by rw [← u8s_append]; exact hown2) (below_add hb1 hown1 (Nat.le_refl _) hg2) ?_
    obtain rfl := HL.out
    rw [txt, List.take_of_length_le hs, Nat.min_eq_left hs]
  · go_enter Tryd.func42, Tryd.ntmps42
    go_wp2_with (first
     | (go_at_call 40; refine (rput_any 65535 2 _ (by omega)).mono ?_; rintro e w1 ⟨A1, n1, c1, hn1, rfl, hown1, hb1⟩; have hn2 : n1 ≤ 2 := by have := hn1.out; rw [this]; simp [putb_len, wd_two])
     | (at_builtin; refine wpList_add _ rfl (.tmp 11) (.tmp 14) _ rfl w.heap.size 5 i0 _ 1 Tryd.underlying22 hi0 hz0 hz1 hz2 rfl _ n1 (u8s (putb 65535 2)) rfl hown1 B 65535 d ((u8s ts).take 65535) rfl ((ht.take (by omega)).below hb1) (by rw [u8s_take]; exact u8s_one _) (by omega) (by omega) hb1.size ?_; intro A2 n2 c2 w2 hn3 hown2 hg2 hat2))
    go_ret
    refine ret_fresh (xs := putb 65535 2 ++ ts.take 65535) (by rw [← u8s_append, ← u8s_take]; exact hown2) (below_add hb1 hown1 (Nat.le_refl _) hg2) ?_
    obtain rfl := HL.out
    rw [txt, Nat.min_eq_right (by omega)]
    rfl

end Go.Proofs.YtlghojnlnfkdhaaDoor.NumF
namespace Go.Proofs.YtlghojnlnfkdhaaDoor.RefO
open Go.RowKit Go.Proofs.YtlghojnlnfkdhaaDoor.Kit Go.Proofs.YtlghojnlnfkdhaaDoor.Byt Go.Proofs.YtlghojnlnfkdhaaDoor.ShaM Go.Proofs.YtlghojnlnfkdhaaDoor.ShaK Go.Proofs.YtlghojnlnfkdhaaDoor.RefM Go.Proofs.YtlghojnlnfkdhaaDoor.RefA Go.Proofs.YtlghojnlnfkdhaaDoor.RefB Go.Proofs.YtlghojnlnfkdhaaDoor.RefE Go.Proofs.YtlghojnlnfkdhaaDoor.QTail Go.Proofs.YtlghojnlnfkdhaaDoor.RefI

theorem u8_rd {w : World} (y : Nat) (t : TypeId) : Rd (w.alloc (.cells #[.int .u8 (y : Int)] t)) (some ⟨w.heap.size, 0, none⟩) 1 1 (u8n [y]) := by
  have h := own_of_block (w := w.alloc (.cells #[.int .u8 (y : Int)] t)) (g := w.heap.size) (cur := [.int .u8 (y : Int)]) (e := t) (base := w.heap.size) (n := 1) (heap_alloc_new w _) (Nat.le_refl _) (by simp) (by simp)
  exact Rd.own h
theorem four_rd {w : World} (y0 y1 y2 y3 : Nat) (t : TypeId) : Rd (w.alloc (.cells #[.int .u8 (y0 : Int), .int .u8 (y1 : Int), .int .u8 (y2 : Int), .int .u8 (y3 : Int)] t)) (some ⟨w.heap.size, 0, none⟩) 4 4 (u8n [y0, y1, y2, y3]) := by
  have h := own_of_block (w := w.alloc (.cells #[.int .u8 (y0 : Int), .int .u8 (y1 : Int), .int .u8 (y2 : Int), .int .u8 (y3 : Int)] t)) (g := w.heap.size) (cur := [.int .u8 (y0 : Int), .int .u8 (y1 : Int), .int .u8 (y2 : Int), .int .u8 (y3 : Int)]) (e := t) (base := w.heap.size) (n := 4) (heap_alloc_new w _) (Nat.le_refl _) (by simp) (by simp)
  exact Rd.own h
/-- What lies there while the zeros are laid. -/
def lz (xs : List Nat) (j : Nat) : List Nat := xs ++ [128] ++ List.replicate j 0
theorem lz_next (xs : List Nat) (j : Nat) : lz xs (j + 1) = lz xs j ++ [0] := by
  rw [lz, lz, List.replicate_succ', ← List.append_assoc]
theorem lz_len (xs : List Nat) (j : Nat) : (lz xs j).length = xs.length + 1 + j := by simp [lz]; omega
theorem eight_next (n : Nat) {m : Nat} (hm : m < 8) : (eight n).take (m + 1) = (eight n).take m ++ [8 * n / 2 ^ (8 * (7 - m)) % 256] := by
  match m, hm with
  | 0, _ => rfl
  | 1, _ => rfl
  | 2, _ => rfl
  | 3, _ => rfl
  | 4, _ => rfl
  | 5, _ => rfl
  | 6, _ => rfl
  | 7, _ => simp [eight]
theorem pad_eq (xs : List Nat) : pad xs = lz xs (zs xs.length) ++ (eight xs.length).take 8 := by
  rw [pad, tail, lz, List.take_of_length_le (show (eight xs.length).length ≤ 8 from Nat.le_refl 8)]
  simp
theorem wrap_in {n : Int} (h0 : 0 ≤ n) (h1 : n < 4294967296) : wrap64 n = n := by unfold wrap64; omega
theorem byte0 {y y0 : Nat} (h : y < 4294967296) (h0 : y0 = y / 16777216 % 256) : wrap64 ((y : Int) / 16777216) % 256 = (y0 : Int) := by
  rw [wrap_in (by omega) (by omega)]; omega
theorem byte1 {y y0 : Nat} (h : y < 4294967296) (h0 : y0 = y / 65536 % 256) : (wrap64 ((y : Int) / 65536)).tmod 256 % 256 = (y0 : Int) := by
  rw [wrap_in (by omega) (by omega), Int.tmod_eq_emod_of_nonneg (by omega)]; omega
theorem byte2 {y y0 : Nat} (h : y < 4294967296) (h0 : y0 = y / 256 % 256) : (wrap64 ((y : Int) / 256)).tmod 256 % 256 = (y0 : Int) := by
  rw [wrap_in (by omega) (by omega), Int.tmod_eq_emod_of_nonneg (by omega)]; omega
theorem ok_mem {v : W8} (h : v.ok) : ∀ y ∈ v.list, y < 4294967296 := by
  obtain ⟨h0, h1, h2, h3, h4, h5, h6, h7⟩ := h
  intro y hy
  simp only [W8.list, List.mem_cons, List.not_mem_nil, or_false] at hy
  rcases hy with rfl | rfl | rfl | rfl | rfl | rfl | rfl | rfl <;> assumption
/-- A part of what reads as a list. -/
theorem Rd.from_ {w : World} {b o n c : Nat} {xs : List Value} (h : Rd w (some ⟨b, o, none⟩) n c xs) {k m : Nat} (hk : k + m ≤ n) : Rd w (some ⟨b, o + k, none⟩) m (c - k) ((xs.drop k).take m) :=
  ⟨by have := h.1; simp; omega, by have := h.2.1; omega, by have := h.2.2.1; omega, fun hp => by
    obtain ⟨b', o', hA, hb, hj⟩ := h.2.2.2 (by omega)
    injection hA with hA
    injection hA with h1 h2
    subst h1 h2
    refine ⟨b, o + k, rfl, hb, fun j u hu => ?_⟩
    rw [List.getElem?_take] at hu
    split at hu
    · rw [List.getElem?_drop] at hu
      have := hj (k + j) u hu
      rwa [Nat.add_assoc]
    · cases hu⟩
set_option maxRecDepth 100000 in
set_option maxHeartbeats 12800000 in
theorem of_any (F R A : Option Addr) (c1 c2 n c : Nat) (xs : List Nat) (w : World) (hF : Rd w F 8 c1 (i64n w0.list)) (hR : Rd w R 64 c2 (i64n KT)) (hB : Rd w A n c (u8n xs)) (hb : by256 xs) (hn : n ≤ 1000) :
    Calls Tryd.prog 38 #[.agg #[.slice F 8 c1, .slice R 64 c2], .slice A n c] w fun e w' => ∃ G m, e = .returned (.slice G 32 m) ∧ Rd w' G 32 m (u8n (dig xs)) ∧ Below w.heap.size w w' := by
  obtain ⟨i0, hi0, hz0, hz1, hz2⟩ := info_parts Go.Proofs.YtlghojnlnfkdhaaDoor.ShaG.info8
  have hln : xs.length = n := by have := hB.1; rwa [u8n_len] at this
  have HF := Lib.hid hF
  have HR := Lib.hid hR
  have HB := Lib.hid hB
  have HLN := Lib.hid hln
  clear hF hR hB hln
  go_enter Tryd.func38, Tryd.ntmps38
  have hk0 : Blk (w.alloc (.cells #[.slice F 8 c1, .slice R 64 c2] 66)) w.heap.size 66 [.slice F 8 c1, .slice R 64 c2] := heap_alloc_new w _
  have hb0 : Below w.heap.size w (w.alloc (.cells #[.slice F 8 c1, .slice R 64 c2] 66)) := (Below.refl _ _).alloc (Nat.le_refl _) _
  have hs0 : (w.alloc (.cells #[.slice F 8 c1, .slice R 64 c2] 66)).heap.size = w.heap.size + 1 := by simp
  have HK0 := Lib.hid hk0
  have HB0 := Lib.hid hb0
  have HS0 := Lib.hid hs0
  have HB1 := Lib.hid (HB.out.below hb0)
  clear hk0 hb0 hs0
  go_wp2_with (first
    | (at_builtin; refine wpList_add _ rfl (.tmp 12) (.tmp 13) _ rfl (w.heap.size + 1) 5 i0 _ 1 Tryd.underlying22 hi0 hz0 hz1 hz2 rfl _ 0 [] rfl ⟨rfl, .inl ⟨rfl, rfl⟩⟩ A n c (u8n xs) rfl HB1.out (u8n_one _) (by omega) (by omega) (by simp) ?_; intro A3 n3 c3 w3 hn3 hown3 hg3 hat3; have hb3 := below_add (v := .slice none 0 0) (base := w.heap.size + 1) (n := 0) (xs := []) (e := 5) (Below.refl _ _) ⟨rfl, .inl ⟨rfl, rfl⟩⟩ (by simp) hg3; have Hn3 := Lib.hid (show n3 = n by have := hn3.out; omega); have hn3' : n3 ≤ 1000 := (by have := hn3.out; omega); have Ho3 := Lib.hid (show w3.ownsRow (w.heap.size + 1) 5 1 (.slice A3 n3 c3) n3 (u8n xs) from hown3); have HB3 := Lib.hid hb3; have hsz3 := hb3.size; have hsz3' : w.heap.size + 1 ≤ w3.heap.size := (by rw [HS0.out] at hsz3; exact hsz3); have HZ3 := Lib.hid hsz3'; clear hat3 hg3 hown3 hn3 hb3 hsz3 hsz3')
    | (at_builtin; refine wpList_add _ rfl (.tmp 15) (.tmp 16) _ rfl (w.heap.size + 1) 5 i0 _ 1 Tryd.underlying22 hi0 hz0 hz1 hz2 rfl _ n3 _ rfl (Ho3.out.alloc _) (some ⟨w3.heap.size, 0, none⟩) 1 1 (u8n [128]) rfl (u8_rd 128 _) (u8n_one _) (by omega) (by omega) (by have := HZ3.out; simp; omega) ?_; intro A4 n4 c4 w4 hn4 hown4 hg4 hat4; have hb4 := below_add (HB3.out.alloc HB3.out.size _) (Ho3.out.alloc _) (by rw [HS0.out]; exact Nat.le_refl _) hg4; clear hat4 hg4))
  have hn4' : n4 ≤ 1001 := by have := hn4.out; omega
  have HL0 := Lib.hid (show n4 = n + 1 + 0 by have := hn4.out; have := Hn3.out; omega)
  have HO4 := Lib.hid (show w4.ownsRow (w.heap.size + 1) 5 1 (.slice A4 n4 c4) n4 (u8n (lz xs 0)) by
    rw [u8n_app] at hown4
    simpa [lz] using hown4)
  have HB4 := Lib.hid hb4
  clear hn4 hown4 hb4 Ho3 HB3 HZ3 Hn3
  go_loopw [5] (fun t wr => ∃ (j r e : Nat) (S : Option Addr), j ≤ zs n ∧ t = .slice S r e ∧ Hid (r = n + 1 + j) ∧ Hid (wr.ownsRow (w.heap.size + 1) 5 1 (.slice S r e) r (u8n (lz xs j))) ∧ Hid (Below (w.alloc (.cells #[.slice F 8 c1, .slice R 64 c2] 66)).heap.size (w.alloc (.cells #[.slice F 8 c1, .slice R 64 c2] 66)) wr)) (fun t _ => 1100 - (match t with | .slice _ r _ => r | _ => 0))
  case atStart => exact ⟨0, n4, c4, A4, Nat.zero_le _, rfl, HL0, HO4, HB4⟩
  case round =>
    obtain ⟨j, r, e, S, hj, rfl, hr, hO, hbel⟩ := hrel
    have hz : zs n < 64 := Nat.mod_lt _ (by decide)
    by_cases hlt : j < zs n
    · have hr' : r ≤ 1064 := by have := hr.out; omega
      have hm : ((r : Int) % 64 != 56) = true := by
        have := hr.out
        unfold zs at hlt
        simp
        omega
      have hsz := hbel.out.size
      rw [HS0.out] at hsz
      have HSz := Lib.hid hsz
      clear hsz
      go_wp2_with (at_builtin; refine wpList_add _ rfl (.tmp 22) (.tmp 23) _ rfl (w.heap.size + 1) 5 i0 _ 1 Tryd.underlying22 hi0 hz0 hz1 hz2 rfl _ r _ rfl (hO.out.alloc _) (some ⟨wr.heap.size, 0, none⟩) 1 1 (u8n [0]) rfl (u8_rd 0 _) (u8n_one _) (by omega) (by omega) (by have := HSz.out; simp; omega) ?_; intro A5 n5 c5 w5 hn5 hown5 hg5 hat5; have hb5 := below_add (hbel.out.alloc hbel.out.size _) (hO.out.alloc _) (by rw [HS0.out]; exact Nat.le_refl _) hg5; clear hat5 hg5)
      go_roundw
      case rel => exact ⟨j + 1, n5, c5, A5, by omega, rfl, Lib.hid (by have := hn5.out; have := hr.out; omega), Lib.hid (by rw [lz_next, ← u8n_app]; exact hown5), Lib.hid hb5⟩
      case measure =>
        have := hn5.out
        show 1100 - n5 < 1100 - r
        omega
    · obtain rfl : j = zs n := by omega
      have hm : ((r : Int) % 64 != 56) = false := by
        have := hr.out
        unfold zs at this
        simp
        omega
      have hrr : r = n + 1 + zs n := hr.out
      have hr' : r ≤ 1065 := by omega
      have HR0 := Lib.hid hrr
      clear hrr hr
      go_wp2
      clear hm
      go_loopw [5, 7] (fun t i wr => ∃ (m r e : Nat) (S : Option Addr), m ≤ 8 ∧ i = .int .i64 (7 - (m : Int)) ∧ t = .slice S r e ∧ Hid (r = n + 1 + zs n + m) ∧ Hid (wr.ownsRow (w.heap.size + 1) 5 1 (.slice S r e) r (u8n (lz xs (zs n) ++ (eight n).take m))) ∧ Hid (Below (w.alloc (.cells #[.slice F 8 c1, .slice R 64 c2] 66)).heap.size (w.alloc (.cells #[.slice F 8 c1, .slice R 64 c2] 66)) wr)) (fun _ i _ => (intOf i + 1).toNat)
      case atStart => exact ⟨0, r, e, S, by omega, rfl, rfl, HR0, Lib.hid (by rw [List.take_zero, List.append_nil]; exact hO.out), hbel⟩
      case round =>
        obtain ⟨m, r, e, S, hm, rfl, rfl, hr, hO, hbel⟩ := hrel
        have hr' : r ≤ 1080 := by have := hr.out; omega
        have hsz := hbel.out.size
        rw [HS0.out] at hsz
        have HSz := Lib.hid hsz
        clear hsz
        by_cases hmt : m < 8
        · obtain ⟨i', hi'⟩ : ∃ i', i' = 7 - m := ⟨_, rfl⟩
          have hi : (7 : Int) - (m : Int) = (i' : Int) := by omega
          have hi7 : i' ≤ 7 := by omega
          have HI := Lib.hid hi'
          have HE := Lib.hid (eight_next n hmt)
          clear hi'
          by_cases h6 : 6 ≤ i'
          · have h6i : (6 : Int) ≤ (i' : Int) := by omega
            go_wp2_with (at_builtin; refine wpList_add _ rfl (.tmp 34) (.tmp 35) _ rfl (w.heap.size + 1) 5 i0 _ 1 Tryd.underlying22 hi0 hz0 hz1 hz2 rfl _ r _ rfl (hO.out.alloc _) (some ⟨wr.heap.size, 0, none⟩) 1 1 (u8n [0]) rfl (u8_rd 0 _) (u8n_one _) (by omega) (by omega) (by have := HSz.out; simp; omega) ?_; intro A5 n5 c5 w5 hn5 hown5 hg5 hat5; have hb5 := below_add (hbel.out.alloc hbel.out.size _) (hO.out.alloc _) (by rw [HS0.out]; exact Nat.le_refl _) hg5; clear hat5 hg5)
            go_roundw
            case rel => exact ⟨m + 1, n5, c5, A5, by omega, by congr 1; omega, rfl, Lib.hid (by have := hn5.out; have := hr.out; omega), Lib.hid (by
              have h0 : 8 * n / 2 ^ (8 * (7 - m)) % 256 = 0 := by
                have h2 : m = 0 ∨ m = 1 := by have := HI.out; omega
                rcases h2 with rfl | rfl
                · show 8 * n / 72057594037927936 % 256 = 0; omega
                · show 8 * n / 281474976710656 % 256 = 0; omega
              rw [HE.out, h0, ← List.append_assoc, ← u8n_app]; exact hown5), Lib.hid hb5⟩
            case measure => simp [intOf]; omega
          · have h6i : ¬ (6 : Int) ≤ (i' : Int) := by omega
            obtain ⟨q, hq⟩ : ∃ q, q = 8 * i' := ⟨_, rfl⟩
            have hq1 : 8 * (i' : Int) = (q : Int) := by omega
            obtain ⟨P, hP⟩ : ∃ P, 2 ^ q = P := ⟨_, rfl⟩
            have hP0 : 0 < P := by rw [← hP]; exact Nat.two_pow_pos q
            have HPW := Lib.hid (show ∀ w, Calls Tryd.prog 52 #[.int .i64 (q : Nat)] w fun e w' => e = .returned (.int .i64 (P : Nat)) ∧ w = w' from fun w => by rw [← hP]; exact power_any q w (by omega))
            obtain ⟨D, hD⟩ : ∃ D, D = 8 * n / P := ⟨_, rfl⟩
            have hD1 : 8 * (n : Int) / (P : Int) = (D : Int) := by rw [hD, Int.natCast_ediv, Int.natCast_mul]; rfl
            obtain ⟨y, hy⟩ : ∃ y, y = D % 256 := ⟨_, rfl⟩
            have hy1 : (D : Int) % 256 = (y : Int) := by omega
            have hy2 : IntKind.u8.wrap (y : Int) = (y : Int) := by rw [IntKind.wrap_u8]; omega
            have HY := Lib.hid (show 8 * n / 2 ^ (8 * (7 - m)) % 256 = y by rw [← HI.out, ← hq, hP, ← hD, hy])
            have hP1 : (0 : Int) < (P : Int) := by omega
            have hP2 : ¬ (P : Int) = 0 := by omega
            have hD0 : (0 : Int) ≤ (D : Int) := by omega
            clear hP hq hD hy
            go_wp2_with (first
              | (go_at_call 52; refine (HPW.out _).mono ?_; rintro e w7 ⟨rfl, rfl⟩)
              | (at_builtin; refine wpList_add _ rfl (.tmp 37) (.tmp 45) _ rfl (w.heap.size + 1) 5 i0 _ 1 Tryd.underlying22 hi0 hz0 hz1 hz2 rfl _ r _ rfl (hO.out.alloc _) (some ⟨wr.heap.size, 0, none⟩) 1 1 (u8n [y]) rfl (u8_rd y _) (u8n_one _) (by omega) (by omega) (by have := HSz.out; simp; omega) ?_; intro A5 n5 c5 w5 hn5 hown5 hg5 hat5; have hb5 := below_add (hbel.out.alloc hbel.out.size _) (hO.out.alloc _) (by rw [HS0.out]; exact Nat.le_refl _) hg5; clear hat5 hg5))
            go_roundw
            case rel => exact ⟨m + 1, n5, c5, A5, by omega, by congr 1; omega, rfl, Lib.hid (by have := hn5.out; have := hr.out; omega), Lib.hid (by rw [HE.out, HY.out, ← List.append_assoc, ← u8n_app]; exact hown5), Lib.hid hb5⟩
            case measure => simp [intOf]; omega
        · obtain rfl : m = 8 := by omega
          have HP := Lib.hid (show lz xs (zs n) ++ (eight n).take 8 = pad xs by rw [pad_eq, HLN.out])
          obtain ⟨K, hK⟩ : ∃ K, (pad xs).length = 64 * K := ⟨(pad xs).length / 64, by have := pad_len xs; omega⟩
          have hT := Lib.hid (Rd.own hO.out)
          rw [HP.out] at hT
          have hrK : r = 64 * K := by have := hT.out.1; rw [u8n_len, hK] at this; exact this.symm
          have HBK := HK0.out.below hbel.out
          have kc0 := HBK.cell (i := 0) rfl
          have kc1 := HBK.cell (i := 1) rfl
          have HFr := Lib.hid (HF.out.below (HB0.out.trans (hbel.out.mono HB0.out.size)))
          have HRr := Lib.hid (HR.out.below (HB0.out.trans (hbel.out.mono HB0.out.size)))
          have HWr := Lib.hid (HB0.out.trans (hbel.out.mono HB0.out.size))
          have hr0 : 0 < r := by have := hr.out; omega
          have hkl : w.heap.size < wr.heap.size := by have := HSz.out; omega
          obtain ⟨tb, tO, rfl⟩ := Go.Proofs.YtlghojnlnfkdhaaDoor.RefG.rd_some hT.out (by omega)
          clear HBK hO hbel HSz hr
          have hrm : r ≤ 1080 := hr'
          obtain ⟨wo, rfl⟩ : ∃ wo : World, wo = wr := ⟨_, rfl⟩
          have HKB := Lib.hid (HK0.out)
          go_wp2
          have hre : r ≤ e := hT.out.le
          have HPL := Lib.hid (show by256 (pad xs) from fun y hy => by
            rcases List.mem_append.1 hy with h | h
            · exact hb y h
            · exact tail_lt _ y h)
          have hK2 : K ≤ 16 := by omega
          have hRK := Lib.hid hrK
          clear hrK
          go_loopw [8, 9] (fun vv i wr => ∃ (k z x : Nat) (V : Option Addr), k ≤ K ∧ i = .int .i64 (z : Nat) ∧ Hid (z = 64 * k) ∧ vv = .slice V 8 x ∧ Hid (Rd wr V 8 x (i64n (bk (pad xs) k).list)) ∧ Hid (Below wo.heap.size wo wr)) (fun _ i _ => 64 * K - (intOf i).toNat)
          case atStart => exact ⟨0, 0, c1, F, Nat.zero_le _, rfl, Lib.hid rfl, rfl, HFr, Lib.hid (Below.refl _ _)⟩
          case round =>
            obtain ⟨k, z, x, V, hk, rfl, hz, rfl, HV, HBL⟩ := hrel
            have HW2 := Lib.hid (HWr.out.trans (HBL.out.mono HWr.out.size))
            by_cases hkt : k < K
            · have p0 := (HBL.out.cell (p := ⟨w.heap.size, 0, none⟩) hkl).trans kc0
              have p1 := (HBL.out.cell (p := ⟨w.heap.size, 1, none⟩) hkl).trans kc1
              have e1 : z + 64 ≤ r := by have := hz.out; have := hRK.out; omega
              have e2 : z + 64 ≤ e := by omega
              have HTk := Lib.hid (Rd.from_ (hT.out.below HBL.out) (k := z) (m := 64) e1)
              obtain ⟨Q, hQ⟩ : ∃ Q, Q = z + 64 := ⟨_, rfl⟩
              have hq0 : IntKind.i64.wrap ((z : Int) + 64) = (Q : Int) := by rw [IntKind.wrap_i64]; omega
              have hq1 : (Q : Int) ≤ (e : Int) := by omega
              have hq2 : z ≤ Q := by omega
              have hq3 : Q - z = 64 := by omega
              have hq4 : ¬ e = z := by omega
              have HQ := Lib.hid hQ
              clear hQ
              go_wp2
              go_still_tail 7, (by kernel_rfl)
              change wpList _ _ _ _ _ (World.drew _)
              clear p0 p1 hq0 hq1 hq2 hq3 hq4
              go_wp2_with fail
              refine (Go.Proofs.YtlghojnlnfkdhaaDoor.RefG.behind_any V (some ⟨tb, tO + z, none⟩) R F 8 x (e - z) c2 c1 (bk (pad xs) k) (((pad xs).drop z).take 64) wr.drew HV.out (by have := HTk.out; rw [show ((u8n (pad xs)).drop z).take 64 = u8n (((pad xs).drop z).take 64) from by simp [u8n, List.map_drop, List.map_take]] at this; exact this) (HRr.out.below HBL.out.drew) (bk_ok _ _) (fun y hy => HPL.out y (List.mem_of_mem_drop (List.mem_of_mem_take hy))) (by have := hz.out; simp; omega)).mono ?_
              rintro e7 w7 ⟨V7, x7, rfl, hV7, hb7⟩
              have HV7 := Lib.hid (show Rd w7 V7 8 x7 (i64n (bk (pad xs) (k + 1)).list) from by rw [bk, ← hz.out]; exact hV7)
              have HB7 := Lib.hid (HBL.out.trans (show Below wo.heap.size wr w7 from ((below_drewN (Below.refl wr.heap.size wr) 1).trans hb7).mono HBL.out.size))
              clear hV7 hb7
              go_wp2
              go_roundw
              case rel =>
                (repeat apply Exists.intro)
                exact ⟨⟨k + 1, z + 64, x7, V7, by omega, by go_num, Lib.hid (by have := hz.out; omega), rfl, HV7, HB7⟩, rfl⟩
              case measure => simp [intOf]; have := hz.out; omega
            · obtain rfl : k = K := by omega
              have hzr : ¬ (z : Int) < (r : Int) := by have := hz.out; have := hRK.out; omega
              have HD := Lib.hid (show dig xs = (bk (pad xs) k).list.flatMap by4 from by rw [dig, hK, Nat.mul_div_cancel_left _ (by omega)]; rfl)
              obtain ⟨vb, vo, rfl⟩ := Go.Proofs.YtlghojnlnfkdhaaDoor.RefG.rd_some HV.out (by omega)
              obtain ⟨L, hL⟩ : ∃ L, L = (bk (pad xs) k).list := ⟨_, rfl⟩
              have HLL := Lib.hid (show L.length = 8 from by rw [hL]; rfl)
              have HLB := Lib.hid (show ∀ y ∈ L, y < 4294967296 from by rw [hL]; exact ok_mem (bk_ok _ _))
              rw [← hL] at HV HD
              clear hL HBL kc0 kc1 hkl hT HFr HRr HWr hz hRK hkt hre
              obtain ⟨wp, rfl⟩ : ∃ wp : World, wp = wr := ⟨_, rfl⟩
              go_wp2
              go_loopw [10, 11] (fun t i wr => ∃ (j q e : Nat) (S : Option Addr), j ≤ 8 ∧ i = .int .i64 (j : Nat) ∧ t = .slice S q e ∧ Hid (q = 4 * j) ∧ Hid (wr.ownsRow wp.heap.size 5 1 (.slice S q e) q (u8n ((L.take j).flatMap by4))) ∧ Hid (Below wp.heap.size wp wr)) (fun _ i _ => 8 - (intOf i).toNat)
              case atStart => exact ⟨0, 0, 0, none, by omega, rfl, rfl, Lib.hid rfl, Lib.hid ⟨rfl, .inl ⟨rfl, rfl⟩⟩, Lib.hid (Below.refl _ _)⟩
              case round =>
                obtain ⟨j, q, e4, S4, hj, rfl, rfl, hq, hO, hbel⟩ := hrel
                by_cases hjt : j < 8
                · have HV4 := HV.out.below hbel.out
                  obtain ⟨y, hy⟩ : ∃ y, y = L.getD j 0 := ⟨_, rfl⟩
                  have c0 := rd_nk HV4 (k := j) (by omega) hy.symm
                  have hyl : y < 4294967296 := by
                    rw [hy, List.getD_eq_getElem?_getD, List.getElem?_eq_getElem (by have := HLL.out; omega)]
                    exact HLB.out _ (List.getElem_mem _)
                  have HNX := Lib.hid (show (L.take (j + 1)).flatMap by4 = (L.take j).flatMap by4 ++ by4 y from by
                    rw [List.take_succ_eq_append_getElem (by have := HLL.out; omega), List.flatMap_append, hy, List.getD_eq_getElem?_getD, List.getElem?_eq_getElem (by have := HLL.out; omega)]
                    simp)
                  obtain ⟨y0, hy0⟩ : ∃ y0, y0 = y / 16777216 % 256 := ⟨_, rfl⟩
                  obtain ⟨y1, hy1⟩ : ∃ y1, y1 = y / 65536 % 256 := ⟨_, rfl⟩
                  obtain ⟨y2, hy2⟩ : ∃ y2, y2 = y / 256 % 256 := ⟨_, rfl⟩
                  obtain ⟨y3, hy3⟩ : ∃ y3, y3 = y % 256 := ⟨_, rfl⟩
                  have HB4 := Lib.hid (show by4 y = [y0, y1, y2, y3] from by rw [by4, hy0, hy1, hy2, hy3])
                  have F0 := Lib.hid (byte0 hyl hy0)
                  have F1 := Lib.hid (byte1 hyl hy1)
                  have F2 := Lib.hid (byte2 hyl hy2)
                  have F3 := Lib.hid (show (y : Int) % 256 = (y3 : Int) from by omega)
                  have w0' : IntKind.u8.wrap ((y : Int) / 16777216) = (y0 : Int) := by rw [IntKind.wrap_u8]; omega
                  have w1' : IntKind.u8.wrap ((y : Int) / 65536 % 256) = (y1 : Int) := by rw [IntKind.wrap_u8]; omega
                  have w2' : IntKind.u8.wrap ((y : Int) / 256 % 256) = (y2 : Int) := by rw [IntKind.wrap_u8]; omega
                  have w3' : IntKind.u8.wrap ((y : Int) % 256) = (y3 : Int) := by rw [IntKind.wrap_u8]; omega
                  have yp : (0 : Int) ≤ (y : Int) := by omega
                  have yl : (y : Int) < 4294967296 := by omega
                  have j0 : (0 : Int) ≤ (j : Int) := by omega
                  have j1 : (j : Int) < 8 := by omega
                  clear hy hy0 hy1 hy2 hy3 HV4
                  go_wp2
                  refine wp_region_any (by kernel_rfl) ?_
                  change wpAny _ _ _ _ _ _ _ (World.drew _)
                  refine wpAny_take (i := 0) (v := .slice S4 q e4) rfl (by kernel_rfl) (by kernel_rfl) (by kernel_rfl) (fun _ _ _ h => h) (Or.inl ⟨by rfl, fun w => by go_simp⟩) ?_
                  refine wpAny_qtail (C := fun w' => ∃ n, w' = wr.drewN n) 27 (List.range' 1 26) (by kernel_rfl) (by kernel_rfl) ⟨1, rfl⟩ ?_
                  simp only [List.range', Act.put, List.setIfInBounds_toArray]
                  repeat (refine wpQI_step rfl (fun qK hqK => ?_); go_simp; refine hqK _ ?_; clear hqK qK)
                  refine wpQI_nil ?_
                  rintro _ ⟨nq, rfl⟩
                  simp only [List.drop_succ_cons, List.drop_zero]
                  have hO2 : Hid ((wr.drewN nq).ownsRow wp.heap.size 5 1 (.slice S4 q e4) q (u8n ((L.take j).flatMap by4))) := Lib.hid hO.out
                  have hbel2 : Hid (Below wp.heap.size wp (wr.drewN nq)) := Lib.hid (below_drewN hbel.out nq)
                  have hsz := hbel.out.size
                  have hsz2 : Hid (wp.heap.size ≤ (wr.drewN nq).heap.size) := Lib.hid hsz
                  have hq32 : q < 32 := by have := hq.out; omega
                  clear w0' w1' w2' w3' c0 yp yl hyl hsz hO hbel
                  generalize wr.drewN nq = wq at *
                  go_wp2_with (at_builtin; simp only [F0.out, F1.out, F2.out, F3.out]; refine wpList_add _ rfl (.tmp 67) (.tmp 94) _ rfl wp.heap.size 5 i0 _ 1 Tryd.underlying22 hi0 hz0 hz1 hz2 rfl _ q _ rfl (hO2.out.alloc _) (some ⟨wq.heap.size, 0, none⟩) 4 4 (u8n [y0, y1, y2, y3]) rfl (four_rd y0 y1 y2 y3 _) (u8n_one _) (by omega) (by omega) (by have := hsz2.out; simp; omega) ?_; intro A5 n5 c5 w5 hn5 hown5 hg5 hat5; have hb5 := below_add (hbel2.out.alloc hbel2.out.size _) (hO2.out.alloc _) (Nat.le_refl _) hg5; clear hat5 hg5)
                  go_roundw
                  case rel => exact ⟨j + 1, n5, c5, A5, by omega, by go_num, rfl, Lib.hid (by have := hn5.out; have := hq.out; omega), Lib.hid (by rw [HNX.out, HB4.out, ← u8n_app]; exact hown5), Lib.hid hb5⟩
                  case measure => simp [intOf]; omega
                · obtain rfl : j = 8 := by omega
                  obtain rfl : q = 32 := hq.out
                  go_wp2
                  go_ret
                  refine ⟨S4, e4, rfl, ?_, HW2.out.trans (hbel.out.mono HW2.out.size)⟩
                  have h := hO.out
                  rw [List.take_of_length_le (by have := HLL.out; omega), ← HD.out] at h
                  exact Rd.own h
end Go.Proofs.YtlghojnlnfkdhaaDoor.RefO
namespace Go.Proofs.YtlghojnlnfkdhaaDoor.ImgH
open Go.RowKit Go.Proofs.YtlghojnlnfkdhaaDoor.Kit Go.Proofs.YtlghojnlnfkdhaaDoor.Byt Go.Proofs.YtlghojnlnfkdhaaDoor.Mem Go.Proofs.YtlghojnlnfkdhaaDoor.Beq Go.Proofs.YtlghojnlnfkdhaaDoor.ShaM Go.Proofs.YtlghojnlnfkdhaaDoor.ShaE Go.Proofs.YtlghojnlnfkdhaaDoor.ImgA Go.Proofs.YtlghojnlnfkdhaaDoor.ImgB Go.Proofs.YtlghojnlnfkdhaaDoor.ImgS Go.Proofs.YtlghojnlnfkdhaaDoor.ImgP Go.Proofs.YtlghojnlnfkdhaaDoor.ImgR Go.Proofs.YtlghojnlnfkdhaaDoor.ImgG Go.Proofs.YtlghojnlnfkdhaaDoor.ImgF

theorem pbn1 (x : Nat) (h : x < 256) : pbn (x : Int) 1 = [x] := by
  have h1 : NumA.wd 1 = 1 := rfl
  unfold pbn NumB.cl
  rw [h1]
  have h2 : (2 : Nat) ^ (8 * 1) - 1 = 255 := rfl
  rw [h2]
  simp only [Int.toNat_natCast, List.range_succ, List.range_zero, List.nil_append, List.map_cons, List.map_nil]
  rw [Nat.min_eq_left (by omega)]
  simp
  omega
theorem pbn2 (x : Nat) (h : x < 65536) : pbn (x : Int) 2 = [x / 256, x % 256] := by
  have h1 : NumA.wd 2 = 2 := rfl
  unfold pbn NumB.cl
  rw [h1]
  have h2 : (2 : Nat) ^ (8 * 2) - 1 = 65535 := rfl
  rw [h2]
  simp only [Int.toNat_natCast, List.range_succ, List.range_zero, List.nil_append, List.map_cons, List.map_nil, List.singleton_append]
  rw [Nat.min_eq_left (by omega)]
  simp
  omega
set_option maxRecDepth 100000 in
set_option maxHeartbeats 3200000 in
theorem rtail_any (A : Option Addr) (n c : Nat) (xs : List Nat) (w : World) (hR : Rd w A n c (u8n xs)) (hx : by256 xs) (hl : xs.length ≤ 1000) :
    Calls Tryd.prog 24 #[.slice A n c] w (Gives w (closed xs)) := by
  obtain ⟨i0, hi0, hz0, hz1, hz2⟩ := info_parts NumA.info8
  have hn : xs.length = n := Rd.nats hR
  have HR := Lib.hid hR
  have HRO := Lib.hid (fun (F R : Option Addr) (c1 c2 : Nat) (w' : World) (hF : Rd w' F 8 c1 (RefB.i64n w0.list)) (hR : Rd w' R 64 c2 (RefB.i64n KT)) (h : Rd w' A n c (u8n xs)) => RefO.of_any F R A c1 c2 n c xs w' hF hR h hx (by omega))
  obtain ⟨D, hD⟩ : ∃ D : List Nat, D = dig xs := ⟨_, rfl⟩
  have hdl : D.length = 32 := by rw [hD, dig_len]
  have hxd : by256 (xs ++ D) := app_lt hx (by rw [hD]; exact dig_lt xs)
  have HS := Lib.hid (fun (w' : World) (B : Option Addr) (m d : Nat) (h : Rd w' B m d (u8n (xs ++ D))) => CrcB.rsum_any B m d (xs ++ D) w' h hxd)
  have hlt := CrcM.sm_lt (xs ++ D)
  have HCL := Lib.hid (show closed xs = xs ++ D ++ pbn (CrcM.sm (xs ++ D) : Nat) 4 from by rw [hD]; rfl)
  rw [← hD] at HRO
  obtain ⟨y, hy⟩ : ∃ y, y = CrcM.sm (xs ++ D) := ⟨_, rfl⟩
  rw [← hy] at HS HCL hlt
  obtain ⟨E, hE⟩ : ∃ E, E = pbn (y : Int) 4 := ⟨_, rfl⟩
  have hel : E.length = 4 := by rw [hE, pbn_len]; rfl
  have HE := Lib.hid hE
  rw [← hE] at HCL
  clear hD hR hy hxd hE
  go_enter Tryd.func24, Tryd.ntmps24
  go_wp2_with (at_builtin; refine wpList_add _ rfl (.tmp 4) (.tmp 5) _ rfl w.heap.size 5 i0 _ 1 Tryd.underlying22 hi0 hz0 hz1 hz2 rfl _ 0 [] rfl (World.ownsRow_nil _ _ 5 1) A n c (u8n xs) rfl HR.out (u8n_one _) (by omega) (by omega) (Nat.le_refl _) ?_; intro A1 n1 c1 w1 hn1 hown1 hg1 hat1; have hb1 : Below w.heap.size w w1 := below_add (Below.refl _ _) (World.ownsRow_nil w w.heap.size 5 1) (Nat.le_refl _) hg1; clear hat1 hg1)
  rw [List.nil_append] at hown1
  obtain rfl : n1 = n := by have := hn1.out; omega
  have HO1 := Lib.hid hown1
  have HB1 := Lib.hid hb1
  clear hn1 hown1 hb1
  refine (RefK.know_any _).mono ?_
  rintro e w2 ⟨F, k1, R, k2, rfl, hF, hR, hb2⟩
  have HB2 := Lib.hid (HB1.out.trans (hb2.mono HB1.out.size))
  have HO2 := Lib.hid (own_below HO1.out hb2)
  have HF := Lib.hid hF
  have HRR := Lib.hid hR
  clear hF hR hb2 HO1 HB1
  go_wp2_with fail
  refine (HRO.out _ _ _ _ _ HF.out HRR.out (HR.out.below HB2.out)).mono ?_
  rintro e w3 ⟨G, m, rfl, hG, hb3⟩
  have HB3 := Lib.hid (HB2.out.trans (hb3.mono HB2.out.size))
  have HO3 := Lib.hid (own_below HO2.out hb3)
  have HG := Lib.hid hG
  clear hG hb3 HO2 HB2 HF HRR
  go_wp2_with (at_builtin; refine wpList_add _ rfl (.tmp 7) (.tmp 10) _ rfl w.heap.size 5 i0 _ 1 Tryd.underlying22 hi0 hz0 hz1 hz2 rfl _ n1 (u8n xs) rfl HO3.out G 32 m (u8n D) rfl HG.out (u8n_one _) (by omega) (by omega) HB3.out.size ?_; intro A4 n4 c4 w4 hn4 hown4 hg4 hat4; have hb4 := below_add HB3.out HO3.out (Nat.le_refl _) hg4; clear hat4 hg4)
  rw [u8n_app] at hown4
  have HO4 := Lib.hid hown4
  have HB4 := Lib.hid hb4
  have hn4' : n4 ≤ 1032 := by have := hn4.out; omega
  clear hn4 hown4 hb4 HO3 HB3
  refine (HS.out w4 A4 n4 c4 (Rd.own HO4.out)).mono ?_
  rintro e w5 ⟨rfl, rfl⟩
  go_wp2_with fail
  refine (NumE.rput_any (y : Int) 4 _ (by omega)).mono ?_
  rintro e w5 ⟨A5, n5, c5, hn5, rfl, hown5, hb5⟩
  have hr5 := Rd.own hown5
  rw [← pbn_nl, ← nl_u8s, ← HE.out] at hr5
  obtain rfl : 4 = n5 := by have := Rd.nats hr5; omega
  have HR5 := Lib.hid hr5
  have HO5 := Lib.hid (own_below HO4.out hb5)
  have HB5 := Lib.hid (HB4.out.trans (hb5.mono HB4.out.size))
  clear hn5 hown5 hb5 hr5 HO4 HB4
  go_wp2_with (at_builtin; refine wpList_add _ rfl (.tmp 12) (.tmp 16) _ rfl w.heap.size 5 i0 _ 1 Tryd.underlying22 hi0 hz0 hz1 hz2 rfl _ n4 (u8n (xs ++ D)) rfl HO5.out A5 4 c5 (u8n E) rfl HR5.out (u8n_one _) (by omega) (by omega) HB5.out.size ?_; intro A6 n6 c6 w6 hn6 hown6 hg6 hat6; have hb6 := below_add HB5.out HO5.out (Nat.le_refl _) hg6; clear hat6 hg6)
  rw [u8n_app, ← HCL.out] at hown6
  go_ret
  exact ⟨A6, n6, c6, rfl, hown6, hb6⟩
theorem own_lit {w : World} (xs : List Nat) {n : Nat} (hn : xs.length = n) (h63 : n ≤ 1000) : (w.alloc (.cells (u8n xs).toArray 5)).ownsRow w.heap.size 5 1 (.slice (some ⟨w.heap.size, 0, none⟩) n n) n (u8n xs) := by
  have h := own_of_block (w := w.alloc (.cells (u8n xs).toArray 5)) (g := w.heap.size) (cur := u8n xs) (e := 5) (base := w.heap.size) (n := n) (heap_alloc_new w _) (Nat.le_refl _) (by rw [u8n_len]; omega) (by rw [u8n_len]; omega)
  rw [u8n_len, hn, List.take_of_length_le (by rw [u8n_len]; omega)] at h
  exact h
set_option maxRecDepth 100000 in
set_option maxHeartbeats 3200000 in
theorem rhead_any (i : Im) (w : World) (ho : i.ok w) (hr : right i) : Calls Tryd.prog 25 #[i.val] w (Gives w (head i)) := by
  obtain ⟨i0, hi0, hz0, hz1, hz2⟩ := info_parts NumA.info8
  have hn : i.xs.length = i.n := ho.len
  have h96 : i.n ≤ 96 := by have := hr.2.2.2.2.2.2.2.2; omega
  have HX := Lib.hid (Bx.new w i)
  have HRD := Lib.hid (show Rd w i.A i.n i.c (NumA.u8s (nl i.xs)) from by rw [← nl_u8s]; exact ho.code)
  have HTX := Lib.hid (show NumE.txt (nl i.xs) = nl (pbn (i.n : Int) 2 ++ i.xs) from txt_nl hn (by omega))
  have hh : head i = nums8 i ++ (pbn (i.n : Int) 2 ++ i.xs) := rfl
  obtain ⟨p, v, h, m, f, s, r, A, n, c, xs⟩ := i
  obtain ⟨⟨p0, p1⟩, ⟨v0, v1⟩, ⟨h0, h1⟩, ⟨m0, m1⟩, ⟨f0, f1⟩, ⟨s0, s1⟩, ⟨r0, r1⟩, _⟩ := hr
  dsimp only at p0 p1 v0 v1 h0 h1 m0 m1 f0 f1 s0 s1 r0 r1 hn h96 HRD HTX
  obtain ⟨p, rfl⟩ : ∃ q : Nat, p = q := ⟨p.toNat, by omega⟩
  obtain ⟨v, rfl⟩ : ∃ q : Nat, v = q := ⟨v.toNat, by omega⟩
  obtain ⟨h, rfl⟩ : ∃ q : Nat, h = q := ⟨h.toNat, by omega⟩
  obtain ⟨m, rfl⟩ : ∃ q : Nat, m = q := ⟨m.toNat, by omega⟩
  obtain ⟨f, rfl⟩ : ∃ q : Nat, f = q := ⟨f.toNat, by omega⟩
  obtain ⟨s, rfl⟩ : ∃ q : Nat, s = q := ⟨s.toNat, by omega⟩
  obtain ⟨r, rfl⟩ : ∃ q : Nat, r = q := ⟨r.toNat, by omega⟩
  have HNM := Lib.hid (show nums8 ⟨(p : Int), (v : Int), (h : Int), (m : Int), (f : Int), (s : Int), (r : Int), A, n, c, xs⟩ = [76, 73, p, v / 256, v % 256, h / 256, h % 256, m, f, s, r] from by
    unfold nums8
    rw [pbn1 p (by omega), pbn2 v (by omega), pbn2 h (by omega), pbn1 m (by omega), pbn1 f (by omega), pbn1 s (by omega), pbn1 r (by omega)]
    rfl)
  have HH := Lib.hid hh
  have wp : IntKind.u8.wrap (p : Int) = (p : Int) := by rw [IntKind.wrap_u8]; omega
  have wm : IntKind.u8.wrap (m : Int) = (m : Int) := by rw [IntKind.wrap_u8]; omega
  have wf : IntKind.u8.wrap (f : Int) = (f : Int) := by rw [IntKind.wrap_u8]; omega
  have ws : IntKind.u8.wrap (s : Int) = (s : Int) := by rw [IntKind.wrap_u8]; omega
  have wr : IntKind.u8.wrap (r : Int) = (r : Int) := by rw [IntKind.wrap_u8]; omega
  have v2 : IntKind.u8.wrap ((v : Int) / 256) = ((v / 256 : Nat) : Int) := by rw [IntKind.wrap_u8]; omega
  have v3 : IntKind.u8.wrap ((v : Int) % 256) = ((v % 256 : Nat) : Int) := by rw [IntKind.wrap_u8]; omega
  have h2 : IntKind.u8.wrap ((h : Int) / 256) = ((h / 256 : Nat) : Int) := by rw [IntKind.wrap_u8]; omega
  have h3 : IntKind.u8.wrap ((h : Int) % 256) = ((h % 256 : Nat) : Int) := by rw [IntKind.wrap_u8]; omega
  clear ho hh
  show Calls _ _ #[.agg #[.int .i64 (p : Int), .int .i64 (v : Int), .int .i64 (h : Int), .int .i64 (m : Int), .int .i64 (f : Int), .int .i64 (s : Int), .int .i64 (r : Int), .slice A n c]] w _
  go_enter Tryd.func25, Tryd.ntmps25
  go_wp2_with fail
  have hsz : (w.alloc (.cells #[.int .i64 (p : Int), .int .i64 (v : Int), .int .i64 (h : Int), .int .i64 (m : Int), .int .i64 (f : Int), .int .i64 (s : Int), .int .i64 (r : Int), .slice A n c] 24)).heap.size = w.heap.size + 1 := by simp
  have hlit : (#[.int .u8 76, .int .u8 73, .int .u8 (p : Int), .int .u8 ((v : Int) / 256), .int .u8 ((v : Int) % 256), .int .u8 ((h : Int) / 256), .int .u8 ((h : Int) % 256), .int .u8 (m : Int), .int .u8 (f : Int), .int .u8 (s : Int), .int .u8 (r : Int)] : Array Value) = (u8n [76, 73, p, v / 256, v % 256, h / 256, h % 256, m, f, s, r]).toArray := by simp [u8n]
  have HO2 := Lib.hid (own_lit (w := w.alloc (.cells #[.int .i64 (p : Int), .int .i64 (v : Int), .int .i64 (h : Int), .int .i64 (m : Int), .int .i64 (f : Int), .int .i64 (s : Int), .int .i64 (r : Int), .slice A n c] 24)) [76, 73, p, v / 256, v % 256, h / 256, h % 256, m, f, s, r] (n := 11) rfl (by omega))
  rw [hsz, ← hlit] at HO2
  have hb2 : Below w.heap.size w ((w.alloc (.cells #[.int .i64 (p : Int), .int .i64 (v : Int), .int .i64 (h : Int), .int .i64 (m : Int), .int .i64 (f : Int), .int .i64 (s : Int), .int .i64 (r : Int), .slice A n c] 24)).alloc (.cells #[.int .u8 76, .int .u8 73, .int .u8 (p : Int), .int .u8 ((v : Int) / 256), .int .u8 ((v : Int) % 256), .int .u8 ((h : Int) / 256), .int .u8 ((h : Int) % 256), .int .u8 (m : Int), .int .u8 (f : Int), .int .u8 (s : Int), .int .u8 (r : Int)] 5)) := HX.out.bel.alloc (size_alloc _ _) _
  have hs2 : ((w.alloc (.cells #[.int .i64 (p : Int), .int .i64 (v : Int), .int .i64 (h : Int), .int .i64 (m : Int), .int .i64 (f : Int), .int .i64 (s : Int), .int .i64 (r : Int), .slice A n c] 24)).alloc (.cells #[.int .u8 76, .int .u8 73, .int .u8 (p : Int), .int .u8 ((v : Int) / 256), .int .u8 ((v : Int) % 256), .int .u8 ((h : Int) / 256), .int .u8 ((h : Int) % 256), .int .u8 (m : Int), .int .u8 (f : Int), .int .u8 (s : Int), .int .u8 (r : Int)] 5)).heap.size = w.heap.size + 2 := by simp
  have HB2 := Lib.hid hb2
  have HD2 := Lib.hid (HRD.out.below hb2)
  rw [← HNM.out] at HO2
  obtain ⟨w2, hw2⟩ : ∃ w2, w2 = (w.alloc (.cells #[.int .i64 (p : Int), .int .i64 (v : Int), .int .i64 (h : Int), .int .i64 (m : Int), .int .i64 (f : Int), .int .i64 (s : Int), .int .i64 (r : Int), .slice A n c] 24)).alloc (.cells #[.int .u8 76, .int .u8 73, .int .u8 (p : Int), .int .u8 ((v : Int) / 256), .int .u8 ((v : Int) % 256), .int .u8 ((h : Int) / 256), .int .u8 ((h : Int) % 256), .int .u8 (m : Int), .int .u8 (f : Int), .int .u8 (s : Int), .int .u8 (r : Int)] 5) := ⟨_, rfl⟩
  rw [← hw2] at HO2 HB2 HD2 hs2 ⊢
  clear hw2 hlit hb2 hsz
  refine (NumF.rtext_any A n c (nl xs) _ HD2.out).mono ?_
  rintro e w3 ⟨A3, n3, c3, hn3, rfl, ho3, hb3⟩
  have hr3 := Rd.own ho3
  rw [HTX.out, ← nl_u8s] at hr3
  have HR3 := Lib.hid hr3
  have HO3 := Lib.hid (own_below HO2.out hb3)
  have HB3 := Lib.hid (HB2.out.trans (hb3.mono HB2.out.size))
  have hs3 := hb3.size
  have hn3' : n3 ≤ 98 := by
    have := Rd.nats hr3
    rw [List.length_append, pbn_len] at this
    have h2 : NumA.wd 2 = 2 := rfl
    rw [h2] at this
    omega
  clear hn3 ho3 hb3 hr3 HO2 HB2 HD2
  go_wp2_with (at_builtin; refine wpList_add _ rfl (.tmp 36) (.tmp 39) _ rfl (w.heap.size + 1) 5 i0 _ 1 Tryd.underlying22 hi0 hz0 hz1 hz2 rfl _ 11 (u8n (nums8 ⟨(p : Int), (v : Int), (h : Int), (m : Int), (f : Int), (s : Int), (r : Int), A, n, c, xs⟩)) rfl HO3.out A3 n3 c3 (u8n (pbn (n : Int) 2 ++ xs)) rfl HR3.out (u8n_one _) (by omega) (by omega) (by omega) ?_; intro A6 n6 c6 w6 hn6 hown6 hg6 hat6; have hb6 : Below w.heap.size w w6 := below_add HB3.out HO3.out (Nat.le_succ _) hg6; clear hat6 hg6)
  rw [u8n_app, ← HH.out] at hown6
  go_ret
  exact ⟨A6, n6, c6, rfl, own_mono hown6 (Nat.le_succ _), hb6⟩
set_option maxRecDepth 100000 in
set_option maxHeartbeats 1600000 in
theorem rbytes_any (i : Im) (w : World) (ho : i.ok w) (hr : right i) : Calls Tryd.prog 14 #[i.val] w (Gives w (closed (head i))) := by
  have hn : i.xs.length = i.n := ho.len
  have hl := head_le hn hr
  have HX := Lib.hid (Bx.new w i)
  have HH := Lib.hid (fun w' (hb : Below w.heap.size w w') => rhead_any i w' (ho.below hb) hr)
  have hlt := head_lt ho.byt
  have HT := Lib.hid (fun w' (B : Option Addr) (m d : Nat) (h : Rd w' B m d (u8n (head i))) => rtail_any B m d (head i) w' h hlt (by omega))
  clear ho hr hlt hn
  generalize head i = hd at *
  obtain ⟨p, v, h, m, f, s, r, A, n, c, xs⟩ := i
  show Calls _ _ #[.agg #[.int .i64 p, .int .i64 v, .int .i64 h, .int .i64 m, .int .i64 f, .int .i64 s, .int .i64 r, .slice A n c]] w _
  go_enter Tryd.func14, Tryd.ntmps14
  go_wp2_with fail
  refine (HH.out _ HX.out.bel).mono ?_
  rintro e w1 ⟨B, m1, d, rfl, ho1, hb1⟩
  have HB1 := Lib.hid (HX.out.bel.trans (hb1.mono HX.out.bel.size))
  have HR1 := Lib.hid (Rd.own ho1)
  clear ho1 hb1
  go_wp2_with fail
  refine (HT.out _ B m1 d HR1.out).mono ?_
  rintro e w2 ⟨B2, m2, d2, rfl, ho2, hb2⟩
  go_wp2_with fail
  go_ret
  exact ⟨B2, m2, d2, rfl, own_mono ho2 HB1.out.size, HB1.out.trans (hb2.mono HB1.out.size)⟩
set_option maxRecDepth 100000 in
set_option maxHeartbeats 1600000 in
theorem digest_any (i : Im) (w : World) (hT : Tab w) (hb : by256 i.xs) (hn : i.xs.length = i.n) (hr : right i) (A : Option Addr) (n c : Nat) (hR : Rd w A n c (u8n (closed (head i)))) :
    Calls Tryd.prog 12 #[.slice A n c] w fun e w' => e = .returned (.agg (u8n (dig (head i))).toArray) ∧ Below w.heap.size w w' := by
  have hN : (closed (head i)).length = n := Rd.nats hR
  rw [closed_len] at hN
  have hc := hR.le
  have hc2 := hR.cap
  have h109 := head_le hn hr
  obtain ⟨b, o, rfl, hbl, hcell⟩ := hR.2.2.2 (by omega)
  have hz32 := ShaF.zero32
  obtain ⟨Z2, hZ2⟩ : ∃ Z2 : Array Value, Z2 = (u8n (List.replicate 32 0)).toArray := ⟨_, rfl⟩
  simp only [← hZ2] at hz32
  have HZ2 := Lib.hid hZ2
  have HG := Lib.hid (fun w' (hb' : Below w.heap.size w w') => get_back i w' (hT.below hb' hT.1) hb hn hr (some ⟨b, o, none⟩) n c (hR.below hb'))
  obtain ⟨D, hD⟩ : ∃ D : List Nat, D = dig (head i) := ⟨_, rfl⟩
  have hdl : D.length = 32 := by rw [hD, dig_len]
  have HRG := Lib.hid (show w.rangeAt b (o + (n - 36)) (u8n D) from fun j u hu => by
    rw [Nat.add_assoc]
    refine hcell (n - 36 + j) u ?_
    have hj : j < 32 := by have := (List.getElem?_eq_some_iff.1 hu).1; rw [u8n_len] at this; omega
    have e : u8n (closed (head i)) = u8n (head i) ++ (u8n D ++ u8n (pbn (CrcM.sm (head i ++ D) : Nat) 4)) := by
      rw [hD, ← List.append_assoc, u8n_app, u8n_app]
      rfl
    rw [e, List.getElem?_append_right (by rw [u8n_len]; omega), u8n_len, show n - 36 + j - (head i).length = j by omega, List.getElem?_append_left (by rw [u8n_len]; omega)]
    exact hu)
  rw [← hD]
  have h36 : (0 : Int) ≤ (n : Int) - 36 := by omega
  have h37 : (n : Int) - 36 ≤ (n : Int) := by omega
  have h38 : ((n : Int) - 36).toNat = n - 36 := by omega
  have h39 : ¬ (c = n - 36) := by omega
  have h40 : n - (n - 36) = 36 := by omega
  have hsz : w.heap.size < (w.alloc (.cells Z2 32)).heap.size := by simp
  have HB0 := Lib.hid (show Below w.heap.size w (w.alloc (.cells Z2 32)) from (Below.refl _ _).alloc (Nat.le_refl _) _)
  have HR0 := Lib.hid (Blk_at (w := w) (n := w.heap.size) (t := 32) HZ2.out rfl)
  clear hT hR hD hZ2 hcell hb hn hr hN h109
  go_enter Tryd.func12, Tryd.ntmps12
  go_wp2_with fail
  refine (HG.out _ HB0.out).mono ?_
  rintro e w1 ⟨B, d, ⟨rfl, hb1⟩, hr1⟩
  have HB1 := Lib.hid (HB0.out.trans (hb1.mono HB0.out.size))
  have HR1 := Lib.hid (HR0.out.below hb1)
  have hs1 : w.heap.size < w1.heap.size := HR1.out.lt
  clear hr1 hb1
  have ha := fun (w : World) => run_arrayAt (P := Tryd.prog) (w := w) 32 5 32 (some ⟨b, o + (n - 36), none⟩) 36 (c - (n - 36)) Tryd.underlying32 (by omega)
  have hb2 : Below w.heap.size w (w1.alloc (.cells #[.int .i64 i.p, .int .i64 i.v, .int .i64 i.h, .int .i64 i.m, .int .i64 i.f, .int .i64 i.s, .int .i64 i.r, .slice B i.xs.length d] 24)) := HB1.out.alloc HB1.out.size _
  have HR2 := Lib.hid (HR1.out.below ((Below.refl w1.heap.size w1).alloc (Nat.le_refl _) (.cells #[.int .i64 i.p, .int .i64 i.v, .int .i64 i.h, .int .i64 i.m, .int .i64 i.f, .int .i64 i.s, .int .i64 i.r, .slice B i.xs.length d] 24)))
  have HRG2 := Lib.hid (show (w1.alloc (.cells #[.int .i64 i.p, .int .i64 i.v, .int .i64 i.h, .int .i64 i.m, .int .i64 i.f, .int .i64 i.s, .int .i64 i.r, .slice B i.xs.length d] 24)).rangeAt b (o + (n - 36)) (u8n D) from fun j u hu => (hb2.cell (p := ⟨b, o + (n - 36) + j, none⟩) hbl).trans (HRG.out j u hu))
  have HB2 := Lib.hid hb2
  clear hb2 HRG HB1 HR1
  go_wp2_with (first
   | (refine wpList_load_mid rfl 32 (.tmp 18) rfl b (o + (n - 36)) rfl (u8n D) _ HRG2.out Tryd.underlying32 rfl (by rw [u8n_len, hdl]; exact size32) ?_)
   | (refine wpList_store_blk rfl 32 (.tmp 2) (.tmp 19) rfl w.heap.size rfl (u8n D) rfl HR2.out (by rw [u8n_len, u8n_len, hdl, List.length_replicate]) (by rw [u8n_len, hdl]; exact size32) (u8n_one _) ?_; intro w5 hB5 ho5))
  exact ImgC.ret_row Tryd.results12 rfl rfl hB5.out Tryd.underlying32 rfl (by rw [List.size_toArray, u8n_len, hdl]; exact size32) ⟨rfl, ho5.out.below HB2.out (Nat.le_refl _) HB2.out.size⟩
end Go.Proofs.YtlghojnlnfkdhaaDoor.ImgH
