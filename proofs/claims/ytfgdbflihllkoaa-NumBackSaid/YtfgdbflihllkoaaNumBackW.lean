/- The walk of NumBack: numbers and a text that were put, one behind the other, are read again. No conditions. -/
import Derived.Test.YtfgdbflihllkoaaNumJ
namespace Go.Proofs.Ytfgdbflihllkoaa.NumBackW
open Go.RowKit Go.Proofs.Ytfgdbflihllkoaa.Kit Go.Proofs.Ytfgdbflihllkoaa.NumA Go.Proofs.Ytfgdbflihllkoaa.NumB Go.Proofs.Ytfgdbflihllkoaa.NumC Go.Proofs.Ytfgdbflihllkoaa.NumD Go.Proofs.Ytfgdbflihllkoaa.NumE Go.Proofs.Ytfgdbflihllkoaa.NumG Go.Proofs.Ytfgdbflihllkoaa.NumH Go.Proofs.Ytfgdbflihllkoaa.NumI Go.Proofs.Ytfgdbflihllkoaa.NumJ

/-- The bytes of numbers, one behind the other. -/
def cat (x : Int) : List Int → List Int
  | [] => []
  | n :: l => putb n x ++ cat x l
theorem cat_app (x : Int) : ∀ l m, cat x (l ++ m) = cat x l ++ cat x m
  | [], m => rfl
  | n :: l, m => by simp [cat, cat_app x l m]
theorem cat_len (x : Int) : ∀ l, (cat x l).length ≤ 6 * l.length
  | [] => by simp [cat]
  | n :: l => by
    have := cat_len x l
    have := wd_le x
    simp only [cat, List.length_append, putb_len, List.length_cons]
    omega
theorem cat_8 (x : Int) : ∀ l, ∀ u ∈ cat x l, 0 ≤ u ∧ u ≤ 255
  | [] => by simp [cat]
  | n :: l => app_8 (be_8 _ _) (cat_8 x l)
theorem cat_next (x : Int) (l : List Int) {j : Nat} (h : j < l.length) : cat x (l.take j) ++ putb l[j] x = cat x (l.take (j + 1)) := by
  rw [List.take_succ_eq_append_getElem h, cat_app]
  simp [cat]
theorem cat_drop (x : Int) (l : List Int) {j : Nat} (h : j < l.length) : cat x (l.drop j) = putb l[j] x ++ cat x (l.drop (j + 1)) := by
  rw [List.drop_eq_getElem_cons h]
  rfl

theorem num_put (b : Nat) (x n : Int) (rest : List Int) (w : World) (h : St w b (putb n x ++ rest) 0) (h8 : ∀ u ∈ rest, 0 ≤ u ∧ u ≤ 255) :
    Calls Try.prog 16 #[.pointer (some ⟨b, 0, none⟩), .int .i64 x] w (NumH.Told w b (cl (wd x) n : Nat) rest 0) := by
  have h1 := num_ok b x _ w h (by rw [List.length_append, putb_len]; omega) (app_8 (be_8 _ _) h8)
  have e := putb_len n x
  have e1 : (putb n x ++ rest).take (wd x) = putb n x := by rw [← e, List.take_left]
  have e2 : (putb n x ++ rest).drop (wd x) = rest := by rw [← e, List.drop_left]
  rw [e1, e2, num_putb] at h1
  exact h1

def Bytes (xs : List Int) : Prop := ∀ u ∈ xs, 0 ≤ u ∧ u ≤ 255
theorem num_put_as (b : Nat) (x n : Int) (v : Int) (rest : List Int) (w : World) (h : St w b (putb n x ++ rest) 0) (h8 : Bytes rest) (hv : ((cl (wd x) n : Nat) : Int) = v) :
    Calls Try.prog 16 #[.pointer (some ⟨b, 0, none⟩), .int .i64 x] w (NumH.Told w b v rest 0) := by
  subst hv
  exact num_put b x n rest w h h8

theorem text_txt (b : Nat) (ts : List Int) (w : World) (h : St w b (txt ts) 0) (h8 : ∀ u ∈ ts, 0 ≤ u ∧ u ≤ 255) (hl : ts.length ≤ 1000) :
    Calls Try.prog 17 #[.pointer (some ⟨b, 0, none⟩), .int .i64 ts.length] w (Gave w b ts [] 0) := by
  have e0 : txt ts = putb (ts.length : Nat) 2 ++ ts := by rw [txt, Nat.min_eq_left (by omega), List.take_of_length_le (by omega)]
  have e := putb_len (ts.length : Nat) 2
  rw [wd_two] at e
  rw [e0] at h
  have e1 : (putb (ts.length : Nat) 2 ++ ts).take 2 = putb (ts.length : Nat) 2 := by conv => lhs; rw [← e]; rw [List.take_left]
  have e2 : (putb (ts.length : Nat) 2 ++ ts).drop 2 = ts := by conv => lhs; rw [← e]; rw [List.drop_left]
  have e3 : num (putb (ts.length : Nat) 2) = (ts.length : Nat) := by
    rw [num_putb, wd_two]
    unfold cl
    omega
  have h1 := text_ok b ts.length ts.length _ w h (by rw [List.length_append, e]; omega) (app_8 (be_8 _ _) h8) (by rw [e1, e3]) (Nat.le_refl _) (by rw [List.length_append, e]; omega) (by omega)
  rw [e2, List.take_of_length_le (Nat.le_refl _), List.drop_of_length_le (Nat.le_refl _)] at h1
  exact h1

theorem text_txt' (b : Nat) (ts : List Int) (n : Nat) (w : World) (h : St w b (txt ts) 0) (h8 : ∀ u ∈ ts, 0 ≤ u ∧ u ≤ 255) (hl : n ≤ 1000) (hn : ts.length = n) :
    Calls Try.prog 17 #[.pointer (some ⟨b, 0, none⟩), .int .i64 n] w (Gave w b ts [] 0) := by
  subst hn
  exact text_txt b ts w h h8 hl

theorem cl_ways (k : Nat) (n : Int) : (n < 0 ∧ ((cl k n : Nat) : Int) = 0) ∨ (0 ≤ n ∧ n ≤ (2 : Int) ^ (8 * k) - 1 ∧ ((cl k n : Nat) : Int) = n) ∨ (0 ≤ n ∧ (2 : Int) ^ (8 * k) - 1 < n ∧ ((cl k n : Nat) : Int) = (2 : Int) ^ (8 * k) - 1) := by
  have p := pow_pos' k
  unfold cl
  rw [← ipow]
  omega

abbrev i64s (xs : List Int) : List Value := xs.map (Value.int .i64)
theorem Rd.word {w : World} {A : Option Addr} {n c : Nat} {xs : List Int} (h : Rd w A n c (i64s xs)) {k : Nat} (hk : k < xs.length) : ∃ b o, A = some ⟨b, o, none⟩ ∧ w.cell? ⟨b, o + k, none⟩ = some (.int .i64 xs[k]) := by
  obtain ⟨b, o, hA, hc⟩ := Rd.at_ h (k := k) (by have := h.len; simp at this; omega)
  exact ⟨b, o, hA, by simpa using hc⟩

set_option maxHeartbeats 2000000 in
theorem core (a0 : Option Addr) (len0 cap0 : Nat) (ls : List Int) (a1 : Int) (a2 : Option Addr) (len2 cap2 : Nat) (ts : List Int) (w : World) (hL : Rd w a0 len0 cap0 (i64s ls)) (hT : Rd w a2 len2 cap2 (u8s ts)) (h8 : ∀ u ∈ ts, 0 ≤ u ∧ u ≤ 255) :
    Calls Try.prog 4 #[.slice a0 len0 cap0, .int .i64 a1, .slice a2 len2 cap2] w fun e w' => e = .returned (.bool true) ∧ Below w.heap.size w w' := by
  by_cases hb1 : 100 < len0
  · go_enter Try.func4, Try.ntmps4
    go_wp2_with (go_at_call 8; refine (wakes_any _).mono ?_; rintro e w1 ⟨rfl, hb1⟩)
    go_ret
    exact ⟨rfl, by assumption⟩
  by_cases hb2 : 1000 < len2
  · go_enter Try.func4, Try.ntmps4
    go_wp2_with (go_at_call 8; refine (wakes_any _).mono ?_; rintro e w1 ⟨rfl, hb1⟩)
    go_ret
    exact ⟨rfl, by assumption⟩
  have v1 := wd_pos a1
  have v2 := wd_le a1
  have p1 : (2 : Int) ^ (8 * wd a1) ≤ 281474976710656 := by have := pow_le v2; rw [← ipow]; omega
  have p2 : 1 ≤ (2 : Int) ^ (8 * wd a1) := by have := pow_pos' (wd a1); rw [← ipow]; omega
  go_enter Try.func4, Try.ntmps4
  go_wp2_with (go_at_call 8; refine (wakes_any _).mono ?_; rintro e w1 ⟨rfl, hbw⟩)
  have HLn : Hid (ls.length = len0) := (show _ = _ by have := hL.len; simpa using this)
  have HTn : Hid (ts.length = len2) := Rd.bytes hT
  have H8 : Hid (∀ u ∈ ts, 0 ≤ u ∧ u ≤ 255) := h8
  clear h8
  go_loopw [7, 26] (fun v i wr => ∃ j A n c, j ≤ len0 ∧ i = .int .i64 (j : Nat) ∧ v = .slice A n c ∧ Rd wr A n c (u8s (cat a1 (ls.take j))) ∧ Below w.heap.size w wr) (fun _ i _ => len0 - (intOf i).toNat)
  case atStart => exact ⟨0, none, 0, 0, Nat.zero_le _, rfl, rfl, Rd.nil _, hbw⟩
  case round =>
    obtain ⟨j, A, n, c, hj, rfl, rfl, hr, hb⟩ := hrel
    by_cases hlt : j < len0
    · have hjl : j < ls.length := by have := HLn.out; omega
      have hn : n ≤ 1000 := by
        have h1 := Rd.bytes hr
        have h2 := cat_len a1 (ls.take j)
        have h3 : (ls.take j).length ≤ j := List.length_take_le _ _
        omega
      obtain ⟨bl, ol, hA0, hc0⟩ := Rd.word (hL.below hb) hjl
      subst hA0
      obtain ⟨u, hu⟩ : ∃ u, u = ls[j] := ⟨_, rfl⟩
      rw [← hu] at hc0
      have HU : Hid (u = ls[j]) := hu
      clear hu
      go_wp2_with (go_at_call 9; refine (put_any A n c (cat a1 (ls.take j)) u a1 _ hr (by omega)).mono ?_; rintro e w3 ⟨A3, n3, c3, hn3, rfl, hown3, hb3'⟩)
      go_roundw
      case rel =>
        refine ⟨j + 1, A3, n3, c3, by omega, by go_num, rfl, ?_, hb.trans (hb3'.mono hb.size)⟩
        rw [← cat_next a1 ls hjl, ← HU.out]
        exact Rd.own hown3
      case measure => simp [intOf]; omega
    · obtain rfl : j = len0 := by omega
      have hrT := hT.below hb
      have hn : n ≤ 1000 := by
        have h1 := Rd.bytes hr
        have h2 := cat_len a1 (ls.take j)
        have h3 : (ls.take j).length ≤ j := List.length_take_le _ _
        omega
      go_wp2_with fail
      refine (text_any A n c _ a2 len2 cap2 ts _ hr hrT (by omega)).mono ?_
      rintro e w4 ⟨A4, n4, c4, hn4, rfl, hown4, hb4'⟩
      have hb4 := hb.trans (hb4'.mono hb.size)
      have hn4b : n4 ≤ 100000 := by
        have h1 := hn4.out
        rw [List.length_append, txt_len, Rd.bytes hr] at h1
        omega
      go_wp2_with fail
      refine (read_any A4 n4 c4 _ _ (Rd.own hown4) (by omega)).mono ?_
      rintro e w5 ⟨b, rfl, hbb, hs5, hb5'⟩
      have hb5 := hb4.trans (hb5'.mono hb4.size)
      have hwb : w.heap.size ≤ b := by have := hb4.size; omega
      clear hown4 hb4' hn4 hb5' hb4 hrT hr hb
      go_wp2_with (go_at_call 15; refine (Width_any _ _).mono ?_; rintro e w' ⟨rfl, rfl⟩)
      obtain ⟨wo, hwo⟩ : ∃ wo : World, wo = wr := ⟨_, rfl⟩
      obtain rfl := hwo
      have hs5' : St w5 b (cat a1 (ls.drop 0) ++ txt ts) 0 := by
        have e : ls.take j = ls.drop 0 := by rw [List.drop_zero, List.take_of_length_le (by have := HLn.out; omega)]
        rw [← e]
        exact hs5
      clear hs5
      go_loopw [46] (fun i wr => ∃ k : Nat, k ≤ j ∧ i = .int .i64 k ∧ St wr b (cat a1 (ls.drop k) ++ txt ts) 0 ∧ Below w.heap.size w wr) (fun i _ => j - (intOf i).toNat)
      case atStart => exact ⟨0, Nat.zero_le _, rfl, hs5', hb5⟩
      case round =>
        obtain ⟨k, hk, rfl, hs, hb⟩ := hrel
        by_cases hlt2 : k < j
        · have hkl : k < ls.length := by have := HLn.out; omega
          obtain ⟨bl, ol, hA0, hc0⟩ := Rd.word (hL.below hb) hkl
          subst hA0
          rw [cat_drop a1 ls hkl, List.append_assoc] at hs
          obtain ⟨u, hu⟩ : ∃ u, u = ls[k] := ⟨_, rfl⟩
          rw [← hu] at hc0 hs
          clear hu
          have hr8 : Bytes (cat a1 (ls.drop (k + 1)) ++ txt ts) := app_8 (cat_8 a1 (ls.drop (k + 1))) (txt_8 H8.out)
          rcases cl_ways (wd a1) u with ⟨hu1, hcl⟩ | ⟨hu1, hu2, hcl⟩ | ⟨hu1, hu2, hcl⟩
          all_goals
            have HC := Lib.hid hcl
            clear hcl
            go_wp2_with (go_at_call 16; refine (num_put_as b a1 u _ _ _ hs hr8 HC.out).mono ?_; rintro e w6 ⟨rfl, hs6, hd6⟩)
            go_roundw
            case rel => exact ⟨k + 1, by omega, by go_num, hs6, below_did hb hwb hd6⟩
            case measure => simp [intOf]; omega
        · obtain rfl : k = j := by omega
          have hs2 : St wr b (txt ts) 0 := by
            have e : ls.drop k = [] := List.drop_of_length_le (by have := HLn.out; omega)
            rw [e] at hs
            exact hs
          clear hs
          go_wp2_with (go_at_call 17; refine (text_txt' b ts len2 _ hs2 H8.out (by omega) HTn.out).mono ?_; rintro e w7 ⟨A7, n7, c7, rfl, hr7, hs7, hd7⟩)
          have hb7 := below_did hb hwb hd7
          have hT7 := hT.below hb7
          refine (same_yes hr7 hT7).mono ?_
          rintro e w8 ⟨rfl, q, rfl⟩
          have hs8 : St (w7.drewN q) b [] 0 := hs7
          go_wp2_with (first
           | (go_at_call 18; refine (left_ok b [] _ hs8).mono ?_; rintro e w' ⟨rfl, rfl⟩)
           | (go_at_call 19; refine (end_ok b _ hs8).mono ?_; rintro e w' ⟨rfl, rfl⟩))
          go_ret
          exact ⟨rfl, below_drewN hb7 _⟩

theorem hole (a0 : Option Addr) (len0 cap0 : Nat) (z0 : List Int) (a1 : Int) (a2 : Option Addr) (len2 cap2 : Nat) (z2 : List Int) (w : World) (w0 : Row .i64 w a0 len0 cap0 z0) (w1 : (Lit.int .i64 a1).wf = true) (w2 : Row .u8 w a2 len2 cap2 z2) :
    Calls Try.prog 4 #[.slice a0 len0 cap0, .int .i64 a1, .slice a2 len2 cap2] w fun e w' => e = .returned (.bool true) ∧ Below w.heap.size w w' := by
  obtain ⟨ls, hL, _⟩ := w0.rd
  obtain ⟨ts, hT, h8⟩ := w2.rd
  exact core a0 len0 cap0 ls a1 a2 len2 cap2 ts w hL hT fun u hu => bounds_u8 (h8 u hu)

end Go.Proofs.Ytfgdbflihllkoaa.NumBackW
