/- The reference's text: its length in two bytes and the first 65535 of it. Condition: the slice reads as the list that is named. -/
import Derived.Test.YtfgdbflihllkoaaNumE
namespace Go.Proofs.Ytfgdbflihllkoaa.NumF
open Go.RowKit Go.Proofs.Ytfgdbflihllkoaa.Kit Go.Proofs.Ytfgdbflihllkoaa.NumA Go.Proofs.Ytfgdbflihllkoaa.NumB Go.Proofs.Ytfgdbflihllkoaa.NumC Go.Proofs.Ytfgdbflihllkoaa.NumE

set_option maxHeartbeats 400000 in
theorem rtext_any (B : Option Addr) (m d : Nat) (ts : List Int) (w : World) (ht : Rd w B m d (u8s ts)) :
    Calls Try.prog 12 #[.slice B m d] w fun e w' => Fresh w (txt ts) e w' := by
  obtain ⟨i0, hi0, hz0, hz1, hz2⟩ := info_parts info8
  have t1 := ht.le
  have t2 := ht.cap
  have HL : Hid (ts.length = m) := Rd.bytes ht
  by_cases hs : m ≤ 65535
  · go_enter Try.func12, Try.ntmps12
    go_wp2_with (first
     | (go_at_call 11; refine (rput_any m 2 _ (by omega)).mono ?_; rintro e w1 ⟨A1, n1, c1, hn1, rfl, hown1, hb1⟩; have hn2 : n1 ≤ 2 := by have := hn1.out; rw [this]; simp [putb_len, wd_two])
     | (at_builtin; refine wpList_add _ rfl (.tmp 11) (.tmp 14) _ rfl w.heap.size 5 i0 _ 1 Try.underlying22 hi0 hz0 hz1 hz2 rfl _ n1 (u8s (putb m 2)) rfl hown1 B m d (u8s ts) rfl (ht.below hb1) (u8s_one _) (by omega) (by omega) hb1.size ?_; intro A2 n2 c2 w2 hn3 hown2 hg2 hat2))
    go_ret
    refine ret_fresh (xs := putb m 2 ++ ts) (by rw [← u8s_append]; exact hown2) (below_add hb1 hown1 (Nat.le_refl _) hg2) ?_
    obtain rfl := HL.out
    rw [txt, List.take_of_length_le hs, Nat.min_eq_left hs]
  · go_enter Try.func12, Try.ntmps12
    go_wp2_with (first
     | (go_at_call 11; refine (rput_any 65535 2 _ (by omega)).mono ?_; rintro e w1 ⟨A1, n1, c1, hn1, rfl, hown1, hb1⟩; have hn2 : n1 ≤ 2 := by have := hn1.out; rw [this]; simp [putb_len, wd_two])
     | (at_builtin; refine wpList_add _ rfl (.tmp 11) (.tmp 14) _ rfl w.heap.size 5 i0 _ 1 Try.underlying22 hi0 hz0 hz1 hz2 rfl _ n1 (u8s (putb 65535 2)) rfl hown1 B 65535 d ((u8s ts).take 65535) rfl ((ht.take (by omega)).below hb1) (by rw [u8s_take]; exact u8s_one _) (by omega) (by omega) hb1.size ?_; intro A2 n2 c2 w2 hn3 hown2 hg2 hat2))
    go_ret
    refine ret_fresh (xs := putb 65535 2 ++ ts.take 65535) (by rw [← u8s_append, ← u8s_take]; exact hown2) (below_add hb1 hown1 (Nat.le_refl _) hg2) ?_
    obtain rfl := HL.out
    rw [txt, Nat.min_eq_right (by omega)]
    rfl

end Go.Proofs.Ytfgdbflihllkoaa.NumF
