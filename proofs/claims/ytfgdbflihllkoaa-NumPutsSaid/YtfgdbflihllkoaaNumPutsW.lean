/- The walk of NumPuts: what the program puts is what the reference puts, and the bytes that were there stay. No conditions. -/
import Derived.Test.YtfgdbflihllkoaaNumF
namespace Go.Proofs.Ytfgdbflihllkoaa.NumPutsW
open Go.RowKit Go.Proofs.Ytfgdbflihllkoaa.Kit Go.Proofs.Ytfgdbflihllkoaa.NumA Go.Proofs.Ytfgdbflihllkoaa.NumB Go.Proofs.Ytfgdbflihllkoaa.NumC Go.Proofs.Ytfgdbflihllkoaa.NumE Go.Proofs.Ytfgdbflihllkoaa.NumF

set_option maxHeartbeats 1000000 in
theorem core (a0 : Option Addr) (len0 cap0 : Nat) (xs : List Int) (a1 a2 : Int) (w : World) (hx : Rd w a0 len0 cap0 (u8s xs)) (w1 : (Lit.int .i64 a1).wf = true) :
    Calls Try.prog 3 #[.slice a0 len0 cap0, .int .i64 a1, .int .i64 a2] w fun e w' => e = .returned (.bool true) ∧ Below w.heap.size w w' := by
  obtain ⟨i0, hi0, hz0, hz1, hz2⟩ := info_parts info8
  have w1h : a1 ≤ 9223372036854775807 := (i64_bd w1).2
  by_cases hl : 500 < len0
  · go_enter Try.func3, Try.ntmps3
    go_wp2_with (first
     | (go_at_call 8; refine (wakes_any _).mono ?_; rintro e w1 ⟨rfl, hb1⟩))
    go_ret
    exact ⟨rfl, hb1⟩
  · go_enter Try.func3, Try.ntmps3
    go_wp2_with (first
     | (go_at_call 8; refine (wakes_any _).mono ?_; rintro e w1 ⟨rfl, hb1⟩)
     | (at_builtin; refine wpList_add _ rfl (.tmp 17) (.tmp 18) _ rfl w1.heap.size 5 i0 _ 1 Try.underlying22 hi0 hz0 hz1 hz2 rfl _ 0 [] rfl (emptied w1 _) a0 len0 cap0 (u8s xs) rfl ((hx.below hb1).alloc _) (u8s_one _) (by omega) (by omega) (size_alloc _ _) ?_; intro A2 n2 c2 w2 hn2 hown2 hg2 hat2; have hb2 := below_add (hb1.alloc hb1.size _) (emptied w1 _) hb1.size hg2; have hn2' : n2 ≤ 500 := by have := hn2.out; omega)
     | (go_at_call 9; refine (put_any A2 n2 c2 xs a1 a2 _ (Rd.own hown2) (by omega)).mono ?_; rintro e w3 ⟨A3, n3, c3, hn3, rfl, hown3, hb3'⟩; have hb3 := hb2.trans (hb3'.mono hb2.size))
     | (go_at_call 10; refine (text_any A2 n2 c2 xs a0 len0 cap0 xs _ (Rd.own (own_below hown2 hb3')) (hx.below hb3) (by omega)).mono ?_; rintro e w4 ⟨A4, n4, c4, hn4, rfl, hown4, hb4'⟩; have hb4 := hb3.trans (hb4'.mono hb3.size))
     | (at_builtin; refine wpList_add _ rfl (.tmp 27) (.tmp 28) _ rfl w4.heap.size 5 i0 _ 1 Try.underlying22 hi0 hz0 hz1 hz2 rfl _ 0 [] rfl (emptied w4 _) a0 len0 cap0 (u8s xs) rfl ((hx.below hb4).alloc _) (u8s_one _) (by omega) (by omega) (size_alloc _ _) ?_; intro A5 n5 c5 w5 hn5 hown5 hg5 hat5; have hb5' := below_add ((Below.refl w4.heap.size w4).alloc (Nat.le_refl _) _) (emptied w4 _) (Nat.le_refl _) hg5; have hb5 := hb4.trans (hb5'.mono hb4.size); have hn5' : n5 ≤ 500 := by have := hn5.out; omega)
     | (go_at_call 11; refine (rput_any a1 a2 _ w1h).mono ?_; rintro e w6 ⟨A6, n6, c6, hn6, rfl, hown6, hb6'⟩; have hb6 := hb5.trans (hb6'.mono hb5.size); have hn6' : n6 ≤ 6 := by (have := hn6.out; have := wd_le a2; rw [putb_len] at *; omega))
     | (at_builtin; refine wpList_add _ rfl (.tmp 29) (.tmp 32) _ rfl w4.heap.size 5 i0 _ 1 Try.underlying22 hi0 hz0 hz1 hz2 rfl _ n5 (u8s xs) rfl (own_below hown5 hb6') A6 n6 c6 (u8s (putb a1 a2)) rfl (Rd.own hown6) (u8s_one _) (by omega) (by omega) (by have := hb5'.size; have := hb6'.size; omega) ?_; intro A7 n7 c7 w7 hn7 hown7 hg7 hat7; have hb7' := below_add (w0 := w4) (hb5'.trans (hb6'.mono hb5'.size)) (own_below hown5 hb6') (Nat.le_refl _) hg7; have hb7 := hb4.trans (hb7'.mono hb4.size))
     | (at_builtin; refine wpList_add _ rfl (.tmp 34) (.tmp 35) _ rfl w7.heap.size 5 i0 _ 1 Try.underlying22 hi0 hz0 hz1 hz2 rfl _ 0 [] rfl (emptied w7 _) a0 len0 cap0 (u8s xs) rfl ((hx.below hb7).alloc _) (u8s_one _) (by omega) (by omega) (size_alloc _ _) ?_; intro A8 n8 c8 w8 hn8 hown8 hg8 hat8; have hb8' := below_add ((Below.refl w7.heap.size w7).alloc (Nat.le_refl _) _) (emptied w7 _) (Nat.le_refl _) hg8; have hb8 := hb7.trans (hb8'.mono hb7.size); have hn8' : n8 ≤ 500 := by have := hn8.out; omega)
     | (go_at_call 12; refine (rtext_any a0 len0 cap0 xs _ (hx.below hb8)).mono ?_; rintro e w9 ⟨A9, n9, c9, hn9, rfl, hown9, hb9'⟩; have hb9 := hb8.trans (hb9'.mono hb8.size); have hn9' : n9 ≤ 65537 := by (have := hn9.out; rw [txt_len] at this; omega))
     | (at_builtin; refine wpList_add _ rfl (.tmp 36) (.tmp 38) _ rfl w7.heap.size 5 i0 _ 1 Try.underlying22 hi0 hz0 hz1 hz2 rfl _ n8 (u8s xs) rfl (own_below hown8 hb9') A9 n9 c9 (u8s (txt xs)) rfl (Rd.own hown9) (u8s_one _) (by omega) (by omega) (by have := hb8'.size; have := hb9'.size; omega) ?_; intro AA nA cA wA hnA hownA hgA hatA; have hbA' := below_add (w0 := w7) (hb8'.trans (hb9'.mono hb8'.size)) (own_below hown8 hb9') (Nat.le_refl _) hgA; have hbA := hb7.trans (hbA'.mono hb7.size)
        have hp : Rd wA A3 n3 c3 (u8s (xs ++ putb a1 a2)) := (((Rd.own hown3).below hb4').below hb7').below hbA'
        have hq : Rd wA A7 n7 c7 (u8s (xs ++ putb a1 a2)) := by rw [← u8s_append]; exact (Rd.own hown7).below hbA'
        have hs : Rd wA A4 n4 c4 (u8s (xs ++ txt xs)) := ((Rd.own hown4).below hb7').below hbA'
        have ht : Rd wA AA nA cA (u8s (xs ++ txt xs)) := by rw [← u8s_append]; exact Rd.own hownA
        have ho : Rd wA A2 n2 c2 (u8s xs) := (((((Rd.own hown2).below hb3').below hb4').below hb7').below hbA')
        have hi : Rd wA a0 len0 cap0 (u8s xs) := hx.below hbA)
     )
    refine (same_yes hp hq).mono ?_
    rintro e w' ⟨rfl, k1, rfl⟩
    go_wp2_with fail
    refine (same_yes (hs.drewN _) (ht.drewN _)).mono ?_
    rintro e w' ⟨rfl, k2, rfl⟩
    go_wp2_with fail
    refine (same_yes (ho.drewN (k1 + k2)) (hi.drewN (k1 + k2))).mono ?_
    rintro e w' ⟨rfl, k3, rfl⟩
    go_wp2
    go_ret
    exact ⟨rfl, below_drewN hbA _⟩

theorem hole (a0 : Option Addr) (len0 cap0 : Nat) (z0 : List Int) (a1 : Int) (a2 : Int) (w : World) (w0 : Row .u8 w a0 len0 cap0 z0) (w1 : (Lit.int .i64 a1).wf = true) (w2 : (Lit.int .i64 a2).wf = true) :
    Calls Try.prog 3 #[.slice a0 len0 cap0, .int .i64 a1, .int .i64 a2] w fun e w' => e = .returned (.bool true) ∧ Below w.heap.size w w' := by
  obtain ⟨xs, hx, _⟩ := w0.rd
  exact core a0 len0 cap0 xs a1 a2 w hx w1

end Go.Proofs.Ytfgdbflihllkoaa.NumPutsW
