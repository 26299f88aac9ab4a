/- The head of any message, and bytes with their sum behind them, by the reference. Conditions: what lies lies as the facts say; at most a million bytes. -/
import Derived.Test.YtamilgbjjcdlbaaPduC
namespace Go.Proofs.Ytamilgbjjcdlbaa.PduD
open Go.RowKit Go.Proofs.Ytamilgbjjcdlbaa.Kit Go.Proofs.Ytamilgbjjcdlbaa.Byt Go.Proofs.Ytamilgbjjcdlbaa.Mem Go.Proofs.Ytamilgbjjcdlbaa.RecM Go.Proofs.Ytamilgbjjcdlbaa.PduM Go.Proofs.Ytamilgbjjcdlbaa.PduA

theorem rhead_any (i : Pu) (w : World) (ho : i.ok w) (hn : i.bd) (hk : 1 ≤ i.k ∧ i.k ≤ 8) (hm : i.m ≤ 1000000) : Calls Try.prog 17 #[i.val] w (Gives w i.pd.rhead) := by
  obtain ⟨k, s, p, n, z, y, c, h, A, m, d, xs⟩ := i
  rcases kinds hk with hk' | hk' | hk' | hk' | hk' | hk' | hk' | hk'
  all_goals (dsimp only at hk'; subst hk')
  · exact PduC.rhead1 s p n z y c h A m d xs w ho hn hm
  · exact PduC.rhead2 s p n z y c h A m d xs w ho hn hm
  · exact PduC.rhead3 s p n z y c h A m d xs w ho hn hm
  · exact PduC.rhead4 s p n z y c h A m d xs w ho hn hm
  · exact PduC.rhead5 s p n z y c h A m d xs w ho hn hm
  · exact PduC.rhead6 s p n z y c h A m d xs w ho hn hm
  · exact PduC.rhead7 s p n z y c h A m d xs w ho hn hm
  · exact PduC.rhead8 s p n z y c h A m d xs w ho hn hm

theorem s4_eq (xs : List Nat) : s4 xs = pbn (CrcM.sm xs : Nat) 4 := rfl
set_option maxRecDepth 100000 in
set_option maxHeartbeats 800000 in
theorem rtail_any (A : Option Addr) (n c : Nat) (xs : List Nat) (w : World) (hR : Rd w A n c (u8n xs)) (hb : byt xs) (hl : n ≤ 1000000) :
    Calls Try.prog 16 #[.slice A n c] w (Gives w (tail xs)) := by
  obtain ⟨i0, hi0, hz0, hz1, hz2⟩ := info_parts NumA.info8
  have HR := Lib.hid hR
  have hlt := CrcM.sm_lt xs
  have HS := Lib.hid (fun w' (h : Rd w' A n c (u8n xs)) => CrcB.rsum_any A n c xs w' h hb)
  have HD := Lib.hid (s4_eq xs)
  obtain ⟨y, hy⟩ : ∃ y, y = CrcM.sm xs := ⟨_, rfl⟩
  rw [← hy] at HS HD hlt
  clear hy hR
  go_enter Try.func16, Try.ntmps16
  go_wp2_with (first
    | (have hq := HO3; clear hq; at_builtin; refine wpList_add _ rfl (.tmp 7) (.tmp 11) _ rfl w.heap.size 5 i0 _ 1 Try.underlying22 hi0 hz0 hz1 hz2 rfl _ n1 _ rfl HO3.out A3 4 c3 _ rfl HR3.out (u8n_one _) (by have := hn1.out; omega) (by have := hn1.out; omega) HB3.out.size ?_; intro A5 n5 c5 w5 hn5 hown5 hg5 hat5; have hb5 : Below w.heap.size w w5 := below_add HB3.out HO3.out (Nat.le_refl _) hg5)
    | (at_builtin; refine wpList_add _ rfl (.tmp 4) (.tmp 5) _ rfl w.heap.size 5 i0 _ 1 Try.underlying22 hi0 hz0 hz1 hz2 rfl _ 0 [] rfl (World.ownsRow_nil _ _ _ _) A n c (u8n xs) rfl HR.out (u8n_one _) (by omega) (by omega) (Nat.le_refl _) ?_; intro A1 n1 c1 w1 hn1 hown1 hg1 hat1; have HO1 := Lib.hid (show w1.ownsRow w.heap.size 5 1 (.slice A1 n1 c1) n1 (u8n xs) from (by rw [List.nil_append] at hown1; exact hown1)); have HB1 := Lib.hid (show Below w.heap.size w w1 from below_add (Below.refl _ _) (World.ownsRow_nil w w.heap.size 5 1) (Nat.le_refl _) hg1); clear hown1 hg1 hat1)
    | (go_at_call 33; refine (HS.out _ (HR.out.below HB1.out)).mono ?_; rintro e w' ⟨rfl, rfl⟩)
    | (go_at_call 32; refine (NumR.rput_any (y : Int) 4 _ (by omega)).mono ?_; rintro e w3 ⟨A3, n3, c3, hn3, rfl, hown3, hb3⟩;
        have hr3 := Rd.own hown3; rw [← pbn_nl, ← nl_u8s, ← HD.out] at hr3; obtain rfl : 4 = n3 := (by have := Rd.nats hr3; rw [s4_len] at this; omega); have HR3 := Lib.hid hr3; have HO3 := Lib.hid (own_below HO1.out hb3); have HB3 := Lib.hid (HB1.out.trans (hb3.mono HB1.out.size)); clear hn3 hown3 hb3 hr3 HO1 HB1))
  go_ret
  rw [u8n_app] at hown5
  exact ⟨A5, n5, c5, rfl, hown5, hb5⟩
end Go.Proofs.Ytamilgbjjcdlbaa.PduD
