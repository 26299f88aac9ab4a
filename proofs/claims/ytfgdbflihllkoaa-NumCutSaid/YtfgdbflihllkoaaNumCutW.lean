/- The walk of NumCut: of a number and a text that are cut anywhere the reader fails at the end, and tells nothing more. No conditions. -/
import Derived.Test.YtfgdbflihllkoaaNumJ
namespace Go.Proofs.Ytfgdbflihllkoaa.NumCutW
open Go.RowKit Go.Proofs.Ytfgdbflihllkoaa.Kit Go.Proofs.Ytfgdbflihllkoaa.NumA Go.Proofs.Ytfgdbflihllkoaa.NumB Go.Proofs.Ytfgdbflihllkoaa.NumC Go.Proofs.Ytfgdbflihllkoaa.NumD Go.Proofs.Ytfgdbflihllkoaa.NumE Go.Proofs.Ytfgdbflihllkoaa.NumG Go.Proofs.Ytfgdbflihllkoaa.NumH Go.Proofs.Ytfgdbflihllkoaa.NumI Go.Proofs.Ytfgdbflihllkoaa.NumJ

def abc : List Int := [97, 98, 99]
theorem txt_abc : txt abc = [0, 3, 97, 98, 99] := rfl
theorem abc_8 : ∀ u ∈ abc, 0 ≤ u ∧ u ≤ 255 := by decide

/-- Behind the number: failed, or some of the text's bytes are left, not all. -/
def Mid (zs : List Int) (f : Int) : Prop := f = 1 ∨ (f = 0 ∧ ∃ i, i < 5 ∧ zs = (txt abc).take i)

theorem num_mid (b m : Nat) (a0 a1 : Int) (w : World) (h : St w b ((putb a0 a1 ++ txt abc).take m) 0) (hm : m < wd a1 + 5) :
    Calls Try.prog 16 #[.pointer (some ⟨b, 0, none⟩), .int .i64 a1] w fun e w' => ∃ v zs f, e = .returned (.int .i64 v) ∧ Hid (Mid zs f) ∧ St w' b zs f ∧ w.grownBy w' (some b) := by
  have hl : (putb a0 a1 ++ txt abc).length = wd a1 + 5 := by rw [List.length_append, putb_len, txt_abc]; rfl
  by_cases hk : wd a1 ≤ m
  · refine (num_ok b a1 _ w h (by rw [List.length_take, hl]; omega) (take_8 (app_8 (be_8 _ _) (txt_8 abc_8)) _)).mono fun e w' h => ?_
    refine ⟨_, _, 0, h.1, .inr ⟨rfl, m - wd a1, by omega, ?_⟩, h.2.1, h.2.2⟩
    rw [List.drop_take, ← putb_len a0 a1, List.drop_left]
  · refine (num_short b a1 _ w h (by rw [List.length_take, hl]; omega)).mono fun e w' h => ?_
    exact ⟨_, _, 1, h.1, .inl rfl, h.2.1, h.2.2⟩

theorem text_mid (b : Nat) (zs : List Int) (f : Int) (w : World) (h : St w b zs f) (hm : Mid zs f) :
    Calls Try.prog 17 #[.pointer (some ⟨b, 0, none⟩), .int .i64 3] w fun e w' => ∃ A n c zs, e = .returned (.slice A n c) ∧ St w' b zs 1 ∧ w.grownBy w' (some b) := by
  rcases hm with rfl | ⟨rfl, i, hi, rfl⟩
  · exact (text_fault b 3 zs 1 w h (by decide)).mono fun e w' ⟨A, n, c, he, _, hs, hd⟩ => ⟨A, n, c, _, he, hs, hd⟩
  · have hl : ((txt abc).take i).length = i := by rw [List.length_take, txt_abc]; simp; omega
    by_cases h2 : i < 2
    · exact (text_short1 b 3 _ w h (by omega)).mono fun e w' ⟨A, n, c, he, _, hs, hd⟩ => ⟨A, n, c, _, he, hs, hd⟩
    · have e : num (((txt abc).take i).take 2) = ((3 : Nat) : Int) := by
        rw [List.take_take, Nat.min_eq_left (by omega)]
        rfl
      exact (text_short2 b 3 3 _ w h (by omega) (take_8 (txt_8 abc_8) _) e (by omega) (by omega) (by omega)).mono fun e w' ⟨A, n, c, he, _, hs, hd⟩ => ⟨A, n, c, _, he, hs, hd⟩

theorem three (w : World) (fr : Nat × Nat) : Rd (w.alloc (.cells #[.int .u8 97, .int .u8 98, .int .u8 99] 5 fr)) (some ⟨w.heap.size, 0, none⟩) 3 3 (u8s abc) := by
  refine ⟨by simp [abc], by omega, by omega, fun _ => ⟨_, _, rfl, by simp, fun j u hu => ?_⟩⟩
  rw [Nat.zero_add, cell_of_row _ _ _ _ _ _ (heap_alloc_new w _)]
  simpa [abc] using hu

set_option maxHeartbeats 1000000 in
theorem hole (a0 : Int) (a1 : Int) (a2 : Int) (w0 : (Lit.int .i64 a0).wf = true) (w1 : (Lit.int .i64 a1).wf = true) (w2 : (Lit.int .u16 a2).wf = true) (w : World) :
    Calls Try.prog 7 #[.int .i64 a0, .int .i64 a1, .int .u16 a2] w fun e w' => e = .returned (.bool true) ∧ Below w.heap.size w w' := by
  have b2 := bounds_u16 w2
  obtain ⟨q, rfl⟩ : ∃ q : Nat, a2 = q := ⟨a2.toNat, by omega⟩
  have v1 := wd_pos a1
  have v2 := wd_le a1
  clear w0 w1 w2
  have kc := fun (w : World) (C : Array Value) (n c : Nat) => Lib.run_convert_bytes_const (P := Try.prog) w 22 5 C n c Try.underlying22 Try.underlying5
  go_enter Try.func7, Try.ntmps7
  go_wp2_with (go_at_call 8; refine (wakes_any _).mono ?_; rintro e w1 ⟨rfl, hb1⟩)
  refine (put_any none 0 0 [] a0 a1 _ (Rd.nil _) (by omega)).mono ?_
  rintro e w3 ⟨A3, n3, c3, hn3, rfl, hown3, hb3'⟩
  have hb3 := hb1.trans (hb3'.mono hb1.size)
  have hl3 : n3 ≤ 6 := by have := hn3.out; rw [List.nil_append, putb_len] at this; omega
  go_wp2_with fail
  refine (text_any A3 n3 c3 (putb a0 a1) _ _ _ abc _ ((Rd.own hown3).alloc _) (three _ _) (by omega)).mono ?_
  rintro e w4 ⟨A4, n4, c4, hn4, rfl, hown4, hb4'⟩
  have hb4 := (hb3.alloc hb3.size _).trans (hb4'.mono (hb3.alloc hb3.size _).size)
  have hl4 : n4 ≤ wd a1 + 5 ∧ wd a1 + 5 ≤ n4 := by
    have := hn4.out
    rw [List.length_append, putb_len, txt_abc] at this
    simp at this
    omega
  have hr4 := Rd.own hown4
  clear hown4 hb4' hn4 hb3 hn3 hown3 hb3' hb1
  have hc4 := hr4.le
  have hc5 := hr4.cap
  obtain ⟨m, hm, hmn⟩ : ∃ m : Nat, (q : Int) % (n4 : Int) = (m : Int) ∧ m < n4 := ⟨q % n4, by omega, Nat.mod_lt _ (by omega)⟩
  go_wp2_with fail
  refine (read_any A4 m c4 ((putb a0 a1 ++ txt abc).take m) _ (by rw [← u8s_take]; exact hr4.take (by omega)) (by omega)).mono ?_
  rintro e w5 ⟨b, rfl, hbb, hs5, hb5'⟩
  have hb5 := hb4.trans (hb5'.mono hb4.size)
  have hwb : w.heap.size ≤ b := by have := hb4.size; omega
  clear hm hb5' hb4 hr4
  go_wp2_with fail
  refine (num_mid b m a0 a1 _ hs5 (by omega)).mono ?_
  rintro e w6 ⟨v, zs, f, rfl, hmid, hs6, hd6⟩
  have hb6 := below_did hb5 hwb hd6
  clear hs5 hd6 hb5
  go_wp2_with fail
  refine (text_mid b zs f _ hs6 hmid.out).mono ?_
  rintro e w7 ⟨A7, n7, c7, ys, rfl, hs7, hd7⟩
  have hb7 := below_did hb6 hwb hd7
  clear hs6 hd7 hb6 hmid
  go_wp2_with (go_at_call 19; refine (end_fault b ys 1 _ hs7 (by decide)).mono ?_; rintro e w' ⟨rfl, rfl⟩)
  refine (num_fault b 1 ys 1 _ hs7 (by decide)).mono ?_
  rintro e w8 ⟨rfl, hs8, hd8⟩
  have hb8 := below_did hb7 hwb hd8
  clear hs7 hd8 hb7
  go_wp2_with fail
  refine (text_fault b 9 ys 1 _ hs8 (by decide)).mono ?_
  rintro e w9 ⟨A9, n9, c9, rfl, hr9, hs9, hd9⟩
  obtain rfl : n9 = 0 := by have := Rd.bytes hr9; simpa using this.symm
  have hb9 := below_did hb8 hwb hd9
  clear hs8 hd9 hb8 hr9
  go_wp2_with (go_at_call 18; refine (left_fault b ys 1 _ hs9 (by decide)).mono ?_; rintro e w' ⟨rfl, rfl⟩)
  go_ret
  exact ⟨rfl, hb9⟩

end Go.Proofs.Ytfgdbflihllkoaa.NumCutW
