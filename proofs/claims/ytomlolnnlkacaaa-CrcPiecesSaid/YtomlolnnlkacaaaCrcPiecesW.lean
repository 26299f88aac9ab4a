/- The walk of CrcPieces: fed piece by piece the sum is the whole's. No conditions. -/
import Derived.Test.YtomlolnnlkacaaaCrcE
namespace Go.Proofs.Ytomlolnnlkacaaa.CrcPiecesW
open Go.RowKit Go.Proofs.Ytomlolnnlkacaaa.Kit Go.Proofs.Ytomlolnnlkacaaa.Byt Go.Proofs.Ytomlolnnlkacaaa.CrcM Go.Proofs.Ytomlolnnlkacaaa.CrcA Go.Proofs.Ytomlolnnlkacaaa.CrcB Go.Proofs.Ytomlolnnlkacaaa.CrcC Go.Proofs.Ytomlolnnlkacaaa.CrcD Go.Proofs.Ytomlolnnlkacaaa.CrcE

/-- What the loop keeps: the bytes that were fed, all of them in a slice of the call's own. -/
def Fed (w2 : World) (R : List Sl) (k : Nat) (x al : Value) (wr : World) : Prop :=
  x = .int .u32 (fd 4294967295 (cat (R.take k)) : Nat) ∧ ∃ A n c, al = .slice A n c ∧ wr.ownsRow w2.heap.size 5 1 al n (u8n (cat (R.take k))) ∧ n ≤ 200 * k

set_option maxHeartbeats 1000000 in
theorem core (A : Option Addr) (n c : Nat) (R : List Sl) (w : World) (hr : Rds w A n c R) :
    Calls Try.prog 4 #[.slice A n c] w fun e w' => e = .returned (.bool true) ∧ Below w.heap.size w w' := by
  obtain ⟨i0, hi0, hz0, hz1, hz2⟩ := info_parts info8
  by_cases hl : 50 < n
  · go_enter Try.func4, Try.ntmps4
    go_wp2_with (first
     | (go_at_call 8; refine (wakes_any _).mono ?_; rintro e w1 ⟨rfl, hb1⟩))
    go_ret
    exact ⟨rfl, hb1⟩
  · obtain rfl := Rds.len hr
    go_enter Try.func4, Try.ntmps4
    go_wp2_with (first
     | (go_at_call 8; refine (wakes_any _).mono ?_; rintro e w1 ⟨rfl, hb1⟩)
     | (go_at_call 9; refine (make_any _).mono ?_; rintro e w2 ⟨rfl, hT, hb2', hs2⟩; clear hs2; have HT := Lib.hid hT; clear hT; have hb2 := hb1.trans (hb2'.mono hb1.size); have hr2 := hr.below hb2)
     | (go_at_call 15; refine (begin_any _).mono ?_; rintro e w3 ⟨rfl, rfl⟩))
    go_loopw [4, 5, 16] (fun x al i wr => ∃ k : Nat, k ≤ R.length ∧ i = .int .i64 k ∧ Hid (Fed w2 R k x al wr) ∧ Below w2.heap.size w2 wr) (fun _ _ i _ => R.length - (intOf i).toNat)
    case atStart => exact ⟨0, Nat.zero_le _, rfl, Lib.hid ⟨by simp [cat, fd_nil], none, 0, 0, rfl, by simpa [cat, u8n] using ⟨rfl, .inl ⟨rfl, rfl⟩⟩, by omega⟩, Below.refl _ _⟩
    case round =>
      obtain ⟨k, hk, rfl, hfed, hb3⟩ := hrel
      obtain ⟨rfl, A2, n2, c2, rfl, hown, hn2⟩ := hfed.out
      clear hfed
      have hok : ∀ c ∈ cat (R.take k), c < 256 := cat_lt fun s hs => hr.2 s (List.mem_of_mem_take hs)
      have hx : fd 4294967295 (cat (R.take k)) < 4294967296 := fd_lt (by decide) hok
      have hbw : Below w.heap.size w wr := hb2.trans (hb3.mono hb2.size)
      have HT3 := Lib.hid (Tb.below HT.out hb3)
      clear HT
      by_cases hlt : k < R.length
      · have hr3 := hr2.below hb3
        obtain ⟨b, o, rfl, hc⟩ := Rds.at_ hr3 hlt
        have hs : Sl.ok wr R[k] := hr3.2 _ (List.getElem_mem hlt)
        have hlen := Rd.nats hs.1
        have hcap := hs.1.cap
        have hle := hs.1.le
        have hcat := Lib.hid (cat_snoc hlt)
        generalize R[k] = s at *
        obtain ⟨A3, n3, c3, xs3⟩ := s
        simp only at hc hlen hcap hle
        by_cases h200 : 200 < n3
        · go_wp2
          go_ret
          exact ⟨rfl, hbw⟩
        · have hown' := own_below hown (Below.refl _ _)
          go_wp2_with (first
           | (go_at_call 12; refine (feed_there _ A3 n3 c3 xs3 _ _ HT3.out hs.1 hs.2 hx).mono ?_; rintro e w3 ⟨rfl, rfl⟩)
           | (at_builtin; refine wpList_add _ rfl (.tmp 32) (.tmp 36) _ rfl w2.heap.size 5 i0 _ 1 Try.underlying22 hi0 hz0 hz1 hz2 rfl _ n2 _ rfl hown A3 n3 c3 (u8n xs3) rfl hs.1 (u8n_one _) (by omega) (by omega) hb3.size ?_; intro A4 n4 c4 w4 hn4 hown4 hg4 hat4; have hb4 := below_add hb3 hown (Nat.le_refl _) hg4; clear hat4 hg4))
          go_roundw
          case rel => exact ⟨k + 1, by omega, by go_num, Lib.hid ⟨by rw [hcat.out, fd_app], A4, n4, c4, rfl, by rw [hcat.out, ← u8n_app]; exact hown4, by have := hn4.out; omega⟩, hb4⟩
          case measure => simp [intOf]; omega
      · have he : R.take k = R := List.take_of_length_le (by omega)
        rw [he] at hown hok hx ⊢
        have hend : ((4294967295 - fd 4294967295 (cat R) : Nat) : Int) = (sm (cat R) : Nat) := rfl
        have HE := Lib.hid hend
        clear hend he
        go_wp2_with (first
         | (go_at_call 14; refine (end_any _ _ hx).mono ?_; rintro e w3 ⟨rfl, rfl⟩)
         | (go_at_call 11; refine (rsum_any A2 n2 c2 (cat R) _ (Rd.own hown) hok).mono ?_; rintro e w3 ⟨rfl, rfl⟩))
        go_ret
        exact ⟨ret_bool (by rw [HE.out]; simp), hbw⟩

theorem hole {H : Type} (enc : TypeId × Value → H) (base : Nat) (v0 : Value) (d0 : DataW H) (p0 : List MemPlace) (w : World) (w0 : DataW.Trod enc Try.prog w 0 (fun _ => true) true 32 v0 d0 p0) (o0 : Value.okWide Try.prog w .any base 32 v0) :
    Calls Try.prog 4 #[v0] w fun e w' => e = .returned (.bool true) ∧ Below w.heap.size w w' := by
  obtain ⟨A, n, c, R, rfl, hr⟩ := open_rows Try.underlying32 Try.underlying22 Try.underlying5 (by kernel_rfl) (by kernel_rfl) w0 o0
  exact core A n c R w hr

end Go.Proofs.Ytomlolnnlkacaaa.CrcPiecesW
