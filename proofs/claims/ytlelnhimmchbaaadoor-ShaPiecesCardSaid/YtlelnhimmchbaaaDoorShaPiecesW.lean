/- The walk of ShaPieces: written piece by piece, and asked in between, the digest is the whole's. Condition: the rounds' own numbers lie in the variable. -/
import Derived.Test.YtlelnhimmchbaaaDoorShaL
import Derived.Test.YtlelnhimmchbaaaDoorEq
namespace Go.Proofs.YtlelnhimmchbaaaDoor.ShaPiecesW
open Go.RowKit Go.Proofs.YtlelnhimmchbaaaDoor.Kit Go.Proofs.YtlelnhimmchbaaaDoor.Byt Go.Proofs.YtlelnhimmchbaaaDoor.ShaM Go.Proofs.YtlelnhimmchbaaaDoor.ShaB Go.Proofs.YtlelnhimmchbaaaDoor.ShaC Go.Proofs.YtlelnhimmchbaaaDoor.ShaK Go.Proofs.YtlelnhimmchbaaaDoor.ShaE Go.Proofs.YtlelnhimmchbaaaDoor.ShaF Go.Proofs.YtlelnhimmchbaaaDoor.ShaG Go.Proofs.YtlelnhimmchbaaaDoor.ShaH Go.Proofs.YtlelnhimmchbaaaDoor.ShaI Go.Proofs.YtlelnhimmchbaaaDoor.ShaJ Go.Proofs.YtlelnhimmchbaaaDoor.ShaL Go.Proofs.YtlelnhimmchbaaaDoor.Eq

theorem cells8 : Tryd.prog.cellsOf 5 = 1 := by kernel_rfl
theorem Hs.kept {w w' : World} {g : Nat} {l : List Nat} {row : Option Nat} (h : Hs w g l) (hg : w.grownBy w' row) (hne : some g ≠ row) : Hs w' g l := by
  obtain ⟨op, h1, h2, h3, hB⟩ := h
  exact ⟨op, h1, h2, h3, (hg.block g hB.lt hne).trans hB⟩
theorem own_ne {w : World} {base n c g : Nat} {e : TypeId} {A : Option Addr} {xs : List Value} (h : w.ownsRow base e 1 (.slice A n c) n xs) (hg : g < base) : (Value.slice A n c).ownBlock ≠ some g := by
  rcases h.2 with ⟨hv, _⟩ | ⟨g', cap', cur, hv, hb, _⟩
  · rw [hv]; simp [Value.ownBlock]
  · rw [hv]; simp [Value.ownBlock]; omega
/-- What the loop keeps: the bytes that were written, in the Hash, and in a slice of the call's own. -/
def Fed (w : World) (base g : Nat) (R : List Sl) (k : Nat) (al : Value) (wr : World) : Prop :=
  ∃ A n c, al = .slice A n c ∧ wr.ownsRow base 5 1 al n (u8n (cat (R.take k))) ∧ n ≤ 200 * k ∧ Hs wr g (cat (R.take k)) ∧ Below w.heap.size w wr ∧ base ≤ wr.heap.size

set_option maxRecDepth 100000 in
set_option maxHeartbeats 1600000 in
theorem core (A : Option Addr) (n c : Nat) (R : List Sl) (w : World) (hr : Rds w A n c R) (hT : Tab w) :
    Calls Tryd.prog 4 #[.slice A n c] w fun e w' => e = .returned (.bool true) ∧ Below w.heap.size w w' := by
  obtain ⟨i0, hi0, hz0, hz1, hz2⟩ := info_parts Go.Proofs.YtlelnhimmchbaaaDoor.ShaG.info8
  have HT := Lib.hid hT
  by_cases hl : 30 < n
  · clear hT
    go_enter Tryd.func4, Tryd.ntmps4
    go_wp2_with (first
     | (go_at_call 7; refine (wakes_any _ HT.out).mono ?_; rintro e w1 ⟨rfl, hb1⟩))
    go_ret
    exact ⟨rfl, hb1⟩
  · obtain rfl := Rds.len hr
    have h0 := hT.1
    clear hT
    go_enter Tryd.func4, Tryd.ntmps4
    go_wp2_with (first
     | (go_at_call 7; refine (wakes_any _ HT.out).mono ?_; rintro e w1 ⟨rfl, hb1⟩)
     | (go_at_call 12; refine (new_any _).mono ?_; rintro e w2 ⟨g, rfl, hg, hH, hb2'⟩; have hb2 := hb1.trans (hb2'.mono hb1.size)))
    have hg' : w.heap.size ≤ g := by have := hb1.size; omega
    have hgl := hH.lt
    have H0 : Hid (Fed w w2.heap.size g R 0 (.slice none 0 0) w2) := Lib.hid ⟨none, 0, 0, rfl, by simpa [cat, u8n] using ⟨rfl, .inl ⟨rfl, rfl⟩⟩, by omega, by simpa [cat] using hH, hb2, Nat.le_refl _⟩
    obtain ⟨base, hbase⟩ : ∃ base, base = w2.heap.size := ⟨_, rfl⟩
    rw [← hbase] at H0 hgl
    clear hH hb2' hbase hg
    go_loopw [4, 14, 5] (fun al i _ wr => ∃ k : Nat, k ≤ R.length ∧ i = .int .i64 k ∧ Hid (Fed w base g R k al wr)) (fun _ i _ _ => R.length - (intOf i).toNat)
    case atStart => exact ⟨0, Nat.zero_le _, rfl, H0⟩
    case round =>
      obtain ⟨k, hk, rfl, hfed⟩ := hrel
      clear H0
      obtain ⟨A2, n2, c2, rfl, hown, hn2, hH, hbw, hbs⟩ := hfed.out
      clear hfed
      by_cases hlt : k < R.length
      · obtain ⟨b, o, rfl, hcw⟩ := Rds.at_ hr hlt
        have hbl : b < w.heap.size := block_lt_of_cell hcw
        have hc := (hbw.cell (p := ⟨b, o + k, none⟩) hbl).trans hcw
        have hs : Sl.ok w R[k] := hr.2 _ (List.getElem_mem hlt)
        have hlen := Rd.nats hs.1
        have hcap := hs.1.cap
        have hle := hs.1.le
        have hcat := Lib.hid (cat_snoc hlt)
        have hok : by256 (cat (R.take k)) := cat_lt fun s hs => hr.2 s (List.mem_of_mem_take hs)
        generalize R[k] = s at *
        obtain ⟨A3, n3, c3, xs3⟩ := s
        simp only at hc hcw hlen hcap hle
        have HC := Lib.hid hcw
        clear hcw
        have hcl := Lib.hid (show (cat (R.take k)).length = n2 by have := hown.1; rw [u8n_len] at this; omega)
        obtain ⟨ls, hls⟩ : ∃ ls, ls = cat (R.take k) := ⟨_, rfl⟩
        rw [← hls] at hown hH hok hcl
        have Hls := Lib.hid hls
        clear hls
        by_cases h200 : 200 < n3
        · go_wp2
          go_ret
          exact ⟨rfl, hbw⟩
        · go_wp2_with fail
          refine (write_any g A3 n3 c3 xs3 ls wr (HT.out.below hbw h0) (by omega) hH (src_of hs.1 hg' hbw) hs.2 (by rw [hcl.out]; omega)).mono ?_
          rintro e w3 ⟨rfl, hH3, hg3⟩
          have hb3 := hbw.grown hg3 hbw.size (fun k hk => by injection hk with hk; omega)
          have hown3 := hown.kept hg3 (.inr (own_ne hown hgl))
          have hsz3 := hg3.size
          have hc3 := (hb3.cell (p := ⟨b, o + k, none⟩) hbl).trans HC.out
          have hR3 := Lib.hid (hs.1.below hb3)
          have hne := own_ne hown3 hgl
          clear hc hg3 hown
          go_wp2_with (at_builtin; refine wpList_add _ rfl (.tmp 29) (.tmp 33) _ rfl base 5 i0 _ 1 Tryd.underlying22 hi0 hz0 hz1 hz2 rfl _ n2 _ rfl hown3 A3 n3 c3 (u8n xs3) rfl hR3.out (u8n_one _) (by omega) (by omega) (by omega) ?_; intro A4 n4 c4 w4 hn4 hown4 hg4 hat4; have hb4 := below_add hb3 hown3 (by omega) hg4; have hH4 := Lib.hid (Hs.kept hH3 hg4 (Ne.symm hne)); have hs4 := hg4.size; clear hat4 hg4)
          rw [u8n_app] at hown4
          obtain ⟨l4, hl4⟩ : ∃ l4, l4 = ls ++ xs3 := ⟨_, rfl⟩
          have hok4 : by256 l4 := by
            rw [hl4]
            intro c hc
            rcases List.mem_append.1 hc with hc | hc
            · exact hok c hc
            · exact hs.2 c hc
          have hlen4 := Lib.hid (show l4.length = n4 by rw [hl4, List.length_append, hcl.out, hlen, hn4.out])
          rw [← hl4] at hown4 hH4
          have Hl4 := Lib.hid hl4
          have hb9 : l4.length < 549755813888 := by have := hlen4.out; have := hn4.out; omega
          clear hl4 hc3 hown3 hH3
          obtain ⟨DA, hDA⟩ : ∃ DA : Array Value, DA = (u8n (dig l4)).toArray := ⟨_, rfl⟩
          have hsm := fun (W : World) (hb : Below w4.heap.size w4 W) => sum_any g l4 W (HT.out.below (hb4.trans (hb.mono hb4.size)) h0) (hH4.out.below hb) hok4 hb9
          have hof := fun (W : World) (hb : Below w4.heap.size w4 W) => of_any A4 n4 c4 l4 W (HT.out.below (hb4.trans (hb.mono hb4.size)) h0) ((Rd.own hown4).below hb) hok4 hb9
          have hlg := fun (W : World) (hb : Below w4.heap.size w4 W) => long_any g l4 W (hH4.out.below hb)
          have heq := fun w => equal_refl (P := Tryd.prog) w Tryd.underlying24 Tryd.underlying5 hi0 cells8 (dig_len l4)
          simp only [← hDA] at hsm hof heq
          rw [hlen4.out] at hlg
          have HS := Lib.hid hsm
          have HO := Lib.hid hof
          have HL := Lib.hid hlg
          have HW := Lib.hid hown4
          clear hsm hof hlg hDA hown4
          refine (HS.out _ (Below.refl _ _)).mono ?_
          rintro e w5 ⟨rfl, hb5⟩
          go_wp2_with fail
          refine (HO.out _ hb5).mono ?_
          rintro e w6 ⟨rfl, hb6'⟩
          have hb6 := hb5.trans (hb6'.mono hb5.size)
          go_wp2_with fail
          refine (HL.out _ hb6).mono ?_
          rintro e w' ⟨rfl, rfl⟩
          go_wp2_with fail
          refine (HS.out _ hb6).mono ?_
          rintro e w7 ⟨rfl, hb7'⟩
          have hb7 := hb6.trans (hb7'.mono hb6.size)
          go_wp2_with fail
          refine (HS.out _ hb7).mono ?_
          rintro e w8 ⟨rfl, hb8'⟩
          have hb8 := hb7.trans (hb8'.mono hb7.size)
          have hF : Hid (Fed w base g R (k + 1) (.slice A4 n4 c4) w8) := Lib.hid ⟨A4, n4, c4, rfl, by rw [hcat.out, ← Hls.out, ← Hl4.out]; exact own_below HW.out hb8, by have := hn4.out; omega, by rw [hcat.out, ← Hls.out, ← Hl4.out]; exact hH4.out.below hb8, hb4.trans (hb8.mono hb4.size), by have := hb8.size; omega⟩
          clear HW hH4 hb5 hb6 hb6' hb7 hb7' hb8 hb8'
          go_wp2
          go_roundw
          case rel => exact ⟨k + 1, by omega, by go_num, hF⟩
          case measure => simp [intOf]; omega
      · go_wp2
        go_ret
        exact ⟨rfl, hbw⟩

theorem hole {H : Type} (enc : TypeId × Value → H) (base : Nat) (v0 : Value) (d0 : DataW H) (p0 : List MemPlace) (w : World) (w0 : DataW.Trod enc Tryd.prog w 0 (fun _ => true) true 33 v0 d0 p0) (o0 : Value.okWide Tryd.prog w .any base 33 v0) (hT : Tab w) :
    Calls Tryd.prog 4 #[v0] w fun e w' => e = .returned (.bool true) ∧ Below w.heap.size w w' := by
  obtain ⟨A, n, c, R, rfl, hr⟩ := open_rows Tryd.underlying33 Tryd.underlying22 Tryd.underlying5 (by kernel_rfl) (by kernel_rfl) w0 o0
  exact core A n c R w hr hT

end Go.Proofs.YtlelnhimmchbaaaDoor.ShaPiecesW
