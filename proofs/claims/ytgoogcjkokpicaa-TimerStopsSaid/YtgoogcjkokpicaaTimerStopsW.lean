/- The walk of TimerStops. No conditions. -/
import Derived.Test.YtgoogcjkokpicaaTimP
import Derived.Test.YtgoogcjkokpicaaTimQ
namespace Go.Proofs.Ytgoogcjkokpicaa.TimerStopsW
open Go.RowKit Go.Proofs.Ytgoogcjkokpicaa.Kit Go.Proofs.Ytgoogcjkokpicaa.Byt Go.Proofs.Ytgoogcjkokpicaa.Mem Go.Proofs.Ytgoogcjkokpicaa.TimM Go.Proofs.Ytgoogcjkokpicaa.TimA Go.Proofs.Ytgoogcjkokpicaa.TimN Go.Proofs.Ytgoogcjkokpicaa.TimI Go.Proofs.Ytgoogcjkokpicaa.TimL Go.Proofs.Ytgoogcjkokpicaa.TimW Go.Proofs.Ytgoogcjkokpicaa.TimO Go.Proofs.Ytgoogcjkokpicaa.TimP Go.Proofs.Ytgoogcjkokpicaa.TimQ

abbrev NoZ : Nat → Prop := fun _ => False
set_option maxRecDepth 100000 in
set_option maxHeartbeats 6400000 in
theorem core (A0 : Option Addr) (m cm : Nat) (R : List Ac) (keep : Int) (w : World) (hacts : Acts w A0 m cm R) (hk0 : 0 ≤ keep) (hk1 : keep ≤ 255) :
    Calls Try.prog 6 #[.slice A0 m cm, .int .u8 keep] w fun e w' => e = .returned (.bool true) ∧ Below w.heap.size w w' := by
  have HAC := Lib.hid hacts
  have hm64 : m ≤ 9223372036854775807 := by have := hacts.2.1; have := hacts.2.2.1; omega
  clear hacts
  go_enter Try.func6, Try.ntmps6
  go_wp2_with fail
  refine (wakes_any _).mono ?_
  rintro e w1 ⟨rfl, hb1⟩
  have HB1 := Lib.hid hb1
  clear hb1
  by_cases hm : m ≤ 100
  rotate_left 1
  · go_wp2
    go_ret
    exact ⟨rfl, HB1.out⟩
  go_wp2_with fail
  refine (new_rn w HB1.out).mono ?_
  rintro e w2 ⟨tb, rfl, hr⟩
  have HR2 := Lib.hid hr
  clear hr
  go_wp2_with fail
  go_loopw [22] (fun i wr => ∃ (k : Nat) (X : Xs), k ≤ m ∧ i = .int .i64 k ∧ Hid (Rn w wr tb k X NoZ) ∧ Hid (∀ p ∈ X, ∃ r ∈ R, r.name = p.1)) (fun i _ => m - (intOf i).toNat)
  case atStart => exact ⟨0, [], Nat.zero_le _, rfl, HR2, Lib.hid (fun p hp => by cases hp)⟩
  case round =>
    obtain ⟨k, X, hk, rfl, HR, HX⟩ := hrel
    clear HR2
    by_cases hlt : k < m
    · obtain ⟨ra, ab, ao, hra, hrok, rfl, habl, a0, a1, a2⟩ := (HAC.out.below HR.out.bel).at_ hlt
      obtain ⟨p0, p1, p2⟩ := hrok
      have HP1 := Lib.hid p1
      have HP2 := Lib.hid p2
      have HMR := Lib.hid (List.mem_of_getElem? hra)
      obtain ⟨wa, hwa⟩ : ∃ wa, wa = wr.alloc (.cells #[.int .i64 ra.kind, .int .i64 ra.name, .int .i64 ra.tick] 28) := ⟨_, rfl⟩
      have hba : Below wr.heap.size wr wa := by rw [hwa]; exact (Below.refl _ _).alloc (Nat.le_refl _) _
      have HRa := Lib.hid (HR.out.below hba)
      have hbx : Blk wa wr.heap.size 28 [.int .i64 ra.kind, .int .i64 ra.name, .int .i64 ra.tick] := by rw [hwa]; exact Blk.new wr _ _
      have b1 := hbx.cell (i := 1) rfl
      have b2 := hbx.cell (i := 2) rfl
      have hk9 : k < 900 := by omega
      have HS := Lib.hid (set_rn HRa.out hk9 HP1.out HP2.out)
      clear hra p0 p1 p2 hbx
      go_upto_region 9 with (fail)
      rw [← hwa]
      clear hwa hba a0 a1 a2
      go_wp2_with fail
      refine HS.out.mono ?_
      rintro e wb ⟨rfl, hr, _⟩
      have HRb := Lib.hid hr
      clear hr b1 b2
      go_wp2
      go_roundw
      case rel => exact ⟨k + 1, setX X ra.name ra.tick, by omega, by go_num, HRb, Lib.hid (fun p hp => by
        rcases mem_set.1 hp with ⟨h1, _⟩ | rfl
        · exact HX.out p h1
        · exact ⟨ra, HMR.out, rfl⟩)⟩
      case measure => simp [intOf]; omega
    · obtain rfl : k = m := by omega
      go_wp2_with fail
      go_loopw [35] (fun i wr => ∃ (k2 : Nat) (Y : Xs), k2 ≤ k ∧ i = .int .i64 k2 ∧ Hid (Rn w wr tb k Y NoZ) ∧ Hid (∀ p ∈ Y, ∃ r ∈ R, r.name = p.1) ∧ Hid (∀ j r, j < k2 → R[j]? = some r → bits .and .i64 r.name 1 = bits .and .i64 keep 1 → ∀ p ∈ Y, p.1 ≠ r.name)) (fun i _ => k - (intOf i).toNat)
      case atStart => exact ⟨0, X, Nat.zero_le _, rfl, HR, HX, Lib.hid (fun j r hj => by omega)⟩
      case round =>
        obtain ⟨k2, Y, hk2, rfl, HR2, HY, HZ⟩ := hrel
        clear HR HX
        by_cases hlt2 : k2 < k
        · obtain ⟨ra, ab, ao, hra, hrok, rfl, habl, a0, a1, a2⟩ := (HAC.out.below HR2.out.bel).at_ hlt2
          obtain ⟨p0, p1, p2⟩ := hrok
          have HP1 := Lib.hid p1
          have HRA := Lib.hid hra
          obtain ⟨wa, hwa⟩ : ∃ wa, wa = wr.alloc (.cells #[.int .i64 ra.kind, .int .i64 ra.name, .int .i64 ra.tick] 28) := ⟨_, rfl⟩
          have hba : Below wr.heap.size wr wa := by rw [hwa]; exact (Below.refl _ _).alloc (Nat.le_refl _) _
          have HRa := Lib.hid (HR2.out.below hba)
          have hbx : Blk wa wr.heap.size 28 [.int .i64 ra.kind, .int .i64 ra.name, .int .i64 ra.tick] := by rw [hwa]; exact Blk.new wr _ _
          have b1 := hbx.cell (i := 1) rfl
          have HS := Lib.hid (stop_rn HRa.out HP1.out)
          clear hra p0 p1 p2 hbx
          go_upto_region 14 with (fail)
          rw [← hwa]
          clear hwa hba a0 a1 a2
          by_cases hp : bits .and .i64 ra.name 1 = bits .and .i64 keep 1
          · have HPB := Lib.hid hp
            have hpb : (bits .and .i64 ra.name 1 == bits .and .i64 keep 1) = true := by simpa using hp
            clear hp
            go_wp2_with fail
            refine HS.out.mono ?_
            rintro e wb ⟨rfl, hr, _⟩
            have HRb := Lib.hid hr
            clear hr b1
            go_wp2
            go_roundw
            case rel => exact ⟨k2 + 1, stopX Y ra.name, by omega, by go_num, HRb, Lib.hid (fun p hp => HY.out p (mem_stop.1 hp).1), Lib.hid (fun j r hj hr hb p hp => by
              by_cases e : j < k2
              · exact HZ.out j r e hr hb p (mem_stop.1 hp).1
              · obtain rfl : j = k2 := by omega
                rw [HRA.out] at hr
                injection hr with hr
                subst hr
                exact (mem_stop.1 hp).2)⟩
            case measure => simp [intOf]; omega
          · have HPB := Lib.hid hp
            have hpb : (bits .and .i64 ra.name 1 == bits .and .i64 keep 1) = false := by simpa using hp
            clear hp
            go_wp2
            go_roundw
            case rel => exact ⟨k2 + 1, Y, by omega, by go_num, HRa, HY, Lib.hid (fun j r hj hr hb p hp => by
              by_cases e : j < k2
              · exact HZ.out j r e hr hb p hp
              · obtain rfl : j = k2 := by omega
                rw [HRA.out] at hr
                injection hr with hr
                subst hr
                exact absurd hb HPB.out)⟩
            case measure => simp [intOf]; omega
        · obtain rfl : k2 = k := by omega
          have HNO := Lib.hid (show ∀ n ∈ dueN Y 9223372036854775807, ¬ bits .and .i64 n 1 = bits .and .i64 keep 1 from fun n hn hb => by
            obtain ⟨s, hs, _⟩ := due_mem hn
            obtain ⟨r, hr, he⟩ := HY.out _ hs
            obtain ⟨j, hj, hje⟩ := List.getElem_of_mem hr
            have hjl : j < k2 := by rw [← HAC.out.1]; exact hj
            exact HZ.out j r hjl (by rw [List.getElem?_eq_getElem hj, hje]) (by rw [he]; exact hb) _ hs he.symm)
          have HE := Lib.hid (show dueL Y 9223372036854775807 = [] from due_all HR2.out.un fun p hp => (bounds_i64 (HR2.out.wf p hp).2).2)
          have HD := Lib.hid (due_rn HR2.out 9223372036854775807)
          go_wp2_with fail
          refine HD.out.mono ?_
          rintro e w4 ⟨A, n, c, rfl, hrd, _, hr, _⟩
          rw [HE.out] at hr
          have HR4 := Lib.hid hr
          have HRD := Lib.hid hrd
          have hn64 : n ≤ 9223372036854775807 := by have := hrd.le; have := hrd.cap; omega
          clear hr hrd HR2 HD HZ HY
          go_wp2_with fail
          go_loopw [54] (fun i wr => ∃ (k3 : Nat), k3 ≤ n ∧ i = .int .i64 k3 ∧ wr = w4) (fun i _ => n - (intOf i).toNat)
          case atStart => exact ⟨0, Nat.zero_le _, rfl, rfl⟩
          case round =>
            obtain ⟨k3, hk3, rfl, rfl⟩ := hrel
            by_cases hlt3 : k3 < n
            · obtain ⟨x, b, o, hx, rfl, _, gx⟩ := Go.Proofs.Ytgoogcjkokpicaa.TimW.ints_at HRD.out hlt3
              have hpb : (bits .and .i64 x 1 == bits .and .i64 keep 1) = false := by simpa using HNO.out x (List.mem_of_getElem? hx)
              clear hx
              go_wp2
              go_roundw
              case rel => exact ⟨k3 + 1, by omega, by go_num, by first | rfl | trivial⟩
              case measure => simp [intOf]; omega
            · have HN := Lib.hid (next_rn HR4.out)
              have HL := Lib.hid (len_rn HR4.out)
              go_wp2_with (first
                | (go_at_call 16; refine HN.out.mono ?_; rintro e w5 ⟨rfl, rfl⟩)
                | (go_at_call 18; refine HL.out.mono ?_; rintro e w5 ⟨rfl, rfl⟩))
              go_ret
              exact ⟨rfl, HR4.out.bel⟩
theorem hole {H : Type} (enc : TypeId × Value → H) (base : Nat) (v0 : Value) (d0 : DataW H) (p0 : List MemPlace) (a1 : Int) (w : World) (w0 : DataW.Trod enc Try.prog w 0 (fun _ => true) true 22 v0 d0 p0) (o0 : Value.okWide Try.prog w .any base 22 v0) (w1 : (Lit.int .u8 a1).wf = true) :
    Calls Try.prog 6 #[v0, .int .u8 a1] w fun e w' => e = .returned (.bool true) ∧ Below w.heap.size w w' := by
  obtain ⟨A, n, c, R, rfl, hr⟩ := open_acts w0 o0
  have hb := bounds_u8 w1
  exact core A n c R a1 w hr hb.1 hb.2
end Go.Proofs.Ytgoogcjkokpicaa.TimerStopsW
