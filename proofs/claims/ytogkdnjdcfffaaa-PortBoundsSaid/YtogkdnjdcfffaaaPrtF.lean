/- The program's Set: Drain. Conditions: it lies as the facts say; numbers of 64 bits. -/
import Derived.Test.YtogkdnjdcfffaaaPrtE
namespace Go.Proofs.Ytogkdnjdcfffaaa.PrtF
open Go.RowKit Go.Proofs.Ytogkdnjdcfffaaa.Kit Go.Proofs.Ytogkdnjdcfffaaa.Byt Go.Proofs.Ytogkdnjdcfffaaa.Mem Go.Proofs.Ytogkdnjdcfffaaa.TabI Go.Proofs.Ytogkdnjdcfffaaa.PrtM Go.Proofs.Ytogkdnjdcfffaaa.PrtA Go.Proofs.Ytogkdnjdcfffaaa.PrtB Go.Proofs.Ytogkdnjdcfffaaa.PrtC Go.Proofs.Ytogkdnjdcfffaaa.PrtD Go.Proofs.Ytogkdnjdcfffaaa.PrtE
open Go.Proofs.Ytogkdnjdcfffaaa.TabA (Tri Tris)

section
variable {B S n c : Nat} {w : World} {ρ : Nat → Lab} {A : Option Addr} {Q : Nat → Nat} {C : List Tri} {L : Nat → List Int} {r : Tri}
/-- The world has more, no more. -/
theorem Stp.more {F : Lab → Prop} {w w1 w2 : World} {ρ ρ1 : Nat → Lab} (h : Stp F w ρ w1 ρ1) (hb : Bd B w1 ρ1) (hw : Below w1.heap.size w1 w2) : Stp F w ρ w2 ρ1 := h.trans (Stp.of_below hb hw)
theorem drain_any (h : Chs B w ρ S A n c Q C L) (p : Int) :
    Calls Try.prog 18 #[.pointer (some ⟨S, 0, none⟩), .int .i64 p] w (Lft B w ρ S A n c Q C (drn C p n L) (.tuple #[])) := by
  have hn64 : n ≤ 9223372036854775807 := by have := h.most; omega
  have s0 := h.set.cell (i := 0) rfl
  have H := Lib.hid h
  clear h
  go_enter Try.func18, Try.ntmps18
  go_wp2_with fail
  go_loopw [13] (fun i wr => ∃ (k : Nat) (ρ1 : Nat → Lab), k ≤ n ∧ i = .int .i64 k ∧ Hid (Chs B wr ρ1 S A n c Q C (drn C p k L)) ∧ Hid (Stp Prog w ρ wr ρ1)) (fun i _ => n - (intOf i).toNat)
  case atStart => exact ⟨0, ρ, Nat.zero_le _, rfl, Lib.hid (by rw [drn_zero]; exact H.out), Lib.hid (Stp.refl _ H.out.bd)⟩
  case round =>
    obtain ⟨k, ρ1, hk, rfl, H1, HS⟩ := hrel
    by_cases hlt : k < n
    · obtain ⟨r, b, o, hr, _, rfl, hbl, k0, k1, k2⟩ := H1.out.at_ hlt
      have hm := fun (m : Nat) (w : World) => meth_drain m r.c ⟨Q k, 0, none⟩ w
      have HA := Lib.hid (fun x => H1.out.below ((Below.refl _ _).alloc (Nat.le_refl _) (.cells #[.int .i64 r.a, .int .i64 r.b, x] 70)))
      have HSA := Lib.hid (fun x => Stp.more HS.out H1.out.bd ((Below.refl _ _).alloc (Nat.le_refl _) (.cells #[.int .i64 r.a, .int .i64 r.b, x] 70)))
      obtain ⟨y, hy⟩ : ∃ y, y = r.b := ⟨_, rfl⟩
      by_cases hp : r.b = p
      · have HD := Lib.hid (drn_yes (L := L) hr hp)
        have HCC := Lib.hid (fun x => cont_drain (HA.out x) hr)
        rw [← hy] at k1 HCC HSA HA
        obtain rfl : y = p := hy.trans hp
        clear hp hy
        by_cases hd : r.c = 0
        · simp only [kind, if_pos hd] at hm k2
          simp only [if_pos hd] at HCC HSA HA
          have HC2 := Lib.hid (HCC.out (.iface 80 (.pointer (some ⟨Q k, 0, none⟩))))
          have HS2 := Lib.hid (HSA.out (.iface 80 (.pointer (some ⟨Q k, 0, none⟩))))
          obtain ⟨d, hd2⟩ : ∃ d, d = r.c := ⟨_, rfl⟩
          clear HA HSA HCC hd hd2
          go_wp2_with (go_at_call 47; refine HC2.out.mono ?_; rintro e w2 ⟨rfl, ρ2, g1, g2⟩; have G1 := Lib.hid g1; have G2 := Lib.hid (HS2.out.trans g2); clear g1 g2)
          go_roundw
          case rel => exact ⟨k + 1, ρ2, by omega, by go_num, Lib.hid (by rw [HD.out]; exact G1.out), G2⟩
          case measure => simp [intOf]; omega
        · simp only [kind, if_neg hd] at hm k2
          simp only [if_neg hd] at HCC HSA HA
          have HC2 := Lib.hid (HCC.out (.iface 83 (.pointer (some ⟨Q k, 0, none⟩))))
          have HS2 := Lib.hid (HSA.out (.iface 83 (.pointer (some ⟨Q k, 0, none⟩))))
          obtain ⟨d, hd2⟩ : ∃ d, d = r.c := ⟨_, rfl⟩
          clear HA HSA HCC hd hd2
          go_wp2_with (go_at_call 51; refine HC2.out.mono ?_; rintro e w2 ⟨rfl, ρ2, g1, g2⟩; have G1 := Lib.hid g1; have G2 := Lib.hid (HS2.out.trans g2); clear g1 g2)
          go_roundw
          case rel => exact ⟨k + 1, ρ2, by omega, by go_num, Lib.hid (by rw [HD.out]; exact G1.out), G2⟩
          case measure => simp [intOf]; omega
      · have HD := Lib.hid (drn_no (L := L) hr hp)
        rw [← hy] at k1 HSA HA hp
        clear hy hm
        have HA2 := Lib.hid (HA.out (.iface (kind r.c) (.pointer (some ⟨Q k, 0, none⟩))))
        have HS2 := Lib.hid (HSA.out (.iface (kind r.c) (.pointer (some ⟨Q k, 0, none⟩))))
        clear HA HSA
        go_wp2_with fail
        go_roundw
        case rel => exact ⟨k + 1, ρ1, by omega, by go_num, Lib.hid (by rw [HD.out]; exact HA2.out), HS2⟩
        case measure => simp [intOf]; omega
    · obtain rfl : k = n := by omega
      go_wp2
      go_end0
      exact ⟨rfl, ρ1, H1.out, HS.out⟩
end
end Go.Proofs.Ytogkdnjdcfffaaa.PrtF
