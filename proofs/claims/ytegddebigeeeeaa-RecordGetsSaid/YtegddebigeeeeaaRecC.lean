/- A sealed sector, by the reference. Conditions: the slice reads as the bytes that are named, at most 60. -/
import Derived.Test.YtegddebigeeeeaaRecA
import Derived.Test.YtegddebigeeeeaaCrcB
import Derived.Test.YtegddebigeeeeaaNumR
namespace Go.Proofs.Ytegddebigeeeeaa.RecC
open Go.RowKit Go.Proofs.Ytegddebigeeeeaa.Kit Go.Proofs.Ytegddebigeeeeaa.Byt Go.Proofs.Ytegddebigeeeeaa.Mem Go.Proofs.Ytegddebigeeeeaa.RecM Go.Proofs.Ytegddebigeeeeaa.RecA

/-- New memory of one's own, and all that was there. -/
def Gives (w : World) (xs : List Nat) (e : Ending) (w' : World) : Prop := ∃ B m d, e = .returned (.slice B m d) ∧ w'.ownsRow w.heap.size 5 1 (.slice B m d) m (u8n xs) ∧ Below w.heap.size w w'
theorem own_mono {w : World} {b b' : Nat} {e : TypeId} {v : Value} {n : Nat} {xs : List Value} (h : w.ownsRow b' e 1 v n xs) (hb : b ≤ b') : w.ownsRow b e 1 v n xs := by
  refine ⟨h.1, ?_⟩
  rcases h.2 with h1 | ⟨g, cap, cur, hv, hg, hrest⟩
  · exact .inl h1
  · exact .inr ⟨g, cap, cur, hv, by omega, hrest⟩
theorem set_next {xs : List Nat} {j m : Nat} (h : j < xs.length) (hm : 0 < m) : (xs.take j ++ List.replicate m 0).set j xs[j] = xs.take (j + 1) ++ List.replicate (m - 1) 0 := by
  obtain ⟨k, rfl⟩ : ∃ k, m = k + 1 := ⟨m - 1, by omega⟩
  have hl : (xs.take j).length = j := by simp; omega
  rw [List.set_append_right _ _ (by omega), hl, Nat.sub_self, List.replicate_succ, List.set_cons_zero, List.take_succ_eq_append_getElem h, List.append_assoc]
  rfl
theorem u8n_set' (xs : List Nat) (k y : Nat) : (u8n xs).set k (.int .u8 (y : Int)) = u8n (xs.set k y) := by simp [u8n, List.map_set]

set_option maxRecDepth 100000 in
set_option maxHeartbeats 1600000 in
theorem rsealed_any (A : Option Addr) (n c : Nat) (xs : List Nat) (w : World) (hR : Rd w A n c (u8n xs)) (hb : byt xs) (h60 : xs.length ≤ 60) :
    Calls Try.prog 22 #[.slice A n c] w (Gives w (shut xs)) := by
  obtain ⟨i0, hi0, hz0, hz1, hz2⟩ := info_parts NumA.info8
  have hn : xs.length = n := Rd.nats hR
  have hlt := CrcM.sm_lt xs
  have HR := Lib.hid hR
  have HS := Lib.hid (fun w' (h : Rd w' A n c (u8n xs)) => CrcB.rsum_any A n c xs w' h hb)
  have HD := Lib.hid (show shut xs = xs ++ (pbn (CrcM.sm xs : Nat) 4 ++ List.replicate (60 - xs.length) 0) from rfl)
  obtain ⟨y, hy⟩ : ∃ y, y = CrcM.sm xs := ⟨_, rfl⟩
  rw [← hy] at HS HD hlt
  clear hy hR
  go_enter Try.func22, Try.ntmps22
  go_wp2_with (at_make; refine wpList_make_room _ rfl _ _ _ rfl 5 i0 _ 1 Try.underlying25 hi0 hz0 hz1 hz2 rfl _ _ _ _ 64 64 rfl rfl (by omega) (by omega) (by omega) (by omega) (by omega) ?_; intro w1 H1 hb1 hs1)
  have B0 : Blk w1 w.heap.size 5 (u8n (xs.take 0 ++ List.replicate 64 0)) := by
    have h := H1.out
    unfold Blk
    rw [h]
    simp [u8n]
  have HB0 := Lib.hid B0
  clear H1 hs1 B0
  go_loopw [4] (fun i wr => ∃ j : Nat, j ≤ n ∧ i = .int .i64 j ∧ Hid (Blk wr w.heap.size 5 (u8n (xs.take j ++ List.replicate (64 - j) 0))) ∧ Below w.heap.size w wr)
    (fun i _ => n - (intOf i).toNat)
  case atStart => exact ⟨0, by omega, rfl, HB0, hb1⟩
  case round =>
    obtain ⟨j, hj, rfl, hB, hbl⟩ := hrel
    by_cases hjn : j < n
    · obtain ⟨bb, o, hA, hc⟩ := Rd.nat (HR.out.below hbl) (k := j) (by omega)
      subst hA
      have hlen : (xs.take j ++ List.replicate (64 - j) 0).length = 64 := by simp; omega
      have hc0 := Blk.byte hB.out (i := j) (by omega)
      have hf0 := Blk.frozen hB.out j
      have HX := Lib.hid (set_next (m := 64 - j) (show j < xs.length by omega) (by omega))
      obtain ⟨u, hu⟩ : ∃ u, u = xs[j]'(by omega) := ⟨_, rfl⟩
      rw [← hu] at hc HX
      clear hu
      go_wp2
      go_roundw
      case rel =>
        refine ⟨j + 1, by omega, by go_num, ?_, hbl.setCell (Nat.le_refl _) _⟩
        have h := Blk.set hB.out j (.int .u8 (u : Int))
        rw [u8n_set', HX.out] at h
        exact h
      case measure => simp [intOf]; omega
    · obtain rfl : j = n := by omega
      have e1 : xs.take j ++ List.replicate (64 - j) 0 = xs ++ (([] : List Nat) ++ List.replicate (64 - j) 0) := by rw [List.take_of_length_le (by omega)]; rfl
      rw [e1] at hB
      have hgl : w.heap.size < _ := Blk.lt hB.out
      clear e1 HB0 hb1
      have HB1 := Lib.hid hbl
      go_wp2_with (first
        | (go_at_call 34; refine (HS.out _ (HR.out.below HB1.out)).mono ?_; rintro e w' ⟨rfl, rfl⟩)
        | (go_at_call 32; refine (NumR.rput_any (y : Int) 4 _ (by omega)).mono ?_; rintro e w5 ⟨A5, n5, c5, hn5, rfl, hown5, hb5⟩))
      have hr5 := Rd.own hown5
      rw [← pbn_nl, ← nl_u8s] at hr5
      obtain ⟨E, hE⟩ : ∃ E, E = pbn (y : Int) 4 := ⟨_, rfl⟩
      have hel : E.length = 4 := by rw [hE, pbn_len]; rfl
      rw [← hE] at hr5 HD
      obtain rfl : 4 = n5 := by have := Rd.nats hr5; omega
      have HO5 := Lib.hid (fun b' o' (hA' : A5 = some ⟨b', o', none⟩) => (hown5.lt b' (by rw [hA']; rfl)).1)
      have HR5 := Lib.hid hr5
      have HB5 := Lib.hid (HB1.out.trans (hb5.mono HB1.out.size))
      have HK5 := Lib.hid (hB.out.below hb5)
      have hs5 := hb5.size
      clear hn5 hown5 hb5 hr5 hE hB HS
      go_loopw [6] (fun i wr2 => ∃ k : Nat, k ≤ 4 ∧ i = .int .i64 k ∧ Hid (Blk wr2 w.heap.size 5 (u8n (xs ++ (E.take k ++ List.replicate (64 - j - k) 0)))) ∧ Below w.heap.size w wr2 ∧ Hid (Rd wr2 A5 4 c5 (u8n E)))
        (fun i _ => 4 - (intOf i).toNat)
      case atStart => exact ⟨0, by omega, rfl, HK5, HB5.out, HR5⟩
      case round =>
        obtain ⟨k, hk, rfl, hB, hbl, hr⟩ := hrel
        by_cases hk4 : k < 4
        · obtain ⟨bb, o, hA, hc⟩ := Rd.nat hr.out (k := k) (by omega)
          have hgt := HO5.out bb o hA
          have HA := Lib.hid (show ∀ b' o', A5 = some ⟨b', o', none⟩ → b' = bb from fun b' o' h => by rw [hA] at h; injection h with h; injection h with h1; exact h1.symm)
          have hA' := hA
          clear HO5
          subst hA
          have hlen : (xs ++ (E.take k ++ List.replicate (64 - j - k) 0)).length = 64 := by simp; omega
          have hc0 := Blk.byte hB.out (i := j + k) (by omega)
          have hf0 := Blk.frozen hB.out (j + k)
          have ht : ((j : Int) + (k : Int)).toNat = j + k := by omega
          have hw : IntKind.i64.wrap ((j : Int) + (k : Int)) = (j : Int) + (k : Int) := by rw [IntKind.wrap_i64]; omega
          have HX := Lib.hid (set_next (m := 64 - j - k) (show k < E.length by omega) (by omega))
          obtain ⟨u, hu⟩ : ∃ u, u = E[k]'(by omega) := ⟨_, rfl⟩
          rw [← hu] at hc HX
          clear hu
          go_wp2
          go_roundw
          case rel =>
            refine ⟨k + 1, by omega, by go_num, ?_, hbl.setCell (Nat.le_refl _) _, (Keep.set (F := fun q => q = w.heap.size) _ _ _ rfl).rd hr.out (fun _ b' o' hA' hF => ?_)⟩
            · have h := Blk.set hB.out (j + k) (.int .u8 (u : Int))
              rw [u8n_set', List.set_append_right _ _ (by omega), hn, Nat.add_sub_cancel_left, HX.out] at h
              exact h
            · injection hA' with hA'
              injection hA' with hb'
              omega
          case measure => simp [intOf]; omega
        · obtain rfl : k = 4 := by omega
          go_wp2
          go_ret
          refine ⟨_, _, _, rfl, ?_, hbl⟩
          have h := own_of_block (base := w.heap.size) (n := 64) hB.out (Nat.le_refl _) (by rw [u8n_len]; simp; omega) (by rw [u8n_len]; simp; omega)
          have e2 : xs ++ (E.take 4 ++ List.replicate (64 - j - 4) 0) = shut xs := by rw [HD.out, List.take_of_length_le (by omega)]; congr 3; omega
          have e3 : (u8n (shut xs)).length = 64 := by rw [u8n_len, shut_len h60]
          rw [e2, e3, List.take_of_length_le (by rw [e3]; omega)] at h
          exact h
end Go.Proofs.Ytegddebigeeeeaa.RecC
