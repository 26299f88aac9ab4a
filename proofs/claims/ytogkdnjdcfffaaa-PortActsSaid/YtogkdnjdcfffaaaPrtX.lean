/- New and Drain by the document; its calls, whatever is asked. Conditions: tables and channels lie as the facts say; numbers of 64 bits. -/
import Derived.Test.YtogkdnjdcfffaaaPrtU
import Derived.Test.YtogkdnjdcfffaaaPrtV
import Derived.Test.YtogkdnjdcfffaaaTabG
namespace Go.Proofs.Ytogkdnjdcfffaaa.PrtX
open Go.RowKit Go.Proofs.Ytogkdnjdcfffaaa.Kit Go.Proofs.Ytogkdnjdcfffaaa.Byt Go.Proofs.Ytogkdnjdcfffaaa.Mem Go.Proofs.Ytogkdnjdcfffaaa.TabI Go.Proofs.Ytogkdnjdcfffaaa.PrtM Go.Proofs.Ytogkdnjdcfffaaa.PrtA Go.Proofs.Ytogkdnjdcfffaaa.PrtB Go.Proofs.Ytogkdnjdcfffaaa.PrtC Go.Proofs.Ytogkdnjdcfffaaa.PrtD Go.Proofs.Ytogkdnjdcfffaaa.PrtR Go.Proofs.Ytogkdnjdcfffaaa.PrtS Go.Proofs.Ytogkdnjdcfffaaa.PrtT Go.Proofs.Ytogkdnjdcfffaaa.PrtU Go.Proofs.Ytogkdnjdcfffaaa.PrtV
open Go.Proofs.Ytogkdnjdcfffaaa.TabA (Tri Tris Ta)
open Go.Proofs.Ytogkdnjdcfffaaa.TabB (Bx)
open Go.Proofs.Ytogkdnjdcfffaaa.TabE (tcells tcells_at tcells_len)

section
variable {B X gl n c : Nat} {w : World} {ρ : Nat → Lab} {A : Option Addr} {C : List Tri} {L : Nat → List Int} {r : Tri}
/-- What a list is at most. -/
def Fits (C : List Tri) (L : Nat → List Int) : Prop := ∀ (k : Nat) (r : Tri), C[k]? = some r → (0 ≤ r.c ∧ r.c ≤ 4) ∧ (L k).length ≤ 4
theorem rsend_any (h : Rf B w ρ X gl A n c C L) (hF : Fits C L) (p k y : Int) :
    Calls Try.prog 15 #[.pointer (some ⟨X, 0, none⟩), .int .i64 p, .int .i64 k, .int .i64 y] w (Rft B w ρ X gl A n c C (snds C L p k y).2 (.agg #[.int .i64 0, .bool (snds C L p k y).1.1, .int .i64 (snds C L p k y).1.2])) := by
  cases hk : sndOk C p k with
  | false =>
    rw [snds_no hk]
    refine (rsend_no h p k y hk).mono ?_
    rintro e w' ⟨rfl, hb⟩
    exact Rft.same h _ hb
  | true =>
    obtain ⟨k', r, rfl, hr, ha⟩ : ∃ (k' : Nat) (r : Tri), k = k' ∧ C[k']? = some r ∧ r.a = p := by
      unfold sndOk chan at hk
      split at hk
      · cases hk
      · rename_i r hc
        split at hc
        · rename_i h0
          exact ⟨k.toNat, r, by omega, hc, by simpa using hk⟩
        · cases hc
    by_cases hy : y < 0 ∨ 65535 < y
    · rw [snds_range hk hy]
      refine (rsend_range h hr p y ha hy).mono ?_
      rintro e w' ⟨rfl, hb⟩
      exact Rft.same h _ hb
    · rw [snds_yes hr ha (by omega) (by omega)]
      obtain ⟨f1, f2⟩ := hF k' r hr
      cases hf : full r.c (L k') with
      | true =>
        have hfu := hf
        unfold full at hfu
        simp only [decide_eq_true_eq] at hfu
        have hu : up L k' (sndL r.c (L k') y) = L := by rw [sndL, if_neg hfu.1, if_pos hf, up_self]
        refine (rsend_full h hr p y ha (by omega) (by omega) hfu.1 hfu.2).mono ?_
        rintro e w' ⟨rfl, hb⟩
        rw [hu]
        exact Rft.same h _ hb
      | false => exact rsend_yes h hr p y ha (by omega) (by omega) hf (by omega) f1.1
theorem rget_any (h : Rf B w ρ X gl A n c C L) (hF : Fits C L) (p k : Int) :
    Calls Try.prog 17 #[.pointer (some ⟨X, 0, none⟩), .int .i64 p, .int .i64 k] w (Rft B w ρ X gl A n c C (gets C L p k).2 (.agg #[.int .i64 (gets C L p k).1.1, .bool (gets C L p k).1.2.1, .int .i64 (gets C L p k).1.2.2])) := by
  cases hk : getOk C p k with
  | false =>
    rw [gets_no hk]
    refine (rget_no h p k hk).mono ?_
    rintro e w' ⟨rfl, hb⟩
    exact Rft.same h _ hb
  | true =>
    obtain ⟨k', r, rfl, hr, hb⟩ : ∃ (k' : Nat) (r : Tri), k = k' ∧ C[k']? = some r ∧ r.b = p := by
      unfold getOk chan at hk
      split at hk
      · cases hk
      · rename_i r hc
        split at hc
        · rename_i h0
          exact ⟨k.toNat, r, by omega, hc, by simpa using hk⟩
        · cases hc
    rw [gets_yes hr hb]
    cases hL : L k' with
    | nil =>
      have hu : up L k' (getL r.c []) = L := by
        have : getL r.c [] = L k' := by rw [hL]; unfold getL; split <;> rfl
        rw [this, up_self]
      refine (rget_none h hr p hb hL).mono ?_
      rintro e w' ⟨rfl, hbl⟩
      rw [hu]
      exact Rft.same h _ hbl
    | cons x l =>
      by_cases hd : r.c = 0
      · have hu : up L k' (getL r.c (x :: l)) = L := by rw [getL, if_pos hd, ← hL, up_self]
        refine (rget_keep h hr p hb hd hL).mono ?_
        rintro e w' ⟨rfl, hbl⟩
        rw [hu]
        exact Rft.same h _ hbl
      · have hu : getL r.c (x :: l) = l := by rw [getL, if_neg hd]; rfl
        rw [hu]
        exact rget_cut h hr p hb (by have := (hF k' r hr).1.1; omega) hL
theorem fits_chs {S : Nat} {Q : Nat → Nat} (h : Chs B w ρ S A n c Q C L) : Fits C L := fun k r hr => by
  have h4 := (h.ok r (List.mem_of_getElem? hr)).2
  refine ⟨h4, ?_⟩
  rcases (h.head k r hr).2 with ⟨h0, x, b, h1, h2, h3⟩ | ⟨h0, A1, n1, c1, h1, h2, h3, _⟩
  · cases b with
    | true => rw [h2 rfl]; simp
    | false => rw [(h3 rfl).1]; simp
  · have := own_len h2
    omega
set_option maxRecDepth 100000 in
set_option maxHeartbeats 1600000 in
theorem rdrain_any (h : Rf B w ρ X gl A n c C L) (p : Int) :
    Calls Try.prog 19 #[.pointer (some ⟨X, 0, none⟩), .int .i64 p] w (Rft B w ρ X gl A n c C (drn C p n L) (.tuple #[])) := by
  have hn64 : n ≤ 9223372036854775807 := by have := h.most; omega
  have H := Lib.hid h
  clear h
  go_enter Try.func19, Try.ntmps19
  go_wp2_with fail
  go_loopw [4] (fun i wr => ∃ (k : Nat) (ρ1 : Nat → Lab), k ≤ n ∧ i = .int .i64 k ∧ Hid (Rf B wr ρ1 X gl A n c C (drn C p k L)) ∧ Hid (Stp Ref w ρ wr ρ1)) (fun i _ => n - (intOf i).toNat)
  case atStart => exact ⟨0, ρ, Nat.zero_le _, rfl, Lib.hid (by rw [drn_zero]; exact H.out), Lib.hid (Stp.refl _ H.out.bd)⟩
  case round =>
    obtain ⟨k, ρ1, hk, rfl, H1, HS⟩ := hrel
    have x0 := H1.out.x.cell (i := 0) rfl
    have x1 := H1.out.x.cell (i := 1) rfl
    by_cases hlt : k < n
    · obtain ⟨r, b, o, A1, m, c1, hr, hok, rfl, hbl, k0, k1, k2, g0, hRd, hdat⟩ := H1.out.at_ hlt
      obtain ⟨V, hV, hVl, hVr⟩ := H1.out.rows
      have f0 := hV.frozen k
      have HV := Lib.hid hV
      have HVL := Lib.hid hVl
      obtain ⟨y, hy⟩ : ∃ y, y = r.b := ⟨_, rfl⟩
      rw [← hy] at k1
      by_cases hp : r.b = p
      · have HD := Lib.hid (drn_yes (L := L) hr hp)
        obtain rfl : y = p := hy.trans hp
        have HB := Lib.hid hy
        clear hy hp hr hok hRd hdat hVr hV hVl k0 k2
        go_wp2_with fail
        have h5 := H1.out.turn (k := k) (l := []) (ρ' := ρ1) HV.out HVL.out (Keep.set (F := fun i => i = gl) wr k (.slice none 0 0) rfl) (fun _ _ => rfl) (fun i hi => .inl (Classical.byContradiction fun hn => by have := (H1.out.bd i hn).2; omega)) (HV.out.set k _) (by rw [List.length_set]; exact HVL.out) (fun j hj => by rw [List.getElem?_set, if_neg (fun e => hj e.symm)]) (fun v hv => by
          rw [List.getElem?_set, if_pos rfl, if_pos (by rw [HVL.out]; exact hlt)] at hv
          injection hv with hv
          subst hv
          exact ⟨none, 0, 0, rfl, Rd.nil _, fun hp => absurd hp (by omega)⟩)
        have G1 := Lib.hid h5.1
        have G2 := Lib.hid (HS.out.trans h5.2)
        clear h5
        go_roundw
        case rel => exact ⟨k + 1, ρ1, by omega, by go_num, Lib.hid (by rw [HD.out]; exact G1.out), G2⟩
        case measure => simp [intOf]; omega
      · have HD := Lib.hid (drn_no (L := L) hr hp)
        have hp2 : ¬ y = p := fun e => hp (hy.symm.trans e)
        clear hy hp hr hok hRd hdat hVr hV hVl k0 k2
        go_wp2_with fail
        go_roundw
        case rel => exact ⟨k + 1, ρ1, by omega, by go_num, Lib.hid (by rw [HD.out]; exact H1.out), HS⟩
        case measure => simp [intOf]; omega
    · obtain rfl : k = n := by omega
      go_wp2
      go_end0
      exact ⟨rfl, ρ1, H1.out, HS.out⟩
end
end Go.Proofs.Ytogkdnjdcfffaaa.PrtX
