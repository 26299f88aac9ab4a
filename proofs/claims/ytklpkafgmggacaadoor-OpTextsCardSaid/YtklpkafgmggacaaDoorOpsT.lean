/- The reference's texts of instructions: the digits of a number, the names. No conditions but those each law names. -/
import Derived.Test.YtklpkafgmggacaaDoorOpsA
namespace Go.Proofs.YtklpkafgmggacaaDoor.OpsT
open Go.RowKit Go.Proofs.YtklpkafgmggacaaDoor.Kit Go.Proofs.YtklpkafgmggacaaDoor.Byt Go.Proofs.YtklpkafgmggacaaDoor.Mem Go.Proofs.YtklpkafgmggacaaDoor.OpsM Go.Proofs.YtklpkafgmggacaaDoor.OpsA

/-- A digit; the digits of a number below a thousand. -/
def dig (n : Nat) : ByteArray := ⟨#[(48 + n).toUInt8]⟩
def dec (n : Nat) : ByteArray := if n < 10 then dig n else if n < 100 then dig (n / 10) ++ dig (n % 10) else dig (n / 100) ++ (dig (n / 10 % 10) ++ dig (n % 10))
theorem dig_of (n : Nat) (h : n < 10) : (⟨#[48, 49, 50, 51, 52, 53, 54, 55, 56, 57]⟩ : ByteArray).extract n (n + 1) = dig n := by
  match n, h with
  | 0, _ | 1, _ | 2, _ | 3, _ | 4, _ | 5, _ | 6, _ | 7, _ | 8, _ | 9, _ => rfl
set_option maxRecDepth 100000 in
set_option maxHeartbeats 1600000 in
theorem rdec_any (n : Nat) (h : n < 256) (w : World) : Calls Tryd.prog 17 #[.int .i64 n] w fun e w' => e = .returned (.string (dec n)) ∧ w = w' := by
  by_cases h1 : n < 10
  · have h1' : ¬ (10 : Int) ≤ (n : Int) := by omega
    have h2' : ¬ (100 : Int) ≤ (n : Int) := by omega
    have hm : (n : Int) % 10 = (n : Int) := by omega
    go_enter Tryd.func17, Tryd.ntmps17
    go_wp2
    go_ret
    exact ⟨by rw [dig_of n h1, dec, if_pos h1]; rfl, rfl⟩
  · obtain ⟨r, hr⟩ : ∃ r, r = n % 10 := ⟨_, rfl⟩
    obtain ⟨q, hq⟩ : ∃ q, q = n / 10 % 10 := ⟨_, rfl⟩
    have r1 : (n : Int) % 10 = (r : Int) := by omega
    have r2 : (n : Int) / 10 % 10 = (q : Int) := by omega
    have hr9 : r < 10 := by omega
    have hq9 : q < 10 := by omega
    have h1' : (10 : Int) ≤ (n : Int) := by omega
    have e1 : Int.tdiv (n : Int) 10 = ((n / 10 : Nat) : Int) := by rw [Int.tdiv_eq_ediv_of_nonneg (by omega)]; omega
    have e2 : Int.tmod (n : Int) 10 = (r : Int) := by rw [Int.tmod_eq_emod_of_nonneg (by omega)]; omega
    have e3 : Int.tmod ((n / 10 : Nat) : Int) 10 = (q : Int) := by rw [Int.tmod_eq_emod_of_nonneg (by omega)]; omega
    have e4 : Int.tdiv (n : Int) 100 = ((n / 100 : Nat) : Int) := by rw [Int.tdiv_eq_ediv_of_nonneg (by omega)]; omega
    by_cases h2 : n < 100
    · have h2' : ¬ (100 : Int) ≤ (n : Int) := by omega
      have HE := Lib.hid (show dig q ++ dig r = dec n from by rw [dec, if_neg h1, if_pos h2, hr, hq, Nat.mod_eq_of_lt (show n / 10 < 10 from by omega)])
      have D1 := Lib.hid (dig_of r hr9)
      have D2 := Lib.hid (dig_of q hq9)
      clear hr hq
      go_enter Tryd.func17, Tryd.ntmps17
      go_wp2
      go_ret
      exact ⟨by rw [D1.out, D2.out, HE.out]; rfl, rfl⟩
    · obtain ⟨p, hp⟩ : ∃ p, p = n / 100 := ⟨_, rfl⟩
      have r3 : (n : Int) / 100 = (p : Int) := by omega
      rw [← hp] at e4
      have hp9 : p < 10 := by omega
      have h2' : (100 : Int) ≤ (n : Int) := by omega
      have HE := Lib.hid (show dig p ++ (dig q ++ dig r) = dec n from by rw [dec, if_neg h1, if_neg h2, hr, hq, hp])
      have D1 := Lib.hid (dig_of r hr9)
      have D2 := Lib.hid (dig_of q hq9)
      have D3 := Lib.hid (dig_of p hp9)
      clear hr hq hp
      go_enter Tryd.func17, Tryd.ntmps17
      go_wp2
      go_ret
      exact ⟨by rw [D1.out, D2.out, D3.out, HE.out]; rfl, rfl⟩
def nm1 : List ByteArray := [⟨#[121, 105, 101, 108, 100]⟩, ⟨#[112, 117, 115, 104]⟩, ⟨#[100, 114, 111, 112]⟩, ⟨#[100, 117, 112]⟩, ⟨#[115, 119, 97, 112]⟩, ⟨#[97, 100, 100]⟩, ⟨#[115, 117, 98]⟩, ⟨#[109, 117, 108]⟩, ⟨#[108, 101, 115, 115]⟩, ⟨#[115, 97, 109, 101]⟩]
def nm2 : List ByteArray := [⟨#[108, 111, 97, 100]⟩, ⟨#[115, 116, 111, 114, 101]⟩, ⟨#[106, 117, 109, 112]⟩, ⟨#[122, 101, 114, 111]⟩, ⟨#[115, 101, 110, 100]⟩, ⟨#[103, 101, 116]⟩, ⟨#[99, 111, 110, 102, 105, 114, 109]⟩, ⟨#[104, 97, 108, 116]⟩, ⟨#[110, 111, 119]⟩]
def nm : List ByteArray := nm1 ++ nm2
def strs (l : List ByteArray) : List Value := l.map Value.string
theorem strs_one (l : List ByteArray) : ∀ u ∈ strs l, u.oneCell' = true := by
  intro u hu
  simp only [strs, List.mem_map] at hu
  obtain ⟨s, _, rfl⟩ := hu
  rfl
theorem info_str : (Tryd.prog.info? 9).map (fun i => (i.zero, i.size, i.bytes)) = some (some (.string ⟨#[]⟩), 1, 16) := by kernel_rfl
set_option maxRecDepth 100000 in
set_option maxHeartbeats 1600000 in
theorem rnames_any (w : World) : Calls Tryd.prog 16 #[] w fun e w' => ∃ A c, e = .returned (.slice A 19 c) ∧ Rd w' A 19 c (strs nm) ∧ Below w.heap.size w w' := by
  obtain ⟨i0, hi0, hz0, hz1, hz2⟩ := info_parts info_str
  have K1 : Hid (∀ w' : World, Rd (w'.alloc (.cells (strs nm1).toArray 9)) (some ⟨w'.heap.size, 0, none⟩) 10 10 (strs nm1)) := Lib.hid (fun w' : World => Rd.own (own_of_block (w := w'.alloc (.cells (strs nm1).toArray 9)) (g := w'.heap.size) (cur := strs nm1) (e := 9) (base := 0) (n := 10) (heap_alloc_new _ _) (Nat.zero_le _) (by simp [strs, nm1]) (by simp [strs, nm1])))
  have K2 : Hid (∀ w' : World, Rd (w'.alloc (.cells (strs nm2).toArray 9)) (some ⟨w'.heap.size, 0, none⟩) 9 9 (strs nm2)) := Lib.hid (fun w' : World => Rd.own (own_of_block (w := w'.alloc (.cells (strs nm2).toArray 9)) (g := w'.heap.size) (cur := strs nm2) (e := 9) (base := 0) (n := 9) (heap_alloc_new _ _) (Nat.zero_le _) (by simp [strs, nm2]) (by simp [strs, nm2])))
  go_enter Tryd.func16, Tryd.ntmps16
  go_upto_region 3 with (at_builtin; refine wpList_add _ rfl (.tmp 2) (.tmp 3) _ rfl w.heap.size 9 i0 _ 16 Tryd.underlying43 hi0 hz0 hz1 hz2 rfl (.slice none 0 0) 0 [] rfl ⟨rfl, .inl ⟨rfl, rfl⟩⟩ (some ⟨w.heap.size, 0, none⟩) 10 10 (strs nm1) rfl (K1.out w) (strs_one _) (by omega) (by omega) (by simp) ?_; intro A1 n1 c1 w1 hn1 hown1 hg1 hat1; have hb1 := below_add (w0 := w) ((Below.refl w.heap.size w).alloc (Nat.le_refl _) (.cells (strs nm1).toArray 9)) (base := w.heap.size) (e := 9) (n := 0) (xs := []) ⟨rfl, .inl ⟨rfl, rfl⟩⟩ (Nat.le_refl _) hg1; have HB1 := Lib.hid hb1; clear hat1 hg1 hb1)
  go_wp2_with (at_builtin; refine wpList_add _ rfl (.tmp 5) (.tmp 6) _ rfl w.heap.size 9 i0 _ 16 Tryd.underlying43 hi0 hz0 hz1 hz2 rfl _ n1 _ rfl (own_below hown1 ((Below.refl _ _).alloc (Nat.le_refl _) _)) (some ⟨w1.heap.size, 0, none⟩) 9 9 (strs nm2) rfl (K2.out w1) (strs_one _) (by have := hn1.out; omega) (by have := hn1.out; omega) (by have := HB1.out.size; simp; omega) ?_; intro A2 n2 c2 w2 hn2 hown2 hg2 hat2; have hb2 := below_add (w0 := w) (HB1.out.alloc HB1.out.size _) (own_below hown1 ((Below.refl _ _).alloc (Nat.le_refl _) _)) (Nat.le_refl _) hg2; clear hat2 hg2)
  go_ret
  have h19 : n2 = 19 := by have := hn1.out; have := hn2.out; omega
  subst h19
  exact ⟨A2, c2, rfl, Rd.own hown2, hb2⟩
/-- The text of a right instruction. -/
def nmk (k : Nat) : ByteArray := nm.getD k ⟨#[]⟩
def txt (k a : Nat) : ByteArray := if hasA k then nmk k ++ ⟨#[32]⟩ ++ dec a else nmk k
theorem nm_at {w : World} {A : Option Addr} {c : Nat} (h : Rd w A 19 c (strs nm)) {k : Nat} (hk : k < 19) : ∃ b o, A = some ⟨b, o, none⟩ ∧ w.cell? ⟨b, o + k, none⟩ = some (.string (nmk k)) := by
  obtain ⟨b, o, hA, hc⟩ := Rd.at_ h hk
  refine ⟨b, o, hA, hc.trans ?_⟩
  have hl : k < nm.length := by simpa [nm, nm1, nm2] using hk
  simp [strs, nmk, List.getD_eq_getElem?_getD, hl]
end Go.Proofs.YtklpkafgmggacaaDoor.OpsT
