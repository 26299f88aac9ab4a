/- Texts of instructions in plain terms: what a text is parsed to. No conditions but those each law names. -/
import Derived.Test.YtklpkafgmggacaaDoorOpsU
import Derived.Lib.CutLaws
import Derived.Lib.IndexMore
import Derived.Lib.AtoiAll
import Derived.Lib.ItoaNum
import Derived.Lib.Strings
namespace Go.Proofs.YtklpkafgmggacaaDoor.OpsV
open Go.Proofs.YtklpkafgmggacaaDoor.OpsM Go.Proofs.YtklpkafgmggacaaDoor.OpsT

/-! ### a text is cut at the first space -/
theorem index_no (n : List UInt8) (h : (32 : UInt8) ∉ n) : Lib.index n [32] = -1 := by
  induction n with
  | nil => rfl
  | cons b l ih =>
    have hb : (32 : UInt8) ≠ b := fun e => h (by rw [e]; exact List.mem_cons_self ..)
    have hl : (32 : UInt8) ∉ l := fun e => h (List.mem_cons_of_mem _ e)
    have hp : List.isPrefixOf [(32 : UInt8)] (b :: l) = false := by
      rw [show List.isPrefixOf [(32 : UInt8)] (b :: l) = ((32 : UInt8) == b && true) from by cases l <;> rfl, beq_eq_false_iff_ne.2 hb]
      rfl
    unfold Lib.index
    rw [hp, ih hl]
    rfl
theorem index_at (n d : List UInt8) (h : (32 : UInt8) ∉ n) : Lib.index (n ++ 32 :: d) [32] = n.length := by
  induction n with
  | nil =>
    have hp : List.isPrefixOf [(32 : UInt8)] (32 :: d) = true := by cases d <;> rfl
    show Lib.index (32 :: d) [32] = _
    unfold Lib.index
    rw [hp]
    rfl
  | cons b l ih =>
    have hb : (32 : UInt8) ≠ b := fun e => h (by rw [e]; exact List.mem_cons_self ..)
    have hl : (32 : UInt8) ∉ l := fun e => h (List.mem_cons_of_mem _ e)
    have hp : List.isPrefixOf [(32 : UInt8)] (b :: (l ++ 32 :: d)) = false := by
      rw [show List.isPrefixOf [(32 : UInt8)] (b :: (l ++ 32 :: d)) = ((32 : UInt8) == b && true) from by cases l <;> rfl, beq_eq_false_iff_ne.2 hb]
      rfl
    show Lib.index (b :: (l ++ 32 :: d)) [32] = _
    unfold Lib.index
    rw [hp, ih hl]
    have : ((l.length : Int) == -1) = false := by rw [beq_eq_false_iff_ne]; omega
    simp [this]
theorem cut_no (n : List UInt8) (h : (32 : UInt8) ∉ n) : Lib.cut n [32] = (n, [], false) := by
  unfold Lib.cut
  rw [index_no n h]
  rfl
theorem cut_at (n d : List UInt8) (h : (32 : UInt8) ∉ n) : Lib.cut (n ++ 32 :: d) [32] = (n, d, true) := by
  unfold Lib.cut
  rw [index_at n d h, if_pos (by omega), Int.toNat_natCast, List.take_left]
  show (n, (n ++ 32 :: d).drop (n.length + 1), true) = _
  rw [List.drop_append, List.drop_eq_nil_of_le (by omega), show n.length + 1 - n.length = 1 from by omega]
  rfl

/-! ### names, digits -/
def lst (s : ByteArray) : List UInt8 := s.data.toList
theorem lst_app (a b : ByteArray) : lst (a ++ b) = lst a ++ lst b := by unfold lst; rw [ByteArray.data_append]; simp
theorem lst_inj {a b : ByteArray} (h : lst a = lst b) : a = b := by
  obtain ⟨a⟩ := a
  obtain ⟨b⟩ := b
  have h1 : a = b := Array.toList_inj.1 h
  rw [h1]
/-- Two strings held against each other. -/
theorem seq_str (a b : ByteArray) : (a.toList == b.toList) = decide (a = b) := by
  rw [Bool.eq_iff_iff, beq_iff_eq, decide_eq_true_iff]
  constructor
  · intro h
    rw [Lib.toList_data, Lib.toList_data] at h
    exact lst_inj h
  · rintro rfl
    rfl
theorem ba_of (s : ByteArray) : (⟨(lst s).toArray⟩ : ByteArray) = s := by unfold lst; simp
theorem nm_spc : ∀ k, k < 19 → (32 : UInt8) ∉ lst (nmk k) := by decide
/-- The instruction of that name. -/
def nid (s : ByteArray) : Int := match nm.findIdx? (fun n => decide (n = s)) with | some k => k | none => -1
theorem nid_nm : ∀ k, k < 19 → nid (nmk k) = k := by decide
theorem nid_b (s : ByteArray) : -1 ≤ nid s ∧ nid s ≤ 18 := by
  unfold nid
  split
  · rename_i k h
    have := (List.findIdx?_eq_some_iff_getElem.1 h).1
    have h19 : nm.length = 19 := rfl
    omega
  · omega
/-- The number that a text's digits tell. -/
def num (l : List UInt8) : Int := match Lib.atoiAll l with | .ok v => v | .range => Lib.atoiSat l | _ => 0
theorem num_dec : ∀ a, a < 256 → num (lst (dec a)) = a := by decide +kernel
theorem num_nil : num [] = 0 := rfl
theorem itoa_dec (a : Nat) (h : a < 256) : (⟨(Lib.itoa (a : Int)).toArray⟩ : ByteArray) = dec a := by
  have e : Lib.itoa (a : Int) = lst (dec a) := by
    unfold Lib.itoa
    rw [if_neg (by omega), Int.toNat_natCast]
    unfold dec
    by_cases h1 : a < 10
    · rw [if_pos h1, Lib.decDigits, dif_pos h1]
      rfl
    · rw [if_neg h1, Lib.decDigits, dif_neg h1]
      by_cases h2 : a < 100
      · rw [if_pos h2, Lib.decDigits, dif_pos (by omega), lst_app]
        rfl
      · rw [if_neg h2, Lib.decDigits, dif_neg (by omega), Lib.decDigits, dif_pos (by omega), lst_app, lst_app, Nat.div_div_eq_div_mul]
        show ([UInt8.ofNat (48 + a / (10 * 10))] ++ _) ++ _ = _
        rw [List.append_assoc]
        rfl
  rw [e, ba_of]
theorem nid_inj {s : ByteArray} {k : Nat} (h : nid s = k) : k < 19 ∧ s = nmk k := by
  unfold nid at h
  split at h
  · rename_i j hj
    obtain ⟨h1, h2, _⟩ := List.findIdx?_eq_some_iff_getElem.1 hj
    have h19 : nm.length = 19 := rfl
    obtain rfl : j = k := by omega
    refine ⟨by omega, ?_⟩
    have := of_decide_eq_true h2
    rw [← this, nmk, List.getD_eq_getElem?_getD, List.getElem?_eq_getElem h1]
    rfl
  · omega

/-! ### parsing -/
/-- What a text tells, taken apart. -/
def pI (t : ByteArray) : Int × Int := (nid ⟨(Lib.cut (lst t) [32]).1.toArray⟩, num (Lib.cut (lst t) [32]).2.1)
theorem lst_mk (l : List UInt8) : lst ⟨l.toArray⟩ = l := by simp [lst]
/-- A right instruction's text tells that very one. -/
theorem pI_txt {k a : Nat} (hk : k < 19) (ha : a < 256) (h : ok k a = true) : pI (txt k a) = ((k : Int), (a : Int)) := by
  obtain ⟨_, _, _, _, h5⟩ := ok_iff.1 h
  unfold pI txt
  have e32 : lst (⟨#[32]⟩ : ByteArray) = [32] := rfl
  cases hh : hasA k
  · rw [if_neg (by simp), cut_no _ (nm_spc k hk)]
    rw [hh] at h5
    have ha0 : a = 0 := by
      rcases h5 with h5 | h5
      · cases h5
      · omega
    subst ha0
    show (nid ⟨(lst (nmk k)).toArray⟩, num []) = _
    rw [ba_of, nid_nm k hk]
    rfl
  · rw [if_pos rfl, lst_app, lst_app, e32, List.append_assoc]
    show (nid ⟨(Lib.cut (lst (nmk k) ++ 32 :: lst (dec a)) [32]).1.toArray⟩, num (Lib.cut (lst (nmk k) ++ 32 :: lst (dec a)) [32]).2.1) = _
    rw [cut_at _ _ (nm_spc k hk)]
    show (nid ⟨(lst (nmk k)).toArray⟩, num (lst (dec a))) = _
    rw [ba_of, nid_nm k hk, num_dec a ha]
/-- The text of an instruction that is right, as the numbers stand. -/
def txI (o a : Int) : ByteArray := txt o.toNat a.toNat
/-- What is parsed. -/
def prs (t : ByteArray) : Option (Int × Int) := if ok (pI t).1 (pI t).2 = true ∧ txI (pI t).1 (pI t).2 = t then some (pI t) else none
theorem prs_txt {o a : Int} (h : ok o a = true) : prs (txI o a) = some (o, a) := by
  obtain ⟨h1, h2, h3, h4, _⟩ := ok_iff.1 h
  obtain ⟨k, rfl⟩ : ∃ k : Nat, o = k := ⟨o.toNat, by omega⟩
  obtain ⟨b, rfl⟩ : ∃ b : Nat, a = b := ⟨a.toNat, by omega⟩
  have e : txI (k : Int) (b : Int) = txt k b := by unfold txI; rw [Int.toNat_natCast, Int.toNat_natCast]
  unfold prs
  rw [e, pI_txt (by omega) (by omega) h, if_pos ⟨h, e⟩]
theorem prs_some {t : ByteArray} {o a : Int} (h : prs t = some (o, a)) : ok o a = true ∧ txI o a = t := by
  unfold prs at h
  split at h
  · rename_i g
    injection h with h
    rw [h] at g
    exact g
  · cases h
theorem prs_none {t : ByteArray} (h : prs t = none) (o a : Int) (hr : ok o a = true) : txI o a ≠ t := by
  rintro rfl
  rw [prs_txt hr] at h
  cases h
theorem txI_nat (k a : Nat) : txI (k : Int) (a : Int) = txt k a := by unfold txI; rw [Int.toNat_natCast, Int.toNat_natCast]
theorem txt_size {k a : Nat} (hk : k < 19) : (txt k a).size ≤ 12 := by
  have h1 := OpsU.nmk_size k hk
  have h2 := OpsU.dec_size a
  unfold txt
  split
  · rw [ByteArray.size_append, ByteArray.size_append]
    show _ + 1 + _ ≤ 12
    omega
  · omega
end Go.Proofs.YtklpkafgmggacaaDoor.OpsV
