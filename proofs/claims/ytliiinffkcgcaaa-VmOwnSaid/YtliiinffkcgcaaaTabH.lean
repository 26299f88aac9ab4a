/- What a partition reaches, in plain terms: paths, and an array of truths that grows. No conditions but those each law names. -/
import Derived.Test.YtliiinffkcgcaaaTabE0
namespace Go.Proofs.Ytliiinffkcgcaaa.TabH
open Go.RowKit Go.Proofs.Ytliiinffkcgcaaa.Kit Go.Proofs.Ytliiinffkcgcaaa.Byt Go.Proofs.Ytliiinffkcgcaaa.Mem Go.Proofs.Ytliiinffkcgcaaa.TabA Go.Proofs.Ytliiinffkcgcaaa.TabB Go.Proofs.Ytliiinffkcgcaaa.TabC Go.Proofs.Ytliiinffkcgcaaa.TabD Go.Proofs.Ytliiinffkcgcaaa.TabE

/-- A path: channels, each from where the one ahead leads. -/
inductive Conn (C : List Tri) (a : Int) : Int → Prop
  | here : Conn C a a
  | on {b : Int} {r : Tri} (h : Conn C a b) (hr : r ∈ C) (ha : r.a = b) : Conn C a r.b
theorem Conn.trans {C : List Tri} {a b c : Int} (h : Conn C a b) (k : Conn C b c) : Conn C a c := by
  induction k with
  | here => exact h
  | on _ hr ha ih => exact .on ih hr ha
theorem Conn.mono {C D : List Tri} {a b : Int} (h : Conn C a b) (hs : ∀ r ∈ C, r ∈ D) : Conn D a b := by
  induction h with
  | here => exact .here
  | on _ hr ha ih => exact .on ih (hs _ hr) ha

def bs (S : List Bool) : List Value := S.map Value.bool
theorem bs_len (S : List Bool) : (bs S).length = S.length := List.length_map ..
theorem bs_at {S : List Bool} {k : Nat} (h : k < S.length) : (bs S)[k]? = some (.bool (S.getD k false)) := by
  simp [bs, List.getElem?_map, List.getElem?_eq_getElem h]
theorem bs_set (S : List Bool) (k : Nat) (v : Bool) : (bs S).set k (.bool v) = bs (S.set k v) := by simp [bs, List.map_set]
def upd (S : List Bool) (r : Tri) : List Bool := S.set r.b.toNat (S.getD r.b.toNat false || S.getD r.a.toNat false)
theorem upd_len (S : List Bool) (r : Tri) : (upd S r).length = S.length := by simp [upd]
theorem upd_at (S : List Bool) (r : Tri) (p : Nat) (h : r.b.toNat < S.length) : (upd S r).getD p false = if p = r.b.toNat then S.getD p false || S.getD r.a.toNat false else S.getD p false := by
  unfold upd
  rw [List.getD_eq_getElem?_getD, List.getElem?_set]
  by_cases hp : p = r.b.toNat
  · subst hp
    rw [if_pos rfl, if_pos h, if_pos rfl]
    rfl
  · rw [if_neg (fun e => hp e.symm), if_neg hp, List.getD_eq_getElem?_getD]
def pass (S : List Bool) (R : List Tri) : List Bool := R.foldl upd S
theorem pass_nil (S : List Bool) : pass S [] = S := rfl
theorem pass_cons (S : List Bool) (r : Tri) (R : List Tri) : pass S (r :: R) = pass (upd S r) R := rfl
theorem pass_snoc {S : List Bool} {R : List Tri} {k : Nat} {r : Tri} (h : R[k]? = some r) : pass S (R.take (k + 1)) = upd (pass S (R.take k)) r := by
  obtain ⟨hk, rfl⟩ := List.getElem?_eq_some_iff.1 h
  rw [List.take_succ_eq_append_getElem hk, pass, List.foldl_append]
  rfl
theorem pass_len (S : List Bool) : ∀ R : List Tri, (pass S R).length = S.length
  | [] => rfl
  | r :: R => by rw [pass_cons, pass_len (upd S r) R, upd_len]
def le (S T : List Bool) : Prop := ∀ p, S.getD p false = true → T.getD p false = true
def In (m : Nat) (C : List Tri) : Prop := ∀ r ∈ C, (0 ≤ r.a ∧ r.a < (m : Int)) ∧ (0 ≤ r.b ∧ r.b < (m : Int))
theorem upd_le {S : List Bool} {r : Tri} (h : r.b.toNat < S.length) : le S (upd S r) := fun p hp => by
  rw [upd_at S r p h]
  split
  · rw [hp]; rfl
  · exact hp
theorem pass_le : ∀ (R : List Tri) (S : List Bool), (∀ r ∈ R, r.b.toNat < S.length) → le S (pass S R)
  | [], _, _ => fun _ h => h
  | r :: R, S, h => fun p hp => by
    rw [pass_cons]
    exact pass_le R (upd S r) (fun r' hr' => by rw [upd_len]; exact h r' (by simp [hr'])) p (upd_le (h r (by simp)) p hp)
theorem le_both {S T : List Bool} (hl : S.length = T.length) (h1 : le S T) (h2 : le T S) : S = T := by
  refine List.ext_getElem hl fun i hi hj => ?_
  have a := h1 i
  have b := h2 i
  have eS : S.getD i false = S[i] := by rw [List.getD_eq_getElem?_getD, List.getElem?_eq_getElem hi]; rfl
  have eT : T.getD i false = T[i] := by rw [List.getD_eq_getElem?_getD, List.getElem?_eq_getElem hj]; rfl
  rw [eS, eT] at a b
  cases hs : S[i] <;> cases ht : T[i] <;> simp_all
/-- A pass that changes nothing leaves what is closed. -/
theorem closed : ∀ (R : List Tri) (S : List Bool), (∀ r ∈ R, r.b.toNat < S.length) → pass S R = S → ∀ r ∈ R, S.getD r.a.toNat false = true → S.getD r.b.toNat false = true
  | [], _, _, _ => fun r hr => by cases hr
  | r :: R, S, h, he => fun r' hr' ha => by
    rw [pass_cons] at he
    have h1 := upd_le (S := S) (r := r) (h r (by simp))
    have h2 := pass_le R (upd S r) (fun r' hr' => by rw [upd_len]; exact h r' (by simp [hr']))
    rw [he] at h2
    have hu : upd S r = S := le_both (upd_len S r) h2 h1
    rw [hu] at he
    rcases List.mem_cons.1 hr' with rfl | hr'
    · have := upd_at S r' r'.b.toNat (h r' (by simp))
      rw [hu, if_pos rfl, ha] at this
      simpa using this
    · exact closed R S (fun r' hr' => h r' (by simp [hr'])) he r' hr' ha
/-- What is in the array has a path. -/
def Sound (C : List Tri) (a : Int) (S : List Bool) : Prop := ∀ p : Nat, S.getD p false = true → Conn C a p
theorem Sound.upd {C : List Tri} {a : Int} {S : List Bool} {r : Tri} (h : Sound C a S) (hr : r ∈ C) (ha : 0 ≤ r.a) (hb : 0 ≤ r.b) (hl : r.b.toNat < S.length) : Sound C a (upd S r) := fun p hp => by
  rw [upd_at S r p hl] at hp
  split at hp
  · rename_i hpb
    rcases Bool.or_eq_true_iff.1 hp with h1 | h1
    · exact h p h1
    · have h2 := h _ h1
      rw [Int.toNat_of_nonneg ha] at h2
      have h3 := Conn.on h2 hr rfl
      rw [hpb, Int.toNat_of_nonneg hb]
      exact h3
  · exact h p hp
theorem sound_closed {C : List Tri} {a : Nat} {S : List Bool} (hs : Sound C a S) (h0 : S.getD a false = true) (hin : ∀ r ∈ C, 0 ≤ r.a ∧ 0 ≤ r.b) (hc : ∀ r ∈ C, S.getD r.a.toNat false = true → S.getD r.b.toNat false = true) (p : Nat) : S.getD p false = true ↔ Conn C a p := by
  refine ⟨hs p, fun h => ?_⟩
  have key : ∀ x : Int, Conn C a x → 0 ≤ x ∧ S.getD x.toNat false = true := by
    intro x hx
    induction hx with
    | here => exact ⟨by omega, by simpa using h0⟩
    | on _ hr ha ih => exact ⟨(hin _ hr).2, hc _ hr (by rw [ha]; exact ih.2)⟩
  simpa using (key p h).2
def zeroB : List Bool := [false, false, false, false]
theorem zero_sound (C : List Tri) (a : Nat) (_ha : a < 4) : Sound C a (zeroB.set a true) := fun p hp => by
  rw [List.getD_eq_getElem?_getD, List.getElem?_set] at hp
  by_cases h : a = p
  · subst h; exact .here
  · rw [if_neg h] at hp
    have : zeroB[p]?.getD false = false := by
      match p with
      | 0 => rfl
      | 1 => rfl
      | 2 => rfl
      | 3 => rfl
      | p + 4 => rfl
    rw [this] at hp
    cases hp
/-- The partitions that are true, rising. -/
def lst (S : List Bool) (k : Nat) : List Int := ((List.range k).filter fun p => S.getD p false).map fun p : Nat => (p : Int)
theorem lst_next (S : List Bool) (k : Nat) : lst S (k + 1) = if S.getD k false = true then lst S k ++ [(k : Int)] else lst S k := by
  unfold lst
  rw [List.range_succ, List.filter_append, List.map_append]
  by_cases h : S.getD k false = true
  · rw [if_pos h]; simp only [List.filter_cons, h, if_true, List.filter_nil, List.map_cons, List.map_nil]
  · rw [if_neg h]; simp only [List.filter_cons, h, List.filter_nil]; simp
theorem lst_len (S : List Bool) : ∀ k, (lst S k).length ≤ k
  | 0 => by simp [lst]
  | k + 1 => by
    have := lst_len S k
    rw [lst_next]
    split
    · simp; omega
    · omega
theorem mem_lst {S : List Bool} {k : Nat} {x : Int} : x ∈ lst S k ↔ ∃ p : Nat, p < k ∧ x = p ∧ S.getD p false = true := by
  simp only [lst, List.mem_map, List.mem_filter, List.mem_range]
  exact ⟨fun ⟨p, ⟨h1, h2⟩, h3⟩ => ⟨p, h1, h3.symm, h2⟩, fun ⟨p, h1, h3, h2⟩ => ⟨p, ⟨h1, h2⟩, h3.symm⟩⟩
theorem lst_congr {S T : List Bool} : ∀ k, (∀ p, p < k → (S.getD p false = true ↔ T.getD p false = true)) → lst S k = lst T k
  | 0, _ => rfl
  | k + 1, h => by
    rw [lst_next, lst_next, lst_congr k (fun p hp => h p (by omega))]
    have := h k (by omega)
    by_cases h1 : S.getD k false = true
    · rw [if_pos h1, if_pos (this.1 h1)]
    · rw [if_neg h1, if_neg (fun h2 => h1 (this.2 h2))]
/-- How many are false still, by the memory. -/
def bitAt (w : World) (g k : Nat) : Nat := match w.cell? ⟨g, k, none⟩ with
  | some (.bool true) => 0
  | _ => 1
def falses (w : World) (g : Nat) : Nat := bitAt w g 0 + bitAt w g 1 + bitAt w g 2 + bitAt w g 3
def meas (w : World) (g5 g6 : Nat) : Nat := 2 * falses w g6 + (if bitAt w g5 0 = bitAt w g6 0 ∧ bitAt w g5 1 = bitAt w g6 1 ∧ bitAt w g5 2 = bitAt w g6 2 ∧ bitAt w g5 3 = bitAt w g6 3 then 0 else 1)
def bn (b : Bool) : Nat := if b then 0 else 1
theorem bit_of {w : World} {g k : Nat} {t : TypeId} {S : List Bool} (h : Blk w g t (bs S)) (hk : k < S.length) : bitAt w g k = bn (S.getD k false) := by
  unfold bitAt
  rw [h.cell (bs_at hk)]
  cases S.getD k false <;> rfl
theorem bn_inj {a b : Bool} : bn a = bn b ↔ a = b := by cases a <;> cases b <;> simp [bn]
theorem four_eq {S T : List Bool} (h1 : S.length = 4) (h2 : T.length = 4) : S = T ↔ S.getD 0 false = T.getD 0 false ∧ S.getD 1 false = T.getD 1 false ∧ S.getD 2 false = T.getD 2 false ∧ S.getD 3 false = T.getD 3 false := by
  match S, h1, T, h2 with
  | [a, b, c, d], _, [a', b', c', d'], _ => simp
theorem meas_of {w : World} {g5 g6 : Nat} {t : TypeId} {Y S : List Bool} (h5 : Blk w g5 t (bs Y)) (h6 : Blk w g6 t (bs S)) (l5 : Y.length = 4) (l6 : S.length = 4) [Decidable (Y = S)] :
    meas w g5 g6 = 2 * (bn (S.getD 0 false) + bn (S.getD 1 false) + bn (S.getD 2 false) + bn (S.getD 3 false)) + (if Y = S then 0 else 1) := by
  unfold meas falses
  rw [bit_of h5 (by omega), bit_of h5 (by omega), bit_of h5 (by omega), bit_of h5 (by omega), bit_of h6 (by omega), bit_of h6 (by omega), bit_of h6 (by omega), bit_of h6 (by omega)]
  simp only [bn_inj, four_eq l5 l6]
theorem bn_le {a b : Bool} (h : a = true → b = true) : bn b ≤ bn a := by cases a <;> cases b <;> simp_all [bn]
theorem bn_lt {a b : Bool} (h : a = true → b = true) (hn : a ≠ b) : bn b < bn a := by cases a <;> cases b <;> simp_all [bn]
/-- A pass makes the measure less. -/
theorem meas_less {S T : List Bool} (l5 : S.length = 4) (l6 : T.length = 4) (hle : le S T) [Decidable (S = T)] :
    2 * (bn (T.getD 0 false) + bn (T.getD 1 false) + bn (T.getD 2 false) + bn (T.getD 3 false)) + (if S = T then 0 else 1) < 2 * (bn (S.getD 0 false) + bn (S.getD 1 false) + bn (S.getD 2 false) + bn (S.getD 3 false)) + 1 := by
  have a0 := bn_le (hle 0)
  have a1 := bn_le (hle 1)
  have a2 := bn_le (hle 2)
  have a3 := bn_le (hle 3)
  by_cases he : S = T
  · rw [if_pos he]; omega
  · rw [if_neg he]
    have hn : ¬ (S.getD 0 false = T.getD 0 false ∧ S.getD 1 false = T.getD 1 false ∧ S.getD 2 false = T.getD 2 false ∧ S.getD 3 false = T.getD 3 false) := fun h => he ((four_eq l5 l6).2 h)
    by_cases h0 : S.getD 0 false = T.getD 0 false
    · by_cases h1 : S.getD 1 false = T.getD 1 false
      · by_cases h2 : S.getD 2 false = T.getD 2 false
        · have := bn_lt (hle 3) (fun h3 => hn ⟨h0, h1, h2, h3⟩); omega
        · have := bn_lt (hle 2) h2; omega
      · have := bn_lt (hle 1) h1; omega
    · have := bn_lt (hle 0) h0; omega
end Go.Proofs.Ytliiinffkcgcaaa.TabH
