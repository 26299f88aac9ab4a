/- A right table's bytes tell the table again. No conditions but those each fact names. -/
import Derived.Test.YtcgnlkckgfaomaaTabT
namespace Go.Proofs.Ytcgnlkckgfaomaa.TabU
open Go.RowKit Go.Proofs.Ytcgnlkckgfaomaa.Kit Go.Proofs.Ytcgnlkckgfaomaa.NumA Go.Proofs.Ytcgnlkckgfaomaa.NumB Go.Proofs.Ytcgnlkckgfaomaa.Mem Go.Proofs.Ytcgnlkckgfaomaa.TabA Go.Proofs.Ytcgnlkckgfaomaa.TabB Go.Proofs.Ytcgnlkckgfaomaa.TabC Go.Proofs.Ytcgnlkckgfaomaa.TabD Go.Proofs.Ytcgnlkckgfaomaa.TabE Go.Proofs.Ytcgnlkckgfaomaa.TabR Go.Proofs.Ytcgnlkckgfaomaa.TabP Go.Proofs.Ytcgnlkckgfaomaa.TabS Go.Proofs.Ytcgnlkckgfaomaa.TabT

theorem cl_lt (k : Nat) (n : Int) : cl k n < 2 ^ (8 * k) := by have := pow_pos' k; unfold cl; omega
theorem dig_next {k j m : Nat} (hj : j < k) : m / 2 ^ (8 * (k - (j + 1))) = 256 * (m / 2 ^ (8 * (k - j))) + m / 2 ^ (8 * (k - 1 - j)) % 256 := by
  have e1 : k - (j + 1) = k - 1 - j := by omega
  have e2 : 8 * (k - j) = 8 * (k - 1 - j) + 8 := by omega
  rw [e1, e2, Nat.pow_add, ← Nat.div_div_eq_div_mul]
  omega
theorem num_take {k m : Nat} (hm : m < 2 ^ (8 * k)) : ∀ j, j ≤ k → num ((be k m).take j) = ((m / 2 ^ (8 * (k - j)) : Nat) : Int)
  | 0, _ => by
    rw [Nat.sub_zero, Nat.div_eq_of_lt hm]
    rfl
  | j + 1, h => by
    have hl : j < (be k m).length := by rw [be_len]; omega
    rw [num_next hl, num_take hm j (by omega), dig_next (by omega)]
    simp only [be, List.getElem_map, List.getElem_range]
    omega
theorem num_be {k m : Nat} (hm : m < 2 ^ (8 * k)) : num (be k m) = m := by
  have h := num_take hm k (Nat.le_refl _)
  rw [List.take_of_length_le (by rw [be_len]; omega), Nat.sub_self, Nat.mul_zero, Nat.pow_zero, Nat.div_one] at h
  exact h
theorem num_putb (n x : Int) : num (putb n x) = (cl (wd x) n : Nat) := num_be (cl_lt _ _)
/-- One number that was put is told again. -/
theorem rn_put {k : Nat} {q x : Int} (hk : wd q = k) (h0 : 0 ≤ x) (h1 : x ≤ ((2 ^ (8 * k) - 1 : Nat) : Int)) (ys : List Int) : rn k (putb x q ++ ys, 0) = (x, (ys, 0)) := by
  have hl : (putb x q).length = k := by rw [putb_len, hk]
  have hn : num (putb x q) = x := by rw [num_putb, hk]; unfold cl; omega
  unfold rn rdN
  rw [if_neg (by simp), if_pos (by simp [hl])]
  show (num ((putb x q ++ ys).take k), (putb x q ++ ys).drop k, (0 : Int)) = _
  rw [List.take_left' hl, List.drop_left' hl, hn]
theorem rn_p1 {x : Int} (h0 : 0 ≤ x) (h1 : x ≤ 255) (ys : List Int) : rn 1 (p1 x ++ ys, 0) = (x, (ys, 0)) := rn_put (k := 1) (q := 1) rfl h0 (by have h : ((2 ^ (8 * 1) - 1 : Nat) : Int) = 255 := rfl; rw [h]; exact h1) ys
theorem rn_p2 {x : Int} (h0 : 0 ≤ x) (h1 : x ≤ 65535) (ys : List Int) : rn 2 (putb x 2 ++ ys, 0) = (x, (ys, 0)) := rn_put (k := 2) (q := 2) rfl h0 (by have h : ((2 ^ (8 * 2) - 1 : Nat) : Int) = 65535 := rfl; rw [h]; exact h1) ys
def small (c : Int) (r : Tri) : Prop := (0 ≤ r.a ∧ r.a ≤ 255) ∧ (0 ≤ r.b ∧ r.b ≤ 255) ∧ (0 ≤ r.c ∧ r.c ≤ c)
theorem rt_P {r : Tri} (h : small 65535 r) (ys : List Int) : rt 2 (encP r ++ ys, 0) = (r, (ys, 0)) := by
  have e : encP r ++ ys = p1 r.a ++ (p1 r.b ++ (putb r.c 2 ++ ys)) := by simp [encP]
  rw [e]
  exact rt_eq (rn_p1 h.1.1 h.1.2 _) (rn_p1 h.2.1.1 h.2.1.2 _) (rn_p2 h.2.2.1 h.2.2.2 _)
theorem rt_3 {r : Tri} (h : small 255 r) (ys : List Int) : rt 1 (enc3 r ++ ys, 0) = (r, (ys, 0)) := by
  have e : enc3 r ++ ys = p1 r.a ++ (p1 r.b ++ (p1 r.c ++ ys)) := by simp [enc3]
  rw [e]
  exact rt_eq (rn_p1 h.1.1 h.1.2 _) (rn_p1 h.2.1.1 h.2.1.2 _) (rn_p1 h.2.2.1 h.2.2.2 _)
theorem rm_put {k : Nat} {f : Tri → List Int} {R : List Tri} (hf : ∀ r ∈ R, ∀ ys, rt k (f r ++ ys, 0) = (r, (ys, 0))) (ys : List Int) :
    ∀ j, j ≤ R.length → rm k j (R.flatMap f ++ ys, 0) = (R.take j, ((R.drop j).flatMap f ++ ys, 0))
  | 0, _ => rfl
  | j + 1, h => by
    have h1 := rm_put hf ys j (by omega)
    have hj : j < R.length := by omega
    rw [List.drop_eq_getElem_cons hj, List.flatMap_cons, List.append_assoc] at h1
    have h2 := rm_next h1 (hf _ (List.getElem_mem hj) _)
    rw [h2, List.take_succ_eq_append_getElem hj]
theorem rm_all {k : Nat} {f : Tri → List Int} {R : List Tri} (hf : ∀ r ∈ R, ∀ ys, rt k (f r ++ ys, 0) = (r, (ys, 0))) (ys : List Int) :
    rm k R.length (R.flatMap f ++ ys, 0) = (R, (ys, 0)) := by
  have h := rm_put hf ys R.length (Nat.le_refl _)
  rw [List.take_length, List.drop_length] at h
  exact h
theorem hdr_eq (fr tr : Int) (a b c : Nat) : hdrT fr tr a b c = p1 fr ++ (p1 tr ++ (p1 a ++ (p1 b ++ p1 c))) := by simp [hdrT]
/-- The bytes of a right table tell it. -/
theorem told_enc {t : Ta} (hr : right t) (h1 : t.P.length = t.n1) (h2 : t.W.length = t.n2) (h3 : t.C.length = t.n3) :
    told (encT t, 0) = ⟨t.fr, t.tr, t.P, t.W, t.C⟩ ∧ sC (encT t, 0) = ([], 0) := by
  obtain ⟨⟨hf0, hf1⟩, ⟨ht0, ht1⟩, ⟨⟨_, hp1⟩, hP⟩, ⟨hw1, hW, _⟩, hc1, hC⟩ := hr
  have sP' : ∀ r ∈ t.P, small 65535 r := fun r hr => by
    obtain ⟨k, hk⟩ := List.getElem?_of_mem hr
    have := hP k r hk
    unfold PartOk at this
    unfold small
    omega
  have sW' : ∀ r ∈ t.W, small 255 r := fun r hr => by
    obtain ⟨k, hk⟩ := List.getElem?_of_mem hr
    have := WinOk.bounds hW hk
    unfold small
    omega
  have sC' : ∀ r ∈ t.C, small 255 r := fun r hr => by
    obtain ⟨k, hk⟩ := List.getElem?_of_mem hr
    have := hC k r hk
    unfold ChanOk at this
    unfold small
    omega
  have e : encT t = p1 t.fr ++ (p1 t.tr ++ (p1 (t.P.length : Nat) ++ (p1 (t.W.length : Nat) ++ (p1 (t.C.length : Nat) ++ (t.P.flatMap encP ++ (t.W.flatMap enc3 ++ (t.C.flatMap enc3 ++ []))))))) := by
    rw [h1, h2, h3]
    simp [encT, hdr_eq]
  rw [e]
  have q1 := rn_p1 (x := t.fr) (by omega) (by omega) (p1 t.tr ++ (p1 (t.P.length : Nat) ++ (p1 (t.W.length : Nat) ++ (p1 (t.C.length : Nat) ++ (t.P.flatMap encP ++ (t.W.flatMap enc3 ++ (t.C.flatMap enc3 ++ [])))))))
  have q2 := rn_p1 (x := t.tr) (by omega) (by omega) (p1 (t.P.length : Nat) ++ (p1 (t.W.length : Nat) ++ (p1 (t.C.length : Nat) ++ (t.P.flatMap encP ++ (t.W.flatMap enc3 ++ (t.C.flatMap enc3 ++ []))))))
  have q3 := rn_p1 (x := (t.P.length : Nat)) (by omega) (by omega) (p1 (t.W.length : Nat) ++ (p1 (t.C.length : Nat) ++ (t.P.flatMap encP ++ (t.W.flatMap enc3 ++ (t.C.flatMap enc3 ++ [])))))
  have q4 := rn_p1 (x := (t.W.length : Nat)) (by omega) (by omega) (p1 (t.C.length : Nat) ++ (t.P.flatMap encP ++ (t.W.flatMap enc3 ++ (t.C.flatMap enc3 ++ []))))
  have q5 := rn_p1 (x := (t.C.length : Nat)) (by omega) (by omega) (t.P.flatMap encP ++ (t.W.flatMap enc3 ++ (t.C.flatMap enc3 ++ [])))
  generalize p1 t.fr ++ _ = b0 at q1 ⊢
  have e2 : s2 (b0, 0) = (p1 (t.P.length : Nat) ++ (p1 (t.W.length : Nat) ++ (p1 (t.C.length : Nat) ++ (t.P.flatMap encP ++ (t.W.flatMap enc3 ++ (t.C.flatMap enc3 ++ []))))), 0) := by
    unfold s2; rw [q1, q2]
  have e5 : s5 (b0, 0) = (t.P.flatMap encP ++ (t.W.flatMap enc3 ++ (t.C.flatMap enc3 ++ [])), 0) := by
    unfold s5; rw [e2, q3, q4, q5]
  have en1 : nP (b0, 0) = t.P.length := by unfold nP cnt; rw [e2, q3]; rfl
  have en2 : nW (b0, 0) = t.W.length := by unfold nW cnt; rw [e2, q3, q4]; rfl
  have en3 : nC (b0, 0) = t.C.length := by unfold nC cnt; rw [e2, q3, q4, q5]; rfl
  have m1 : rm 2 (nP (b0, 0)) (s5 (b0, 0)) = (t.P, (t.W.flatMap enc3 ++ (t.C.flatMap enc3 ++ []), 0)) := by rw [en1, e5]; exact rm_all (fun r hr => rt_P (sP' r hr)) _
  have eP : sP (b0, 0) = (t.W.flatMap enc3 ++ (t.C.flatMap enc3 ++ []), 0) := by unfold sP; rw [m1]
  have m2 : rm 1 (nW (b0, 0)) (sP (b0, 0)) = (t.W, (t.C.flatMap enc3 ++ [], 0)) := by rw [en2, eP]; exact rm_all (fun r hr => rt_3 (sW' r hr)) _
  have eW : sW (b0, 0) = (t.C.flatMap enc3 ++ [], 0) := by unfold sW; rw [m2]
  have m3 : rm 1 (nC (b0, 0)) (sW (b0, 0)) = (t.C, ([], 0)) := by rw [en3, eW]; exact rm_all (fun r hr => rt_3 (sC' r hr)) _
  refine ⟨?_, by unfold sC; rw [m3]⟩
  unfold told
  rw [m1, m2, m3, q1, q2]
end Go.Proofs.Ytcgnlkckgfaomaa.TabU
