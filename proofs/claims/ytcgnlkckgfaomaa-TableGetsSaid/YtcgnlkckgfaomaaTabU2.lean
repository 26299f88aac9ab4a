/- What is told, put again, is the very bytes. Conditions: the bytes are bytes, and nothing failed. -/
import Derived.Test.YtcgnlkckgfaomaaTabU
namespace Go.Proofs.Ytcgnlkckgfaomaa.TabU2
open Go.RowKit Go.Proofs.Ytcgnlkckgfaomaa.Kit Go.Proofs.Ytcgnlkckgfaomaa.NumA Go.Proofs.Ytcgnlkckgfaomaa.NumB Go.Proofs.Ytcgnlkckgfaomaa.Mem Go.Proofs.Ytcgnlkckgfaomaa.TabA Go.Proofs.Ytcgnlkckgfaomaa.TabB Go.Proofs.Ytcgnlkckgfaomaa.TabC Go.Proofs.Ytcgnlkckgfaomaa.TabD Go.Proofs.Ytcgnlkckgfaomaa.TabE Go.Proofs.Ytcgnlkckgfaomaa.TabR Go.Proofs.Ytcgnlkckgfaomaa.TabP Go.Proofs.Ytcgnlkckgfaomaa.TabS

theorem be1 (x : Nat) (h : x < 256) : putb (x : Int) 1 = [(x : Int)] := by
  have h1 : wd 1 = 1 := rfl
  unfold putb be cl
  rw [h1]
  have h2 : (2 : Nat) ^ (8 * 1) - 1 = 255 := rfl
  rw [h2]
  simp only [Int.toNat_natCast, List.range_succ, List.range_zero, List.nil_append, List.map_cons, List.map_nil]
  rw [Nat.min_eq_left (by omega)]
  simp
  omega
theorem be2 (x y : Nat) (hx : x < 256) (hy : y < 256) : putb ((256 * x + y : Nat) : Int) 2 = [(x : Int), (y : Int)] := by
  have h1 : wd 2 = 2 := rfl
  unfold putb be cl
  rw [h1]
  have h2 : (2 : Nat) ^ (8 * 2) - 1 = 65535 := rfl
  rw [h2]
  simp only [Int.toNat_natCast, List.range_succ, List.range_zero, List.nil_append, List.map_cons, List.map_nil, List.singleton_append, List.cons_append]
  rw [Nat.min_eq_left (by omega)]
  simp
  omega
theorem rn_back {k : Nat} (hk : k = 1 ∨ k = 2) {s : Rs} (ho : okB s) (h : (rn k s).2.2 = 0) : s.2 = 0 ∧ s.1 = putb (rn k s).1 (k : Int) ++ (rn k s).2.1 := by
  obtain ⟨xs, e⟩ := s
  unfold rn rdN at *
  by_cases he : e = 0
  · subst he
    dsimp only at *
    rw [if_neg (by simp)] at h ⊢
    by_cases hl : k ≤ xs.length
    · rw [if_pos hl] at h ⊢
      refine ⟨rfl, ?_⟩
      rcases hk with rfl | rfl
      · match xs, hl with
        | x :: xs, _ =>
          have h1 := ho x (by simp)
          obtain ⟨u, rfl⟩ : ∃ u : Nat, x = u := ⟨x.toNat, by omega⟩
          have h2 := be1 u (by omega)
          show _ = putb (num [(u : Int)]) 1 ++ xs
          have h3 : num [(u : Int)] = (u : Int) := by simp [num]
          rw [h3, h2]
          rfl
      · match xs, hl with
        | x :: y :: xs, _ =>
          have h1 := ho x (by simp)
          have h2 := ho y (by simp)
          obtain ⟨u, rfl⟩ : ∃ u : Nat, x = u := ⟨x.toNat, by omega⟩
          obtain ⟨v, rfl⟩ : ∃ u : Nat, y = u := ⟨y.toNat, by omega⟩
          have h3 := be2 u v (by omega) (by omega)
          show _ = putb (num [(u : Int), (v : Int)]) 2 ++ xs
          have h4 : num [(u : Int), (v : Int)] = ((256 * u + v : Nat) : Int) := by simp [num]
          rw [h4, h3]
          rfl
    · rw [if_neg hl] at h
      simp at h
  · dsimp only at *
    rw [if_pos he] at h
    exact absurd h he
theorem rt_back {k : Nat} (hk : k = 1 ∨ k = 2) {s : Rs} (ho : okB s) (h : (rt k s).2.2 = 0) : s.2 = 0 ∧ s.1 = p1 (rt k s).1.a ++ p1 (rt k s).1.b ++ putb (rt k s).1.c (k : Int) ++ (rt k s).2.1 := by
  have h3 := rn_back hk (rn_ok (k := 1) (rn_ok (k := 1) ho)) h
  have h2 := rn_back (.inl rfl) (rn_ok (k := 1) ho) h3.1
  have h1 := rn_back (.inl rfl) ho h2.1
  refine ⟨h1.1, ?_⟩
  rw [h1.2, h2.2, h3.2]
  simp [rt, p1]
theorem rm_back {k : Nat} (hk : k = 1 ∨ k = 2) (f : Tri → List Int) (hf : ∀ r, f r = p1 r.a ++ p1 r.b ++ putb r.c (k : Int)) : ∀ (n : Nat) {s : Rs}, okB s → (rm k n s).2.2 = 0 → s.2 = 0 ∧ s.1 = (rm k n s).1.flatMap f ++ (rm k n s).2.1
  | 0, s, _, h => ⟨h, by simp [rm]⟩
  | n + 1, s, ho, h => by
    have h1 := rt_back hk (rm_ok k n ho) h
    have h2 := rm_back hk f hf n ho h1.1
    refine ⟨h2.1, ?_⟩
    rw [h2.2, h1.2]
    simp [rm, hf]
theorem told_back {s : Rs} (ho : okB s) (h : endN (sC s).1 (sC s).2 = 0) : s.1 = hdrT (told s).fr (told s).tr (told s).P.length (told s).W.length (told s).C.length ++ (told s).P.flatMap encP ++ (told s).W.flatMap enc3 ++ (told s).C.flatMap enc3 := by
  have hz : (sC s).2 = 0 ∧ (sC s).1 = [] := by
    unfold endN at h
    split at h
    · exact absurd h (by assumption)
    · rename_i h0
      split at h
      · rename_i h1
        exact ⟨by simpa using h0, h1⟩
      · simp at h
  have o2 : okB (s2 s) := rn_ok (k := 1) (rn_ok (k := 1) ho)
  have o5 : okB (s5 s) := rn_ok (k := 1) (rn_ok (k := 1) (rn_ok (k := 1) o2))
  have oP : okB (sP s) := rm_ok 2 (nP s) o5
  have oW : okB (sW s) := rm_ok 1 (nW s) oP
  have hC := rm_back (.inl rfl) enc3 (fun r => rfl) (nC s) oW (show (rm 1 (nC s) (sW s)).2.2 = 0 from hz.1)
  have hW := rm_back (.inl rfl) enc3 (fun r => rfl) (nW s) oP hC.1
  have hP := rm_back (.inr rfl) encP (fun r => rfl) (nP s) o5 hW.1
  have h5 := rn_back (.inl rfl) (rn_ok (k := 1) (rn_ok (k := 1) o2)) (show (rn 1 (rn 1 (rn 1 (s2 s)).2).2).2.2 = 0 from hP.1)
  have h4 := rn_back (.inl rfl) (rn_ok (k := 1) o2) h5.1
  have h3 := rn_back (.inl rfl) o2 h4.1
  have h2 := rn_back (.inl rfl) (rn_ok (k := 1) ho) (show (rn 1 (rn 1 s).2).2.2 = 0 from h3.1)
  have h1 := rn_back (.inl rfl) ho h2.1
  have c3 := (cnt_int o2).1
  have c4 := (cnt_int (rn_ok (k := 1) o2)).1
  have c5 := (cnt_int (rn_ok (k := 1) (rn_ok (k := 1) o2))).1
  have lP : (told s).P.length = nP s := rm_len 2 _ _
  have lW : (told s).W.length = nW s := rm_len 1 _ _
  have lC : (told s).C.length = nC s := rm_len 1 _ _
  rw [lP, lW, lC]
  have eC : (rm 1 (nC s) (sW s)).2.1 = [] := hz.2
  rw [eC, List.append_nil] at hC
  have e1 : (told s).C.flatMap enc3 = (sW s).1 := hC.2.symm
  have e2 : (told s).W.flatMap enc3 ++ (sW s).1 = (sP s).1 := hW.2.symm
  have e3 : (told s).P.flatMap encP ++ (sP s).1 = (s5 s).1 := hP.2.symm
  rw [e1, List.append_assoc, List.append_assoc, e2, e3]
  have e5 : (rn 1 (rn 1 (s2 s)).2).2.1 = p1 ((nC s : Nat) : Int) ++ (s5 s).1 := by rw [h5.2]; unfold nC; rw [← c5]; rfl
  have e4 : (rn 1 (s2 s)).2.1 = p1 ((nW s : Nat) : Int) ++ (rn 1 (rn 1 (s2 s)).2).2.1 := by rw [h4.2]; unfold nW; rw [← c4]; rfl
  have e6 : (s2 s).1 = p1 ((nP s : Nat) : Int) ++ (rn 1 (s2 s)).2.1 := by rw [h3.2]; unfold nP; rw [← c3]; rfl
  have e7 : (rn 1 s).2.1 = p1 (told s).tr ++ (s2 s).1 := h2.2
  have e8 : s.1 = p1 (told s).fr ++ (rn 1 s).2.1 := h1.2
  rw [e8, e7, e6, e4, e5]
  simp [hdrT]
end Go.Proofs.Ytcgnlkckgfaomaa.TabU2
