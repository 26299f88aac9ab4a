/- When a table is right, by the code. Conditions: the table lies as the facts say. Threes in a block, cell by cell. No conditions but those each law names. What a partition reaches, in plain terms: paths, and an array of truths that grows. No conditions but those each law names. Lists of ints; what a type's facts are. No conditions. Channels in plain terms: what is sent, got and drained. No conditions but those each law names. The program's channels in memory: each block has a label. No conditions but those each law names. What a channel's content does, of either kind. Conditions: it lies as the facts say. A queue's numbers: one more, the first one taken, all of them copied. Conditions: it lies as the facts say. The program's channels: Len, Send, Get, Has. Conditions: they lie as the facts say; numbers of 64 bits. -/
import Derived.Test.YtegnehdfedfphaaTabC
import Derived.StillTailTactics
import Derived.ChangeKeysEq
import Derived.Laws.StructEq
import Derived.Laws.OwnMore
import Derived.Deep.DeepAppendRoom
import Derived.Deep.RegionLaw
namespace Go.Proofs.Ytegnehdfedfphaa.TabD
open Go.RowKit Go.Proofs.Ytegnehdfedfphaa.Kit Go.Proofs.Ytegnehdfedfphaa.Byt Go.Proofs.Ytegnehdfedfphaa.Mem Go.Proofs.Ytegnehdfedfphaa.TabA Go.Proofs.Ytegnehdfedfphaa.TabB Go.Proofs.Ytegnehdfedfphaa.TabC

def right (t : Ta) : Prop := TOk t.fr t.tr t.P t.W t.C
open Classical in
theorem bool_of (p : Prop) : ∃ b : Bool, b = true ↔ p := ⟨decide p, by simp⟩

set_option maxRecDepth 100000 in
set_option maxHeartbeats 1600000 in
theorem right_any (t : Ta) (w : World) (h : t.ok w) (b : Bool) (hb : b = true ↔ right t) : Calls Try.prog 27 #[t.val] w (Yes w b) := by
  obtain ⟨fr, A1, n1, c1, P, A2, n2, c2, W, A3, n3, c3, C, tr⟩ := t
  have hn1 : P.length = n1 := h.P.1
  have hb : b = true ↔ (1 ≤ fr ∧ fr ≤ 64) ∧ (1 ≤ tr ∧ tr ≤ 7) ∧ PartsOk P ∧ WinsOk n1 fr W ∧ ChansOk n1 C := by rw [← hn1]; exact hb
  have HB := Lib.hid hb
  have HO := Lib.hid h
  clear h hb hn1
  show Calls _ _ #[.agg #[.int .i64 fr, .slice A1 n1 c1, .slice A2 n2 c2, .slice A3 n3 c3, .int .i64 tr]] w _
  have HX := Lib.hid (Bx.new w ⟨fr, A1, n1, c1, P, A2, n2, c2, W, A3, n3, c3, C, tr⟩)
  have HF := Lib.hid (show ∀ p : Prop, (b = true → p) → ¬ p → b = false from fun p h hp => by rw [Bool.eq_false_iff]; exact fun hb => hp (h hb))
  cases s0 : inn fr 1 64
  · have hbf := Lib.hid (HF.out _ (fun h => (HB.out.1 h).1) (inn_false s0))
    go_enter Try.func27, Try.ntmps27
    go_wp2_with (go_at_call 39; refine (within_any _ _ _ _).mono ?_; rintro e w' ⟨rfl, rfl⟩)
    go_ret
    exact ⟨by rw [hbf.out]; rfl, HX.out.bel⟩
  · cases s1 : inn tr 1 7
    · have hbf := Lib.hid (HF.out _ (fun h => (HB.out.1 h).2.1) (inn_false s1))
      go_enter Try.func27, Try.ntmps27
      go_wp2_with (go_at_call 39; refine (within_any _ _ _ _).mono ?_; rintro e w' ⟨rfl, rfl⟩)
      go_ret
      exact ⟨by rw [hbf.out]; rfl, HX.out.bel⟩
    · have HFR := Lib.hid (inn_true s0)
      have HTR := Lib.hid (inn_true s1)
      obtain ⟨bp, hbp⟩ := bool_of (PartsOk P)
      obtain ⟨bw, hbw⟩ := bool_of (WinsOk n1 fr W)
      obtain ⟨bc, hbc⟩ := bool_of (ChansOk n1 C)
      have HBP := Lib.hid hbp
      have HBW := Lib.hid hbw
      have HBC := Lib.hid hbc
      clear hbp hbw hbc
      have HR1 := fun w' (hb : Below w.heap.size w w') => parts_any ⟨fr, A1, n1, c1, P, A2, n2, c2, W, A3, n3, c3, C, tr⟩ w' (HO.out.below hb) bp HBP.out
      have HR2 := fun w' (hb : Below w.heap.size w w') => wins_any ⟨fr, A1, n1, c1, P, A2, n2, c2, W, A3, n3, c3, C, tr⟩ w' (HO.out.below hb) HFR.out.1 HFR.out.2 bw HBW.out
      have HR3 := fun w' (hb : Below w.heap.size w w') => chans_any ⟨fr, A1, n1, c1, P, A2, n2, c2, W, A3, n3, c3, C, tr⟩ w' (HO.out.below hb) bc HBC.out
      have H1 := Lib.hid HR1
      have H2 := Lib.hid HR2
      have H3 := Lib.hid HR3
      clear HR1 HR2 HR3
      go_enter Try.func27, Try.ntmps27
      go_wp2_with (go_at_call 39; refine (within_any _ _ _ _).mono ?_; rintro e w' ⟨rfl, rfl⟩)
      refine (H1.out _ HX.out.bel).mono ?_
      rintro e w2 ⟨rfl, hb2⟩
      have HX2 := Lib.hid (HX.out.step hb2)
      clear hb2
      obtain ⟨y0, y1, y2, y3, y4⟩ := HX2.out.cell
      dsimp only at y0 y1 y2 y3 y4
      cases bp
      · have hbf := Lib.hid (HF.out _ (fun h => (HB.out.1 h).2.2.1) (fun h => by have := HBP.out.2 h; cases this))
        go_wp2_with fail
        go_ret
        exact ⟨by rw [hbf.out]; rfl, HX2.out.bel⟩
      · go_wp2_with fail
        refine (H2.out _ HX2.out.bel).mono ?_
        rintro e w3 ⟨rfl, hb3⟩
        have HX3 := Lib.hid (HX2.out.step hb3)
        clear hb3 y0 y1 y2 y3 y4 HX2
        obtain ⟨y0, y1, y2, y3, y4⟩ := HX3.out.cell
        dsimp only at y0 y1 y2 y3 y4
        cases bw
        · have hbf := Lib.hid (HF.out _ (fun h => (HB.out.1 h).2.2.2.1) (fun h => by have := HBW.out.2 h; cases this))
          go_wp2_with fail
          go_ret
          exact ⟨by rw [hbf.out]; rfl, HX3.out.bel⟩
        · go_wp2_with fail
          refine (H3.out _ HX3.out.bel).mono ?_
          rintro e w4 ⟨rfl, hb4⟩
          have HX4 := Lib.hid (HX3.out.step hb4)
          clear hb4
          have hbb := Lib.hid (show b = bc from by
            rw [Bool.eq_iff_iff, HB.out]
            exact ⟨fun h => HBC.out.2 h.2.2.2.2, fun h => ⟨HFR.out, HTR.out, HBP.out.1 (by first | trivial | rfl), HBW.out.1 (by first | trivial | rfl), HBC.out.1 h⟩⟩)
          go_wp2_with fail
          go_ret
          exact ⟨by rw [hbb.out]; rfl, HX4.out.bel⟩

/-- Is a table more than a statement takes? -/
def huge (t : Ta) : Prop := 20 < t.n1 ∨ 40 < t.n2 ∨ 20 < t.n3
theorem drop_at {W : List Tri} {k : Nat} {r : Tri} (h : W[k]? = some r) : W.drop k = r :: W.drop (k + 1) := by
  obtain ⟨hk, rfl⟩ := List.getElem?_eq_some_iff.1 h
  exact List.drop_eq_getElem_cons hk
theorem WinOk.nonneg {m : Nat} {fr : Int} {W : List Tri} (h : ∀ (k : Nat) (r : Tri), W[k]? = some r → WinOk m fr W k r) : ∀ k, k ≤ W.length → 0 ≤ endAt W k
  | 0, _ => by simp [endAt]
  | k + 1, hk => by
    have hr : W[k]? = some W[k] := List.getElem?_eq_getElem (by omega)
    have h0 := h k _ hr
    have := nonneg h k (by omega)
    rw [endAt_next hr]
    have := h0.2.1
    have := h0.2.2.1
    omega
theorem WinOk.bounds {m : Nat} {fr : Int} {W : List Tri} (h : ∀ (k : Nat) (r : Tri), W[k]? = some r → WinOk m fr W k r) {k : Nat} {r : Tri} (hr : W[k]? = some r) : 0 ≤ r.b ∧ 1 ≤ r.c ∧ r.b + r.c ≤ fr ∧ 0 ≤ r.a ∧ r.a < m ∧ endAt W k ≤ r.b := by
  have h0 := h k r hr
  have h1 := WinOk.nonneg h k (by have := (List.getElem?_eq_some_iff.1 hr).1; omega)
  have h2 := h0.2.1
  have h3 := h0.2.2
  have h4 := h0.1
  omega
theorem endAt_le {m : Nat} {fr : Int} {W : List Tri} (hf : 0 ≤ fr) (h : ∀ (k : Nat) (r : Tri), W[k]? = some r → WinOk m fr W k r) : ∀ k, k ≤ W.length → endAt W k ≤ fr
  | 0, _ => by simpa [endAt] using hf
  | k + 1, hk => by
    have hr : W[k]? = some W[k] := List.getElem?_eq_getElem (by omega)
    obtain ⟨v0, v1, v2, v3, v4, v5⟩ := WinOk.bounds h hr
    rw [endAt_next hr]
    exact v2
end Go.Proofs.Ytegnehdfedfphaa.TabD
namespace Go.Proofs.Ytegnehdfedfphaa.TabE
open Go.RowKit Go.Proofs.Ytegnehdfedfphaa.Kit Go.Proofs.Ytegnehdfedfphaa.Byt Go.Proofs.Ytegnehdfedfphaa.Mem Go.Proofs.Ytegnehdfedfphaa.TabA Go.Proofs.Ytegnehdfedfphaa.TabB Go.Proofs.Ytegnehdfedfphaa.TabC Go.Proofs.Ytegnehdfedfphaa.TabD

/-- A block known whole that holds threes, one behind the other. -/
def tcells (R : List Tri) : List Value := R.flatMap Tri.cells
theorem tcells_cons (r : Tri) (R : List Tri) : tcells (r :: R) = .int .i64 r.a :: .int .i64 r.b :: .int .i64 r.c :: tcells R := rfl
theorem tcells_len : (R : List Tri) → (tcells R).length = R.length * 3
  | [] => rfl
  | r :: R => by rw [tcells_cons]; simp [tcells_len R]; omega
theorem tcells_at {R : List Tri} {k : Nat} {r : Tri} (h : R[k]? = some r) {j : Nat} {u : Value} (hj : r.cells[j]? = some u) : (tcells R)[k * 3 + j]? = some u := by
  induction R generalizing k with
  | nil => simp at h
  | cons r' R ih =>
    cases k with
    | zero =>
      simp at h
      subst h
      have hl : j < 3 := by have := (List.getElem?_eq_some_iff.1 hj).1; simpa [Tri.cells] using this
      rw [tcells_cons]
      match j, hl with
      | 0, _ => simpa [Tri.cells] using hj
      | 1, _ => simpa [Tri.cells] using hj
      | 2, _ => simpa [Tri.cells] using hj
    | succ k =>
      rw [tcells_cons, show (k + 1) * 3 + j = k * 3 + j + 1 + 1 + 1 by omega]
      simpa using ih (by simpa using h)
theorem Tris.of_blk {w : World} {g c : Nat} {t : TypeId} {R : List Tri} {xs : List Value} (hB : Blk w g t (tcells R ++ xs)) (hc : R.length ≤ c) (hm : c ≤ 9223372036854775807) (hok : ∀ r ∈ R, r.ok) : Tris w (some ⟨g, 0, none⟩) R.length c R :=
  ⟨rfl, hc, hm, hok, fun _ => ⟨g, 0, rfl, hB.lt, fun k r hr j u hu => hB.cell (by
    have := tcells_at hr hu
    have hl := (List.getElem?_eq_some_iff.1 this).1
    rw [Nat.zero_add, List.getElem?_append_left hl]
    exact this)⟩⟩

theorem ret_row {P : Program} {fn : Func} {p : Tmp} {ty : TypeId} {R : Ending → World → Prop} {a : Act} {w : World} {g : Nat} {t : TypeId} {cs : Array Value} {fr : Nat × Nat} {d : TypeDesc} (h : fn.results = #[.cell p ty]) (h0 : a.defers = [])
    (hp : a.tmps.getD p undef = .pointer (some ⟨g, 0, none⟩)) (hg : w.heap[g]? = some (.cells cs t fr)) (hu : P.underlying ty = some d) (hd : (match d with | .struct _ | .array _ _ => true | _ => false) = true) (hi : (P.info? ty).map (·.size) = some cs.size)
    (hR : R (.returned (.agg cs)) w) : bodyPost P fn R .ret a w :=
  bodyPost_ret (results_cell_row h _ w g t cs fr d hp hg hu hd hi) h0 hR
theorem size_table : (Try.prog.info? 26).map (·.size) = some 5 := by kernel_rfl
end Go.Proofs.Ytegnehdfedfphaa.TabE
namespace Go.Proofs.Ytegnehdfedfphaa.TabH
open Go.RowKit Go.Proofs.Ytegnehdfedfphaa.Kit Go.Proofs.Ytegnehdfedfphaa.Byt Go.Proofs.Ytegnehdfedfphaa.Mem Go.Proofs.Ytegnehdfedfphaa.TabA Go.Proofs.Ytegnehdfedfphaa.TabB Go.Proofs.Ytegnehdfedfphaa.TabC Go.Proofs.Ytegnehdfedfphaa.TabD Go.Proofs.Ytegnehdfedfphaa.TabE

/-- A path: channels, each from where the one ahead leads. -/
inductive Conn (C : List Tri) (a : Int) : Int → Prop
  | here : Conn C a a
  | on {b : Int} {r : Tri} (h : Conn C a b) (hr : r ∈ C) (ha : r.a = b) : Conn C a r.b
theorem Conn.trans {C : List Tri} {a b c : Int} (h : Conn C a b) (k : Conn C b c) : Conn C a c := by
  induction k with
  | here => exact h
  | on _ hr ha ih => exact .on ih hr ha
theorem Conn.mono {C D : List Tri} {a b : Int} (h : Conn C a b) (hs : ∀ r ∈ C, r ∈ D) : Conn D a b := by
  induction h with
  | here => exact .here
  | on _ hr ha ih => exact .on ih (hs _ hr) ha

def bs (S : List Bool) : List Value := S.map Value.bool
theorem bs_len (S : List Bool) : (bs S).length = S.length := List.length_map ..
theorem bs_at {S : List Bool} {k : Nat} (h : k < S.length) : (bs S)[k]? = some (.bool (S.getD k false)) := by
  simp [bs, List.getElem?_map, List.getElem?_eq_getElem h]
theorem bs_set (S : List Bool) (k : Nat) (v : Bool) : (bs S).set k (.bool v) = bs (S.set k v) := by simp [bs, List.map_set]
def upd (S : List Bool) (r : Tri) : List Bool := S.set r.b.toNat (S.getD r.b.toNat false || S.getD r.a.toNat false)
theorem upd_len (S : List Bool) (r : Tri) : (upd S r).length = S.length := by simp [upd]
theorem upd_at (S : List Bool) (r : Tri) (p : Nat) (h : r.b.toNat < S.length) : (upd S r).getD p false = if p = r.b.toNat then S.getD p false || S.getD r.a.toNat false else S.getD p false := by
  unfold upd
  rw [List.getD_eq_getElem?_getD, List.getElem?_set]
  by_cases hp : p = r.b.toNat
  · subst hp
    rw [if_pos rfl, if_pos h, if_pos rfl]
    rfl
  · rw [if_neg (fun e => hp e.symm), if_neg hp, List.getD_eq_getElem?_getD]
def pass (S : List Bool) (R : List Tri) : List Bool := R.foldl upd S
theorem pass_nil (S : List Bool) : pass S [] = S := rfl
theorem pass_cons (S : List Bool) (r : Tri) (R : List Tri) : pass S (r :: R) = pass (upd S r) R := rfl
theorem pass_snoc {S : List Bool} {R : List Tri} {k : Nat} {r : Tri} (h : R[k]? = some r) : pass S (R.take (k + 1)) = upd (pass S (R.take k)) r := by
  obtain ⟨hk, rfl⟩ := List.getElem?_eq_some_iff.1 h
  rw [List.take_succ_eq_append_getElem hk, pass, List.foldl_append]
  rfl
theorem pass_len (S : List Bool) : ∀ R : List Tri, (pass S R).length = S.length
  | [] => rfl
  | r :: R => by rw [pass_cons, pass_len (upd S r) R, upd_len]
def le (S T : List Bool) : Prop := ∀ p, S.getD p false = true → T.getD p false = true
def In (m : Nat) (C : List Tri) : Prop := ∀ r ∈ C, (0 ≤ r.a ∧ r.a < (m : Int)) ∧ (0 ≤ r.b ∧ r.b < (m : Int))
theorem upd_le {S : List Bool} {r : Tri} (h : r.b.toNat < S.length) : le S (upd S r) := fun p hp => by
  rw [upd_at S r p h]
  split
  · rw [hp]; rfl
  · exact hp
theorem pass_le : ∀ (R : List Tri) (S : List Bool), (∀ r ∈ R, r.b.toNat < S.length) → le S (pass S R)
  | [], _, _ => fun _ h => h
  | r :: R, S, h => fun p hp => by
    rw [pass_cons]
    exact pass_le R (upd S r) (fun r' hr' => by rw [upd_len]; exact h r' (by simp [hr'])) p (upd_le (h r (by simp)) p hp)
theorem le_both {S T : List Bool} (hl : S.length = T.length) (h1 : le S T) (h2 : le T S) : S = T := by
  refine List.ext_getElem hl fun i hi hj => ?_
  have a := h1 i
  have b := h2 i
  have eS : S.getD i false = S[i] := by rw [List.getD_eq_getElem?_getD, List.getElem?_eq_getElem hi]; rfl
  have eT : T.getD i false = T[i] := by rw [List.getD_eq_getElem?_getD, List.getElem?_eq_getElem hj]; rfl
  rw [eS, eT] at a b
  cases hs : S[i] <;> cases ht : T[i] <;> simp_all
/-- A pass that changes nothing leaves what is closed. -/
theorem closed : ∀ (R : List Tri) (S : List Bool), (∀ r ∈ R, r.b.toNat < S.length) → pass S R = S → ∀ r ∈ R, S.getD r.a.toNat false = true → S.getD r.b.toNat false = true
  | [], _, _, _ => fun r hr => by cases hr
  | r :: R, S, h, he => fun r' hr' ha => by
    rw [pass_cons] at he
    have h1 := upd_le (S := S) (r := r) (h r (by simp))
    have h2 := pass_le R (upd S r) (fun r' hr' => by rw [upd_len]; exact h r' (by simp [hr']))
    rw [he] at h2
    have hu : upd S r = S := le_both (upd_len S r) h2 h1
    rw [hu] at he
    rcases List.mem_cons.1 hr' with rfl | hr'
    · have := upd_at S r' r'.b.toNat (h r' (by simp))
      rw [hu, if_pos rfl, ha] at this
      simpa using this
    · exact closed R S (fun r' hr' => h r' (by simp [hr'])) he r' hr' ha
/-- What is in the array has a path. -/
def Sound (C : List Tri) (a : Int) (S : List Bool) : Prop := ∀ p : Nat, S.getD p false = true → Conn C a p
theorem Sound.upd {C : List Tri} {a : Int} {S : List Bool} {r : Tri} (h : Sound C a S) (hr : r ∈ C) (ha : 0 ≤ r.a) (hb : 0 ≤ r.b) (hl : r.b.toNat < S.length) : Sound C a (upd S r) := fun p hp => by
  rw [upd_at S r p hl] at hp
  split at hp
  · rename_i hpb
    rcases Bool.or_eq_true_iff.1 hp with h1 | h1
    · exact h p h1
    · have h2 := h _ h1
      rw [Int.toNat_of_nonneg ha] at h2
      have h3 := Conn.on h2 hr rfl
      rw [hpb, Int.toNat_of_nonneg hb]
      exact h3
  · exact h p hp
theorem sound_closed {C : List Tri} {a : Nat} {S : List Bool} (hs : Sound C a S) (h0 : S.getD a false = true) (hin : ∀ r ∈ C, 0 ≤ r.a ∧ 0 ≤ r.b) (hc : ∀ r ∈ C, S.getD r.a.toNat false = true → S.getD r.b.toNat false = true) (p : Nat) : S.getD p false = true ↔ Conn C a p := by
  refine ⟨hs p, fun h => ?_⟩
  have key : ∀ x : Int, Conn C a x → 0 ≤ x ∧ S.getD x.toNat false = true := by
    intro x hx
    induction hx with
    | here => exact ⟨by omega, by simpa using h0⟩
    | on _ hr ha ih => exact ⟨(hin _ hr).2, hc _ hr (by rw [ha]; exact ih.2)⟩
  simpa using (key p h).2
def zeroB : List Bool := [false, false, false, false]
theorem zero_sound (C : List Tri) (a : Nat) (_ha : a < 4) : Sound C a (zeroB.set a true) := fun p hp => by
  rw [List.getD_eq_getElem?_getD, List.getElem?_set] at hp
  by_cases h : a = p
  · subst h; exact .here
  · rw [if_neg h] at hp
    have : zeroB[p]?.getD false = false := by
      match p with
      | 0 => rfl
      | 1 => rfl
      | 2 => rfl
      | 3 => rfl
      | p + 4 => rfl
    rw [this] at hp
    cases hp
/-- The partitions that are true, rising. -/
def lst (S : List Bool) (k : Nat) : List Int := ((List.range k).filter fun p => S.getD p false).map fun p : Nat => (p : Int)
theorem lst_next (S : List Bool) (k : Nat) : lst S (k + 1) = if S.getD k false = true then lst S k ++ [(k : Int)] else lst S k := by
  unfold lst
  rw [List.range_succ, List.filter_append, List.map_append]
  by_cases h : S.getD k false = true
  · rw [if_pos h]; simp only [List.filter_cons, h, if_true, List.filter_nil, List.map_cons, List.map_nil]
  · rw [if_neg h]; simp only [List.filter_cons, h, List.filter_nil]; simp
theorem lst_len (S : List Bool) : ∀ k, (lst S k).length ≤ k
  | 0 => by simp [lst]
  | k + 1 => by
    have := lst_len S k
    rw [lst_next]
    split
    · simp; omega
    · omega
theorem mem_lst {S : List Bool} {k : Nat} {x : Int} : x ∈ lst S k ↔ ∃ p : Nat, p < k ∧ x = p ∧ S.getD p false = true := by
  simp only [lst, List.mem_map, List.mem_filter, List.mem_range]
  exact ⟨fun ⟨p, ⟨h1, h2⟩, h3⟩ => ⟨p, h1, h3.symm, h2⟩, fun ⟨p, h1, h3, h2⟩ => ⟨p, ⟨h1, h2⟩, h3.symm⟩⟩
theorem lst_congr {S T : List Bool} : ∀ k, (∀ p, p < k → (S.getD p false = true ↔ T.getD p false = true)) → lst S k = lst T k
  | 0, _ => rfl
  | k + 1, h => by
    rw [lst_next, lst_next, lst_congr k (fun p hp => h p (by omega))]
    have := h k (by omega)
    by_cases h1 : S.getD k false = true
    · rw [if_pos h1, if_pos (this.1 h1)]
    · rw [if_neg h1, if_neg (fun h2 => h1 (this.2 h2))]
/-- How many are false still, by the memory. -/
def bitAt (w : World) (g k : Nat) : Nat := match w.cell? ⟨g, k, none⟩ with
  | some (.bool true) => 0
  | _ => 1
def falses (w : World) (g : Nat) : Nat := bitAt w g 0 + bitAt w g 1 + bitAt w g 2 + bitAt w g 3
def meas (w : World) (g5 g6 : Nat) : Nat := 2 * falses w g6 + (if bitAt w g5 0 = bitAt w g6 0 ∧ bitAt w g5 1 = bitAt w g6 1 ∧ bitAt w g5 2 = bitAt w g6 2 ∧ bitAt w g5 3 = bitAt w g6 3 then 0 else 1)
def bn (b : Bool) : Nat := if b then 0 else 1
theorem bit_of {w : World} {g k : Nat} {t : TypeId} {S : List Bool} (h : Blk w g t (bs S)) (hk : k < S.length) : bitAt w g k = bn (S.getD k false) := by
  unfold bitAt
  rw [h.cell (bs_at hk)]
  cases S.getD k false <;> rfl
theorem bn_inj {a b : Bool} : bn a = bn b ↔ a = b := by cases a <;> cases b <;> simp [bn]
theorem four_eq {S T : List Bool} (h1 : S.length = 4) (h2 : T.length = 4) : S = T ↔ S.getD 0 false = T.getD 0 false ∧ S.getD 1 false = T.getD 1 false ∧ S.getD 2 false = T.getD 2 false ∧ S.getD 3 false = T.getD 3 false := by
  match S, h1, T, h2 with
  | [a, b, c, d], _, [a', b', c', d'], _ => simp
theorem meas_of {w : World} {g5 g6 : Nat} {t : TypeId} {Y S : List Bool} (h5 : Blk w g5 t (bs Y)) (h6 : Blk w g6 t (bs S)) (l5 : Y.length = 4) (l6 : S.length = 4) [Decidable (Y = S)] :
    meas w g5 g6 = 2 * (bn (S.getD 0 false) + bn (S.getD 1 false) + bn (S.getD 2 false) + bn (S.getD 3 false)) + (if Y = S then 0 else 1) := by
  unfold meas falses
  rw [bit_of h5 (by omega), bit_of h5 (by omega), bit_of h5 (by omega), bit_of h5 (by omega), bit_of h6 (by omega), bit_of h6 (by omega), bit_of h6 (by omega), bit_of h6 (by omega)]
  simp only [bn_inj, four_eq l5 l6]
theorem bn_le {a b : Bool} (h : a = true → b = true) : bn b ≤ bn a := by cases a <;> cases b <;> simp_all [bn]
theorem bn_lt {a b : Bool} (h : a = true → b = true) (hn : a ≠ b) : bn b < bn a := by cases a <;> cases b <;> simp_all [bn]
/-- A pass makes the measure less. -/
theorem meas_less {S T : List Bool} (l5 : S.length = 4) (l6 : T.length = 4) (hle : le S T) [Decidable (S = T)] :
    2 * (bn (T.getD 0 false) + bn (T.getD 1 false) + bn (T.getD 2 false) + bn (T.getD 3 false)) + (if S = T then 0 else 1) < 2 * (bn (S.getD 0 false) + bn (S.getD 1 false) + bn (S.getD 2 false) + bn (S.getD 3 false)) + 1 := by
  have a0 := bn_le (hle 0)
  have a1 := bn_le (hle 1)
  have a2 := bn_le (hle 2)
  have a3 := bn_le (hle 3)
  by_cases he : S = T
  · rw [if_pos he]; omega
  · rw [if_neg he]
    have hn : ¬ (S.getD 0 false = T.getD 0 false ∧ S.getD 1 false = T.getD 1 false ∧ S.getD 2 false = T.getD 2 false ∧ S.getD 3 false = T.getD 3 false) := fun h => he ((four_eq l5 l6).2 h)
    by_cases h0 : S.getD 0 false = T.getD 0 false
    · by_cases h1 : S.getD 1 false = T.getD 1 false
      · by_cases h2 : S.getD 2 false = T.getD 2 false
        · have := bn_lt (hle 3) (fun h3 => hn ⟨h0, h1, h2, h3⟩); omega
        · have := bn_lt (hle 2) h2; omega
      · have := bn_lt (hle 1) h1; omega
    · have := bn_lt (hle 0) h0; omega
end Go.Proofs.Ytegnehdfedfphaa.TabH
namespace Go.Proofs.Ytegnehdfedfphaa.TabI
open Go.RowKit Go.Proofs.Ytegnehdfedfphaa.Kit Go.Proofs.Ytegnehdfedfphaa.Byt Go.Proofs.Ytegnehdfedfphaa.Mem Go.Proofs.Ytegnehdfedfphaa.TabA Go.Proofs.Ytegnehdfedfphaa.TabB Go.Proofs.Ytegnehdfedfphaa.TabC Go.Proofs.Ytegnehdfedfphaa.TabD Go.Proofs.Ytegnehdfedfphaa.TabE Go.Proofs.Ytegnehdfedfphaa.TabH

def i64s (l : List Int) : List Value := l.map (Value.int .i64)
theorem i64s_one (l : List Int) : ∀ u ∈ i64s l, u.oneCell' = true := ints_oneCell _ _
theorem i64s_app (l m : List Int) : i64s l ++ i64s m = i64s (l ++ m) := by simp [i64s]
theorem i64s_len (l : List Int) : (i64s l).length = l.length := List.length_map ..
theorem info_int : (Try.prog.info? 3).map (fun i => (i.zero, i.size, i.bytes)) = some (some (.int .i64 0), 1, 8) := by kernel_rfl
theorem info_of {t : TypeId} {z : Value} {size bytes : Nat} (h : (Try.prog.info? t).map (fun i => (i.zero, i.size, i.bytes)) = some (some z, size, bytes)) : ∃ i, Try.prog.info? t = some i ∧ i.zero = some z ∧ i.size = size ∧ i.bytes = bytes := by
  cases hi : Try.prog.info? t with
  | none => rw [hi] at h; cases h
  | some i =>
    rw [hi] at h
    simp at h
    exact ⟨i, rfl, h.1, h.2.1, h.2.2⟩
theorem info_bool : (Try.prog.info? 4).map (fun i => (i.zero, i.size, i.bytes)) = some (some (.bool false), 1, 1) := by kernel_rfl
end Go.Proofs.Ytegnehdfedfphaa.TabI
namespace Go.Proofs.Ytegnehdfedfphaa.PrtM
open Go.RowKit Go.Proofs.Ytegnehdfedfphaa.Kit Go.Proofs.Ytegnehdfedfphaa.Byt Go.Proofs.Ytegnehdfedfphaa.Mem
open Go.Proofs.Ytegnehdfedfphaa.TabA (Tri Tris)

/-- What all channels have, with one of them turned. -/
def up (L : Nat → List Int) (k : Nat) (l : List Int) : Nat → List Int := fun j => if j = k then l else L j
theorem up_same (L : Nat → List Int) (k : Nat) (l : List Int) : up L k l k = l := if_pos rfl
theorem up_other {L : Nat → List Int} {k j : Nat} {l : List Int} (h : j ≠ k) : up L k l j = L j := if_neg h
theorem up_self (L : Nat → List Int) (k : Nat) : up L k (L k) = L := by
  funext j
  unfold up
  split
  · rename_i h; rw [h]
  · rfl
def full (d : Int) (l : List Int) : Bool := decide (d ≠ 0 ∧ (l.length : Int) = d)
def sndL (d : Int) (l : List Int) (n : Int) : List Int := if d = 0 then [n] else if full d l = true then l else l ++ [n]
def getN (l : List Int) : Int := l.headD 0
def getB (l : List Int) : Bool := !l.isEmpty
def getL (d : Int) (l : List Int) : List Int := if d = 0 then l else l.tail
/-- Is there such a channel, and is it the partition's? -/
def chan (C : List Tri) (k : Int) : Option Tri := if 0 ≤ k then C[k.toNat]? else none
def sndOk (C : List Tri) (p k : Int) : Bool := match chan C k with | none => false | some r => decide (r.a = p)
def getOk (C : List Tri) (p k : Int) : Bool := match chan C k with | none => false | some r => decide (r.b = p)
def dep (C : List Tri) (k : Nat) : Int := match C[k]? with | none => 0 | some r => r.c
def snds (C : List Tri) (L : Nat → List Int) (p k n : Int) : (Bool × Int) × (Nat → List Int) :=
  if sndOk C p k = false then ((false, 15), L)
  else if n < 0 ∨ 65535 < n then ((false, 3), L)
  else ((!full (dep C k.toNat) (L k.toNat), 0), up L k.toNat (sndL (dep C k.toNat) (L k.toNat) n))
def gets (C : List Tri) (L : Nat → List Int) (p k : Int) : (Int × Bool × Int) × (Nat → List Int) :=
  if getOk C p k = false then ((0, false, 15), L)
  else ((getN (L k.toNat), getB (L k.toNat), 0), up L k.toNat (getL (dep C k.toNat) (L k.toNat)))
def drn (C : List Tri) (p : Int) (m : Nat) (L : Nat → List Int) : Nat → List Int := fun k => match C[k]? with
  | some r => if r.b = p ∧ k < m then [] else L k
  | none => L k
def hasL (C : List Tri) (L : Nat → List Int) (k : Int) : List Int := match chan C k with | none => [] | some _ => L k.toNat

theorem chan_no {C : List Tri} {k : Int} (h : ¬ (0 ≤ k ∧ k < (C.length : Int))) : chan C k = none := by
  unfold chan
  split
  · exact List.getElem?_eq_none (by omega)
  · rfl
theorem chan_yes {C : List Tri} {k : Int} (h0 : 0 ≤ k) (h1 : k < (C.length : Int)) : chan C k = some (C[k.toNat]'(by omega)) := by
  unfold chan
  rw [if_pos h0]
  exact List.getElem?_eq_getElem _
theorem dep_at {C : List Tri} {k : Nat} {r : Tri} (h : C[k]? = some r) : dep C k = r.c := by unfold dep; rw [h]
theorem sndOk_at {C : List Tri} {p : Int} {k : Nat} {r : Tri} (h : C[k]? = some r) : sndOk C p k = decide (r.a = p) := by
  unfold sndOk chan
  rw [if_pos (by omega), Int.toNat_natCast, h]
theorem getOk_at {C : List Tri} {p : Int} {k : Nat} {r : Tri} (h : C[k]? = some r) : getOk C p k = decide (r.b = p) := by
  unfold getOk chan
  rw [if_pos (by omega), Int.toNat_natCast, h]
theorem hasL_at {C : List Tri} {L : Nat → List Int} {k : Nat} {r : Tri} (h : C[k]? = some r) : hasL C L k = L k := by
  unfold hasL chan
  rw [if_pos (by omega), Int.toNat_natCast, h]
theorem hasL_no {C : List Tri} {L : Nat → List Int} {k : Int} (h : ¬ (0 ≤ k ∧ k < (C.length : Int))) : hasL C L k = [] := by
  unfold hasL
  rw [chan_no h]
theorem snds_no {C : List Tri} {L : Nat → List Int} {p k n : Int} (h : sndOk C p k = false) : snds C L p k n = ((false, 15), L) := if_pos h
theorem snds_range {C : List Tri} {L : Nat → List Int} {p k n : Int} (h : sndOk C p k = true) (hn : n < 0 ∨ 65535 < n) : snds C L p k n = ((false, 3), L) := by
  unfold snds
  rw [if_neg (by rw [h]; simp), if_pos hn]
theorem snds_yes {C : List Tri} {L : Nat → List Int} {p n : Int} {k : Nat} {r : Tri} (hr : C[k]? = some r) (ha : r.a = p) (h0 : 0 ≤ n) (h1 : n ≤ 65535) : snds C L p k n = ((!full r.c (L k), 0), up L k (sndL r.c (L k) n)) := by
  unfold snds
  rw [if_neg (by rw [sndOk_at hr]; simp [ha]), if_neg (by omega), Int.toNat_natCast, dep_at hr]
theorem gets_no {C : List Tri} {L : Nat → List Int} {p k : Int} (h : getOk C p k = false) : gets C L p k = ((0, false, 15), L) := if_pos h
theorem gets_yes {C : List Tri} {L : Nat → List Int} {p : Int} {k : Nat} {r : Tri} (hr : C[k]? = some r) (hb : r.b = p) : gets C L p k = ((getN (L k), getB (L k), 0), up L k (getL r.c (L k))) := by
  unfold gets
  rw [if_neg (by rw [getOk_at hr]; simp [hb]), Int.toNat_natCast, dep_at hr]
theorem drn_zero (C : List Tri) (p : Int) (L : Nat → List Int) : drn C p 0 L = L := by
  funext k
  unfold drn
  split
  · rw [if_neg (by omega)]
  · rfl
theorem drn_yes {C : List Tri} {p : Int} {m : Nat} {L : Nat → List Int} {r : Tri} (h : C[m]? = some r) (hb : r.b = p) : drn C p (m + 1) L = up (drn C p m L) m [] := by
  funext k
  unfold up
  by_cases hk : k = m
  · subst hk
    rw [if_pos rfl]
    unfold drn
    rw [h]
    exact if_pos ⟨hb, by omega⟩
  · rw [if_neg hk]
    unfold drn
    split
    · congr 1
      rw [eq_iff_iff]
      omega
    · rfl
theorem drn_no {C : List Tri} {p : Int} {m : Nat} {L : Nat → List Int} {r : Tri} (h : C[m]? = some r) (hb : r.b ≠ p) : drn C p (m + 1) L = drn C p m L := by
  funext k
  unfold drn
  split
  · rename_i r' hr'
    by_cases hk : k = m
    · subst hk
      rw [h] at hr'
      injection hr' with hr'
      subst hr'
      rw [if_neg (fun hh => hb hh.1), if_neg (fun hh => hb hh.1)]
    · congr 1
      rw [eq_iff_iff]
      omega
  · rfl
end Go.Proofs.Ytegnehdfedfphaa.PrtM
namespace Go.Proofs.Ytegnehdfedfphaa.PrtA
open Go.RowKit Go.Proofs.Ytegnehdfedfphaa.Kit Go.Proofs.Ytegnehdfedfphaa.Byt Go.Proofs.Ytegnehdfedfphaa.Mem Go.Proofs.Ytegnehdfedfphaa.TabI Go.Proofs.Ytegnehdfedfphaa.PrtM
open Go.Proofs.Ytegnehdfedfphaa.TabA (Tri Tris)

/-- What a block is there for. -/
inductive Lab
  | out | set | list | head (k : Nat) | row (k : Nat) | rset | rlist | rdata | own (k : Nat)
/-- What was labelled so may have changed, and what is new is labelled so; all else is as it was. -/
structure Stp (F : Lab → Prop) (w : World) (ρ : Nat → Lab) (w' : World) (ρ' : Nat → Lab) : Prop where
  keep : Keep (fun i => F (ρ i)) w w'
  old : ∀ i, i < w.heap.size → ρ' i = ρ i
  new : ∀ i, w.heap.size ≤ i → ρ' i = .out ∨ (F (ρ' i) ∧ i < w'.heap.size)
def Bd (B : Nat) (w : World) (ρ : Nat → Lab) : Prop := ∀ i, ρ i ≠ .out → B ≤ i ∧ i < w.heap.size
section
variable {F G : Lab → Prop} {B : Nat} {w w' w2 : World} {ρ ρ' ρ2 : Nat → Lab}
theorem Stp.refl (F : Lab → Prop) (h : Bd B w ρ) : Stp F w ρ w ρ := ⟨Keep.refl _ _, fun _ _ => rfl, fun i hi => .inl (Classical.byContradiction fun hn => by have := (h i hn).2; omega)⟩
theorem Stp.of_below (h : Bd B w ρ) (hb : Below w.heap.size w w') : Stp F w ρ w' ρ := ⟨Keep.of_below hb, fun _ _ => rfl, fun i hi => .inl (Classical.byContradiction fun hn => by have := (h i hn).2; omega)⟩
theorem Bd.step (hB : Bd B w ρ) (hBw : B ≤ w.heap.size) (h : Stp F w ρ w' ρ') : Bd B w' ρ' := fun i hn => by
  rcases Nat.lt_or_ge i w.heap.size with h1 | h1
  · rw [h.old i h1] at hn
    exact ⟨(hB i hn).1, by have := h.keep.size; omega⟩
  · rcases h.new i h1 with h2 | h2
    · exact absurd h2 hn
    · exact ⟨by omega, h2.2⟩
theorem Stp.trans (h : Stp F w ρ w' ρ') (k : Stp F w' ρ' w2 ρ2) : Stp F w ρ w2 ρ2 :=
  ⟨h.keep.trans k.keep fun i hi => by
      rcases Nat.lt_or_ge i w.heap.size with h1 | h1
      · rw [h.old i h1] at hi; exact .inl hi
      · exact .inr h1,
    fun i hi => (k.old i (Nat.lt_of_lt_of_le hi h.keep.size)).trans (h.old i hi),
    fun i hi => by
      rcases Nat.lt_or_ge i w'.heap.size with h1 | h1
      · rw [k.old i h1]
        exact (h.new i hi).imp id fun h2 => ⟨h2.1, by have := k.keep.size; omega⟩
      · exact k.new i h1⟩
theorem Stp.mono (h : Stp F w ρ w' ρ') (hf : ∀ l, F l → G l) : Stp G w ρ w' ρ' := ⟨h.keep.mono fun _ _ h => hf _ h, h.old, fun i hi => (h.new i hi).imp id fun h2 => ⟨hf _ h2.1, h2.2⟩⟩
theorem Stp.below (h : Stp F w ρ w' ρ') (hB : Bd B w ρ) (hF : ¬ F .out) (hw : B ≤ w.heap.size) : Below B w w' := h.keep.below (fun k hk => (hB k fun e => hF (e ▸ hk)).1) hw
theorem Stp.drew (h : Stp F w ρ w' ρ') : Stp F w ρ w'.drew ρ' := ⟨h.keep.drew, h.old, h.new⟩
theorem Stp.drewN (h : Stp F w ρ w' ρ') (n : Nat) : Stp F w ρ (w'.drewN n) ρ' := ⟨h.keep.drewN n, h.old, h.new⟩
end

/-- The dynamic type of a channel's content. -/
def kind (d : Int) : TypeId := if d = 0 then 119 else 122
def ccells (r : Tri) (q : Nat) : List Value := [.int .i64 r.a, .int .i64 r.b, .iface (kind r.c) (.pointer (some ⟨q, 0, none⟩))]
def lcells (Q : Nat → Nat) : Nat → List Tri → List Value
  | _, [] => []
  | k, r :: R => ccells r (Q k) ++ lcells Q (k + 1) R
theorem lcells_len (Q : Nat → Nat) : ∀ (k : Nat) (R : List Tri), (lcells Q k R).length = R.length * 3
  | _, [] => rfl
  | k, r :: R => by rw [lcells, List.length_append, lcells_len Q (k + 1) R]; simp [ccells]; omega
theorem lcells_at (Q : Nat → Nat) {r : Tri} {u : Value} {i : Nat} : ∀ (k j : Nat) (R : List Tri), R[j]? = some r → (ccells r (Q (k + j)))[i]? = some u → (lcells Q k R)[j * 3 + i]? = some u
  | k, j, [], h, _ => by simp at h
  | k, 0, r' :: R, h, hu => by
    simp at h
    subst h
    rw [Nat.add_zero] at hu
    rw [lcells, Nat.zero_mul, Nat.zero_add, List.getElem?_append_left (List.getElem?_eq_some_iff.1 hu).1]
    exact hu
  | k, j + 1, r' :: R, h, hu => by
    rw [lcells, List.getElem?_append_right (by simp [ccells]; omega), show (j + 1) * 3 + i - (ccells r' (Q k)).length = j * 3 + i by simp [ccells]; omega]
    exact lcells_at Q (k + 1) j R (by simpa using h) (by rw [show k + 1 + j = k + (j + 1) by omega]; exact hu)
theorem lcells_snoc (Q : Nat → Nat) (r : Tri) : ∀ (k : Nat) (R : List Tri), lcells Q k (R ++ [r]) = lcells Q k R ++ ccells r (Q (k + R.length))
  | k, [] => by simp [lcells]
  | k, r' :: R => by
    rw [List.cons_append, lcells, lcells, lcells_snoc Q r (k + 1) R, List.append_assoc]
    congr 3
    rw [List.length_cons, show k + 1 + R.length = k + (R.length + 1) by omega]
theorem lcells_congr {Q Q' : Nat → Nat} : ∀ (k : Nat) (R : List Tri), (∀ j, k ≤ j → j < k + R.length → Q' j = Q j) → lcells Q' k R = lcells Q k R
  | _, [], _ => rfl
  | k, r :: R, h => by
    rw [lcells, lcells, h k (Nat.le_refl _) (by simp), lcells_congr (k + 1) R fun j h1 h2 => h j (by omega) (by simp; omega)]

/-- What a channel's content is. -/
def Cont (B : Nat) (w : World) (ρ : Nat → Lab) (k q : Nat) (d : Int) (l : List Int) : Prop :=
  (d = 0 ∧ ∃ (x : Int) (b : Bool), Blk w q 121 [.int .i64 x, .bool b] ∧ (b = true → l = [x]) ∧ (b = false → l = [] ∧ x = 0)) ∨
  (d ≠ 0 ∧ ∃ (A : Option Addr) (n c : Nat), Blk w q 124 [.int .i64 d, .slice A n c] ∧ w.ownsRow B 3 1 (.slice A n c) n (i64s l) ∧ (n : Int) ≤ d ∧ ∀ g, (Value.slice A n c).ownBlock = some g → ρ g = .row k)
structure Chs (B : Nat) (w : World) (ρ : Nat → Lab) (S : Nat) (A : Option Addr) (n c : Nat) (Q : Nat → Nat) (C : List Tri) (L : Nat → List Int) : Prop where
  bd : Bd B w ρ
  base : B ≤ w.heap.size
  set : Blk w S 94 [.slice A n c]
  lset : ρ S = .set
  list : w.ownsRow B 99 3 (.slice A n c) n (lcells Q 0 C)
  llist : ∀ g, (Value.slice A n c).ownBlock = some g → ρ g = .list
  len : C.length = n
  most : n ≤ 4
  ok : ∀ r ∈ C, r.ok ∧ 0 ≤ r.c ∧ r.c ≤ 4
  head : ∀ (k : Nat) (r : Tri), C[k]? = some r → ρ (Q k) = .head k ∧ Cont B w ρ k (Q k) r.c (L k)
/-- What the program's calls may touch. -/
def Prog : Lab → Prop
  | .head _ => True
  | .row _ => True
  | _ => False
def Mine (k : Nat) : Lab → Prop := fun l => l = .head k ∨ l = .row k
theorem Mine.prog {k : Nat} {l : Lab} (h : Mine k l) : Prog l := by rcases h with rfl | rfl <;> trivial
section
variable {F : Lab → Prop} {B S n c k q : Nat} {w w' : World} {ρ ρ' : Nat → Lab} {A : Option Addr} {Q : Nat → Nat} {C : List Tri} {L : Nat → List Int} {l : List Int} {d : Int} {r : Tri}
theorem own_len {e : TypeId} {v : Value} {l : List Int} (h : w.ownsRow B e 1 v n (i64s l)) : l.length = n := by have := h.1; rw [i64s_len] at this; omega
theorem Cont.carry (h : Cont B w ρ k q d l) (hs : Stp F w ρ w' ρ') (hq : ¬ F (ρ q)) (hr : ¬ F (.row k)) : Cont B w' ρ' k q d l := by
  rcases h with ⟨h0, x, b, h1, h2⟩ | ⟨h0, A, n, c, h1, h2, h3, h4⟩
  · exact .inl ⟨h0, x, b, hs.keep.blk h1 hq, h2⟩
  · exact .inr ⟨h0, A, n, c, hs.keep.blk h1 hq, hs.keep.own h2 fun g hg hf => hr (h4 g hg ▸ hf), h3, fun g hg => by rw [hs.old g (h2.lt g hg).2]; exact h4 g hg⟩
/-- Something else has changed. -/
theorem Chs.carry (h : Chs B w ρ S A n c Q C L) (hs : Stp F w ρ w' ρ') (h1 : ¬ F .set) (h2 : ¬ F .list) (h3 : ∀ k, ¬ F (.head k)) (h4 : ∀ k, ¬ F (.row k)) : Chs B w' ρ' S A n c Q C L where
  bd := h.bd.step h.base hs
  base := Nat.le_trans h.base hs.keep.size
  set := hs.keep.blk h.set (by rw [h.lset]; exact h1)
  lset := by rw [hs.old S h.set.lt]; exact h.lset
  list := hs.keep.own h.list fun g hg hf => h2 (h.llist g hg ▸ hf)
  llist := fun g hg => by rw [hs.old g (h.list.lt g hg).2]; exact h.llist g hg
  len := h.len
  most := h.most
  ok := h.ok
  head := fun k r hr => by
    obtain ⟨e1, e2⟩ := h.head k r hr
    have hq : Q k < w.heap.size := (h.bd (Q k) (by rw [e1]; intro e; cases e)).2
    exact ⟨by rw [hs.old _ hq]; exact e1, e2.carry hs (by rw [e1]; exact h3 k) (h4 k)⟩
theorem Chs.below (h : Chs B w ρ S A n c Q C L) (hb : Below w.heap.size w w') : Chs B w' ρ S A n c Q C L := h.carry (F := fun _ => False) (Stp.of_below h.bd hb) id id (fun _ => id) fun _ => id
/-- One channel's content has changed. -/
theorem Chs.turn (h : Chs B w ρ S A n c Q C L) (hr : C[k]? = some r) (hs : Stp (Mine k) w ρ w' ρ') (hc : Cont B w' ρ' k (Q k) r.c l) : Chs B w' ρ' S A n c Q C (up L k l) where
  bd := h.bd.step h.base hs
  base := Nat.le_trans h.base hs.keep.size
  set := hs.keep.blk h.set (by rw [h.lset]; rintro (e | e) <;> cases e)
  lset := by rw [hs.old S h.set.lt]; exact h.lset
  list := hs.keep.own h.list fun g hg hf => by rw [h.llist g hg] at hf; rcases hf with e | e <;> cases e
  llist := fun g hg => by rw [hs.old g (h.list.lt g hg).2]; exact h.llist g hg
  len := h.len
  most := h.most
  ok := h.ok
  head := fun j r' hr' => by
    obtain ⟨e1, e2⟩ := h.head j r' hr'
    have hq : Q j < w.heap.size := (h.bd (Q j) (by rw [e1]; intro e; cases e)).2
    refine ⟨by rw [hs.old _ hq]; exact e1, ?_⟩
    by_cases hj : j = k
    · subst hj
      rw [hr] at hr'
      injection hr' with hr'
      subst hr'
      rw [up_same]
      exact hc
    · rw [up_other hj]
      refine e2.carry hs ?_ ?_
      · rw [e1]
        rintro (e | e)
        · injection e with e; exact hj e
        · cases e
      · rintro (e | e)
        · cases e
        · injection e with e; exact hj e
/-- A channel, as it lies. -/
theorem Chs.at_ (h : Chs B w ρ S A n c Q C L) {k : Nat} (hk : k < n) : ∃ (r : Tri) (b o : Nat), C[k]? = some r ∧ (r.ok ∧ 0 ≤ r.c ∧ r.c ≤ 4) ∧ A = some ⟨b, o, none⟩ ∧ b < w.heap.size ∧ w.cell? ⟨b, o + k * 3, none⟩ = some (.int .i64 r.a) ∧ w.cell? ⟨b, o + k * 3 + 1, none⟩ = some (.int .i64 r.b) ∧ w.cell? ⟨b, o + k * 3 + 2, none⟩ = some (.iface (kind r.c) (.pointer (some ⟨Q k, 0, none⟩))) := by
  have hk' : k < C.length := by rw [h.len]; exact hk
  have hr := List.getElem?_eq_getElem hk'
  rcases h.list.2 with ⟨hv, h0⟩ | ⟨g, cap', cur, hv, _, hh, _⟩
  · omega
  · simp only [Value.slice.injEq] at hv
    obtain ⟨rfl, _, rfl⟩ := hv
    have hc := h.list.cells (g := g) rfl
    have ha : ∀ (i : Nat) (u : Value), (ccells C[k] (Q k))[i]? = some u → w.cell? ⟨g, 0 + k * 3 + i, none⟩ = some u := fun i u hu => by
      have h2 := hc (k * 3 + i) u (lcells_at Q 0 k C hr (by rw [Nat.zero_add]; exact hu))
      rw [Addr.add_lit] at h2
      rw [← h2, Nat.add_assoc]
    exact ⟨C[k], g, 0, hr, h.ok _ (List.getElem_mem hk'), rfl, lt_of_block hh, ha 0 _ rfl, ha 1 _ rfl, ha 2 _ rfl⟩
end
end Go.Proofs.Ytegnehdfedfphaa.PrtA
namespace Go.Proofs.Ytegnehdfedfphaa.PrtB
open Go.RowKit Go.Proofs.Ytegnehdfedfphaa.Kit Go.Proofs.Ytegnehdfedfphaa.Byt Go.Proofs.Ytegnehdfedfphaa.Mem Go.Proofs.Ytegnehdfedfphaa.TabI Go.Proofs.Ytegnehdfedfphaa.PrtM Go.Proofs.Ytegnehdfedfphaa.PrtA

theorem bel_drewN {B : Nat} {a w : World} (h : Below B a w) (n : Nat) : Below B a (w.drewN n) := ⟨h.os, h.tape, h.output, h.size, h.block⟩
section
variable {B q n c : Nat} {w : World} {x d : Int} {b : Bool} {A : Option Addr} {l : List Int}
set_option maxRecDepth 100000 in
theorem samp_send (hB : Blk w q 121 [.int .i64 x, .bool b]) (y : Int) :
    Calls Try.prog 105 #[.pointer (some ⟨q, 0, none⟩), .int .i64 y] w fun e w' => e = .returned (.bool true) ∧ Blk w' q 121 [.int .i64 y, .bool true] ∧ Only q w w' := by
  have c0 := hB.cell (i := 0) rfl
  have c1 := hB.cell (i := 1) rfl
  have f0 := hB.frozen 0
  have f1 := hB.frozen 1
  have HB := Lib.hid hB
  clear hB
  go_enter Try.func105, Try.ntmps105
  go_wp2
  go_ret
  exact ⟨rfl, (HB.out.set 0 _).set 1 _, (Only.set _ _ _ _).trans (Only.set _ _ _ _)⟩
set_option maxRecDepth 100000 in
theorem samp_get (hB : Blk w q 121 [.int .i64 x, .bool b]) :
    Calls Try.prog 103 #[.pointer (some ⟨q, 0, none⟩)] w fun e w' => e = .returned (.tuple #[.int .i64 x, .bool b]) ∧ Below w.heap.size w w' := by
  have c0 := hB.cell (i := 0) rfl
  have c1 := hB.cell (i := 1) rfl
  clear hB
  go_enter Try.func103, Try.ntmps103
  go_wp2_with fail
  go_quiet (fail)
  go_wp2
  go_ret2
  exact ⟨rfl, bel_drewN (Below.refl _ _) _⟩
/-- What is handed back is new memory with these numbers. -/
def News (w : World) (l : List Int) (e : Ending) (w' : World) : Prop := ∃ A n c, e = .returned (.slice A n c) ∧ Rd w' A n c (i64s l) ∧ (∀ b o, A = some ⟨b, o, none⟩ → w.heap.size ≤ b) ∧ Below w.heap.size w w'
set_option maxRecDepth 100000 in
theorem samp_has (hB : Blk w q 121 [.int .i64 x, .bool b]) :
    Calls Try.prog 104 #[.pointer (some ⟨q, 0, none⟩)] w (News w (if b = true then [x] else [])) := by
  have c0 := hB.cell (i := 0) rfl
  have c1 := hB.cell (i := 1) rfl
  clear hB
  cases b with
  | false =>
    go_enter Try.func104, Try.ntmps104
    go_wp2
    go_ret
    exact ⟨none, 0, 0, rfl, Rd.nil _, fun b o h => (by cases h), Below.refl _ _⟩
  | true =>
    go_enter Try.func104, Try.ntmps104
    go_wp2
    go_ret
    exact ⟨_, 1, 1, rfl, Rd.own (base := 0) (own_of_block (cur := [.int .i64 x]) (heap_alloc_new w _) (Nat.zero_le _) (Nat.le_refl _) (by simp)), fun b o h => (by injection h with h; injection h with h _; omega), (Below.refl _ _).alloc (Nat.le_refl _) _⟩
theorem own_empty {w : World} {B : Nat} {e : TypeId} {A : Option Addr} {n c : Nat} {xs : List Value} (h : w.ownsRow B e 1 (.slice A n c) n xs) : w.ownsRow B e 1 (.slice A 0 c) 0 [] := by
  rcases h.2 with ⟨hv, h0⟩ | ⟨g, cap, cur, hv, hb, hg, hnc, hcm, hcs, ht⟩
  · simp only [Value.slice.injEq] at hv
    obtain ⟨rfl, rfl, rfl⟩ := hv
    exact World.ownsRow_nil _ _ _ _
  · simp only [Value.slice.injEq] at hv
    obtain ⟨rfl, _, rfl⟩ := hv
    exact ⟨by simp, .inr ⟨g, c, cur, rfl, hb, hg, Nat.zero_le _, hcm, hcs, by simp⟩⟩
theorem own_other {w : World} {B q i : Nat} {e : TypeId} {v : Value} {n : Nat} {xs : List Value} {u : Value} (h : w.ownsRow B e 1 v n xs) (hq : ∀ g, v.ownBlock = some g → g ≠ q) : (w.setCell ⟨q, i, none⟩ u).ownsRow B e 1 v n xs :=
  (Keep.set (F := fun k => k = q) w i u rfl).own h fun g hg hf => hq g hg hf
end
end Go.Proofs.Ytegnehdfedfphaa.PrtB
namespace Go.Proofs.Ytegnehdfedfphaa.PrtC
open Go.RowKit Go.Proofs.Ytegnehdfedfphaa.Kit Go.Proofs.Ytegnehdfedfphaa.Byt Go.Proofs.Ytegnehdfedfphaa.Mem Go.Proofs.Ytegnehdfedfphaa.TabI Go.Proofs.Ytegnehdfedfphaa.PrtM Go.Proofs.Ytegnehdfedfphaa.PrtA Go.Proofs.Ytegnehdfedfphaa.PrtB

theorem size_int : (Try.prog.info? 3).map (·.size) = some 1 := by kernel_rfl
theorem zero_int (w : World) : (zeroValue 3).run Try.prog w = .ok (.int .i64 0) w := by kernel_rfl
section
variable {B q n c g : Nat} {w : World} {x d : Int} {A : Option Addr} {l : List Int}
theorem own_int {l : List Int} (h : w.ownsRow B 3 1 (.slice A n c) n (i64s l)) (hn : 0 < n) : ∃ g cur, A = some ⟨g, 0, none⟩ ∧ B ≤ g ∧ w.heap[g]? = some (.cells cur 3 (0, 0)) ∧ n ≤ c ∧ c ≤ 9223372036854775807 ∧ cur.size = c ∧ cur.toList.take n = i64s l := by
  rcases h.2 with ⟨hv, h0⟩ | ⟨g, cap, cur, hv, hb, hg, hnc, hcm, hcs, ht⟩
  · omega
  · simp only [Value.slice.injEq] at hv
    obtain ⟨rfl, _, rfl⟩ := hv
    unfold maxLen at hcm
    rw [Nat.mul_one] at hcs ht
    exact ⟨g, cur, rfl, hb, hg, hnc, hcm, hcs, ht⟩
/-- One cell of a block, cleared. -/
theorem run_clear_one {P : Program} (w : World) (t e ty : TypeId) (z : Value) (ht : P.underlying t = some (.slice e)) (hv : ∀ w, (zeroValue e).run P w = .ok z w) (hz : z.cells = #[z]) (h1 : z.oneCell' = true) {g off c : Nat} {xs : List Value} (hB : Blk w g e xs) (ho : off < xs.length) :
    (Builtin.clear_ #[t] ty #[.slice (some ⟨g, off, none⟩) 1 c]).run P w = .ok (.tuple #[]) (w.setRow g (splice xs off [z]).toArray) := by
  have hst := run_storeCells_at P g off e [z] 0 xs.toArray w hB (by simp; omega) (by simpa using h1)
  have hzc : (Builtin.zeroCells #[z] 1).toList = [z] := by simp [Builtin.zeroCells]
  simp only [Nat.add_zero] at hst
  simp [Builtin.clear_, run_underlying ht, hv, hz, hzc, hst, splice]
theorem wpList_clear_one {P : Program} {ops : Array Oper} {rest : List Oper} {o : Oper} {a : Act} {w : World} {Q : Exit → Act → World → Prop} (hgd : o.guard = none) (x : Operand) (t e : TypeId) (ho : o.op = .call { callee := .builtin .clear, args := #[x], argTypes := #[t] }) (z : Value) (ht : P.underlying t = some (.slice e)) (hv : ∀ w, (zeroValue e).run P w = .ok z w) (hz : z.cells = #[z]) (h1 : z.oneCell' = true)
    {g off c : Nat} {xs : List Value} (hx : a.eval x = .slice (some ⟨g, off, none⟩) 1 c) (hB : Blk w g e xs) (hl : off < xs.length)
    (h : ∀ w', Hid (Blk w' g e (splice xs off [z])) → Hid (Only g w w') → wpList P ops Q rest (a.put o.dst (.tuple #[])) w') : wpList P ops Q (o :: rest) a w := by
  refine wpList_plain hgd fun K hK => ?_
  have hrun := run_clear_one (P := P) w t e o.type z ht hv hz h1 hB hl (c := c)
  unfold Oper.wp execOp
  simp only [ho, resolve, invoke, builtin, Sem.run_bind, Sem.run_pure, Result.andThen_ok, List.map_toArray, List.map_cons, List.map_nil, hx, hrun]
  exact hK _ _ (h _ (Lib.hid (setRow_heap w g _ _ e _ hB)) (Lib.hid (Only.row w g _)))
theorem own_blk {g m c : Nat} {xs : List Value} (h : w.ownsRow B 3 1 (.slice (some ⟨g, 0, none⟩) m c) m xs) : ∃ ys, Blk w g 3 ys ∧ ys.length = c ∧ ys.take m = xs ∧ B ≤ g ∧ m ≤ c ∧ c ≤ 9223372036854775807 := by
  rcases h.2 with ⟨hv, h0⟩ | ⟨g', cap, cur, hv, hb, hg, hnc, hcm, hcs, ht⟩
  · simp at hv
  · simp only [Value.slice.injEq, Option.some.injEq, Addr.mk.injEq, and_true, true_and] at hv
    obtain ⟨rfl, rfl⟩ := hv
    unfold maxLen at hcm
    rw [Nat.mul_one] at hcs ht
    exact ⟨cur.toList, by unfold Blk; rw [hg], by simpa using hcs, ht, hb, hnc, hcm⟩
theorem blk_own {g m c : Nat} {xs ys : List Value} (h : Blk w g 3 ys) (h1 : ys.length = c) (h2 : ys.take m = xs) (h3 : B ≤ g) (h4 : m ≤ c) (h5 : c ≤ 9223372036854775807) : w.ownsRow B 3 1 (.slice (some ⟨g, 0, none⟩) m c) m xs := by
  refine ⟨by rw [← h2, List.length_take]; omega, .inr ⟨g, c, ys.toArray, rfl, h3, h, h4, by unfold maxLen; omega, by simpa using h1, by simpa using h2⟩⟩
theorem keep_drew {F : Nat → Prop} {a b : World} (h : Keep F a.drew b) : Keep F a b := ⟨h.os, h.tape, h.output, h.size, h.block⟩
set_option maxRecDepth 100000 in
/-- The first one is taken out: the others move up. -/
theorem delete_any (hO : w.ownsRow B 3 1 (.slice (some ⟨g, 0, none⟩) n c) n (i64s (x :: l))) :
    Calls Try.prog 110 #[.slice (some ⟨g, 0, none⟩) n c, .int .i64 0, .int .i64 1] w fun e w' =>
      ∃ m, e = .returned (.slice (some ⟨g, 0, none⟩) m c) ∧ w'.ownsRow B 3 1 (.slice (some ⟨g, 0, none⟩) m c) m (i64s l) ∧ Keep (fun i => i = g) w w' := by
  obtain ⟨i0, hi0, hz0, hz1, hz2⟩ := info_of info_int
  have hl : l.length + 1 = n := own_len (l := x :: l) hO
  obtain ⟨g', cur, hg', hbg, hh, hnc, hcm, hcs, htk⟩ := own_int hO (by omega)
  obtain rfl : g' = g := by injection hg' with h; injection h with h _; exact h.symm
  obtain ⟨m, hm⟩ : ∃ m, m = l.length := ⟨_, rfl⟩
  obtain rfl : n = m + 1 := by omega
  have hO0 : w.drew.ownsRow B 3 1 (.slice (some ⟨g', 0, none⟩) 0 c) 0 [] := own_empty hO
  obtain ⟨A1, hA1⟩ : ∃ A1, A1 = if c = 1 then some (⟨g', 0, none⟩ : Addr) else some ⟨g', 1, none⟩ := ⟨_, rfl⟩
  obtain ⟨ad, had, hsrc⟩ : ∃ ad, A1 = some ad ∧ ∀ j u, (i64s l)[j]? = some u → w.drew.cell? (ad.add j) = some u := by
    by_cases hc1 : c = 1
    · refine ⟨_, by rw [hA1, if_pos hc1], fun j u hu => ?_⟩
      obtain rfl : l = [] := List.eq_nil_of_length_eq_zero (by omega)
      simp [i64s] at hu
    · refine ⟨_, by rw [hA1, if_neg hc1], fun j u hu => ?_⟩
      rw [Addr.add_lit]
      have h1 := hO.cells (g := g') rfl (1 + j) u (by rw [Nat.add_comm]; simpa [i64s] using hu)
      rw [Addr.add_lit] at h1
      simpa using h1
  have HA1 := Lib.hid (hA1.symm.trans had)
  have HO0 := Lib.hid hO0
  have HS := Lib.hid hsrc
  have HLM := Lib.hid hm
  have h1i : (1 : Int) ≤ ((m + 1 : Nat) : Int) := by omega
  have hcm' : m < c := by omega
  clear hO hO0 hsrc hh hcs htk hg' hl hA1 had hm hnc
  go_enter Try.func110, Try.ntmps110
  go_wp2_with fail
  go_still_tail 6, (by kernel_rfl)
  refine wpStill_step (fun K hK => ?_)
  go_simp
  rw [if_pos (by omega)]
  refine ⟨rfl, hK _ ?_⟩
  clear hK K
  rw [HA1.out]
  refine wpStill_nil ?_
  change wpList _ _ _ _ _ (World.drew _)
  refine wpList_append_own_spare _ rfl (.tmp 22) (.tmp 25) 64 rfl B 3 i0 1 Try.underlying64 hi0 hz1 g' 0 c [] rfl HO0.out ad m (c - 1) (i64s l) rfl (by rw [i64s_len, HLM.out, Nat.mul_one]) HS.out (i64s_one _) (by omega) ?_
  intro w1 ho1 hg1
  rw [Nat.zero_add] at ho1
  rw [Nat.zero_add]
  obtain ⟨ys, hB1, hl1, ht1, hb1, hm1, hc1⟩ := own_blk ho1
  have HB1 := Lib.hid hB1
  have HT1 := Lib.hid ht1
  have HK1 := Lib.hid (keep_drew (Keep.grown (F := fun i => i = g') hg1 fun k hk => by injection hk with hk; exact hk.symm))
  have hne : ¬ c = m := by omega
  clear ho1 hg1 hB1 ht1 HO0 HS HA1
  go_wp2_with (refine wpList_clear_one rfl (.tmp 31) 64 3 rfl (.int .i64 0) Try.underlying64 zero_int rfl rfl (g := g') (off := m) (c := c - m) rfl HB1.out (by omega) ?_; intro w2 hB2 ho2)
  go_ret
  refine ⟨m, rfl, blk_own (hB2.out) (by rw [splice]; simp; omega) ?_ hb1 (by omega) hc1, HK1.out.trans (Keep.only (F := fun i => i = g') ho2.out rfl) fun k hk => .inl hk⟩
  have ht2 : ys.take m = i64s l := by simpa using HT1.out
  rw [← ht2, splice, List.take_append_of_le_length (by simp; omega), List.take_take, Nat.min_self]
theorem rd_one (w : World) (x : Int) : Rd (w.alloc (.cells #[.int .i64 x] 3)) (some ⟨w.heap.size, 0, none⟩) 1 1 (i64s [x]) :=
  Rd.own (base := 0) (own_of_block (cur := [.int .i64 x]) (heap_alloc_new w _) (Nat.zero_le _) (Nat.le_refl _) (by simp))
theorem grown_keep {w w2 : World} {o : Obj} {row : Option Nat} {k : Nat} (h : ((w.drewN k).alloc o).grownBy w2 row) : Keep (fun i => row = some i) w w2 :=
  ((Keep.of_below (F := fun i => row = some i) (w := w) (w' := (w.drewN k).alloc o) (bel_drewN ((Below.refl w.heap.size w).alloc (Nat.le_refl _) o) k)).trans (Keep.grown (F := fun i => row = some i) h fun _ h => h) fun _ h => .inl h)
set_option maxRecDepth 100000 in
theorem clone_any (hR : Rd w A n c (i64s l)) (hA : A = none ∨ ∃ b o, A = some ⟨b, o, none⟩) (hn : n ≤ 100) :
    Calls Try.prog 36 #[.slice A n c] w (News w l) := by
  obtain ⟨i0, hi0, hz0, hz1, hz2⟩ := info_of info_int
  have hnil := fun (W : World) (a : Option Addr) (n c : Nat) => Lib.run_eql_slice_nil (P := Try.prog) W 64 3 a n c 0 0 Try.underlying64
  rcases hA with rfl | ⟨b, o, rfl⟩
  · have hl : l = [] := by
      rcases Nat.eq_zero_or_pos n with h | h
      · have := hR.1
        rw [i64s_len] at this
        exact List.eq_nil_of_length_eq_zero (by omega)
      · obtain ⟨b, o, h, _⟩ := hR.at_ h
        cases h
    subst hl
    clear hR
    go_enter Try.func36, Try.ntmps36
    go_wp2
    go_ret
    exact ⟨none, 0, 0, rfl, Rd.nil _, fun b o h => (by cases h), Below.refl _ _⟩
  · have HR := Lib.hid hR
    clear hR
    go_enter Try.func36, Try.ntmps36
    go_wp2_with (at_builtin; refine wpList_add _ rfl (.tmp 5) (.tmp 6) _ rfl w.heap.size 3 i0 _ 8 Try.underlying64 hi0 hz0 hz1 hz2 rfl _ 0 [] rfl (emptied w _) (some ⟨b, o, none⟩) n c (i64s l) rfl (HR.out.alloc _) (i64s_one _) (by omega) (by omega) (size_alloc _ _) ?_; intro A2 n2 c2 w2 hn2 hown2 hg2 hat2; have hb2 := below_add ((Below.refl w.heap.size w).alloc (Nat.le_refl _) _) (emptied w _) (Nat.le_refl _) hg2)
    go_ret
    have h3 : w2.ownsRow w.heap.size 3 1 (.slice A2 n2 c2) n2 (i64s l) := by simpa using hown2
    exact ⟨A2, n2, c2, rfl, Rd.own h3, fun b o hA => (h3.lt b (by rw [hA]; rfl)).1, hb2⟩
theorem own_addr {xs : List Value} {e : TypeId} (h : w.ownsRow B e 1 (.slice A n c) n xs) : A = none ∨ ∃ b o, A = some ⟨b, o, none⟩ := by
  rcases h.2 with ⟨hv, h0⟩ | ⟨g, cap, cur, hv, _⟩
  · simp only [Value.slice.injEq] at hv
    exact .inl hv.1
  · simp only [Value.slice.injEq] at hv
    exact .inr ⟨g, 0, hv.1⟩
set_option maxRecDepth 100000 in
theorem queue_has (hB : Blk w q 124 [.int .i64 d, .slice A n c]) (hO : w.ownsRow B 3 1 (.slice A n c) n (i64s l)) (hn : n ≤ 100) :
    Calls Try.prog 108 #[.pointer (some ⟨q, 0, none⟩)] w (News w l) := by
  have c1 := hB.cell (i := 1) rfl
  have HC := Lib.hid (clone_any (Rd.own hO) (own_addr hO) hn)
  clear hB hO
  go_enter Try.func108, Try.ntmps108
  go_wp2_with fail
  refine HC.out.mono ?_
  rintro e w1 ⟨A1, n1, c1, rfl, h1, h2, h3⟩
  have H := Lib.hid h1
  clear h1
  go_wp2
  go_ret
  exact ⟨A1, n1, c1, rfl, H.out, h2, h3⟩
set_option maxRecDepth 100000 in
theorem queue_send_full (hB : Blk w q 124 [.int .i64 (n : Nat), .slice A n c]) (y : Int) :
    Calls Try.prog 109 #[.pointer (some ⟨q, 0, none⟩), .int .i64 y] w fun e w' => e = .returned (.bool false) ∧ Below w.heap.size w w' := by
  have c0 := hB.cell (i := 0) rfl
  have c1 := hB.cell (i := 1) rfl
  clear hB
  go_enter Try.func109, Try.ntmps109
  go_wp2_with fail
  go_quiet (fail)
  go_wp2
  go_ret
  exact ⟨rfl, bel_drewN (Below.refl _ _) _⟩
set_option maxRecDepth 100000 in
theorem queue_send_yes (hB : Blk w q 124 [.int .i64 d, .slice A n c]) (hO : w.ownsRow B 3 1 (.slice A n c) n (i64s l)) (hq : ∀ g, (Value.slice A n c).ownBlock = some g → g ≠ q) (hd : ¬ (n : Int) = d) (hn : n ≤ 100) (hb : B ≤ w.heap.size) (y : Int) :
    Calls Try.prog 109 #[.pointer (some ⟨q, 0, none⟩), .int .i64 y] w fun e w' => e = .returned (.bool true) ∧
      ∃ A' n' c', Blk w' q 124 [.int .i64 d, .slice A' n' c'] ∧ w'.ownsRow B 3 1 (.slice A' n' c') n' (i64s (l ++ [y])) ∧ Keep (fun i => i = q ∨ (Value.slice A n c).ownBlock = some i) w w' ∧
        ∀ g, (Value.slice A' n' c').ownBlock = some g → (Value.slice A n c).ownBlock = some g ∨ (w.heap.size ≤ g ∧ g < w'.heap.size) := by
  obtain ⟨i0, hi0, hz0, hz1, hz2⟩ := info_of info_int
  have c0 := hB.cell (i := 0) rfl
  have c1 := hB.cell (i := 1) rfl
  have HB := Lib.hid hB
  have HO := Lib.hid hO
  have HQ := Lib.hid hq
  have hql := hB.lt
  have hd' : ((n : Int) == d) = false := by simpa using hd
  clear hB hO hq
  go_enter Try.func109, Try.ntmps109
  go_wp2_with fail
  go_quiet (fail)
  have HOd := Lib.hid (show (w.drewN nq).ownsRow B 3 1 (.slice A n c) n (i64s l) from HO.out)
  have hnn : n ≤ 9223372036854775807 := by omega
  go_wp2_with (at_builtin; refine wpList_add _ rfl (.tmp 19) (.tmp 21) _ rfl B 3 i0 _ 8 Try.underlying64 hi0 hz0 hz1 hz2 rfl _ n (i64s l) rfl (own_below HOd.out ((Below.refl _ _).alloc (Nat.le_refl _) _)) (some ⟨w.heap.size, 0, none⟩) 1 1 (i64s [y]) rfl (rd_one (w.drewN nq) y) (i64s_one _) (by omega) (by omega) (by simp; omega) ?_; intro A2 n2 c2 w2 hn2 hown2 hg2 hat2; have HK2 := Lib.hid (grown_keep hg2); have HB2 := Lib.hid (HK2.out.blk HB.out (fun h => HQ.out q h rfl)); have HO2 := Lib.hid hown2; have HA2 := Lib.hid hat2; have e1 := HB2.out.cell (i := 1) rfl; have f1 := HB2.out.frozen 1; clear c0 c1 hown2 hat2 hg2)
  go_ret
  have hs2 := HK2.out.size
  have hsa : ((w.drewN nq).alloc (.cells #[.int .i64 y] 3)).heap.size = w.heap.size + 1 := by simp
  have hne : ∀ g, (Value.slice A2 n2 c2).ownBlock = some g → (Value.slice A n c).ownBlock = some g ∨ (w.heap.size ≤ g ∧ g < w2.heap.size) := fun g hg => by
    rcases HA2.out with h | h
    · exact .inl (h ▸ hg)
    · have := (HO2.out.lt g hg).2
      rw [h] at hg
      injection hg with hg
      exact .inr ⟨by omega, this⟩
  refine ⟨rfl, A2, n2, c2, HB2.out.set 1 _, ?_, (HK2.out.mono fun _ _ h => .inr h).trans (Keep.set (F := fun i => i = q ∨ (Value.slice A n c).ownBlock = some i) _ _ _ (.inl rfl)) fun k hk => .inl hk, fun g hg => (hne g hg).imp id fun h => ⟨h.1, by simpa using h.2⟩⟩
  refine own_other (by rw [← i64s_app]; exact HO2.out) fun g hg => ?_
  rcases hne g hg with h | h
  · exact HQ.out g h
  · omega
set_option maxRecDepth 100000 in
theorem queue_get_no (hB : Blk w q 124 [.int .i64 d, .slice A 0 c]) :
    Calls Try.prog 107 #[.pointer (some ⟨q, 0, none⟩)] w fun e w' => e = .returned (.tuple #[.int .i64 0, .bool false]) ∧ Below w.heap.size w w' := by
  have c1 := hB.cell (i := 1) rfl
  clear hB
  go_enter Try.func107, Try.ntmps107
  go_wp2
  go_ret2
  exact ⟨rfl, Below.refl _ _⟩
set_option maxRecDepth 100000 in
theorem queue_get_yes (hB : Blk w q 124 [.int .i64 d, .slice (some ⟨g, 0, none⟩) n c]) (hO : w.ownsRow B 3 1 (.slice (some ⟨g, 0, none⟩) n c) n (i64s (x :: l))) (hq : g ≠ q) :
    Calls Try.prog 107 #[.pointer (some ⟨q, 0, none⟩)] w fun e w' => e = .returned (.tuple #[.int .i64 x, .bool true]) ∧
      ∃ m, Blk w' q 124 [.int .i64 d, .slice (some ⟨g, 0, none⟩) m c] ∧ w'.ownsRow B 3 1 (.slice (some ⟨g, 0, none⟩) m c) m (i64s l) ∧ Keep (fun i => i = q ∨ i = g) w w' := by
  have hl : l.length + 1 = n := own_len (l := x :: l) hO
  have c1 := hB.cell (i := 1) rfl
  have g0 : w.cell? ⟨g, 0, none⟩ = some (.int .i64 x) := by
    have h1 := hO.cells (g := g) rfl 0 _ rfl
    rw [Addr.add_lit] at h1
    exact h1
  have HD := Lib.hid (delete_any hO)
  have HB := Lib.hid hB
  obtain ⟨m, rfl⟩ : ∃ m, n = m + 1 := ⟨n - 1, by omega⟩
  have hz : ((m : Int) + 1 == 0) = false := by simp; omega
  clear hB hO hl
  go_enter Try.func107, Try.ntmps107
  go_wp2_with (go_at_call 110; refine HD.out.mono ?_; rintro e w1 ⟨m, rfl, h1, h2⟩; have HO1 := Lib.hid h1; have HK1 := Lib.hid h2; have HB1 := Lib.hid (h2.blk HB.out (fun e => hq e.symm)); have e1 := HB1.out.cell (i := 1) rfl; have f1 := HB1.out.frozen 1; clear c1 g0 h1 h2)
  go_ret2
  refine ⟨rfl, _, HB1.out.set 1 _, own_other HO1.out (fun g' hg => by injection hg with hg; exact hg ▸ hq), (HK1.out.mono fun _ _ h => .inr h).trans (Keep.set (F := fun i => i = q ∨ i = g) _ _ _ (.inl rfl)) fun k hk => .inl hk⟩
end
end Go.Proofs.Ytegnehdfedfphaa.PrtC
namespace Go.Proofs.Ytegnehdfedfphaa.PrtD
open Go.RowKit Go.Proofs.Ytegnehdfedfphaa.Kit Go.Proofs.Ytegnehdfedfphaa.Byt Go.Proofs.Ytegnehdfedfphaa.Mem Go.Proofs.Ytegnehdfedfphaa.TabI Go.Proofs.Ytegnehdfedfphaa.PrtM Go.Proofs.Ytegnehdfedfphaa.PrtA Go.Proofs.Ytegnehdfedfphaa.PrtB Go.Proofs.Ytegnehdfedfphaa.PrtC
open Go.Proofs.Ytegnehdfedfphaa.TabA (Tri Tris)

section
variable {B S n c k : Nat} {w : World} {ρ : Nat → Lab} {A : Option Addr} {Q : Nat → Nat} {C : List Tri} {L : Nat → List Int} {r : Tri}
/-- What a call on a channel leaves. -/
def Lft (B : Nat) (w : World) (ρ : Nat → Lab) (S : Nat) (A : Option Addr) (n c : Nat) (Q : Nat → Nat) (C : List Tri) (L : Nat → List Int) (v : Value) (e : Ending) (w' : World) : Prop :=
  e = .returned v ∧ ∃ ρ', Chs B w' ρ' S A n c Q C L ∧ Stp Prog w ρ w' ρ'
theorem stp_mine (h : Bd B w ρ) {w' : World} (hk : Keep (fun i => Mine k (ρ i)) w w') : Stp (Mine k) w ρ w' ρ := ⟨hk, fun _ _ => rfl, fun i hi => .inl (Classical.byContradiction fun hn => by have := (h i hn).2; omega)⟩
theorem Lft.same (h : Chs B w ρ S A n c Q C L) (v : Value) {w' : World} (hb : Below w.heap.size w w') : Lft B w ρ S A n c Q C L v (.returned v) w' := ⟨rfl, ρ, h.below hb, Stp.of_below h.bd hb⟩
theorem Lft.below {v : Value} {e : Ending} {w' : World} (h : Chs B w ρ S A n c Q C L) (H : Lft B w ρ S A n c Q C L v e w') : Below B w w' := by
  obtain ⟨_, ρ', _, hs⟩ := H
  exact hs.below h.bd (fun h => h) h.base
theorem cont_send (h : Chs B w ρ S A n c Q C L) (hr : C[k]? = some r) (y : Int) :
    Calls Try.prog (if r.c = 0 then 105 else 109) #[.pointer (some ⟨Q k, 0, none⟩), .int .i64 y] w (Lft B w ρ S A n c Q C (up L k (sndL r.c (L k) y)) (.bool (!full r.c (L k)))) := by
  obtain ⟨e1, hc⟩ := h.head k r hr
  have hr4 := (h.ok r (List.mem_of_getElem? hr)).2
  rcases hc with ⟨h0, x, b, h1, h2, h3⟩ | ⟨h0, A1, n1, c1, h1, h2, h3, h4⟩
  · rw [if_pos h0]
    refine (samp_send h1 y).mono ?_
    rintro e w' ⟨rfl, hB, ho⟩
    have hs := stp_mine h.bd (k := k) (Keep.only (F := fun i => Mine k (ρ i)) ho (.inl e1))
    refine ⟨by rw [h0]; rfl, ρ, h.turn hr hs (.inl ⟨h0, y, true, hB, fun _ => by unfold sndL; rw [if_pos h0], fun h => by cases h⟩), hs.mono fun _ h => h.prog⟩
  · rw [if_neg h0]
    have hln := own_len h2
    have hq : ∀ g, (Value.slice A1 n1 c1).ownBlock = some g → g ≠ Q k := fun g hg e => by
      have h5 := h4 g hg
      rw [e, e1] at h5
      cases h5
    by_cases hd : (n1 : Int) = r.c
    · have hf : full r.c (L k) = true := by unfold full; rw [hln]; simp [h0, hd]
      rw [← hd] at h1
      refine (queue_send_full h1 y).mono ?_
      rintro e w' ⟨rfl, hb⟩
      have hu : up L k (sndL r.c (L k) y) = L := by rw [sndL, if_neg h0, if_pos hf, up_self]
      rw [hu, hf]
      exact Lft.same h _ hb
    · have hf : full r.c (L k) = false := by unfold full; rw [hln]; simp [hd]
      refine (queue_send_yes h1 h2 hq hd (by omega) h.base y).mono ?_
      rintro e w' ⟨rfl, A2, n2, c2, hB, hO, hk, hg⟩
      have hl2 := own_len hO
      have hmine : ∀ g, (Value.slice A1 n1 c1).ownBlock = some g → Mine k (ρ g) := fun g hg => .inr (h4 g hg)
      obtain ⟨ρ', hρ'⟩ : ∃ ρ' : Nat → Lab, ρ' = fun i => if w.heap.size ≤ i ∧ (Value.slice A2 n2 c2).ownBlock = some i then .row k else ρ i := ⟨_, rfl⟩
      have hs : Stp (Mine k) w ρ w' ρ' := ⟨hk.mono fun i _ hi => by
          rcases hi with rfl | hi
          · exact .inl e1
          · exact hmine i hi, fun i hi => by rw [hρ']; exact if_neg (by omega), fun i hi => by
          rw [hρ']
          by_cases hx : w.heap.size ≤ i ∧ (Value.slice A2 n2 c2).ownBlock = some i
          · refine .inr ?_
            simp only [if_pos hx]
            exact ⟨.inr rfl, (hO.lt i hx.2).2⟩
          · refine .inl ?_
            simp only [if_neg hx]
            exact Classical.byContradiction fun hn => by have := (h.bd i hn).2; omega⟩
      refine ⟨by rw [hf]; rfl, ρ', h.turn hr hs (.inr ⟨h0, A2, n2, c2, hB, ?_, ?_, fun g hg2 => ?_⟩), hs.mono fun _ h => h.prog⟩
      · rw [sndL, if_neg h0, if_neg (by rw [hf]; simp)]
        exact hO
      · rw [List.length_append, List.length_singleton] at hl2
        omega
      · rw [hρ']
        rcases hg g hg2 with h5 | h5
        · show (if _ then _ else _) = _
          split
          · rfl
          · exact h4 g h5
        · exact if_pos ⟨h5.1, hg2⟩
theorem cont_get (h : Chs B w ρ S A n c Q C L) (hr : C[k]? = some r) :
    Calls Try.prog (if r.c = 0 then 103 else 107) #[.pointer (some ⟨Q k, 0, none⟩)] w (Lft B w ρ S A n c Q C (up L k (getL r.c (L k))) (.tuple #[.int .i64 (getN (L k)), .bool (getB (L k))])) := by
  obtain ⟨e1, hc⟩ := h.head k r hr
  rcases hc with ⟨h0, x, b, h1, h2, h3⟩ | ⟨h0, A1, n1, c1, h1, h2, h3, h4⟩
  · rw [if_pos h0]
    refine (samp_get h1).mono ?_
    rintro e w' ⟨rfl, hb⟩
    have hu : up L k (getL r.c (L k)) = L := by rw [getL, if_pos h0, up_self]
    have hv : Value.tuple #[.int .i64 x, .bool b] = .tuple #[.int .i64 (getN (L k)), .bool (getB (L k))] := by
      cases b with
      | true => rw [h2 rfl]; rfl
      | false => rw [(h3 rfl).1, (h3 rfl).2]; rfl
    rw [hu, hv]
    exact Lft.same h _ hb
  · rw [if_neg h0]
    have hln := own_len h2
    have hq : ∀ g, (Value.slice A1 n1 c1).ownBlock = some g → g ≠ Q k := fun g hg e => by
      have h5 := h4 g hg
      rw [e, e1] at h5
      cases h5
    cases hL : L k with
    | nil =>
      obtain rfl : n1 = 0 := by rw [← hln, hL]; rfl
      refine (queue_get_no h1).mono ?_
      rintro e w' ⟨rfl, hb⟩
      have hu : up L k (getL r.c []) = L := by rw [getL, if_neg h0]; show up L k [] = L; rw [← hL, up_self]
      rw [hu]
      exact Lft.same h _ hb
    | cons x l =>
      rw [hL] at h2
      obtain ⟨g, cur, hA1, _⟩ := own_int h2 (by rw [← hln, hL]; simp)
      subst hA1
      refine (queue_get_yes h1 h2 (hq g rfl)).mono ?_
      rintro e w' ⟨rfl, m, hB, hO, hk⟩
      have hs := stp_mine h.bd (k := k) (hk.mono (G := fun i => Mine k (ρ i)) fun i _ hi => by
        rcases hi with rfl | rfl
        · exact .inl e1
        · exact .inr (h4 _ rfl))
      have hl2 := own_len hO
      have hl3 := own_len h2
      refine ⟨rfl, ρ, h.turn hr hs (.inr ⟨h0, _, m, _, hB, ?_, ?_, fun g' hg' => h4 g' hg'⟩), hs.mono fun _ h => h.prog⟩
      · rw [getL, if_neg h0]; exact hO
      · simp at hl3; omega
theorem cont_has (h : Chs B w ρ S A n c Q C L) (hr : C[k]? = some r) :
    Calls Try.prog (if r.c = 0 then 104 else 108) #[.pointer (some ⟨Q k, 0, none⟩)] w (News w (L k)) := by
  obtain ⟨e1, hc⟩ := h.head k r hr
  have hr4 := (h.ok r (List.mem_of_getElem? hr)).2
  rcases hc with ⟨h0, x, b, h1, h2, h3⟩ | ⟨h0, A1, n1, c1, h1, h2, h3, h4⟩
  · rw [if_pos h0]
    have hL : L k = if b = true then [x] else [] := by
      cases b with
      | true => rw [h2 rfl]; rfl
      | false => rw [(h3 rfl).1]; rfl
    rw [hL]
    exact samp_has h1
  · rw [if_neg h0]
    exact queue_has h1 h2 (by omega)
end
end Go.Proofs.Ytegnehdfedfphaa.PrtD
