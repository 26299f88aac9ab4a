/- The program's load, store, jump, zero, confirm and on. Conditions: what is worked on lies as the facts say; a memory of at most 16 words. A frame table in plain terms, and as it lies in memory; a table that came in. No conditions but those each law names. When a table is right: the code's four questions. Conditions: the table lies as the facts say. -/
import Derived.Test.YtegnehdfedfphaaJ01
import Derived.Deep.RegionHeld3
import Derived.Deep.RegionWith
import Derived.Deep.Slices
import Derived.Deep.Fields
import Derived.Deep.Strs
import Derived.WideShapes
namespace Go.Proofs.Ytegnehdfedfphaa.VmcD
open Go.RowKit Go.Proofs.Ytegnehdfedfphaa.Kit Go.Proofs.Ytegnehdfedfphaa.Byt Go.Proofs.Ytegnehdfedfphaa.Mem Go.Proofs.Ytegnehdfedfphaa.VmcM Go.Proofs.Ytegnehdfedfphaa.VmcA Go.Proofs.Ytegnehdfedfphaa.VmcB
open Go.Proofs.Ytegnehdfedfphaa.ImgA (Im)
open Go.Proofs.Ytegnehdfedfphaa.BitA (i64s)
open Go.Proofs.Ytegnehdfedfphaa.BitM (hb)

theorem Only.of_drew' {g : Nat} {w w' : World} (h : Only g w.drew w') : Only g w w' := ⟨⟨h.1.os, h.1.tape, h.1.output, h.1.size, h.1.block⟩, h.2⟩
section
variable {v : V} {i : Im} {P : Value} {o b : Nat} {e : Bool} {w : World} {a : Nat}
set_option maxRecDepth 100000 in
theorem load_any (h : v.ok) (hB : Wb w b v i P o e) (hm : i.m ≤ 16) (a : Nat) : Calls Try.prog 65 #[.pointer (some ⟨b, 0, none⟩), .int .i64 a] w (Did b i P o w (.tuple #[]) (loa i a v) e) := by
  have c31 : w.cell? ⟨b, 31, none⟩ = some (.int .i64 i.m) := hB.tail h (k := 3) rfl
  obtain ⟨m, hm0⟩ : ∃ m, m = i.m := ⟨_, rfl⟩
  rw [← hm0] at c31
  by_cases hlt : (a : Int) < i.m
  · have hk := hB.at_ h (sc_m h (k := a) (by omega))
    have e1 : loa i a v = lay (v.m.getD a 0) v := if_pos hlt
    obtain ⟨x, hx⟩ : ∃ x, x = v.m.getD a 0 := ⟨_, rfl⟩
    rw [← hx] at hk e1
    rw [e1]
    have HL := Lib.hid (lay_any h hB x)
    have h16 : (a : Int) < 16 := by omega
    have hlt' : (a : Int) < m := by omega
    clear hB h e1 hx hm hm0 hlt
    go_enter Try.func65, Try.ntmps65
    go_wp2_with fail
    refine (need_yes _ _ _).mono ?_
    rintro en w1 ⟨rfl, rfl⟩
    go_wp2_with fail
    refine HL.out.mono ?_
    rintro en w1 ⟨rfl, p1, q1⟩
    have P1 := Lib.hid p1
    have Q1 := Lib.hid q1
    clear p1 q1
    go_wp2
    first | go_end0 | refine bodyPost_ret (results_none rfl _ _ _) rfl ?_
    exact ⟨rfl, P1.out, Q1.out⟩
  · have e1 : loa i a v = need false 3 v := if_neg hlt
    rw [e1]
    have HN := Lib.hid (need_any h hB false 3)
    have hlt' : ¬ (a : Int) < m := by omega
    clear hB h e1 hm hm0 hlt
    go_enter Try.func65, Try.ntmps65
    go_wp2_with fail
    refine HN.out.mono ?_
    rintro en w1 ⟨rfl, p1, q1⟩
    have P1 := Lib.hid p1
    have Q1 := Lib.hid q1
    clear p1 q1
    go_wp2
    first | go_end0 | refine bodyPost_ret (results_none rfl _ _ _) rfl ?_
    exact ⟨rfl, P1.out, Q1.out⟩
set_option maxRecDepth 100000 in
theorem store_any (h : v.ok) (hB : Wb w b v i P o e) (hm : i.m ≤ 16) (a : Nat) : Calls Try.prog 66 #[.pointer (some ⟨b, 0, none⟩), .int .i64 a] w (Did b i P o w (.tuple #[]) (stor i a v) e) := by
  have c31 : w.cell? ⟨b, 31, none⟩ = some (.int .i64 i.m) := hB.tail h (k := 3) rfl
  obtain ⟨m, hm0⟩ : ∃ m, m = i.m := ⟨_, rfl⟩
  rw [← hm0] at c31
  by_cases hlt : (a : Int) < i.m
  · have e1 : stor i a v = { takeV v with m := (takeV v).m.set a (takeN v) } := if_pos hlt
    have h16 : (a : Int) < 16 := by omega
    have h16n : a < 16 := by omega
    have hlt' : (a : Int) < m := by omega
    rw [e1]
    obtain ⟨x, hx⟩ : ∃ x, x = takeN v := ⟨_, rfl⟩
    obtain ⟨u, hu⟩ : ∃ u, u = takeV v := ⟨_, rfl⟩
    have ku : u.ok := hu ▸ h.takeV
    have T1 := fun w' (hw : Wb w' b v i P o e) => take_any h hw
    rw [← hx, ← hu] at T1 ⊢
    have HT1 := Lib.hid T1
    have HB := Lib.hid (show Wb w.drew b v i P o e from hB)
    clear T1 hx hu hB h e1 hm hm0 hlt
    go_enter Try.func66, Try.ntmps66
    go_wp2_with fail
    refine (need_yes _ _ _).mono ?_
    rintro en w1 ⟨rfl, rfl⟩
    go_wp2_with fail
    go_region_with (go_at_call 76; refine (HT1.out _ HB.out).mono ?_; rintro en w2 ⟨rfl, p1, q1⟩; have ca := p1.at_ ku (sc_m ku h16n); have cz := p1.frozen (10 + a); have P1 := Lib.hid (p1.put ku (k := 10 + a) (by omega) (set_m ku h16n x)); have Q1 := Lib.hid (Only.of_drew' q1); clear p1 q1)
    first | go_end0 | refine bodyPost_ret (results_none rfl _ _ _) rfl ?_
    exact ⟨rfl, P1.out, Q1.out.trans (Only.set _ b (10 + a) _)⟩
  · have e1 : stor i a v = need false 3 v := if_neg hlt
    rw [e1]
    have HN := Lib.hid (need_any h hB false 3)
    have hlt' : ¬ (a : Int) < m := by omega
    clear hB h e1 hm hm0 hlt
    go_enter Try.func66, Try.ntmps66
    go_wp2_with fail
    refine HN.out.mono ?_
    rintro en w1 ⟨rfl, p1, q1⟩
    have P1 := Lib.hid p1
    have Q1 := Lib.hid q1
    clear p1 q1
    go_wp2
    first | go_end0 | refine bodyPost_ret (results_none rfl _ _ _) rfl ?_
    exact ⟨rfl, P1.out, Q1.out⟩
set_option maxRecDepth 100000 in
theorem jump_any (h : v.ok) (hB : Wb w b v i P o e) (hn : i.n ≤ 1000) (a : Nat) : Calls Try.prog 67 #[.pointer (some ⟨b, 0, none⟩), .int .i64 a] w (Did b i P o w (.tuple #[]) (jmp i a v) e) := by
  have c35 : w.cell? ⟨b, 35, none⟩ = some (.slice i.A i.n i.c) := hB.tail h (k := 7) rfl
  have HN := Lib.hid (show ∀ t, t = decide ((a : Int) < (i.n : Int)) → Calls Try.prog 75 #[.pointer (some ⟨b, 0, none⟩), .bool t, .int .i64 3] w (Did b i P o w (.bool t) (need (decide ((a : Int) < (i.n : Int))) 3 v) e) from fun t ht => by rw [← ht]; exact need_any h hB t 3)
  unfold jmp
  obtain ⟨A, hA⟩ : ∃ A, A = i.A := ⟨_, rfl⟩
  obtain ⟨c, hc⟩ : ∃ c, c = i.c := ⟨_, rfl⟩
  obtain ⟨n, hn'⟩ : ∃ n, n = i.n := ⟨_, rfl⟩
  rw [← hA, ← hc, ← hn'] at c35
  rw [← hn'] at HN ⊢
  have hn64 : n ≤ 1000 := by omega
  obtain ⟨u, hu⟩ : ∃ u, u = need (decide ((a : Int) < (n : Int))) 3 v := ⟨_, rfl⟩
  rw [← hu] at HN ⊢
  have ku : u.ok := hu ▸ h.need _ _
  clear hB h hA hc hn' hn hu
  go_enter Try.func67, Try.ntmps67
  go_wp2_with fail
  refine (HN.out _ (by simp)).mono ?_
  rintro en w1 ⟨rfl, p1, q1⟩
  have k0 := p1.at_ ku (sc_pc u)
  have z0 := p1.frozen 0
  have P1 := Lib.hid (p1.put ku (by omega) (set_pc u a))
  have Q1 := Lib.hid q1
  clear p1 q1
  go_wp2
  first | go_end0 | refine bodyPost_ret (results_none rfl _ _ _) rfl ?_
  exact ⟨rfl, P1.out, Q1.out.trans (Only.set _ b 0 _)⟩
set_option maxRecDepth 100000 in
theorem zero_any (h : v.ok) (hB : Wb w b v i P o e) (hn : i.n ≤ 1000) (a : Nat) : Calls Try.prog 68 #[.pointer (some ⟨b, 0, none⟩), .int .i64 a] w (Did b i P o w (.tuple #[]) (zer i a v) e) := by
  have c35 : w.cell? ⟨b, 35, none⟩ = some (.slice i.A i.n i.c) := hB.tail h (k := 7) rfl
  have HN := Lib.hid (show ∀ t, t = decide ((a : Int) < (i.n : Int)) → Calls Try.prog 75 #[.pointer (some ⟨b, 0, none⟩), .bool t, .int .i64 3] w (Did b i P o w (.bool t) (need (decide ((a : Int) < (i.n : Int))) 3 v) e) from fun t ht => by rw [← ht]; exact need_any h hB t 3)
  unfold zer
  obtain ⟨A, hA⟩ : ∃ A, A = i.A := ⟨_, rfl⟩
  obtain ⟨c, hc⟩ : ∃ c, c = i.c := ⟨_, rfl⟩
  obtain ⟨n, hn'⟩ : ∃ n, n = i.n := ⟨_, rfl⟩
  rw [← hA, ← hc, ← hn'] at c35
  rw [← hn'] at HN ⊢
  have hn64 : n ≤ 1000 := by omega
  obtain ⟨u, hu⟩ : ∃ u, u = need (decide ((a : Int) < (n : Int))) 3 v := ⟨_, rfl⟩
  rw [← hu] at HN ⊢
  have ku : u.ok := hu ▸ h.need _ _
  obtain ⟨x, hx⟩ : ∃ x, x = takeN u := ⟨_, rfl⟩
  obtain ⟨u2, hu2⟩ : ∃ u2, u2 = takeV u := ⟨_, rfl⟩
  have ku2 : u2.ok := hu2 ▸ ku.takeV
  have HT := Lib.hid (show ∀ w', Wb w' b u i P o e → Calls Try.prog 76 #[.pointer (some ⟨b, 0, none⟩)] w' (Did b i P o w' (.int .i64 x) u2 e) from fun w' hw => by have T2 := take_any ku hw; rwa [← hx, ← hu2] at T2)
  dsimp only
  rw [← hx, ← hu2]
  clear hB h hA hc hn' hn hu hx hu2
  by_cases h0 : x = 0
  · rw [if_pos h0]
    go_enter Try.func68, Try.ntmps68
    go_wp2_with fail
    refine (HN.out _ (by simp)).mono ?_
    rintro en w1 ⟨rfl, p1, q1⟩
    have P1 := Lib.hid p1
    have Q1 := Lib.hid q1
    clear p1 q1
    go_wp2_with fail
    refine (HT.out _ P1.out).mono ?_
    rintro en w2 ⟨rfl, p1, q1⟩
    have k0 := p1.at_ ku2 (sc_pc u2)
    have z0 := p1.frozen 0
    have P2 := Lib.hid (p1.put ku2 (by omega) (set_pc u2 a))
    have Q2 := Lib.hid q1
    clear p1 q1
    go_wp2
    first | go_end0 | refine bodyPost_ret (results_none rfl _ _ _) rfl ?_
    exact ⟨rfl, P2.out, (Q1.out.trans Q2.out).trans (Only.set _ b 0 _)⟩
  · rw [if_neg h0]
    go_enter Try.func68, Try.ntmps68
    go_wp2_with fail
    refine (HN.out _ (by simp)).mono ?_
    rintro en w1 ⟨rfl, p1, q1⟩
    have P1 := Lib.hid p1
    have Q1 := Lib.hid q1
    clear p1 q1
    go_wp2_with fail
    refine (HT.out _ P1.out).mono ?_
    rintro en w2 ⟨rfl, p1, q1⟩
    have P2 := Lib.hid p1
    have Q2 := Lib.hid q1
    clear p1 q1
    go_wp2
    first | go_end0 | refine bodyPost_ret (results_none rfl _ _ _) rfl ?_
    exact ⟨rfl, P2.out, Q1.out.trans Q2.out⟩
theorem min64 {k : Nat} (hk : k ≤ 255) (s : Int) (h0 : 0 ≤ s) (h15 : s ≤ 15) : (bits .and .i64 (s / 2 ^ min k 64) 1 == 1) = hb s k := by
  by_cases h : k ≤ 15
  · rw [Nat.min_eq_left (by omega)]
    exact BitO.shr_has s h
  · have e : hb s k = false := by
      unfold hb
      simp
      omega
    have e2 : s / 2 ^ min k 64 = 0 := by
      have h2 : (16 : Int) ≤ 2 ^ min k 64 := by
        have := Nat.pow_le_pow_right (n := 2) (by omega) (show 4 ≤ min k 64 by omega)
        have h3 : ((2 ^ 4 : Nat) : Int) ≤ ((2 ^ min k 64 : Nat) : Int) := by exact_mod_cast this
        simpa using h3
      exact Int.ediv_eq_zero_of_lt h0 (by omega)
    rw [e, e2, BitO.and1]
    rfl
theorem on_any (s : Int) (k : Nat) (w : World) (hk : k ≤ 255) (h0 : 0 ≤ s) (h15 : s ≤ 15) : Calls Try.prog 78 #[.int .i64 s, .int .i64 k] w fun e w' => e = .returned (.bool (hb s k)) ∧ w' = w := by
  go_enter Try.func78, Try.ntmps78
  go_wp2
  go_ret
  exact ⟨BitM.ret_b (min64 hk s h0 h15), rfl⟩
end
end Go.Proofs.Ytegnehdfedfphaa.VmcD
namespace Go.Proofs.Ytegnehdfedfphaa.TabA
open Go.RowKit Go.Proofs.Ytegnehdfedfphaa.Kit Go.Proofs.Ytegnehdfedfphaa.Byt Go.Proofs.Ytegnehdfedfphaa.Mem

/-- Three numbers: a partition, a window, or a channel. -/
structure Tri where
  a : Int
  b : Int
  c : Int
instance : Inhabited Tri := ⟨⟨0, 0, 0⟩⟩
def Tri.cells (r : Tri) : List Value := [.int .i64 r.a, .int .i64 r.b, .int .i64 r.c]
structure Tri.ok (r : Tri) : Prop where
  a0 : -9223372036854775808 ≤ r.a
  a1 : r.a ≤ 9223372036854775807
  b0 : -9223372036854775808 ≤ r.b
  b1 : r.b ≤ 9223372036854775807
  c0 : -9223372036854775808 ≤ r.c
  c1 : r.c ≤ 9223372036854775807
/-- The slice at A is these threes. -/
def Tris (w : World) (A : Option Addr) (n c : Nat) (R : List Tri) : Prop :=
  R.length = n ∧ n ≤ c ∧ c ≤ 9223372036854775807 ∧ (∀ r ∈ R, r.ok) ∧
  (0 < n → ∃ b o, A = some ⟨b, o, none⟩ ∧ b < w.heap.size ∧ ∀ k r, R[k]? = some r → ∀ j u, r.cells[j]? = some u → w.cell? ⟨b, o + k * 3 + j, none⟩ = some u)
theorem Tris.below {w w' : World} {A : Option Addr} {n c : Nat} {R : List Tri} (h : Tris w A n c R) (hb : Below w.heap.size w w') : Tris w' A n c R :=
  ⟨h.1, h.2.1, h.2.2.1, h.2.2.2.1, fun hp => by
    obtain ⟨b, o, hA, hbl, hc⟩ := h.2.2.2.2 hp
    exact ⟨b, o, hA, Nat.lt_of_lt_of_le hbl hb.size, fun k r hr j u hu => (hb.cell (p := ⟨b, o + k * 3 + j, none⟩) hbl).trans (hc k r hr j u hu)⟩⟩
/-- The k-th three's cells. -/
theorem Tris.at_ {w : World} {A : Option Addr} {n c : Nat} {R : List Tri} (h : Tris w A n c R) {k : Nat} (hk : k < n) :
    ∃ (r : Tri) (b o : Nat), R[k]? = some r ∧ r.ok ∧ A = some ⟨b, o, none⟩ ∧ b < w.heap.size ∧ w.cell? ⟨b, o + k * 3, none⟩ = some (.int .i64 r.a) ∧ w.cell? ⟨b, o + k * 3 + 1, none⟩ = some (.int .i64 r.b) ∧ w.cell? ⟨b, o + k * 3 + 2, none⟩ = some (.int .i64 r.c) := by
  obtain ⟨b, o, hA, hb, hc⟩ := h.2.2.2.2 (by omega)
  have hk' : k < R.length := by rw [h.1]; exact hk
  have hr := List.getElem?_eq_getElem hk'
  have hm := List.getElem_mem hk'
  exact ⟨R[k], b, o, hr, h.2.2.2.1 _ hm, hA, hb, hc k _ hr 0 _ rfl, hc k _ hr 1 _ rfl, hc k _ hr 2 _ rfl⟩
theorem Tris.le {w : World} {A : Option Addr} {n c : Nat} {R : List Tri} (h : Tris w A n c R) : n ≤ 9223372036854775807 := by have := h.2.1; have := h.2.2.1; omega
theorem Tris.nil (w : World) : Tris w none 0 0 [] := ⟨rfl, by omega, by omega, by simp, fun h => absurd h (by simp)⟩

set_option maxRecDepth 100000 in
theorem open_tris {H : Type} {enc : TypeId × Value → H} {w : World} {t e : TypeId} {f0 f1 f2 : Field} {fuel : Nat} {cs : List Value} {x : DataW H × List MemPlace}
    (ht : Try.prog.underlying t = some (.slice e)) (he : Try.prog.underlying e = some (.struct #[f0, f1, f2])) (hC : Try.prog.cellsOf e = 3)
    (g0 : f0.type = 3 ∧ f0.offset = 0) (g1 : f1.type = 3 ∧ f1.offset = 1) (g2 : f2.type = 3 ∧ f2.offset = 2)
    (h : DataW.trod enc Try.prog w 0 (fun _ => true) true fuel t cs = some x) : ∃ A n c R, cs = [.slice A n c] ∧ Tris w A n c R := by
  rcases Go.Deep.open_slice ht h with ⟨hcs, _⟩ | ⟨x, n, c, m, q, D, Pl, hcs, _, hl, hm, hmm, _, hi⟩
  · exact ⟨none, 0, 0, [], hcs, Tris.nil w⟩
  · have each : ∀ i, i < n → ∃ r : Tri, r.ok ∧ ∀ j u, r.cells[j]? = some u → w.cell? (x.add (i * 3 + j)) = some u := by
      intro i hin
      obtain ⟨cs', hc, ht⟩ := hi i (by rw [hmm]; simp; omega)
      rw [hC] at hc
      obtain ⟨y0, y1, y2, n', _, _, e0, e1, e2⟩ := Go.Deep.trod_struct3 he ht
      obtain ⟨_, hlen, hat⟩ := World.cells?_some hc
      match cs', hlen with
      | [c0, c1, c2], _ =>
        have ci : Try.prog.cellsOf 3 = 1 := by kernel_rfl
        rw [g0.1, g0.2, ci] at e0
        rw [g1.1, g1.2, ci] at e1
        rw [g2.1, g2.2, ci] at e2
        obtain ⟨v0, q0, _, w0⟩ := DataW.trod_int (x := y0) Try.underlying3 e0
        obtain ⟨v1, q1, _, w1⟩ := DataW.trod_int (x := y1) Try.underlying3 e1
        obtain ⟨v2, q2, _, w2⟩ := DataW.trod_int (x := y2) Try.underlying3 e2
        obtain rfl : c0 = _ := by simpa using q0
        obtain rfl : c1 = _ := by simpa using q1
        obtain rfl : c2 = _ := by simpa using q2
        have b0 := bounds_i64 w0
        have b1 := bounds_i64 w1
        have b2 := bounds_i64 w2
        refine ⟨⟨v0, v1, v2⟩, ⟨b0.1, b0.2, b1.1, b1.2, b2.1, b2.2⟩, fun j u hu => ?_⟩
        have hj : j < 3 := by
          have := (List.getElem?_eq_some_iff.1 hu).1
          simpa [Tri.cells] using this
        have := hat j hj
        rw [Go.Deep.add_add] at this
        rw [this]
        exact hu
    obtain ⟨f, hf2⟩ := Go.Deep.choose_lt each
    refine ⟨some x, n, c, (List.range n).map f, hcs, by simp, hl, by unfold maxLen at hm; omega, ?_, fun hp => ?_⟩
    · intro r hr
      simp only [List.mem_map, List.mem_range] at hr
      obtain ⟨i, hi', rfl⟩ := hr
      exact (hf2 i hi').1
    · obtain ⟨b, off, spot⟩ := x
      have hc0 := (hf2 0 hp).2 0 _ rfl
      have hspot : spot = none := by simpa [Addr.add] using World.cell?_spot hc0
      subst hspot
      refine ⟨b, off, rfl, ?_, fun k r hr j u hu => ?_⟩
      · have := block_lt_of_cell hc0
        simpa [Addr.add] using this
      · have hk : k < n := by
          have := (List.getElem?_eq_some_iff.1 hr).1
          simpa using this
        simp only [List.getElem?_map, List.getElem?_range hk, Option.map_some, Option.some.injEq] at hr
        subst hr
        have := (hf2 k hk).2 j u hu
        rw [Addr.add_lit] at this
        rw [Nat.add_assoc]
        exact this

/-- A table, and how it lies. -/
structure Ta where
  fr : Int
  A1 : Option Addr
  n1 : Nat
  c1 : Nat
  P : List Tri
  A2 : Option Addr
  n2 : Nat
  c2 : Nat
  W : List Tri
  A3 : Option Addr
  n3 : Nat
  c3 : Nat
  C : List Tri
  tr : Int
@[reducible] def Ta.val (t : Ta) : Value := .agg #[.int .i64 t.fr, .slice t.A1 t.n1 t.c1, .slice t.A2 t.n2 t.c2, .slice t.A3 t.n3 t.c3, .int .i64 t.tr]
def Ta.cells (t : Ta) : List Value := [.int .i64 t.fr, .slice t.A1 t.n1 t.c1, .slice t.A2 t.n2 t.c2, .slice t.A3 t.n3 t.c3, .int .i64 t.tr]
structure Ta.ok (w : World) (t : Ta) : Prop where
  P : Tris w t.A1 t.n1 t.c1 t.P
  W : Tris w t.A2 t.n2 t.c2 t.W
  C : Tris w t.A3 t.n3 t.c3 t.C
  f0 : -9223372036854775808 ≤ t.fr
  f1 : t.fr ≤ 9223372036854775807
  t0 : -9223372036854775808 ≤ t.tr
  t1 : t.tr ≤ 9223372036854775807
theorem Ta.ok.below {w w' : World} {t : Ta} (h : t.ok w) (hb : Below w.heap.size w w') : t.ok w' :=
  ⟨h.P.below hb, h.W.below hb, h.C.below hb, h.f0, h.f1, h.t0, h.t1⟩
theorem Ta.ok.alloc {w : World} {t : Ta} (h : t.ok w) (o : Obj) : t.ok (w.alloc o) := h.below ((Below.refl _ _).alloc (Nat.le_refl _) o)

set_option maxRecDepth 100000 in
theorem open_table {H : Type} {enc : TypeId × Value → H} {w : World} {base : Nat} {v : Value} {d : DataW H} {p : List MemPlace} (h : DataW.Trod enc Try.prog w 0 (fun _ => true) true 26 v d p) (o : Value.okWide Try.prog w .any base 26 v) :
    ∃ t : Ta, v = t.val ∧ t.ok w := by
  obtain ⟨cs, rfl, hs⟩ := Go.WideShapes.okWide_struct Try.underlying26 o
  obtain ⟨fuel, hf⟩ := h
  have hC : Try.prog.cellsOf 26 = 5 := by kernel_rfl
  rw [hC] at hs
  obtain ⟨cs, rfl⟩ : ∃ l : List Value, cs = l.toArray := ⟨cs.toList, by simp⟩
  have hcs : (Value.agg cs.toArray).cells.toList = cs := by simp [Value.cells]
  rw [hcs] at hf
  obtain ⟨ys, n', _, _, _, hyl, hfl⟩ := DataW.trod_struct Try.underlying26 hf
  match cs, hs with
  | [c0, c1, c2, c3, c4], _ =>
    have ci : Try.prog.cellsOf 3 = 1 := by kernel_rfl
    have cp : Try.prog.cellsOf 22 = 1 := by kernel_rfl
    have cw : Try.prog.cellsOf 23 = 1 := by kernel_rfl
    have cc : Try.prog.cellsOf 24 = 1 := by kernel_rfl
    match ys, hyl with
    | [y0, y1, y2, y3, y4], _ =>
      have e0 : DataW.trod enc Try.prog w 0 (fun _ => true) true n' 3 (([c0, c1, c2, c3, c4].drop 0).take (Try.prog.cellsOf 3)) = some y0 := hfl 0 _ rfl
      rw [ci] at e0
      have e1 : DataW.trod enc Try.prog w 0 (fun _ => true) true n' 22 (([c0, c1, c2, c3, c4].drop 1).take (Try.prog.cellsOf 22)) = some y1 := hfl 1 _ rfl
      rw [cp] at e1
      have e2 : DataW.trod enc Try.prog w 0 (fun _ => true) true n' 23 (([c0, c1, c2, c3, c4].drop 2).take (Try.prog.cellsOf 23)) = some y2 := hfl 2 _ rfl
      rw [cw] at e2
      have e3 : DataW.trod enc Try.prog w 0 (fun _ => true) true n' 24 (([c0, c1, c2, c3, c4].drop 3).take (Try.prog.cellsOf 24)) = some y3 := hfl 3 _ rfl
      rw [cc] at e3
      have e4 : DataW.trod enc Try.prog w 0 (fun _ => true) true n' 3 (([c0, c1, c2, c3, c4].drop 4).take (Try.prog.cellsOf 3)) = some y4 := hfl 4 _ rfl
      rw [ci] at e4
      obtain ⟨v0, q0, _, w0⟩ := DataW.trod_int (x := y0) Try.underlying3 e0
      obtain ⟨v4, q4, _, w4⟩ := DataW.trod_int (x := y4) Try.underlying3 e4
      obtain ⟨A1, n1, k1, R1, q1, h1⟩ := open_tris Try.underlying22 Try.underlying80 (by kernel_rfl) ⟨rfl, rfl⟩ ⟨rfl, rfl⟩ ⟨rfl, rfl⟩ e1
      obtain ⟨A2, n2, k2, R2, q2, h2⟩ := open_tris Try.underlying23 Try.underlying83 (by kernel_rfl) ⟨rfl, rfl⟩ ⟨rfl, rfl⟩ ⟨rfl, rfl⟩ e2
      obtain ⟨A3, n3, k3, R3, q3, h3⟩ := open_tris Try.underlying24 Try.underlying59 (by kernel_rfl) ⟨rfl, rfl⟩ ⟨rfl, rfl⟩ ⟨rfl, rfl⟩ e3
      obtain rfl : c0 = _ := by simpa using q0
      obtain rfl : c1 = _ := by simpa using q1
      obtain rfl : c2 = _ := by simpa using q2
      obtain rfl : c3 = _ := by simpa using q3
      obtain rfl : c4 = _ := by simpa using q4
      have b0 := bounds_i64 w0
      have b4 := bounds_i64 w4
      exact ⟨⟨v0, A1, n1, k1, R1, A2, n2, k2, R2, A3, n3, k3, R3, v4⟩, rfl, h1, h2, h3, b0.1, b0.2, b4.1, b4.2⟩
set_option maxRecDepth 100000 in
theorem open_channel {H : Type} {enc : TypeId × Value → H} {w : World} {base : Nat} {v : Value} {d : DataW H} {p : List MemPlace} (h : DataW.Trod enc Try.prog w 0 (fun _ => true) true 59 v d p) (o : Value.okWide Try.prog w .any base 59 v) :
    ∃ r : Tri, v = .agg r.cells.toArray ∧ r.ok := by
  obtain ⟨cs, rfl, hs⟩ := Go.WideShapes.okWide_struct Try.underlying59 o
  obtain ⟨fuel, hf⟩ := h
  have hC : Try.prog.cellsOf 59 = 3 := by kernel_rfl
  rw [hC] at hs
  obtain ⟨cs, rfl⟩ : ∃ l : List Value, cs = l.toArray := ⟨cs.toList, by simp⟩
  have hcs : (Value.agg cs.toArray).cells.toList = cs := by simp [Value.cells]
  rw [hcs] at hf
  obtain ⟨ys, n', _, _, _, hyl, hfl⟩ := DataW.trod_struct Try.underlying59 hf
  match cs, hs with
  | [c0, c1, c2], _ =>
    have ci : Try.prog.cellsOf 3 = 1 := by kernel_rfl
    match ys, hyl with
    | [y0, y1, y2], _ =>
      have e0 : DataW.trod enc Try.prog w 0 (fun _ => true) true n' 3 (([c0, c1, c2].drop 0).take (Try.prog.cellsOf 3)) = some y0 := hfl 0 _ rfl
      rw [ci] at e0
      have e1 : DataW.trod enc Try.prog w 0 (fun _ => true) true n' 3 (([c0, c1, c2].drop 1).take (Try.prog.cellsOf 3)) = some y1 := hfl 1 _ rfl
      rw [ci] at e1
      have e2 : DataW.trod enc Try.prog w 0 (fun _ => true) true n' 3 (([c0, c1, c2].drop 2).take (Try.prog.cellsOf 3)) = some y2 := hfl 2 _ rfl
      rw [ci] at e2
      obtain ⟨v0, q0, _, w0⟩ := DataW.trod_int (x := y0) Try.underlying3 e0
      obtain ⟨v1, q1, _, w1⟩ := DataW.trod_int (x := y1) Try.underlying3 e1
      obtain ⟨v2, q2, _, w2⟩ := DataW.trod_int (x := y2) Try.underlying3 e2
      obtain rfl : c0 = _ := by simpa using q0
      obtain rfl : c1 = _ := by simpa using q1
      obtain rfl : c2 = _ := by simpa using q2
      have b0 := bounds_i64 w0
      have b1 := bounds_i64 w1
      have b2 := bounds_i64 w2
      exact ⟨⟨v0, v1, v2⟩, rfl, b0.1, b0.2, b1.1, b1.2, b2.1, b2.2⟩
end Go.Proofs.Ytegnehdfedfphaa.TabA
namespace Go.Proofs.Ytegnehdfedfphaa.TabB
open Go.RowKit Go.Proofs.Ytegnehdfedfphaa.Kit Go.Proofs.Ytegnehdfedfphaa.Byt Go.Proofs.Ytegnehdfedfphaa.Mem Go.Proofs.Ytegnehdfedfphaa.TabA

def inn (n l m : Int) : Bool := decide (l ≤ n ∧ n ≤ m)
set_option maxRecDepth 100000 in
theorem within_any (n l m : Int) (w : World) : Calls Try.prog 39 #[.int .i64 n, .int .i64 l, .int .i64 m] w fun e w' => e = .returned (.bool (inn n l m)) ∧ w = w' := by
  unfold inn
  by_cases h : l ≤ n
  · go_enter Try.func39, Try.ntmps39
    go_wp2
    go_ret
    exact ⟨ret_bool (by simp [h]), rfl⟩
  · have h' : ¬ (l ≤ n) := h
    go_enter Try.func39, Try.ntmps39
    go_wp2
    go_ret
    exact ⟨ret_bool (by rw [Bool.eq_iff_iff]; simp; omega), rfl⟩
theorem inn_true {n l m : Int} (h : inn n l m = true) : l ≤ n ∧ n ≤ m := by simpa [inn] using h
theorem inn_false {n l m : Int} (h : inn n l m = false) : ¬ (l ≤ n ∧ n ≤ m) := by simpa [inn] using h

/-- Does the world only have more than w? -/
def Yes (w : World) (b : Bool) (e : Ending) (w' : World) : Prop := e = .returned (.bool b) ∧ Below w.heap.size w w'
theorem has_any (fr tr : Int) (A1 A2 A3 : Option Addr) (n1 c1 n2 c2 n3 c3 : Nat) (p : Int) (hm : n1 ≤ 9223372036854775807) (w : World) :
    Calls Try.prog 52 #[.agg #[.int .i64 fr, .slice A1 n1 c1, .slice A2 n2 c2, .slice A3 n3 c3, .int .i64 tr], .int .i64 p] w fun e w' =>
      e = .returned (.bool (inn p 0 ((n1 : Int) - 1))) ∧ w.alloc (.cells #[.int .i64 fr, .slice A1 n1 c1, .slice A2 n2 c2, .slice A3 n3 c3, .int .i64 tr] 26) = w' := by
  go_enter Try.func52, Try.ntmps52
  go_wp2_with fail
  refine (within_any _ _ _ _).mono ?_
  rintro e w' ⟨rfl, rfl⟩
  go_wp2
  go_ret
  exact ⟨rfl, rfl⟩

/-- The table's own box, and all that was there. -/
structure Bx (w : World) (t : Ta) (wr : World) : Prop where
  blk : Blk wr w.heap.size 26 t.cells
  bel : Below w.heap.size w wr
theorem Bx.new (w : World) (t : Ta) : Bx w t (w.alloc (.cells t.cells.toArray 26)) := ⟨Blk.new w _ _, (Below.refl _ _).alloc (Nat.le_refl _) _⟩
theorem Bx.step {w wr w' : World} {t : Ta} (h : Bx w t wr) (hb : Below wr.heap.size wr w') : Bx w t w' := ⟨h.blk.below hb, h.bel.trans (hb.mono h.bel.size)⟩
theorem Bx.alloc {w wr : World} {t : Ta} (h : Bx w t wr) (o : Obj) : Bx w t (wr.alloc o) := h.step ((Below.refl _ _).alloc (Nat.le_refl _) o)
theorem Bx.cell {w wr : World} {t : Ta} (h : Bx w t wr) : wr.cell? ⟨w.heap.size, 0, none⟩ = some (.int .i64 t.fr) ∧ wr.cell? ⟨w.heap.size, 1, none⟩ = some (.slice t.A1 t.n1 t.c1) ∧ wr.cell? ⟨w.heap.size, 2, none⟩ = some (.slice t.A2 t.n2 t.c2) ∧ wr.cell? ⟨w.heap.size, 3, none⟩ = some (.slice t.A3 t.n3 t.c3) ∧ wr.cell? ⟨w.heap.size, 4, none⟩ = some (.int .i64 t.tr) :=
  ⟨h.blk.cell rfl, h.blk.cell rfl, h.blk.cell rfl, h.blk.cell rfl, h.blk.cell rfl⟩
theorem Bx.sz {w wr : World} {t : Ta} (h : Bx w t wr) : w.heap.size < wr.heap.size := h.blk.lt

def PartOk (r : Tri) : Prop := (1 ≤ r.a ∧ r.a ≤ 16) ∧ (1 ≤ r.b ∧ r.b ≤ 32) ∧ (0 ≤ r.c ∧ r.c ≤ 65535)
def PartsOk (P : List Tri) : Prop := (2 ≤ P.length ∧ P.length ≤ 4) ∧ ∀ (k : Nat) (r : Tri), P[k]? = some r → PartOk r
def upto (p : Nat → Tri → Prop) (R : List Tri) (k : Nat) : Prop := ∀ (j : Nat) (r : Tri), j < k → R[j]? = some r → p j r
theorem upto.zero {p : Nat → Tri → Prop} {R : List Tri} : upto p R 0 := fun _ _ h => by omega
theorem upto.next {p : Nat → Tri → Prop} {R : List Tri} {k : Nat} {r : Tri} (h : upto p R k) (hr : R[k]? = some r) (hp : p k r) : upto p R (k + 1) := fun j r' hj hr' => by
  rcases Nat.lt_or_ge j k with h1 | h1
  · exact h j r' h1 hr'
  · obtain rfl : j = k := by omega
    rw [hr] at hr'
    injection hr' with hr'
    exact hr' ▸ hp
theorem upto.all {p : Nat → Tri → Prop} {R : List Tri} (h : upto p R R.length) : ∀ (k : Nat) (r : Tri), R[k]? = some r → p k r := fun k r hr => h k r (List.getElem?_eq_some_iff.1 hr).1 hr

set_option maxRecDepth 100000 in
set_option maxHeartbeats 800000 in
theorem parts_any (t : Ta) (w : World) (h : t.ok w) (b : Bool) (hb : b = true ↔ PartsOk t.P) : Calls Try.prog 40 #[t.val] w (Yes w b) := by
  obtain ⟨fr, A1, n1, c1, P, A2, n2, c2, W, A3, n3, c3, C, tr⟩ := t
  have hm : n1 ≤ 9223372036854775807 := h.P.le
  have HL := Lib.hid (show P.length = n1 from h.P.1)
  have HP := Lib.hid (show Tris w A1 n1 c1 P from h.P)
  have HB := Lib.hid (show b = true ↔ PartsOk P from hb)
  clear h hb
  show Calls _ _ #[.agg #[.int .i64 fr, .slice A1 n1 c1, .slice A2 n2 c2, .slice A3 n3 c3, .int .i64 tr]] w _
  have hno : ∀ (k : Nat) (r : Tri), P[k]? = some r → ¬ PartOk r → b = false := fun k r hr hp => by
    rw [Bool.eq_false_iff]
    intro hb
    exact hp ((HB.out.1 hb).2 k r hr)
  have HNO := Lib.hid hno
  clear hno
  cases hl : inn (n1 : Int) 2 4
  · have hb : b = false := by
      rw [Bool.eq_false_iff]
      intro hb
      have := (HB.out.1 hb).1
      have := inn_false hl
      have := HL.out
      omega
    go_enter Try.func40, Try.ntmps40
    go_wp2_with (go_at_call 39; refine (within_any _ _ _ _).mono ?_; rintro e w' ⟨rfl, rfl⟩)
    go_ret
    exact ⟨by rw [hb]; rfl, (Below.refl _ _).alloc (Nat.le_refl _) _⟩
  · go_enter Try.func40, Try.ntmps40
    go_wp2_with (go_at_call 39; refine (within_any _ _ _ _).mono ?_; rintro e w' ⟨rfl, rfl⟩)
    go_loopw [13] (fun i wr => ∃ k : Nat, k ≤ n1 ∧ i = .int .i64 k ∧ Hid (upto (fun _ => PartOk) P k) ∧ Below w.heap.size w wr) (fun i _ => n1 - (intOf i).toNat)
    case atStart => exact ⟨0, Nat.zero_le _, rfl, Lib.hid upto.zero, (Below.refl _ _).alloc (Nat.le_refl _) _⟩
    case round =>
      obtain ⟨k, hk, rfl, HU, hbw⟩ := hrel
      have hsz := hbw.size
      by_cases hlt : k < n1
      · obtain ⟨r, b', o, hr, hok, hA, hb', q0, q1, q2⟩ := (HP.out.below hbw).at_ hlt
        subst hA
        have HR := Lib.hid hr
        have HO := Lib.hid hok
        clear hr hok
        cases s0 : inn r.a 1 16
        · go_wp2_with (go_at_call 39; refine (within_any _ _ _ _).mono ?_; rintro e w' ⟨rfl, rfl⟩)
          go_ret
          exact ⟨by rw [HNO.out k r HR.out (fun hp => inn_false s0 hp.1)]; rfl, hbw.alloc hsz _⟩
        · cases s1 : inn r.b 1 32
          · go_wp2_with (go_at_call 39; refine (within_any _ _ _ _).mono ?_; rintro e w' ⟨rfl, rfl⟩)
            go_ret
            exact ⟨by rw [HNO.out k r HR.out (fun hp => inn_false s1 hp.2.1)]; rfl, hbw.alloc hsz _⟩
          · cases s2 : inn r.c 0 65535
            · go_wp2_with (go_at_call 39; refine (within_any _ _ _ _).mono ?_; rintro e w' ⟨rfl, rfl⟩)
              go_ret
              exact ⟨by rw [HNO.out k r HR.out (fun hp => inn_false s2 hp.2.2)]; rfl, hbw.alloc hsz _⟩
            · go_wp2_with (go_at_call 39; refine (within_any _ _ _ _).mono ?_; rintro e w' ⟨rfl, rfl⟩)
              go_roundw
              case rel => exact ⟨k + 1, by omega, by go_num, Lib.hid (HU.out.next HR.out ⟨inn_true s0, inn_true s1, inn_true s2⟩), hbw.alloc hsz _⟩
              case measure => simp [intOf]; omega
      · obtain rfl : k = n1 := by omega
        go_wp2
        go_ret
        have hU := HU.out
        have hbt : b = true := HB.out.2 ⟨by have := inn_true hl; have := HL.out; omega, by rw [← HL.out] at hU; exact hU.all⟩
        exact ⟨by rw [hbt]; rfl, hbw⟩
end Go.Proofs.Ytegnehdfedfphaa.TabB
