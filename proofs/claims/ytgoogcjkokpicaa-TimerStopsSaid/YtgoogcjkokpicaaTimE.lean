/- Timers in memory: Len, Pop, Push of the list; container/heap's Fix, Push, Remove. Conditions: they lie as the facts say. -/
import Derived.Test.YtgoogcjkokpicaaTimD
namespace Go.Proofs.Ytgoogcjkokpicaa.TimE
open Go.RowKit Go.Proofs.Ytgoogcjkokpicaa.Kit Go.Proofs.Ytgoogcjkokpicaa.Byt Go.Proofs.Ytgoogcjkokpicaa.Mem Go.Proofs.Ytgoogcjkokpicaa.TimM Go.Proofs.Ytgoogcjkokpicaa.TimA Go.Proofs.Ytgoogcjkokpicaa.TimB Go.Proofs.Ytgoogcjkokpicaa.TimC Go.Proofs.Ytgoogcjkokpicaa.TimD

theorem info_pe : (Try.prog.info? 56).map (fun i => (i.zero, i.size, i.bytes)) = some (some (.pointer none), 1, 8) := by kernel_rfl
theorem len_any (w : World) (A : Option Addr) (n c : Nat) : Calls Try.prog 42 #[.slice A n c] w fun e w' => e = .returned (.int .i64 (n : Nat)) ∧ w' = w := by
  go_enter Try.func42, Try.ntmps42
  go_wp2
  go_ret
  exact ⟨rfl, rfl⟩
section
variable {B tb mb n c g m k i : Nat} {F : Nat → Prop} {w w' w2 : World} {A : Option Addr} {E : List En} {Q R : List En → Prop}
set_option maxHeartbeats 1000000 in
set_option maxRecDepth 100000 in
theorem fix_any (h : HpA B w F tb mb (some ⟨g, 0, none⟩) n c E) (hi : i < n) (hD : D (at_ E) n i i) :
    Calls Try.prog 20 #[.iface 61 (.pointer (some ⟨tb, 0, none⟩)), .int .i64 (i : Nat)] w fun e w' => e = .returned (.tuple #[]) ∧ Upd B w F tb mb (some ⟨g, 0, none⟩) n c n E (fun E' => Hp (at_ E') n) w' := by
  have hM := fun (q : Nat) => meth_len q w ⟨tb, 0, none⟩ _ (h.box.cell (i := 0) rfl)
  have hn := h.most
  have hd := Lib.hid (down_any h hi (Nat.le_refl _) hD)
  clear h hD
  go_enter Try.func20, Try.ntmps20
  go_wp2_with fail
  refine (len_any _ _ _ _).mono ?_
  rintro e w1 ⟨rfl, rfl⟩
  go_wp2_with fail
  refine hd.out.mono ?_
  rintro e w1 ⟨b, rfl, hU⟩
  cases b with
  | true =>
    have HU := Lib.hid (hU.mono fun _ h => h.1 rfl)
    clear hU
    go_wp2
    go_end0
    exact ⟨rfl, HU.out⟩
  | false =>
    obtain ⟨E1, a1, a2, a3, a4, a5⟩ := hU
    have hu := Lib.hid (up_any a1 hi (Nat.le_refl _) (a5.2 rfl))
    have HT := Lib.hid (fun w2 (h2 : Upd B w1 F tb mb (some ⟨g, 0, none⟩) n c n E1 (fun E' => Hp (at_ E') n) w2) => Upd.trans a1 a2 a3 a4 h2)
    clear a1 a2 a3 a4 a5
    go_wp2_with fail
    refine hu.out.mono ?_
    rintro e w2 ⟨rfl, h2⟩
    have H2 := Lib.hid (HT.out _ h2)
    clear h2
    go_wp2
    go_end0
    exact ⟨rfl, H2.out⟩

/-! ### Pop -/
theorem own_less {base x : Nat} {e : TypeId} {xs : List Value} (h : w.ownsRow base e 1 (.slice (some ⟨g, 0, none⟩) (k + 1) c) (k + 1) xs) : w.ownsRow base e 1 (.slice (some ⟨g, 0, none⟩) k c) k (xs.take k) := by
  rcases h.2 with ⟨hv, h0⟩ | ⟨g', cap, cur, hv, hb, hg, hnc, hcm, hcs, ht⟩
  · simp at hv
  · simp only [Value.slice.injEq, Option.some.injEq, Addr.mk.injEq, and_true, true_and] at hv
    obtain ⟨rfl, rfl⟩ := hv
    have hl := h.1
    refine ⟨by rw [List.length_take]; omega, .inr ⟨g, c, cur, rfl, hb, hg, by omega, hcm, hcs, ?_⟩⟩
    rw [← ht, List.take_take]
    congr 1
    omega
theorem take_at {E : List En} {x k : Nat} (hx : x < k) (hk : k ≤ E.length) : at_ (E.take k) x = at_ E x := at_of (by rw [List.getElem?_take, if_pos hx]; exact at_some (by omega))
theorem last_perm {E : List En} {k : Nat} (h : E.length = k + 1) : (at_ E k :: E.take k).Perm E := by
  have e : E = E.take k ++ [at_ E k] := by
    have h1 : E.take (k + 1) = E := List.take_of_length_le (by omega)
    have h2 : at_ E k = E[k] := at_of (List.getElem?_eq_getElem (by omega))
    rw [h2, List.take_append_getElem, h1]
  have h3 : (at_ E k :: E.take k).Perm (E.take k ++ [at_ E k]) := List.perm_append_singleton _ _ |>.symm
  rw [← e] at h3
  exact h3
theorem hp_pop (h : HpA B w F tb mb (some ⟨g, 0, none⟩) (k + 1) c E) :
    HpA B ((w.setCell ⟨g, k, none⟩ (.pointer none)).setCell ⟨tb, 0, none⟩ (.slice (some ⟨g, 0, none⟩) k c)) F tb mb (some ⟨g, 0, none⟩) k c (E.take k) ∧ Keep (fun i => i = g ∨ i = tb) w ((w.setCell ⟨g, k, none⟩ (.pointer none)).setCell ⟨tb, 0, none⟩ (.slice (some ⟨g, 0, none⟩) k c)) := by
  have hl := h.len
  have hm := h.most
  obtain ⟨fg, gtb, gE⟩ := h.frow g rfl
  have hk : Keep (fun i => i = g ∨ i = tb) w ((w.setCell ⟨g, k, none⟩ (.pointer none)).setCell ⟨tb, 0, none⟩ (.slice (some ⟨g, 0, none⟩) k c)) :=
    (Keep.set w k (.pointer none) (.inl rfl)).trans (Keep.set _ 0 _ (.inr rfl)) fun _ h => .inl h
  have sub : ∀ e ∈ E.take k, e ∈ E := fun e he => List.mem_of_mem_take he
  refine ⟨⟨fun x hx => ⟨(h.bd x hx).1, by simpa using (h.bd x hx).2⟩, by simpa using h.base, ?_, h.ftb, ?_, fun x hx => ?_, by rw [List.length_take]; omega, by omega, fun x hx => ?_, fun e he => h.en e (sub e he), fun a b ha hb e => ?_⟩, hk⟩
  · exact (h.box.far (p := ⟨g, k, none⟩) gtb.symm _).set 0 _
  · have r1 := own_less (x := 0) (h.row.stored k (.pointer none)).1
    have e : ((pts E).set k (.pointer none)).take k = pts (E.take k) := by
      rw [List.take_set_of_le (Nat.le_refl _)]
      simp [pts, List.map_take]
    rw [e] at r1
    refine (Keep.set (F := fun i => i = tb) _ 0 _ rfl).own r1 fun x hx ex => ?_
    obtain rfl : g = x := by injection hx
    exact gtb ex
  · obtain rfl : g = x := by injection hx
    exact ⟨fg, gtb, fun e he => gE e (sub e he)⟩
  · rw [take_at hx (by omega)]
    have hmem := at_mem (E := E) (k := x) (by omega)
    exact ((h.ent x (by omega)).far (p := ⟨g, k, none⟩) (gE _ hmem) _).far (p := ⟨tb, 0, none⟩) (h.en _ hmem).2.1 _
  · rw [take_at ha (by omega), take_at hb (by omega)] at e
    exact h.nd a b (by omega) (by omega) e
set_option maxHeartbeats 1000000 in
set_option maxRecDepth 100000 in
theorem pop_any (h : HpA B w F tb mb (some ⟨g, 0, none⟩) (k + 1) c E) :
    Calls Try.prog 45 #[.pointer (some ⟨tb, 0, none⟩)] w fun e w' => e = .returned (.iface 56 (pt (at_ E k))) ∧ HpA B w' F tb mb (some ⟨g, 0, none⟩) k c (E.take k) ∧ Keep (fun i => i = g ∨ i = tb) w w' := by
  have H := Lib.hid (hp_pop h)
  have hn := h.most
  obtain ⟨fg, gtb, gE⟩ := h.frow g rfl
  have c0 := h.box.cell (i := 0) rfl
  have f0 := h.box.frozen 0
  have ck := h.cell (k := k) (by omega)
  have fk : w.frozen? ⟨g, k, none⟩ = false := h.row.frozenAt k
  obtain ⟨hnc, hcm⟩ : k + 1 ≤ c ∧ c ≤ 9223372036854775807 := by
    obtain ⟨g', ys, _, _, _, _, _, hnc, hcm⟩ := h.some_ (by omega)
    exact ⟨hnc, hcm⟩
  have hs1 : ((k + 1 : Nat) : Int) - 1 = (k : Nat) := by omega
  have hne : tb ≠ g := fun e => gtb e.symm
  unfold pt at ck ⊢
  clear h gE fg
  go_enter Try.func45, Try.ntmps45
  go_wp2
  go_ret
  exact ⟨rfl, H.out⟩
end
end Go.Proofs.Ytgoogcjkokpicaa.TimE
