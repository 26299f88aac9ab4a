/- Timers in memory: one more in the heap. Conditions: they lie as the facts say. -/
import Derived.Test.YtgoogcjkokpicaaTimE
namespace Go.Proofs.Ytgoogcjkokpicaa.TimG
open Go.RowKit Go.Proofs.Ytgoogcjkokpicaa.Kit Go.Proofs.Ytgoogcjkokpicaa.Byt Go.Proofs.Ytgoogcjkokpicaa.Mem Go.Proofs.Ytgoogcjkokpicaa.TimM Go.Proofs.Ytgoogcjkokpicaa.TimA Go.Proofs.Ytgoogcjkokpicaa.TimB Go.Proofs.Ytgoogcjkokpicaa.TimC Go.Proofs.Ytgoogcjkokpicaa.TimD Go.Proofs.Ytgoogcjkokpicaa.TimE

theorem at_app {E : List En} {e : En} {x : Nat} (hx : x < E.length) : at_ (E ++ [e]) x = at_ E x := at_of (by rw [List.getElem?_append_left hx]; exact at_some hx)
theorem at_last (E : List En) (e : En) : at_ (E ++ [e]) E.length = e := at_of (by simp)
section
variable {B tb mb n c g m k i : Nat} {F : Nat → Prop} {w w' w2 : World} {A : Option Addr} {E : List En} {Q R : List En → Prop}
/-- One more. -/
def Psh (B : Nat) (w : World) (F : Nat → Prop) (tb mb n : Nat) (E : List En) (x : En) (Q : List En → Prop) (w' : World) : Prop :=
  ∃ F' A' c' E', HpA B w' F' tb mb A' (n + 1) c' E' ∧ E'.Perm (E ++ [x]) ∧ Keep (fun i => F i ∨ i = x.b) w w' ∧ (∀ i, F' i → F i ∨ i = x.b ∨ w.heap.size ≤ i) ∧ (∀ i, F i → F' i) ∧ Q E'
theorem psh_of {x : En} {A2 : Option Addr} {n2 c2 : Nat} {w3 : World} (h : HpA B w F tb mb A n c E) (hn : n < 1000) (hE : Blk w x.b 59 (ecells x 0)) (hB : B ≤ x.b) (hF : ¬ F x.b) (h1 : hw x.name) (h2 : hw x.tick)
    (hn2 : n2 = n + 1) (ho : w3.ownsRow B 56 1 (.slice A2 n2 c2) n2 (pts E ++ [pt x]))
    (hg : ((w.setCell ⟨x.b, 2, none⟩ (.int .i64 (n : Nat))).alloc (.cells #[pt x] 56)).grownBy w3 (Value.slice A n c).ownBlock)
    (hat : (Value.slice A2 n2 c2).ownBlock = (Value.slice A n c).ownBlock ∨ (Value.slice A2 n2 c2).ownBlock = some ((w.setCell ⟨x.b, 2, none⟩ (.int .i64 (n : Nat))).alloc (.cells #[pt x] 56)).heap.size) :
    Psh B w F tb mb n E x (fun E' => E' = E ++ [x]) (w3.setCell ⟨tb, 0, none⟩ (.slice A2 n2 c2)) := by
  subst hn2
  have hl := h.len
  have hxt : x.b ≠ tb := fun e => hF (e ▸ h.ftb)
  have k1 : Keep (fun i => i = x.b) w (w.setCell ⟨x.b, 2, none⟩ (.int .i64 (n : Nat))) := Keep.set w 2 _ rfl
  have hsz : ((w.setCell ⟨x.b, 2, none⟩ (.int .i64 (n : Nat))).alloc (.cells #[pt x] 56)).heap.size = w.heap.size + 1 := by simp
  have k2 : Keep (fun i => i = x.b) w ((w.setCell ⟨x.b, 2, none⟩ (.int .i64 (n : Nat))).alloc (.cells #[pt x] 56)) :=
    k1.trans (Keep.of_below (F := fun i => i = x.b) ((Below.refl _ _).alloc (Nat.le_refl _) _)) fun _ h => .inl h
  have k3 : Keep (fun i => i = x.b ∨ (Value.slice A n c).ownBlock = some i) w w3 :=
    (k2.mono fun _ _ h => .inl h).trans (Keep.grown (F := fun i => (Value.slice A n c).ownBlock = some i) hg fun _ h => h) fun _ h => .inl (.inr h)
  have k4 : Keep (fun i => F i ∨ i = x.b) w w3 := k3.mono fun i _ h' => by
    rcases h' with h' | h'
    · exact .inr h'
    · exact .inl (h.frow i h').1
  have kt : Keep (fun i => i = tb) w3 (w3.setCell ⟨tb, 0, none⟩ (.slice A2 (n + 1) c2)) := Keep.set w3 0 _ rfl
  have hs3 : w.heap.size + 1 ≤ w3.heap.size := by have := hg.size; omega
  have hS : (w3.setCell ⟨tb, 0, none⟩ (.slice A2 (n + 1) c2)).heap.size = w3.heap.size := by simp
  have hbx : Blk w3 tb 55 [.slice A n c, .map (some mb)] := k3.blk h.box fun h' => by
    rcases h' with h' | h'
    · exact hxt h'.symm
    · exact (h.frow tb h').2.1 rfl
  have hent : ∀ y, y < n → Blk w3 (at_ E y).b 59 (ecells (at_ E y) y) := fun y hy => k3.blk (h.ent y hy) fun h' => by
    have hm := at_mem (E := E) (k := y) (by omega)
    rcases h' with h' | h'
    · exact hF (h' ▸ (h.en _ hm).1)
    · exact (h.frow _ h').2.2 _ hm rfl
  have hxx : Blk w3 x.b 59 (ecells x n) := by
    have b1 : Blk (w.setCell ⟨x.b, 2, none⟩ (.int .i64 (n : Nat))) x.b 59 (ecells x n) := hE.set 2 _
    exact (Keep.grown (F := fun i => (Value.slice A n c).ownBlock = some i) hg fun _ h => h).blk (b1.alloc _) fun h' => hF (h.frow _ h').1
  have hob : ∀ y, (Value.slice A2 (n + 1) c2).ownBlock = some y → (F y ∧ (Value.slice A n c).ownBlock = some y) ∨ w.heap.size + 1 = y := fun y hy => by
    rcases hat with e | e
    · rw [e] at hy; exact .inl ⟨(h.frow y hy).1, hy⟩
    · rw [e, hsz] at hy; injection hy with hy; exact .inr hy
  have htb := h.box.lt
  have hxl := hE.lt
  have hmem : ∀ e ∈ E ++ [x], e ∈ E ∨ e = x := fun e he => by simpa using he
  refine ⟨fun i => F i ∨ i = x.b ∨ (w.heap.size ≤ i ∧ i < w3.heap.size), A2, c2, E ++ [x], ⟨fun i hi => ?_, by rw [hS]; have := h.base; omega, ?_, .inl h.ftb, ?_, fun y hy => ?_, by simp [hl], by omega, fun y hy => ?_, fun e he => ?_, fun a b ha hb e => ?_⟩, List.Perm.refl _, k4.trans (kt.mono (G := fun i => F i ∨ i = x.b) fun i _ e => .inl (e ▸ h.ftb)) fun _ h => .inl h, fun i hi => ?_, fun i hi => .inl hi, rfl⟩
  · rw [hS]
    rcases hi with hi | rfl | hi
    · have := h.bd i hi; exact ⟨this.1, by omega⟩
    · exact ⟨hB, by omega⟩
    · exact ⟨by have := h.base; omega, hi.2⟩
  · exact hbx.set 0 _
  · have e : pts (E ++ [x]) = pts E ++ [pt x] := by simp [pts]
    rw [e]
    exact kt.own ho fun y hy e => by
      rcases hob y hy with h' | h'
      · exact (h.frow y h'.2).2.1 e
      · omega
  · rcases hob y hy with h' | h'
    · refine ⟨.inl h'.1, (h.frow y h'.2).2.1, fun e he => ?_⟩
      rcases hmem e he with h3 | rfl
      · exact (h.frow y h'.2).2.2 e h3
      · exact fun e' => hF (e' ▸ h'.1)
    · have := (ho.lt y hy).2
      refine ⟨.inr (.inr ⟨by omega, this⟩), by omega, fun e he => ?_⟩
      rcases hmem e he with h3 | rfl
      · have := (h.bd _ (h.en e h3).1).2; omega
      · omega
  · by_cases hyn : y < n
    · rw [at_app (by omega)]
      exact (hent y hyn).far (p := ⟨tb, 0, none⟩) (h.en _ (at_mem (by omega))).2.1 _
    · obtain rfl : y = n := by omega
      have e : at_ (E ++ [x]) y = x := by rw [← hl]; exact at_last E x
      rw [e]
      exact hxx.far (p := ⟨tb, 0, none⟩) hxt _
  · rcases hmem e he with h3 | rfl
    · exact ⟨.inl (h.en e h3).1, (h.en e h3).2⟩
    · exact ⟨.inr (.inl rfl), hxt, h1, h2⟩
  · have key : ∀ y, y < n → (at_ (E ++ [x]) y).b ≠ x.b := fun y hy e => by
      rw [at_app (by omega)] at e
      exact hF (e ▸ (h.en _ (at_mem (by omega))).1)
    have hlst : at_ (E ++ [x]) n = x := by rw [← hl]; exact at_last E x
    by_cases ha' : a < n
    · by_cases hb' : b < n
      · rw [at_app (by omega), at_app (by omega)] at e
        exact h.nd a b ha' hb' e
      · obtain rfl : b = n := by omega
        rw [hlst] at e
        exact absurd e (key a ha')
    · obtain rfl : a = n := by omega
      by_cases hb' : b < a
      · rw [hlst] at e
        exact absurd e.symm (key b hb')
      · omega
  · rcases hi with hi | hi | hi
    · exact .inl hi
    · exact .inr (.inl hi)
    · exact .inr (.inr hi.1)
theorem assert_pe (w : World) (v : Value) : (Instr.typeAssert (.iface 56 v) 20 56 false).run Try.prog w = .ok v w := by kernel_rfl
theorem pe_one (x : En) : ∀ u ∈ [pt x], u.oneCell' = true := by intro u hu; simp at hu; subst hu; rfl
theorem rd_pe (w : World) (x : En) : Rd (w.alloc (.cells #[pt x] 56)) (some ⟨w.heap.size, 0, none⟩) 1 1 [pt x] :=
  Rd.own (base := 0) (own_of_block (cur := [pt x]) (heap_alloc_new w _) (Nat.zero_le _) (Nat.le_refl _) (by simp))
set_option maxHeartbeats 2000000 in
set_option maxRecDepth 100000 in
theorem pushm_any {x : En} (h : HpA B w F tb mb A n c E) (hn : n < 1000) (hE : Blk w x.b 59 (ecells x 0)) (hB : B ≤ x.b) (hF : ¬ F x.b) (h1 : hw x.name) (h2 : hw x.tick) :
    Calls Try.prog 46 #[.pointer (some ⟨tb, 0, none⟩), .iface 56 (pt x)] w fun e w' => e = .returned (.tuple #[]) ∧ Psh B w F tb mb n E x (fun E' => E' = E ++ [x]) w' := by
  obtain ⟨i0, hi0, hz0, hz1, hz2⟩ := info_parts info_pe
  have HP := Lib.hid (fun A2 n2 c2 w3 => psh_of (A2 := A2) (n2 := n2) (c2 := c2) (w3 := w3) h hn hE hB hF h1 h2)
  have hxt : x.b ≠ tb := fun e => hF (e ▸ h.ftb)
  have c0 := h.box.cell (i := 0) rfl
  have f0 := h.box.frozen 0
  have p2 := hE.cell (i := 2) rfl
  have q2 := hE.frozen 2
  have hO : (w.setCell ⟨x.b, 2, none⟩ (.int .i64 (n : Nat))).ownsRow B 56 1 (.slice A n c) n (pts E) :=
    (Keep.set (F := fun i => i = x.b) w 2 _ rfl).own h.row fun y hy e => hF (e ▸ (h.frow y hy).1)
  have HO := Lib.hid (hO.alloc (.cells #[pt x] 56))
  have hbox : ∀ w3, ((w.setCell ⟨x.b, 2, none⟩ (.int .i64 (n : Nat))).alloc (.cells #[pt x] 56)).grownBy w3 (Value.slice A n c).ownBlock → Blk w3 tb 55 [.slice A n c, .map (some mb)] := fun w3 hg =>
    (Keep.grown (F := fun i => (Value.slice A n c).ownBlock = some i) hg fun _ h => h).blk ((h.box.far (p := ⟨x.b, 2, none⟩) hxt.symm _).alloc _) fun h' => (h.frow tb h').2.1 rfl
  have HBX := Lib.hid hbox
  have hbase := h.base
  have hne : tb ≠ x.b := hxt.symm
  clear h hE hB hF h1 h2 hO hbox hxt
  have HRD := Lib.hid (show Rd ((w.setCell ⟨x.b, 2, none⟩ (.int .i64 (n : Nat))).alloc (.cells #[pt x] 56)) (some ⟨w.heap.size, 0, none⟩) 1 1 [pt x] from by have := rd_pe (w.setCell ⟨x.b, 2, none⟩ (.int .i64 (n : Nat))) x; simpa using this)
  have HPE := Lib.hid (pe_one x)
  unfold pt at *
  have hTA := assert_pe
  go_enter Try.func46, Try.ntmps46
  go_wp2_with (at_builtin; refine wpList_add _ rfl (.tmp 17) (.tmp 19) _ rfl B 56 i0 _ 8 Try.underlying53 hi0 hz0 hz1 hz2 rfl _ n (pts E) rfl HO.out (some ⟨w.heap.size, 0, none⟩) 1 1 [.pointer (some ⟨x.b, 0, none⟩)] rfl HRD.out HPE.out (by omega) (by omega) (by simp; omega) ?_; intro A2 n2 c2 w3 hn2 hown2 hg2 hat2; have HN := Lib.hid hn2.out; have HO2 := Lib.hid hown2; have HG2 := Lib.hid hg2; have HAT := Lib.hid hat2; have b3 := (HBX.out w3 hg2).cell (i := 0) rfl; have f3 := (HBX.out w3 hg2).frozen 0; clear hn2 hown2 hg2 hat2 c0 f0 p2 q2)
  go_end0
  exact ⟨rfl, HP.out A2 n2 c2 w3 HN.out HO2.out HG2.out HAT.out⟩
end
end Go.Proofs.Ytgoogcjkokpicaa.TimG
