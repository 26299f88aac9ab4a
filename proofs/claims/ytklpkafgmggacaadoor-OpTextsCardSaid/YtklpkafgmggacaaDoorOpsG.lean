/- What the given variables hold; the library's numbers and texts by the guide's contracts. Condition: the variables lie as the fact says. -/
import Derived.Test.YtklpkafgmggacaaDoorShelf
import Derived.Test.YtklpkafgmggacaaDoorOpsV
import Derived.Test.YtklpkafgmggacaaDoorOpsN0
import Derived.Lib.LaidTab
import Derived.Lib.SmallJoins
import Derived.Lib.AppendIntMem
import Derived.BigQuiet
namespace Go.Proofs.YtklpkafgmggacaaDoor.OpsG
open Go.RowKit Go.Proofs.YtklpkafgmggacaaDoor.Kit Go.Proofs.YtklpkafgmggacaaDoor.Byt Go.Proofs.YtklpkafgmggacaaDoor.Mem Go.Proofs.YtklpkafgmggacaaDoor.OpsM Go.Proofs.YtklpkafgmggacaaDoor.OpsA Go.Proofs.YtklpkafgmggacaaDoor.OpsT Go.Proofs.YtklpkafgmggacaaDoor.OpsU Go.Proofs.YtklpkafgmggacaaDoor.OpsV

theorem var_below {P : Program} {w w' : World} {n : String} {cs : Array Value} (h : w.var? P n = some cs) (hb : Below w.heap.size w w') : w'.var? P n = some cs := by
  unfold World.var? at h ⊢
  cases hg : P.globalNamed n with
  | none => rw [hg] at h; cases h
  | some g =>
    rw [hg] at h
    simp only [Option.bind_some] at h ⊢
    have hlt : g < w.heap.size := by
      rcases Nat.lt_or_ge g w.heap.size with h1 | h1
      · exact h1
      · rw [Array.getElem?_eq_none h1] at h
        cases h
    rw [hb.block g hlt]
    exact h
/-- The given variables hold what the row lists. -/
structure OTab (w : World) : Prop where
  nm : ∀ k, k < 19 → w.cell? ⟨0, k, none⟩ = some (.string (nmk k))
  pw : Lib.TabIs Tryd.prog w "internal/strconv.uint64pow10" .u64 Lib.pow10Tab
  es : ∃ tp p, w.var? Tryd.prog "strconv.ErrSyntax" = some #[.iface tp p]
  er : ∃ tp p, w.var? Tryd.prog "strconv.ErrRange" = some #[.iface tp p]
theorem OTab.below {w w' : World} (h : OTab w) (hb : Below w.heap.size w w') : OTab w' := by
  obtain ⟨h1, h2, ⟨a, b, h3⟩, ⟨c, d, h4⟩⟩ := h
  exact ⟨fun k hk => (hb.cell (p := ⟨0, k, none⟩) (block_lt_of_cell (h1 k hk))).trans (h1 k hk), var_below h2 hb, ⟨a, b, var_below h3 hb⟩, ⟨c, d, var_below h4 hb⟩⟩
theorem OTab.from {w0 w w' : World} (h : OTab w0) (h1 : Below w0.heap.size w0 w) (hb : Below w.heap.size w w') : OTab w' := (h.below h1).below hb

theorem itoa_any (a : Nat) (ha : a < 256) (w : World) (h : OTab w) : Calls Tryd.prog 14 #[.int .i64 a] w fun e w' => e = .returned (.string (dec a)) ∧ Below w.heap.size w w' := by
  have h1 : Calls Tryd.prog 14 #[.int .i64 a] w fun e w' => e = .returned (.string ⟨(Lib.itoa (a : Int)).toArray⟩) ∧ ∃ k os, w' = Sort.grow (w.drewN k) os := Any.strconv_Itoa Tryd.laysM171 (a : Int) (by omega) (by omega) w h.pw
  exact h1.mono fun e w' ⟨he, k, os, hw⟩ => ⟨by rw [he, itoa_dec a ha], by rw [hw]; exact Lib.below_grow _ w (Nat.le_refl _) k os⟩
/-- The number that a text tells; the error besides. -/
theorem atoi_any (s : ByteArray) (hs : s.size ≤ 1000) (w : World) (h : OTab w) : Calls Tryd.prog 19 #[.string s] w fun e w' => ∃ v, e = .returned (.tuple #[.int .i64 (num (lst s)), v]) ∧ Below w.heap.size w w' := by
  obtain ⟨_, _, ⟨a, b, h3⟩, ⟨c, d, h4⟩⟩ := h
  have hd : s.data.toList = lst s := rfl
  have hm : s.size ≤ 9223372036854775806 := by omega
  have hl : s.size ≤ 281474976710656 := by omega
  cases hc : Lib.atoiAll s.data.toList with
  | ok v =>
    have h1 : Calls Tryd.prog 19 #[.string s] w fun e w' => e = .returned (.tuple #[.int .i64 v, .nilIface]) ∧ (w' = w ∨ ∃ t, w' = Lib.bytesWorld w 5 t) := Any.strconv_Atoi_ok Tryd.laysC172 s hm v hc w
    refine h1.mono fun e w' ⟨he, hw⟩ => ⟨.nilIface, ?_, ?_⟩
    · rw [he, num, ← hd, hc]
    · rcases hw with rfl | ⟨t, rfl⟩
      · exact Below.refl _ _
      · exact Joins.below_bytesWorld _ w _ t (Nat.le_refl _)
  | range =>
    have hn : num (lst s) = Lib.atoiSat s.data.toList := by rw [num, ← hd, hc]
    rw [hn]
    have h1 : Calls Tryd.prog 19 #[.string s] w fun e w' => ∃ N, e = .returned (.tuple #[.int .i64 (Lib.atoiSat s.data.toList), .iface 59 (.pointer (some ⟨N, 0, none⟩))]) ∧ Below w.heap.size w w' :=
      (Any.strconv_Atoi_range_var Tryd.laysC172 s hl hc c d w h4).mono fun e w' ⟨N, he, _, _, hw⟩ => ⟨N, he, hw⟩
    exact h1.mono fun e w' ⟨N, he, hw⟩ => ⟨_, he, hw⟩
  | _ =>
    have hn : num (lst s) = 0 := by rw [num, ← hd, hc]
    rw [hn]
    have h1 : Calls Tryd.prog 19 #[.string s] w fun e w' => ∃ N, e = .returned (.tuple #[.int .i64 0, .iface 59 (.pointer (some ⟨N, 0, none⟩))]) ∧ Below w.heap.size w w' :=
      (Any.strconv_Atoi_syntax_var Tryd.laysC172 s hl hc a b w h3).mono fun e w' ⟨N, he, _, _, hw⟩ => ⟨N, he, hw⟩
    exact h1.mono fun e w' ⟨N, he, hw⟩ => ⟨_, he, hw⟩
theorem told3 {a1 a2 c1 c2 : ByteArray} {b c3 : Bool} (h1 : c1 = a1) (h2 : c2 = a2) (h3 : c3 = b) : Ending.returned (.tuple #[.string a1, .string a2, .bool b]) = .returned (.tuple #[.string c1, .string c2, .bool c3]) := by rw [h1, h2, h3]
set_option maxRecDepth 100000 in
set_option maxHeartbeats 1600000 in
theorem slcut_any (s : ByteArray) (hs : s.size ≤ 1000) (w : World) : Calls Tryd.prog 23 #[.string s, .string ⟨#[32]⟩] w fun e w' => e = .returned (.tuple #[.string ⟨(Lib.cut (lst s) [32]).1.toArray⟩, .string ⟨(Lib.cut (lst s) [32]).2.1.toArray⟩, .bool (Lib.cut (lst s) [32]).2.2]) ∧ ∃ n, w' = w.drewN n := by
  have hix0 : Lib.indexByte (lst s) 32 = Lib.indexB s ⟨#[32]⟩ := (Lib.index_one (lst s) 32).symm
  have HI0 : ∀ w', Calls Tryd.prog 27 #[.string s, .string ⟨#[32]⟩] w' fun e w'' => e = .returned (.int .i64 (Lib.indexByte (lst s) 32)) ∧ w'' = w' := fun w' => Any.stringslite_Index_one Tryd.lays219 s 32 w'
  rw [hix0] at HI0
  have HI := Lib.hid HI0
  clear HI0
  rcases Lib.indexB_cases s ⟨#[32]⟩ with hix | ⟨i, hix, hroom⟩
  · obtain ⟨e1, e2, e3⟩ := Lib.cutB_miss s ⟨#[32]⟩ hix
    have HE := Lib.hid (And.intro e1 (And.intro e2 e3))
    rw [hix] at HI
    clear hix hix0 e1 e2 e3
    go_enter Tryd.func23, Tryd.ntmps23
    go_wp2_with (go_at_call 27; refine (HI.out _).mono ?_; rintro e w' ⟨rfl, rfl⟩)
    go_ret3
    obtain ⟨e1, e2, e3⟩ := HE.out
    exact ⟨told3 e1 e2 e3, 0, rfl⟩
  · obtain ⟨e1, e2, e3⟩ := Lib.cutB_hit s ⟨#[32]⟩ i hix
    have HE := Lib.hid (And.intro e1 (And.intro e2 e3))
    have hroom' : i + 1 ≤ s.size := hroom
    rw [hix] at HI
    have c1 : (0 : Int) ≤ ↑i := by omega
    have c2 : (↑i : Int) ≤ ↑s.size := by omega
    have c3 : (0 : Int) ≤ ↑i + 1 := by omega
    have c4 : (↑i + 1 : Int) ≤ ↑s.size := by omega
    clear hix hix0 e1 e2 e3 hroom
    go_enter Tryd.func23, Tryd.ntmps23
    go_upto_region 3 with (go_at_call 27; refine (HI.out _).mono ?_; rintro e w' ⟨rfl, rfl⟩)
    go_region
    go_wp2
    go_ret3
    obtain ⟨e1, e2, e3⟩ := HE.out
    exact ⟨told3 e1 e2 e3, 1, rfl⟩
set_option maxRecDepth 100000 in
theorem cut_any (s : ByteArray) (hs : s.size ≤ 1000) (w : World) : Calls Tryd.prog 18 #[.string s, .string ⟨#[32]⟩] w fun e w' => e = .returned (.tuple #[.string ⟨(Lib.cut (lst s) [32]).1.toArray⟩, .string ⟨(Lib.cut (lst s) [32]).2.1.toArray⟩, .bool (Lib.cut (lst s) [32]).2.2]) ∧ Below w.heap.size w w' := by
  have HI := Lib.hid (fun w' => slcut_any s hs w')
  go_enter Tryd.func18, Tryd.ntmps18
  go_wp2_with (go_at_call 23; refine (HI.out _).mono ?_; rintro e w' ⟨rfl, n, rfl⟩)
  go_ret3
  exact ⟨rfl, below_drewN (Below.refl _ _) n⟩
end Go.Proofs.YtklpkafgmggacaaDoor.OpsG
