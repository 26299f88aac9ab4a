/- A Hash made, its digest, how long it is; the digest of bytes; a Hash that is not there. Conditions: the rounds' own numbers lie in the variable, less than 2^39 bytes are written. -/
import Derived.Test.YtlghojnlnfkdhaaDoorShaI
namespace Go.Proofs.YtlghojnlnfkdhaaDoor.ShaJ
open Go.RowKit Go.Proofs.YtlghojnlnfkdhaaDoor.Kit Go.Proofs.YtlghojnlnfkdhaaDoor.Byt Go.Proofs.YtlghojnlnfkdhaaDoor.ShaM Go.Proofs.YtlghojnlnfkdhaaDoor.ShaA Go.Proofs.YtlghojnlnfkdhaaDoor.ShaB Go.Proofs.YtlghojnlnfkdhaaDoor.ShaC Go.Proofs.YtlghojnlnfkdhaaDoor.ShaK Go.Proofs.YtlghojnlnfkdhaaDoor.ShaD Go.Proofs.YtlghojnlnfkdhaaDoor.ShaE Go.Proofs.YtlghojnlnfkdhaaDoor.ShaF Go.Proofs.YtlghojnlnfkdhaaDoor.ShaG Go.Proofs.YtlghojnlnfkdhaaDoor.ShaH Go.Proofs.YtlghojnlnfkdhaaDoor.ShaI

theorem write_nil (A : Option Addr) (n c : Nat) (w : World) : Calls Tryd.prog 45 #[.pointer none, .slice A n c] w fun e w' => e = .returned (.tuple #[]) ∧ w = w' := by
  go_enter Tryd.func45, Tryd.ntmps45
  go_wp2
  refine bodyPost_ret (results_none rfl _ _ _) rfl ?_
  exact ⟨rfl, rfl⟩
theorem wpList_build_to {P : Program} {ops : Array Oper} {rest : List Oper} {o : Oper} {a : Act} {w : World} {Q : Exit → Act → World → Prop} (hg : o.guard = none) (t : TypeId) (parts : Array (Nat × Operand)) (ho : o.op = .build t parts)
    (cells : Array Value) (hc : P.built t (parts.map fun (i, x) => (i, a.eval x)).toList = some cells) (h : wpList P ops Q rest (a.put o.dst (.agg cells)) w) : wpList P ops Q (o :: rest) a w :=
  wpList_build hg t parts ho (by rw [hc]; rfl) (by rw [hc]; exact h)
theorem built_new : Tryd.prog.built 78 [(0, .agg (ws w0))] = some (hc w0 (List.replicate 64 0) 0).toArray := by kernel_rfl

set_option maxRecDepth 100000 in
set_option maxHeartbeats 400000 in
theorem sum_nil (w : World) : Calls Tryd.prog 46 #[.pointer none] w fun e w' => e = .returned (.agg (u8n (List.replicate 32 0)).toArray) ∧ Below w.heap.size w w' := by
  have hz := zero32
  have hi := Lib.hid (show (Tryd.prog.info? 32).map (·.size) = some (u8n (List.replicate 32 0)).length by rw [u8n_len, List.length_replicate]; exact size_w32)
  obtain ⟨zs, hzs⟩ : ∃ zs : List Value, zs = u8n (List.replicate 32 0) := ⟨_, rfl⟩
  have h1 := Lib.hid (show ∀ u ∈ zs, u.oneCell' = true by rw [hzs]; exact u8n_one _)
  rw [← hzs] at hi ⊢
  simp only [← hzs] at hz
  obtain ⟨Z, hZ⟩ : ∃ Z : Array Value, Z = zs.toArray := ⟨_, rfl⟩
  have HZ := Lib.hid hZ
  simp only [← hZ] at hz
  clear hZ hzs
  go_enter Tryd.func46, Tryd.ntmps46
  go_wp2_with (first
   | (refine wpList_store_blk rfl 32 (.tmp 2) (.tmp 6) rfl w.heap.size rfl zs (congrArg Value.agg HZ.out) (Blk_at HZ.out rfl) rfl hi.out h1.out ?_; intro w1 hB1 ho1))
  exact ret_row Tryd.results46 rfl rfl hB1.out Tryd.underlying32 rfl (by simpa using hi.out) ⟨rfl, ho1.out.below ((Below.refl _ _).alloc (Nat.le_refl _) _) (Nat.le_refl _) (by simp)⟩

set_option maxRecDepth 100000 in
set_option maxHeartbeats 400000 in
theorem new_any (w : World) : Calls Tryd.prog 29 #[] w fun e w' => ∃ g, e = .returned (.pointer (some ⟨g, 0, none⟩)) ∧ w.heap.size ≤ g ∧ Hs w' g [] ∧ Below w.heap.size w w' := by
  obtain ⟨Y, hY⟩ : ∃ Y : Array Value, Y = (hc w0 (List.replicate 64 0) 0).toArray := ⟨_, rfl⟩
  have hbn := built_new
  rw [← hY] at hbn
  have HB := Lib.hid hbn
  have HY := Lib.hid hY
  clear hY hbn
  go_enter Tryd.func29, Tryd.ntmps29
  go_wp2_with (first
   | (go_at_call 44; refine (first_any _).mono ?_; rintro e w1 ⟨rfl, hb1⟩)
   | (refine wpList_build_to rfl 78 _ rfl Y (by simpa [Act.eval] using HB.out) ?_))
  go_ret
  have hB : Blk (w1.alloc (.cells Y 78)) w1.heap.size 78 (hc w0 (List.replicate 64 0) 0) := Blk_at HY.out rfl
  exact ⟨w1.heap.size, rfl, hb1.size, ⟨List.replicate 64 0, by simp, fun c hc => by rw [(List.mem_replicate.1 hc).2]; decide, by simp, hB⟩, hb1.alloc hb1.size _⟩

theorem own_some {w : World} {base n c : Nat} {e : TypeId} {A : Option Addr} {xs : List Value} (h : w.ownsRow base e 1 (.slice A n c) n xs) (hn : 0 < n) : ∃ g, A = some ⟨g, 0, none⟩ ∧ base ≤ g ∧ g < w.heap.size := by
  rcases h.2 with ⟨hv, h0⟩ | ⟨g, cap', cur, hv, hb, hh, _⟩
  · omega
  · simp only [Value.slice.injEq] at hv
    exact ⟨g, hv.1, hb, lt_of_block hh⟩
theorem zero51 (w : World) : (zeroValue 78).run Tryd.prog w = .ok (.agg (hc ⟨0, 0, 0, 0, 0, 0, 0, 0⟩ (List.replicate 64 0) 0).toArray) w := by kernel_rfl
theorem size_hash : (Tryd.prog.info? 78).map (·.size) = some 73 := by kernel_rfl
theorem hc_one (u : W8) (op : List Nat) (n : Nat) : ∀ v ∈ hc u op n, v.oneCell' = true := by
  intro v hv
  simp only [hc, List.mem_append, List.mem_singleton] at hv
  rcases hv with hv | hv | hv
  · exact u32n_one _ v hv
  · exact u8n_one _ v hv
  · subst hv; rfl
theorem src_own {w : World} {g n c : Nat} {A : Option Addr} {xs : List Nat} {base : Nat} {e : TypeId} (h : w.ownsRow base e 1 (.slice A n c) n (u8n xs)) (hg : g < base) : Src w g A n c xs :=
  ⟨Rd.own h, fun hn b o hA => by
    obtain ⟨g', hA', hb, _⟩ := own_some h hn
    rw [hA] at hA'
    injection hA' with hA'
    injection hA' with hb'
    omega⟩
theorem pad_div (l : List Nat) : (pad l).length % 64 = 0 := pad_len l

set_option maxRecDepth 100000 in
set_option maxHeartbeats 1600000 in
theorem sum_any (g : Nat) (l : List Nat) (w : World) (hT : Tab w) (hH : Hs w g l) (hl : by256 l) (hbd : l.length < 549755813888) :
    Calls Tryd.prog 46 #[.pointer (some ⟨g, 0, none⟩)] w fun e w' => e = .returned (.agg (u8n (dig l)).toArray) ∧ Below w.heap.size w w' := by
  obtain ⟨op, h1, h2, h3, hB⟩ := hH
  obtain ⟨u, hu⟩ : ∃ u, u = bk l (l.length / 64) := ⟨_, rfl⟩
  rw [← hu] at hB
  have cL : w.cell? ⟨g, 72, none⟩ = some (.int .i64 (l.length : Int)) := hB.cell (hc_long h1)
  have hgl := hB.lt
  have H1 := Lib.hid h1
  have H3 := Lib.hid h3
  have HB := Lib.hid hB
  have Hu := Lib.hid hu
  have HT := Lib.hid hT
  have hz := zero51
  have hz32 := zero32
  obtain ⟨Z, hZ⟩ : ∃ Z : Array Value, Z = (hc ⟨0, 0, 0, 0, 0, 0, 0, 0⟩ (List.replicate 64 0) 0).toArray := ⟨_, rfl⟩
  obtain ⟨Z2, hZ2⟩ : ∃ Z2 : Array Value, Z2 = (u8n (List.replicate 32 0)).toArray := ⟨_, rfl⟩
  simp only [← hZ] at hz
  simp only [← hZ2] at hz32
  have HZ := Lib.hid hZ
  have HZ2 := Lib.hid hZ2
  clear hZ hZ2 hu hB h1 h3 hT
  obtain ⟨L, hL⟩ : ∃ L, L = l.length := ⟨_, rfl⟩
  rw [← hL] at cL hbd
  have HL := Lib.hid hL
  clear hL
  have hi := Lib.hid (show (Tryd.prog.info? 78).map (·.size) = some (hc u op l.length).length by rw [hc_len H1.out]; exact size_hash)
  go_enter Tryd.func46, Tryd.ntmps46
  go_wp2_with (first
   | (refine wpList_load_blk rfl 78 (.tmp 8) rfl g rfl (HB.out.alloc _) Tryd.underlying78 rfl hi.out ?_)
   | (refine wpList_store_blk rfl 78 (.tmp 3) (.tmp 9) rfl (w.heap.size + 1) rfl (hc u op l.length) rfl (Blk_at HZ.out (by simp)) (by rw [hc_len H1.out, hc_len (by simp)]) hi.out (hc_one _ _ _) ?_; intro w3 hB3 ho3; have hb3 := ho3.out.below (((Below.refl w.heap.size w).alloc (Nat.le_refl _) (.cells Z2 32)).alloc (by simp) (.cells Z 78)) (by omega) (by simp; omega); have hR3 := Lib.hid (ho3.out.blk (Blk.alloc (Blk_at (n := w.heap.size) HZ2.out rfl) _) (by omega)); have cL3 := (hb3.cell (p := ⟨g, 72, none⟩) hgl).trans cL; have hs3 : w.heap.size + 2 ≤ w3.heap.size := (by have := ho3.out.2; simp at this; omega); clear cL))
  have hH3 : Hs w3 (w.heap.size + 1) l := ⟨op, H1.out, h2, H3.out, by rw [← Hu.out]; exact hB3.out⟩
  have hH := Lib.hid hH3
  clear hH3 hB3 ho3 cL3 HB H3 H1 hi hz hz32
  refine (ending_any L w3 (by omega)).mono ?_
  rintro e w4 ⟨A, n, c, hn, rfl, hown, hb4⟩
  have hS4 := Lib.hid (src_own (g := w.heap.size + 1) hown (by omega))
  have hb4' := hb3.trans (hb4.mono hb3.size)
  have hlen := Lib.hid (tail_len l.length)
  have hzl := zs_lt l.length
  go_wp2_with fail
  refine (write_any (w.heap.size + 1) A n c (tail l.length) l w4 (HT.out.below hb4' HT.out.1) (by omega) (hH.out.below hb4) (by rw [← HL.out]; exact (HL.out ▸ hS4.out)) (tail_lt _) (by rw [hlen.out, ← HL.out]; rw [← HL.out] at hzl; omega)).mono ?_
  rintro e w5 ⟨rfl, hH5, hg5⟩
  have hR5 := Lib.hid (show Blk w5 w.heap.size 32 (u8n (List.replicate 32 0)) from (hg5.block w.heap.size (by have := hb4.size; omega) (by simp)).trans (hR3.out.below hb4))
  have hb5 := hb4'.grown hg5 hb4'.size (fun k hk => by injection hk with hk; omega)
  obtain ⟨op5, h15, _, _, hB5⟩ := hH5
  have hdig : Hid (dig l = bys (bk (l ++ tail l.length) ((l ++ tail l.length).length / 64))) := Lib.hid rfl
  have hok := bk_ok (l ++ tail l.length) ((l ++ tail l.length).length / 64)
  generalize bk (l ++ tail l.length) ((l ++ tail l.length).length / 64) = u5 at *
  have HB5 := Lib.hid hB5
  have h46 := Lib.hid (show (Tryd.prog.info? 73).map (·.size) = some (wl u5).length by rw [wl_len]; exact size_words)
  have hby := fun W => bytes_any u5 W hok
  rw [← wl_ws, ← hdig.out] at hby
  have hsz5 := hg5.size
  clear hB5 hg5 hown hn hR3
  go_wp2_with (first
   | (refine wpList_load_part rfl 73 (.tmp 16) rfl (w.heap.size + 1) 0 rfl (wl u5) HB5.out (by rw [wl_len]; rfl) Tryd.underlying73 rfl h46.out ?_)
   | (go_at_call 60; refine (hby _).mono ?_; rintro e w6 ⟨rfl, hb6⟩)
   | (refine wpList_store_blk rfl 32 (.tmp 2) (.tmp 18) rfl w.heap.size rfl (u8n (dig l)) rfl (hR5.out.below hb6) (by rw [u8n_len, u8n_len, dig_len, List.length_replicate]) (by rw [u8n_len, dig_len]; exact size_w32) (u8n_one _) ?_; intro w7 hB7 ho7))
  exact ret_row Tryd.results46 rfl rfl hB7.out Tryd.underlying32 rfl (by rw [List.size_toArray, u8n_len, dig_len]; exact size_w32) ⟨rfl, ho7.out.below (hb5.trans (hb6.mono hb5.size)) (Nat.le_refl _) (by have := hb6.size; have := hb5.size; omega)⟩

end Go.Proofs.YtlghojnlnfkdhaaDoor.ShaJ
