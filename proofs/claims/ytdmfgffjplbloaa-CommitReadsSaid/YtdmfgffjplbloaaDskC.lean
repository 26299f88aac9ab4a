/- Bytes cloned; a write to a disk. Conditions: the disk lies as the facts say; so many writes wait that no slice grows past its bounds. -/
import Derived.Test.YtdmfgffjplbloaaDskB
import Derived.Deep.RegionLaw
namespace Go.Proofs.Ytdmfgffjplbloaa.DskC
open Go.RowKit Go.Proofs.Ytdmfgffjplbloaa.Kit Go.Proofs.Ytdmfgffjplbloaa.Byt Go.Proofs.Ytdmfgffjplbloaa.Mem Go.Proofs.Ytdmfgffjplbloaa.DskA Go.Proofs.Ytdmfgffjplbloaa.DskB

set_option maxHeartbeats 400000 in
theorem clone_any (A : Option Addr) (n c : Nat) (xs : List Nat) (w : World) (hR : Rd w A n c (u8n xs)) (hn : 0 < n) (hl : n ≤ 140737488351232) :
    Calls Try.prog 33 #[.slice A n c] w (Fresh w xs) := by
  obtain ⟨i0, hi0, hz0, hz1, hz2⟩ := info_parts info8
  obtain ⟨b, o, hA⟩ : ∃ b o, A = some ⟨b, o, none⟩ := by
    obtain ⟨b, o, hA, _⟩ := hR.at_ hn
    exact ⟨b, o, hA⟩
  have HR := Lib.hid hR
  clear hR
  subst hA
  have hnil := fun (W : World) => Lib.run_eql_slice_nil (P := Try.prog) W 42 5 (some ⟨b, o, none⟩) n c 0 0 Try.underlying42
  go_enter Try.func33, Try.ntmps33
  go_wp2_with (at_builtin; refine wpList_add _ rfl (.tmp 5) (.tmp 6) _ rfl w.heap.size 5 i0 _ 1 Try.underlying42 hi0 hz0 hz1 hz2 rfl _ 0 [] rfl (emptied w _) (some ⟨b, o, none⟩) n c (u8n xs) rfl (HR.out.alloc _) (u8n_one _) (by omega) (by omega) (size_alloc _ _) ?_; intro A2 n2 c2 w2 hn2 hown2 hg2 hat2; have hb2 := below_add ((Below.refl w.heap.size w).alloc (Nat.le_refl _) _) (emptied w _) (Nat.le_refl _) hg2)
  go_ret
  exact Fresh.of (by simpa using hown2) hb2

section
variable {w w2 w3 : World} {F : Nat → Prop} {g gl n c n' c' b cb i : Nat} {s : St} {A A' : Option Addr} {E : List Wr} {bs : List Nat} {o : Obj}
theorem grow_keep (hb2 : Below w.heap.size w w2) {row : Option Nat} (hg : (w2.alloc o).grownBy w3 row) : Keep (fun k => row = some k) w w3 :=
  ((Keep.of_below (hb2.alloc hb2.size o)).trans (Keep.grown (F := fun k => row = some k) hg fun _ h => h) fun _ h => .inl h)
/-- A write was put behind those that wait. -/
theorem At.add (h : At w F g s gl A n c E) (hb2 : Below w.heap.size w w2) (hR : Rd w2 (some ⟨b, 0, none⟩) 64 cb (u8n bs)) (hb : w.heap.size ≤ b) (hbl : b < w2.heap.size) (hg : (w2.alloc o).grownBy w3 (Value.slice A n c).ownBlock)
    (hat : (Value.slice A' n' c').ownBlock = (Value.slice A n c).ownBlock ∨ (Value.slice A' n' c').ownBlock = some (w2.alloc o).heap.size)
    (hown : w3.ownsRow 0 71 2 (.slice A' n' c') n' (wc E ++ Wr.cells ⟨i, b, cb, bs⟩)) (hi : i < s.S.length) (hbs : bs.length = 64) :
    At (w3.setCell ⟨g, 1, none⟩ (.slice A' n' c')) (fun k => F k ∨ k = b ∨ (Value.slice A' n' c').ownBlock = some k) g { s with L := s.L ++ [(i, bs)] } gl A' n' c' (E ++ [⟨i, b, cb, bs⟩]) := by
  have hK := grow_keep hb2 hg
  have hsz := hb2.size
  have hsa : (w2.alloc o).heap.size = w2.heap.size + 1 := by simp
  have hs3 := hg.size
  have hgw := h.lt g h.fg
  have hglw := h.lt gl h.fl
  have ho' : ∀ k, (Value.slice A' n' c').ownBlock = some k → (F k ∧ k ≠ g ∧ k ≠ gl ∧ (Value.slice A n c).ownBlock = some k) ∨ k = w2.heap.size + 1 := by
    intro k hk
    rcases hat with h1 | h1
    · rw [h1] at hk
      exact .inl ⟨(h.fw k hk).1, (h.fw k hk).2.1, (h.fw k hk).2.2, hk⟩
    · rw [h1, hsa] at hk
      injection hk with hk
      exact .inr hk.symm
  have hS : Keep (fun k => k = g) w3 (w3.setCell ⟨g, 1, none⟩ (.slice A' n' c')) := Keep.set _ _ _ rfl
  refine ⟨?_, ?_, ?_, ?_, ?_, .inl h.fg, .inl h.fl, h.ne, ?_, ?_, ⟨h.ok.pos, h.ok.most, h.ok.sec, ?_, h.ok.lo, h.ok.hi⟩⟩
  · exact (hK.blk h.head fun hk => (h.fw g hk).2.1 rfl).set 1 _
  · exact hS.blk (hK.blk h.laid fun hk => (h.fw gl hk).2.2 rfl) h.ne
  · rw [wc_app]
    refine hS.own (by simpa [wc] using hown) fun k hk => ?_
    rcases ho' k hk with h1 | h1
    · exact h1.2.1
    · omega
  · simp [h.list]
  · intro e he
    rcases List.mem_append.1 he with he | he
    · obtain ⟨h1, h2, h3, h4, h5⟩ := h.ent e he
      have hel := h.lt _ h2
      refine ⟨hS.rd (hK.rd h1 fun _ b o hb hk => ?_) fun _ b o hb hk => ?_, .inl h2, h3, h4, fun k hk he => ?_⟩
      · injection hb with hb; injection hb with hb _
        exact h5 b hk hb
      · injection hb with hb; injection hb with hb _
        exact h3 (hb.trans hk)
      · rcases ho' k hk with h1 | h1
        · exact h5 k h1.2.2.2 he
        · omega
    · obtain rfl := List.mem_singleton.1 he
      refine ⟨hS.rd ((Keep.grown (F := fun k => (Value.slice A n c).ownBlock = some k) hg fun _ h => h).rd (hR.alloc o) fun _ b' o' hb' hk => ?_) fun _ b' o' hb' hk => ?_, .inr (.inl rfl), ?_, ?_, fun k hk he => ?_⟩
      · injection hb' with hb'; injection hb' with hb' _
        have hb' : b = b' := hb'
        have := h.lt _ (h.fw _ hk).1
        omega
      · injection hb' with hb'; injection hb' with hb' _
        have hb' : b = b' := hb'
        omega
      · show b ≠ g
        omega
      · show b ≠ gl
        omega
      · have he : b = k := he
        rcases ho' k hk with h1 | h1
        · have := h.lt _ h1.1
          omega
        · omega
  · intro k hk
    refine ⟨.inr (.inr hk), ?_⟩
    rcases ho' k hk with h1 | h1
    · exact ⟨h1.2.1, h1.2.2.1⟩
    · omega
  · intro k hk
    have hs4 : (w3.setCell ⟨g, 1, none⟩ (.slice A' n' c')).heap.size = w3.heap.size := by simp [World.setCell]
    rw [hs4]
    rcases hk with hk | hk | hk
    · have := h.lt k hk; omega
    · omega
    · exact (hown.lt k hk).2
  · intro p hp
    rcases List.mem_append.1 hp with hp | hp
    · exact h.ok.wait p hp
    · obtain rfl := List.mem_singleton.1 hp
      exact ⟨hi, hbs⟩
theorem At.added (h : At w F g s gl A n c E) (hb2 : Below w.heap.size w w2) (hg : (w2.alloc o).grownBy w3 (Value.slice A n c).ownBlock) (v : Value) : Keep F w (w3.setCell ⟨g, 1, none⟩ v) :=
  ((grow_keep hb2 hg).mono fun k _ hk => (h.fw k hk).1).trans (Keep.set (F := F) w3 1 v h.fg) fun _ h => .inl h
end

theorem At.frz {w w2 w3 : World} {F : Nat → Prop} {g gl n c : Nat} {s : St} {A : Option Addr} {E : List Wr} {o : Obj} (h : At w F g s gl A n c E) (hb2 : Below w.heap.size w w2) (hg : (w2.alloc o).grownBy w3 (Value.slice A n c).ownBlock) (hn : ¬ (Value.slice A n c).ownBlock = some g) : w3.frozen? ⟨g, 1, none⟩ = false :=
  ((grow_keep hb2 hg).blk h.head hn).frozen 1
theorem new_cells (w : World) (cs : List Value) (t : TypeId) : ∀ j u, cs[j]? = some u → (w.alloc (.cells cs.toArray t)).cell? ((⟨w.heap.size, 0, none⟩ : Addr).add j) = some u := by
  intro j u hj
  rw [Addr.add_lit]
  exact (Blk.new w t cs).cell (by simpa using hj)
theorem wr_one (e : Wr) : ∀ u ∈ e.cells, u.oneCell' = true := by
  intro u hu
  simp only [Wr.cells, List.mem_cons, List.not_mem_nil, or_false] at hu
  rcases hu with rfl | rfl <;> rfl
theorem info_wr : (Try.prog.info? 71).map (fun i => (i.zero, i.size, i.bytes)) = some (some (.agg #[.int .i64 0, .slice none 0 0]), 2, 32) := by kernel_rfl

theorem write_nil (i : Int) (A : Option Addr) (n c : Nat) (w : World) : Calls Try.prog 16 #[.pointer none, .int .i64 i, .slice A n c] w fun e w' => e = .returned (.int .i64 7) ∧ w = w' := by
  go_enter Try.func16, Try.ntmps16
  go_wp2
  go_ret
  exact ⟨rfl, rfl⟩
set_option maxHeartbeats 400000 in
theorem write_range (F : Nat → Prop) (g : Nat) (s : St) (i : Int) (A : Option Addr) (n c : Nat) (w : World) (hD : Dk w F g s) (hi : inB s i = false) :
    Calls Try.prog 16 #[.pointer (some ⟨g, 0, none⟩), .int .i64 i, .slice A n c] w fun e w' => e = .returned (.int .i64 3) ∧ w = w' := by
  have HC := fun W h => has_any F g s i W h
  rw [hi] at HC
  have HC' := Lib.hid HC
  have Hi := Lib.hid hi
  clear HC hi
  go_enter Try.func16, Try.ntmps16
  go_wp2_with (go_at_call 31; refine (HC'.out _ hD).mono ?_; rintro e w' ⟨rfl, rfl⟩)
  go_ret
  exact ⟨rfl, rfl⟩
set_option maxHeartbeats 400000 in
theorem write_size (F : Nat → Prop) (g : Nat) (s : St) (i : Int) (A : Option Addr) (n c : Nat) (w : World) (hD : Dk w F g s) (hi : inB s i = true) (hn : n ≠ 64) :
    Calls Try.prog 16 #[.pointer (some ⟨g, 0, none⟩), .int .i64 i, .slice A n c] w fun e w' => e = .returned (.int .i64 14) ∧ w = w' := by
  have HC := fun W h => has_any F g s i W h
  rw [hi] at HC
  have HC' := Lib.hid HC
  have Hi := Lib.hid hi
  clear HC hi
  have hne : ((n : Int) != 64) = true := by simp; omega
  go_enter Try.func16, Try.ntmps16
  go_wp2_with (go_at_call 31; refine (HC'.out _ hD).mono ?_; rintro e w' ⟨rfl, rfl⟩)
  go_ret
  exact ⟨rfl, rfl⟩
set_option maxHeartbeats 400000 in
theorem write_down (F : Nat → Prop) (g : Nat) (s : St) (i : Int) (A : Option Addr) (c : Nat) (w : World) (hD : Dk w F g s) (hi : inB s i = true) (hs : (spend s).1 = false) :
    Calls Try.prog 16 #[.pointer (some ⟨g, 0, none⟩), .int .i64 i, .slice A 64 c] w (Got F g w (.int .i64 8) (spend s).2) := by
  have HC := fun W h => has_any F g s i W h
  rw [hi] at HC
  have HC' := Lib.hid HC
  have HS := fun W h => spend_any F g s W h
  rw [hs] at HS
  have HS' := Lib.hid HS
  have Hi := Lib.hid hi
  have Hs := Lib.hid hs
  clear HC hi HS hs
  go_enter Try.func16, Try.ntmps16
  go_wp2_with (first
   | (go_at_call 31; refine (HC'.out _ hD).mono ?_; rintro e w' ⟨rfl, rfl⟩)
   | (go_at_call 32; refine (HS'.out _ hD).mono ?_; rintro e w' ⟨rfl, F1, hD1, hk1, hf1⟩))
  go_ret
  exact ⟨rfl, F1, hD1, hk1, hf1⟩

theorem got_write {w w1 w2 w3 : World} {F F1 : Nat → Prop} {g gl n c n' c' b cb i base : Nat} {s s1 : St} {A A' : Option Addr} {E : List Wr} {bs : List Nat} {o : Obj}
    (h : At w1.drew F1 g s1 gl A n c E) (hsl : s1.L = s.L ∧ s1.S = s.S) (hk1 : Keep F w w1) (hf1 : ∀ k, F1 k → F k ∨ w.heap.size ≤ k) (hb2 : Below w1.drew.heap.size w1.drew w2) (hob : w2.ownsRow base 5 1 (.slice (some ⟨b, 0, none⟩) 64 cb) 64 (u8n bs))
    (hb : w1.drew.heap.size ≤ b) (hbl : b < w2.heap.size) (hg : (w2.alloc o).grownBy w3 (Value.slice A n c).ownBlock) (hat : (Value.slice A' n' c').ownBlock = (Value.slice A n c).ownBlock ∨ (Value.slice A' n' c').ownBlock = some (w2.alloc o).heap.size)
    (hown : w3.ownsRow 0 71 2 (.slice A' n' c') n' (wc E ++ Wr.cells ⟨i, b, cb, bs⟩)) (hi : i < s1.S.length) (hbs : bs.length = 64) :
    Got F g w (.int .i64 0) ⟨s1.S, s.L ++ [(i, bs)], s1.fuse, s1.down⟩ (.returned (.int .i64 0)) (w3.setCell ⟨g, 1, none⟩ (.slice A' n' c')) := by
  have h4 := At.add h hb2 (Rd.own hob) hb hbl hg hat hown hi hbs
  have hs : w.heap.size ≤ w1.heap.size := hk1.size
  have hb : w1.heap.size ≤ b := hb
  rw [hsl.1] at h4
  refine ⟨rfl, _, ⟨gl, A', n', c', _, h4⟩, (hk1.drew.trans (At.added h hb2 hg _) hf1), fun k hk => ?_⟩
  rcases hk with hk | hk | hk
  · exact hf1 k hk
  · exact .inr (by omega)
  · rcases hat with h1 | h1
    · rw [h1] at hk
      exact hf1 k (h.fw k hk).1
    · rw [h1] at hk
      injection hk with hk
      have hs2 : w1.heap.size ≤ w2.heap.size := hb2.size
      simp at hk
      exact .inr (by omega)
set_option maxHeartbeats 1600000 in
theorem write_ok (F : Nat → Prop) (g : Nat) (s : St) (i : Nat) (A : Option Addr) (c : Nat) (bs : List Nat) (w : World) (hD : Dk w F g s) (hi : i < s.S.length) (hR : Rd w A 64 c (u8n bs)) (hA : ∀ b o, A = some ⟨b, o, none⟩ → ¬ F b) (hs : (spend s).1 = true) (hL : s.L.length ≤ 1000000000) :
    Calls Try.prog 16 #[.pointer (some ⟨g, 0, none⟩), .int .i64 (i : Int), .slice A 64 c] w (Got F g w (.int .i64 0) { (spend s).2 with L := s.L ++ [(i, bs)] }) := by
  have hin : inB s i = true := by simp [inB, hi]
  have HC := fun W h => has_any F g s i W h
  rw [hin] at HC
  have HC' := Lib.hid HC
  have HS := fun W h => spend_any F g s W h
  rw [hs] at HS
  have HS' := Lib.hid HS
  have Hi := Lib.hid hin
  have hSL : (spend s).2.L = s.L ∧ (spend s).2.S = s.S := by
    unfold spend
    split
    · exact ⟨rfl, rfl⟩
    · split
      · exact ⟨rfl, rfl⟩
      · dsimp only
        split <;> exact ⟨rfl, rfl⟩
  obtain ⟨s1, hs1⟩ : ∃ s1, s1 = (spend s).2 := ⟨_, rfl⟩
  rw [← hs1] at hSL HS' ⊢
  have HSL := Lib.hid hSL
  have HR := Lib.hid hR
  have HA := Lib.hid hA
  have Hbs := Lib.hid (show bs.length = 64 from Rd.nats hR)
  have hi1 : i < s1.S.length := by rw [hSL.2]; exact hi
  clear HC hin HS hs hs1 hSL hR hA hi
  obtain ⟨i0, hi0, hz0, hz1, hz2⟩ := info_parts info_wr
  go_enter Try.func16, Try.ntmps16
  go_wp2_with (first
   | (go_at_call 31; refine (HC'.out _ hD).mono ?_; rintro e w' ⟨rfl, rfl⟩)
   | (go_at_call 32; refine (HS'.out _ hD).mono ?_; rintro e w1 ⟨rfl, F1, hD1, hk1, hf1⟩))
  obtain ⟨gl, A1, n1, c1, E, h1⟩ := hD1
  obtain ⟨_, k1, _, _⟩ := h1.cells
  have hn1 : n1 ≤ 1000000000 := by rw [← h1.long, HSL.out.1]; exact hL
  have hg1 := h1.lt g h1.fg
  have HR1 := Lib.hid (show Rd w1.drew A 64 c (u8n bs) from hk1.rd HR.out fun _ b o h => HA.out b o h)
  have H1 := Lib.hid (show At w1.drew F1 g s1 gl A1 n1 c1 E from h1.keep (Keep.drew (Keep.refl (fun _ => False) w1)) fun _ _ h => h)
  have hg1 : g < w1.drew.heap.size := hg1
  clear h1
  go_region_law (first
   | (rw [if_pos (by rfl)]; go_simp; refine (clone_any A 64 c bs _ HR1.out (by omega) (by omega)).mono ?_; rintro e w2 ⟨B, nb, cb, hnb, rfl, hownb, hb2⟩; obtain rfl : nb = 64 := hnb.out.trans Hbs.out; obtain ⟨b, rfl, hbw, hbl⟩ := own_some hownb (by omega); have HOB := Lib.hid hownb; have HB2 := Lib.hid hb2; have k2 := (hb2.cell (p := ⟨g, 1, none⟩) hg1).trans H1.out.cells.2.1; have k2a := ((Below.refl w2.heap.size w2).alloc (Nat.le_refl _) (.cells #[.int .i64 (i : Int), .slice (some ⟨b, 0, none⟩) 64 cb] 71)).cell (p := ⟨g, 1, none⟩) (by have := hb2.size; simp; omega) |>.trans k2; clear hownb hb2 hnb; go_wp2_with fail)
   | (rw [if_pos (by rfl)]; refine wp_append_at (.tmp 27) (.tmp 32) 57 rfl 0 71 i0 _ 2 32 Try.underlying57 hi0 hz0 hz1 hz2 rfl (by omega) (.slice A1 n1 c1) n1 (wc E) rfl (((Keep.of_below (F := fun _ => False) HB2.out).own H1.out.own fun _ _ h => h).alloc _) ⟨w2.heap.size, 0, none⟩ 1 1 (Wr.cells ⟨i, b, cb, bs⟩) rfl rfl (new_cells w2 (Wr.cells ⟨i, b, cb, bs⟩) _) (wr_one _) (by unfold maxLen; omega) (by omega) (Nat.zero_le _) ?_; intro A3 n3 c3 w3 hn3 hown3 hg3 hat3; have Hg3 := Lib.hid hg3; have k3 : w3.cell? ⟨g, 1, none⟩ = some (.slice A1 n1 c1) := (World.cell?_of_block (hg3.block g (by have := HB2.out.size; simp; omega) (fun h => (H1.out.fw g h.symm).2.1 rfl))).trans k2a; have f3 : w3.frozen? ⟨g, 1, none⟩ = false := (At.frz H1.out HB2.out hg3 (fun h => (H1.out.fw g h).2.1 rfl)); clear hg3))
  all_goals
    go_wp2
    go_ret
    exact got_write H1.out HSL.out hk1 hf1 HB2.out HOB.out hbw hbl Hg3.out hat3.out hown3.out hi1 Hbs.out
end Go.Proofs.Ytdmfgffjplbloaa.DskC
