/- The reference's disk: does a call go on; a write. Conditions: the disk lies as the facts say. -/
import Derived.Test.YtdofnoaadkpniaaRdkA
import Derived.Outline
namespace Go.Proofs.Ytdofnoaadkpniaa.RdkB
open Go.RowKit Go.Proofs.Ytdofnoaadkpniaa.Kit Go.Proofs.Ytdofnoaadkpniaa.Byt Go.Proofs.Ytdofnoaadkpniaa.Mem Go.Proofs.Ytdofnoaadkpniaa.DskA Go.Proofs.Ytdofnoaadkpniaa.DskB Go.Proofs.Ytdofnoaadkpniaa.RdkA

set_option maxHeartbeats 400000 in
theorem goes_any (F : Nat → Prop) (g : Nat) (s : St) (w : World) (hD : RD w F g s) :
    Calls Try.prog 28 #[.pointer (some ⟨g, 0, none⟩)] w fun e w' => e = .returned (.bool (spend s).1) ∧ RD w' F g (spend s).2 ∧ Keep F w w' := by
  obtain ⟨r, x, V, U, h⟩ := hD
  obtain ⟨_, _, _, c3, c4⟩ := h.rb.cells
  have f3 := h.rb.head.frozen 3
  have f4 := h.rb.head.frozen 4
  have lo := h.ok.lo
  have hi := h.ok.hi
  have H := Lib.hid h
  clear h
  unfold spend
  by_cases h0 : s.fuse = 0
  · rw [if_pos h0]
    rw [h0] at c3
    have h5 := H.out.rb.heads (f' := s.fuse) (d' := true) (i := 4) (u := .bool true) rfl (w' := w.setCell ⟨g, 4, none⟩ (.bool true)) rfl
    have H5 := Lib.hid h5
    clear h5
    go_enter Try.func28, Try.ntmps28
    go_wp2
    go_ret
    exact ⟨rfl, ⟨r, x, V, U, H5.out.1, H.out.x0, H.out.x1, H.out.x2, H.out.hS, H.out.hL, fun v hv => H5.out.2.1 v (H.out.el v hv), ⟨H.out.ok.pos, H.out.ok.most, H.out.ok.sec, H.out.ok.wait, H.out.ok.lo, H.out.ok.hi⟩⟩, H5.out.2.2⟩
  · rw [if_neg h0]
    have h0' : (s.fuse == 0) = false := by simpa using h0
    have H0 := Lib.hid h0
    clear h0
    cases hd : s.down with
    | true =>
      rw [hd] at c4
      rw [if_pos rfl]
      have Hd := Lib.hid hd
      clear hd
      by_cases hp : 0 < s.fuse
      · go_enter Try.func28, Try.ntmps28
        go_wp2
        go_ret
        exact ⟨rfl, ⟨r, x, V, U, H.out⟩, Keep.refl _ _⟩
      · have hp' : decide (0 < s.fuse) = false := by simpa using hp
        go_enter Try.func28, Try.ntmps28
        go_wp2
        go_ret
        exact ⟨rfl, ⟨r, x, V, U, H.out⟩, Keep.refl _ _⟩
    | false =>
      rw [hd] at c4
      rw [if_neg (by simp)]
      have Hd := Lib.hid hd
      clear hd
      by_cases hp : 0 < s.fuse
      · rw [if_pos hp]
        have h5 := H.out.rb.heads (f' := s.fuse - 1) (d' := s.down) (i := 3) (u := .int .i64 (s.fuse - 1)) rfl (w' := w.setCell ⟨g, 3, none⟩ (.int .i64 (s.fuse - 1))) rfl
        have H5 := Lib.hid h5
        clear h5
        go_enter Try.func28, Try.ntmps28
        go_wp2
        go_ret
        have hA : RA (w.setCell ⟨g, 3, none⟩ (.int .i64 (s.fuse - 1))) F g { s with fuse := s.fuse - 1 } r x V U := ⟨H5.out.1, H.out.x0, H.out.x1, H.out.x2, H.out.hS, H.out.hL, fun v hv => H5.out.2.1 v (H.out.el v hv), ⟨H.out.ok.pos, H.out.ok.most, H.out.ok.sec, H.out.ok.wait, by show _ ≤ s.fuse - 1; omega, by show s.fuse - 1 ≤ _; omega⟩⟩
        rw [Hd.out] at hA
        exact ⟨rfl, ⟨r, x, V, U, hA⟩, H5.out.2.2⟩
      · rw [if_neg hp]
        go_enter Try.func28, Try.ntmps28
        go_wp2
        go_ret
        exact ⟨rfl, ⟨r, x, V, U, H.out⟩, Keep.refl _ _⟩

section
variable {P : Program} {ops : Array Oper} {rest : List Oper} {o : Oper} {a : Act} {w : World} {Q : Exit → Act → World → Prop}
theorem wpList_append_at (hgd : o.guard = none) (s x : Operand) (t : TypeId)
    (ho : o.op = .call { callee := .builtin .append, args := #[s, x], argTypes := #[t, t] })
    (base : Nat) (e : TypeId) (i : TypeInfo) (z : Value) (size bytes : Nat) (ht : P.underlying t = some (.slice e)) (hi : P.info? e = some i) (hz : i.zero = some z)
    (hsize : i.size = size) (hby : i.bytes = bytes) (hzs : z.cells.size = size) (hsz : 0 < size)
    (v : Value) (n : Nat) (xs : List Value) (hs : a.eval s = v) (hown : w.ownsRow base e size v n xs)
    (ad : Addr) (m c : Nat) (news : List Value) (hx : a.eval x = .slice (some ad) m c) (hl : news.length = m * size) (hnews : ∀ j u, news[j]? = some u → w.cell? (ad.add j) = some u) (h1 : ∀ u ∈ news, u.oneCell' = true)
    (h63 : n + m ≤ maxLen) (hbytes : (n + m) * bytes ≤ 140737488355328) (hbase : base ≤ w.heap.size)
    (h : ∀ A' n' c' w', Hid (n' = n + m) → Hid (w'.ownsRow base e size (.slice A' n' c') n' (xs ++ news)) → w.grownBy w' v.ownBlock → Hid ((Value.slice A' n' c').ownBlock = v.ownBlock ∨ (Value.slice A' n' c').ownBlock = some w.heap.size) → wpList P ops Q rest (a.put o.dst (.slice A' n' c')) w') : wpList P ops Q (o :: rest) a w :=
  wpList_plain hgd fun _ hK => wp_append_at s x t ho base e i z size bytes ht hi hz hsize hby hzs hsz v n xs hs hown ad m c news hx hl hnews h1 h63 hbytes hbase fun A' n' c' w' h2 h3 h4 h5 => hK _ _ (h A' n' c' w' h2 h3 h4 h5)
end
theorem info_int : (Try.prog.info? 3).map (fun i => (i.zero, i.size, i.bytes)) = some (some (.int .i64 0), 1, 8) := by kernel_rfl
theorem info_sl : (Try.prog.info? 31).map (fun i => (i.zero, i.size, i.bytes)) = some (some (.slice none 0 0), 1, 24) := by kernel_rfl

theorem rwrite_range (F : Nat → Prop) (g : Nat) (s : St) (i : Int) (A : Option Addr) (n c : Nat) (w : World) (hD : RD w F g s) (hi : inB s i = false) :
    Calls Try.prog 13 #[.pointer (some ⟨g, 0, none⟩), .int .i64 i, .slice A n c] w fun e w' => e = .returned (.int .i64 3) ∧ w = w' := by
  obtain ⟨r, x, V, U, h⟩ := hD
  obtain ⟨c0, _, _, _, _⟩ := h.rb.cells
  rw [h.n0] at c0
  have hm := h.ok.most
  have hb : ¬ (0 ≤ i ∧ i < (s.S.length : Int)) := by simpa [inB] using hi
  clear h hi
  obtain ⟨N, hN⟩ : ∃ N, N = s.S.length := ⟨_, rfl⟩
  rw [← hN] at c0 hb hm
  clear hN
  by_cases h0 : i < 0
  · clear hb
    go_enter Try.func13, Try.ntmps13
    go_wp2
    go_ret
    exact ⟨rfl, rfl⟩
  · have h1 : (N : Int) ≤ i := by omega
    clear hb
    go_enter Try.func13, Try.ntmps13
    go_wp2
    go_ret
    exact ⟨rfl, rfl⟩
theorem rwrite_size (F : Nat → Prop) (g : Nat) (s : St) (i : Nat) (A : Option Addr) (n c : Nat) (w : World) (hD : RD w F g s) (hi : i < s.S.length) (hn : n ≠ 64) :
    Calls Try.prog 13 #[.pointer (some ⟨g, 0, none⟩), .int .i64 (i : Int), .slice A n c] w fun e w' => e = .returned (.int .i64 14) ∧ w = w' := by
  obtain ⟨r, x, V, U, h⟩ := hD
  obtain ⟨c0, _, _, _, _⟩ := h.rb.cells
  rw [h.n0] at c0
  have hm := h.ok.most
  clear h
  obtain ⟨N, hN⟩ : ∃ N, N = s.S.length := ⟨_, rfl⟩
  rw [← hN] at c0 hi hm
  clear hN
  have hne : ((n : Int) != 64) = true := by simp; omega
  go_enter Try.func13, Try.ntmps13
  go_wp2
  go_ret
  exact ⟨rfl, rfl⟩
theorem rwrite_down (F : Nat → Prop) (g : Nat) (s : St) (i : Nat) (A : Option Addr) (c : Nat) (w : World) (hD : RD w F g s) (hi : i < s.S.length) (hs : (spend s).1 = false) :
    Calls Try.prog 13 #[.pointer (some ⟨g, 0, none⟩), .int .i64 (i : Int), .slice A 64 c] w fun e w' => e = .returned (.int .i64 8) ∧ RD w' F g (spend s).2 ∧ Keep F w w' := by
  have HC := fun W h => goes_any F g s W h
  rw [hs] at HC
  have HC' := Lib.hid HC
  have Hs := Lib.hid hs
  have HD := Lib.hid hD
  obtain ⟨r, x, V, U, h⟩ := hD
  obtain ⟨c0, _, _, _, _⟩ := h.rb.cells
  rw [h.n0] at c0
  have hm := h.ok.most
  clear h HC hs
  obtain ⟨N, hN⟩ : ∃ N, N = s.S.length := ⟨_, rfl⟩
  rw [← hN] at c0 hi hm
  clear hN
  go_enter Try.func13, Try.ntmps13
  go_wp2_with (go_at_call 28; refine (HC'.out _ HD.out).mono ?_; rintro e w1 ⟨rfl, hD1, hk1⟩)
  go_ret
  exact ⟨rfl, hD1, hk1⟩

theorem new_el {w1 w2 : World} {F : Nat → Prop} {g b c : Nat} {s : St} {r : Nat → Sv} {x : Nat → List Value} {V U : List Sl} {bs : List Nat} (h : RA w1 F g s r x V U) (hb2 : Below w1.heap.size w1 w2) (hR : Rd w2 (some ⟨b, 0, none⟩) 64 c (u8n bs)) (hbw : w1.heap.size ≤ b) (hbl : b < w2.heap.size) :
    El w2 (Gr F w1 w2) g r ⟨some ⟨b, 0, none⟩, 64, c, bs⟩ := by
  refine ⟨hR, rfl, fun b' o hA => ?_⟩
  injection hA with hA
  injection hA with hA _
  have hA : b = b' := hA
  subst hA
  refine ⟨.inr ⟨hbw, hbl⟩, ?_, fun i hi hk => ?_⟩
  · have := h.rb.lt g h.rb.fg; omega
  · have := h.rb.lt b (h.rb.fo i hi b hk).1; omega
theorem grow_cells {w1 w2 : World} {F : Nat → Prop} {g : Nat} {r : Nat → Sv} {x : Nat → List Value} {f : Int} {d : Bool} {o : Obj} (h : RB w1 F g r x f d) {j : Nat} (hj : j < 3) (hg : (w1.alloc o).grownBy w2 (r j).v.ownBlock) :
    w2.cell? ⟨g, j, none⟩ = some (r j).v ∧ w2.frozen? ⟨g, j, none⟩ = false := by
  have kr : Keep (fun k => (r j).v.ownBlock = some k) w1 w2 := (Keep.of_below ((Below.refl w1.heap.size w1).alloc (Nat.le_refl _) o)).trans (Keep.grown (F := fun k => (r j).v.ownBlock = some k) hg fun _ h => h) fun _ h => .inl h
  have hB := kr.blk h.head fun hk => (h.fo j hj g hk).2.1 rfl
  refine ⟨?_, hB.frozen j⟩
  match j, hj with
  | 0, _ => exact hB.cell rfl
  | 1, _ => exact hB.cell rfl
  | 2, _ => exact hB.cell rfl
theorem rgot_write {w w1 w2 w4 w6 : World} {F F1 : Nat → Prop} {g b c i : Nat} {s s1 : St} {r : Nat → Sv} {x : Nat → List Value} {V U : List Sl} {bs : List Nat} {q p : Sv}
    (h1 : RA w1 F1 g s1 r x V U) (hsl : s1.L = s.L ∧ s1.S = s.S) (hk1 : Keep F w w1) (hF : F1 = F) (hb2 : Below w1.heap.size w1 w2)
    (h4 : RB w4 (Gr (Gr F1 w1 w2) w2 w4) g (up r 1 q) (up x 1 (x 1 ++ [.int .i64 (i : Int)])) s1.fuse s1.down ∧ (∀ v, El w2 (Gr F1 w1 w2) g r v → El w4 (Gr (Gr F1 w1 w2) w2 w4) g (up r 1 q) v) ∧ Keep (Gr F1 w1 w2) w2 w4)
    (h6 : RB w6 (Gr (Gr (Gr F1 w1 w2) w2 w4) w4 w6) g (up (up r 1 q) 2 p) (up (up x 1 (x 1 ++ [.int .i64 (i : Int)])) 2 (x 2 ++ [.slice (some ⟨b, 0, none⟩) 64 c])) s1.fuse s1.down ∧ (∀ v, El w4 (Gr (Gr F1 w1 w2) w2 w4) g (up r 1 q) v → El w6 (Gr (Gr (Gr F1 w1 w2) w2 w4) w4 w6) g (up (up r 1 q) 2 p) v) ∧ Keep (Gr (Gr F1 w1 w2) w2 w4) w4 w6)
    (hE : El w4 (Gr (Gr F1 w1 w2) w2 w4) g (up r 1 q) ⟨some ⟨b, 0, none⟩, 64, c, bs⟩) (hi : i < s1.S.length) (hbs : bs.length = 64) :
    RGot F g w (.int .i64 0) ⟨s1.S, s.L ++ [(i, bs)], s1.fuse, s1.down⟩ (.returned (.int .i64 0)) w6 := by
  subst hF
  refine ⟨rfl, _, ⟨_, _, V, U ++ [⟨some ⟨b, 0, none⟩, 64, c, bs⟩], h6.1, ?_, ?_, ?_, h1.hS, ?_, fun v hv => h6.2.1 v ?_, ⟨h1.ok.pos, h1.ok.most, h1.ok.sec, fun y hy => ?_, h1.ok.lo, h1.ok.hi⟩⟩, ?_, fun k hk => ?_⟩
  · exact h1.x0
  · show x 1 ++ [_] = _
    rw [h1.x1, hsl.1]
    simp
  · show x 2 ++ [_] = _
    rw [h1.x2]
    simp [Sl.val]
  · rw [List.map_append, h1.hL, hsl.1]
    simp
  · rcases hv with hv | hv
    · exact h4.2.1 v ((h1.el v (.inl hv)).below hb2)
    · rcases List.mem_append.1 hv with hv | hv
      · exact h4.2.1 v ((h1.el v (.inr hv)).below hb2)
      · obtain rfl := List.mem_singleton.1 hv
        exact hE
  · rcases List.mem_append.1 hy with hy | hy
    · exact h1.ok.wait y (by rw [hsl.1]; exact hy)
    · obtain rfl := List.mem_singleton.1 hy
      exact ⟨hi, hbs⟩
  · have k2 : Keep F1 w w2 := hk1.trans (Keep.of_below (F := fun _ => False) hb2) fun _ h => h.elim
    have s1' := hk1.size
    have s2' := hb2.size
    have s4' := h4.2.2.size
    exact (k2.trans h4.2.2 fun k hk => (Gr.ge _ _ _ k hk).imp_right fun h => by omega).trans h6.2.2 fun k hk => by
      rcases Gr.ge _ _ _ k hk with h | h
      · exact (Gr.ge _ _ _ k h).imp_right fun h => by omega
      · exact .inr (by omega)
  · have s1' := hk1.size
    have s2' := hb2.size
    have s4' := h4.2.2.size
    rcases Gr.ge _ _ _ k hk with h | h
    · rcases Gr.ge _ _ _ k h with h | h
      · exact (Gr.ge _ _ _ k h).imp_right fun h => by omega
      · exact .inr (by omega)
    · exact .inr (by omega)
set_option maxHeartbeats 1600000 in
theorem rwrite_ok (F : Nat → Prop) (g : Nat) (s : St) (i : Nat) (A : Option Addr) (c : Nat) (bs : List Nat) (w : World) (hD : RD w F g s) (hi : i < s.S.length) (hR : Rd w A 64 c (u8n bs)) (hA : ∀ b o, A = some ⟨b, o, none⟩ → ¬ F b) (hs : (spend s).1 = true) (hL : s.L.length ≤ 1000000000) :
    Calls Try.prog 13 #[.pointer (some ⟨g, 0, none⟩), .int .i64 (i : Int), .slice A 64 c] w (RGot F g w (.int .i64 0) { (spend s).2 with L := s.L ++ [(i, bs)] }) := by
  have HC := fun W h => goes_any F g s W h
  rw [hs] at HC
  have HC' := Lib.hid HC
  have Hs := Lib.hid hs
  have HD := Lib.hid hD
  obtain ⟨i8, hi8, hz80, hz81, hz82⟩ := info_parts info8
  obtain ⟨iI, hiI, hzI0, hzI1, hzI2⟩ := info_parts info_int
  obtain ⟨iS, hiS, hzS0, hzS1, hzS2⟩ := info_parts info_sl
  have hsl : (spend s).2.L = s.L ∧ (spend s).2.S = s.S := by
    unfold spend
    split
    · exact ⟨rfl, rfl⟩
    · split
      · exact ⟨rfl, rfl⟩
      · dsimp only
        split <;> exact ⟨rfl, rfl⟩
  have HSL := Lib.hid hsl
  have Hbs := Lib.hid (show bs.length = 64 from Rd.nats hR)
  have HR := Lib.hid hR
  have HA := Lib.hid hA
  obtain ⟨r0, x0, V0, U0, h⟩ := hD
  obtain ⟨c0, _, _, _, _⟩ := h.rb.cells
  rw [h.n0] at c0
  have hm := h.ok.most
  clear h HC hs hsl hR hA
  obtain ⟨N, hN⟩ : ∃ N, N = s.S.length := ⟨_, rfl⟩
  rw [← hN] at c0 hi hm
  have HN := Lib.hid hN
  obtain ⟨s1, hs1⟩ : ∃ s1, s1 = (spend s).2 := ⟨_, rfl⟩
  rw [← hs1] at HC' HSL ⊢
  clear hN hs1
  go_enter Try.func13, Try.ntmps13
  go_upto_region 8 with (go_at_call 28; refine (HC'.out _ HD.out).mono ?_; rintro e w1 ⟨rfl, hD1, hk1⟩)
  obtain ⟨r, x, V, U, h1⟩ := hD1
  have HR1 := Lib.hid (hk1.rd HR.out fun _ b o h => HA.out b o h)
  have HK1 := Lib.hid hk1
  have H1 := Lib.hid h1
  have n1 : (r 1).n ≤ 1000000000 := by rw [h1.n1, HSL.out.1]; exact hL
  have n2 : (r 2).n ≤ 1000000000 := by rw [h1.n2, HSL.out.1]; exact hL
  have hgl := h1.rb.lt g h1.rb.fg
  clear h1 hk1
  go_upto_region 9 with (refine wpList_add _ rfl (.tmp 25) (.tmp 26) 31 rfl w1.heap.size 5 i8 _ 1 Try.underlying31 hi8 hz80 hz81 hz82 rfl (.slice none 0 0) 0 [] rfl (World.ownsRow_nil _ _ _ _) A 64 c (u8n bs) rfl HR1.out (u8n_one _) (by omega) (by omega) (Nat.le_refl _) ?_; intro A2 m2 c2 w2 hm2 hown2 hg2 hat2)
  obtain rfl : m2 = 64 := hm2.out
  have hb2 : Below w1.heap.size w1 w2 := below_add (Below.refl _ _) (World.ownsRow_nil w1 w1.heap.size 5 1) (Nat.le_refl _) hg2
  obtain ⟨b, rfl, hbw, hbl⟩ := own_some hown2 (by omega)
  have hE := new_el H1.out hb2 (Rd.own (by simpa using hown2)) hbw hbl
  have HE := Lib.hid hE
  have HB2 := Lib.hid hb2
  have h2 := H1.out.rb.below hb2
  obtain ⟨_, k1, _, _, _⟩ := h2.cells
  have H2 := Lib.hid h2
  have hgl2 : g < w2.heap.size := by have := hb2.size; omega
  clear hE h2 hown2 hg2 hat2 hm2 hb2
  go_upto_region 10 with (refine wpList_append_at rfl (.tmp 32) (.tmp 34) 40 rfl 0 3 iI _ 1 8 Try.underlying40 hiI hzI0 hzI1 hzI2 rfl (by omega) (r 1).v (r 1).n (x 1) rfl ((show w2.ownsRow 0 3 1 (r 1).v (r 1).n (x 1) from H2.out.own 1 (by omega)).alloc _) ⟨w2.heap.size, 0, none⟩ 1 1 [.int .i64 (i : Int)] rfl rfl (new_one _ _ _) (by simp [Value.oneCell']) (by unfold maxLen; omega) (by omega) (Nat.zero_le _) ?_; intro A3 n3 c3 w3 hn3 hown3 hg3 hat3; have Hg3 := Lib.hid hg3; have kf := grow_cells H2.out (j := 1) (by omega) hg3; have k3 := kf.1; have f3 := kf.2; clear hg3 kf)
  obtain ⟨w4, hw4⟩ : ∃ w4, w4 = w3.setCell ⟨g, 1, none⟩ (.slice A3 n3 c3) := ⟨_, rfl⟩
  have h4 := H2.out.grow (w3 := w4) (j := 1) (q := ⟨A3, n3, c3⟩) ((Below.refl w2.heap.size w2).alloc (Nat.le_refl _) (.cells #[.int .i64 (i : Int)] 3)) (by omega) hown3.out Hg3.out hat3.out hw4
  rw [← hw4]
  have k4 : w4.cell? ⟨g, 2, none⟩ = some (.slice (r 2).A (r 2).n (r 2).c) := h4.1.cells.2.2.1
  have hgl4 : g < w4.heap.size := h4.1.lt g h4.1.fg
  have H4 := Lib.hid h4
  have HE4 := Lib.hid (h4.2.1 _ HE.out)
  clear h4 hw4 k3 f3 hn3 hown3 Hg3 hat3 k1
  go_wp2_with (refine wpList_append_at rfl (.tmp 42) (.tmp 44) 39 rfl 0 31 iS _ 1 24 Try.underlying39 hiS hzS0 hzS1 hzS2 rfl (by omega) (r 2).v (r 2).n (x 2) rfl ((show w4.ownsRow 0 31 1 (r 2).v (r 2).n (x 2) from H4.out.1.own 2 (by omega)).alloc _) ⟨w4.heap.size, 0, none⟩ 1 1 [.slice (some ⟨b, 0, none⟩) 64 c2] rfl rfl (new_one _ _ _) (by simp [Value.oneCell']) (by unfold maxLen; omega) (by omega) (Nat.zero_le _) ?_; intro A5 n5 c5 w5 hn5 hown5 hg5 hat5; have Hg5 := Lib.hid hg5; have kf := grow_cells H4.out.1 (j := 2) (by omega) hg5; have k5 : w5.cell? ⟨g, 2, none⟩ = some (.slice (r 2).A (r 2).n (r 2).c) := kf.1; have f5 := kf.2; clear hg5 kf)
  go_ret
  obtain ⟨w6, hw6⟩ : ∃ w6, w6 = w5.setCell ⟨g, 2, none⟩ (.slice A5 n5 c5) := ⟨_, rfl⟩
  rw [← hw6]
  have h6 := H4.out.1.grow (w3 := w6) (j := 2) (q := ⟨A5, n5, c5⟩) ((Below.refl w4.heap.size w4).alloc (Nat.le_refl _) (.cells #[.slice (some ⟨b, 0, none⟩) 64 c2] 31)) (by omega) hown5.out Hg5.out hat5.out hw6
  exact rgot_write H1.out HSL.out HK1.out rfl HB2.out H4.out h6 HE4.out (by rw [HSL.out.2, ← HN.out]; exact hi) Hbs.out
end Go.Proofs.Ytdofnoaadkpniaa.RdkB
