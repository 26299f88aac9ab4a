/- The walk of ShaOwn: bytes that were written may change then; a digest that was told stays. Condition: the rounds' own numbers lie in the variable. -/
import Derived.Test.YtlelnhimmchbaaaDoorShaL
import Derived.Test.YtlelnhimmchbaaaDoorEq
import Derived.Laws.OwnMore
import Derived.Deep.RegionHeld3
namespace Go.Proofs.YtlelnhimmchbaaaDoor.ShaOwnW
open Go.RowKit Go.Proofs.YtlelnhimmchbaaaDoor.Kit Go.Proofs.YtlelnhimmchbaaaDoor.Byt Go.Proofs.YtlelnhimmchbaaaDoor.ShaM Go.Proofs.YtlelnhimmchbaaaDoor.ShaB Go.Proofs.YtlelnhimmchbaaaDoor.ShaC Go.Proofs.YtlelnhimmchbaaaDoor.ShaK Go.Proofs.YtlelnhimmchbaaaDoor.ShaE Go.Proofs.YtlelnhimmchbaaaDoor.ShaF Go.Proofs.YtlelnhimmchbaaaDoor.ShaG Go.Proofs.YtlelnhimmchbaaaDoor.ShaH Go.Proofs.YtlelnhimmchbaaaDoor.ShaI Go.Proofs.YtlelnhimmchbaaaDoor.ShaJ Go.Proofs.YtlelnhimmchbaaaDoor.ShaL Go.Proofs.YtlelnhimmchbaaaDoor.Eq

theorem cells8 : Tryd.prog.cellsOf 5 = 1 := by kernel_rfl
theorem Hs.kept {w w' : World} {g : Nat} {l : List Nat} {row : Option Nat} (h : Hs w g l) (hg : w.grownBy w' row) (hne : some g ≠ row) : Hs w' g l := by
  obtain ⟨op, h1, h2, h3, hB⟩ := h
  exact ⟨op, h1, h2, h3, (hg.block g hB.lt hne).trans hB⟩
theorem Hs.far {w : World} {g : Nat} {l : List Nat} (h : Hs w g l) {p : Addr} (hp : g ≠ p.block) (u : Value) : Hs (w.setCell p u) g l := by
  obtain ⟨op, h1, h2, h3, hB⟩ := h
  exact ⟨op, h1, h2, h3, hB.far hp u⟩
theorem own_lt {w : World} {base n c : Nat} {e : TypeId} {A : Option Addr} {xs : List Value} (h : w.ownsRow base e 1 (.slice A n c) n xs) {g : Nat} (hg : w.heap.size ≤ g) : (Value.slice A n c).ownBlock ≠ some g := by
  rcases h.2 with ⟨hv, _⟩ | ⟨g', cap', cur, hv, hb, hh, _⟩
  · rw [hv]; simp [Value.ownBlock]
  · have := lt_of_block hh
    rw [hv]; simp [Value.ownBlock]; omega
theorem own_byte {w : World} {base n c g k : Nat} {e : TypeId} {xs : List Nat} (h : w.ownsRow base e 1 (.slice (some ⟨g, 0, none⟩) n c) n (u8n xs)) (hk : k < xs.length) : w.cell? ⟨g, k, none⟩ = some (.int .u8 (xs[k] : Nat)) := by
  have hl : xs.length = n := by have := h.1; rw [u8n_len] at this; omega
  rw [h.cellAt k (by omega)]
  simp [u8n, hk]
theorem wp_add_sl {P : Program} {o : Oper} {a : Act} {Q : Exit → Act → World → Prop} {K : Act → World → Prop} (w : World) (s x : Operand) (t : TypeId)
    (ho : o.op = .call { callee := .builtin .append, args := #[s, x], argTypes := #[t, t] })
    (base : Nat) (e : TypeId) (i : TypeInfo) (z : Value) (bytes : Nat) (ht : P.underlying t = some (.slice e)) (hi : P.info? e = some i) (hz : i.zero = some z)
    (hsize : i.size = 1) (hby : i.bytes = bytes) (hzs : z.cells = #[z])
    (v : Value) (n : Nat) (xs : List Value) (hs : a.eval s = v) (hown : w.ownsRow base e 1 v n xs)
    (A : Option Addr) (m c : Nat) (news : List Value) (hx : a.eval x = .slice A m c) (hr : Rd w A m c news) (h1 : ∀ u ∈ news, u.oneCell' = true)
    (h63 : n + m ≤ 9223372036854775807) (hbytes : (n + m) * bytes ≤ 140737488355328) (hbase : base ≤ w.heap.size)
    (h : ∀ A' n' c' w', Hid (n' = n + m) → w'.ownsRow base e 1 (.slice A' n' c') n' (xs ++ news) → w.grownBy w' v.ownBlock → K (a.put o.dst (.slice A' n' c')) w') : o.wp P a w K Q :=
  wp_add w s x t ho base e i z bytes ht hi hz hsize hby hzs v n xs hs hown A m c news hx hr h1 h63 hbytes hbase fun v' w' h2 h3 _ => by
    have h5 := h2
    rcases h5.2 with ⟨rfl, h0⟩ | ⟨g, cap, cur, rfl, _⟩
    · exact h none 0 0 w' (Lib.hid h0.symm) (by rw [h0] at h2; exact h2) h3
    · exact h _ _ _ w' (Lib.hid rfl) h2 h3
theorem cut0 {P G : Prop} (h : P → G) (hp : P) : G := h hp
theorem cutw {P R : World → Prop} {G : Prop} (h : (∀ W, R W → P W) → G) (hp : ∀ W, R W → P W) : G := h hp
/-- What the loop over the bytes keeps. -/
def Inc (w : World) (base g : Nat) (A : Option Addr) (n c : Nat) (xs : List Nat) (wr : World) : Prop :=
  (∃ ys : List Nat, wr.ownsRow base 5 1 (.slice A n c) n (u8n ys) ∧ by256 ys) ∧ Hs wr g xs ∧ Below w.heap.size w wr

set_option maxRecDepth 100000 in
set_option maxHeartbeats 6400000 in
theorem core (A B : Option Addr) (n c m d : Nat) (xs ys : List Nat) (w : World) (hr : Rd w A n c (u8n xs)) (hx : by256 xs) (hq : Rd w B m d (u8n ys)) (hy : by256 ys) (hT : Tab w) :
    Calls Tryd.prog 6 #[.slice A n c, .slice B m d] w fun e w' => e = .returned (.bool true) ∧ Below w.heap.size w w' := by
  obtain ⟨i0, hi0, hz0, hz1, hz2⟩ := info_parts Go.Proofs.YtlelnhimmchbaaaDoor.ShaG.info8
  have HT := Lib.hid hT
  have h0 := hT.1
  clear hT
  by_cases hl : 500 < n ∨ 500 < m
  · by_cases h5 : 500 < n
    all_goals
      have h6 : decide (500 < (n : Int)) = decide (500 < n) := by rw [Bool.eq_iff_iff]; simp; omega
      have h7 : decide (500 < (m : Int)) = decide (500 < m) := by rw [Bool.eq_iff_iff]; simp; omega
      go_enter Tryd.func6, Tryd.ntmps6
      go_wp2_with (first
       | (go_at_call 7; refine (wakes_any _ HT.out).mono ?_; rintro e w1 ⟨rfl, hb1⟩))
      all_goals (go_ret; exact ⟨rfl, hb1⟩)
  · have hn := Rd.nats hr
    have hm := Rd.nats hq
    have g1 : decide (500 < (n : Int)) = false := by simp; omega
    have g2 : decide (500 < (m : Int)) = false := by simp; omega
    have hn5 : n ≤ 500 := by omega
    have hm5 : m ≤ 500 := by omega
    have HN := Lib.hid hn
    have HM := Lib.hid hm
    have HR := Lib.hid hr
    have HQ := Lib.hid hq
    clear hl hn hm hr hq
    go_enter Tryd.func6, Tryd.ntmps6
    go_wp2_with (first
     | (go_at_call 7; refine (wakes_any _ HT.out).mono ?_; rintro e w1 ⟨rfl, hb1⟩)
     | (at_builtin; refine wpList_add _ rfl (.tmp 20) (.tmp 21) _ rfl w1.heap.size 5 i0 _ 1 Tryd.underlying22 hi0 hz0 hz1 hz2 rfl _ 0 [] rfl (emptied w1 _) A n c (u8n xs) rfl ((HR.out.below hb1).alloc _) (u8n_one _) (by omega) (by omega) (size_alloc _ _) ?_; intro A2 n2 c2 w2 hn2 hown2 hg2 hat2; have hb2 := below_add (hb1.alloc hb1.size _) (emptied w1 _) hb1.size hg2; obtain rfl : n2 = n := (by (have := hn2.out; omega)); clear hat2 hg2 hn2))
    rw [List.nil_append] at hown2
    refine (new_any w2).mono ?_
    rintro e w3 ⟨g, rfl, hg3, hH3, hb3'⟩
    have hb3 := hb2.trans (hb3'.mono hb2.size)
    have hown3 := own_below hown2 hb3'
    have hlt2 := own_lt hown2 hg3
    have hS3 := src_of (Rd.own hown2) hg3 hb3'
    clear hown2
    go_wp2_with fail
    refine (write_any g A2 n2 c2 xs [] w3 (HT.out.below hb3 h0) (by have := hb2.size; omega) hH3 hS3 hx (by rw [List.length_nil]; have := HN.out; omega)).mono ?_
    rintro e w4 ⟨rfl, hH4, hg4⟩
    rw [List.nil_append] at hH4
    have hb4 := hb3.grown hg4 hb3.size (fun k hk => by injection hk with hk; have := hb2.size; omega)
    have hown4 := hown3.kept hg4 (.inr hlt2)
    obtain ⟨base, hbase⟩ : ∃ base, base = w1.heap.size := ⟨_, rfl⟩
    rw [← hbase] at hown4
    have hbs : w.heap.size ≤ base := by rw [hbase]; exact hb1.size
    have H0 : Hid (Inc w base g A2 n2 c2 xs w4) := Lib.hid ⟨⟨xs, hown4, hx⟩, hH4, hb4⟩
    have hgw : w.heap.size ≤ g := by have := hb2.size; omega
    have HLT := Lib.hid hlt2
    clear hbase hown3 hown4 hb3 hb3' hb4 hg4 hH3 hH4 hS3 hlt2 hg3
    go_wp2_with fail
    go_loopw [29, 7] (fun i _ wr => ∃ k : Nat, k ≤ n2 ∧ i = .int .i64 k ∧ Hid (Inc w base g A2 n2 c2 xs wr)) (fun i _ _ => n2 - (intOf i).toNat)
    case atStart => exact ⟨0, Nat.zero_le _, rfl, H0⟩
    case round =>
      obtain ⟨k, hk, rfl, hI⟩ := hrel
      clear H0
      obtain ⟨⟨zs, hown, hzs⟩, hH, hbw⟩ := hI.out
      clear hI
      by_cases hlt : k < n2
      · have hzl : zs.length = n2 := by have := hown.1; rw [u8n_len] at this; omega
        have hkz : k < zs.length := by omega
        obtain ⟨b, rfl, hbb, hbl⟩ := own_some hown (by omega)
        have hcell := own_byte hown hkz
        have hfz := hown.frozenAt k
        have hgb : g ≠ b := by
          have := HLT.out
          simp [Value.ownBlock] at this
          exact fun h => this h.symm
        have hz8 := hzs zs[k] (List.getElem_mem hkz)
        obtain ⟨y, hy⟩ : ∃ y, y = (zs[k] + 1) % 256 := ⟨_, rfl⟩
        have hy8 : y < 256 := by omega
        have hst := Lib.hid (hown.stored k (.int .u8 (y : Int))).1
        have hI2 : Hid (Inc w base g (some ⟨b, 0, none⟩) n2 c2 xs (wr.setCell ⟨b, k, none⟩ (.int .u8 (y : Int)))) := Lib.hid ⟨⟨zs.set k y, by have h9 := hst.out; rw [u8n_set] at h9; exact h9, fun c hc => by
          rcases List.mem_or_eq_of_mem_set hc with h | h
          · exact hzs c h
          · omega⟩, Hs.far hH hgb _, hbw.setCell (by show w.heap.size ≤ b; omega) _⟩
        clear hst hown hH
        generalize zs[k] = z at *
        have e1 : ((z : Int) + 1) % 256 = (y : Int) := by omega
        have e2 : IntKind.u8.wrap ((z : Int) + 1) = (y : Int) := by rw [IntKind.wrap_u8]; omega
        clear hy
        go_wp2
        go_roundw
        case rel => exact ⟨k + 1, by omega, by go_num, hI2⟩
        case measure => simp [intOf]; omega
      · have hD0 := Lib.hid (dig_len xs)
        obtain ⟨D, hD⟩ : ∃ D, D = dig xs := ⟨_, rfl⟩
        rw [← hD] at hD0
        have hsm := fun (W : World) (hb : Below wr.heap.size wr W) => sum_any g xs W (HT.out.below (hbw.trans (hb.mono hbw.size)) h0) (hH.below hb) hx (by have := HN.out; omega)
        have hof := fun (W : World) (hb : Below w.heap.size w W) => of_any A n2 c xs W (HT.out.below hb h0) (HR.out.below hb) hx (by have := HN.out; omega)
        rw [← hD] at hsm hof
        have hz32 := zero32
        obtain ⟨Z2, hZ2⟩ : ∃ Z2 : Array Value, Z2 = (u8n (List.replicate 32 0)).toArray := ⟨_, rfl⟩
        simp only [← hZ2] at hz32
        have HZ2 := Lib.hid hZ2
        have HS := Lib.hid hsm
        have HO := Lib.hid hof
        have HH := Lib.hid hH
        have hi32 := Lib.hid (show (Tryd.prog.info? 24).map (·.size) = some (u8n D).length by rw [u8n_len, hD0.out]; exact size_w32)
        have hgl := hH.lt
        clear hZ2 hsm hof hH hown hD
        go_wp2_with (first
         | (go_at_call 14; refine (HS.out _ (Below.refl _ _)).mono ?_; rintro e w5 ⟨rfl, hb5⟩)
         | (refine wpList_store_blk rfl 24 (.tmp 8) (.tmp 40) rfl w5.heap.size rfl (u8n D) rfl (Blk_at HZ2.out rfl) (by rw [u8n_len, u8n_len, hD0.out, List.length_replicate]) hi32.out (u8n_one _) ?_; intro w6 hB6 ho6; have hb6 := ho6.out.below (hb5.alloc hb5.size (.cells Z2 24)) hb5.size (by have := hb5.size; simp; omega); have hs6 : w6.heap.size = w5.heap.size + 1 := (by rw [ho6.out.2]; simp))
         | (refine wpList_load_blk rfl 24 (.tmp 8) rfl w5.heap.size rfl hB6.out Tryd.underlying24 rfl hi32.out ?_)
         | (refine wpList_store_blk rfl 24 (.tmp 9) (.tmp 41) rfl (w5.heap.size + 1) rfl (u8n D) rfl (Blk_at HZ2.out hs6.symm) (by rw [u8n_len, u8n_len, hD0.out, List.length_replicate]) hi32.out (u8n_one _) ?_; intro w7 hB7 ho7))
        have hb7 := ho7.out.below (hb6.alloc hb6.size (.cells Z2 24)) (by have := hb5.size; omega) (by have := hb5.size; simp; omega)
        have hBd7 : Blk w7 w5.heap.size 24 (u8n D) := ho7.out.blk (hB6.out.alloc _) (by omega)
        have hBw7 : Blk w7 (w5.heap.size + 1) 24 (u8n D) := hB7.out
        have hbw7 := hbw.trans (hb7.mono hbw.size)
        have hs5 := hb5.size
        refine (write_any g B m d ys xs w7 (HT.out.below hbw7 h0) (by omega) (HH.out.below hb7) (src_of HQ.out hgw hbw7) hy (by have := HN.out; have := HM.out; omega)).mono ?_
        rintro e w8 ⟨rfl, hH8, hg8⟩
        have hbw8 := hbw7.grown hg8 hbw7.size (fun k hk => by injection hk with hk; omega)
        have hBd8 : Blk w8 w5.heap.size 24 (u8n D) := (hg8.block _ hBd7.lt (by simp; omega)).trans hBd7
        have hBw8 : Blk w8 (w5.heap.size + 1) 24 (u8n D) := (hg8.block _ hBw7.lt (by simp; omega)).trans hBw7
        have hok8 : by256 (xs ++ ys) := by
          intro c hc
          rcases List.mem_append.1 hc with hc | hc
          · exact hx c hc
          · exact hy c hc
        have hl8 : (xs ++ ys).length = n2 + m := by rw [List.length_append, HN.out, HM.out]
        obtain ⟨l8, hl8e⟩ : ∃ l8, l8 = xs ++ ys := ⟨_, rfl⟩
        rw [← hl8e] at hH8 hok8 hl8
        have HL8 := Lib.hid hl8
        have HE8 := Lib.hid hl8e
        clear hl8 hl8e hg8 hBd7 hBw7 hB6 hB7 ho6 ho7 hb7 hb6 hb5 hbw7
        go_wp2_with fail
        refine (sum_any g l8 w8 (HT.out.below hbw8 h0) hH8 hok8 (by have := HL8.out; omega)).mono ?_
        rintro e w9 ⟨rfl, hb9⟩
        have hbw9 := hbw8.trans (hb9.mono hbw8.size)
        have hBd9 := hBd8.below hb9
        have hBw9 := hBw8.below hb9
        have hH9 := hH8.below hb9
        generalize w5.heap.size = gd at *
        clear hb9 hBd8 hBw8 hH8 hbw8
        have hsm := fun (W : World) (hb : Below w9.heap.size w9 W) => sum_any g l8 W (HT.out.below (hbw9.trans (hb.mono hbw9.size)) h0) (hH9.below hb) hok8 (by have := HL8.out; omega)
        have hof := fun (A' : Option Addr) (n' c' : Nat) (W : World) (hb : Below w9.heap.size w9 W) (hR : Rd W A' n' c' (u8n l8)) => of_any A' n' c' l8 W (HT.out.below (hbw9.trans (hb.mono hbw9.size)) h0) hR hok8 (by have := HL8.out; omega)
        have hlg := fun (W : World) (hb : Below w9.heap.size w9 W) => long_any g l8 W (hH9.below hb)
        have hln : ((l8.length : Nat) : Int) = (n2 : Int) + (m : Int) := by rw [HL8.out]; simp
        rw [hln] at hlg
        obtain ⟨D2, hD2⟩ : ∃ D2, D2 = dig l8 := ⟨_, rfl⟩
        rw [← hD2] at hsm hof ⊢
        have hd2 : D2.length = 32 := by rw [hD2, dig_len]
        have heq1 := fun w => equal_refl (P := Tryd.prog) w Tryd.underlying24 Tryd.underlying5 hi0 cells8 hD0.out
        have heq2 := fun w => equal_refl (P := Tryd.prog) w Tryd.underlying24 Tryd.underlying5 hi0 cells8 hd2
        have HS2 := Lib.hid hsm
        have HO2 := Lib.hid hof
        have HL2 := Lib.hid hlg
        have hS : Hid (∀ W, Below w9.heap.size w9 W → W.rangeAt gd 0 (u8n D) ∧ W.rangeAt (gd + 1) 0 (u8n D)) := Lib.hid fun W hb => ⟨Blk.range (hBd9.below hb) (by simp), Blk.range (hBw9.below hb) (by simp)⟩
        have HB9 := Lib.hid hbw9
        have hwr : Hid (IntKind.i64.wrap ((n2 : Int) + (m : Int)) = (n2 : Int) + (m : Int)) := Lib.hid (by rw [IntKind.wrap_i64]; omega)
        clear hsm hof hlg hln hD2 hd2 hBd9 hBw9 hH9
        go_wp2_with fail
        refine wp_region_any (by kernel_rfl) ?_
        change wpAny _ _ _ _ _ _ _ (World.drew _)
        apply cut0
        focus
          intro hkey
          refine wpAny_ready (rs := [0, 1]) (by kernel_rfl) (by simp) ?_
          refine AllReady.cons rfl (fun K hK => ?_) (AllReady.cons rfl (fun K hK => ?_) AllReady.nil)
          focus
            rw [if_pos (by rfl)]
            refine wp_load_mid 24 (.tmp 8) rfl gd 0 rfl (u8n D) _ (hS.out _ ((Below.refl _ _).drew)).1 Tryd.underlying24 rfl hi32.out ?_
            refine hK _ _ ?_
            clear hK K
            try simp only [Act.put, List.getElem_toArray, List.getElem_cons_succ, List.getElem_cons_zero, List.setIfInBounds_toArray, List.set_cons_zero, List.set_cons_succ]
            refine wpAny_ready (rs := [1]) (by kernel_rfl) (by simp) ?_
            refine AllReady.cons rfl (fun K hK => ?_) AllReady.nil
            rw [if_pos (by rfl)]
            refine wp_load_mid 24 (.tmp 9) rfl (gd + 1) 0 rfl (u8n D) _ (hS.out _ ((Below.refl _ _).drew)).2 Tryd.underlying24 rfl hi32.out ?_
            refine hK _ _ ?_
            clear hK K
            try simp only [Act.put, List.getElem_toArray, List.getElem_cons_succ, List.getElem_cons_zero, List.setIfInBounds_toArray, List.set_cons_zero, List.set_cons_succ]
            exact hkey
          focus
            rw [if_pos (by rfl)]
            refine wp_load_mid 24 (.tmp 9) rfl (gd + 1) 0 rfl (u8n D) _ (hS.out _ ((Below.refl _ _).drew)).2 Tryd.underlying24 rfl hi32.out ?_
            refine hK _ _ ?_
            clear hK K
            try simp only [Act.put, List.getElem_toArray, List.getElem_cons_succ, List.getElem_cons_zero, List.setIfInBounds_toArray, List.set_cons_zero, List.set_cons_succ]
            refine wpAny_ready (rs := [0]) (by kernel_rfl) (by simp) ?_
            refine AllReady.cons rfl (fun K hK => ?_) AllReady.nil
            rw [if_pos (by rfl)]
            refine wp_load_mid 24 (.tmp 8) rfl gd 0 rfl (u8n D) _ (hS.out _ ((Below.refl _ _).drew)).1 Tryd.underlying24 rfl hi32.out ?_
            refine hK _ _ ?_
            clear hK K
            try simp only [Act.put, List.getElem_toArray, List.getElem_cons_succ, List.getElem_cons_zero, List.setIfInBounds_toArray, List.set_cons_zero, List.set_cons_succ]
            rw [Array.setIfInBounds_comm (i := 1) (j := 0) _ _ (by decide)]
            exact hkey
        refine wpAny_take (i := 2) (v := .bool true) rfl (by kernel_rfl) (by kernel_rfl) (by kernel_rfl) (fun _ _ _ h => h) (Or.inl ⟨by rfl, fun w => by go_simp⟩) ?_
        try simp only [Act.put, List.getElem_toArray, List.getElem_cons_succ, List.getElem_cons_zero, List.setIfInBounds_toArray, List.set_cons_zero, List.set_cons_succ]
        refine wpAny_take (i := 3) (v := .bool true) rfl (by kernel_rfl) (by kernel_rfl) (by kernel_rfl) (fun _ _ _ h => h) (Or.inl ⟨by rfl, fun w => rfl⟩) ?_
        refine wpAny_take (i := 5) (v := .slice A n2 c) rfl (by kernel_rfl) (by kernel_rfl) (by kernel_rfl) (fun _ _ _ h => h) (Or.inl ⟨by rfl, fun w => rfl⟩) ?_
        try simp only [Act.put, List.getElem_toArray, List.getElem_cons_succ, List.getElem_cons_zero, List.setIfInBounds_toArray, List.set_cons_zero, List.set_cons_succ]
        apply cutw (R := Below w9.heap.size w9)
        focus
          intro hkey
          refine wpAny_ready (rs := [4, 6]) (by kernel_rfl) (by simp) ?_
          refine AllReady.cons rfl (fun K hK => ?_) (AllReady.cons rfl (fun K hK => ?_) AllReady.nil)
          focus
            rw [if_pos (by rfl)]
            refine wp_load_mid 24 (.tmp 8) rfl gd 0 rfl (u8n D) _ (hS.out _ ((Below.refl _ _).drew)).1 Tryd.underlying24 rfl hi32.out ?_
            refine hK _ _ ?_
            clear hK K
            try simp only [Act.put, List.getElem_toArray, List.getElem_cons_succ, List.getElem_cons_zero, List.setIfInBounds_toArray, List.set_cons_zero, List.set_cons_succ]
            refine wpAny_ready (rs := [6]) (by kernel_rfl) (by simp) ?_
            refine AllReady.cons rfl (fun K hK => ?_) AllReady.nil
            rw [if_pos (by rfl)]
            go_simp
            refine (HO.out _ HB9.out.drew).mono ?_
            rintro e w10 ⟨rfl, hb10'⟩
            have hb10 := ((Below.refl w9.heap.size w9).drew).trans hb10'
            clear hb10'
            go_wp2_with fail
            try simp only [Act.put, List.getElem_toArray, List.getElem_cons_succ, List.getElem_cons_zero, List.setIfInBounds_toArray, List.set_cons_zero, List.set_cons_succ]
            exact hkey w10 hb10
          focus
            rw [if_pos (by rfl)]
            go_simp
            refine (HO.out _ HB9.out.drew).mono ?_
            rintro e w10 ⟨rfl, hb10'⟩
            have hb10 := ((Below.refl w9.heap.size w9).drew).trans hb10'
            clear hb10'
            go_wp2_with fail
            try simp only [Act.put, List.getElem_toArray, List.getElem_cons_succ, List.getElem_cons_zero, List.setIfInBounds_toArray, List.set_cons_zero, List.set_cons_succ]
            refine wpAny_ready (rs := [4]) (by kernel_rfl) (by simp) ?_
            refine AllReady.cons rfl (fun K hK => ?_) AllReady.nil
            rw [if_pos (by rfl)]
            refine wp_load_mid 24 (.tmp 8) rfl gd 0 rfl (u8n D) _ (hS.out _ hb10).1 Tryd.underlying24 rfl hi32.out ?_
            refine hK _ _ ?_
            clear hK K
            try simp only [Act.put, List.getElem_toArray, List.getElem_cons_succ, List.getElem_cons_zero, List.setIfInBounds_toArray, List.set_cons_zero, List.set_cons_succ]
            rw [Array.setIfInBounds_comm (i := 6) (j := 4) _ _ (by decide)]
            exact hkey w10 hb10
        intro w10 hb10
        refine wpAny_take (i := 7) (v := .bool true) rfl (by kernel_rfl) (by kernel_rfl) (by kernel_rfl) (fun _ _ _ h => h) (Or.inl ⟨by rfl, fun w => by go_simp⟩) ?_
        try simp only [Act.put, List.getElem_toArray, List.getElem_cons_succ, List.getElem_cons_zero, List.setIfInBounds_toArray, List.set_cons_zero, List.set_cons_succ]
        refine wpAny_take (i := 8) (v := .bool true) rfl (by kernel_rfl) (by kernel_rfl) (by kernel_rfl) (fun _ _ _ h => h) (Or.inl ⟨by rfl, fun w => rfl⟩) ?_
        refine wpAny_take (i := 9) (v := .bool true) rfl (by kernel_rfl) (by kernel_rfl) (by kernel_rfl) (fun _ _ _ h => h) (Or.inl ⟨by rfl, fun w => rfl⟩) ?_
        refine wpAny_take (i := 10) (v := .pointer (some ⟨g, 0, none⟩)) rfl (by kernel_rfl) (by kernel_rfl) (by kernel_rfl) (fun _ _ _ h => h) (Or.inl ⟨by rfl, fun w => rfl⟩) ?_
        refine wpAny_take (i := 13) (v := .slice A n2 c) rfl (by kernel_rfl) (by kernel_rfl) (by kernel_rfl) (fun _ _ _ h => h) (Or.inl ⟨by rfl, fun w => rfl⟩) ?_
        refine wpAny_take (i := 15) (v := .slice B m d) rfl (by kernel_rfl) (by kernel_rfl) (by kernel_rfl) (fun _ _ _ h => h) (Or.inl ⟨by rfl, fun w => rfl⟩) ?_
        try simp only [Act.put, List.getElem_toArray, List.getElem_cons_succ, List.getElem_cons_zero, List.setIfInBounds_toArray, List.set_cons_zero, List.set_cons_succ]
        refine wpAny_ready (rs := [11, 12]) (by kernel_rfl) (by simp) ?_
        refine AllReady.cons rfl (fun K hK => ?_) (AllReady.cons rfl (fun K hK => ?_) AllReady.nil)
        focus
          rw [if_pos (by rfl)]
          go_simp
          refine (HS2.out _ hb10).mono ?_
          rintro e w11 ⟨rfl, hb11'⟩
          have hb11 := hb10.trans (hb11'.mono hb10.size)
          go_wp2_with fail
          try simp only [Act.put, List.getElem_toArray, List.getElem_cons_succ, List.getElem_cons_zero, List.setIfInBounds_toArray, List.set_cons_zero, List.set_cons_succ]
          refine wpAny_ready (rs := [12]) (by kernel_rfl) (by simp) ?_
          refine AllReady.cons rfl (fun K hK => ?_) AllReady.nil
          rw [if_pos (by rfl)]
          go_simp
          refine hK _ _ ?_
          clear hK K
          try simp only [Act.put, List.getElem_toArray, List.getElem_cons_succ, List.getElem_cons_zero, List.setIfInBounds_toArray, List.set_cons_zero, List.set_cons_succ]
          refine wpAny_ready (rs := [14]) (by kernel_rfl) (by simp) ?_
          refine AllReady.cons rfl (fun K hK => ?_) AllReady.nil
          rw [if_pos (by rfl)]
          refine wp_add_sl _ (.tmp 59) (.tmp 60) _ rfl w11.heap.size 5 i0 _ 1 Tryd.underlying22 hi0 hz0 hz1 hz2 rfl _ 0 [] rfl (emptied w11 _) A n2 c (u8n xs) rfl ((HR.out.below (HB9.out.trans (hb11.mono HB9.out.size))).alloc _) (u8n_one _) (by omega) (by omega) (size_alloc _ _) ?_
          intro A7 n7 c7 w12 hn7 hown7 hg7
          have hb12 := (hb11.alloc hb11.size _).grown hg7 (hb11.alloc hb11.size _).size (fun k hk => by have := (emptied w11 5).lt k hk; have := hb11.size; omega)
          have hbs7 : w9.heap.size ≤ w11.heap.size := hb11.size
          have hbs8 : w11.heap.size ≤ w12.heap.size := by have := hg7.size; simp at this; omega
          refine hK _ _ ?_
          clear hK K
          try simp only [Act.put, List.getElem_toArray, List.getElem_cons_succ, List.getElem_cons_zero, List.setIfInBounds_toArray, List.set_cons_zero, List.set_cons_succ]
        rotate_left
        focus
          rw [if_pos (by rfl)]
          go_simp
          refine hK _ _ ?_
          clear hK K
          try simp only [Act.put, List.getElem_toArray, List.getElem_cons_succ, List.getElem_cons_zero, List.setIfInBounds_toArray, List.set_cons_zero, List.set_cons_succ]
          refine wpAny_ready (rs := [11]) (by kernel_rfl) (by simp) ?_
          refine AllReady.cons rfl (fun K hK => ?_) AllReady.nil
          rw [if_pos (by rfl)]
          go_simp
          refine (HS2.out _ (hb10.alloc hb10.size _)).mono ?_
          rintro e w11 ⟨rfl, hb11'⟩
          have hb11 := (hb10.alloc hb10.size _).trans (hb11'.mono (hb10.alloc hb10.size _).size)
          have hem := own_below (emptied w10 _) hb11'
          go_wp2_with fail
          try simp only [Act.put, List.getElem_toArray, List.getElem_cons_succ, List.getElem_cons_zero, List.setIfInBounds_toArray, List.set_cons_zero, List.set_cons_succ]
          refine wpAny_ready (rs := [14]) (by kernel_rfl) (by simp) ?_
          refine AllReady.cons rfl (fun K hK => ?_) AllReady.nil
          rw [if_pos (by rfl)]
          refine wp_add_sl _ (.tmp 59) (.tmp 60) _ rfl w10.heap.size 5 i0 _ 1 Tryd.underlying22 hi0 hz0 hz1 hz2 rfl _ 0 [] rfl hem A n2 c (u8n xs) rfl (HR.out.below (HB9.out.trans (hb11.mono HB9.out.size))) (u8n_one _) (by omega) (by omega) (by have := hb11'.size; simp at this; omega) ?_
          intro A7 n7 c7 w12 hn7 hown7 hg7
          have hb12 := hb11.grown hg7 hb11.size (fun k hk => by have := hem.lt k hk; have := hb10.size; omega)
          have hbs7 : w9.heap.size ≤ w10.heap.size := hb10.size
          have hbs8 : w10.heap.size ≤ w12.heap.size := by have := hg7.size; have := hb11'.size; simp at this; omega
          refine hK _ _ ?_
          clear hK K
          try simp only [Act.put, List.getElem_toArray, List.getElem_cons_succ, List.getElem_cons_zero, List.setIfInBounds_toArray, List.set_cons_zero, List.set_cons_succ]
        all_goals
              refine wpAny_ready (rs := [16]) (by kernel_rfl) (by simp) ?_
              refine AllReady.cons rfl (fun K hK => ?_) AllReady.nil
              rw [if_pos (by rfl)]
              refine wp_add_sl _ (.tmp 61) (.tmp 62) _ rfl _ 5 i0 _ 1 Tryd.underlying22 hi0 hz0 hz1 hz2 rfl _ n7 _ rfl hown7 B m d (u8n ys) rfl (HQ.out.below (HB9.out.trans (hb12.mono HB9.out.size))) (u8n_one _) (by have := hn7.out; omega) (by have := hn7.out; omega) (by omega) ?_
              intro A8 n8 c8 w13 hn8 hown8 hg8
              have hb13 := hb12.grown hg8 hb12.size (fun k hk => by have := hown7.lt k hk; omega)
              rw [List.nil_append, u8n_app, ← HE8.out] at hown8
              refine hK _ _ ?_
              clear hK K
              try simp only [Act.put, List.getElem_toArray, List.getElem_cons_succ, List.getElem_cons_zero, List.setIfInBounds_toArray, List.set_cons_zero, List.set_cons_succ]
              refine wpAny_ready (rs := [17]) (by kernel_rfl) (by simp) ?_
              refine AllReady.cons rfl (fun K hK => ?_) AllReady.nil
              rw [if_pos (by rfl)]
              go_simp
              refine (HO2.out _ _ _ _ hb13 (Rd.own hown8)).mono ?_
              rintro e w14 ⟨rfl, hb14'⟩
              have hb14 := hb13.trans (hb14'.mono hb13.size)
              go_wp2_with fail
              try simp only [Act.put, List.getElem_toArray, List.getElem_cons_succ, List.getElem_cons_zero, List.setIfInBounds_toArray, List.set_cons_zero, List.set_cons_succ]
              refine wpAny_take (i := 18) (v := .bool true) rfl (by kernel_rfl) (by kernel_rfl) (by kernel_rfl) (fun _ _ _ h => h) (Or.inl ⟨by rfl, fun w => by go_simp⟩) ?_
              try simp only [Act.put, List.getElem_toArray, List.getElem_cons_succ, List.getElem_cons_zero, List.setIfInBounds_toArray, List.set_cons_zero, List.set_cons_succ]
              refine wpAny_take (i := 19) (v := .bool true) rfl (by kernel_rfl) (by kernel_rfl) (by kernel_rfl) (fun _ _ _ h => h) (Or.inl ⟨by rfl, fun w => rfl⟩) ?_
              refine wpAny_take (i := 20) (v := .bool true) rfl (by kernel_rfl) (by kernel_rfl) (by kernel_rfl) (fun _ _ _ h => h) (Or.inl ⟨by rfl, fun w => rfl⟩) ?_
              try simp only [Act.put, List.getElem_toArray, List.getElem_cons_succ, List.getElem_cons_zero, List.setIfInBounds_toArray, List.set_cons_zero, List.set_cons_succ]
              refine wpAny_take (i := 21) (v := .pointer (some ⟨g, 0, none⟩)) rfl (by kernel_rfl) (by kernel_rfl) (by kernel_rfl) (fun _ _ _ h => h) (Or.inl ⟨by rfl, fun w => rfl⟩) ?_
              refine wpAny_take (i := 23) (v := .slice A n2 c) rfl (by kernel_rfl) (by kernel_rfl) (by kernel_rfl) (fun _ _ _ h => h) (Or.inl ⟨by rfl, fun w => rfl⟩) ?_
              refine wpAny_take (i := 25) (v := .slice B m d) rfl (by kernel_rfl) (by kernel_rfl) (by kernel_rfl) (fun _ _ _ h => h) (Or.inl ⟨by rfl, fun w => rfl⟩) ?_
              try simp only [Act.put, List.getElem_toArray, List.getElem_cons_succ, List.getElem_cons_zero, List.setIfInBounds_toArray, List.set_cons_zero, List.set_cons_succ]
              refine wpAny_take (i := 24) (v := .int .i64 (n2 : Int)) rfl (by kernel_rfl) (by kernel_rfl) (by kernel_rfl) (fun _ _ _ h => h) (Or.inl ⟨by rfl, fun w => by go_simp⟩) ?_
              try simp only [Act.put, List.getElem_toArray, List.getElem_cons_succ, List.getElem_cons_zero, List.setIfInBounds_toArray, List.set_cons_zero, List.set_cons_succ]
              refine wpAny_take (i := 26) (v := .int .i64 (m : Int)) rfl (by kernel_rfl) (by kernel_rfl) (by kernel_rfl) (fun _ _ _ h => h) (Or.inl ⟨by rfl, fun w => by go_simp⟩) ?_
              try simp only [Act.put, List.getElem_toArray, List.getElem_cons_succ, List.getElem_cons_zero, List.setIfInBounds_toArray, List.set_cons_zero, List.set_cons_succ]
              refine wpAny_take (i := 27) (v := .int .i64 ((n2 : Int) + (m : Int))) rfl (by kernel_rfl) (by kernel_rfl) (by kernel_rfl) (fun _ _ _ h => h) (Or.inl ⟨by rfl, fun w => by go_simp; exact hwr.out⟩) ?_
              try simp only [Act.put, List.getElem_toArray, List.getElem_cons_succ, List.getElem_cons_zero, List.setIfInBounds_toArray, List.set_cons_zero, List.set_cons_succ]
              refine wpAny_ready (rs := [22]) (by kernel_rfl) (by simp) ?_
              refine AllReady.cons rfl (fun K hK => ?_) AllReady.nil
              rw [if_pos (by rfl)]
              go_simp
              refine (HL2.out _ hb14).mono ?_
              rintro e w' ⟨rfl, rfl⟩
              go_wp2_with fail
              try simp only [Act.put, List.getElem_toArray, List.getElem_cons_succ, List.getElem_cons_zero, List.setIfInBounds_toArray, List.set_cons_zero, List.set_cons_succ]
              refine wpAny_take (i := 28) (v := .bool true) rfl (by kernel_rfl) (by kernel_rfl) (by kernel_rfl) (fun _ _ _ h => h) (Or.inl ⟨by rfl, fun w => by go_simp⟩) ?_
              try simp only [Act.put, List.getElem_toArray, List.getElem_cons_succ, List.getElem_cons_zero, List.setIfInBounds_toArray, List.set_cons_zero, List.set_cons_succ]
              refine wpAny_take (i := 29) (v := .bool true) rfl (by kernel_rfl) (by kernel_rfl) (by kernel_rfl) (fun _ _ _ h => h) (Or.inl ⟨by rfl, fun w => rfl⟩) ?_
              refine wpAny_take (i := 30) (v := .bool true) rfl (by kernel_rfl) (by kernel_rfl) (by kernel_rfl) (fun _ _ _ h => h) (Or.inl ⟨by rfl, fun w => rfl⟩) ?_
              try simp only [Act.put, List.getElem_toArray, List.getElem_cons_succ, List.getElem_cons_zero, List.setIfInBounds_toArray, List.set_cons_zero, List.set_cons_succ]
              refine wpAny_done (by kernel_rfl) ?_ _
              go_wp2
              go_ret
              exact ⟨rfl, HB9.out.trans (hb14.mono HB9.out.size)⟩

theorem hole (a0 : Option Addr) (len0 cap0 : Nat) (z0 : List Int) (a1 : Option Addr) (len1 cap1 : Nat) (z1 : List Int) (w : World) (w0 : Row .u8 w a0 len0 cap0 z0) (w1 : Row .u8 w a1 len1 cap1 z1) (hT : Tab w) :
    Calls Tryd.prog 6 #[.slice a0 len0 cap0, .slice a1 len1 cap1] w fun e w' => e = .returned (.bool true) ∧ Below w.heap.size w w' := by
  obtain ⟨xs, hx, hb⟩ := Row.nats w0
  obtain ⟨ys, hy, hc⟩ := Row.nats w1
  exact core a0 a1 len0 cap0 len1 cap1 xs ys w hx hb hy hc hT

end Go.Proofs.YtlelnhimmchbaaaDoor.ShaOwnW
