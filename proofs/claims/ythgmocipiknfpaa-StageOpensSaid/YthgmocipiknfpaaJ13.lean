/- A slot's bytes, and a copy of a slot, by the reference. Conditions: what lies lies as the facts say. A block as the law fills it. No conditions but those each law names. What an act does to a slot that is told, by the law. Conditions: what lies lies as the facts say; numbers of 64 bits. -/
import Derived.Test.YthgmocipiknfpaaStgC
import Derived.Test.YthgmocipiknfpaaDskB
import Derived.Deep.RegionHeld3
namespace Go.Proofs.Ythgmocipiknfpaa.StgD
open Go.RowKit Go.Proofs.Ythgmocipiknfpaa.Kit Go.Proofs.Ythgmocipiknfpaa.Byt Go.Proofs.Ythgmocipiknfpaa.Mem Go.Proofs.Ythgmocipiknfpaa.RecM Go.Proofs.Ythgmocipiknfpaa.BitM Go.Proofs.Ythgmocipiknfpaa.BitB Go.Proofs.Ythgmocipiknfpaa.BitC Go.Proofs.Ythgmocipiknfpaa.StgM Go.Proofs.Ythgmocipiknfpaa.StgA Go.Proofs.Ythgmocipiknfpaa.StgB Go.Proofs.Ythgmocipiknfpaa.StgC

def Tlls (w : World) (v : List Nat × Int) (e : Ending) (w' : World) : Prop := ∃ B m d, e = .returned (.tuple #[.slice B m d, .int .i64 v.2]) ∧ Rd w' B m d (u8n v.1) ∧ Below w.heap.size w w'
theorem mem_take {l : List (List Nat)} {j : Nat} (h : j < l.length) (h0 : l.getD j [] = []) : [] ∈ l := by
  rw [List.getD_eq_getElem?_getD, List.getElem?_eq_getElem h] at h0
  have e : l[j] = [] := h0
  rw [← e]
  exact List.getElem_mem h
theorem flat_next {l : List (List Nat)} {j : Nat} (h : j < l.length) : (l.take (j + 1)).flatten = (l.take j).flatten ++ l.getD j [] := by
  rw [List.take_add_one, List.flatten_append, List.getD_eq_getElem?_getD, List.getElem?_eq_getElem h]
  simp
set_option maxRecDepth 100000 in
set_option maxHeartbeats 3200000 in
theorem rbytes_any (H N : Nat → Prop) (a : Nat) (x : Rf) (w : World) (h : RSl w H N a x) (hwf : x.wf) :
    Calls Try.prog 42 #[.pointer (some ⟨a, 0, none⟩)] w (Tlls w (rY x)) := by
  obtain ⟨i0, hi0, hz0, hz1, hz2⟩ := info_parts NumA.info8
  obtain ⟨E, A, q, c, hS⟩ := h
  obtain ⟨c0, c1, c2, c3, c4⟩ := hS.cells
  cases hh : x.has
  · have HX := Lib.hid (show rY x = ([], 16) from by unfold rY; rw [if_pos hh])
    rw [hh] at c0
    clear hS hwf hh c1 c2 c3 c4
    go_enter Try.func42, Try.ntmps42
    go_wp2
    go_ret2
    exact ⟨none, 0, 0, by rw [HX.out]; rfl, by rw [HX.out]; exact Rd.nil _, Below.refl _ _⟩
  · rw [hh] at c0
    have hlen := hS.len
    have hl10 := bl_len hwf hh
    have hz := (hwf.right hh).2.1
    have hlb := hwf.len hh
    have HZQ := Lib.hid (show x.g.z ≤ 16 * (q : Int) from by rw [hlb] at hlen; unfold blocks at hlen; omega)
    have HEA := Lib.hid (fun j (hj : j < x.bl.length) => hwf.each j hj)
    have HY := Lib.hid (show rY x = if [] ∈ x.bl then ([], 11) else (x.bl.flatten.take x.g.z.toNat, 0) from by unfold rY; rw [if_neg (by rw [hh]; simp)])
    have hEl : E.length = q := by rw [← hlen, hS.bl, List.length_map]
    have HEL := Lib.hid hEl
    have HLN := Lib.hid hlen
    have hq63 : q ≤ 10 := by omega
    have HS := Lib.hid hS
    obtain ⟨Z, hZ⟩ : ∃ Z : Nat, x.g.z = (Z : Int) := ⟨x.g.z.toNat, by omega⟩
    have hZt : x.g.z.toNat = Z := by omega
    rw [hZt] at HY
    rw [hZ] at c2 HZQ hz
    have HQ := Lib.hid (show ∀ j, j < q → ∃ g, A = some ⟨g, 0, none⟩ ∧ g < w.heap.size ∧ w.cell? ⟨g, j, none⟩ = some (Sl.val (E.getD j noSl)) from fun j hj => by
      obtain ⟨g, hA, hgl, hgc, _⟩ := own_set hS.own hj
      refine ⟨g, hA, hgl, ?_⟩
      rw [hgc, List.getElem?_map, List.getD_eq_getElem?_getD, List.getElem?_eq_getElem (by omega)]
      rfl)
    have hal := hS.hlt a hS.ha
    have hz1' : (1 : Int) ≤ (Z : Int) := hz.1
    have hz2' : (Z : Int) ≤ 160 := hz.2
    clear hS hwf hh hlen hl10 hlb hEl hZ hZt hz
    go_enter Try.func42, Try.ntmps42
    go_wp2
    go_loopw [4, 5] (fun o' i' wr => ∃ (j : Nat) (B : Option Addr) (m d : Nat), j ≤ q ∧ i' = .int .i64 j ∧ o' = .slice B m d ∧ m ≤ 160 ∧ Hid (m = 16 * j) ∧ Hid (wr.ownsRow w.heap.size 5 1 (.slice B m d) m (u8n (x.bl.take j).flatten)) ∧ Hid (Below w.heap.size w wr) ∧ Hid (∀ l, l < j → x.bl.getD l [] ≠ [])) (fun _ i' _ => q - (intOf i').toNat)
    case atStart => exact ⟨0, none, 0, 0, by omega, rfl, rfl, by omega, Lib.hid rfl, Lib.hid (World.ownsRow_nil _ _ _ _), Lib.hid (Below.refl _ _), Lib.hid (fun l hl => by omega)⟩
    case round =>
      obtain ⟨j, B, m, d, hj, rfl, rfl, hm160, hm, HO, HL, HA⟩ := hrel
      have c4' := (HL.out.cell (p := ⟨a, 4, none⟩) hal).trans c4
      have c2' := (HL.out.cell (p := ⟨a, 2, none⟩) hal).trans c2
      by_cases hlt : j < q
      · obtain ⟨g, rfl, hgl, hgc⟩ := HQ.out j hlt
        have hgc' := (HL.out.cell (p := ⟨g, j, none⟩) hgl).trans hgc
        obtain ⟨e, he⟩ : ∃ e, e = E.getD j noSl := ⟨_, rfl⟩
        have hmem : e ∈ E := by
          rw [he, List.getD_eq_getElem?_getD, List.getElem?_eq_getElem (by rw [HEL.out]; exact hlt)]
          exact List.getElem_mem _
        have hex : x.bl.getD j [] = e.xs := by
          rw [HS.out.bl, he, List.getD_eq_getElem?_getD, List.getElem?_map, List.getD_eq_getElem?_getD, List.getElem?_eq_getElem (by rw [HEL.out]; exact hlt)]
          rfl
        rw [← he] at hgc'
        have hrd := (HS.out.ent e hmem).1.below HL.out
        have hen : e.xs.length = e.n := Rd.nats hrd
        obtain ⟨eA, en, ec, exs⟩ := e
        dsimp only at hex hen hrd
        have hgc2 : wr.cell? ⟨g, j, none⟩ = some (.slice eA en ec) := hgc'
        by_cases hn0 : en = 0
        · have hx0 : exs = [] := List.eq_nil_of_length_eq_zero (by omega)
          have HX := Lib.hid (show rY x = ([], 11) from by rw [HY.out, if_pos (mem_take (by rw [HLN.out]; exact hlt) (by rw [hex]; exact hx0))])
          subst hn0
          clear he hmem hex hrd hen hgc' hgc hx0 hm
          go_wp2
          go_ret2
          exact ⟨none, 0, 0, by rw [HX.out]; rfl, by rw [HX.out]; exact Rd.nil _, HL.out⟩
        · have hne : exs ≠ [] := fun e => by rw [e] at hen; simp at hen; omega
          have h16 : exs.length = 16 := by
            rcases HEA.out j (by rw [HLN.out]; exact hlt) with h1 | h1
            · exact absurd (hex.symm.trans h1.1) hne
            · rw [← hex]; exact h1.1
          obtain rfl : en = 16 := by omega
          have HFN := Lib.hid (show (x.bl.take (j + 1)).flatten = (x.bl.take j).flatten ++ exs from by rw [flat_next (by rw [HLN.out]; exact hlt), hex])
          have HAN := Lib.hid (show ∀ l, l < j + 1 → x.bl.getD l [] ≠ [] from fun l hl => by
            by_cases e : l = j
            · rw [e, hex]; exact hne
            · exact HA.out l (by omega))
          have hmb : m + 16 ≤ 160 := by have := hm.out; omega
          have HRD := Lib.hid hrd
          clear he hmem hex hrd hen hgc' hgc hn0 hne h16
          go_wp2_with (at_builtin; refine wpList_add _ rfl (.tmp 29) (.tmp 36) _ rfl w.heap.size 5 i0 _ 1 Try.underlying43 hi0 hz0 hz1 hz2 rfl _ m _ rfl HO.out eA 16 ec (u8n exs) rfl HRD.out (u8n_one _) (by omega) (by omega) HL.out.size ?_; intro A5 n5 c5 w5 hn5 hown5 hg5 hat5; have hb5 : Below w.heap.size w w5 := below_add HL.out HO.out (Nat.le_refl _) hg5)
          go_roundw
          case rel => exact ⟨j + 1, A5, n5, c5, by omega, by go_num, rfl, by have := hn5.out; omega, Lib.hid (by have := hn5.out; have := hm.out; omega), Lib.hid (by rw [HFN.out, ← u8n_app]; exact hown5), Lib.hid hb5, HAN⟩
          case measure => simp [intOf]; omega
      · obtain rfl : j = q := by omega
        have hnm : ¬ [] ∈ x.bl := fun hmem => by
          obtain ⟨l, hl, e⟩ := List.getElem_of_mem hmem
          refine HA.out l (by rw [← HLN.out]; exact hl) ?_
          rw [List.getD_eq_getElem?_getD, List.getElem?_eq_getElem hl]
          exact e
        have HX := Lib.hid (show rY x = (x.bl.flatten.take Z, 0) from by rw [HY.out, if_neg hnm])
        have hr := Rd.own HO.out
        rw [List.take_of_length_le (by rw [HLN.out]; omega)] at hr
        have hZm : Z ≤ m := by have := hm.out; have := HZQ.out; omega
        have hmc := hr.le
        have hcc := hr.cap
        have HT := Lib.hid (show Rd wr B Z d (u8n (x.bl.flatten.take Z)) from by have h := hr.take hZm; simpa [u8n, List.map_take] using h)
        obtain ⟨b, o, rfl, _, _⟩ := hr.2.2.2 (by omega)
        have k1 : Z ≤ d := by omega
        have k2 : (Z : Int) ≤ (d : Int) := by omega
        clear hr hnm hm HO
        go_wp2
        go_ret2
        exact ⟨some ⟨b, o, none⟩, Z, d, by rw [HX.out]; rfl, by rw [HX.out]; exact HT.out, HL.out⟩
theorem size_rsl : (Try.prog.info? 35).map (·.size) = some 5 := by kernel_rfl
theorem hd_one (x : Rf) (A : Option Addr) (n c : Nat) : ∀ u ∈ hd x A n c, u.oneCell' = true := by
  intro u hu
  simp [hd] at hu
  rcases hu with rfl | rfl | rfl | rfl | rfl <;> rfl
theorem sls_one (E : List Sl) : ∀ u ∈ E.map Sl.val, u.oneCell' = true := by
  intro u hu
  obtain ⟨e, _, rfl⟩ := List.mem_map.1 hu
  rfl
theorem own_mono1 {w : World} {b b' : Nat} {e : TypeId} {v : Value} {n : Nat} {xs : List Value} (h : w.ownsRow b' e 1 v n xs) (hb : b ≤ b') : w.ownsRow b e 1 v n xs := by
  refine ⟨h.1, ?_⟩
  rcases h.2 with h1 | ⟨g, cap, cur, hv, hg, hrest⟩
  · exact .inl h1
  · exact .inr ⟨g, cap, cur, hv, by omega, hrest⟩
def Copied (w : World) (x : Rf) (E : List Sl) (e : Ending) (w' : World) : Prop :=
  ∃ A n c, e = .returned (.agg (hd x A n c).toArray) ∧ w'.ownsRow w.heap.size 43 1 (.slice A n c) n (E.map Sl.val) ∧ Below w.heap.size w w'
set_option maxRecDepth 100000 in
set_option maxHeartbeats 3200000 in
theorem rcopy_any (x : Rf) (E : List Sl) (A : Option Addr) (n c : Nat) (w : World) (hR : Rd w A n c (E.map Sl.val)) (hn : n ≤ 1000) :
    Calls Try.prog 10 #[.agg #[.bool x.has, .int .i64 x.g.s, .int .i64 x.g.z, .int .i64 x.g.h, .slice A n c]] w (Copied w x E) := by
  obtain ⟨i0, hi0, hz0, hz1, hz2⟩ := info_parts info_bs
  have hb0 : Below w.heap.size w (w.alloc (.cells (hd x A n c).toArray 35)) := (Below.refl _ _).alloc (Nat.le_refl _) _
  have hb1 : Below w.heap.size w ((w.alloc (.cells (hd x A n c).toArray 35)).alloc (.cells (hd Rf.none none 0 0).toArray 35)) := hb0.alloc (by simp) _
  have HR := Lib.hid (hR.below hb1)
  have HB := Lib.hid hb1
  have hB0 := (Blk.new w 35 (hd x A n c)).alloc (.cells (hd Rf.none none 0 0).toArray 35)
  have hB1 := Blk.new (w.alloc (.cells (hd x A n c).toArray 35)) 35 (hd Rf.none none 0 0)
  rw [show (w.alloc (.cells (hd x A n c).toArray 35)).heap.size = w.heap.size + 1 from by simp] at hB1
  have HB0 := Lib.hid hB0
  have HB1 := Lib.hid hB1
  clear hB0 hB1 hR hb0 hb1
  obtain ⟨w1, hw1⟩ : ∃ w1, w1 = (w.alloc (.cells (hd x A n c).toArray 35)).alloc (.cells (hd Rf.none none 0 0).toArray 35) := ⟨_, rfl⟩
  rw [← hw1] at HR HB HB0 HB1
  have hw1' : (w.alloc (.cells #[.bool x.has, .int .i64 x.g.s, .int .i64 x.g.z, .int .i64 x.g.h, .slice A n c] 35)).alloc (.cells #[.bool false, .int .i64 0, .int .i64 0, .int .i64 0, .slice none 0 0] 35) = w1 := hw1.symm
  have hs1 : w1.heap.size = w.heap.size + 1 + 1 := by rw [hw1]; simp
  have HS1 := Lib.hid hs1
  clear hw1 hs1
  have c4 := HB0.out.cell (i := 4) rfl
  go_enter Try.func10, Try.ntmps10
  go_wp2_with (first
    | (at_builtin; refine wpList_add _ rfl (.tmp 4) (.tmp 6) _ rfl w1.heap.size 43 i0 _ 24 Try.underlying33 hi0 hz0 hz1 hz2 rfl _ 0 [] rfl (World.ownsRow_nil _ _ _ _) A n c (E.map Sl.val) rfl HR.out (sls_one E) (by omega) (by omega) (Nat.le_refl _) ?_; intro A2 n2 c2 w2 hn2 hown2 hg2 hat2; have hb2 : Below w1.heap.size w1 w2 := below_add (Below.refl _ _) (World.ownsRow_nil w1 w1.heap.size 43 1) (Nat.le_refl _) hg2; have HB02 := Lib.hid (HB0.out.below hb2); have HB12 := Lib.hid (HB1.out.below hb2); have c4b := HB02.out.cell (i := 4) rfl; have f4b := HB02.out.frozen 4; have HO2 := Lib.hid hown2; have HL2 := Lib.hid (HB.out.trans (hb2.mono HB.out.size)); clear hb2 hown2 hg2 hat2)
    | (refine wpList_load_blk rfl 35 _ rfl w.heap.size rfl (show Blk _ w.heap.size 35 (hd x A2 n2 c2) from HB02.out.set 4 (.slice A2 n2 c2)) Try.underlying35 rfl size_rsl ?_)
    | (refine wpList_store_blk rfl 35 (.tmp 2) (.tmp 10) rfl (w.heap.size + 1) rfl (hd x A2 n2 c2) rfl (HB12.out.far (p := ⟨w.heap.size, 4, none⟩) (by show w.heap.size + 1 ≠ w.heap.size; omega) (.slice A2 n2 c2)) rfl size_rsl (hd_one _ _ _ _) ?_; intro w9 hB9 ho9))
  have e0 := hB9.out.cell (i := 0) rfl
  have e1 := hB9.out.cell (i := 1) rfl
  have e2 := hB9.out.cell (i := 2) rfl
  have e3 := hB9.out.cell (i := 3) rfl
  have e4 := hB9.out.cell (i := 4) rfl
  refine bodyPost_ret (v := .agg (hd x A2 n2 c2).toArray) (by simp [results, Try.results10, go_sem, hd, e0, e1, e2, e3, e4]) rfl ?_
  have ks : Keep (fun i => i = w.heap.size ∨ i = w.heap.size + 1) w2 w9 := (Keep.set (F := fun i => i = w.heap.size ∨ i = w.heap.size + 1) w2 4 _ (.inl rfl)).trans (Keep.only (F := fun i => i = w.heap.size ∨ i = w.heap.size + 1) ho9.out (.inr rfl)) fun i hi => .inl hi
  refine ⟨A2, n2, c2, rfl, ?_, HL2.out.trans ((ks.below (B := w.heap.size) (fun i hi => by rcases hi with h | h <;> omega) HL2.out.size))⟩
  have h1 := ks.own HO2.out fun i hi => by
    have := (HO2.out.lt i hi).1
    have := HS1.out
    show ¬ (i = w.heap.size ∨ i = w.heap.size + 1)
    omega
  have hm := own_mono1 h1 (show w.heap.size ≤ w1.heap.size from by have := HS1.out; omega)
  simpa using hm
end Go.Proofs.Ythgmocipiknfpaa.StgD
namespace Go.Proofs.Ythgmocipiknfpaa.StgF
open Go.RowKit Go.Proofs.Ythgmocipiknfpaa.Kit Go.Proofs.Ythgmocipiknfpaa.Byt Go.Proofs.Ythgmocipiknfpaa.Mem
open Go.Proofs.Ythgmocipiknfpaa.DskB (info8 Fresh Fresh.of own_some u8n_set u8_conv u8_sum zs zs_len Rd.one)

/-- A block's bytes, as the law fills them. -/
def fb (b n : Nat) : List Nat := (List.range n).map fun i => (b + 3 * i) % 256
theorem fb_len (b n : Nat) : (fb b n).length = n := by simp [fb]
/-- k of n are filled. -/
def part (b n k : Nat) : List Nat := fb b k ++ List.replicate (n - k) 0
theorem part_len {b n k : Nat} (h : k ≤ n) : (part b n k).length = n := by simp [part, fb_len]; omega
theorem part_set {b n k : Nat} (h : k < n) : (part b n k).set k ((b + 3 * k) % 256) = part b n (k + 1) := by
  obtain ⟨m, hm⟩ : ∃ m, n - k = m + 1 := ⟨n - k - 1, by omega⟩
  have hm' : n - (k + 1) = m := by omega
  have h1 : fb b (k + 1) = fb b k ++ [(b + 3 * k) % 256] := by simp [fb, List.range_succ]
  rw [part, part, hm, hm', h1, List.set_append, if_neg (by rw [fb_len]; omega), fb_len, Nat.sub_self, List.replicate_succ, List.set_cons_zero, List.append_assoc]
  rfl
theorem part_all (b n : Nat) : part b n n = fb b n := by simp [part]
theorem part_zero (b n : Nat) : part b n 0 = List.replicate n 0 := by simp [part, fb]
theorem fb_byt (b n : Nat) : ∀ c ∈ fb b n, c < 256 := by
  intro c hc
  simp only [fb, List.mem_map, List.mem_range] at hc
  obtain ⟨i, _, rfl⟩ := hc
  omega
theorem own_zero {w : World} {g : Nat} (h : w.heap[g]? = some (.cells (List.replicate 16 (Value.int .u8 0)).toArray 5 (0, 0))) : w.ownsRow g 5 1 (.slice (some ⟨g, 0, none⟩) 16 16) 16 (u8n (zs 16)) := by
  have h' := own_of_block (base := g) (n := 16) h (Nat.le_refl _) (by simp) (by simp)
  simpa [u8n, zs] using h'
theorem zs_more : u8n (zs 16) ++ u8n [0] = u8n (zs 17) := by rw [u8n_app]; rfl
set_option maxRecDepth 100000 in
set_option maxHeartbeats 1600000 in
theorem fill_any (b : Nat) (hb : b < 256) (long : Bool) (w : World) :
    Calls Try.prog 14 #[.int .u8 (b : Nat), .bool long] w (Fresh w (fb b (if long then 17 else 16))) := by
  obtain ⟨i0, hi0, hz0, hz1, hz2⟩ := info_parts info8
  cases long
  · go_enter Try.func14, Try.ntmps14
    go_wp2_with (refine wpList_make_room _ rfl _ _ 43 rfl 5 i0 (.int .u8 0) 1 Try.underlying43 hi0 hz0 hz1 hz2 rfl .i64 .i64 16 16 16 16 rfl rfl rfl rfl (by omega) (by omega) (by omega) ?_; intro w1 hB1 hb1 hs1)
    have hown1 : w1.ownsRow w.heap.size 5 1 (.slice (some ⟨w.heap.size, 0, none⟩) 16 16) 16 (u8n (part b 16 0)) := by
      rw [part_zero]
      exact own_zero hB1.out
    go_loopw [14] (fun i wr => ∃ k : Nat, k ≤ 16 ∧ i = .int .i64 k ∧ Hid (wr.ownsRow w.heap.size 5 1 (.slice (some ⟨w.heap.size, 0, none⟩) 16 16) 16 (u8n (part b 16 k))) ∧ Hid (Below w.heap.size w wr)) (fun i _ => 16 - (intOf i).toNat)
    case atStart => exact ⟨0, by omega, rfl, hown1, hb1⟩
    case round =>
      obtain ⟨k, hk, rfl, Hown, Hbel⟩ := hrel
      by_cases hlt : k < 16
      · have hc : wr.cell? ⟨w.heap.size, k, none⟩ = some (.int .u8 (((part b 16 k).getD k 0 : Nat) : Int)) := by
          rw [Hown.out.cellAt k (by omega)]
          have : k < (part b 16 k).length := by rw [part_len (by omega)]; exact hlt
          simp [u8n, this]
        have hf := Hown.out.frozenAt k
        have h3k : (3 : Int) * (k : Int) = ((3 * k : Nat) : Int) := by omega
        obtain ⟨q, hq⟩ : ∃ q, q = 3 * k := ⟨_, rfl⟩
        have hcv := u8_conv (k := q) (by omega)
        have hsm := u8_sum b q
        rw [← hq] at h3k
        have HQ := Lib.hid hq
        clear hq
        go_wp2
        go_roundw
        case rel =>
          have h := Hown.out.stored k (.int .u8 (((b + q) % 256 : Nat) : Int))
          rw [u8n_set, show (part b 16 k).set k ((b + q) % 256) = part b 16 (k + 1) from by rw [HQ.out]; exact part_set hlt] at h
          exact ⟨k + 1, by omega, by go_num, h.1, Hbel.out.grown h.2 Hbel.out.size (fun _ hk => by injection hk with hk; omega)⟩
        case measure => simp [intOf]; omega
      · go_wp2
        go_ret
        obtain rfl : k = 16 := by omega
        have hown := Hown.out
        rw [part_all] at hown
        exact Fresh.of hown Hbel.out
  · go_enter Try.func14, Try.ntmps14
    go_wp2_with (first
     | (refine wpList_make_room _ rfl _ _ 43 rfl 5 i0 (.int .u8 0) 1 Try.underlying43 hi0 hz0 hz1 hz2 rfl .i64 .i64 16 16 16 16 rfl rfl rfl rfl (by omega) (by omega) (by omega) ?_; intro w1 hB1 hb1 hs1)
     | (at_builtin; refine wpList_add _ rfl (.tmp 9) (.tmp 10) _ rfl w.heap.size 5 i0 _ 1 Try.underlying43 hi0 hz0 hz1 hz2 rfl _ 16 (u8n (zs 16)) rfl ((own_zero hB1.out).alloc _) (some ⟨w1.heap.size, 0, none⟩) 1 1 (u8n [0]) (by rw [hs1]; rfl) (Rd.one w1 0 _) (u8n_one _) (by omega) (by omega) (by have := hb1.size; simp; omega) ?_; intro A2 n2 c2 w2 hn2 hown2 hg2 hat2; have hb2 := below_add (hb1.alloc hb1.size _) ((own_zero hB1.out).alloc _) (Nat.le_refl _) hg2; obtain rfl : n2 = 17 := hn2.out))
    have hown1 : w2.ownsRow w.heap.size 5 1 (.slice A2 17 c2) 17 (u8n (part b 17 0)) := by
      rw [zs_more] at hown2
      rw [part_zero]
      exact hown2
    obtain ⟨g2, rfl, hg2w, hg2l⟩ := own_some hown1 (by omega)
    have Hown1 := Lib.hid hown1
    have Hb2 := Lib.hid hb2
    clear hown1 hown2 hg2 hat2 hb2 hb1 hs1 hn2 hB1
    go_loopw [14] (fun i wr => ∃ k : Nat, k ≤ 17 ∧ i = .int .i64 k ∧ Hid (wr.ownsRow w.heap.size 5 1 (.slice (some ⟨g2, 0, none⟩) 17 c2) 17 (u8n (part b 17 k))) ∧ Hid (Below w.heap.size w wr)) (fun i _ => 17 - (intOf i).toNat)
    case atStart => exact ⟨0, by omega, rfl, Hown1, Hb2⟩
    case round =>
      obtain ⟨k, hk, rfl, Hown, Hbel⟩ := hrel
      by_cases hlt : k < 17
      · have hc : wr.cell? ⟨g2, k, none⟩ = some (.int .u8 (((part b 17 k).getD k 0 : Nat) : Int)) := by
          rw [Hown.out.cellAt k (by omega)]
          have : k < (part b 17 k).length := by rw [part_len (by omega)]; exact hlt
          simp [u8n, this]
        have hf := Hown.out.frozenAt k
        have h3k : (3 : Int) * (k : Int) = ((3 * k : Nat) : Int) := by omega
        obtain ⟨q, hq⟩ : ∃ q, q = 3 * k := ⟨_, rfl⟩
        have hcv := u8_conv (k := q) (by omega)
        have hsm := u8_sum b q
        rw [← hq] at h3k
        have HQ := Lib.hid hq
        clear hq
        go_wp2
        go_roundw
        case rel =>
          have h := Hown.out.stored k (.int .u8 (((b + q) % 256 : Nat) : Int))
          rw [u8n_set, show (part b 17 k).set k ((b + q) % 256) = part b 17 (k + 1) from by rw [HQ.out]; exact part_set hlt] at h
          exact ⟨k + 1, by omega, by go_num, h.1, Hbel.out.grown h.2 Hbel.out.size (fun _ hk => by injection hk with hk; omega)⟩
        case measure => simp [intOf]; omega
      · go_wp2
        go_ret
        obtain rfl : k = 17 := by omega
        have hown := Hown.out
        rw [part_all] at hown
        exact Fresh.of hown Hbel.out

end Go.Proofs.Ythgmocipiknfpaa.StgF
namespace Go.Proofs.Ythgmocipiknfpaa.StgI
open Go.RowKit Go.Proofs.Ythgmocipiknfpaa.Kit Go.Proofs.Ythgmocipiknfpaa.Byt Go.Proofs.Ythgmocipiknfpaa.Mem Go.Proofs.Ythgmocipiknfpaa.RecM Go.Proofs.Ythgmocipiknfpaa.StgM Go.Proofs.Ythgmocipiknfpaa.StgA Go.Proofs.Ythgmocipiknfpaa.StgB Go.Proofs.Ythgmocipiknfpaa.StgC Go.Proofs.Ythgmocipiknfpaa.StgD Go.Proofs.Ythgmocipiknfpaa.StgF
open Go.Proofs.Ythgmocipiknfpaa.RecA (n64 sval)

/-- An act. -/
structure Ac where
  (k n z no : Int)
  b : Nat
  long : Bool
  keep : Nat
structure Ac.ok (c : Ac) : Prop where
  k : n64 c.k
  n : n64 c.n
  z : n64 c.z
  no : n64 c.no
  b : c.b < 256
  keep : c.keep < 18446744073709551616
@[reducible] def Ac.val (c : Ac) : Value := .agg #[.int .i64 c.k, .int .i64 c.n, .int .i64 c.z, .int .i64 c.no, .int .u8 (c.b : Nat), .bool c.long, .int .u64 (c.keep : Nat)]
def Ac.cells (c : Ac) : List Value := [.int .i64 c.k, .int .i64 c.n, .int .i64 c.z, .int .i64 c.no, .int .u8 (c.b : Nat), .bool c.long, .int .u64 (c.keep : Nat)]
def Ac.bytes (c : Ac) : List Nat := fb c.b (if c.long then 17 else 16)
/-- What it does. -/
def rD (x : Rf) (c : Ac) : Rf × Int := if c.k = 0 then rB x c.n c.z else if c.k = 1 then rP x c.n c.no c.bytes else (Rf.none, 0)
theorem fill_rd {b : Nat} (hb : b < 256) (long : Bool) (w : World) : Calls Try.prog 14 #[.int .u8 (b : Nat), .bool long] w fun e w' => ∃ D m d, e = .returned (.slice D m d) ∧ Rd w' D m d (u8n (fb b (if long then 17 else 16))) ∧ (∀ q o, D = some ⟨q, o, none⟩ → w.heap.size ≤ q) ∧ Below w.heap.size w w' := by
  refine (fill_any b hb long w).mono ?_
  rintro e w' ⟨D, m, d, hm, rfl, ho, hbl⟩
  refine ⟨D, m, d, rfl, Rd.own ho, fun q o hD => ?_, hbl⟩
  exact (ho.lt q (by rw [hD]; rfl)).1
theorem Rgo.from {H N : Nat → Prop} {a : Nat} {w0 w : World} {v : Value} {x' : Rf} {e : Ending} {w' : World} (hb : Below w0.heap.size w0 w) (h : Rgo H N a w v x' e w') : Rgo H N a w0 v x' e w' := by
  obtain ⟨he, H', N', h1, h2, h3, h4⟩ := h
  have hs := hb.size
  refine ⟨he, H', N', h1, (Keep.of_below (F := H) hb).trans h2 (fun i hi => .inl hi), fun i hi => ?_, fun i hi => ?_⟩
  · rcases h3 i hi with h | h
    · exact .inl h
    · exact .inr (by omega)
  · rcases h4 i hi with h | h
    · exact .inl h
    · exact .inr (by omega)

set_option maxRecDepth 100000 in
set_option maxHeartbeats 6400000 in
theorem do_any (H N : Nat → Prop) (a2 : Nat) (x : Rf) (c : Ac) (w : World) (h : RSl w H N a2 x) (hwf : x.wf) (hc : c.ok) :
    Calls Try.prog 11 #[.pointer (some ⟨a2, 0, none⟩), c.val] w (Rgo H N a2 w (.int .i64 (rD x c).2) (rD x c).1) := by
  have hal : a2 < w.heap.size := by obtain ⟨_, _, _, _, h⟩ := h; exact h.hlt a2 h.ha
  have hb0 : Below w.heap.size w (w.alloc (.cells c.cells.toArray 38)) := (Below.refl _ _).alloc (Nat.le_refl _) _
  have HX := Lib.hid (Blk.new w 38 c.cells)
  have HL := Lib.hid hb0
  have HR := Lib.hid (h.below hb0)
  have HW := Lib.hid hwf
  have HC := Lib.hid hc
  have hHl : ∀ i, H i → i < w.heap.size := by obtain ⟨_, _, _, _, h⟩ := h; exact h.hlt
  have HHL := Lib.hid hHl
  clear hb0 h hwf hc hHl
  obtain ⟨k, n, z, no, b, long, keep⟩ := c
  by_cases hk0 : k = 0
  · subst hk0
    have HD : Hid (rD x ⟨0, n, z, no, b, long, keep⟩ = rB x n z) := Lib.hid (by unfold rD; exact if_pos rfl)
    have HBG := Lib.hid (fun (w' : World) (h' : RSl w' H N a2 x) => rbegin_any H N a2 x n z w' h' HC.out.n HC.out.z)
    go_enter Try.func11, Try.ntmps11
    go_wp2_with fail
    refine (HBG.out _ HR.out).mono ?_
    intro e w1 hgo
    obtain ⟨rfl, hgo2⟩ := hgo
    have HGO := Lib.hid hgo2
    clear hgo2
    go_wp2
    go_ret
    have h1 := Rgo.from HL.out (show Rgo H N a2 _ (.int .i64 (rB x n z).2) (rB x n z).1 (.returned (.int .i64 (rB x n z).2)) w1 from ⟨rfl, HGO.out⟩)
    rw [HD.out]
    exact h1
  · by_cases hk1 : k = 1
    · subst hk1
      have HD : Hid (rD x ⟨1, n, z, no, b, long, keep⟩ = rP x n no (fb b (if long then 17 else 16))) := Lib.hid (by unfold rD; rw [if_neg (show ¬ ((1 : Int) = 0) by omega), if_pos rfl]; rfl)
      have HFI := Lib.hid (fun w' => fill_rd HC.out.b long w')
      have HPT := Lib.hid (fun (w' : World) D m d (h' : RSl w' H N a2 x) (hr : Rd w' D m d (u8n (fb b (if long then 17 else 16)))) => rput_any H N a2 x n no D m d _ w' h' HW.out hr)
      obtain ⟨bs, hbs⟩ : ∃ bs, bs = fb b (if long then 17 else 16) := ⟨_, rfl⟩
      rw [← hbs] at HD HPT
      simp only [← hbs] at HFI
      obtain ⟨r2, hr2⟩ : ∃ r, r = rP x n no bs := ⟨_, rfl⟩
      rw [← hr2] at HD HPT
      clear hbs hr2
      have HX' : Hid (Blk (w.alloc (.cells #[.int .i64 1, .int .i64 n, .int .i64 z, .int .i64 no, .int .u8 (b : Nat), .bool long, .int .u64 (keep : Nat)] 38)) w.heap.size 38 [.int .i64 1, .int .i64 n, .int .i64 z, .int .i64 no, .int .u8 (b : Nat), .bool long, .int .u64 (keep : Nat)]) := HX
      have HL' : Hid (Below w.heap.size w (w.alloc (.cells #[.int .i64 1, .int .i64 n, .int .i64 z, .int .i64 no, .int .u8 (b : Nat), .bool long, .int .u64 (keep : Nat)] 38))) := HL
      have HR' : Hid (RSl (w.alloc (.cells #[.int .i64 1, .int .i64 n, .int .i64 z, .int .i64 no, .int .u8 (b : Nat), .bool long, .int .u64 (keep : Nat)] 38)) H N a2 x) := HR
      clear HX HL HR HC
      go_enter Try.func11, Try.ntmps11
      go_wp2_with fail
      generalize w.alloc (.cells #[.int .i64 1, .int .i64 n, .int .i64 z, .int .i64 no, .int .u8 (b : Nat), .bool long, .int .u64 (keep : Nat)] 38) = wB at *
      have p1 := HX'.out.cell (i := 1) rfl
      have p3 := HX'.out.cell (i := 3) rfl
      have p4 := HX'.out.cell (i := 4) rfl
      have p5 := HX'.out.cell (i := 5) rfl
      have hgl := HX'.out.lt
      go_region_held3 (fun w' => w'.cell? ⟨w.heap.size, 1, none⟩ = some (.int .i64 n) ∧ w'.cell? ⟨w.heap.size, 3, none⟩ = some (.int .i64 no) ∧ w'.cell? ⟨w.heap.size, 4, none⟩ = some (.int .u8 (b : Nat)) ∧ w'.cell? ⟨w.heap.size, 5, none⟩ = some (.bool long))
        (first | go_keep | exact HXp.out | exact HXf.out)
        (first
         | (go_at_call 14; refine (HFI.out _).mono ?_; rintro e wf ⟨D, m, d, rfl, hr, hDD, hbf⟩; have hbw := (((Below.refl wB.heap.size wB).drew).trans hbf); have HXf := Lib.hid (show wf.cell? ⟨w.heap.size, 1, none⟩ = some (.int .i64 n) ∧ wf.cell? ⟨w.heap.size, 3, none⟩ = some (.int .i64 no) ∧ wf.cell? ⟨w.heap.size, 4, none⟩ = some (.int .u8 (b : Nat)) ∧ wf.cell? ⟨w.heap.size, 5, none⟩ = some (.bool long) from ⟨(HX'.out.below hbw).cell rfl, (HX'.out.below hbw).cell rfl, (HX'.out.below hbw).cell rfl, (HX'.out.below hbw).cell rfl⟩); have HRf := Lib.hid (HR'.out.below hbw); have HLf := Lib.hid (HL'.out.trans (hbw.mono HL'.out.size)); have HDf := Lib.hid hr; have HBf := Lib.hid (HX'.out.below hbw); clear hr hbw hbf hDD)
         | (go_at_call 31; refine (HPT.out _ _ _ _ HRf.out HDf.out).mono ?_; intro e wp hgo; obtain ⟨rfl, hgo2⟩ := hgo; have HGO := Lib.hid hgo2; have hkp := hgo2.choose_spec.choose_spec.2.1; have hBp := hkp.blk HBf.out (by intro hH; have := HHL.out _ hH; omega); have HXp := Lib.hid (show wp.cell? ⟨w.heap.size, 1, none⟩ = some (.int .i64 n) ∧ wp.cell? ⟨w.heap.size, 3, none⟩ = some (.int .i64 no) ∧ wp.cell? ⟨w.heap.size, 4, none⟩ = some (.int .u8 (b : Nat)) ∧ wp.cell? ⟨w.heap.size, 5, none⟩ = some (.bool long) from ⟨hBp.cell rfl, hBp.cell rfl, hBp.cell rfl, hBp.cell rfl⟩); clear hgo2 hkp hBp))
      all_goals
        clear p1 p3 p4 p5
        go_wp2
        go_ret
        rw [HD.out]
        exact Rgo.from HLf.out ⟨rfl, HGO.out⟩
    · have HD : Hid (rD x ⟨k, n, z, no, b, long, keep⟩ = (Rf.none, 0)) := Lib.hid (by unfold rD; rw [if_neg hk0, if_neg hk1])
      have e0 : (k == 0) = false := by simpa using hk0
      have e1 : (k == 1) = false := by simpa using hk1
      obtain ⟨E, A, q, c, hS⟩ := HR.out
      have HS := Lib.hid hS
      clear hk0 hk1 hS
      go_enter Try.func11, Try.ntmps11
      go_wp2_with (refine wpList_store_blk rfl 35 (.tmp 30) (.tmp 29) rfl a2 rfl (hd Rf.none none 0 0) rfl HS.out.head rfl size_rsl (hd_one _ _ _ _) ?_; intro w9 hB9 ho9)
      go_ret
      have ks : Keep (fun i => i = a2) _ w9 := Keep.only (F := fun i => i = a2) ho9.out rfl
      refine Rgo.from HL.out ?_
      refine ⟨by rw [HD.out]; rfl, fun i => i = a2, fun _ => False, ⟨[], none, 0, 0, ?_, World.ownsRow_nil _ _ _ _, ?_, ?_, rfl, ?_, ?_, ?_, fun _ _ h => h⟩, ks.mono (fun i _ hi => by rw [show i = a2 from hi]; exact HS.out.ha), fun i hi => .inl (by rw [show i = a2 from hi]; exact HS.out.ha), fun i hi => hi.elim⟩
      · rw [HD.out]; exact hB9.out
      · rw [HD.out]; rfl
      · intro e he; cases he
      · intro i hi; cases hi
      · intro i hi
        rw [show i = a2 from hi]
        exact hB9.out.lt
      · intro i hi; exact hi.elim
end Go.Proofs.Ythgmocipiknfpaa.StgI
