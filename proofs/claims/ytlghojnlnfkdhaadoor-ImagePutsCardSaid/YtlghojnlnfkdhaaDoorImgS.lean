/- What stands behind any bytes, to be an image's: the digest, and the sum of both; by the code. Conditions: the rounds' own numbers lie in the variable; at most a hundred thousand bytes. -/
import Derived.Test.YtlghojnlnfkdhaaDoorShaJ
import Derived.Test.YtlghojnlnfkdhaaDoorCrcE
import Derived.Test.YtlghojnlnfkdhaaDoorNumE
import Derived.Test.YtlghojnlnfkdhaaDoorTabR
import Derived.Test.YtlghojnlnfkdhaaDoorBeq
import Derived.Test.YtlghojnlnfkdhaaDoorSame
namespace Go.Proofs.YtlghojnlnfkdhaaDoor.ImgS
open Go.RowKit Go.Proofs.YtlghojnlnfkdhaaDoor.Kit Go.Proofs.YtlghojnlnfkdhaaDoor.Byt Go.Proofs.YtlghojnlnfkdhaaDoor.Mem Go.Proofs.YtlghojnlnfkdhaaDoor.Beq Go.Proofs.YtlghojnlnfkdhaaDoor.ShaM Go.Proofs.YtlghojnlnfkdhaaDoor.ShaE Go.Proofs.YtlghojnlnfkdhaaDoor.ShaH

theorem src_of {w w' : World} {g n c : Nat} {A : Option Addr} {xs : List Nat} (h : Rd w A n c (u8n xs)) (hg : w.heap.size ≤ g) (hb : Below w.heap.size w w') : Src w' g A n c xs :=
  ⟨h.below hb, fun hn b o hA => by
    obtain ⟨b', o', hA', hlt, _⟩ := h.2.2.2 hn
    rw [hA] at hA'
    injection hA' with hA'
    injection hA' with hb'
    omega⟩
theorem Rd.of_blk {w : World} {g k n : Nat} {t : TypeId} {xs : List Nat} (hB : Blk w g t (u8n xs)) (hn : xs.length = n) (hk : k ≤ n) (h63 : n ≤ 9223372036854775807) : Rd w (some ⟨g, 0, none⟩) k n (u8n (xs.take k)) := by
  refine ⟨by rw [u8n_len]; simp; omega, hk, h63, fun _ => ⟨g, 0, rfl, hB.lt, fun j u hu => ?_⟩⟩
  rw [Nat.zero_add]
  refine hB.cell ?_
  have e : u8n (xs.take k) = (u8n xs).take k := by simp [u8n]
  rw [e, List.getElem?_take] at hu
  split at hu
  · exact hu
  · cases hu
theorem nl_u8s (xs : List Nat) : u8n xs = NumA.u8s (nl xs) := by simp [u8n, nl]
/-- A number's bytes. -/
def pbn (n x : Int) : List Nat := (List.range (NumA.wd x)).map fun i => NumB.cl (NumA.wd x) n / 2 ^ (8 * (NumA.wd x - 1 - i)) % 256
theorem pbn_nl (n x : Int) : nl (pbn n x) = NumB.putb n x := by simp [nl, pbn, NumB.putb, NumB.be, List.map_map, Function.comp_def]
theorem pbn_len (n x : Int) : (pbn n x).length = NumA.wd x := by simp [pbn]
theorem pbn_lt (n x : Int) : by256 (pbn n x) := by
  intro c hc
  simp only [pbn, List.mem_map, List.mem_range] at hc
  obtain ⟨i, _, rfl⟩ := hc
  omega
theorem nl_app (xs ys : List Nat) : nl (xs ++ ys) = nl xs ++ nl ys := by simp [nl]
theorem nl_len (xs : List Nat) : (nl xs).length = xs.length := by simp [nl]
theorem nl_inj {xs ys : List Nat} (h : nl xs = nl ys) : xs = ys := Same.nat_inj h

theorem size32 : (Tryd.prog.info? 32).map (·.size) = some 32 := by kernel_rfl
/-- What the digest of a new Hash hands back. -/
def Summed (w : World) (g : Nat) (xs : List Nat) (e : Ending) (w' : World) : Prop :=
  ∃ A n c, e = .returned (.slice A n c) ∧ Rd w' A n c (u8n xs) ∧ w.grownBy w' (some g)
set_option maxRecDepth 100000 in
set_option maxHeartbeats 1600000 in
theorem dsum_any (g : Nat) (A : Option Addr) (n c : Nat) (xs : List Nat) (w : World) (hT : Tab w) (h0 : 0 < g) (hH : Hs w g []) (hS : Src w g A n c xs) (hx : by256 xs) (hbd : xs.length < 549755813888) :
    Calls Tryd.prog 30 #[.agg #[.pointer (some ⟨g, 0, none⟩)], .slice A n c] w (Summed w g (dig xs)) := by
  have HT := Lib.hid hT
  have HS := Lib.hid hS
  have HH := Lib.hid hH
  have hlt := hH.lt
  have hz32 := ShaF.zero32
  obtain ⟨Z2, hZ2⟩ : ∃ Z2 : Array Value, Z2 = (u8n (List.replicate 32 0)).toArray := ⟨_, rfl⟩
  simp only [← hZ2] at hz32
  have HZ2 := Lib.hid hZ2
  obtain ⟨D, hD⟩ : ∃ D : List Nat, D = dig xs := ⟨_, rfl⟩
  have hdl : D.length = 32 := by rw [hD, dig_len]
  have HSM := Lib.hid (fun w1 (h1 : Tab w1) (h2 : Hs w1 g xs) => ShaJ.sum_any g xs w1 h1 h2 hx hbd)
  rw [← hD] at HSM
  rw [← hD]
  clear hT hS hH hZ2 hD
  go_enter Tryd.func30, Tryd.ntmps30
  go_wp2_with fail
  have hb0 : Below w.heap.size w (w.alloc (.cells #[.pointer (some ⟨g, 0, none⟩)] 54)) := (Below.refl _ _).alloc (Nat.le_refl _) _
  have hB0 := Lib.hid (Blk.new w 54 [.pointer (some ⟨g, 0, none⟩)])
  have hs0 : (w.alloc (.cells #[.pointer (some ⟨g, 0, none⟩)] 54)).heap.size = w.heap.size + 1 := by simp
  have HS0 := Lib.hid (show Src (w.alloc (.cells #[.pointer (some ⟨g, 0, none⟩)] 54)) g A n c xs from ⟨HS.out.1.below hb0, HS.out.2⟩)
  have HH0 := Lib.hid (HH.out.below hb0)
  have HT0 := Lib.hid (HT.out.below hb0 HT.out.1)
  have HB0 := Lib.hid hb0
  clear hb0
  generalize hw0 : w.alloc (.cells #[.pointer (some ⟨g, 0, none⟩)] 54) = w0 at *
  clear hw0
  refine (ShaI.write_any g A n c xs [] w0 HT0.out h0 HH0.out HS0.out hx (by simp; omega)).mono ?_
  rintro e w1 ⟨rfl, hH1, hg1⟩
  rw [List.nil_append] at hH1
  have HK1 := Lib.hid (show Keep (fun k => k = g) w w1 from (Keep.of_below HB0.out).trans (Keep.grown hg1 (fun k hk => by injection hk with hk; exact hk.symm)) (fun k h => .inl h))
  have hB1 : Blk w1 w.heap.size 54 [.pointer (some ⟨g, 0, none⟩)] := (hg1.block w.heap.size (by omega) (by simp; omega)).trans hB0.out
  have c1 := hB1.cell (i := 0) rfl
  have HT1 := Lib.hid (show Tab w1 from ⟨by have := HK1.out.size; omega, fun i hi => (World.cell?_of_block (HK1.out.block 0 HT.out.1 (show ¬ 0 = g by omega))).trans (HT.out.2 i hi)⟩)
  have HH1 := Lib.hid hH1
  clear hH1 hg1 hB0 hB1 HB0
  go_wp2_with (first
   | (go_at_call 46; refine (HSM.out w1 HT1.out HH1.out).mono ?_; rintro e w2 ⟨rfl, hb2⟩; clear c1)
   | (refine wpList_store_blk rfl 32 (.tmp 5) (.tmp 12) rfl w2.heap.size rfl (u8n D) rfl (Blk_at HZ2.out rfl) (by rw [u8n_len, u8n_len, hdl, List.length_replicate]) (by rw [u8n_len, hdl]; exact size32) (u8n_one _) ?_; intro w3 hB3 ho3))
  go_ret
  have hR := Rd.of_blk (k := 32) hB3.out hdl (by omega) (by omega)
  rw [List.take_of_length_le (by omega)] at hR
  refine ⟨_, _, _, rfl, hR, ?_⟩
  have hb3 : Below w2.heap.size w2 w3 := ho3.out.below ((Below.refl w2.heap.size w2).alloc (Nat.le_refl _) (.cells Z2 32)) (Nat.le_refl _) (by simp)
  have hk := HK1.out.trans (Keep.of_below (F := fun k => k = g) (hb2.trans (hb3.mono hb2.size))) (fun _ h => .inl h)
  exact ⟨hk.os, hk.tape, hk.output, hk.size, fun k hk1 hk2 => hk.block k hk1 (fun h => hk2 (by rw [show k = g from h]))⟩

set_option maxRecDepth 100000 in
set_option maxHeartbeats 800000 in
theorem tsum_any (g : Nat) (A : Option Addr) (n c : Nat) (xs : List Nat) (w : World) (hT : CrcC.Tb w g 256) (hR : Rd w A n c (u8n xs)) (hx : by256 xs) :
    Calls Tryd.prog 32 #[.agg #[.pointer (some ⟨g, 0, none⟩)], .slice A n c] w fun e w' => ∃ A' n' c', e = .returned (.slice A' n' c') ∧ Rd w' A' n' c' (u8n (pbn (CrcM.sm xs : Nat) 4)) ∧ Below w.heap.size w w' := by
  have HS := Lib.hid (CrcD.sum_there g A n c xs (w.alloc (.cells #[.pointer (some ⟨g, 0, none⟩)] 58)) (CrcD.Tb.below hT ((Below.refl _ _).alloc (Nat.le_refl _) _)) (hR.alloc _) hx)
  have hlt : CrcM.sm xs < 4294967296 := CrcM.sm_lt xs
  obtain ⟨y, hy⟩ : ∃ y, y = CrcM.sm xs := ⟨_, rfl⟩
  rw [← hy] at HS hlt
  rw [← hy]
  clear hT hR hy
  go_enter Tryd.func32, Tryd.ntmps32
  go_wp2_with (first
   | (go_at_call 48; refine HS.out.mono ?_; rintro e w1 ⟨rfl, rfl⟩)
   | (go_at_call 17; refine (NumB.put_any none 0 0 [] (y : Nat) 4 _ (Rd.nil _) (by omega)).mono ?_; rintro e w1 ⟨A1, n1, c1, hn1, rfl, hown1, hb1⟩))
  go_ret
  refine ⟨A1, n1, c1, rfl, ?_, ?_⟩
  · rw [nl_u8s, pbn_nl]
    simpa using Rd.own hown1
  · exact ((Below.refl w.heap.size w).alloc (Nat.le_refl _) _).trans (hb1.mono (by simp))

def Fun2 (w : World) (G gH gT : Nat) : Prop := Blk w G 42 [.func (.func 30) #[.agg #[.pointer (some ⟨gH, 0, none⟩)]] #[], .func (.func 32) #[.agg #[.pointer (some ⟨gT, 0, none⟩)]] #[]]
/-- What bytes have behind them, to be an image's. -/
def closed (xs : List Nat) : List Nat := (xs ++ dig xs) ++ pbn (CrcM.sm (xs ++ dig xs) : Nat) 4
theorem closed_len (xs : List Nat) : (closed xs).length = xs.length + 36 := by
  unfold closed
  rw [List.length_append, List.length_append, dig_len, pbn_len]
  rfl
theorem closed_lt {xs : List Nat} (h : by256 xs) : by256 (closed xs) := fun c hc => by
  rcases List.mem_append.1 hc with h1 | h1
  · rcases List.mem_append.1 h1 with h2 | h2
    · exact h c h2
    · exact dig_lt xs c h2
  · exact pbn_lt _ _ c h1
set_option maxRecDepth 100000 in
set_option maxHeartbeats 1600000 in
theorem turn_any (A : Option Addr) (n c : Nat) (xs : List Nat) (gH gT G : Nat) (w : World) (hT : Tab w) (hR : Rd w A n c (u8n xs)) (hx : by256 xs) (hl : xs.length ≤ 100000) (h0 : 0 < gH) (hH : Hs w gH []) (hTb : CrcC.Tb w gT 256) (hF : Fun2 w G gH gT) (hne : gT ≠ gH) (hG : G ≠ gH) :
    Calls Tryd.prog 28 #[.slice A n c, .slice (some ⟨G, 0, none⟩) 2 2] w fun e w' => ∃ B m d, e = .returned (.slice B m d) ∧ w'.ownsRow w.heap.size 5 1 (.slice B m d) m (u8n (closed xs)) ∧ w.grownBy w' (some gH) := by
  obtain ⟨i0, hi0, hz0, hz1, hz2⟩ := info_parts NumA.info8
  have HT := Lib.hid hT
  have HH := Lib.hid hH
  have HTb := Lib.hid hTb
  have HF := Lib.hid hF
  have hn : xs.length = n := Rd.nats hR
  have hR' := hR
  rw [nl_u8s] at hR'
  have HC := Lib.hid (TabR.clone_any A n c (nl xs) w hR' (by omega))
  have hgH := hH.lt
  clear hT hR hR' hH hTb hF
  go_enter Tryd.func28, Tryd.ntmps28
  go_wp2_with (go_at_call 43; refine HC.out.mono ?_; rintro e w1 ⟨A1, n1, c1, hn1, rfl, hown1, hb1⟩)
  have hown1' : w1.ownsRow w.heap.size 5 1 (.slice A1 n1 c1) n1 (u8n xs) := by rw [nl_u8s]; exact hown1
  obtain rfl : n1 = n := by have := hn1.out; rw [nl_len] at this; omega
  obtain ⟨D, hD⟩ : ∃ D : List Nat, D = dig xs := ⟨_, rfl⟩
  have hdl : D.length = 32 := by rw [hD, dig_len]
  obtain ⟨E, hE⟩ : ∃ E : List Nat, E = pbn (CrcM.sm (xs ++ D) : Nat) 4 := ⟨_, rfl⟩
  have hel : E.length = 4 := by rw [hE, pbn_len]; rfl
  have HCL := Lib.hid (show closed xs = xs ++ D ++ E from by rw [hE, hD]; rfl)
  have HD := Lib.hid hD
  have HE := Lib.hid hE
  have hxd : by256 (xs ++ D) := fun c hc => by
    rcases List.mem_append.1 hc with h | h
    · exact hx c h
    · rw [hD] at h; exact dig_lt xs c h
  have HXD := Lib.hid hxd
  have HN := Lib.hid hn
  clear hD hE hown1 hn1 hn HC hxd
  go_loopw [5, 7, 12] (fun o f i wr => ∃ (k : Nat) (B : Option Addr) (m d : Nat) (ys : List Nat), k ≤ 2 ∧ i = .int .i64 k ∧ o = .slice B m d ∧ Hid (wr.ownsRow w.heap.size 5 1 (.slice B m d) m (u8n ys)) ∧ Hid (Keep (fun q => q = gH) w wr) ∧ Hid (k = 0 → ys = xs ∧ Hs wr gH []) ∧ Hid (k = 1 → ys = xs ++ D) ∧ Hid (k = 2 → ys = xs ++ D ++ E)) (fun _ _ i _ => 2 - (intOf i).toNat)
  case atStart => exact ⟨0, A1, n1, c1, xs, by omega, rfl, rfl, Lib.hid hown1', Lib.hid (Keep.of_below hb1), Lib.hid (fun _ => ⟨rfl, HH.out.below hb1⟩), Lib.hid (fun h => by omega), Lib.hid (fun h => by omega)⟩
  case round =>
    obtain ⟨k, B, m, d, ys, hk, rfl, rfl, hO, hKP, h00, h11, h22⟩ := hrel
    have hKs := hKP.out.size
    have hTr := Lib.hid (show Tab wr from ⟨by have := HT.out.1; omega, fun i hi => (World.cell?_of_block (hKP.out.block 0 HT.out.1 (show ¬ 0 = gH by omega))).trans (HT.out.2 i hi)⟩)
    have hFr : Fun2 wr G gH gT := hKP.out.blk HF.out (by show ¬ G = gH; exact hG)
    have hml : ys.length = m := by have := hO.out.1; rw [u8n_len] at this; omega
    match k, hk with
    | 0, _ =>
      obtain ⟨rfl, hH1⟩ := h00.out rfl
      have f0 := hFr.cell (i := 0) rfl
      have HS := Lib.hid (dsum_any gH B m d ys wr hTr.out h0 hH1 ⟨Rd.own hO.out, fun _ b o hA => by
        have := hO.out.lt b (by rw [hA]; rfl)
        omega⟩ hx (by omega))
      rw [← HD.out] at HS
      clear h00 h11 h22
      go_wp2_with (first
       | (go_at_call 30; refine HS.out.mono ?_; rintro e w2 ⟨A2, n2, c2, rfl, hR2, hg2⟩; have hO2 := Lib.hid (show w2.ownsRow w.heap.size 5 1 (.slice B m d) m (u8n ys) from (Keep.grown (F := fun q => q = gH) hg2 (fun k hk => by injection hk with hk; exact hk.symm)).own hO.out (fun q hq hqg => by have := (hO.out.lt q hq); have h2 : q = gH := hqg; omega)); have hK2 := Lib.hid (hKP.out.trans (Keep.grown (F := fun q => q = gH) hg2 (fun k hk => by injection hk with hk; exact hk.symm)) (fun _ h => .inl h)); obtain rfl : 32 = n2 := by have := Rd.nats hR2; omega
          clear hg2 f0)
       | (at_builtin; refine wpList_add _ rfl (.tmp 16) (.tmp 19) _ rfl w.heap.size 5 i0 _ 1 Tryd.underlying22 hi0 hz0 hz1 hz2 rfl _ m _ rfl hO2.out A2 32 c2 (u8n D) rfl hR2 (u8n_one _) (by omega) (by omega) (by have := hK2.out.size; omega) ?_; intro A3 n3 c3 w3 hn3 hown3 hg3 hat3; clear hat3))
      go_roundw
      case rel => exact ⟨1, A3, n3, c3, ys ++ D, by omega, rfl, rfl, Lib.hid (by rw [← u8n_app]; exact hown3), Lib.hid (hK2.out.trans (Keep.grown (F := fun q => w.heap.size ≤ q) hg3 (fun q hq => (hO2.out.lt q hq).1)) (fun q h => .inr h)), Lib.hid (fun h => by omega), Lib.hid (fun _ => rfl), Lib.hid (fun h => by omega)⟩
      case measure => simp [intOf]
    | 1, _ =>
      obtain rfl := h11.out rfl
      have f1 := hFr.cell (i := 1) rfl
      have HS := Lib.hid (tsum_any gT B m d (xs ++ D) wr ((hKP.out.block gT (lt_of_block HTb.out) (by show ¬ gT = gH; exact hne)).trans HTb.out) (Rd.own hO.out) HXD.out)
      rw [← HE.out] at HS
      clear h00 h11 h22
      go_wp2_with (first
       | (go_at_call 32; refine HS.out.mono ?_; rintro e w2 ⟨A2, n2, c2, rfl, hR2, hb2⟩; have hO2 := Lib.hid (own_below hO.out hb2); have hK2 := Lib.hid (hKP.out.trans (Keep.of_below (F := fun q => q = gH) hb2) (fun _ h => .inl h)); obtain rfl : 4 = n2 := by have := Rd.nats hR2; omega
          clear hb2 f1)
       | (at_builtin; refine wpList_add _ rfl (.tmp 16) (.tmp 19) _ rfl w.heap.size 5 i0 _ 1 Tryd.underlying22 hi0 hz0 hz1 hz2 rfl _ m _ rfl hO2.out A2 4 c2 (u8n E) rfl hR2 (u8n_one _) (by simp at hml; omega) (by simp at hml; omega) (by have := hK2.out.size; omega) ?_; intro A3 n3 c3 w3 hn3 hown3 hg3 hat3; clear hat3))
      go_roundw
      case rel => exact ⟨2, A3, n3, c3, xs ++ D ++ E, by omega, rfl, rfl, Lib.hid (by rw [← u8n_app]; exact hown3), Lib.hid (hK2.out.trans (Keep.grown (F := fun q => w.heap.size ≤ q) hg3 (fun q hq => (hO2.out.lt q hq).1)) (fun q h => .inr h)), Lib.hid (fun h => by omega), Lib.hid (fun h => by omega), Lib.hid (fun _ => rfl)⟩
      case measure => simp [intOf]
    | 2, _ =>
      obtain rfl := h22.out rfl
      clear h00 h11 h22
      go_wp2
      go_ret
      refine ⟨B, m, d, rfl, by rw [HCL.out]; exact hO.out, ?_⟩
      have hk := hKP.out
      exact ⟨hk.os, hk.tape, hk.output, hk.size, fun k hk1 hk2 => hk.block k hk1 (fun h => hk2 (by rw [show k = gH from h]))⟩

/-- What comes back is new memory that reads as these bytes; all that was there is as it was. -/
def Gives (w : World) (xs : List Nat) (e : Ending) (w' : World) : Prop := ∃ B m d, e = .returned (.slice B m d) ∧ w'.ownsRow w.heap.size 5 1 (.slice B m d) m (u8n xs) ∧ Below w.heap.size w w'
theorem own_mono {w : World} {b b' : Nat} {e : TypeId} {v : Value} {n : Nat} {xs : List Value} (h : w.ownsRow b' e 1 v n xs) (hb : b ≤ b') : w.ownsRow b e 1 v n xs := by
  refine ⟨h.1, ?_⟩
  rcases h.2 with h1 | ⟨g, cap, cur, hv, hg, hrest⟩
  · exact .inl h1
  · exact .inr ⟨g, cap, cur, hv, by omega, hrest⟩
set_option maxRecDepth 100000 in
set_option maxHeartbeats 1600000 in
theorem sealed_any (A : Option Addr) (n c : Nat) (xs : List Nat) (w : World) (hT : Tab w) (hR : Rd w A n c (u8n xs)) (hx : by256 xs) (hl : xs.length ≤ 100000) :
    Calls Tryd.prog 18 #[.slice A n c] w (Gives w (closed xs)) := by
  have HT := Lib.hid hT
  have HR := Lib.hid hR
  have hmf := CrcD.makeFunc_run
  clear hT hR
  go_enter Tryd.func18, Tryd.ntmps18
  go_wp2_with fail
  refine (ShaJ.new_any _).mono ?_
  rintro e w1 ⟨g, rfl, hg, hH1, hb1⟩
  have HH1 := Lib.hid hH1
  clear hH1
  go_wp2_with fail
  refine (CrcC.make_any _).mono ?_
  rintro e w2 ⟨rfl, hT2, hb2, hs2⟩
  have hlt := HH1.out.lt
  have h00 := HT.out.1
  have hb12 : Below w.heap.size w w2 := hb1.trans (hb2.mono hb1.size)
  have hb3 : Below w.heap.size w (w2.alloc (.cells #[.func (.func 30) #[.agg #[.pointer (some ⟨g, 0, none⟩)]] #[], .func (.func 32) #[.agg #[.pointer (some ⟨w1.heap.size, 0, none⟩)]] #[]] 42)) := hb12.alloc hb12.size _
  have HC := Lib.hid (turn_any A n c xs g w1.heap.size w2.heap.size (w2.alloc (.cells #[.func (.func 30) #[.agg #[.pointer (some ⟨g, 0, none⟩)]] #[], .func (.func 32) #[.agg #[.pointer (some ⟨w1.heap.size, 0, none⟩)]] #[]] 42)) (HT.out.below hb3 h00) (HR.out.below hb3) hx hl (by omega) (HH1.out.below (hb2.alloc hb2.size _)) (CrcD.Tb.below hT2 ((Below.refl w2.heap.size w2).alloc (Nat.le_refl _) _)) (Blk.new w2 _ [.func (.func 30) #[.agg #[.pointer (some ⟨g, 0, none⟩)]] #[], .func (.func 32) #[.agg #[.pointer (some ⟨w1.heap.size, 0, none⟩)]] #[]]) (by omega) (by omega))
  have HB3 := Lib.hid hb3
  have hs3 : w.heap.size ≤ w2.heap.size := hb12.size
  clear hT2 hb2 hb1 HH1 hb3 hb12 hs2
  go_wp2_with fail
  refine HC.out.mono ?_
  rintro e w3 ⟨B, m, d, rfl, hR3, hg3⟩
  go_wp2_with fail
  go_ret
  exact ⟨B, m, d, rfl, own_mono hR3 (by simp; omega), HB3.out.grown hg3 (by simp; omega) (fun k hk => by injection hk with hk; omega)⟩
end Go.Proofs.YtlghojnlnfkdhaaDoor.ImgS
