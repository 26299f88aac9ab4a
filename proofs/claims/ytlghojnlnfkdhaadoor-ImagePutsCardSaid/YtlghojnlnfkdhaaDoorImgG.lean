/- An image got from bytes, by the code. Conditions: the bytes lie as the facts say, the rounds' own numbers lie in the variable. -/
import Derived.Test.YtlghojnlnfkdhaaDoorImgR
import Derived.Test.YtlghojnlnfkdhaaDoorImgP
namespace Go.Proofs.YtlghojnlnfkdhaaDoor.ImgG
open Go.RowKit Go.Proofs.YtlghojnlnfkdhaaDoor.Kit Go.Proofs.YtlghojnlnfkdhaaDoor.Byt Go.Proofs.YtlghojnlnfkdhaaDoor.Mem Go.Proofs.YtlghojnlnfkdhaaDoor.Beq Go.Proofs.YtlghojnlnfkdhaaDoor.ShaM Go.Proofs.YtlghojnlnfkdhaaDoor.ShaE Go.Proofs.YtlghojnlnfkdhaaDoor.ImgA Go.Proofs.YtlghojnlnfkdhaaDoor.ImgB Go.Proofs.YtlghojnlnfkdhaaDoor.ImgS Go.Proofs.YtlghojnlnfkdhaaDoor.ImgP Go.Proofs.YtlghojnlnfkdhaaDoor.ImgR

theorem Rd.drop {w : World} {g o n c : Nat} {xs : List Value} (h : Rd w (some ⟨g, o, none⟩) n c xs) {k : Nat} (hk : k ≤ n) : Rd w (some ⟨g, o + k, none⟩) (n - k) (c - k) (xs.drop k) := TabR.Rd.drop h hk
set_option maxRecDepth 100000 in
set_option maxHeartbeats 800000 in
theorem has_yes (b o n c : Nat) (B : Option Addr) (d : Nat) (ys : List Nat) (w : World) (hR : Rd w (some ⟨b, o, none⟩) n c (u8n ys)) (hx : by256 ys) (hP : Rd w B 2 d (u8n [76, 73])) (h2 : 2 ≤ ys.length) (ht : ys.take 2 = [76, 73]) :
    Calls Tryd.prog 33 #[.slice (some ⟨b, o, none⟩) n c, .slice B 2 d] w fun e w' => e = .returned (.bool true) ∧ w = w' := by
  have hn : ys.length = n := Rd.nats hR
  have hc := hR.le
  have hc2 := hR.cap
  have hq := equal_any (some ⟨b, o, none⟩) B 2 2 c d [76, 73] [76, 73] w (by rw [← ht]; have := hR.take (k := 2) (by omega); simpa [u8n, List.map_take] using this) hP (by intro u hu; simp at hu; omega) (by intro u hu; simp at hu; omega)
  rw [decide_eq_true rfl] at hq
  have HQ := Lib.hid hq
  clear hq hR hP ht hx
  have k0 : (2 : Int) ≤ (n : Int) := by omega
  have k1 : (2 : Int) ≤ (c : Int) := by omega
  have k2 : 2 ≤ c := by omega
  go_enter Tryd.func33, Tryd.ntmps33
  go_wp2_with (go_at_call 21; refine HQ.out.mono ?_; rintro e w' ⟨rfl, rfl⟩)
  go_ret
  exact ⟨rfl, rfl⟩
set_option maxRecDepth 100000 in
set_option maxHeartbeats 800000 in
theorem cut_yes (b o n c : Nat) (B : Option Addr) (d : Nat) (ys : List Nat) (w : World) (hR : Rd w (some ⟨b, o, none⟩) n c (u8n ys)) (hx : by256 ys) (hP : Rd w B 2 d (u8n [76, 73])) (h2 : 2 ≤ ys.length) (ht : ys.take 2 = [76, 73]) :
    Calls Tryd.prog 22 #[.slice (some ⟨b, o, none⟩) n c, .slice B 2 d] w fun e w' => ∃ A m k, e = .returned (.tuple #[.slice A m k, .bool true]) ∧ Rd w A m k (u8n (ys.drop 2)) ∧ w = w' := by
  have hn : ys.length = n := Rd.nats hR
  have hc := hR.le
  have hc2 := hR.cap
  have HH := Lib.hid (has_yes b o n c B d ys w hR hx hP h2 ht)
  have HD := Lib.hid (show Rd w (some ⟨b, o + 2, none⟩) (n - 2) (c - 2) (u8n (ys.drop 2)) from by have := Rd.drop hR (k := 2) (by omega); simpa [u8n, List.map_drop] using this)
  clear hR hP ht hx
  have k0 : (2 : Int) ≤ (n : Int) := by omega
  have k1 : (2 : Int) ≤ (c : Int) := by omega
  have k2 : 2 ≤ n := by omega
  go_enter Tryd.func22, Tryd.ntmps22
  go_wp2_with (go_at_call 33; refine HH.out.mono ?_; rintro e w' ⟨rfl, rfl⟩)
  · have e : c = 2 := by assumption
    subst e
    go_ret2
    have hn2 : n = 2 := by omega
    have hd : ys.drop 2 = [] := List.drop_of_length_le (by omega)
    exact ⟨_, _, _, rfl, by rw [hd, hn2]; exact Rd.empty w _ (by omega), rfl⟩
  · go_ret2
    exact ⟨_, _, _, rfl, HD.out, rfl⟩

theorem zero_one : ∀ u ∈ zeroI, u.oneCell' = true := by
  intro u hu
  simp [zeroI] at hu
  rcases hu with rfl | rfl <;> rfl
/-- What Get hands back. -/
def Gt (w : World) (v : Value) (x : Int) (e : Ending) (w' : World) : Prop := e = .returned (.tuple #[v, .int .i64 x]) ∧ Below w.heap.size w w'
@[reducible] def zeroV : Value := .agg #[.int .i64 0, .int .i64 0, .int .i64 0, .int .i64 0, .int .i64 0, .int .i64 0, .int .i64 0, .slice none 0 0]
theorem own0 (w : World) : Blk (w.alloc (.cells #[.int .i64 0, .int .i64 0, .int .i64 0, .int .i64 0, .int .i64 0, .int .i64 0, .int .i64 0, .slice none 0 0] 24)) w.heap.size 24 zeroI := Blk.new w _ zeroI
set_option maxRecDepth 100000 in
set_option maxHeartbeats 1600000 in
theorem get_short (A : Option Addr) (n c : Nat) (w : World) (hl : n < 36) : Calls Tryd.prog 11 #[.slice A n c] w (Gt w zeroV 1) := by
  have HB0 := Lib.hid (own0 w)
  have HL0 := Lib.hid ((Below.refl w.heap.size w).alloc (Nat.le_refl _) (.cells #[.int .i64 0, .int .i64 0, .int .i64 0, .int .i64 0, .int .i64 0, .int .i64 0, .int .i64 0, .slice none 0 0] 24))
  have h36 : (n : Int) < 36 := by omega
  go_enter Tryd.func11, Tryd.ntmps11
  go_wp2_with (refine wpList_store_blk rfl 24 (.tmp 2) (.tmp 12) rfl w.heap.size rfl zeroI rfl HB0.out rfl size_image zero_one ?_; intro w11 hB11 ho11)
  have k0 := hB11.out.cell (i := 0) rfl
  have k1 := hB11.out.cell (i := 1) rfl
  have k2 := hB11.out.cell (i := 2) rfl
  have k3 := hB11.out.cell (i := 3) rfl
  have k4 := hB11.out.cell (i := 4) rfl
  have k5 := hB11.out.cell (i := 5) rfl
  have k6 := hB11.out.cell (i := 6) rfl
  have k7 := hB11.out.cell (i := 7) rfl
  refine bodyPost_ret (v := .tuple #[.agg #[.int .i64 0, .int .i64 0, .int .i64 0, .int .i64 0, .int .i64 0, .int .i64 0, .int .i64 0, .slice none 0 0], .int .i64 1]) (by simp [results, Tryd.results11, go_sem, k0, k1, k2, k3, k4, k5, k6, k7]) rfl ?_
  exact ⟨rfl, ho11.out.below HL0.out (Nat.le_refl _) (by simp)⟩
set_option maxRecDepth 100000 in
set_option maxHeartbeats 1600000 in
theorem get_bad (A : Option Addr) (n c : Nat) (ys : List Nat) (w : World) (hT : Tab w) (hR : Rd w A n c (u8n ys)) (hx : by256 ys) (hl : 36 ≤ n) (hm : n ≤ 100000) (hne : ys ≠ closed (ys.take (n - 36))) : Calls Tryd.prog 11 #[.slice A n c] w (Gt w zeroV 10) := by
  have hn : ys.length = n := Rd.nats hR
  have hc := hR.le
  have hc2 := hR.cap
  obtain ⟨b, o, rfl, _, _⟩ := hR.2.2.2 (by omega)
  have HB0 := Lib.hid (own0 w)
  have HL0 := Lib.hid ((Below.refl w.heap.size w).alloc (Nat.le_refl _) (.cells #[.int .i64 0, .int .i64 0, .int .i64 0, .int .i64 0, .int .i64 0, .int .i64 0, .int .i64 0, .slice none 0 0] 24))
  have HT := Lib.hid hT
  have HR := Lib.hid hR
  have HN := Lib.hid hn
  have hzt : by256 (ys.take (n - 36)) := fun u hu => hx u (List.mem_of_mem_take hu)
  have HZ := Lib.hid (show Rd w (some ⟨b, o, none⟩) (n - 36) c (u8n (ys.take (n - 36))) from by have := hR.take (k := n - 36) (by omega); simpa [u8n, List.map_take] using this)
  have HS := Lib.hid (fun w' (hb : Below w.heap.size w w') => sealed_any (some ⟨b, o, none⟩) (n - 36) c (ys.take (n - 36)) w' (hT.below hb hT.1) (HZ.out.below hb) hzt (by simp; omega))
  have hzc : by256 (closed (ys.take (n - 36))) := closed_lt hzt
  have HQ := Lib.hid (fun w' (hb : Below w.heap.size w w') (B : Option Addr) (m d : Nat) (hB : Rd w' B m d (u8n (closed (ys.take (n - 36))))) => equal_any (some ⟨b, o, none⟩) B n m c d ys _ w' (hR.below hb) hB hx hzc)
  rw [decide_eq_false hne] at HQ
  have h36 : ¬ (n : Int) < 36 := by omega
  have g0 : (0 : Int) ≤ (n : Int) - 36 := by omega
  have g1 : (n : Int) - 36 ≤ (c : Int) := by omega
  have g2 : ((n : Int) - 36).toNat = n - 36 := by omega
  clear hT hR hn hne hzt hzc
  obtain ⟨zs, hzs⟩ : ∃ zs, zs = closed (ys.take (n - 36)) := ⟨_, rfl⟩
  rw [← hzs] at HS HQ
  clear hzs
  go_enter Tryd.func11, Tryd.ntmps11
  go_wp2_with fail
  refine (HS.out _ HL0.out).mono ?_
  rintro e w2 ⟨B, m, d, rfl, ho2, hb2⟩
  have HL2 := Lib.hid (HL0.out.trans (hb2.mono (by simp)))
  have HB2 := Lib.hid (HB0.out.below hb2)
  have HO2 := Lib.hid (Rd.own ho2)
  clear ho2 hb2 HL0 HB0
  go_wp2_with fail
  refine (HQ.out _ HL2.out B m d HO2.out).mono ?_
  rintro e w3 ⟨rfl, rfl⟩
  go_wp2_with (refine wpList_store_blk rfl 24 (.tmp 2) (.tmp 23) rfl w.heap.size rfl zeroI rfl HB2.out rfl size_image zero_one ?_; intro w11 hB11 ho11)
  have k0 := hB11.out.cell (i := 0) rfl
  have k1 := hB11.out.cell (i := 1) rfl
  have k2 := hB11.out.cell (i := 2) rfl
  have k3 := hB11.out.cell (i := 3) rfl
  have k4 := hB11.out.cell (i := 4) rfl
  have k5 := hB11.out.cell (i := 5) rfl
  have k6 := hB11.out.cell (i := 6) rfl
  have k7 := hB11.out.cell (i := 7) rfl
  refine bodyPost_ret (v := .tuple #[.agg #[.int .i64 0, .int .i64 0, .int .i64 0, .int .i64 0, .int .i64 0, .int .i64 0, .int .i64 0, .slice none 0 0], .int .i64 10]) (by simp [results, Tryd.results11, go_sem, k0, k1, k2, k3, k4, k5, k6, k7]) rfl ?_
  exact ⟨rfl, ho11.out.below HL2.out (Nat.le_refl _) HL2.out.size⟩
set_option maxRecDepth 100000 in
set_option maxHeartbeats 3200000 in
theorem get_cut (A : Option Addr) (n c : Nat) (zs : List Nat) (w : World) (hT : Tab w) (hR : Rd w A n c (u8n (closed zs))) (hz : by256 zs) (h2 : 2 ≤ zs.length) (hm : zs.length ≤ 1000) (ht : zs.take 2 = [76, 73])
    {v1 v2 v3 v4 v5 v6 v7 e1 e2 e3 e4 e5 e6 e7 e8 : Int} {x1 x2 x3 x4 x5 x6 x7 x8 cs : List Int}
    (r1 : TabR.rdN 1 (nl (zs.drop 2)) 0 = (v1, x1, e1)) (r2 : TabR.rdN 2 x1 e1 = (v2, x2, e2)) (r3 : TabR.rdN 2 x2 e2 = (v3, x3, e3)) (r4 : TabR.rdN 1 x3 e3 = (v4, x4, e4)) (r5 : TabR.rdN 1 x4 e4 = (v5, x5, e5)) (r6 : TabR.rdN 1 x5 e5 = (v6, x6, e6)) (r7 : TabR.rdN 1 x6 e6 = (v7, x7, e7)) (r8 : TxtR.rtx x7 e7 = (cs, x8, e8))
    (hen : TabR.endN x8 e8 = 1) : Calls Tryd.prog 11 #[.slice A n c] w (Gt w zeroV 1) := by
  have hn : (closed zs).length = n := Rd.nats hR
  rw [closed_len] at hn
  have hc := hR.le
  have hc2 := hR.cap
  obtain ⟨b, o, rfl, _, _⟩ := hR.2.2.2 (by omega)
  have HB0 := Lib.hid (own0 w)
  have HL0 := Lib.hid ((Below.refl w.heap.size w).alloc (Nat.le_refl _) (.cells #[.int .i64 0, .int .i64 0, .int .i64 0, .int .i64 0, .int .i64 0, .int .i64 0, .int .i64 0, .slice none 0 0] 24))
  have HN := Lib.hid hn
  have htk : (closed zs).take (n - 36) = zs := by
    unfold closed
    rw [List.append_assoc, List.take_left' (by omega)]
  have HZ := Lib.hid (show Rd w (some ⟨b, o, none⟩) (n - 36) c (u8n zs) from by have := hR.take (k := n - 36) (by omega); rw [show (u8n (closed zs)).take (n - 36) = u8n ((closed zs).take (n - 36)) from by simp [u8n]] at this; rwa [htk] at this)
  have HS := Lib.hid (fun w' (hb : Below w.heap.size w w') => sealed_any (some ⟨b, o, none⟩) (n - 36) c zs w' (hT.below hb hT.1) (HZ.out.below hb) hz (by omega))
  have HQ := Lib.hid (fun w' (hb : Below w.heap.size w w') (B : Option Addr) (m d : Nat) (hB : Rd w' B m d (u8n (closed zs))) => equal_any (some ⟨b, o, none⟩) B n m c d (closed zs) (closed zs) w' (hR.below hb) hB (closed_lt hz) (closed_lt hz))
  rw [decide_eq_true rfl] at HQ
  have HCY := Lib.hid (fun w' (hb : Below w.heap.size w w') (B : Option Addr) (d : Nat) (hP : Rd w' B 2 d (u8n [76, 73])) => cut_yes b o (n - 36) c B d zs w' (HZ.out.below hb) hz hP h2 ht)
  have hd8 : ∀ u ∈ nl (zs.drop 2), 0 ≤ u ∧ u ≤ 255 := by
    intro u hu
    simp only [nl, List.mem_map] at hu
    obtain ⟨q, hq, rfl⟩ := hu
    have := hz q (List.mem_of_mem_drop hq)
    omega
  have HRA := Lib.hid (fun w' (A : Option Addr) (m k : Nat) (h : Rd w' A m k (u8n (zs.drop 2))) => (hen ▸ read_any A m k (nl (zs.drop 2)) w' (by rw [← nl_u8s]; exact h) hd8 (by have := Rd.nats h; simp at this; omega) r1 r2 r3 r4 r5 r6 r7 r8))
  have h36 : ¬ (n : Int) < 36 := by omega
  have g0 : (0 : Int) ≤ (n : Int) - 36 := by omega
  have g1 : (n : Int) - 36 ≤ (c : Int) := by omega
  have g2 : ((n : Int) - 36).toNat = n - 36 := by omega
  have kc := fun (w : World) (C : Array Value) (n c : Nat) => Lib.run_convert_bytes_const (P := Tryd.prog) w 22 5 C n c Tryd.underlying22 Tryd.underlying5
  clear hT hR hn htk ht hz r1 r2 r3 r4 r5 r6 r7 r8 hd8
  go_enter Tryd.func11, Tryd.ntmps11
  go_wp2_with fail
  refine (HS.out _ HL0.out).mono ?_
  rintro e w2 ⟨B, m, d, rfl, ho2, hb2⟩
  have HL2 := Lib.hid (HL0.out.trans (hb2.mono (by simp)))
  have HB2 := Lib.hid (HB0.out.below hb2)
  have HO2 := Lib.hid (Rd.own ho2)
  clear ho2 hb2 HL0 HB0
  go_wp2_with fail
  refine (HQ.out _ HL2.out B m d HO2.out).mono ?_
  rintro e w3 ⟨rfl, rfl⟩
  go_wp2_with fail
  have HL3 := Lib.hid (HL2.out.alloc HL2.out.size (.cells #[.int .u8 76, .int .u8 73] 5 (2, 3)))
  have HB3 := Lib.hid (HB2.out.alloc (.cells #[.int .u8 76, .int .u8 73] 5 (2, 3)))
  refine (HCY.out _ HL3.out (some ⟨w2.heap.size, 0, none⟩) 2 (CrcD.Rd.cells w2 [76, 73] 5 (m := (2, 3)) rfl (by omega))).mono ?_
  rintro e w4 ⟨A4, m4, k4, rfl, hr4, rfl⟩
  have HR4 := Lib.hid hr4
  clear hr4
  go_wp2_with fail
  refine (HRA.out _ A4 m4 k4 HR4.out).mono ?_
  rintro e w5 ⟨B5, m5, d5, rfl, hr5, hb5, hq5⟩
  have HL5 := Lib.hid (HL3.out.trans (hb5.mono HL3.out.size))
  have HB5 := Lib.hid (HB3.out.below hb5)
  have HR5 := Lib.hid hr5
  have HN5 := Lib.hid (show 0 < m5 → ∀ b o, B5 = some ⟨b, o, none⟩ → ¬ b = w.heap.size from fun h b o hA hb => by have := hq5 h b o hA; have h3 := HB3.out.lt; omega)
  clear hr5 hb5 hq5 HR4 HL3 HB3 HO2
  have HL6 := Lib.hid (HL5.out.alloc HL5.out.size (.cells #[.int .i64 v1, .int .i64 v2, .int .i64 v3, .int .i64 v4, .int .i64 v5, .int .i64 v6, .int .i64 v7, .slice B5 m5 d5] 24))
  have HB6 := Lib.hid (HB5.out.alloc (.cells #[.int .i64 v1, .int .i64 v2, .int .i64 v3, .int .i64 v4, .int .i64 v5, .int .i64 v6, .int .i64 v7, .slice B5 m5 d5] 24))
  go_wp2_with (refine wpList_store_blk rfl 24 (.tmp 2) (.tmp 41) rfl w.heap.size rfl zeroI rfl HB6.out rfl size_image zero_one ?_; intro w11 hB11 ho11)
  have k0 := hB11.out.cell (i := 0) rfl
  have k1 := hB11.out.cell (i := 1) rfl
  have k2 := hB11.out.cell (i := 2) rfl
  have k3 := hB11.out.cell (i := 3) rfl
  have k4 := hB11.out.cell (i := 4) rfl
  have k5 := hB11.out.cell (i := 5) rfl
  have k6 := hB11.out.cell (i := 6) rfl
  have k7 := hB11.out.cell (i := 7) rfl
  refine bodyPost_ret (v := .tuple #[.agg #[.int .i64 0, .int .i64 0, .int .i64 0, .int .i64 0, .int .i64 0, .int .i64 0, .int .i64 0, .slice none 0 0], .int .i64 1]) (by simp [results, Tryd.results11, go_sem, k0, k1, k2, k3, k4, k5, k6, k7]) rfl ?_
  exact ⟨rfl, ho11.out.below HL6.out (Nat.le_refl _) HL6.out.size⟩
set_option maxRecDepth 100000 in
set_option maxHeartbeats 3200000 in
theorem get_ok (A : Option Addr) (n c : Nat) (zs : List Nat) (w : World) (hT : Tab w) (hR : Rd w A n c (u8n (closed zs))) (hz : by256 zs) (h2 : 2 ≤ zs.length) (hm : zs.length ≤ 1000) (ht : zs.take 2 = [76, 73])
    {v1 v2 v3 v4 v5 v6 v7 e1 e2 e3 e4 e5 e6 e7 e8 : Int} {x1 x2 x3 x4 x5 x6 x7 x8 cs : List Int}
    (r1 : TabR.rdN 1 (nl (zs.drop 2)) 0 = (v1, x1, e1)) (r2 : TabR.rdN 2 x1 e1 = (v2, x2, e2)) (r3 : TabR.rdN 2 x2 e2 = (v3, x3, e3)) (r4 : TabR.rdN 1 x3 e3 = (v4, x4, e4)) (r5 : TabR.rdN 1 x4 e4 = (v5, x5, e5)) (r6 : TabR.rdN 1 x5 e5 = (v6, x6, e6)) (r7 : TabR.rdN 1 x6 e6 = (v7, x7, e7)) (r8 : TxtR.rtx x7 e7 = (cs, x8, e8))
    (hen : TabR.endN x8 e8 = 0) {xs : List Nat} (hcs : cs = nl xs) (hri : ∀ A c, right ⟨v1, v2, v3, v4, v5, v6, v7, A, xs.length, c, xs⟩) (hxs : xs.length ≤ 96) : Calls Tryd.prog 11 #[.slice A n c] w fun e w' => ∃ B d, Gt w (Im.val ⟨v1, v2, v3, v4, v5, v6, v7, B, xs.length, d, xs⟩) 0 e w' ∧ Rd w' B xs.length d (u8n xs) := by
  have hn : (closed zs).length = n := Rd.nats hR
  rw [closed_len] at hn
  have hc := hR.le
  have hc2 := hR.cap
  obtain ⟨b, o, rfl, _, _⟩ := hR.2.2.2 (by omega)
  have HB0 := Lib.hid (own0 w)
  have HL0 := Lib.hid ((Below.refl w.heap.size w).alloc (Nat.le_refl _) (.cells #[.int .i64 0, .int .i64 0, .int .i64 0, .int .i64 0, .int .i64 0, .int .i64 0, .int .i64 0, .slice none 0 0] 24))
  have HN := Lib.hid hn
  have htk : (closed zs).take (n - 36) = zs := by
    unfold closed
    rw [List.append_assoc, List.take_left' (by omega)]
  have HZ := Lib.hid (show Rd w (some ⟨b, o, none⟩) (n - 36) c (u8n zs) from by have := hR.take (k := n - 36) (by omega); rw [show (u8n (closed zs)).take (n - 36) = u8n ((closed zs).take (n - 36)) from by simp [u8n]] at this; rwa [htk] at this)
  have HS := Lib.hid (fun w' (hb : Below w.heap.size w w') => sealed_any (some ⟨b, o, none⟩) (n - 36) c zs w' (hT.below hb hT.1) (HZ.out.below hb) hz (by omega))
  have HQ := Lib.hid (fun w' (hb : Below w.heap.size w w') (B : Option Addr) (m d : Nat) (hB : Rd w' B m d (u8n (closed zs))) => equal_any (some ⟨b, o, none⟩) B n m c d (closed zs) (closed zs) w' (hR.below hb) hB (closed_lt hz) (closed_lt hz))
  rw [decide_eq_true rfl] at HQ
  have HCY := Lib.hid (fun w' (hb : Below w.heap.size w w') (B : Option Addr) (d : Nat) (hP : Rd w' B 2 d (u8n [76, 73])) => cut_yes b o (n - 36) c B d zs w' (HZ.out.below hb) hz hP h2 ht)
  have hd8 : ∀ u ∈ nl (zs.drop 2), 0 ≤ u ∧ u ≤ 255 := by
    intro u hu
    simp only [nl, List.mem_map] at hu
    obtain ⟨q, hq, rfl⟩ := hu
    have := hz q (List.mem_of_mem_drop hq)
    omega
  have HRA := Lib.hid (fun w' (A : Option Addr) (m k : Nat) (h : Rd w' A m k (u8n (zs.drop 2))) => (hen ▸ read_any A m k (nl (zs.drop 2)) w' (by rw [← nl_u8s]; exact h) hd8 (by have := Rd.nats h; simp at this; omega) r1 r2 r3 r4 r5 r6 r7 r8))
  have HRI := Lib.hid hri
  have h36 : ¬ (n : Int) < 36 := by omega
  have g0 : (0 : Int) ≤ (n : Int) - 36 := by omega
  have g1 : (n : Int) - 36 ≤ (c : Int) := by omega
  have g2 : ((n : Int) - 36).toNat = n - 36 := by omega
  have kc := fun (w : World) (C : Array Value) (n c : Nat) => Lib.run_convert_bytes_const (P := Tryd.prog) w 22 5 C n c Tryd.underlying22 Tryd.underlying5
  clear hT hR hn htk ht hz r1 r2 r3 r4 r5 r6 r7 r8 hd8 hri
  go_enter Tryd.func11, Tryd.ntmps11
  go_wp2_with fail
  refine (HS.out _ HL0.out).mono ?_
  rintro e w2 ⟨B, m, d, rfl, ho2, hb2⟩
  have HL2 := Lib.hid (HL0.out.trans (hb2.mono (by simp)))
  have HB2 := Lib.hid (HB0.out.below hb2)
  have HO2 := Lib.hid (Rd.own ho2)
  clear ho2 hb2 HL0 HB0
  go_wp2_with fail
  refine (HQ.out _ HL2.out B m d HO2.out).mono ?_
  rintro e w3 ⟨rfl, rfl⟩
  go_wp2_with fail
  have HL3 := Lib.hid (HL2.out.alloc HL2.out.size (.cells #[.int .u8 76, .int .u8 73] 5 (2, 3)))
  have HB3 := Lib.hid (HB2.out.alloc (.cells #[.int .u8 76, .int .u8 73] 5 (2, 3)))
  refine (HCY.out _ HL3.out (some ⟨w2.heap.size, 0, none⟩) 2 (CrcD.Rd.cells w2 [76, 73] 5 (m := (2, 3)) rfl (by omega))).mono ?_
  rintro e w4 ⟨A4, m4, k4, rfl, hr4, rfl⟩
  have HR4 := Lib.hid hr4
  clear hr4
  go_wp2_with fail
  refine (HRA.out _ A4 m4 k4 HR4.out).mono ?_
  rintro e w5 ⟨B5, m5, d5, rfl, hr5, hb5, hq5⟩
  have HL5 := Lib.hid (HL3.out.trans (hb5.mono HL3.out.size))
  have HB5 := Lib.hid (HB3.out.below hb5)
  have HR5 := Lib.hid hr5
  have HN5 := Lib.hid (show 0 < m5 → ∀ b o, B5 = some ⟨b, o, none⟩ → ¬ b = w.heap.size from fun h b o hA hb => by have := hq5 h b o hA; have h3 := HB3.out.lt; omega)
  clear hr5 hb5 hq5 HR4 HL3 HB3 HO2
  have hr5 := HR5.out
  rw [hcs, ← nl_u8s] at hr5
  obtain rfl : xs.length = m5 := Rd.nats hr5
  replace HR5 := Lib.hid hr5
  have HG := Lib.hid (fun w' => right_any ⟨v1, v2, v3, v4, v5, v6, v7, B5, xs.length, d5, xs⟩ w' (by show xs.length ≤ _; omega) true (by simpa using HRI.out B5 d5))
  clear hr5 HRI hcs
  go_wp2_with fail
  have HX6 := Lib.hid (Blk.new w5 24 [.int .i64 v1, .int .i64 v2, .int .i64 v3, .int .i64 v4, .int .i64 v5, .int .i64 v6, .int .i64 v7, .slice B5 xs.length d5])
  have HL6 := Lib.hid (HL5.out.alloc HL5.out.size (.cells #[.int .i64 v1, .int .i64 v2, .int .i64 v3, .int .i64 v4, .int .i64 v5, .int .i64 v6, .int .i64 v7, .slice B5 xs.length d5] 24))
  have HB6 := Lib.hid (HB5.out.alloc (.cells #[.int .i64 v1, .int .i64 v2, .int .i64 v3, .int .i64 v4, .int .i64 v5, .int .i64 v6, .int .i64 v7, .slice B5 xs.length d5] 24))
  have HR6 := Lib.hid (HR5.out.alloc (.cells #[.int .i64 v1, .int .i64 v2, .int .i64 v3, .int .i64 v4, .int .i64 v5, .int .i64 v6, .int .i64 v7, .slice B5 xs.length d5] 24))
  obtain ⟨w6, hw6⟩ : ∃ w6, w6 = w5.alloc (.cells #[.int .i64 v1, .int .i64 v2, .int .i64 v3, .int .i64 v4, .int .i64 v5, .int .i64 v6, .int .i64 v7, .slice B5 xs.length d5] 24) := ⟨_, rfl⟩
  replace HX6 := Lib.hid (show Blk w6 w5.heap.size 24 [.int .i64 v1, .int .i64 v2, .int .i64 v3, .int .i64 v4, .int .i64 v5, .int .i64 v6, .int .i64 v7, .slice B5 xs.length d5] from by rw [hw6]; exact HX6.out)
  rw [← hw6] at HL6 HB6 HR6 ⊢
  clear hw6
  refine (HG.out _).mono ?_
  rintro e w7 ⟨rfl, hb7⟩
  have HX7 := Lib.hid (HX6.out.below hb7)
  have HL7 := Lib.hid (HL6.out.trans (hb7.mono HL6.out.size))
  have HB7 := Lib.hid (HB6.out.below hb7)
  have HR7 := Lib.hid (HR6.out.below hb7)
  clear hb7 HX6 HL6 HB6 HR6
  have y0 := HX7.out.cell (i := 0) rfl
  have y1 := HX7.out.cell (i := 1) rfl
  have y2 := HX7.out.cell (i := 2) rfl
  have y3 := HX7.out.cell (i := 3) rfl
  have y4 := HX7.out.cell (i := 4) rfl
  have y5 := HX7.out.cell (i := 5) rfl
  have y6 := HX7.out.cell (i := 6) rfl
  have y7 := HX7.out.cell (i := 7) rfl
  go_wp2_with (refine wpList_store_blk rfl 24 (.tmp 2) (.tmp 47) rfl w.heap.size rfl [.int .i64 v1, .int .i64 v2, .int .i64 v3, .int .i64 v4, .int .i64 v5, .int .i64 v6, .int .i64 v7, .slice B5 xs.length d5] rfl HB7.out rfl size_image (by intro u hu; simp at hu; rcases hu with rfl | rfl | rfl | rfl | rfl | rfl | rfl | rfl <;> rfl) ?_; intro w11 hB11 ho11)
  have k0 := hB11.out.cell (i := 0) rfl
  have k1 := hB11.out.cell (i := 1) rfl
  have k2 := hB11.out.cell (i := 2) rfl
  have k3 := hB11.out.cell (i := 3) rfl
  have k4 := hB11.out.cell (i := 4) rfl
  have k5 := hB11.out.cell (i := 5) rfl
  have k6 := hB11.out.cell (i := 6) rfl
  have k7 := hB11.out.cell (i := 7) rfl
  refine bodyPost_ret (v := .tuple #[.agg #[.int .i64 v1, .int .i64 v2, .int .i64 v3, .int .i64 v4, .int .i64 v5, .int .i64 v6, .int .i64 v7, .slice B5 xs.length d5], .int .i64 0]) (by simp [results, Tryd.results11, go_sem, k0, k1, k2, k3, k4, k5, k6, k7]) rfl ?_
  have kp : Keep (fun i => i = w.heap.size) w7 w11 := Keep.only ho11.out rfl
  exact ⟨B5, d5, ⟨rfl, ho11.out.below HL7.out (Nat.le_refl _) HL7.out.size⟩, kp.rd HR7.out (fun h b o hA hk => HN5.out h b o hA hk)⟩
end Go.Proofs.YtlghojnlnfkdhaaDoor.ImgG
