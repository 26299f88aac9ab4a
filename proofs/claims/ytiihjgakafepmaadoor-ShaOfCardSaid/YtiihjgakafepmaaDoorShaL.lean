/- The digest of bytes at once; the document's example. Conditions: the rounds' own numbers lie in the variable, less than 2^39 bytes are written. -/
import Derived.Test.YtiihjgakafepmaaDoorShaJ
import Derived.Test.YtiihjgakafepmaaDoorSame
namespace Go.Proofs.YtiihjgakafepmaaDoor.ShaL
open Go.RowKit Go.Proofs.YtiihjgakafepmaaDoor.Kit Go.Proofs.YtiihjgakafepmaaDoor.Byt Go.Proofs.YtiihjgakafepmaaDoor.ShaM Go.Proofs.YtiihjgakafepmaaDoor.ShaA Go.Proofs.YtiihjgakafepmaaDoor.ShaB Go.Proofs.YtiihjgakafepmaaDoor.ShaC Go.Proofs.YtiihjgakafepmaaDoor.ShaK Go.Proofs.YtiihjgakafepmaaDoor.ShaD Go.Proofs.YtiihjgakafepmaaDoor.ShaE Go.Proofs.YtiihjgakafepmaaDoor.ShaF Go.Proofs.YtiihjgakafepmaaDoor.ShaG Go.Proofs.YtiihjgakafepmaaDoor.ShaH Go.Proofs.YtiihjgakafepmaaDoor.ShaI Go.Proofs.YtiihjgakafepmaaDoor.ShaJ Go.Proofs.YtiihjgakafepmaaDoor.Same

theorem src_of {w w' : World} {g n c : Nat} {A : Option Addr} {xs : List Nat} (h : Rd w A n c (u8n xs)) (hg : w.heap.size ≤ g) (hb : Below w.heap.size w w') : Src w' g A n c xs :=
  ⟨h.below hb, fun hn b o hA => by
    obtain ⟨b', o', hA', hlt, _⟩ := h.2.2.2 hn
    rw [hA] at hA'
    injection hA' with hA'
    injection hA' with hb'
    omega⟩
set_option maxRecDepth 100000 in
set_option maxHeartbeats 1600000 in
theorem of_any (A : Option Addr) (n c : Nat) (xs : List Nat) (w : World) (hT : Tab w) (hR : Rd w A n c (u8n xs)) (hx : by256 xs) (hbd : xs.length < 549755813888) :
    Calls Tryd.prog 5 #[.slice A n c] w fun e w' => e = .returned (.agg (u8n (dig xs)).toArray) ∧ Below w.heap.size w w' := by
  have HT := Lib.hid hT
  have HR := Lib.hid hR
  have hz32 := zero32
  obtain ⟨Z2, hZ2⟩ : ∃ Z2 : Array Value, Z2 = (u8n (List.replicate 32 0)).toArray := ⟨_, rfl⟩
  simp only [← hZ2] at hz32
  have HZ2 := Lib.hid hZ2
  clear hZ2 hT hR
  have h0 : 0 < w.heap.size := HT.out.1
  go_enter Tryd.func5, Tryd.ntmps5
  go_wp2_with fail
  have hR0 := Lib.hid (Blk_at (w := w) (n := w.heap.size) (t := 24) HZ2.out rfl)
  have hb0 : Below w.heap.size w (w.alloc (.cells Z2 24)) := (Below.refl _ _).alloc (Nat.le_refl _) _
  have hs0 : w.heap.size < (w.alloc (.cells Z2 24)).heap.size := by simp
  generalize w.alloc (.cells Z2 24) = w0 at *
  refine (new_any w0).mono ?_
  rintro e w1 ⟨g, rfl, hg, hH, hb1⟩
  have hb1' := hb0.trans (hb1.mono hb0.size)
  go_wp2_with fail
  refine (write_any g A n c xs [] w1 (HT.out.below hb1' h0) (by omega) hH (src_of HR.out (by omega) hb1') hx (by simp; omega)).mono ?_
  rintro e w2 ⟨rfl, hH2, hg2⟩
  rw [List.nil_append] at hH2
  have hb2 := hb1'.grown hg2 hb1'.size (fun k hk => by injection hk with hk; omega)
  have hR2 := Lib.hid (show Blk w2 w.heap.size 24 (u8n (List.replicate 32 0)) from (hg2.block w.heap.size (by have := hb1.size; omega) (by simp; omega)).trans (hR0.out.below (hb1.mono (Nat.le_refl _))))
  have hsum := fun (h : True) => sum_any g xs w2 (HT.out.below hb2 h0) hH2 hx hbd
  have HS := Lib.hid hsum
  have hs2 := hb2.size
  clear hsum hg2 hH2 hR0
  go_wp2_with (first
   | (go_at_call 11; refine (HS.out trivial).mono ?_; rintro e w3 ⟨rfl, hb3⟩)
   | (refine wpList_store_blk rfl 24 (.tmp 2) (.tmp 9) rfl w.heap.size rfl (u8n (dig xs)) rfl (hR2.out.below hb3) (by rw [u8n_len, u8n_len, dig_len, List.length_replicate]) (by rw [u8n_len, dig_len]; exact size_w32) (u8n_one _) ?_; intro w7 hB7 ho7))
  exact ret_row Tryd.results5 rfl rfl hB7.out Tryd.underlying24 rfl (by rw [List.size_toArray, u8n_len, dig_len]; exact size_w32) ⟨rfl, ho7.out.below (hb2.trans (hb3.mono hb2.size)) (Nat.le_refl _) (by have := hb3.size; omega)⟩

theorem of_abc (w : World) (m : Nat × Nat) (hT : Tab w) :
    Calls Tryd.prog 5 #[.slice (some ⟨w.heap.size, 0, none⟩) 3 3] (w.alloc (.cells #[.int .u8 97, .int .u8 98, .int .u8 99] 5 m)) fun e w' => e = .returned (.agg (u8n (dig [97, 98, 99])).toArray) ∧ Below (w.heap.size + 1) (w.alloc (.cells #[.int .u8 97, .int .u8 98, .int .u8 99] 5 m)) w' := by
  have h := of_any (some ⟨w.heap.size, 0, none⟩) 3 3 [97, 98, 99] _ (hT.below ((Below.refl w.heap.size w).alloc (Nat.le_refl _) _) hT.1) (Rd.cells w [97, 98, 99] 5 (m := m) rfl (by omega)) (by intro c hc; simp at hc; omega) (by decide)
  refine h.mono fun e w' h => ⟨h.1, ?_⟩
  have h2 := h.2
  have e : ∀ o : Obj, (w.alloc o).heap.size = w.heap.size + 1 := fun o => by simp
  rw [e] at h2
  exact h2
theorem Rd.of_blk {w : World} {g k n : Nat} {t : TypeId} {xs : List Nat} (hB : Blk w g t (u8n xs)) (hn : xs.length = n) (hk : k ≤ n) (h63 : n ≤ 9223372036854775807) : Rd w (some ⟨g, 0, none⟩) k n (u8n (xs.take k)) := by
  refine ⟨by rw [u8n_len]; simp; omega, hk, h63, fun _ => ⟨g, 0, rfl, hB.lt, fun j u hu => ?_⟩⟩
  rw [Nat.zero_add]
  refine hB.cell ?_
  have e : u8n (xs.take k) = (u8n xs).take k := by simp [u8n]
  rw [e, List.getElem?_take] at hu
  split at hu
  · exact hu
  · cases hu

set_option maxRecDepth 100000 in
set_option maxHeartbeats 800000 in
theorem wakes_any (w : World) (hT : Tab w) : Calls Tryd.prog 4 #[] w fun e w' => e = .returned (.bool true) ∧ Below w.heap.size w w' := by
  have kc := fun (w : World) (C : Array Value) (n c : Nat) => Lib.run_convert_bytes_const (P := Tryd.prog) w 22 5 C n c Tryd.underlying22 Tryd.underlying5
  have HT := Lib.hid hT
  have hz32 := zero32
  obtain ⟨Z2, hZ2⟩ : ∃ Z2 : Array Value, Z2 = (u8n (List.replicate 32 0)).toArray := ⟨_, rfl⟩
  simp only [← hZ2] at hz32
  have HZ2 := Lib.hid hZ2
  obtain ⟨D, hD⟩ : ∃ D : List Nat, D = dig [97, 98, 99] := ⟨_, rfl⟩
  have hdl : D.length = 32 := by rw [hD, dig_len]
  have hd4 : Hid (D.take 4 = [0xba, 0x78, 0x16, 0xbf]) := Lib.hid (by rw [hD, dig_abc])
  have hof := fun (w : World) (m : Nat × Nat) (h : Tab w) => of_abc w m h
  rw [← hD] at hof
  clear hZ2 hT hD
  go_enter Tryd.func4, Tryd.ntmps4
  go_wp2_with (first
   | (go_at_call 5; refine (hof _ _ HT.out).mono ?_; rintro e w1 ⟨rfl, hb1⟩; have hb1' := ((Below.refl w.heap.size w).alloc (Nat.le_refl _) (.cells #[.int .u8 97, .int .u8 98, .int .u8 99] 5 (3, 4))).trans (hb1.mono (Nat.le_succ _)); have hs1 := hb1'.size)
   | (refine wpList_store_blk rfl 24 (.tmp 1) (.tmp 4) rfl w1.heap.size rfl (u8n D) rfl (Blk_at HZ2.out rfl) (by rw [u8n_len, u8n_len, hdl, List.length_replicate]) (by rw [u8n_len, hdl]; exact size_w32) (u8n_one _) ?_; intro w2 hB2 ho2; have hb2 := ho2.out.below (hb1'.alloc hb1'.size _) hb1'.size (by simp; omega); have hRd := Lib.hid (Rd.of_blk (k := 4) hB2.out hdl (by omega) (by omega)); rw [hd4.out] at hRd))
  have hy := Rd.cells w2 [0xba, 0x78, 0x16, 0xbf] 5 (m := (0, 0)) (n := 4) rfl (by omega)
  refine (same_n (hRd.out.alloc _) hy).mono ?_
  rintro e w3 ⟨rfl, nq, rfl⟩
  go_wp2
  go_ret
  exact ⟨by simp, below_drewN (hb2.alloc hb2.size _) nq⟩

end Go.Proofs.YtiihjgakafepmaaDoor.ShaL
