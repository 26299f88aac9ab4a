/- The digest's bytes out of the words. Conditions: each word is one of 32 bits. -/
import Derived.Test.YtlghojnlnfkdhaaDoorShaE
namespace Go.Proofs.YtlghojnlnfkdhaaDoor.ShaF
open Go.RowKit Go.Proofs.YtlghojnlnfkdhaaDoor.Kit Go.Proofs.YtlghojnlnfkdhaaDoor.Byt Go.Proofs.YtlghojnlnfkdhaaDoor.ShaM Go.Proofs.YtlghojnlnfkdhaaDoor.ShaA Go.Proofs.YtlghojnlnfkdhaaDoor.ShaB Go.Proofs.YtlghojnlnfkdhaaDoor.ShaC Go.Proofs.YtlghojnlnfkdhaaDoor.ShaK Go.Proofs.YtlghojnlnfkdhaaDoor.ShaD Go.Proofs.YtlghojnlnfkdhaaDoor.ShaE

theorem zero32 (w : World) : (zeroValue 32).run Tryd.prog w = .ok (.agg (u8n (List.replicate 32 0)).toArray) w := by kernel_rfl
theorem size_w32 : (Tryd.prog.info? 32).map (·.size) = some 32 := by kernel_rfl
theorem size_u32 : (Tryd.prog.info? 69).map (·.size) = some 1 := by kernel_rfl
theorem u8n_set (xs : List Nat) (k y : Nat) : (u8n xs).set k (.int .u8 (y : Int)) = u8n (xs.set k y) := by simp [u8n, List.map_set]
/-- The bytes when those of the first k words are laid. -/
def out (v : W8) (k : Nat) : List Nat := (v.list.take k).flatMap by4 ++ List.replicate (32 - 4 * k) 0
theorem flat4 (l : List Nat) : (l.flatMap by4).length = 4 * l.length := by
  induction l with
  | nil => rfl
  | cons a l ih =>
    rw [List.flatMap_cons, List.length_append, ih, List.length_cons]
    show 4 + 4 * l.length = 4 * (l.length + 1)
    omega
theorem out_len {v : W8} {k : Nat} (h : k ≤ 8) : (out v k).length = 32 := by
  have : (v.list.take k).length = k := by simp [W8.list]; omega
  rw [out, List.length_append, flat4, this, List.length_replicate]; omega
theorem set4 (p : List Nat) (n y0 y1 y2 y3 : Nat) : ((((p ++ List.replicate (n + 4) 0).set p.length y0).set (p.length + 1) y1).set (p.length + 2) y2).set (p.length + 3) y3 = p ++ [y0, y1, y2, y3] ++ List.replicate n 0 := by
  have e : List.replicate (n + 4) (0 : Nat) = 0 :: 0 :: 0 :: 0 :: List.replicate n 0 := by simp [List.replicate_succ]
  rw [e]
  simp [List.set_append]
theorem out_set {v : W8} {k : Nat} (h : k < 8) {y0 y1 y2 y3 : Nat} (hy : [y0, y1, y2, y3] = by4 (v.list.getD k 0)) : ((((out v k).set (4 * k) y0).set (4 * k + 1) y1).set (4 * k + 2) y2).set (4 * k + 3) y3 = out v (k + 1) := by
  have hl : v.list.length = 8 := rfl
  have h1 : ((v.list.take k).flatMap by4).length = 4 * k := by rw [flat4]; simp [hl]; omega
  have e : 32 - 4 * k = (32 - 4 * (k + 1)) + 4 := by omega
  have h2 : v.list.take (k + 1) = v.list.take k ++ [v.list.getD k 0] := by
    rw [List.take_succ_eq_append_getElem (by omega), List.getD_eq_getElem?_getD, List.getElem?_eq_getElem (by omega)]
    rfl
  unfold out
  rw [e, ← h1, set4, h2, List.flatMap_append, hy]
  simp
theorem out_set4 (v : W8) {k : Nat} (h : k < 8) : ((((out v k).set (4 * k) (v.list.getD k 0 / 16777216 % 256)).set (4 * k + 1) (v.list.getD k 0 / 65536 % 256)).set (4 * k + 2) (v.list.getD k 0 / 256 % 256)).set (4 * k + 3) (v.list.getD k 0 % 256) = out v (k + 1) := out_set h rfl
theorem out_all (v : W8) : out v 8 = bys v := by simp [out, bys, W8.list]

/-- What the loop keeps. -/
def Kept3 (w : World) (v : W8) (k : Nat) (wr : World) : Prop :=
  Blk wr (w.heap.size + 1) 32 (u8n (List.replicate 32 0)) ∧ Blk wr (w.heap.size + 1 + 1) 32 (u8n (out v k)) ∧ Below w.heap.size w wr
theorem begin3 (w : World) (v : W8) {Z : Array Value} (hZ : Z = (u8n (List.replicate 32 0)).toArray) :
    Kept3 w v 0 (((w.alloc (.cells (ws v) 73)).alloc (.cells Z 32)).alloc (.cells Z 32)) := by
  subst hZ
  exact ⟨alloc_old (heap_alloc_at (by simp)), heap_alloc_at (by simp), (((Below.refl _ _).alloc (Nat.le_refl _) _).alloc (by simp) _).alloc (by simp; omega) _⟩

set_option maxRecDepth 100000 in
set_option maxHeartbeats 1600000 in
theorem bytes_any (v : W8) (w : World) (hv : v.ok) : Calls Tryd.prog 60 #[.agg (ws v)] w fun e w' => e = .returned (.agg (u8n (bys v)).toArray) ∧ Below w.heap.size w w' := by
  have hz := zero32
  obtain ⟨Z, hZ⟩ : ∃ Z : Array Value, Z = (u8n (List.replicate 32 0)).toArray := ⟨_, rfl⟩
  simp only [← hZ] at hz
  have H0 : Hid (Kept3 w v 0 _) := Lib.hid (begin3 w v hZ)
  have hia := fun (k : Nat) (hk : k < 8) => run_index_one (P := Tryd.prog) (k := k) (xs := wl v) (v := .int .u32 (v.list.getD k 0 : Nat)) Tryd.underlying103 ⟨_, Tryd.underlying69⟩ size_u32 hk (by rw [wl, u32n, List.getElem?_map, List.getElem?_eq_getElem (show k < v.list.length from hk)]; simp [List.getD_eq_getElem?_getD, List.getElem?_eq_getElem (show k < v.list.length from hk)])
  have HI := Lib.hid hia
  have hlt8 : ∀ k : Nat, v.list.getD k 0 < 4294967296 := by
    intro k
    obtain ⟨ha, hb, hc, hd, he, hf, hg, hh⟩ := hv
    match k with
    | 0 => exact ha
    | 1 => exact hb
    | 2 => exact hc
    | 3 => exact hd
    | 4 => exact he
    | 5 => exact hf
    | 6 => exact hg
    | 7 => exact hh
    | n + 8 => simp [W8.list]
  clear hZ hia
  obtain ⟨Y, hY⟩ : ∃ Y : Array Value, Y = (u8n (bys v)).toArray := ⟨_, rfl⟩
  rw [← hY]
  have hi := Lib.hid (show (Tryd.prog.info? 32).map (·.size) = some (u8n (out v 8)).length by rw [u8n_len, out_len (by omega)]; exact size_w32)
  have HY : Hid (Y = (u8n (out v 8)).toArray) := Lib.hid (by rw [hY, out_all])
  rw [wl_ws] at HI
  clear hY
  unfold ws at *
  obtain ⟨a, b, c, d, e, f, g, h⟩ := v
  go_enter Tryd.func60, Tryd.ntmps60
  go_wp2
  clear hz
  go_loopw [23, 4, 5] (fun i _ _ wr => ∃ k : Nat, k ≤ 8 ∧ i = .int .i64 k ∧ Hid (Kept3 w ⟨a, b, c, d, e, f, g, h⟩ k wr)) (fun i _ _ _ => 8 - (intOf i).toNat)
  case atStart => exact ⟨0, by omega, rfl, H0⟩
  case round =>
    obtain ⟨k, hk, rfl, hT⟩ := hrel
    clear H0
    by_cases hlt : k < 8
    · obtain ⟨B1, B2, hbel⟩ := hT.out
      have c0 := B2.byte (i := 4 * k) (by rw [out_len (by omega)]; omega)
      have c1 := B2.byte (i := 4 * k + 1) (by rw [out_len (by omega)]; omega)
      have c2 := B2.byte (i := 4 * k + 2) (by rw [out_len (by omega)]; omega)
      have c3 := B2.byte (i := 4 * k + 3) (by rw [out_len (by omega)]; omega)
      have f0 := B2.frozen (4 * k)
      have f1 := B2.frozen (4 * k + 1)
      have f2 := B2.frozen (4 * k + 2)
      have f3 := B2.frozen (4 * k + 3)
      have hix := HI.out k hlt
      have hnl := hlt8 k
      have hS4 := Lib.hid (out_set4 ⟨a, b, c, d, e, f, g, h⟩ hlt)
      have hB := Lib.hid (And.intro B1 (And.intro B2 hbel))
      clear B1 B2 hbel hT
      generalize (W8.mk a b c d e f g h).list.getD k 0 = n at *
      go_wp2
      go_roundw
      case rel =>
        refine ⟨k + 1, by omega, by go_num, Lib.hid ?_⟩
        obtain ⟨B1, B2, hbel⟩ := hB.out
        have e0 : (n : Int) / 16777216 = ((n / 16777216 % 256 : Nat) : Int) := by omega
        have e1 : (n : Int) / 65536 % 256 = ((n / 65536 % 256 : Nat) : Int) := by omega
        have e2 : (n : Int) / 256 % 256 = ((n / 256 % 256 : Nat) : Int) := by omega
        have e3 : (n : Int) % 256 = ((n % 256 : Nat) : Int) := by omega
        rw [e0, e1, e2, e3]
        refine ⟨(((B1.far (by simp) _).far (by simp) _).far (by simp) _).far (by simp) _, ?_, (((hbel.setCell (by simp; omega) _).setCell (by simp; omega) _).setCell (by simp; omega) _).setCell (by simp; omega) _⟩
        have h5 := (((B2.set (4 * k) (.int .u8 ((n / 16777216 % 256 : Nat) : Int))).set (4 * k + 1) (.int .u8 ((n / 65536 % 256 : Nat) : Int))).set (4 * k + 2) (.int .u8 ((n / 256 % 256 : Nat) : Int))).set (4 * k + 3) (.int .u8 ((n % 256 : Nat) : Int))
        rw [u8n_set, u8n_set, u8n_set, u8n_set, hS4.out] at h5
        exact h5
      case measure => simp [intOf]; omega
    · obtain rfl : k = 8 := by omega
      obtain ⟨B1', B2', hbel⟩ := hT.out
      have B1 := Lib.hid B1'
      have B2 := Lib.hid B2'
      have hsz := hbel.size
      clear B1' B2' hT hlt8
      have hl8 := Lib.hid (out_len (v := ⟨a, b, c, d, e, f, g, h⟩) (k := 8) (by omega))
      generalize out ⟨a, b, c, d, e, f, g, h⟩ 8 = O at *
      go_wp2_with (first
       | (refine wpList_load_blk rfl 32 (.tmp 3) rfl (w.heap.size + 1 + 1) rfl B2.out Tryd.underlying32 rfl hi.out ?_)
       | (refine wpList_store_blk rfl 32 (.tmp 2) (.tmp 54) rfl (w.heap.size + 1) rfl (u8n O) rfl B1.out (by rw [u8n_len, u8n_len, hl8.out, List.length_replicate]) hi.out (u8n_one _) ?_; intro w3 hB3 ho3))
      exact ret_row Tryd.results60 rfl rfl hB3.out Tryd.underlying32 rfl (by simpa using hi.out) ⟨by rw [HY.out], ho3.out.below hbel (by omega) (by omega)⟩

end Go.Proofs.YtlghojnlnfkdhaaDoor.ShaF
