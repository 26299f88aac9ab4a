/- The words behind a block. Conditions: the rounds' own numbers lie in the variable, each word is one of 32 bits, the block has 64 bytes. -/
import Derived.Test.YtlghojnlnfkdhaaDoorShaD
namespace Go.Proofs.YtlghojnlnfkdhaaDoor.ShaE
open Go.RowKit Go.Proofs.YtlghojnlnfkdhaaDoor.Kit Go.Proofs.YtlghojnlnfkdhaaDoor.Byt Go.Proofs.YtlghojnlnfkdhaaDoor.ShaM Go.Proofs.YtlghojnlnfkdhaaDoor.ShaA Go.Proofs.YtlghojnlnfkdhaaDoor.ShaB Go.Proofs.YtlghojnlnfkdhaaDoor.ShaC Go.Proofs.YtlghojnlnfkdhaaDoor.ShaK Go.Proofs.YtlghojnlnfkdhaaDoor.ShaD

/-- The variable holds the rounds' own numbers. -/
def Tab (w : World) : Prop := 0 < w.heap.size ∧ ∀ i, i < 64 → w.cell? ⟨0, i, none⟩ = some (.int .u32 (KT.getD i 0 : Nat))
theorem Tab.below {B : Nat} {w w' : World} (h : Tab w) (hb : Below B w w') (hB : 0 < B) : Tab w' :=
  ⟨by have := h.1; have := hb.size; omega, fun i hi => (hb.cell (p := ⟨0, i, none⟩) hB).trans (h.2 i hi)⟩
/-- The words as a list of cells. -/
def wl (v : W8) : List Value := u32n v.list
theorem wl_ws (v : W8) : (wl v).toArray = ws v := rfl
theorem wl_len (v : W8) : (wl v).length = 8 := rfl
theorem KT_at (k : Nat) : KT.getD k 0 < 4294967296 := by
  rw [List.getD_eq_getElem?_getD]
  by_cases hk : k < KT.length
  · rw [List.getElem?_eq_getElem hk]
    exact KT_lt hk
  · rw [List.getElem?_eq_none (by omega)]
    decide
theorem size_u32 : (Tryd.prog.info? 69).map (·.size) = some 1 := by kernel_rfl
/-- What the rounds keep. -/
def Kept2 (w : World) (v : W8) (s : List Nat) (k : Nat) (wr : World) : Prop :=
  Blk wr w.heap.size 73 (wl v) ∧ Blk wr (w.heap.size + 1 + 1) 73 (wl ⟨0, 0, 0, 0, 0, 0, 0, 0⟩) ∧ Blk wr (w.heap.size + 1 + 1 + 1) 73 (wl (rds v s k)) ∧ Below w.heap.size w wr
theorem size_block : (Tryd.prog.info? 76).map (·.size) = some 64 := by kernel_rfl

theorem Blk_at {w : World} {n : Nat} {t : TypeId} {B : Array Value} {xs : List Value} (hB : B = xs.toArray) (h : n = w.heap.size) : Blk (w.alloc (.cells B t)) n t xs := by
  subst hB
  exact heap_alloc_at h
theorem begin4 {w w1 : World} {v : W8} {s : List Nat} {B : Array Value} (hb : Below ((((w.alloc (.cells (ws v) 73)).alloc (.cells B 76)).alloc (.cells (ws ⟨0, 0, 0, 0, 0, 0, 0, 0⟩) 73)).alloc (.cells (ws v) 73)).heap.size
    ((((w.alloc (.cells (ws v) 73)).alloc (.cells B 76)).alloc (.cells (ws ⟨0, 0, 0, 0, 0, 0, 0, 0⟩) 73)).alloc (.cells (ws v) 73)) w1) : Kept2 w v s 0 w1 := by
  refine ⟨Blk.below ?_ hb, Blk.below ?_ hb, Blk.below ?_ hb, (((((Below.refl _ _).alloc (Nat.le_refl _) _).alloc (by simp) _).alloc (by simp; omega) _).alloc (by simp; omega) _).trans (hb.mono (by simp; omega))⟩
  · exact alloc_old (alloc_old (alloc_old (heap_alloc_new w _)))
  · exact alloc_old (heap_alloc_at (by simp))
  · exact heap_alloc_at (by simp)
theorem rnd_mod (v : W8) (n : Nat) : rnd v (n % 4294967296) = rnd v n := by
  have h1 : (n % 4294967296 + low v + high v) % 4294967296 = (n + low v + high v) % 4294967296 := by omega
  have h2 : (v.d + (n % 4294967296 + low v)) % 4294967296 = (v.d + (n + low v)) % 4294967296 := by omega
  unfold rnd
  rw [h1, h2]

set_option maxRecDepth 100000 in
set_option maxHeartbeats 600000 in
theorem behind_any (v : W8) (b : List Nat) (w : World) (hT : Tab w) (hv : v.ok) (hl : b.length = 64) (hb : by256 b) : Calls Tryd.prog 58 #[.agg (ws v), .agg (u8n b).toArray] w fun e w' => e = .returned (.agg (ws (blk v b))) ∧ Below w.heap.size w w' := by
  obtain ⟨B, hB⟩ : ∃ B : Array Value, B = (u8n b).toArray := ⟨_, rfl⟩
  obtain ⟨S, hS⟩ : ∃ S : List Nat, S = sch b 64 := ⟨_, rfl⟩
  obtain ⟨X, hX⟩ : ∃ X : Array Value, X = (u32n S).toArray := ⟨_, rfl⟩
  have HT := Lib.hid hT
  have HB := Lib.hid hB
  have HX := Lib.hid hX
  have hsp := fun w => spread_any b w hl hb
  rw [← hS, ← hX] at hsp
  rw [← hB]
  have hsl := sch_len b 64
  have hst := sch_at hb 64
  have hi := Lib.hid (show (Tryd.prog.info? 76).map (·.size) = some (u8n b).length by rw [u8n_len, hl]; exact size_block)
  obtain ⟨Z, hZ⟩ : ∃ Z : Array Value, Z = ws (blk v b) := ⟨_, rfl⟩
  rw [← hZ]
  have hz : Hid (Z = (wl (plus v (rds v S 64))).toArray) := Lib.hid (by rw [hZ, hS, blk, wl_ws])
  rw [← hS] at hsl hst
  clear hB hT hX hS hZ
  have hv' := hv
  obtain ⟨a, b', c, d, e, f, g, h⟩ := v
  unfold ws
  go_enter Tryd.func58, Tryd.ntmps58
  go_wp2_with (first
   | (refine wpList_load_blk rfl 76 _ rfl (w.heap.size + 1) rfl (alloc_old (alloc_old (Blk_at HB.out (by simp)))) Tryd.underlying76 rfl hi.out ?_)
   | (go_at_call 72; refine (hsp _).mono ?_; rintro e1 w1 ⟨rfl, hb1⟩))
  have hK : Hid (Kept2 w ⟨a, b', c, d, e, f, g, h⟩ S 0 w1) := Lib.hid (begin4 hb1)
  clear hsp hi HB
  go_loopw [11, 6, 7] (fun i _ _ wr => ∃ k : Nat, k ≤ 64 ∧ i = .int .i64 k ∧ Hid (Kept2 w ⟨a, b', c, d, e, f, g, h⟩ S k wr)) (fun i _ _ _ => 64 - (intOf i).toNat)
  case atStart => exact ⟨0, by omega, rfl, hK⟩
  case round =>
    obtain ⟨k, hk, rfl, hT⟩ := hrel
    clear hK
    by_cases hlt : k < 64
    · obtain ⟨B0, B2, B3, hbel⟩ := hT.out
      have hcell := (HT.out.below hbel HT.out.1).2 k hlt
      have hsn : Hid (rds ⟨a, b', c, d, e, f, g, h⟩ S (k + 1) = rnd (rds ⟨a, b', c, d, e, f, g, h⟩ S k) ((KT.getD k 0 + S.getD k 0) % 4294967296)) := Lib.hid (by rw [rnd_mod, rds])
      have hu := rds_ok hv' S k
      have hix := run_index_one (P := Tryd.prog) (k := k) (xs := u32n S) (v := .int .u32 (S.getD k 0 : Nat)) Tryd.underlying97 ⟨_, Tryd.underlying69⟩ size_u32 hlt (by simp [u32n, hsl, hlt])
      rw [← HX.out] at hix
      have hx := KT_at k
      have hy := hst k
      generalize rds ⟨a, b', c, d, e, f, g, h⟩ S k = u at *
      generalize KT.getD k 0 = x at *
      generalize S.getD k 0 = y at *
      obtain ⟨z, hz'⟩ : ∃ z, z = (x + y) % 4294967296 := ⟨_, rfl⟩
      rw [← hz'] at hsn
      have hw : IntKind.u32.wrap ((x : Int) + (y : Int)) = (z : Int) := by rw [IntKind.wrap_u32]; omega
      have hw2 : ((x : Int) + (y : Int)) % 4294967296 = (z : Int) := by omega
      have hzl : z < 4294967296 := by omega
      obtain ⟨Y, hY⟩ : ∃ Y : Array Value, Y = (wl (rnd u z)).toArray := ⟨_, rfl⟩
      have hr := fun w => round_any u z w hu hzl
      rw [← wl_ws (rnd u z), ← hY] at hr
      have HY := Lib.hid hY
      have HB3 := Lib.hid B3
      have hK2 := Lib.hid (And.intro B0 (And.intro B2 hbel))
      obtain ⟨c0, c1, c2, c3, c4, c5, c6, c7⟩ := cells8 (show wr.heap[w.heap.size + 1 + 1 + 1]? = some (.cells #[.int .u32 (u.a : Nat), .int .u32 (u.b : Nat), .int .u32 (u.c : Nat), .int .u32 (u.d : Nat), .int .u32 (u.e : Nat), .int .u32 (u.f : Nat), .int .u32 (u.g : Nat), .int .u32 (u.h : Nat)] 73 (0, 0)) from B3)
      unfold ws at hr
      clear hY hz' B0 B2 B3 hbel hT hst
      have r0 : (0 : Int) ≤ (k : Int) := by omega
      have r1 : (k : Int) < 64 := by omega
      have hn : (k : Int).toNat = k := by omega
      go_wp2
      go_still_tail 6, (by kernel_rfl)
      change wpList _ _ _ _ _ wr.drew
      clear c0 c1 c2 c3 c4 c5 c6 c7 hcell hix
      go_wp2_with (first
       | (go_at_call 73; refine (hr _).mono ?_; rintro e1 w2 ⟨rfl, hb2⟩)
       | (refine wpList_store_blk rfl 73 (.tmp 5) (.tmp 21) rfl (w.heap.size + 1 + 1 + 1) rfl (wl (rnd u z)) (congrArg Value.agg HY.out) (Blk.below (w := wr.drew) HB3.out hb2) (by rw [wl_len, wl_len]) (by rw [wl_len]; exact size_words) (u32n_one _) ?_; intro w3 hB3 ho3))
      have hT3 : Hid (Kept2 w ⟨a, b', c, d, e, f, g, h⟩ S (k + 1) w3) := Lib.hid (by
        obtain ⟨B0, B2, hbel⟩ := hK2.out
        have hb2' : Below wr.heap.size wr w2 := ((Below.refl wr.heap.size wr).drew).trans hb2
        refine ⟨ho3.out.blk (B0.below hb2') (by omega), ho3.out.blk (B2.below hb2') (by omega), ?_, ho3.out.below (hbel.trans (hb2'.mono hbel.size)) (by omega) (by have := hb2'.size; have := hbel.size; omega)⟩
        rw [hsn.out]
        exact hB3.out)
      clear hB3 ho3 hb2 hK2 HB3 HY hr
      go_roundw
      case rel => exact ⟨k + 1, by omega, by go_num, hT3⟩
      case measure => simp [intOf]; omega
    · obtain rfl : k = 64 := by omega
      obtain ⟨B0', B2', B3', hbel⟩ := hT.out
      have B0 := Lib.hid B0'
      have B2 := Lib.hid B2'
      have B3 := Lib.hid B3'
      have hsz := hbel.size
      clear B0' B2' B3' hT
      generalize rds ⟨a, b', c, d, e, f, g, h⟩ S 64 = u at *
      have hpl := plus_any ⟨a, b', c, d, e, f, g, h⟩ u
      rw [← wl_ws, ← wl_ws, ← wl_ws, ← hz.out] at hpl
      go_wp2_with (first
       | (refine wpList_load_blk rfl 73 (.tmp 2) rfl w.heap.size rfl B0.out Tryd.underlying73 rfl (by rw [wl_len]; exact size_words) ?_)
       | (refine wpList_load_blk rfl 73 (.tmp 5) rfl (w.heap.size + 1 + 1 + 1) rfl B3.out Tryd.underlying73 rfl (by rw [wl_len]; exact size_words) ?_)
       | (go_at_call 76; refine (hpl _).mono ?_; rintro e1 w2 ⟨rfl, hb2⟩)
       | (refine wpList_store_blk rfl 73 (.tmp 4) (.tmp 25) rfl (w.heap.size + 1 + 1) rfl (wl (plus ⟨a, b', c, d, e, f, g, h⟩ u)) (congrArg Value.agg hz.out) (Blk.below B2.out hb2) (by rw [wl_len, wl_len]) (by rw [wl_len]; exact size_words) (u32n_one _) ?_; intro w3 hB3 ho3))
      refine ret_row Tryd.results58 rfl rfl hB3.out Tryd.underlying73 rfl (by rw [wl_ws, ws_size]; exact size_words) ⟨by rw [hz.out], ho3.out.below (hbel.trans (hb2.mono hbel.size)) (by omega) (by have := hb2.size; omega)⟩

end Go.Proofs.YtlghojnlnfkdhaaDoor.ShaE
