/- The reference's long numbers: one times a word of up to 48 bits. Conditions: the slice reads as digits to 65536, at most 13 of them. -/
import Derived.Test.YtlghojnlnfkdhaaDoorRefN
import Derived.Test.YtlghojnlnfkdhaaDoorShaK
import Derived.StillTailTactics
namespace Go.Proofs.YtlghojnlnfkdhaaDoor.RefB
open Go.RowKit Go.Proofs.YtlghojnlnfkdhaaDoor.Kit Go.Proofs.YtlghojnlnfkdhaaDoor.ShaC Go.Proofs.YtlghojnlnfkdhaaDoor.ShaK Go.Proofs.YtlghojnlnfkdhaaDoor.RefM Go.Proofs.YtlghojnlnfkdhaaDoor.RefN

/-- Integers as cells. -/
def i64n (xs : List Nat) : List Value := xs.map fun n : Nat => Value.int .i64 (n : Int)
theorem i64n_len (xs : List Nat) : (i64n xs).length = xs.length := List.length_map ..
theorem i64n_set (xs : List Nat) (k y : Nat) : (i64n xs).set k (.int .i64 (y : Int)) = i64n (xs.set k y) := by simp [i64n, List.map_set]
theorem i64n_app (xs ys : List Nat) : i64n xs ++ i64n ys = i64n (xs ++ ys) := by simp [i64n]
theorem i64n_one (xs : List Nat) : ∀ u ∈ i64n xs, u.oneCell' = true := by
  intro u hu
  simp only [i64n, List.mem_map] at hu
  obtain ⟨n, _, rfl⟩ := hu
  rfl
theorem i64n_zero (n : Nat) : List.replicate n (Value.int .i64 0) = i64n (List.replicate n 0) := by simp [i64n]
section
variable {w : World} {g : Nat} {t : TypeId} {bs : List Nat}
theorem blk_int (h : Blk w g t (i64n bs)) {i : Nat} (hi : i < bs.length) : w.cell? ⟨g, i, none⟩ = some (.int .i64 (bs.getD i 0 : Nat)) :=
  h.cell (by simp [i64n, hi])
theorem blk_rd (h : Blk w g t (i64n bs)) (hl : bs.length ≤ 9223372036854775807) : Rd w (some ⟨g, 0, none⟩) bs.length bs.length (i64n bs) :=
  ⟨i64n_len bs, Nat.le_refl _, hl, fun _ => ⟨g, 0, rfl, h.lt, fun j u hu => by rw [Nat.zero_add]; exact h.cell hu⟩⟩
theorem rd_int {A : Option Addr} {n c : Nat} (h : Rd w A n c (i64n bs)) {k : Nat} (hk : k < n) : ∃ b o, A = some ⟨b, o, none⟩ ∧ w.cell? ⟨b, o + k, none⟩ = some (.int .i64 (bs.getD k 0 : Nat)) := by
  obtain ⟨b, o, hA, hc⟩ := Rd.at_ h hk
  have hl : k < bs.length := by have := h.len; rw [i64n_len] at this; omega
  exact ⟨b, o, hA, by rw [hc]; simp [i64n, List.getD_eq_getElem?_getD, List.getElem?_eq_getElem hl]⟩
end
theorem getD_digs {l : List Nat} (h : digs l) (j : Nat) : l.getD j 0 ≤ 65535 := by
  rw [List.getD_eq_getElem?_getD]
  by_cases hi : j < l.length
  · rw [List.getElem?_eq_getElem hi]
    have := h l[j] (List.getElem_mem hi)
    simp only [Option.getD_some]
    omega
  · rw [List.getElem?_eq_none (by omega)]
    simp

theorem info64 : (Tryd.prog.info? 3).map (fun i => (i.zero, i.size, i.bytes)) = some (some (.int .i64 0), 1, 8) := by kernel_rfl

set_option maxRecDepth 100000 in
set_option maxHeartbeats 1600000 in
theorem times_any (A : Option Addr) (n c : Nat) (x : List Nat) (m : Nat) (w : World) (hr : Rd w A n c (i64n x)) (hx : digs x) (hn : n ≤ 13) (hm : m < 281474976710656) :
    Calls Tryd.prog 79 #[.slice A n c, .int .i64 (m : Nat)] w fun e w' => ∃ o : List Nat, e = .returned (.slice (some ⟨w.heap.size, 0, none⟩) (n + 4) (n + 4)) ∧ Blk w' w.heap.size 3 (i64n o) ∧ o.length = n + 4 ∧ digs o ∧ val o = val x * m ∧ Below w.heap.size w w' := by
  have hxl : x.length = n := by have := hr.len; rwa [i64n_len] at this
  obtain ⟨i0, hi0, hz0, hz1, hz2⟩ := info_parts info64
  go_enter Tryd.func79, Tryd.ntmps79
  go_wp2_with (refine wpList_make_room _ rfl (.tmp 12) (.tmp 12) 64 rfl 3 i0 _ 8 Tryd.underlying64 hi0 hz0 hz1 hz2 rfl .i64 .i64 ((n : Int) + 4) ((n : Int) + 4) (n + 4) (n + 4) rfl rfl (by omega) (by omega) (by omega) (by omega) (by omega) ?_; intro w1 hB1 hb1 hs1)
  have H0 : Hid (Blk w1 w.heap.size 3 (i64n (List.replicate (n + 4) 0))) := Lib.hid (by rw [← i64n_zero]; exact hB1.out)
  clear hB1
  go_loopw [6, 7, 8] (fun i _ _ wr => ∃ k : Nat, ∃ o : List Nat, k ≤ n ∧ i = .int .i64 k ∧ Hid (Blk wr w.heap.size 3 (i64n o)) ∧ Hid (Laid x m k o) ∧ Below w.heap.size w wr) (fun i _ _ _ => n - (intOf i).toNat)
  case atStart => exact ⟨0, _, Nat.zero_le _, rfl, H0, Lib.hid (by rw [← hxl]; exact Laid.zero x m), hb1⟩
  case round =>
    obtain ⟨k, o, hk, rfl, hB, hL, hbel⟩ := hrel
    clear H0
    by_cases hlt : k < n
    · go_wp2
      go_loopw [7, 8] (fun r j wr => ∃ q t : Nat, ∃ o : List Nat, r = .int .i64 q ∧ j = .int .i64 t ∧ Hid (Blk wr w.heap.size 3 (i64n o)) ∧ Hid (Lay x m k t q o) ∧ q ≤ m ∧ Below w.heap.size w wr) (fun r _ _ => (intOf r).toNat)
      case atStart => exact ⟨m, 0, o, rfl, rfl, hB, Lib.hid hL.out.lay, Nat.le_refl _, hbel⟩
      case round =>
        clear hB hL hbel
        obtain ⟨q, t, o, rfl, rfl, hB, hL, hqm, hbel⟩ := hrel
        by_cases hq : 0 < q
        · have hol := hL.out.1
          have hpl := hL.out.place (by omega) hm hq
          have cO := blk_int hB.out hpl.1
          have fO := hB.out.frozen (k + t)
          obtain ⟨b, off, rfl, cX⟩ := rd_int (hr.below (hbel.mono (Nat.le_refl _))) hlt
          go_wp2
          have hd := getD_digs hx k
          have hmod : q % 65536 ≤ 65535 := by omega
          have hprod : x.getD k 0 * (q % 65536) ≤ 65535 * 65535 := Nat.mul_le_mul hd hmod
          have hob := hL.out.2.2.2.2 (k + t) hpl.1 (Nat.le_refl _)
          have hkb : k * 4294967296 ≤ 13 * 4294967296 := Nat.mul_le_mul_right _ (by omega)
          have hog : o.getD (k + t) 0 = o[k + t]'hpl.1 := by rw [List.getD_eq_getElem?_getD, List.getElem?_eq_getElem hpl.1]; rfl
          have hN := hL.out.next hx hpl.1
          rw [← hog] at hN
          have hS : Hid (Blk (wr.drew.setCell ⟨w.heap.size, k + t, none⟩ (.int .i64 ((o.getD (k + t) 0 + x.getD k 0 * (q % 65536) : Nat) : Int))) w.heap.size 3 (i64n (o.set (k + t) (o.getD (k + t) 0 + x.getD k 0 * (q % 65536))))) := Lib.hid (by
            have h5 := Blk.set (w := wr.drew) hB.out (k + t) (.int .i64 ((o.getD (k + t) 0 + x.getD k 0 * (q % 65536) : Nat) : Int))
            rw [i64n_set] at h5
            exact h5)
          have hbel2 := Lib.hid (hbel.drew.setCell (p := ⟨w.heap.size, k + t, none⟩) (by simp) (.int .i64 ((o.getD (k + t) 0 + x.getD k 0 * (q % 65536) : Nat) : Int)))
          have hN' := Lib.hid hN
          rw [← hog] at hob
          obtain ⟨y, hy⟩ : ∃ y, y = x.getD k 0 * (q % 65536) := ⟨_, rfl⟩
          obtain ⟨z, hz⟩ : ∃ z, z = o.getD (k + t) 0 + y := ⟨_, rfl⟩
          have w1' : IntKind.i64.wrap ((x.getD k 0 : Nat) * ((q : Int).tmod 65536)) = (y : Int) := by
            have e : ((x.getD k 0 : Nat) : Int) * ((q : Int).tmod 65536) = (y : Int) := by rw [hy, Int.natCast_mul, Int.tmod_eq_emod_of_nonneg (by omega)]; simp
            rw [e, IntKind.wrap_i64]; omega
          have w2' : IntKind.i64.wrap (((o.getD (k + t) 0 : Nat) : Int) + (y : Int)) = (z : Int) := by rw [IntKind.wrap_i64]; omega
          rw [← hy, ← hz] at hS hbel2 hN'
          have w0 : IntKind.i64.wrap ((k : Int) + (t : Int)) = (k : Int) + (t : Int) := by rw [IntKind.wrap_i64]; omega
          have t0 : ((k : Int) + (t : Int)).toNat = k + t := by omega
          have p0 : (0 : Int) ≤ (k : Int) + (t : Int) := by omega
          have q0 : (k : Int) + (t : Int) < (n : Int) + 4 := by omega
          have r0 : (0 : Int) ≤ (k : Int) := by omega
          have r1 : (k : Int) < (n : Int) := by omega
          clear hN hob hog hprod hy hz hd hmod hkb
          generalize o.getD (k + t) 0 = oc at *
          generalize x.getD k 0 = xc at *
          go_wp2
          go_still_tail 14, (by kernel_rfl)
          change wpList _ _ _ _ _ wr.drew
          clear w1' w2' w0 t0 p0 q0 r0 r1 cX
          go_wp2
          go_roundw
          case rel => exact ⟨q / 65536, t + 1, _, by go_num, by go_num, hS, hN', by omega, hbel2.out⟩
          case measure => simp [intOf]; omega
        · obtain rfl : q = 0 := by omega
          go_wp2
          go_roundw
          case rel => exact ⟨k + 1, o, by omega, by go_num, hB, Lib.hid (hL.out.laid (by omega)), hbel⟩
          case measure => simp [intOf]; omega
    · obtain rfl : k = n := by omega
      have hC : Hid (Carry (val x * m) (k + 4) 0 o) := Lib.hid (by subst hxl; exact hL.out.carry hn)
      clear hL
      go_wp2
      go_loopw [9] (fun i wr => ∃ t : Nat, ∃ o : List Nat, t + 1 ≤ k + 4 ∧ i = .int .i64 t ∧ Hid (Blk wr w.heap.size 3 (i64n o)) ∧ Hid (Carry (val x * m) (k + 4) t o) ∧ Below w.heap.size w wr) (fun i _ => k + 4 - (intOf i).toNat)
      case atStart => exact ⟨0, o, by omega, rfl, hB, hC, hbel⟩
      case round =>
        clear hB hC hbel
        obtain ⟨t, o, ht, rfl, hB, hC, hbel⟩ := hrel
        have hol := hC.out.1
        by_cases hlt : t + 1 < k + 4
        · have c0 := blk_int hB.out (i := t) (by omega)
          have c1 := blk_int hB.out (i := t + 1) (by omega)
          have f0 := hB.out.frozen t
          have f1 := hB.out.frozen (t + 1)
          have hN := hC.out.next (by omega)
          have g0 : o.getD t 0 = o[t]'(by omega) := by rw [List.getD_eq_getElem?_getD, List.getElem?_eq_getElem (by omega)]; rfl
          have g1 : o.getD (t + 1) 0 = o[t + 1]'(by omega) := by rw [List.getD_eq_getElem?_getD, List.getElem?_eq_getElem (by omega)]; rfl
          have b0 := (hC.out.2.2.2 t (by omega)).1
          have b1 := (hC.out.2.2.2 (t + 1) (by omega)).1
          rw [← g0] at b0
          rw [← g1] at b1
          rw [← g0, ← g1] at hN
          obtain ⟨z, hz⟩ : ∃ z, z = o.getD (t + 1) 0 + o.getD t 0 / 65536 := ⟨_, rfl⟩
          obtain ⟨y, hy⟩ : ∃ y, y = o.getD t 0 % 65536 := ⟨_, rfl⟩
          have z1 : ((o.getD (t + 1) 0 : Nat) : Int) + ((o.getD t 0 : Nat) : Int) / 65536 = (z : Int) := by omega
          have z2 : ((o.getD t 0 : Nat) : Int) % 65536 = (y : Int) := by omega
          rw [← hz, ← hy] at hN
          have hN' := Lib.hid hN
          have hB1 : Blk (wr.drew.setCell ⟨w.heap.size, t + 1, none⟩ (.int .i64 (((o.getD (t + 1) 0 : Nat) : Int) + ((o.getD t 0 : Nat) : Int) / 65536))) w.heap.size 3 (i64n (o.set (t + 1) z)) := by
            rw [z1]
            have h5 := Blk.set (w := wr.drew) hB.out (t + 1) (.int .i64 (z : Int))
            rw [i64n_set] at h5
            exact h5
          have hB2 : Blk ((wr.drew.setCell ⟨w.heap.size, t + 1, none⟩ (.int .i64 (((o.getD (t + 1) 0 : Nat) : Int) + ((o.getD t 0 : Nat) : Int) / 65536))).setCell ⟨w.heap.size, t, none⟩ (.int .i64 (((o.getD t 0 : Nat) : Int) % 65536))) w.heap.size 3 (i64n ((o.set (t + 1) z).set t y)) := by
            rw [z2]
            have h5 := Blk.set hB1 t (.int .i64 (y : Int))
            rw [i64n_set] at h5
            exact h5
          have hbel2 := Lib.hid ((hbel.drew.setCell (p := ⟨w.heap.size, t + 1, none⟩) (by simp) (.int .i64 (((o.getD (t + 1) 0 : Nat) : Int) + ((o.getD t 0 : Nat) : Int) / 65536))).setCell (p := ⟨w.heap.size, t, none⟩) (by simp) (.int .i64 (((o.getD t 0 : Nat) : Int) % 65536)))
          have c2 := blk_int hB1 (i := t) (by rw [List.length_set]; omega)
          have f2 := hB1.frozen t
          have g2 : (o.set (t + 1) z).getD t 0 = o.getD t 0 := by
            rw [List.getD_eq_getElem?_getD, List.getD_eq_getElem?_getD, List.getElem?_set_ne (by omega)]
          rw [g2] at c2
          have hB2' := Lib.hid hB2
          have w0 : IntKind.i64.wrap ((t : Int) + 1) = (t : Int) + 1 := by rw [IntKind.wrap_i64]; omega
          have t0 : ((t : Int) + 1).toNat = t + 1 := by omega
          have p0 : (0 : Int) ≤ (t : Int) + 1 := by omega
          have q0 : (t : Int) + 1 < (k : Int) + 4 := by omega
          have r0 : (0 : Int) ≤ (t : Int) := by omega
          have r1 : (t : Int) < (k : Int) + 4 := by omega
          clear hN g0 g1 g2 hz hy z1 z2 hB1 hB2
          generalize o.getD (t + 1) 0 = oc1 at *
          generalize o.getD t 0 = oc0 at *
          go_wp2
          go_still_tail 11, (by kernel_rfl)
          change wpList _ _ _ _ _ wr.drew
          go_wp2
          go_roundw
          case rel => exact ⟨t + 1, _, by omega, by go_num, hB2', hN', hbel2.out⟩
          case measure => simp [intOf]; omega
        · go_wp2
          go_ret
          refine ⟨o, rfl, hB.out, hol, (by subst hxl; exact hC.out.end_ (by omega) hx hm), hC.out.2.1, hbel⟩

end Go.Proofs.YtlghojnlnfkdhaaDoor.RefB
