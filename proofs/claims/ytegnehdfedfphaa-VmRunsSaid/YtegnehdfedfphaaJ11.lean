/- The reference's Tick of a machine that stands. Conditions: all lies as the facts say. The reference's Tick, whatever stands there. Conditions: all lies as the facts say. Two slices of bytes held against each other by the package bytes. Conditions: each slice reads as the list that is named, of bytes. Two slices of bytes held against each other by the reference. Conditions: each slice reads as the list that is named. When two images are alike, by the reference. Conditions: the images lie as the facts say. Two machines on channels of their own; own rows that are written. Conditions: both machines lie as the facts say, apart. The program's machine and the document's, with their channels, beside each other; the acts that came in. Conditions: they lie as the facts say. The reference's machine, made anew. Conditions: the image is right, and lies as the facts say. The reference's Right. Conditions: the table lies as the facts say. -/
import Derived.Test.YtegnehdfedfphaaVmrJ
import Derived.Test.YtegnehdfedfphaaVmrK
import Derived.Test.YtegnehdfedfphaaJ01
import Derived.Laws.BytesArg
import Derived.Lib.Bytes
import Derived.Test.YtegnehdfedfphaaImgB0
import Derived.Test.YtegnehdfedfphaaJ07
import Derived.Test.YtegnehdfedfphaaJ04
import Derived.Test.YtegnehdfedfphaaJ06
import Derived.Deep.OwnRows
import Derived.Test.YtegnehdfedfphaaJ03
namespace Go.Proofs.Ytegnehdfedfphaa.VmrL
open Go.RowKit Go.Proofs.Ytegnehdfedfphaa.Kit Go.Proofs.Ytegnehdfedfphaa.Byt Go.Proofs.Ytegnehdfedfphaa.Mem Go.Proofs.Ytegnehdfedfphaa.OpsM Go.Proofs.Ytegnehdfedfphaa.VmcM Go.Proofs.Ytegnehdfedfphaa.VmcF Go.Proofs.Ytegnehdfedfphaa.VmrB Go.Proofs.Ytegnehdfedfphaa.VmrE Go.Proofs.Ytegnehdfedfphaa.VmrG Go.Proofs.Ytegnehdfedfphaa.VmrJ
open Go.Proofs.Ytegnehdfedfphaa.ImgA (Im)
open Go.Proofs.Ytegnehdfedfphaa.TabA (Tri)
open Go.Proofs.Ytegnehdfedfphaa.PrtA (Lab Stp Bd)
open Go.Proofs.Ytegnehdfedfphaa.TabE (ret_row)

section
variable {B N m d X gl nc c' : Nat} {D A' : Option Addr} {i : Im} {C : List Tri} {z : Z} {L : Nat → List Int} {w : World} {ρ : Nat → Lab}
set_option maxRecDepth 100000 in
set_option maxHeartbeats 1600000 in
theorem rtick_stands (h : Rq B w ρ N i D m d X gl A' nc c' C z L) (hf : z.ft ≠ 0) :
    Calls Try.prog 14 #[.pointer (some ⟨N, 0, none⟩), .pointer (some ⟨X, 0, none⟩)] w (Tkr B w ρ N i D m d X gl A' nc c' C ⟨z, L, [], false, false⟩) := by
  obtain ⟨y, hy⟩ : ∃ y, y = z.ft := ⟨_, rfl⟩
  have k12 : w.cell? ⟨N, 12, none⟩ = some (.int .i64 y) := by
    obtain ⟨⟨A0, n0, c0, hrm0⟩, _, _⟩ := h
    rw [hy]
    exact hrm0.blk.cell (i := 12) rfl
  have hNl : N < w.heap.size := by
    obtain ⟨⟨A0, n0, c0, hrm0⟩, _, _⟩ := h
    exact hrm0.blk.lt
  have e0 : (y != 0) = true := by rw [hy]; simpa using hf
  have H := Lib.hid h
  obtain ⟨wa, hwa⟩ : ∃ wa, wa = w.alloc (.cells #[.slice none 0 0, .bool false] 53) := ⟨_, rfl⟩
  obtain ⟨wb, hwb⟩ : ∃ wb, wb = wa.alloc (.cells #[.slice none 0 0, .bool false] 53) := ⟨_, rfl⟩
  have HBB := Lib.hid (show Below w.heap.size w wb from by rw [hwb, hwa]; exact ((Below.refl _ _).alloc (Nat.le_refl _) _).alloc (by simp) _)
  have HR := Lib.hid (show Blk wb w.heap.size 53 [.slice none 0 0, .bool false] from by rw [hwb, hwa]; exact (Blk.new w _ _).alloc _)
  have k12 : wb.cell? ⟨N, 12, none⟩ = some (.int .i64 y) := (HBB.out.cell (p := ⟨N, 12, none⟩) hNl).trans k12
  clear h hf hy
  go_enter Try.func14, Try.ntmps14
  go_upto_region 2 with (fail)
  rw [← hwa, ← hwb]
  clear hwa hwb
  have r0 := HR.out.cell (i := 0) rfl
  have r1 := HR.out.cell (i := 1) rfl
  have z0 := HR.out.frozen 0
  have z1 := HR.out.frozen 1
  go_wp2_with fail
  have hq : Below w.heap.size w ((wb.setCell ⟨w.heap.size, 0, none⟩ (.slice none 0 0)).setCell ⟨w.heap.size, 1, none⟩ (.bool false)) := Below.setCell (Below.setCell HBB.out (Nat.le_refl _) _) (Nat.le_refl _) _
  refine ret_row (g := w.heap.size) (cs := #[.slice none 0 0, .bool false]) Try.results14 rfl rfl ((HR.out.set 0 (.slice none 0 0)).set 1 (.bool false)) Try.underlying53 rfl size_rout ?_
  exact ⟨none, 0, 0, ρ, rfl, World.ownsRow_nil _ B _ 2, (fun g hg => by cases hg), Rq.below H.out hq, Stp.of_below H.out.rf.bd hq⟩
end
end Go.Proofs.Ytegnehdfedfphaa.VmrL
namespace Go.Proofs.Ytegnehdfedfphaa.VmrT
open Go.RowKit Go.Proofs.Ytegnehdfedfphaa.Kit Go.Proofs.Ytegnehdfedfphaa.Mem Go.Proofs.Ytegnehdfedfphaa.VmcM Go.Proofs.Ytegnehdfedfphaa.VmcF Go.Proofs.Ytegnehdfedfphaa.VmcN Go.Proofs.Ytegnehdfedfphaa.VmrJ Go.Proofs.Ytegnehdfedfphaa.VmrK Go.Proofs.Ytegnehdfedfphaa.VmrL
open Go.Proofs.Ytegnehdfedfphaa.ImgA (Im)
open Go.Proofs.Ytegnehdfedfphaa.ImgB (right)
open Go.Proofs.Ytegnehdfedfphaa.TabA (Tri)
open Go.Proofs.Ytegnehdfedfphaa.PrtA (Lab Stp Bd)

theorem rtick_any {B N m d X gl nc c' : Nat} {D A' : Option Addr} {i : Im} {C : List Tri} {z : Z} {L : Nat → List Int} {w : World} {ρ : Nat → Lab} (h : Rq B w ρ N i D m d X gl A' nc c' C z L) (hi : right i) (hp : 0 ≤ z.pc ∧ z.pc ≤ 1000) (ht : 0 ≤ z.tk ∧ z.tk ≤ 1000000) {G : T} (hG : G = tickT i C z L) :
    Calls Try.prog 14 #[.pointer (some ⟨N, 0, none⟩), .pointer (some ⟨X, 0, none⟩)] w (Tkr B w ρ N i D m d X gl A' nc c' C G) := by
  by_cases hf : z.ft = 0
  · exact rtick_goes h hf hi hp ht hG
  · have e : tickT i C z L = ⟨z, L, [], false, false⟩ := if_pos hf
    rw [hG, e]
    exact rtick_stands h hf
end Go.Proofs.Ytegnehdfedfphaa.VmrT
namespace Go.Proofs.Ytegnehdfedfphaa.Beq
open Go.RowKit Go.Proofs.Ytegnehdfedfphaa.Kit Go.Proofs.Ytegnehdfedfphaa.Byt

def nl (xs : List Nat) : List Int := xs.map fun n : Nat => (n : Int)
def stn (xs : List Nat) : ByteArray := strOfNums (nl xs)
theorem conv_str {P : Program} {w : World} {A : Option Addr} {n c : Nat} {xs : List Nat} {src e dst : TypeId} (hr : Rd w A n c (u8n xs)) (hs : P.underlying src = some (.slice e)) (he : P.underlying e = some (.int .u8)) (hd : P.underlying dst = some .string) :
    (convert src dst (.slice A n c)).run P w = .ok (.string (stn xs)) w := by
  have hl := Rd.nats hr
  rcases Nat.eq_zero_or_pos n with h0 | h0
  · subst h0
    obtain rfl : xs = [] := List.eq_nil_of_length_eq_zero hl
    rcases A with _ | a
    · rw [run_convert_bytes_nil w src e hs he 0 c dst hd]
      rfl
    · rw [run_convert_bytes_string w src dst e _ 0 c hs he hd, run_bytesToString w a 0 c [] (by simp [loadCells, loadCellsFrom])]
      rfl
  · obtain ⟨b, o, rfl, _, hc⟩ := hr.2.2.2 h0
    exact run_convert_bytes_arg w src e hs he b o n c (nl xs) (by simp [nl, hl]) (fun i hi => by
      rw [hc i (.int .u8 ((nl xs).getD i 0)) (by
        have : i < xs.length := by omega
        simp [u8n, nl, List.getD, this])]) dst hd
theorem stn_inj {xs ys : List Nat} (hx : ∀ u ∈ xs, u < 256) (hy : ∀ u ∈ ys, u < 256) (h : (stn xs).toList = (stn ys).toList) : xs = ys := by
  unfold stn at h
  rw [Lib.strOfNums_toList, Lib.strOfNums_toList] at h
  have h2 := congrArg (List.map UInt8.toNat) h
  have e : ∀ zs : List Nat, (∀ u ∈ zs, u < 256) → (Lib.bytesOf (nl zs)).map UInt8.toNat = zs := by
    intro zs hz
    have : (Lib.bytesOf (nl zs)).map UInt8.toNat = zs.map id := by
      simp only [Lib.bytesOf, nl, List.map_map]
      refine List.map_congr_left fun u hu => ?_
      have := hz u hu
      simp [Nat.mod_eq_of_lt this]
    simpa using this
  rw [e xs hx, e ys hy] at h2
  exact h2
theorem eql_str {xs ys : List Nat} (hx : ∀ u ∈ xs, u < 256) (hy : ∀ u ∈ ys, u < 256) : ((stn xs).toList == (stn ys).toList) = decide (xs = ys) := by
  rw [Bool.eq_iff_iff]
  simp only [beq_iff_eq, decide_eq_true_eq]
  exact ⟨stn_inj hx hy, fun h => by rw [h]⟩
end Go.Proofs.Ytegnehdfedfphaa.Beq
namespace Go.Proofs.Ytegnehdfedfphaa.Same
open Go.RowKit Go.Proofs.Ytegnehdfedfphaa.Kit Go.Proofs.Ytegnehdfedfphaa.Byt

abbrev u8s (xs : List Int) : List Value := xs.map (Value.int .u8)
theorem u8s_one (xs : List Int) : ∀ u ∈ u8s xs, u.oneCell' = true := ints_oneCell _ _

theorem u8s_len (xs : List Int) : (u8s xs).length = xs.length := List.length_map ..
theorem Rd.bytes {w : World} {A : Option Addr} {n c : Nat} {xs : List Int} (h : Rd w A n c (u8s xs)) : xs.length = n := by have := h.len; rwa [u8s_len] at this
theorem Rd.byte {w : World} {A : Option Addr} {n c : Nat} {xs : List Int} (h : Rd w A n c (u8s xs)) {k : Nat} (hk : k < xs.length) : ∃ b o, A = some ⟨b, o, none⟩ ∧ w.cell? ⟨b, o + k, none⟩ = some (.int .u8 xs[k]) := by
  obtain ⟨b, o, hA, hc⟩ := Rd.at_ h (k := k) (by have := Rd.bytes h; omega)
  exact ⟨b, o, hA, by simpa using hc⟩

set_option maxHeartbeats 400000 in
theorem same_any (A B : Option Addr) (n m c d : Nat) (xs ys : List Int) (w : World) (hx : Rd w A n c (u8s xs)) (hy : Rd w B m d (u8s ys)) :
    Calls Try.prog 26 #[.slice A n c, .slice B m d] w fun e w' => e = .returned (.bool (decide (xs = ys))) ∧ ∃ n, w' = w.drewN n := by
  obtain rfl := Rd.bytes hx
  obtain rfl := Rd.bytes hy
  have lx : xs.length ≤ 9223372036854775807 := by have := hx.le; have := hx.cap; omega
  have ly : ys.length ≤ 9223372036854775807 := by have := hy.le; have := hy.cap; omega
  by_cases hl : xs.length = ys.length
  · go_enter Try.func26, Try.ntmps26
    go_wp2
    go_loopw [5] (fun i wr => ∃ k : Nat, k ≤ xs.length ∧ i = .int .i64 k ∧ (∃ n, wr = w.drewN n) ∧ xs.take k = ys.take k) (fun i _ => xs.length - (intOf i).toNat)
    case atStart => exact ⟨0, Nat.zero_le _, rfl, ⟨0, rfl⟩, rfl⟩
    case round =>
      obtain ⟨k, hk, rfl, ⟨n, rfl⟩, he⟩ := hrel
      by_cases hlt : k < xs.length
      · obtain ⟨bx, ox, rfl, gx⟩ := Rd.byte hx hlt
        obtain ⟨by', oy, rfl, gy⟩ := Rd.byte hy (k := k) (by omega)
        have hlt' : k < ys.length := by omega
        go_wp2_with fail
        go_quiet (fail)
        go_wp2
        · have h : (xs[k] != ys[k]) = true := by assumption
          go_ret
          refine ⟨?_, _, World.drewN_drewN _ _ _⟩
          have hne : ¬ xs = ys := by
            intro hh; subst hh; simp at h
          simp [hne]
        · have h : (xs[k] != ys[k]) = false := by assumption
          go_roundw
          case rel =>
            refine ⟨k + 1, by omega, by go_num, ⟨_, rfl⟩, ?_⟩
            have h' : xs[k] = ys[k] := by simpa using h
            rw [List.take_succ_eq_append_getElem hlt, List.take_succ_eq_append_getElem hlt', he, h']
          case measure => simp [intOf]; omega
      · go_wp2
        go_ret
        refine ⟨?_, n, rfl⟩
        have hxy : xs = ys := by
          rw [List.take_of_length_le (by omega), List.take_of_length_le (by omega)] at he
          exact he
        simp [hxy]
  · have hne : ((xs.length : Int) != (ys.length : Int)) = true := by simp; omega
    go_enter Try.func26, Try.ntmps26
    go_wp2
    go_ret
    have : ¬ xs = ys := fun h => hl (by rw [h])
    exact ⟨by simp [this], 0, rfl⟩

theorem same_yes {A B : Option Addr} {n m c d : Nat} {xs : List Int} {w : World} (hx : Rd w A n c (u8s xs)) (hy : Rd w B m d (u8s xs)) :
    Calls Try.prog 26 #[.slice A n c, .slice B m d] w fun e w' => e = .returned (.bool true) ∧ ∃ n, w' = w.drewN n :=
  (same_any A B n m c d xs xs w hx hy).mono fun e w' h => ⟨by rw [h.1]; simp, h.2⟩

theorem u8n_u8s (xs : List Nat) : u8n xs = u8s (xs.map fun n : Nat => (n : Int)) := by simp [u8n, u8s]
theorem nat_inj {xs ys : List Nat} (h : xs.map (fun n : Nat => (n : Int)) = ys.map (fun n : Nat => (n : Int))) : xs = ys :=
  List.map_inj_right (f := fun n : Nat => (n : Int)) (fun _ _ h => Int.ofNat.inj h) |>.1 h
/-- Of bytes as numbers. -/
theorem same_n {A B : Option Addr} {n m c d : Nat} {xs ys : List Nat} {w : World} (hx : Rd w A n c (u8n xs)) (hy : Rd w B m d (u8n ys)) :
    Calls Try.prog 26 #[.slice A n c, .slice B m d] w fun e w' => e = .returned (.bool (decide (xs = ys))) ∧ ∃ n, w' = w.drewN n := by
  rw [u8n_u8s] at hx hy
  refine (same_any A B n m c d _ _ w hx hy).mono fun e w' h => ⟨?_, h.2⟩
  rw [h.1]
  congr 2
  rw [Bool.eq_iff_iff]
  simp only [decide_eq_true_eq]
  exact ⟨nat_inj, fun h => by rw [h]⟩

end Go.Proofs.Ytegnehdfedfphaa.Same
namespace Go.Proofs.Ytegnehdfedfphaa.ImgB
open Go.RowKit Go.Proofs.Ytegnehdfedfphaa.Kit Go.Proofs.Ytegnehdfedfphaa.Byt Go.Proofs.Ytegnehdfedfphaa.Mem Go.Proofs.Ytegnehdfedfphaa.ImgA Go.Proofs.Ytegnehdfedfphaa.Beq Go.Proofs.Ytegnehdfedfphaa.Same

/-- Two images are alike. -/
def like (i j : Im) : Prop := i.p = j.p ∧ i.v = j.v ∧ i.h = j.h ∧ i.m = j.m ∧ i.f = j.f ∧ i.s = j.s ∧ i.r = j.r ∧ i.xs = j.xs
set_option maxRecDepth 100000 in
set_option maxHeartbeats 3200000 in
theorem rsame_any (i j : Im) (w : World) (hi : i.ok w) (hj : j.ok w) (b : Bool) (hb : b = true ↔ like i j) : Calls Try.prog 8 #[i.val, j.val] w (Yes w b) := by
  obtain ⟨p, v, h, m, f, s, r, A, n, c, xs⟩ := i
  obtain ⟨p', v', h', m', f', s', r', A', n', c', xs'⟩ := j
  have HB := Lib.hid (show b = true ↔ p = p' ∧ v = v' ∧ h = h' ∧ m = m' ∧ f = f' ∧ s = s' ∧ r = r' ∧ xs = xs' from hb)
  clear hb
  have HF := Lib.hid (show ∀ q : Prop, (b = true → q) → ¬ q → b = false from fun q h hp => by rw [Bool.eq_false_iff]; exact fun hb => hp (h hb))
  have HS := Lib.hid (same_n (w := (w.alloc (.cells #[.int .i64 p, .int .i64 v, .int .i64 h, .int .i64 m, .int .i64 f, .int .i64 s, .int .i64 r, .slice A n c] 29)).alloc (.cells #[.int .i64 p', .int .i64 v', .int .i64 h', .int .i64 m', .int .i64 f', .int .i64 s', .int .i64 r', .slice A' n' c'] 29)) ((hi.code.alloc _).alloc _) ((hj.code.alloc _).alloc _))
  have HX := Lib.hid (((Below.refl w.heap.size w).alloc (Nat.le_refl _) (.cells #[.int .i64 p, .int .i64 v, .int .i64 h, .int .i64 m, .int .i64 f, .int .i64 s, .int .i64 r, .slice A n c] 29)).alloc (by simp) (.cells #[.int .i64 p', .int .i64 v', .int .i64 h', .int .i64 m', .int .i64 f', .int .i64 s', .int .i64 r', .slice A' n' c'] 29))
  clear hi hj
  show Calls _ _ #[.agg #[.int .i64 p, .int .i64 v, .int .i64 h, .int .i64 m, .int .i64 f, .int .i64 s, .int .i64 r, .slice A n c], .agg #[.int .i64 p', .int .i64 v', .int .i64 h', .int .i64 m', .int .i64 f', .int .i64 s', .int .i64 r', .slice A' n' c']] w _
  cases g0 : (p == p')
  · have hbf := Lib.hid (HF.out _ (fun h => (HB.out.1 h).1) (by simpa using g0))
    go_enter Try.func8, Try.ntmps8
    go_wp2
    go_ret
    exact ⟨by rw [hbf.out]; rfl, HX.out⟩
  · skip
    cases g1 : (v == v')
    · have hbf := Lib.hid (HF.out _ (fun h => (HB.out.1 h).2.1) (by simpa using g1))
      go_enter Try.func8, Try.ntmps8
      go_wp2
      go_ret
      exact ⟨by rw [hbf.out]; rfl, HX.out⟩
    · skip
      cases g2 : (h == h')
      · have hbf := Lib.hid (HF.out _ (fun h => (HB.out.1 h).2.2.1) (by simpa using g2))
        go_enter Try.func8, Try.ntmps8
        go_wp2
        go_ret
        exact ⟨by rw [hbf.out]; rfl, HX.out⟩
      · skip
        cases g3 : (m == m')
        · have hbf := Lib.hid (HF.out _ (fun h => (HB.out.1 h).2.2.2.1) (by simpa using g3))
          go_enter Try.func8, Try.ntmps8
          go_wp2
          go_ret
          exact ⟨by rw [hbf.out]; rfl, HX.out⟩
        · skip
          cases g4 : (f == f')
          · have hbf := Lib.hid (HF.out _ (fun h => (HB.out.1 h).2.2.2.2.1) (by simpa using g4))
            go_enter Try.func8, Try.ntmps8
            go_wp2
            go_ret
            exact ⟨by rw [hbf.out]; rfl, HX.out⟩
          · skip
            cases g5 : (s == s')
            · have hbf := Lib.hid (HF.out _ (fun h => (HB.out.1 h).2.2.2.2.2.1) (by simpa using g5))
              go_enter Try.func8, Try.ntmps8
              go_wp2
              go_ret
              exact ⟨by rw [hbf.out]; rfl, HX.out⟩
            · skip
              cases g6 : (r == r')
              · have hbf := Lib.hid (HF.out _ (fun h => (HB.out.1 h).2.2.2.2.2.2.1) (by simpa using g6))
                go_enter Try.func8, Try.ntmps8
                go_wp2
                go_ret
                exact ⟨by rw [hbf.out]; rfl, HX.out⟩
              · skip
                have hbt := Lib.hid (show b = decide (xs = xs') from by rw [Bool.eq_iff_iff, HB.out]; simp at g0 g1 g2 g3 g4 g5 g6; simp [g0, g1, g2, g3, g4, g5, g6])
                go_enter Try.func8, Try.ntmps8
                go_wp2_with (go_at_call 26; refine (HS.out).mono ?_; rintro e w' ⟨rfl, nq, rfl⟩)
                go_ret
                exact ⟨by rw [hbt.out]; rfl, below_drewN HX.out _⟩
end Go.Proofs.Ytegnehdfedfphaa.ImgB
namespace Go.Proofs.Ytegnehdfedfphaa.VmcO
open Go.RowKit Go.Proofs.Ytegnehdfedfphaa.Kit Go.Proofs.Ytegnehdfedfphaa.Byt Go.Proofs.Ytegnehdfedfphaa.Mem Go.Proofs.Ytegnehdfedfphaa.OpsM Go.Proofs.Ytegnehdfedfphaa.VmcM Go.Proofs.Ytegnehdfedfphaa.VmcA Go.Proofs.Ytegnehdfedfphaa.VmcE Go.Proofs.Ytegnehdfedfphaa.VmcF Go.Proofs.Ytegnehdfedfphaa.VmcG Go.Proofs.Ytegnehdfedfphaa.VmcJ Go.Proofs.Ytegnehdfedfphaa.VmcK Go.Proofs.Ytegnehdfedfphaa.VmcN Go.Proofs.Ytegnehdfedfphaa.VmcL Go.Proofs.Ytegnehdfedfphaa.VmcP Go.Proofs.Ytegnehdfedfphaa.VmcS Go.Proofs.Ytegnehdfedfphaa.VmcT Go.Proofs.Ytegnehdfedfphaa.VmcU Go.Proofs.Ytegnehdfedfphaa.VmcX Go.Proofs.Ytegnehdfedfphaa.VmcY Go.Proofs.Ytegnehdfedfphaa.PrtM Go.Proofs.Ytegnehdfedfphaa.PrtA Go.Proofs.Ytegnehdfedfphaa.PrtG
open Go.Proofs.Ytegnehdfedfphaa.ImgA (Im Bx Yes)
open Go.Proofs.Ytegnehdfedfphaa.ImgB (right)
open Go.Proofs.Ytegnehdfedfphaa.TabA (Tri Tris Ta)

section
variable {F : Lab → Prop} {B S T n m c d M N : Nat} {w w' w1 : World} {ρ ρ' σ σ' : Nat → Lab} {A D : Option Addr} {Q R : Nat → Nat} {C : List Tri} {L K L' : Nat → List Int} {i j : Im} {v u v' : V}
theorem Mw.over (h : Mw B w σ N j T D m d R C u K) (hs : Stp F w ρ w' ρ') (hF : ¬ F .out) (hd : ∀ k, σ k ≠ .out → ρ k = .out) (hc : ∀ b o, j.A = some ⟨b, o, none⟩ → 0 < j.n → ρ b = .out) : Mw B w' σ N j T D m d R C u K := by
  have h2 : Stp (fun l => l = .out) w σ w' σ := ⟨⟨hs.keep.os, hs.keep.tape, hs.keep.output, hs.keep.size, fun k hk hn => hs.keep.block k hk (by rw [hd k hn]; exact hF)⟩, fun _ _ => rfl, fun k hk => .inl (Mw.fresh h k hk)⟩
  exact ⟨h.chs.carry h2 (fun e => by cases e) (fun e => by cases e) (fun k e => by cases e) (fun k e => by cases e), h2.keep.blk h.blk (by rw [h.lm]; intro e; cases e), h.lm, h.ok, ⟨hs.keep.rd h.code.code fun hn b o hA => by rw [hc b o hA hn]; exact hF, h.code.byt⟩, h.lc⟩
/-- Two machines, apart. -/
structure Duo (B : Nat) (w : World) (ρ σ : Nat → Lab) (M N : Nat) (i j : Im) (S T : Nat) (A D : Option Addr) (n m c d : Nat) (Q R : Nat → Nat) (C : List Tri) (v : V) (L : Nat → List Int) (u : V) (K : Nat → List Int) : Prop where
  a : Mw B w ρ M i S A n c Q C v L
  b : Mw B w σ N j T D m d R C u K
  ap : ∀ k, ρ k = .out ∨ σ k = .out
  ca : ∀ b o, i.A = some ⟨b, o, none⟩ → 0 < i.n → σ b = .out
  cb : ∀ b o, j.A = some ⟨b, o, none⟩ → 0 < j.n → ρ b = .out
theorem Duo.swap (h : Duo B w ρ σ M N i j S T A D n m c d Q R C v L u K) : Duo B w σ ρ N M j i T S D A m n d c R Q C u K v L := ⟨h.b, h.a, fun k => (h.ap k).symm, h.cb, h.ca⟩
theorem Duo.below (h : Duo B w ρ σ M N i j S T A D n m c d Q R C v L u K) (hb : Below w.heap.size w w') : Duo B w' ρ σ M N i j S T A D n m c d Q R C v L u K := ⟨mw_below h.a hb, mw_below h.b hb, h.ap, h.ca, h.cb⟩
/-- The first one ticks. -/
theorem Duo.tick (h : Duo B w ρ σ M N i j S T A D n m c d Q R C v L u K) (hn : Mw B w' ρ' M i S A n c Q C v' L') (hs : Stp Vm0 w ρ w' ρ') : Duo B w' ρ' σ M N i j S T A D n m c d Q R C v' L' u K where
  a := hn
  b := Mw.over h.b hs out_vm0 (fun k hk => (h.ap k).resolve_right hk) h.cb
  ap := fun k => by
    rcases Nat.lt_or_ge k w.heap.size with hk | hk
    · rw [hs.old k hk]; exact h.ap k
    · exact .inr (Mw.fresh h.b k hk)
  ca := h.ca
  cb := fun b o hA hn => by
    obtain ⟨b', o', hA', hlt, _⟩ := h.b.code.code.2.2.2 hn
    have e := hA
    rw [hA'] at e
    injection e with e
    injection e with e
    subst e
    rw [hs.old _ hlt]
    exact h.cb _ _ hA hn
theorem tickV_like (h : j.p = i.p ∧ j.v = i.v ∧ j.h = i.h ∧ j.m = i.m ∧ j.f = i.f ∧ j.s = i.s ∧ j.r = i.r ∧ j.n = i.n ∧ j.xs = i.xs) : tickV i C v L = tickV j C v L := by
  obtain ⟨p, vv, hh, mm, f, s, r, A, n, c, xs⟩ := i
  obtain ⟨p2, vv2, hh2, mm2, f2, s2, r2, A2, n2, c2, xs2⟩ := j
  dsimp only at h
  obtain ⟨rfl, rfl, rfl, rfl, rfl, rfl, rfl, rfl, rfl⟩ := h
  have e : stepV ⟨p2, vv2, hh2, mm2, f2, s2, r2, A, n2, c, xs2⟩ C = stepV ⟨p2, vv2, hh2, mm2, f2, s2, r2, A2, n2, c2, xs2⟩ C := rfl
  have g : ∀ k r, goV ⟨p2, vv2, hh2, mm2, f2, s2, r2, A, n2, c, xs2⟩ C k r = goV ⟨p2, vv2, hh2, mm2, f2, s2, r2, A2, n2, c2, xs2⟩ C k r := by
    intro k
    induction k with
    | zero => intro r; rfl
    | succ k ih => intro r; unfold goV; rw [e, ih]
  unfold tickV
  dsimp only
  rw [g]
/-- Two machines that were made, and channels for each. -/
theorem duo_start {B0 Ba Bb : Nat} {wa wb wc wd : World} (hm : Blk wa M 90 (mc i v0)) (hi : i.ok wa) (hne : ∀ b o, i.A = some ⟨b, o, none⟩ → 0 < i.n → b ≠ M) (h0 : B0 ≤ M)
    (hn : Blk wb N 90 (mc j v0)) (hj : j.ok wb) (hnf : ∀ b o, j.A = some ⟨b, o, none⟩ → 0 < j.n → b ≠ N) (hN : wa.heap.size ≤ N) (hjA : ∀ b o, j.A = some ⟨b, o, none⟩ → wa.heap.size ≤ b)
    (hab : Below wa.heap.size wa wb) (hbc : Below wb.heap.size wb wc) (hcd : Below wc.heap.size wc wd) (hS : Chs Ba wc ρ S A n c Q C none_) (hT : Chs Bb wd σ T D m d R C none_) (hBa : wb.heap.size ≤ Ba) (hBb : wc.heap.size ≤ Bb) :
    Duo B0 wd (fun k => if k = M then .own 0 else ρ k) (fun k => if k = N then .own 0 else σ k) M N i j S T A D n m c d Q R C v0 none_ v0 none_ := by
  have hM : M < wa.heap.size := hm.lt
  have hNl : N < wb.heap.size := hn.lt
  have sab := hab.size
  have sbc := hbc.size
  have scd := hcd.size
  have ra : ∀ k, ρ k ≠ .out → Ba ≤ k ∧ k < wc.heap.size := hS.bd
  have rb : ∀ k, σ k ≠ .out → Bb ≤ k ∧ k < wd.heap.size := hT.bd
  have ha : Mw B0 wc (fun k => if k = M then .own 0 else ρ k) M i S A n c Q C v0 none_ := mw_start hm v0_ok hi hne (hab.trans (hbc.mono sab)) hS (by omega) h0
  refine ⟨mw_below ha hcd, mw_start hn v0_ok hj hnf (hbc.trans (hcd.mono sbc)) hT (by omega) (by omega), fun k => ?_, fun b o hA hp => ?_, fun b o hA hp => ?_⟩
  · by_cases hk : k = M
    · refine .inr ?_
      rw [if_neg (by omega)]
      exact Classical.byContradiction fun hh => by have := (rb k hh).1; omega
    · by_cases hr : ρ k = .out
      · exact .inl ((if_neg hk).trans hr)
      · have h1 := ra k hr
        refine .inr ?_
        rw [if_neg (by omega)]
        exact Classical.byContradiction fun hh => by have := (rb k hh).1; omega
  · obtain ⟨b', o', hA', hlt, _⟩ := hi.code.2.2.2 hp
    have e := hA
    rw [hA'] at e
    injection e with e
    injection e with e
    subst e
    show (if _ = N then Lab.own 0 else σ _) = .out
    rw [if_neg (by omega)]
    exact Classical.byContradiction fun hh => by have := (rb _ hh).1; omega
  · obtain ⟨b', o', hA', hlt, _⟩ := hj.code.2.2.2 hp
    have e := hA
    rw [hA'] at e
    injection e with e
    injection e with e
    subst e
    have h1 := hjA _ _ hA
    show (if _ = M then Lab.own 0 else ρ _) = .out
    rw [if_neg (by omega)]
    exact Classical.byContradiction fun hh => by have := (ra _ hh).1; omega
end
theorem run_field_slice {P : Program} {T : TypeId} {fs : Array Field} {f : Field} {k : Nat} {xs : List Value} {v : Value} (ht : P.underlying T = some (.struct fs)) (hf : fs[k]? = some f) (hd : ∃ d, P.underlying f.type = some (.slice d)) (hv : xs[f.offset]? = some v) (w : World) :
    (Instr.field T (.agg xs.toArray) k).run P w = .ok v w := by
  obtain ⟨d, hd⟩ := hd
  simp [Instr.field, run_underlying ht, hf, part, isAgg, run_underlying hd, hv, asAgg]
theorem prs_keep {F : Nat → Prop} {w w' : World} {A : Option Addr} {n c : Nat} {R : List (Int × Int)} (h : Prs w A n c R) (k : Keep F w w') (hF : ∀ b o, A = some ⟨b, o, none⟩ → ¬ F b) : Prs w' A n c R :=
  ⟨h.1, h.2.1, h.2.2.1, h.2.2.2.1, fun hp => by
    obtain ⟨b, o, hA, hlt, hc⟩ := h.2.2.2.2 hp
    have e := k.block b hlt (hF b o hA)
    have hcell : ∀ t, w'.cell? ⟨b, t, none⟩ = w.cell? ⟨b, t, none⟩ := fun t => by unfold World.cell?; rw [e]
    exact ⟨b, o, hA, Nat.lt_of_lt_of_le hlt k.size, fun j p hj => by rw [hcell, hcell]; exact hc j p hj⟩⟩
/-- A cell of an own row is there, may be written, and the row is an own row behind it. -/
theorem own_at {w : World} {B n c k : Nat} {e : TypeId} {A : Option Addr} {xs : List Value} (h : w.ownsRow B e 1 (.slice A n c) n xs) (hk : k < n) : ∃ g x, A = some ⟨g, 0, none⟩ ∧ B ≤ g ∧ g < w.heap.size ∧ xs[k]? = some x ∧ w.cell? ⟨g, k, none⟩ = some x ∧ w.frozen? ⟨g, k, none⟩ = false ∧ ∀ u, (w.setCell ⟨g, k, none⟩ u).ownsRow B e 1 (.slice A n c) n (xs.set k u) := by
  have hl : xs.length = n := by have := h.1; omega
  rcases h.2 with ⟨hv, h0⟩ | ⟨g, cap, cur, hv, hb, hg, _⟩
  · omega
  · simp only [Value.slice.injEq] at hv
    obtain ⟨rfl, _, rfl⟩ := hv
    exact ⟨g, xs[k], rfl, hb, lt_of_block hg, List.getElem?_eq_getElem (by omega), by rw [h.cellAt k (by omega)]; exact List.getElem?_eq_getElem (by omega), h.frozenAt k, fun u => (h.stored k u).1⟩
end Go.Proofs.Ytegnehdfedfphaa.VmcO
namespace Go.Proofs.Ytegnehdfedfphaa.VmrQ
open Go.RowKit Go.Proofs.Ytegnehdfedfphaa.Kit Go.Proofs.Ytegnehdfedfphaa.Byt Go.Proofs.Ytegnehdfedfphaa.Mem Go.Proofs.Ytegnehdfedfphaa.OpsM Go.Proofs.Ytegnehdfedfphaa.VmcM Go.Proofs.Ytegnehdfedfphaa.VmcE Go.Proofs.Ytegnehdfedfphaa.VmcF Go.Proofs.Ytegnehdfedfphaa.VmcG Go.Proofs.Ytegnehdfedfphaa.VmcJ Go.Proofs.Ytegnehdfedfphaa.VmcN Go.Proofs.Ytegnehdfedfphaa.VmrB Go.Proofs.Ytegnehdfedfphaa.VmrE Go.Proofs.Ytegnehdfedfphaa.VmrG Go.Proofs.Ytegnehdfedfphaa.VmrJ Go.Proofs.Ytegnehdfedfphaa.VmrP Go.Proofs.Ytegnehdfedfphaa.PrtM Go.Proofs.Ytegnehdfedfphaa.PrtA
open Go.Proofs.Ytegnehdfedfphaa.ImgA (Im)
open Go.Proofs.Ytegnehdfedfphaa.TabA (Tri Tris open_tris)
open Go.Proofs.Ytegnehdfedfphaa.TabI (i64s i64s_len i64s_one)
open Go.Proofs.Ytegnehdfedfphaa.PrtR (Ref Rf Rft)

theorem rk_not {l : Lab} (h : Rk l) : l ≠ .out ∧ l ≠ .own 0 ∧ l ≠ .own 3 ∧ l ≠ .set ∧ l ≠ .list ∧ (∀ k, l ≠ .head k) ∧ ∀ k, l ≠ .row k := by
  rcases h with ((rfl | rfl) | (rfl | rfl) | rfl | rfl) | rfl <;> simp
theorem ref_not {l : Lab} (h : Ref l) : l ≠ .out ∧ l ≠ .own 0 ∧ l ≠ .own 3 ∧ l ≠ .set ∧ l ≠ .list ∧ (∀ k, l ≠ .head k) ∧ ∀ k, l ≠ .row k := by
  rcases h with rfl | rfl <;> simp
theorem rl_not {l : Lab} (h : Rl l) : l ≠ .out ∧ l ≠ .own 0 ∧ l ≠ .own 3 ∧ l ≠ .set ∧ l ≠ .list ∧ (∀ k, l ≠ .head k) ∧ ∀ k, l ≠ .row k := by
  rcases h with rfl | rfl <;> simp
theorem vm0_ref : ∀ l, l = .out ∨ Rl l ∨ l = .rset ∨ l = .rlist ∨ l = .rdata → ¬ Vm0 l := by
  rintro l (rfl | (rfl | rfl) | rfl | rfl | rfl) ((e | e | e | e) | e) <;> first | exact e | (injection e with e; omega) | cases e
theorem prog_ref : ∀ l, l = .out ∨ Rl l ∨ l = .rset ∨ l = .rlist ∨ l = .rdata → ¬ Prog l := fun l h e => vm0_ref l h (.inl (.inl e))
section
variable {F : Lab → Prop} {B M S N n c m d X gl c' nc : Nat} {w w' : World} {ρ ρ' : Nat → Lab} {A D A' : Option Addr} {Q : Nat → Nat} {C : List Tri} {L L' : Nat → List Int} {i j : Im} {v u : V} {z : Z}
/-- Something else has changed. -/
theorem Mw.carry (h : Mw B w ρ M j S A n c Q C v L) (hs : Stp F w ρ w' ρ') (hF : ∀ l, F l → l ≠ .out ∧ l ≠ .own 0 ∧ l ≠ .own 3 ∧ l ≠ .set ∧ l ≠ .list ∧ (∀ k, l ≠ .head k) ∧ ∀ k, l ≠ .row k) : Mw B w' ρ' M j S A n c Q C v L := by
  have h0 : ¬ F .out := fun e => (hF _ e).1 rfl
  obtain ⟨k1, k2⟩ := Im.ok.carry h.code hs h0 h.lc
  exact ⟨h.chs.carry hs (fun e => (hF _ e).2.2.2.1 rfl) (fun e => (hF _ e).2.2.2.2.1 rfl) (fun k e => (hF _ e).2.2.2.2.2.1 k rfl) (fun k e => (hF _ e).2.2.2.2.2.2 k rfl), hs.keep.blk h.blk (by rw [h.lm]; exact fun e => (hF _ e).2.1 rfl), by rw [hs.old M h.blk.lt]; exact h.lm, h.ok, k1, k2⟩
/-- What the channels hold has changed. -/
theorem Mw.chan (h : Mw B w ρ M j S A n c Q C v L) (hc : Chs B w' ρ' S A n c Q C L') (hs : Stp Prog w ρ w' ρ') : Mw B w' ρ' M j S A n c Q C v L' := by
  obtain ⟨k1, k2⟩ := Im.ok.carry h.code hs id h.lc
  exact ⟨hc, hs.keep.blk h.blk (by rw [h.lm]; exact id), by rw [hs.old M h.blk.lt]; exact h.lm, h.ok, k1, k2⟩
theorem Rq.chan (h : Rq B w ρ N i D m d X gl A' nc c' C z L) (hr : Rf B w' ρ' X gl A' nc c' C L') (hs : Stp Ref w ρ w' ρ') (hf : Ft C L') : Rq B w' ρ' N i D m d X gl A' nc c' C z L' := by
  obtain ⟨⟨A, n, c, h1⟩, _, _⟩ := h
  exact ⟨⟨A, n, c, h1.carry hs ref_out (ref_own 10) (ref_own 11)⟩, hr, hf⟩
/-- Both, beside each other. -/
structure Pq (B : Nat) (w : World) (ρ : Nat → Lab) (M : Nat) (j : Im) (S : Nat) (A : Option Addr) (n c : Nat) (Q : Nat → Nat) (C : List Tri) (v : V) (L : Nat → List Int) (N : Nat) (i : Im) (D : Option Addr) (m d : Nat) (X gl : Nat) (A' : Option Addr) (c' : Nat) (z : Z) (L' : Nat → List Int) : Prop where
  a : Mw B w ρ M j S A n c Q C v L
  b : Rq B w ρ N i D m d X gl A' n c' C z L'
theorem Pq.below (h : Pq B w ρ M j S A n c Q C v L N i D m d X gl A' c' z L') (hb : Below w.heap.size w w') : Pq B w' ρ M j S A n c Q C v L N i D m d X gl A' c' z L' := ⟨VmcL.mw_below h.a hb, Rq.below h.b hb⟩
theorem Pq.out (h : Pq B w ρ M j S A n c Q C v L N i D m d X gl A' c' z L') : ∀ k, w.heap.size ≤ k → ρ k = .out := fun k hk => Classical.byContradiction fun hn => by have := (h.a.chs.bd k hn).2; omega
end
def lk (a b : Im) : Prop := a.p = b.p ∧ a.v = b.v ∧ a.h = b.h ∧ a.m = b.m ∧ a.f = b.f ∧ a.s = b.s ∧ a.r = b.r ∧ a.n = b.n ∧ a.xs = b.xs
theorem lk.trans {a b c : Im} (h : lk a b) (k : lk b c) : lk a c := by
  obtain ⟨a1, a2, a3, a4, a5, a6, a7, a8, a9⟩ := h
  obtain ⟨b1, b2, b3, b4, b5, b6, b7, b8, b9⟩ := k
  exact ⟨a1.trans b1, a2.trans b2, a3.trans b3, a4.trans b4, a5.trans b5, a6.trans b6, a7.trans b7, a8.trans b8, a9.trans b9⟩
theorem lk.symm {a b : Im} (h : lk a b) : lk b a := by
  obtain ⟨a1, a2, a3, a4, a5, a6, a7, a8, a9⟩ := h
  exact ⟨a1.symm, a2.symm, a3.symm, a4.symm, a5.symm, a6.symm, a7.symm, a8.symm, a9.symm⟩
theorem lk.right {a b : Im} (h : lk a b) (hr : ImgB.right b) : ImgB.right a := by
  obtain ⟨a1, a2, a3, a4, a5, a6, a7, a8, a9⟩ := h
  unfold ImgB.right at hr ⊢
  rw [a1, a2, a3, a4, a5, a6, a7, a8]
  exact hr
theorem lk.like {a b : Im} (h : lk a b) : ImgB.like a b := by
  obtain ⟨a1, a2, a3, a4, a5, a6, a7, a8, a9⟩ := h
  exact ⟨a1, a2, a3, a4, a5, a6, a7, a9⟩
section
variable {i j : Im} {C : List Tri} {z : Z} {L : Nat → List Int}
theorem tickT_like (h : lk j i) : tickT i C z L = tickT j C z L := by
  obtain ⟨p, vv, hh, mm, f, s, r, A, n, c, xs⟩ := i
  obtain ⟨p2, vv2, hh2, mm2, f2, s2, r2, A2, n2, c2, xs2⟩ := j
  unfold lk at h
  dsimp only at h
  obtain ⟨rfl, rfl, rfl, rfl, rfl, rfl, rfl, rfl, rfl⟩ := h
  have e : stpT ⟨p2, vv2, hh2, mm2, f2, s2, r2, A, n2, c, xs2⟩ C = stpT ⟨p2, vv2, hh2, mm2, f2, s2, r2, A2, n2, c2, xs2⟩ C := rfl
  have g : ∀ k t, goT ⟨p2, vv2, hh2, mm2, f2, s2, r2, A, n2, c, xs2⟩ C k t = goT ⟨p2, vv2, hh2, mm2, f2, s2, r2, A2, n2, c2, xs2⟩ C k t := by
    intro k
    induction k with
    | zero => intro t; rfl
    | succ k ih => intro t; unfold goT; rw [e, ih]
  unfold tickT
  dsimp only
  rw [g]
end
set_option maxRecDepth 100000 in
theorem open_acts3 {H : Type} {enc : TypeId × Value → H} {w : World} {base : Nat} {v : Value} {d : DataW H} {p : List MemPlace} (h : DataW.Trod enc Try.prog w 0 (fun _ => true) true 30 v d p) (o : Value.okWide Try.prog w .any base 30 v) :
    ∃ A n c R, v = .slice A n c ∧ Tris w A n c R := by
  obtain ⟨a, n, c, rfl⟩ := Go.WideShapes.okWide_slice Try.underlying30 o
  obtain ⟨fuel, hf⟩ := h
  obtain ⟨A, m, k, R, e, hT⟩ := open_tris Try.underlying30 Try.underlying48 (by kernel_rfl) ⟨rfl, rfl⟩ ⟨rfl, rfl⟩ ⟨rfl, rfl⟩ hf
  simp [Value.cells] at e
  obtain ⟨rfl, rfl, rfl⟩ := e
  exact ⟨_, _, _, R, rfl, hT⟩
end Go.Proofs.Ytegnehdfedfphaa.VmrQ
namespace Go.Proofs.Ytegnehdfedfphaa.VmrM
open Go.RowKit Go.Proofs.Ytegnehdfedfphaa.Kit Go.Proofs.Ytegnehdfedfphaa.Byt Go.Proofs.Ytegnehdfedfphaa.Mem Go.Proofs.Ytegnehdfedfphaa.OpsM Go.Proofs.Ytegnehdfedfphaa.VmcM Go.Proofs.Ytegnehdfedfphaa.VmcP Go.Proofs.Ytegnehdfedfphaa.VmrB Go.Proofs.Ytegnehdfedfphaa.VmrE Go.Proofs.Ytegnehdfedfphaa.VmrQ Go.Proofs.Ytegnehdfedfphaa.PrtA
open Go.Proofs.Ytegnehdfedfphaa.ImgA (Im)
open Go.Proofs.Ytegnehdfedfphaa.ImgB (right)
open Go.Proofs.Ytegnehdfedfphaa.TabI (i64s i64s_len i64s_one info_int info_of)

theorem to_drew (w : World) : Below w.heap.size w w.drew := (Below.refl w.heap.size w).drew
/-- A machine that was just made. -/
def zn (m : Nat) : Z := ⟨0, [], List.replicate m 0, 0, 0⟩
theorem rm_start {B N gm m : Nat} {w w' : World} {ρ : Nat → Lab} {j : Im} (hbd : Bd B w ρ) (hB : B ≤ w.heap.size) (hb : Below w.heap.size w w') (hN : Blk w' N 69 (rc j (zn m) none 0 0 (some ⟨gm, 0, none⟩) m m)) (hM : w'.heap[gm]? = some (.cells (List.replicate m (.int .i64 0)).toArray 3 (0, 0)))
    (hj : j.ok w') (hjn : ∀ b o, j.A = some ⟨b, o, none⟩ → w.heap.size ≤ b ∧ b ≠ N ∧ b ≠ gm) (h1 : w.heap.size ≤ N) (h2 : w.heap.size ≤ gm) (h3 : N ≠ gm) (hm : m ≤ 16) (hmm : (m : Int) = j.m) :
    ∃ ρ', Rm B w' ρ' N j none 0 0 (some ⟨gm, 0, none⟩) m m (zn m) ∧ Stp Rl w ρ w' ρ' := by
  obtain ⟨ρ', hρ⟩ : ∃ ρ' : Nat → Lab, ρ' = fun k => if k = N then .own 10 else if k = gm then .own 11 else ρ k := ⟨_, rfl⟩
  have e1 : ρ' N = .own 10 := by rw [hρ]; exact if_pos rfl
  have e2 : ρ' gm = .own 11 := by rw [hρ]; exact (if_neg (fun e => h3 e.symm)).trans (if_pos rfl)
  have e3 : ∀ k, k ≠ N → k ≠ gm → ρ' k = ρ k := fun k a b => by rw [hρ]; exact (if_neg a).trans (if_neg b)
  have hout : ∀ k, w.heap.size ≤ k → ρ k = .out := fun k hk => Classical.byContradiction fun hn => by have := (hbd k hn).2; omega
  have hs : Stp Rl w ρ w' ρ' := ⟨Keep.of_below hb, fun k hk => e3 k (by omega) (by omega), fun k hk => by
    by_cases a : k = N
    · rw [a]; exact .inr ⟨.inl e1, hN.lt⟩
    · by_cases b : k = gm
      · rw [b]; exact .inr ⟨.inr e2, lt_of_block hM⟩
      · exact .inl ((e3 k a b).trans (hout k hk))⟩
  refine ⟨ρ', ⟨hbd.step hB hs, Nat.le_trans hB hb.size, hN, e1, Rd.nil _, fun h => absurd h (by omega), ?_, fun g hg => ?_, hj, fun hp b o hA => ?_, by omega, hm, hmm, fun x hx => (by cases hx), fun x hx => ?_⟩, hs⟩
  · have q := own_of_block (base := B) (n := m) hM (by omega) (by simp) (by simp; omega)
    simpa [zn, i64s] using q
  · have e : gm = g := by simpa [Value.ownBlock] using hg
    rw [← e]
    exact e2
  · obtain ⟨a, b', c⟩ := hjn b o hA
    exact (e3 b b' c).trans (hout b a)
  · have e := List.eq_of_mem_replicate (show x ∈ List.replicate m (0 : Int) from hx)
    rw [e]
    exact ⟨by decide, by decide⟩
set_option maxRecDepth 100000 in
set_option maxHeartbeats 1600000 in
theorem rvnew_any (i : Im) {B : Nat} {w : World} {ρ : Nat → Lab} (h : i.ok w) (hr : right i) (hbd : Bd B w ρ) (hB : B ≤ w.heap.size) :
    Calls Try.prog 11 #[i.val] w fun e w' => ∃ N j D m d ρ', e = .returned (.pointer (some ⟨N, 0, none⟩)) ∧ lk j i ∧ Rm B w' ρ' N j none 0 0 D m d (zn m) ∧ Stp Rl w ρ w' ρ' ∧ Below w.heap.size w w' := by
  obtain ⟨i8, hi8, hz8, hs8, hb8⟩ := info_of info_u8
  obtain ⟨i0, hi0, hz0, hz1, hz2⟩ := info_of info_int
  have hn0 : i.n ≤ 96 ∧ 0 < i.n := by have := hr.2.2.2.2.2.2.2; omega
  obtain ⟨m, hm⟩ : ∃ m : Nat, i.m = m := ⟨i.m.toNat, by have := hr.2.2.2.1.1; omega⟩
  have m16 : m ≤ 16 := by have := hr.2.2.2.1.2; omega
  have HBD := Lib.hid hbd
  have HBB := Lib.hid hB
  have HOK := Lib.hid h
  obtain ⟨p, v, hh, mm, f, s, r, A, n, c, xs⟩ := i
  obtain rfl : mm = (m : Int) := hm
  dsimp only at hn0
  obtain ⟨hn96, hn1⟩ := hn0
  obtain ⟨wa, hwa⟩ : ∃ wa, wa = w.alloc (.cells #[.int .i64 p, .int .i64 v, .int .i64 hh, .int .i64 m, .int .i64 f, .int .i64 s, .int .i64 r, .slice A n c] 29) := ⟨_, rfl⟩
  have hba : Below w.heap.size w wa := by rw [hwa]; exact (Below.refl _ _).alloc (Nat.le_refl _) _
  have b1 : Blk wa w.heap.size 29 [.int .i64 p, .int .i64 v, .int .i64 hh, .int .i64 m, .int .i64 f, .int .i64 s, .int .i64 r, .slice A n c] := by rw [hwa]; exact Blk.new w _ _
  have hsa : wa.heap.size = w.heap.size + 1 := by rw [hwa]; exact World.size_alloc _ _
  have HRA := Lib.hid (HOK.out.code.below hba)
  have HBA := Lib.hid hba
  have B1 := Lib.hid b1
  have HSA := Lib.hid hsa
  have x7 := b1.cell (i := 7) (v := .slice A n c) rfl
  clear h hr hbd hB hba b1 hsa
  show Calls _ _ #[.agg #[.int .i64 p, .int .i64 v, .int .i64 hh, .int .i64 m, .int .i64 f, .int .i64 s, .int .i64 r, .slice A n c]] w _
  go_enter Try.func11, Try.ntmps11
  go_upto_region 2 with (fail)
  rw [← hwa]
  clear hwa
  go_wp2_with (at_builtin; refine wpList_add _ rfl (.tmp 4) (.tmp 6) _ rfl wa.heap.size 5 i8 _ 1 Try.underlying27 hi8 hz8 hs8 hb8 rfl _ 0 [] rfl (World.ownsRow_nil wa wa.heap.size 5 1) A n c (u8n xs) rfl HRA.out (u8n_one _) (by omega) (by omega) (Nat.le_refl _) ?_; intro A2 n2 c2 w2 hn2 hown2 hg2 hat2; have hb2 := below_add (Below.refl wa.heap.size wa) (World.ownsRow_nil wa wa.heap.size 5 1) (Nat.le_refl _) hg2; have x7' := (B1.out.below hb2).cell (i := 7) rfl; have z7 := (B1.out.below hb2).frozen 7; go_upto_region 4 with (fail))
  have HN2 := Lib.hid (show n2 = n from by have := hn2.out; omega)
  have HB2 := Lib.hid (HBA.out.trans (hb2.mono HBA.out.size))
  have HO2 := Lib.hid (show w2.ownsRow wa.heap.size 5 1 (.slice A2 n2 c2) n2 (u8n xs) from by simpa using hown2)
  have HB0 := Lib.hid ((B1.out.below hb2).set 7 (.slice A2 n2 c2))
  obtain ⟨w3, hw3⟩ : ∃ w3, w3 = w2.setCell ⟨w.heap.size, 7, none⟩ (.slice A2 n2 c2) := ⟨_, rfl⟩
  have HB3 := Lib.hid (show Below w.heap.size w w3 from by rw [hw3]; exact HB2.out.setCell (Nat.le_refl _) _)
  have HO3 := Lib.hid (show w3.ownsRow wa.heap.size 5 1 (.slice A2 n2 c2) n2 (u8n xs) from by
    rw [hw3]
    exact (Keep.set (F := fun j => j = w.heap.size) w2 7 _ rfl).own HO2.out fun g hg e => by have h1 := (HO2.out.lt g hg).1; have h2 := HSA.out; omega)
  have HX3 : Hid (Blk w3 w.heap.size 29 [.int .i64 p, .int .i64 v, .int .i64 hh, .int .i64 m, .int .i64 f, .int .i64 s, .int .i64 r, .slice A2 n2 c2]) := Lib.hid (by rw [hw3]; exact HB0.out)
  rw [← hw3]
  clear hw3 hn2 hown2 hg2 hat2 hb2 x7' z7 x7 HB0
  have x0 := HX3.out.cell (i := 0) rfl
  have x1 := HX3.out.cell (i := 1) rfl
  have x2 := HX3.out.cell (i := 2) rfl
  have x3 := HX3.out.cell (i := 3) rfl
  have x4 := HX3.out.cell (i := 4) rfl
  have x5 := HX3.out.cell (i := 5) rfl
  have x6 := HX3.out.cell (i := 6) rfl
  have x7 := HX3.out.cell (i := 7) rfl
  obtain ⟨Z, hZ⟩ : ∃ Z, Z = madeCells #[.int .i64 0] m := ⟨_, rfl⟩
  have hmk := run_make_row' (P := Try.prog) 64 3 (.int .i64 0) 8 Try.underlying64 info_int rfl .i64 .i64 m (by omega) (by omega)
  rw [← hZ] at hmk
  have HZ := Lib.hid hZ
  have hlt3 : w.heap.size < w3.heap.size := HX3.out.lt
  clear hZ
  obtain ⟨N, hN⟩ : ∃ N, N = w3.heap.size + 1 := ⟨_, rfl⟩
  have HB4 := Lib.hid (show Below w3.heap.size w3 (w3.alloc (.cells Z 3)) from (Below.refl _ _).alloc (Nat.le_refl _) _)
  have HN4 := Lib.hid (show (w3.alloc (.cells Z 3)).heap.size = N from by rw [World.size_alloc, hN])
  have HM4 := Lib.hid (show (w3.alloc (.cells Z 3)).heap[w3.heap.size]? = some (.cells (List.replicate m (.int .i64 0)).toArray 3 (0, 0)) from by
    have e : Z = (List.replicate m (Value.int .i64 0)).toArray := by
      rw [HZ.out]
      apply Array.ext'
      rw [toList_madeCells_one]
    rw [e]
    exact heap_alloc_new w3 _)
  go_region
  rw [← hN]
  clear x0 x1 x2 x3 x4 x5 x6 x7 hmk
  have hj : (Im.mk p v hh (m : Int) f s r A2 n2 c2 xs).ok w3 := ⟨Rd.own HO3.out, HOK.out.byt⟩
  obtain ⟨w5, hw5⟩ : ∃ w5, w5 = ((w3.alloc (.cells Z 3)).alloc (.cells (rc ⟨p, v, hh, (m : Int), f, s, r, A2, n2, c2, xs⟩ (zn m) none 0 0 (some ⟨w3.heap.size, 0, none⟩) m m).toArray 69)) := ⟨_, rfl⟩
  have HB5 := Lib.hid (show Below w3.heap.size w3 w5 from by rw [hw5]; exact HB4.out.alloc HB4.out.size _)
  have HN5 := Lib.hid (show Blk w5 N 69 (rc ⟨p, v, hh, (m : Int), f, s, r, A2, n2, c2, xs⟩ (zn m) none 0 0 (some ⟨w3.heap.size, 0, none⟩) m m) from by rw [hw5, ← HN4.out]; exact Blk.new _ _ _)
  have HM5 := Lib.hid (show w5.heap[w3.heap.size]? = some (.cells (List.replicate m (.int .i64 0)).toArray 3 (0, 0)) from by
    rw [hw5]
    exact (((Below.refl _ (w3.alloc (.cells Z 3))).alloc (Nat.le_refl _) _).block _ (by rw [World.size_alloc]; exact Nat.lt_succ_self _)).trans HM4.out)
  obtain ⟨ρ', k1, k2⟩ := rm_start (j := ⟨p, v, hh, (m : Int), f, s, r, A2, n2, c2, xs⟩) (w := w) (w' := w5) HBD.out HBB.out (HB3.out.trans (HB5.out.mono HB3.out.size)) HN5.out HM5.out (hj.below HB5.out) (fun b o hA => by
    have h1 := (HO3.out.lt b (by rw [show A2 = _ from hA]; rfl))
    have h2 := HSA.out
    exact ⟨by omega, by omega, by omega⟩) (by have := HB3.out.size; omega) HB3.out.size (by omega) m16 rfl
  have K1 := Lib.hid k1
  have K2 := Lib.hid k2
  clear k1 k2 hj
  go_wp2
  go_ret
  subst hw5
  exact ⟨N, ⟨p, v, hh, (m : Int), f, s, r, A2, n2, c2, xs⟩, some ⟨w3.heap.size, 0, none⟩, m, m, ρ', rfl, ⟨rfl, rfl, rfl, rfl, rfl, rfl, rfl, HN2.out, rfl⟩, K1.out.below (to_drew _), K2.out.drew, (HB3.out.trans (HB5.out.mono HB3.out.size)).drew⟩
end Go.Proofs.Ytegnehdfedfphaa.VmrM
namespace Go.Proofs.Ytegnehdfedfphaa.TabK
open Go.RowKit Go.Proofs.Ytegnehdfedfphaa.Kit Go.Proofs.Ytegnehdfedfphaa.Byt Go.Proofs.Ytegnehdfedfphaa.Mem Go.Proofs.Ytegnehdfedfphaa.TabA Go.Proofs.Ytegnehdfedfphaa.TabB Go.Proofs.Ytegnehdfedfphaa.TabC Go.Proofs.Ytegnehdfedfphaa.TabD Go.Proofs.Ytegnehdfedfphaa.TabE Go.Proofs.Ytegnehdfedfphaa.TabH Go.Proofs.Ytegnehdfedfphaa.TabI

/-- The window ahead of the k-th one begins there. -/
def lastOf (W : List Tri) : Nat → Int
  | 0 => -1
  | k + 1 => match W[k]? with
    | some r => r.b
    | none => -1
theorem lastOf_next {W : List Tri} {k : Nat} {r : Tri} (h : W[k]? = some r) : lastOf W (k + 1) = r.b := by simp [lastOf, h]
/-- Which ticks are used by the first k windows: none at their end and beyond; all of the last one. -/
structure Used (F : Nat) (W : List Tri) (k : Nat) (U : List Bool) : Prop where
  len : U.length = F
  below : ∀ x : Nat, U.getD x false = true → (x : Int) < endAt W k
  last : ∀ x : Nat, 0 < k → lastOf W k ≤ (x : Int) → (x : Int) < endAt W k → U.getD x false = true
theorem Used.zero (F : Nat) (W : List Tri) : Used F W 0 (List.replicate F false) :=
  ⟨by simp, fun x h => by
    rw [List.getD_eq_getElem?_getD, List.getElem?_replicate] at h
    split at h <;> simp at h, fun _ h => by omega⟩
theorem Used.next {F : Nat} {W : List Tri} {k : Nat} {U U' : List Bool} {r : Tri} (h : Used F W k U) (hr : W[k]? = some r) (hl : U'.length = F) (he : endAt W k ≤ r.b) (hc : 1 ≤ r.c) (hU : ∀ x : Nat, U'.getD x false = true ↔ U.getD x false = true ∨ (r.b ≤ (x : Int) ∧ (x : Int) < r.b + r.c)) : Used F W (k + 1) U' :=
  ⟨hl, fun x hx => by
    rw [endAt_next hr]
    rcases (hU x).1 hx with h1 | h1
    · have := h.below x h1; omega
    · exact h1.2, fun x _ h1 h2 => by
    rw [endAt_next hr] at h2
    rw [lastOf_next hr] at h1
    exact (hU x).2 (.inr ⟨h1, h2⟩)⟩
theorem bools_rep (F : Nat) : List.replicate F (Value.bool false) = bs (List.replicate F false) := by simp [bs]
theorem getD_set_true (U : List Bool) (q : Nat) (hq : q < U.length) (x : Nat) : (U.set q true).getD x false = true ↔ U.getD x false = true ∨ x = q := by
  rw [List.getD_eq_getElem?_getD, List.getElem?_set]
  by_cases h : q = x
  · subst h
    rw [if_pos rfl, if_pos hq]; simp
  · rw [if_neg h, List.getD_eq_getElem?_getD]
    exact ⟨.inl, fun h1 => by
      rcases h1 with h1 | h1
      · exact h1
      · exact absurd h1.symm h⟩

structure WS (w : World) (t : Ta) (gU : Nat) (U : List Bool) (wr : World) : Prop where
  bx : Bx w t wr
  ub : Blk wr gU 4 (bs U)
  lo : w.heap.size < gU
section
variable {w wr w' : World} {t : Ta} {gU : Nat} {U : List Bool}
theorem WS.step (h : WS w t gU U wr) (hb : Below wr.heap.size wr w') : WS w t gU U w' := ⟨h.bx.step hb, h.ub.below hb, h.lo⟩
theorem WS.alloc (h : WS w t gU U wr) (o : Obj) : WS w t gU U (wr.alloc o) := h.step ((Below.refl _ _).alloc (Nat.le_refl _) o)
theorem WS.set (h : WS w t gU U wr) (k : Nat) (v : Bool) : WS w t gU (U.set k v) (wr.setCell ⟨gU, k, none⟩ (.bool v)) := by
  have h1 := h.lo
  exact ⟨⟨h.bx.blk.far (by show w.heap.size ≠ gU; omega) _, h.bx.bel.setCell (by show w.heap.size ≤ gU; omega) _⟩, by rw [← bs_set]; exact h.ub.set k _, h.lo⟩
theorem WS.at_ (h : WS w t gU U wr) {k : Nat} (hk : k < U.length) : wr.cell? ⟨gU, k, none⟩ = some (.bool (U.getD k false)) := h.ub.cell (bs_at hk)
end

set_option maxRecDepth 100000 in
set_option maxHeartbeats 12800000 in
theorem rright_any (t : Ta) (w : World) (h : t.ok w) (b : Bool) (hb : b = true ↔ right t) : Calls Try.prog 5 #[t.val] w (Yes w b) := by
  obtain ⟨i0, hi0, hz0, hz1, hz2⟩ := Go.Proofs.Ytegnehdfedfphaa.TabI.info_of info_bool
  obtain ⟨fr, A1, n1, c1, P, A2, n2, c2, W, A3, n3, c3, C, tr⟩ := t
  have hm1 : n1 ≤ 9223372036854775807 := h.P.le
  have hm2 : n2 ≤ 9223372036854775807 := h.W.le
  have hm3 : n3 ≤ 9223372036854775807 := h.C.le
  have HL1 := Lib.hid (show P.length = n1 from h.P.1)
  have HL2 := Lib.hid (show W.length = n2 from h.W.1)
  have HL3 := Lib.hid (show C.length = n3 from h.C.1)
  have HB := Lib.hid (show b = true ↔ (1 ≤ fr ∧ fr ≤ 64) ∧ (1 ≤ tr ∧ tr ≤ 7) ∧ PartsOk P ∧ WinsOk n1 fr W ∧ ChansOk n1 C from by rw [← HL1.out]; exact hb)
  have HO := Lib.hid h
  clear h hb
  have HX := Lib.hid (Bx.new w ⟨fr, A1, n1, c1, P, A2, n2, c2, W, A3, n3, c3, C, tr⟩)
  have HF := Lib.hid (show ∀ p : Prop, (b = true → p) → ¬ p → b = false from fun p h hp => by rw [Bool.eq_false_iff]; exact fun hb => hp (h hb))
  show Calls _ _ #[.agg #[.int .i64 fr, .slice A1 n1 c1, .slice A2 n2 c2, .slice A3 n3 c3, .int .i64 tr]] w _
  by_cases g1 : fr < 1
  · skip
    have hbf := Lib.hid (HF.out _ (fun h => (HB.out.1 h).1) (by have := HL1.out; have := HL2.out; have := HL3.out; omega))
    go_enter Try.func5, Try.ntmps5
    go_wp2
    go_ret
    exact ⟨by rw [hbf.out]; rfl, HX.out.bel⟩
  · skip
    by_cases g2 : 64 < fr
    · skip
      have hbf := Lib.hid (HF.out _ (fun h => (HB.out.1 h).1) (by have := HL1.out; have := HL2.out; have := HL3.out; omega))
      go_enter Try.func5, Try.ntmps5
      go_wp2
      go_ret
      exact ⟨by rw [hbf.out]; rfl, HX.out.bel⟩
    · skip
      by_cases g3 : (n1 : Int) < 2
      · skip
        have hbf := Lib.hid (HF.out _ (fun h => (show 2 ≤ P.length ∧ P.length ≤ 4 from (HB.out.1 h).2.2.1.1)) (by have := HL1.out; have := HL2.out; have := HL3.out; omega))
        go_enter Try.func5, Try.ntmps5
        go_wp2
        go_ret
        exact ⟨by rw [hbf.out]; rfl, HX.out.bel⟩
      · skip
        by_cases g4 : 4 < (n1 : Int)
        · skip
          have hbf := Lib.hid (HF.out _ (fun h => (show 2 ≤ P.length ∧ P.length ≤ 4 from (HB.out.1 h).2.2.1.1)) (by have := HL1.out; have := HL2.out; have := HL3.out; omega))
          go_enter Try.func5, Try.ntmps5
          go_wp2
          go_ret
          exact ⟨by rw [hbf.out]; rfl, HX.out.bel⟩
        · skip
          by_cases g5 : tr < 1
          · skip
            have hbf := Lib.hid (HF.out _ (fun h => (HB.out.1 h).2.1) (by have := HL1.out; have := HL2.out; have := HL3.out; omega))
            go_enter Try.func5, Try.ntmps5
            go_wp2
            go_ret
            exact ⟨by rw [hbf.out]; rfl, HX.out.bel⟩
          · skip
            by_cases g6 : 7 < tr
            · skip
              have hbf := Lib.hid (HF.out _ (fun h => (HB.out.1 h).2.1) (by have := HL1.out; have := HL2.out; have := HL3.out; omega))
              go_enter Try.func5, Try.ntmps5
              go_wp2
              go_ret
              exact ⟨by rw [hbf.out]; rfl, HX.out.bel⟩
            · skip
              by_cases g7 : 8 < (n2 : Int)
              · skip
                have hbf := Lib.hid (HF.out _ (fun h => (show W.length ≤ 8 from (HB.out.1 h).2.2.2.1.1)) (by have := HL1.out; have := HL2.out; have := HL3.out; omega))
                go_enter Try.func5, Try.ntmps5
                go_wp2
                go_ret
                exact ⟨by rw [hbf.out]; rfl, HX.out.bel⟩
              · skip
                by_cases g8 : 4 < (n3 : Int)
                · skip
                  have hbf := Lib.hid (HF.out _ (fun h => (show C.length ≤ 4 from (HB.out.1 h).2.2.2.2.1)) (by have := HL1.out; have := HL2.out; have := HL3.out; omega))
                  go_enter Try.func5, Try.ntmps5
                  go_wp2
                  go_ret
                  exact ⟨by rw [hbf.out]; rfl, HX.out.bel⟩
                · skip
                  obtain ⟨F, hF⟩ : ∃ F : Nat, fr = F := ⟨fr.toNat, by omega⟩
                  subst hF
                  go_enter Try.func5, Try.ntmps5
                  go_wp2_with fail
                  go_loopw [4] (fun i wr => ∃ k : Nat, k ≤ n1 ∧ i = .int .i64 k ∧ Hid (upto (fun _ => PartOk) P k) ∧ Hid (Bx w ⟨(F : Int), A1, n1, c1, P, A2, n2, c2, W, A3, n3, c3, C, tr⟩ wr)) (fun i _ => n1 - (intOf i).toNat)
                  case atStart => exact ⟨0, Nat.zero_le _, rfl, Lib.hid upto.zero, HX⟩
                  case round =>
                    obtain ⟨k, hk, rfl, HU, HX1⟩ := hrel
                    have hsz := HX1.out.sz
                    obtain ⟨z0, z1, z2, z3, z4⟩ := HX1.out.cell
                    dsimp only at z0 z1 z2 z3 z4
                    by_cases hlt : k < n1
                    · obtain ⟨r, b', o, hr, hok, hA, hb', q0, q1, q2⟩ := (HO.out.below HX1.out.bel).P.at_ hlt
                      dsimp only at hr hA
                      subst hA
                      have HNP := Lib.hid (fun hp : ¬ PartOk r => HF.out _ (fun h => (show PartOk r from (HB.out.1 h).2.2.1.2 k r hr)) hp)
                      have HRR := Lib.hid hr
                      obtain ⟨oa0, oa1, ob0, ob1, oc0, oc1⟩ := hok
                      clear hr
                      by_cases p1 : r.a < 1
                      · skip
                        have hbf := Lib.hid (HNP.out (fun h => by have h1 := h.1; have h2 := h.2.1; have h3 := h.2.2; omega))
                        go_wp2
                        go_ret
                        exact ⟨by rw [hbf.out]; rfl, (HX1.out.alloc _).bel⟩
                      · skip
                        by_cases p2 : 16 < r.a
                        · skip
                          have hbf := Lib.hid (HNP.out (fun h => by have h1 := h.1; have h2 := h.2.1; have h3 := h.2.2; omega))
                          go_wp2
                          go_ret
                          exact ⟨by rw [hbf.out]; rfl, (HX1.out.alloc _).bel⟩
                        · skip
                          by_cases p3 : r.b < 1
                          · skip
                            have hbf := Lib.hid (HNP.out (fun h => by have h1 := h.1; have h2 := h.2.1; have h3 := h.2.2; omega))
                            go_wp2
                            go_ret
                            exact ⟨by rw [hbf.out]; rfl, (HX1.out.alloc _).bel⟩
                          · skip
                            by_cases p4 : 32 < r.b
                            · skip
                              have hbf := Lib.hid (HNP.out (fun h => by have h1 := h.1; have h2 := h.2.1; have h3 := h.2.2; omega))
                              go_wp2
                              go_ret
                              exact ⟨by rw [hbf.out]; rfl, (HX1.out.alloc _).bel⟩
                            · skip
                              by_cases p5 : r.c < 0
                              · skip
                                have hbf := Lib.hid (HNP.out (fun h => by have h1 := h.1; have h2 := h.2.1; have h3 := h.2.2; omega))
                                go_wp2
                                go_ret
                                exact ⟨by rw [hbf.out]; rfl, (HX1.out.alloc _).bel⟩
                              · skip
                                by_cases p6 : 65535 < r.c
                                · skip
                                  have hbf := Lib.hid (HNP.out (fun h => by have h1 := h.1; have h2 := h.2.1; have h3 := h.2.2; omega))
                                  go_wp2
                                  go_ret
                                  exact ⟨by rw [hbf.out]; rfl, (HX1.out.alloc _).bel⟩
                                · skip
                                  go_wp2
                                  go_roundw
                                  case rel => exact ⟨k + 1, by omega, by go_num, Lib.hid (HU.out.next HRR.out (show PartOk r from ⟨by omega, by omega, by omega⟩)), Lib.hid (HX1.out.alloc _)⟩
                                  case measure => simp [intOf]; omega
                    · obtain rfl : n1 = k := by omega
                      have HPO := Lib.hid (show PartsOk P from ⟨by have := HL1.out; omega, by have h := HU.out; rw [← HL1.out] at h; exact h.all⟩)
                      clear hsz
                      go_upto_region 11 with (at_make; refine wpList_make_room _ rfl _ _ _ rfl 4 i0 _ 1 Try.underlying81 hi0 hz0 hz1 hz2 rfl _ _ _ _ F F rfl rfl (by omega) (by omega) (by omega) (by omega) (by omega) ?_; intro w4 hB4 hb4 hs4)
                      have HW0 := Lib.hid (show WS w ⟨(F : Int), A1, n1, c1, P, A2, n2, c2, W, A3, n3, c3, C, tr⟩ wr.heap.size (List.replicate F false) w4 from ⟨HX1.out.step hb4, (by rw [← bools_rep]; exact hB4.out), HX1.out.sz⟩)
                      obtain ⟨gU, hgU⟩ : ∃ gU, gU = wr.heap.size := ⟨_, rfl⟩
                      rw [← hgU] at HW0 ⊢
                      clear hgU hB4 hb4 hs4 z0 z1 z2 z3 z4 HX1
                      obtain ⟨z0, z1, z2, z3, z4⟩ := HW0.out.bx.cell
                      dsimp only at z0 z1 z2 z3 z4
                      go_wp2_with fail
                      clear z0 z1 z2 z3 z4
                      go_loopw [7, 8, 9] (fun l f i wr => ∃ (k : Nat) (lv ev : Int) (mb : Bool) (U : List Bool), k ≤ n2 ∧ i = .int .i64 k ∧ l = .int .i64 lv ∧ f = .bool mb ∧ Hid (lv = lastOf W k) ∧ Hid (ev = endAt W k) ∧ -1 ≤ lv ∧ lv < ev ∧ 0 ≤ ev ∧ ev ≤ (F : Int) ∧ Hid (mb = true ↔ maint W k) ∧ Hid (upto (WinOk n1 (F : Int) W) W k) ∧ Hid (Used F W k U) ∧ Hid (WS w ⟨(F : Int), A1, n1, c1, P, A2, n2, c2, W, A3, n3, c3, C, tr⟩ gU U wr)) (fun _ _ i _ => n2 - (intOf i).toNat)
                      case atStart => exact ⟨0, -1, 0, false, _, Nat.zero_le _, rfl, rfl, rfl, Lib.hid rfl, Lib.hid rfl, by omega, by omega, by omega, by omega, Lib.hid ⟨fun h => (by cases h), fun ⟨_, _, h, _⟩ => by omega⟩, Lib.hid upto.zero, Lib.hid (Used.zero F W), HW0⟩
                      case round =>
                        obtain ⟨k, lv, ev, mb, U, hk, rfl, rfl, rfl, HLV, HEV, l0, l1, e0, e1, HMT, HUP, HUS, HWr⟩ := hrel
                        have hszU := HWr.out.ub.lt
                        have hsz := HWr.out.bx.sz
                        obtain ⟨z0, z1, z2, z3, z4⟩ := HWr.out.bx.cell
                        dsimp only at z0 z1 z2 z3 z4
                        clear HW0
                        by_cases hlt : k < n2
                        · obtain ⟨r, b', o, hr, hok, hA, hb', q0, q1, q2⟩ := (HO.out.below HWr.out.bx.bel).W.at_ hlt
                          dsimp only at hr hA
                          subst hA
                          have HNW := Lib.hid (fun hp : ¬ WinOk n1 (F : Int) W k r => HF.out _ (fun h => (show WinOk n1 (F : Int) W k r from (HB.out.1 h).2.2.2.1.2.1 k r hr)) hp)
                          have HRR := Lib.hid hr
                          obtain ⟨oa0, oa1, ob0, ob1, oc0, oc1⟩ := hok
                          clear hr
                          by_cases q1x : r.a < 0
                          · skip
                            have hbf := Lib.hid (HNW.out (fun h => by have h1 := h.1; have h2 := h.2.1; have h3 := h.2.2; have h4 := HEV.out; omega))
                            go_wp2
                            go_ret
                            exact ⟨by rw [hbf.out]; rfl, (HWr.out.alloc _).bx.bel⟩
                          · skip
                            by_cases q2x : (n1 : Int) ≤ r.a
                            · skip
                              have hbf := Lib.hid (HNW.out (fun h => by have h1 := h.1; have h2 := h.2.1; have h3 := h.2.2; have h4 := HEV.out; omega))
                              go_wp2
                              go_ret
                              exact ⟨by rw [hbf.out]; rfl, (HWr.out.alloc _).bx.bel⟩
                            · skip
                              by_cases q3x : r.b < 0
                              · skip
                                have hbf := Lib.hid (HNW.out (fun h => by have h1 := h.1; have h2 := h.2.1; have h3 := h.2.2; have h4 := HEV.out; omega))
                                go_wp2
                                go_ret
                                exact ⟨by rw [hbf.out]; rfl, (HWr.out.alloc _).bx.bel⟩
                              · skip
                                by_cases q4x : (F : Int) ≤ r.b
                                · skip
                                  have hbf := Lib.hid (HNW.out (fun h => by have h1 := h.1; have h2 := h.2.1; have h3 := h.2.2; have h4 := HEV.out; omega))
                                  go_wp2
                                  go_ret
                                  exact ⟨by rw [hbf.out]; rfl, (HWr.out.alloc _).bx.bel⟩
                                · skip
                                  by_cases q5x : r.c < 1
                                  · skip
                                    have hbf := Lib.hid (HNW.out (fun h => by have h1 := h.1; have h2 := h.2.1; have h3 := h.2.2; have h4 := HEV.out; omega))
                                    go_wp2
                                    go_ret
                                    exact ⟨by rw [hbf.out]; rfl, (HWr.out.alloc _).bx.bel⟩
                                  · skip
                                    by_cases q6x : 64 < r.c
                                    · skip
                                      have hbf := Lib.hid (HNW.out (fun h => by have h1 := h.1; have h2 := h.2.1; have h3 := h.2.2; have h4 := HEV.out; omega))
                                      go_wp2
                                      go_ret
                                      exact ⟨by rw [hbf.out]; rfl, (HWr.out.alloc _).bx.bel⟩
                                    · skip
                                      by_cases q7x : (F : Int) < r.b + r.c
                                      · skip
                                        have hbf := Lib.hid (HNW.out (fun h => by have h1 := h.1; have h2 := h.2.1; have h3 := h.2.2; have h4 := HEV.out; omega))
                                        go_wp2
                                        go_ret
                                        exact ⟨by rw [hbf.out]; rfl, (HWr.out.alloc _).bx.bel⟩
                                      · skip
                                        by_cases q8x : r.b ≤ lv
                                        · skip
                                          have hbf := Lib.hid (HNW.out (fun h => by have h1 := h.1; have h2 := h.2.1; have h3 := h.2.2; have h4 := HEV.out; omega))
                                          go_wp2
                                          go_ret
                                          exact ⟨by rw [hbf.out]; rfl, (HWr.out.alloc _).bx.bel⟩
                                        · skip
                                          have HWO := Lib.hid (fun h : ev ≤ r.b => (show WinOk n1 (F : Int) W k r from ⟨by omega, by rw [← HEV.out]; exact h, by omega⟩))
                                          obtain ⟨bn', hbn⟩ : ∃ bn' : Nat, r.b = bn' := ⟨r.b.toNat, by omega⟩
                                          obtain ⟨cn, hcn⟩ : ∃ cn : Nat, r.c = cn := ⟨r.c.toNat, by omega⟩
                                          have HBN := Lib.hid hbn
                                          have HCN := Lib.hid hcn
                                          have HNXT := Lib.hid (endAt_next HRR.out)
                                          have HNXL := Lib.hid (lastOf_next HRR.out)
                                          have HMNX := Lib.hid (maint.next HRR.out)
                                          rw [hbn] at q1
                                          rw [hcn] at q2
                                          rw [hbn] at q3x q4x q8x q7x
                                          rw [hcn] at q5x q6x q7x
                                          have hfb : (bn' : Int) < (F : Int) := by omega
                                          have HFB := Lib.hid (show bn' < F from by omega)
                                          have hbc : bn' + cn ≤ F := by omega
                                          go_upto_region 19 with (fail)
                                          have HWc := Lib.hid (HWr.out.alloc (.cells #[.int .i64 r.a, .int .i64 (bn' : Int), .int .i64 (cn : Int)] 83))
                                          have hbx := Blk.new wr 83 [.int .i64 r.a, .int .i64 (bn' : Int), .int .i64 (cn : Int)]
                                          have hsc : wr.heap.size < (wr.alloc (.cells #[.int .i64 r.a, .int .i64 (bn' : Int), .int .i64 (cn : Int)] 83)).heap.size := by simp
                                          obtain ⟨wc, hwc⟩ : ∃ wc, wc = wr.alloc (.cells #[.int .i64 r.a, .int .i64 (bn' : Int), .int .i64 (cn : Int)] 83) := ⟨_, rfl⟩
                                          have hbx' : Blk wc wr.heap.size 83 [.int .i64 r.a, .int .i64 (bn' : Int), .int .i64 (cn : Int)] := by rw [hwc]; exact hbx
                                          rw [← hwc] at HWc hsc ⊢
                                          clear hwc hbx z0 z1 z2 z3 z4 q0 q1 q2
                                          obtain ⟨gw, hgw⟩ : ∃ gw, gw = wr.heap.size := ⟨_, rfl⟩
                                          rw [← hgw] at hbx' hsc hszU hb' ⊢
                                          have HGW := Lib.hid hgw
                                          clear hgw
                                          have HBX := Lib.hid hbx'
                                          have p0 := hbx'.cell (i := 0) (v := .int .i64 r.a) rfl
                                          have p1 := hbx'.cell (i := 1) (v := .int .i64 (bn' : Int)) rfl
                                          have p2 := hbx'.cell (i := 2) (v := .int .i64 (cn : Int)) rfl
                                          clear hbx'
                                          by_cases hE : ev ≤ (bn' : Int)
                                          · have HE := Lib.hid hE
                                            have HWK := Lib.hid (HWO.out (by rw [HBN.out]; exact hE))
                                            go_wp2_with fail
                                            clear p0 p1 p2
                                            go_loopw [11] (fun x wr => ∃ (q : Nat) (U' : List Bool), x = .int .i64 (q : Int) ∧ bn' ≤ q ∧ q ≤ bn' + cn ∧ Hid (U'.length = F) ∧ Hid (∀ x : Nat, U'.getD x false = true ↔ U.getD x false = true ∨ (bn' ≤ x ∧ x < q)) ∧ Hid (WS w ⟨(F : Int), A1, n1, c1, P, some ⟨b', o, none⟩, n2, c2, W, A3, n3, c3, C, tr⟩ gU U' wr) ∧ Hid (Blk wr gw 83 [.int .i64 r.a, .int .i64 (bn' : Int), .int .i64 (cn : Int)])) (fun x _ => bn' + cn - (intOf x).toNat)
                                            case atStart => exact ⟨bn', U, rfl, Nat.le_refl _, by omega, Lib.hid HUS.out.len, Lib.hid (fun x => ⟨.inl, fun h => by
                                              rcases h with h | h
                                              · exact h
                                              · omega⟩), HWc, HBX⟩
                                            case round =>
                                              obtain ⟨q, U', rfl, hq0, hq1, HUL, HUX, HWq, HBq⟩ := hrel
                                              have p1 := HBq.out.cell (i := 1) (v := .int .i64 (bn' : Int)) rfl
                                              have p2 := HBq.out.cell (i := 2) (v := .int .i64 (cn : Int)) rfl
                                              have p0 := HBq.out.cell (i := 0) (v := .int .i64 r.a) rfl
                                              by_cases hqt : q < bn' + cn
                                              · have hqF : q < F := by omega
                                                have hqFi : (q : Int) < (F : Int) := by omega
                                                have hq0i : (0 : Int) ≤ (q : Int) := by omega
                                                have u0 := HWq.out.at_ (k := q) (by rw [HUL.out]; exact hqF)
                                                have huf : U'.getD q false = false := by
                                                  rw [Bool.eq_false_iff]
                                                  intro h
                                                  rcases (HUX.out q).1 h with h1 | h1
                                                  · have := HUS.out.below q h1; have := HEV.out; have := HE.out; omega
                                                  · omega
                                                rw [huf] at u0
                                                have f0 := HWq.out.ub.frozen q
                                                have HUN := Lib.hid (HWq.out.set q true)
                                                have HUXN := Lib.hid (fun x => getD_set_true U' q (by rw [HUL.out]; exact hqF) x)
                                                have HBN2 := Lib.hid (HBq.out.far (p := ⟨gU, q, none⟩) (by show gw ≠ gU; omega) (.bool true))
                                                clear huf
                                                go_wp2_with fail
                                                go_roundw
                                                case rel => exact ⟨q + 1, U'.set q true, by go_num, by omega, by omega, Lib.hid (by simpa using HUL.out), Lib.hid (fun x => by
                                                  rw [HUXN.out x, HUX.out x]
                                                  constructor
                                                  · rintro ((h | h) | h)
                                                    · exact .inl h
                                                    · exact .inr (by omega)
                                                    · exact .inr (by omega)
                                                  · rintro (h | h)
                                                    · exact .inl (.inl h)
                                                    · by_cases hx : x = q
                                                      · exact .inr hx
                                                      · exact .inl (.inr (by omega))), HUN, HBN2⟩
                                                case measure => simp [intOf]; omega
                                              · obtain rfl : bn' + cn = q := by omega
                                                have HUSN := Lib.hid (HUS.out.next HRR.out HUL.out (by rw [← HEV.out, HBN.out]; exact HE.out) (by rw [HCN.out]; omega) (fun x => by
                                                  rw [HUX.out x, HBN.out, HCN.out]
                                                  constructor
                                                  · rintro (h | h)
                                                    · exact .inl h
                                                    · exact .inr (by omega)
                                                  · rintro (h | h)
                                                    · exact .inl h
                                                    · exact .inr (by omega)))
                                                cases mb
                                                · by_cases ha : r.a = 0
                                                  · have ha' : (r.a == 0) = true := by simpa using ha
                                                    have HA := Lib.hid ha
                                                    clear ha
                                                    go_wp2_with fail
                                                    go_roundw
                                                    case rel => exact ⟨k + 1, (bn' : Int), (bn' : Int) + (cn : Int), true, U', by omega, by go_num, rfl, rfl, Lib.hid (by rw [HNXL.out, HBN.out]), Lib.hid (by rw [HNXT.out, HBN.out, HCN.out]), by omega, by omega, by omega, by omega, Lib.hid ⟨fun _ => HMNX.out.2 (.inr HA.out), fun _ => rfl⟩, Lib.hid (HUP.out.next HRR.out HWK.out), HUSN, HWq⟩
                                                    case measure => simp [intOf]; omega
                                                  · have ha' : (r.a == 0) = false := by simpa using ha
                                                    have HA := Lib.hid ha
                                                    clear ha
                                                    go_wp2_with fail
                                                    go_roundw
                                                    case rel => exact ⟨k + 1, (bn' : Int), (bn' : Int) + (cn : Int), false, U', by omega, by go_num, rfl, rfl, Lib.hid (by rw [HNXL.out, HBN.out]), Lib.hid (by rw [HNXT.out, HBN.out, HCN.out]), by omega, by omega, by omega, by omega, Lib.hid ⟨fun h => (by cases h), fun h => by
                                                      rcases HMNX.out.1 h with h | h
                                                      · exact HMT.out.2 h
                                                      · exact absurd h HA.out⟩, Lib.hid (HUP.out.next HRR.out HWK.out), HUSN, HWq⟩
                                                    case measure => simp [intOf]; omega
                                                · go_wp2_with fail
                                                  go_roundw
                                                  case rel => exact ⟨k + 1, (bn' : Int), (bn' : Int) + (cn : Int), true, U', by omega, by go_num, rfl, rfl, Lib.hid (by rw [HNXL.out, HBN.out]), Lib.hid (by rw [HNXT.out, HBN.out, HCN.out]), by omega, by omega, by omega, by omega, Lib.hid ⟨fun _ => HMNX.out.2 (.inl (HMT.out.1 (by first | trivial | rfl))), fun _ => rfl⟩, Lib.hid (HUP.out.next HRR.out HWK.out), HUSN, HWq⟩
                                                  case measure => simp [intOf]; omega
                                          · have hbf := Lib.hid (HNW.out (fun h => by have h2 := h.2.1; have h4 := HEV.out; have := HBN.out; omega))
                                            have u0 := HWc.out.at_ (k := bn') (by rw [HUS.out.len]; exact HFB.out)
                                            have hut : U.getD bn' false = true := by
                                              refine HUS.out.last bn' ?_ (by rw [← HLV.out]; omega) (by rw [← HEV.out]; omega)
                                              rcases Nat.eq_zero_or_pos k with hk0 | hk0
                                              · have h4 := HEV.out
                                                rw [hk0] at h4
                                                simp [endAt] at h4
                                                omega
                                              · exact hk0
                                            rw [hut] at u0
                                            have hq0i : (0 : Int) ≤ (bn' : Int) := by omega
                                            clear hut
                                            go_wp2_with fail
                                            go_loopw [11] (fun x wr => x = .int .i64 (bn' : Int) ∧ wc = wr) (fun _ _ => 0)
                                            case atStart => exact ⟨rfl, rfl⟩
                                            case round =>
                                              obtain ⟨rfl, rfl⟩ := hrel
                                              go_wp2_with fail
                                              go_ret
                                              exact ⟨by rw [hbf.out]; rfl, HWc.out.bx.bel⟩
                        · obtain rfl : n2 = k := by omega
                          have HWP := Lib.hid (show (∀ (k : Nat) (r : Tri), W[k]? = some r → WinOk n1 (F : Int) W k r) from by have h := HUP.out; rw [← HL2.out] at h; exact h.all)
                          have HMW := Lib.hid (show mb = true ↔ ∃ (k : Nat) (r : Tri), W[k]? = some r ∧ r.a = 0 from by
                            rw [HMT.out]
                            exact ⟨fun ⟨j, r, _, hr, ha⟩ => ⟨j, r, hr, ha⟩, fun ⟨j, r, hr, ha⟩ => ⟨j, r, by have := (List.getElem?_eq_some_iff.1 hr).1; have := HL2.out; omega, hr, ha⟩⟩)
                          have HXC := Lib.hid (HWr.out.bx)
                          clear hsz hszU
                          go_wp2_with fail
                          clear z0 z1 z2 z3 z4
                          go_loopw [12] (fun i wr => ∃ k : Nat, k ≤ n3 ∧ i = .int .i64 k ∧ Hid (upto (fun _ => ChanOk n1) C k) ∧ Hid (Bx w ⟨(F : Int), A1, n1, c1, P, A2, n2, c2, W, A3, n3, c3, C, tr⟩ wr)) (fun i _ => n3 - (intOf i).toNat)
                          case atStart => exact ⟨0, Nat.zero_le _, rfl, Lib.hid upto.zero, HXC⟩
                          case round =>
                            obtain ⟨k, hk, rfl, HU3, HX3⟩ := hrel
                            have hsz := HX3.out.sz
                            obtain ⟨z0, z1, z2, z3, z4⟩ := HX3.out.cell
                            dsimp only at z0 z1 z2 z3 z4
                            by_cases hlt : k < n3
                            · obtain ⟨r, b', o, hr, hok, hA, hb', q0, q1, q2⟩ := (HO.out.below HX3.out.bel).C.at_ hlt
                              dsimp only at hr hA
                              subst hA
                              have HNC := Lib.hid (fun hp : ¬ ChanOk n1 r => HF.out _ (fun h => (show ChanOk n1 r from (HB.out.1 h).2.2.2.2.2 k r hr)) hp)
                              have HRR := Lib.hid hr
                              obtain ⟨oa0, oa1, ob0, ob1, oc0, oc1⟩ := hok
                              clear hr
                              by_cases d1 : r.a < 0
                              · skip
                                have hbf := Lib.hid (HNC.out (fun h => by have h1 := h.1; have h2 := h.2.1; have h3 := h.2.2.1; have h4 := h.2.2.2; omega))
                                go_wp2
                                go_ret
                                exact ⟨by rw [hbf.out]; rfl, (HX3.out.alloc _).bel⟩
                              · skip
                                by_cases d2 : (n1 : Int) ≤ r.a
                                · skip
                                  have hbf := Lib.hid (HNC.out (fun h => by have h1 := h.1; have h2 := h.2.1; have h3 := h.2.2.1; have h4 := h.2.2.2; omega))
                                  go_wp2
                                  go_ret
                                  exact ⟨by rw [hbf.out]; rfl, (HX3.out.alloc _).bel⟩
                                · skip
                                  by_cases d3 : r.b < 0
                                  · skip
                                    have hbf := Lib.hid (HNC.out (fun h => by have h1 := h.1; have h2 := h.2.1; have h3 := h.2.2.1; have h4 := h.2.2.2; omega))
                                    go_wp2
                                    go_ret
                                    exact ⟨by rw [hbf.out]; rfl, (HX3.out.alloc _).bel⟩
                                  · skip
                                    by_cases d4 : (n1 : Int) ≤ r.b
                                    · skip
                                      have hbf := Lib.hid (HNC.out (fun h => by have h1 := h.1; have h2 := h.2.1; have h3 := h.2.2.1; have h4 := h.2.2.2; omega))
                                      go_wp2
                                      go_ret
                                      exact ⟨by rw [hbf.out]; rfl, (HX3.out.alloc _).bel⟩
                                    · skip
                                      by_cases d5 : r.a = r.b
                                      · have d5' : (r.a == r.b) = true := by simpa using d5
                                        have d5H := Lib.hid d5
                                        clear d5
                                        have hbf := Lib.hid (HNC.out (fun h => by have h1 := h.1; have h2 := h.2.1; have h3 := h.2.2.1; have h4 := h.2.2.2; exact h3 d5H.out))
                                        go_wp2
                                        go_ret
                                        exact ⟨by rw [hbf.out]; rfl, (HX3.out.alloc _).bel⟩
                                      · have d5' : (r.a == r.b) = false := by simpa using d5
                                        have d5H := Lib.hid d5
                                        clear d5
                                        by_cases d6 : r.c < 0
                                        · skip
                                          have hbf := Lib.hid (HNC.out (fun h => by have h1 := h.1; have h2 := h.2.1; have h3 := h.2.2.1; have h4 := h.2.2.2; omega))
                                          go_wp2
                                          go_ret
                                          exact ⟨by rw [hbf.out]; rfl, (HX3.out.alloc _).bel⟩
                                        · skip
                                          by_cases d7 : 4 < r.c
                                          · skip
                                            have hbf := Lib.hid (HNC.out (fun h => by have h1 := h.1; have h2 := h.2.1; have h3 := h.2.2.1; have h4 := h.2.2.2; omega))
                                            go_wp2
                                            go_ret
                                            exact ⟨by rw [hbf.out]; rfl, (HX3.out.alloc _).bel⟩
                                          · skip
                                            go_wp2
                                            go_roundw
                                            case rel => exact ⟨k + 1, by omega, by go_num, Lib.hid (HU3.out.next HRR.out (show ChanOk n1 r from ⟨by omega, by omega, d5H.out, by omega⟩)), Lib.hid (HX3.out.alloc _)⟩
                                            case measure => simp [intOf]; omega
                            · obtain rfl : n3 = k := by omega
                              have HCO := Lib.hid (show ChansOk n1 C from ⟨by have := HL3.out; omega, by have h := HU3.out; rw [← HL3.out] at h; exact h.all⟩)
                              have hbm := Lib.hid (show b = mb from by
                                rw [Bool.eq_iff_iff, HB.out, HMW.out]
                                exact ⟨fun h => h.2.2.2.1.2.2, fun h => ⟨⟨by omega, by omega⟩, ⟨by omega, by omega⟩, HPO.out, ⟨by have := HL2.out; omega, HWP.out, h⟩, HCO.out⟩⟩)
                              go_wp2
                              go_ret
                              exact ⟨by rw [hbm.out]; rfl, HX3.out.bel⟩
end Go.Proofs.Ytegnehdfedfphaa.TabK
