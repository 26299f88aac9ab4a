/- What a sector tells, laid into fields, by the code. Conditions: the bytes lie as the facts say; the fields' addresses lie in one block, one behind the other, whose cells are known. -/
import Derived.Test.YtdmfgffjplbloaaJ05
import Derived.Test.YtdmfgffjplbloaaJ06
namespace Go.Proofs.Ytdmfgffjplbloaa.RecL
open Go.RowKit Go.Proofs.Ytdmfgffjplbloaa.Kit Go.Proofs.Ytdmfgffjplbloaa.Byt Go.Proofs.Ytdmfgffjplbloaa.Mem Go.Proofs.Ytdmfgffjplbloaa.RecM Go.Proofs.Ytdmfgffjplbloaa.RecA Go.Proofs.Ytdmfgffjplbloaa.RecC Go.Proofs.Ytdmfgffjplbloaa.RecG Go.Proofs.Ytdmfgffjplbloaa.RecI Go.Proofs.Ytdmfgffjplbloaa.RecJ Go.Proofs.Ytdmfgffjplbloaa.RecK

set_option maxRecDepth 100000 in
set_option maxHeartbeats 800000 in
theorem has_any (b o n c : Nat) (B : Option Addr) (d : Nat) (ys ms : List Nat) (w : World) (hR : Rd w (some ⟨b, o, none⟩) n c (u8n ys)) (hx : byt ys) (hP : Rd w B 2 d (u8n ms)) (hm : byt ms) (h2 : 2 ≤ n) (q : Bool) (hq : q = true ↔ ys.take 2 = ms) :
    Calls Try.prog 66 #[.slice (some ⟨b, o, none⟩) n c, .slice B 2 d] w fun e w' => e = .returned (.bool q) ∧ w = w' := by
  have hn : ys.length = n := Rd.nats hR
  have hc := hR.le
  have hc2 := hR.cap
  have hq' := Beq.equal_any (some ⟨b, o, none⟩) B 2 2 c d (ys.take 2) ms w (by have := hR.take (k := 2) (by omega); simpa [u8n, List.map_take] using this) hP (byt_take hx 2) hm
  rw [show decide (ys.take 2 = ms) = q from by rw [Bool.eq_iff_iff, decide_eq_true_eq, hq]] at hq'
  have HQ := Lib.hid hq'
  clear hq hq' hR hP hx hm
  have k0 : (2 : Int) ≤ (n : Int) := by omega
  have k1 : (2 : Int) ≤ (c : Int) := by omega
  have k2 : 2 ≤ c := by omega
  go_enter Try.func66, Try.ntmps66
  go_wp2_with (go_at_call 68; refine HQ.out.mono ?_; rintro e w' ⟨rfl, rfl⟩)
  go_ret
  exact ⟨rfl, rfl⟩

theorem parts {xs : List Nat} {N : Nat} (_h64 : xs.length = 64) (_hN : N ≤ 60) : xs = xs.take N ++ ((xs.drop N).take 4 ++ xs.drop (N + 4)) := by
  rw [← List.drop_drop, List.take_append_drop, List.take_append_drop]
theorem shut_iff {xs : List Nat} {N : Nat} (h64 : xs.length = 64) (hN : N ≤ 60) (hz : xs.drop (N + 4) = List.replicate (60 - N) 0) : shut (xs.take N) = xs ↔ (xs.drop N).take 4 = s4 (xs.take N) := by
  have hl : (xs.take N).length = N := by simp; omega
  have hp := parts h64 hN
  have hs : shut (xs.take N) = xs.take N ++ (s4 (xs.take N) ++ List.replicate (60 - N) 0) := by unfold shut; rw [hl]
  rw [hs]
  constructor
  · intro h
    have h1 := h.trans hp
    have h2 := List.append_cancel_left h1
    exact ((List.append_inj h2 (by rw [s4_len]; simp; omega)).1).symm
  · intro h
    conv => rhs; rw [hp, h, hz]

/-- The numbers that a sector tells. -/
def numsOf (ws : List Nat) (xs : List Nat) : List Int := (List.range ws.length).map fun k => nm xs (2 + (ws.take k).sum) (ws.getD k 0)
theorem numsOf_r (xs : List Nat) : vals (numsOf rws xs) = rcells (rcOf xs) := rfl
theorem numsOf_s (xs : List Nat) : vals (numsOf sws xs) = scells (sgOf xs) := rfl
theorem numsOf_len (ws xs : List Nat) : (numsOf ws xs).length = ws.length := by simp [numsOf]
theorem sum_next {ws : List Nat} {k : Nat} (h : k < ws.length) : (ws.take (k + 1)).sum = (ws.take k).sum + ws[k] := by
  rw [List.take_succ_eq_append_getElem h, List.sum_append]
  simp
theorem sum_le (ws : List Nat) (k : Nat) : (ws.take k).sum ≤ ws.sum := by
  have h := congrArg List.sum (List.take_append_drop k ws)
  rw [List.sum_append] at h
  omega

theorem wd_of {x : Nat} (h1 : 1 ≤ x) (h6 : x ≤ 6) : NumA.wd (x : Nat) = x := by unfold NumA.wd; omega
theorem num_nm {xs : List Nat} {E S x : Nat} (h : 2 + S + x ≤ E) : TabR.num ((nl (((xs.take E).drop 2).drop S)).take x) = nm xs (2 + S) x := by
  have e : (nl (((xs.take E).drop 2).drop S)).take x = nl ((xs.drop (2 + S)).take x) := by
    unfold nl
    rw [← List.map_take, List.drop_drop, List.drop_take, List.take_take, Nat.min_eq_left (by omega)]
  rw [e]
  rfl
theorem numsOf_at {ws xs : List Nat} {k : Nat} (h : k < ws.length) : (numsOf ws xs)[k]? = some (nm xs (2 + (ws.take k).sum) ws[k]) := by
  simp only [numsOf, List.getElem?_map, List.getElem?_range h, Option.map_some, List.getD_eq_getElem?_getD, List.getElem?_eq_getElem h, Option.getD_some]
/-- The first k numbers are laid. -/
def upd (ws xs : List Nat) (V : List Int) (k : Nat) : List Int := (numsOf ws xs).take k ++ V.drop k
theorem upd_set {ws xs : List Nat} {V : List Int} {k : Nat} (h : k < ws.length) (hV : V.length = ws.length) : (vals (upd ws xs V k)).set k (.int .i64 (nm xs (2 + (ws.take k).sum) ws[k])) = vals (upd ws xs V (k + 1)) := by
  have hl : ((numsOf ws xs).take k).length = k := by rw [List.length_take, numsOf_len]; omega
  have hn : k < (numsOf ws xs).length := by rw [numsOf_len]; exact h
  have hg : (numsOf ws xs)[k] = nm xs (2 + (ws.take k).sum) ws[k] := by
    have := numsOf_at (xs := xs) h
    rw [List.getElem?_eq_getElem hn] at this
    injection this
  have hv : (Value.int .i64 (nm xs (2 + (ws.take k).sum) ws[k])) = (fun x : Int => Value.int .i64 x) (nm xs (2 + (ws.take k).sum) ws[k]) := rfl
  unfold vals upd
  rw [hv, ← List.map_set, List.set_append_right _ _ (by omega), hl, Nat.sub_self, List.drop_eq_getElem_cons (show k < V.length by omega), List.set_cons_zero, List.take_succ_eq_append_getElem hn, hg, List.append_assoc]
  rfl
theorem upd_last (ws xs : List Nat) (V : List Int) (hV : V.length = ws.length) : upd ws xs V ws.length = numsOf ws xs := by
  unfold upd
  rw [List.take_of_length_le (by rw [numsOf_len]; omega), List.drop_of_length_le (by omega), List.append_nil]
/-- A reader of bytes doesn't mind a number that is written elsewhere. -/
theorem St.set_other {w : World} {b g : Nat} {xs : List Int} {e : Int} {t : TypeId} {V : List Int} (h : TabR.St w b xs e) (hG : Blk w g t (vals V)) (hbg : ¬ b = g) (j : Nat) (v : Value) : TabR.St (w.setCell ⟨g, j, none⟩ v) b xs e := by
  have hlt := TabR.St.lt h
  obtain ⟨A, n, c, h, hr, hA⟩ := h
  have K := Keep.set (F := fun q => q = g) w j v rfl
  refine ⟨A, n, c, (K.block b hlt hbg).trans h, K.rd hr (fun hp b' o' he hF => ?_), hA⟩
  obtain ⟨b2, o2, he2, _, hc⟩ := hr.2.2.2 hp
  rw [he] at he2
  injection he2 with he2
  injection he2 with e1 _
  have hl : 0 < xs.length := by have := hr.1; simp [NumA.u8s] at this; omega
  have h0 := hc 0 (.int .u8 xs[0]) (by simp [NumA.u8s, hl])
  rw [← e1, show b' = g from hF, cell_of_row _ _ _ _ _ _ hG] at h0
  simp [vals] at h0
/-- What a sector's first bytes hand back. -/
def Laid (w : World) (g : Nat) (t : TypeId) (ws xs : List Nat) (x : Int) (e : Ending) (w' : World) : Prop :=
  e = .returned (.int .i64 x) ∧ (x = 0 → Blk w' g t (vals (numsOf ws xs))) ∧ (x ≠ 0 → Below w.heap.size w w') ∧ Keep (fun i => i = g) w w'

set_option maxRecDepth 100000 in
set_option maxHeartbeats 3200000 in
theorem lay_any (A : Option Addr) (n c : Nat) (xs : List Nat) (s : ByteArray) (m : Nat) (ws : List Nat) (V : List Int) (g gb q N : Nat) (t' t2 : TypeId) (w : World) (hR : Rd w A n c (u8n xs)) (hx : byt xs) (hs : marks s m) (hm : m < 256) (hq : ws.length = q) (hV : V.length = q)
    (h0 : 0 < q) (hq1 : q ≤ 100) (hw1 : ∀ x ∈ ws, 1 ≤ x ∧ x ≤ 6) (hN : N = 2 + ws.sum) (h60 : N ≤ 59) (hB : Blk w gb t' (fcells g ws)) (hG : Blk w g t2 (vals V)) (hne : gb ≠ g) :
    Calls Try.prog 59 #[.slice A n c, .string s, .slice (some ⟨gb, 0, none⟩) q q] w (Laid w g t2 ws xs (wrong m N xs)) := by
  have hn : xs.length = n := Rd.nats hR
  have hcap := hR.cap
  have hle := hR.le
  have hsz := hs.size
  obtain ⟨cp, mw, kc, hmw⟩ := conv_two hs
  have HMW := Lib.hid hmw
  by_cases h64 : n = 64
  · subst h64
    obtain ⟨b, o, rfl, hbl, _⟩ := hR.2.2.2 (by omega)
    have HR := Lib.hid hR
    have HX := Lib.hid hx
    have HB := Lib.hid hB
    have HG := Lib.hid hG
    have HQ := Lib.hid hq
    have HV := Lib.hid hV
    have HW := Lib.hid hw1
    have HN := Lib.hid hN
    have HNN := Lib.hid hn
    have HM := Lib.hid hm
    have hgl := hB.lt
    have hvl := hG.lt
    clear hR hx hB hG hq hV hw1 hmw hn hs hm hbl
    have hN2 : 2 ≤ N := by omega
    clear hN
    go_enter Try.func59, Try.ntmps59
    go_wp2_with fail
    go_loopw [7, 23] (fun e i wr => ∃ (k : Nat) (E : Nat), k ≤ q ∧ i = .int .i64 k ∧ e = .int .i64 (E : Nat) ∧ Hid (E = 2 + (ws.take k).sum) ∧ Hid (Below w.heap.size w wr)) (fun _ i _ => q - (intOf i).toNat)
    case atStart => exact ⟨0, 2, by omega, rfl, by first | rfl | (rw [hsz]; rfl), Lib.hid (by simp), Lib.hid (Below.refl _ _)⟩
    case round =>
      obtain ⟨k, E, hk, rfl, rfl, hE, hL⟩ := hrel
      have hLs := hL.out.size
      have hE60 : E ≤ N := by have h1 := hE.out; have h2 := HN.out; have h3 := sum_le ws k; omega
      by_cases hkq : k < q
      · have hkF : k < ws.length := by have := HQ.out; omega
        have q0 := (HB.out.below hL.out).cell (i := k * 2) (fcells_at hkF)
        have q1 := (HB.out.below hL.out).cell (i := k * 2 + 1) (fcells_wd hkF)
        have HS := Lib.hid (sum_next hkF)
        have hx6 := (HW.out _ (List.getElem_mem hkF)).2
        obtain ⟨x, hx⟩ : ∃ x, x = ws[k] := ⟨_, rfl⟩
        rw [← hx] at q1 HS hx6
        clear hx
        go_wp2
        go_roundw
        case rel => exact ⟨k + 1, E + x, by omega, by go_num, by go_num, Lib.hid (by rw [HS.out, hE.out]; omega), Lib.hid ((hL.out.alloc hLs _))⟩
        case measure => simp [intOf]; omega
      · obtain rfl : k = q := by omega
        obtain rfl : E = N := by have h1 := hE.out; rw [List.take_of_length_le (by have := HQ.out; omega)] at h1; have := HN.out; omega
        clear hE
        have k1 : (E : Int) ≤ 64 := by omega
        have k2 : (E : Int) + 4 ≤ 64 := by omega
        have k3 : (E : Int) ≤ (c : Int) := by omega
        have k4 : (E : Int) + 4 ≤ (c : Int) := by omega
        have k5 : E + 4 < c := by omega
        have kw : IntKind.i64.wrap ((E : Int) + 4) = (E : Int) + 4 := by rw [IntKind.wrap_i64]; omega
        have kn : ((E : Int) + 4).toNat = E + 4 := by omega
        have kz : 0 ≤ (E : Int) + 4 := by omega
        go_wp2_with fail
        go_quiet (fail)
        obtain ⟨p, hp⟩ := bool_of (xs.take 2 = [76, m])
        obtain ⟨z, hz⟩ := bool_of (xs.drop (E + 4) = List.replicate (60 - E) 0)
        obtain ⟨d, hd⟩ := bool_of ((xs.drop E).take 4 = s4 (xs.take E))
        have HWR := Lib.hid (show wrong m E xs = if p = true ∧ z = true then (if d = true then 0 else 10) else 2 from by
          have e0 : xs.length = 64 := HNN.out
          unfold wrong
          rw [if_neg (by omega)]
          by_cases h1 : p = true ∧ z = true
          · rw [if_pos h1, if_neg (fun h => h.elim (fun h => h (hp.1 h1.1)) (fun h => h (hz.1 h1.2)))]
            have h3 := shut_iff e0 (by omega) (hz.1 h1.2)
            by_cases h2 : d = true
            · rw [if_pos h2, if_neg (by rw [ne_eq, h3, ← hd]; simp [h2])]
            · rw [if_neg h2, if_pos (by rw [ne_eq, h3, ← hd]; exact h2)]
          · rw [if_neg h1, if_pos (by
              by_cases hp' : p = true
              · exact Or.inr (fun h => h1 ⟨hp', hz.2 h⟩)
              · exact Or.inl (fun h => hp' (hp.2 h)))])
        have HL1 := Lib.hid (show Below w.heap.size w (wr.drewN nq) from below_drewN hL.out nq)
        obtain ⟨w1, hw1⟩ : ∃ w1, w1 = wr.drewN nq := ⟨_, rfl⟩
        rw [← hw1] at HL1 ⊢
        have HR1 := Lib.hid (HR.out.below HL1.out)
        have HT1 := Lib.hid (show Rd w1 (some ⟨b, o, none⟩) E c (u8n (xs.take E)) from by have := HR1.out.take (k := E) (by omega); simpa [u8n, List.map_take] using this)
        have HS1 := Lib.hid (show Rd w1 (some ⟨b, o + E, none⟩) 4 (c - E) (u8n ((xs.drop E).take 4)) from by
          have h1 := TabR.Rd.drop HR1.out (k := E) (by omega)
          have h2 := h1.take (k := 4) (by omega)
          simpa [u8n, List.map_take, List.map_drop] using h2)
        have HZ1 := Lib.hid (show Rd w1 (some ⟨b, o + (E + 4), none⟩) (60 - E) (c - (E + 4)) (u8n (xs.drop (E + 4))) from by
          have h1 := TabR.Rd.drop HR1.out (k := E + 4) (by omega)
          rw [show 64 - (E + 4) = 60 - E by omega] at h1
          simpa [u8n, List.map_drop] using h1)
        have HP := Lib.hid hp
        have HZ := Lib.hid hz
        have HD := Lib.hid hd
        clear hp hz hd hw1 kw kn kz k1 k2 k3 k4 k5 hL hLs hE60 HR1
        go_wp2_with fail
        obtain ⟨hmr, hmb⟩ := HMW.out w1
        have HMR := Lib.hid hmr
        have HL2 := Lib.hid (HL1.out.trans (hmb.mono HL1.out.size))
        have HT2 := Lib.hid (HT1.out.below hmb)
        have HS2 := Lib.hid (HS1.out.below hmb)
        have HZ2 := Lib.hid (HZ1.out.below hmb)
        clear hmr hmb HT1 HS1 HZ1
        obtain ⟨w2, hw2⟩ : ∃ w2, w2 = mw w1 := ⟨_, rfl⟩
        rw [← hw2] at HMR HL2 HT2 HS2 HZ2 ⊢
        clear hw2
        refine (has_any b o E c (some ⟨w1.heap.size, 0, none⟩) (cp w1) (xs.take E) [76, m] w2 HT2.out (byt_take HX.out E) HMR.out (by have := HM.out; intro c hc; simp at hc; omega) hN2 p (by rw [List.take_take, Nat.min_eq_left hN2]; exact HP.out)).mono ?_
        rintro e w' ⟨rfl, rfl⟩
        cases p
        · have HWF := Lib.hid (show wrong m E xs = 2 from by rw [HWR.out, if_neg (by simp)])
          go_wp2
          go_ret
          exact ⟨by rw [HWF.out]; rfl, fun h => by rw [HWF.out] at h; omega, fun _ => HL2.out, Keep.of_below HL2.out⟩
        · go_wp2_with fail
          refine (zeros_any _ _ _ (xs.drop (E + 4)) w2 HZ2.out z (by rw [HZ.out, List.length_drop, HNN.out, show 64 - (E + 4) = 60 - E by omega])).mono ?_
          rintro e w' ⟨rfl, rfl⟩
          cases z
          · have HWF := Lib.hid (show wrong m E xs = 2 from by rw [HWR.out, if_neg (by simp)])
            go_wp2
            go_ret
            exact ⟨by rw [HWF.out]; rfl, fun h => by rw [HWF.out] at h; omega, fun _ => HL2.out, Keep.of_below HL2.out⟩
          · go_wp2_with fail
            refine (sumOf_any _ _ _ (xs.take E) w2 HT2.out (byt_take HX.out E)).mono ?_
            rintro e w3 ⟨A3, n3, c3, rfl, hown3, hb3⟩
            have HR3 := Lib.hid (Rd.own hown3)
            obtain rfl : 4 = n3 := by have := Rd.nats HR3.out; rw [s4_len] at this; omega
            have HL3 := Lib.hid (HL2.out.trans (hb3.mono HL2.out.size))
            have HT3 := Lib.hid (HT2.out.below hb3)
            have HS3 := Lib.hid (HS2.out.below hb3)
            clear hown3 hb3 HT2 HS2 HZ2 HMR
            go_wp2_with fail
            refine (Beq.equal_any _ _ _ _ _ _ ((xs.drop E).take 4) (s4 (xs.take E)) w3 HS3.out HR3.out (byt_take (byt_drop HX.out E) 4) (pbn_lt _ _)).mono ?_
            rintro e w' ⟨rfl, rfl⟩
            rw [show decide ((xs.drop E).take 4 = s4 (xs.take E)) = d from by rw [Bool.eq_iff_iff, decide_eq_true_eq]; exact HD.out.symm]
            cases d
            · have HWF := Lib.hid (show wrong m E xs = 10 from by rw [HWR.out, if_pos (by simp), if_neg (by simp)])
              go_wp2
              go_ret
              exact ⟨by rw [HWF.out]; rfl, fun h => by rw [HWF.out] at h; omega, fun _ => HL3.out, Keep.of_below HL3.out⟩
            · have HWT := Lib.hid (show wrong m E xs = 0 from by rw [HWR.out, if_pos (by simp), if_pos rfl])
              have k1 : (2 : Int) ≤ (E : Int) := by omega
              have k2 : E ≤ c := by omega
              have k3 : 2 < c := by omega
              go_wp2_with fail
              have HRD := Lib.hid (show Rd w3 (some ⟨b, o + 2, none⟩) (E - 2) (c - 2) (NumA.u8s (nl ((xs.take E).drop 2))) from by
                have h1 := TabR.Rd.drop HT3.out (k := 2) (by omega)
                rw [← nl_u8s]
                simpa [u8n, List.map_drop] using h1)
              refine (TabR.read_any _ _ _ (nl ((xs.take E).drop 2)) w3 HRD.out (by omega)).mono ?_
              rintro e w4 ⟨rb, rfl, hrb, hST4, hb4⟩
              have HL4 := Lib.hid (HL3.out.trans (hb4.mono HL3.out.size))
              have hrb2 : w.heap.size ≤ rb := Nat.le_trans HL3.out.size hrb
              have HST4 := Lib.hid hST4
              clear hrb hST4 hb4 HL3 HT3 HS3 HR3 HRD k1 k2 k3 HL2 HL1
              go_wp2_with fail
              go_loopw [66] (fun i wr => ∃ k' : Nat, k' ≤ k ∧ i = .int .i64 k' ∧ Hid (TabR.St wr rb (nl (((xs.take E).drop 2).drop ((ws.take k').sum))) 0) ∧ Hid (Blk wr g t2 (vals (upd ws xs V k'))) ∧ Hid (Keep (fun i => i = g) w wr)) (fun i _ => k - (intOf i).toNat)
              case atStart => exact ⟨0, by omega, rfl, by simpa using HST4, Lib.hid (by have h1 := HG.out.below HL4.out; simpa [upd] using h1), Lib.hid (Keep.of_below HL4.out)⟩
              case round =>
                obtain ⟨j, hj, rfl, hS, hG, hK⟩ := hrel
                have hKs := hK.out.size
                have hrl := TabR.St.lt hS.out
                by_cases hjk : j < k
                · have hjF : j < ws.length := by have := HQ.out; omega
                  have hBr := hK.out.blk HB.out (by show ¬ gb = g; exact hne)
                  have q0 := hBr.cell (i := j * 2) (fcells_at hjF)
                  have q1 := hBr.cell (i := j * 2 + 1) (fcells_wd hjF)
                  have HS := Lib.hid (sum_next hjF)
                  have HUS := Lib.hid (upd_set (xs := xs) (V := V) hjF (by have := HQ.out; have := HV.out; omega))
                  have hx6 := HW.out _ (List.getElem_mem hjF)
                  obtain ⟨x, hx⟩ : ∃ x, x = ws[j] := ⟨_, rfl⟩
                  rw [← hx] at q1 HS HUS hx6
                  clear hx hBr
                  obtain ⟨u, hu⟩ : ∃ u, (vals (upd ws xs V j))[j]? = some u := ⟨_, List.getElem?_eq_getElem (by rw [vals_len]; unfold upd; rw [List.length_append, List.length_take, numsOf_len, List.length_drop]; have := HV.out; omega)⟩
                  have HU := Lib.hid hu
                  have HWD := Lib.hid (wd_of hx6.1 hx6.2)
                  have HLE := Lib.hid (show (ws.take j).sum + x + 2 ≤ E from by have h1 := HN.out; have h2 := sum_le ws (j + 1); have h3 := HS.out; omega)
                  clear hu hx6
                  go_wp2_with fail
                  have HB5 := Lib.hid (Blk.new wr 84 [.pointer (some ⟨g, j, none⟩), .int .i64 (x : Nat)])
                  have hb5 : Below wr.heap.size wr (wr.alloc (.cells [.pointer (some ⟨g, j, none⟩), .int .i64 (x : Nat)].toArray 84)) := (Below.refl _ _).alloc (Nat.le_refl _) _
                  have HK5 := Lib.hid (hK.out.trans (Keep.of_below (F := fun i => i = g) hb5) (fun _ h => .inl h))
                  have HS5 := Lib.hid (TabR.St.below hS.out hb5)
                  have HG5 := Lib.hid (hG.out.below hb5)
                  obtain ⟨bx, hbx⟩ : ∃ bx, bx = wr.heap.size := ⟨_, rfl⟩
                  rw [← hbx] at HB5
                  rw [← hbx]
                  have hgbx : g < bx := by omega
                  have hrbx : rb < bx := by omega
                  clear hbx q0 q1 hb5 hS hG hK
                  generalize hw5 : wr.alloc (.cells [.pointer (some ⟨g, j, none⟩), .int .i64 (x : Nat)].toArray 84) = w5 at *
                  clear hw5
                  have r0 := HB5.out.cell (i := 0) rfl
                  have r1 := HB5.out.cell (i := 1) rfl
                  have hbl := HB5.out.lt
                  have hnb : bx ≠ rb := by omega
                  have hng : g ≠ rb := by omega
                  have HNUM := Lib.hid (TabR.num_ok rb (x : Nat) _ w5.drew (show TabR.St w5.drew rb _ 0 from HS5.out) (by
                    rw [HWD.out, nl_len, List.length_drop, List.length_drop, List.length_take]
                    have h1 := HLE.out; have h2 := HNN.out; omega) (nl_255 (byt_drop (byt_drop (byt_take HX.out _) _) _)))
                  go_region_held3 (fun w' => w'.cell? ⟨bx, 0, none⟩ = some (.pointer (some ⟨g, j, none⟩)) ∧ w'.cell? ⟨bx, 1, none⟩ = some (.int .i64 (x : Nat)))
                    (first | go_keep | exact ⟨HB6.out.cell (i := 0) rfl, HB6.out.cell (i := 1) rfl⟩ | exact ⟨((Keep.set (F := fun q => q = g) w6 j _ rfl).blk HB6.out (by show ¬ bx = g; omega)).cell (i := 0) rfl, ((Keep.set (F := fun q => q = g) w6 j _ rfl).blk HB6.out (by show ¬ bx = g; omega)).cell (i := 1) rfl⟩)
                    ((go_at_call 70; refine HNUM.out.mono ?_; rintro e w6 ⟨rfl, hS6, hg6⟩;
                      have HK6 := Lib.hid (show Keep (fun i => i = rb) w5 w6 from Keep.grown (w := w5) ⟨hg6.os, hg6.tape, hg6.output, hg6.size, hg6.block⟩ (fun k hk => by injection hk with hk; exact hk.symm)); have HB6 := Lib.hid (HK6.out.blk HB5.out (by show ¬ bx = rb; exact hnb)); have HG6 := Lib.hid (HK6.out.blk HG5.out (by show ¬ g = rb; exact hng)); have HS6 := Lib.hid hS6; have c6 := HG6.out.cell HU.out; have f6 := HG6.out.frozen j; clear hS6 hg6))
                  have HNM := Lib.hid (show TabR.num (List.take (NumA.wd (x : Nat)) (nl (List.drop (2 + (List.take j ws).sum) (List.take E xs)))) = nm xs (2 + (ws.take j).sum) x from by
                    have h1 := num_nm (xs := xs) (E := E) (S := (ws.take j).sum) (x := x) (by have := HLE.out; omega)
                    rw [List.drop_drop] at h1
                    rw [HWD.out]
                    exact h1)
                  rw [HNM.out]
                  have HG7 := Lib.hid (show Blk (w6.setCell ⟨g, j, none⟩ (.int .i64 (nm xs (2 + (ws.take j).sum) x))) g t2 (vals (upd ws xs V (j + 1))) from by
                    have h1 := Blk.set HG6.out j (.int .i64 (nm xs (2 + (ws.take j).sum) x))
                    rw [HUS.out] at h1
                    exact h1)
                  have HS7 := Lib.hid (show TabR.St (w6.setCell ⟨g, j, none⟩ (.int .i64 (nm xs (2 + (ws.take j).sum) x))) rb (nl (((xs.take E).drop 2).drop ((ws.take (j + 1)).sum))) 0 from by
                    have h1 := St.set_other HS6.out HG6.out (fun h => hng h.symm) j (.int .i64 (nm xs (2 + (ws.take j).sum) x))
                    rw [HWD.out] at h1
                    rw [HS.out, ← List.drop_drop]
                    have e : nl ((((xs.take E).drop 2).drop ((ws.take j).sum)).drop x) = (nl (((xs.take E).drop 2).drop ((ws.take j).sum))).drop x := by simp [nl, List.map_drop]
                    rw [e]
                    exact h1)
                  have HK7 := Lib.hid (show Keep (fun i => i = g) w (w6.setCell ⟨g, j, none⟩ (.int .i64 (nm xs (2 + (ws.take j).sum) x))) from (HK5.out.trans HK6.out (fun k hk => .inr (by rw [show k = rb from hk]; exact hrb2))).trans (Keep.set (F := fun i => i = g) w6 j _ rfl) (fun _ h => .inl h))
                  generalize w6.setCell ⟨g, j, none⟩ (.int .i64 (nm xs (2 + (ws.take j).sum) x)) = w7 at *
                  clear c6 f6 r0 r1
                  go_wp2
                  go_roundw
                  case rel => exact ⟨j + 1, by omega, by go_num, HS7, HG7, HK7⟩
                  case measure => simp [intOf]; omega
                · obtain rfl : j = k := by omega
                  have hE : (((xs.take E).drop 2).drop ((ws.take j).sum)) = [] := by
                    rw [List.take_of_length_le (by have := HQ.out; omega)]
                    refine List.drop_of_length_le ?_
                    rw [List.length_drop, List.length_take]
                    have := HN.out
                    omega
                  rw [hE] at hS
                  have HU := Lib.hid (show upd ws xs V j = numsOf ws xs from by have h1 := HQ.out; rw [← h1]; exact upd_last ws xs V (by have := HV.out; omega))
                  go_wp2_with (go_at_call 71; refine (TabR.end_ok rb _ hS.out).mono ?_; rintro e w' ⟨rfl, rfl⟩)
                  go_ret
                  exact ⟨by rw [HWT.out]; rfl, fun _ => by rw [← HU.out]; exact hG.out, fun h => absurd HWT.out h, hK.out⟩
  · have hx64 : ((n : Int) != 64) = true := by simp; omega
    have hwr : wrong m N xs = 14 := by unfold wrong; rw [if_pos (by omega)]
    rw [hwr]
    clear hR hB hG hmw
    go_enter Try.func59, Try.ntmps59
    go_wp2
    go_ret
    exact ⟨rfl, fun h => by omega, fun _ => Below.refl _ _, Keep.refl _ _⟩
end Go.Proofs.Ytdmfgffjplbloaa.RecL
