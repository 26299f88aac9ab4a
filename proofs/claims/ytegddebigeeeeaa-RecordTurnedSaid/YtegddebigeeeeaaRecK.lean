/- A sector made of a mark and fields, by the code. Conditions: the fields' addresses lie in one block, one behind the other, whose numbers are known; no more than 60 bytes are told. -/
import Derived.Test.YtegddebigeeeeaaRecJ
import Derived.Lib.ConvBytes
namespace Go.Proofs.Ytegddebigeeeeaa.RecK
open Go.RowKit Go.Proofs.Ytegddebigeeeeaa.Kit Go.Proofs.Ytegddebigeeeeaa.Byt Go.Proofs.Ytegddebigeeeeaa.Mem Go.Proofs.Ytegddebigeeeeaa.RecM Go.Proofs.Ytegddebigeeeeaa.RecA Go.Proofs.Ytegddebigeeeeaa.RecC Go.Proofs.Ytegddebigeeeeaa.RecG Go.Proofs.Ytegddebigeeeeaa.RecI Go.Proofs.Ytegddebigeeeeaa.RecJ

/-- A string of the bytes L and m. -/
def marks (s : ByteArray) (m : Nat) : Prop := s.data.toList.map UInt8.toNat = [76, m]
theorem marks.size {s : ByteArray} {m : Nat} (h : marks s m) : s.size = 2 := by
  have h1 := congrArg List.length h
  rw [List.length_map] at h1
  exact h1
theorem marks.at_ {s : ByteArray} {m : Nat} (h : marks s m) {j : Nat} (hj : j < 2) : (s.data.toList.getD j 0).toNat = [76, m].getD j 0 := by
  have hl : s.data.toList.length = 2 := by have := congrArg List.length h; simpa using this
  unfold marks at h
  rw [List.getD_eq_getElem?_getD, List.getD_eq_getElem?_getD, ← h, List.getElem?_map, List.getElem?_eq_getElem (by omega)]
  rfl
theorem conv_two {s : ByteArray} {m : Nat} (h : marks s m) : ∃ (cp : World → Nat) (mw : World → World),
    (∀ w, (convert 9 25 (.string s)).run Try.prog w = .ok (.slice (some ⟨w.heap.size, 0, none⟩) 2 (cp w)) (mw w)) ∧
    ∀ w, Rd (mw w) (some ⟨w.heap.size, 0, none⟩) 2 (cp w) (u8n [76, m]) ∧ Below w.heap.size w (mw w) := by
  have h2 := h.size
  refine ⟨fun w => grownCap w s.size 0 5, fun w => Lib.bytesWorld w 5 s, fun w => ?_, fun w => ⟨⟨rfl, ?_, ?_, fun _ => ⟨_, _, rfl, ?_, fun j u hu => ?_⟩⟩, ⟨rfl, rfl, rfl, ?_, fun k hk => Lib.bytesWorld_at_old w _ s k hk⟩⟩⟩
  · have := Lib.run_convert_string_bytes (P := Try.prog) w 9 25 5 s Try.underlying9 Try.underlying25 Try.underlying5
    rw [h2] at this ⊢
    exact this
  · have := grownCap_ge w s.size 0 5
    dsimp only
    omega
  · have := grownCap_le_maxLen w s.size 0 5 (by unfold maxLen; omega)
    unfold maxLen at this
    exact this
  · rw [Lib.bytesWorld_size]
    omega
  · have hj : j < 2 := by have := (List.getElem?_eq_some_iff.1 hu).1; simpa [u8n] using this
    rw [Nat.zero_add, Lib.bytesWorld_cell w _ s j (by omega), h.at_ hj]
    rw [← hu]
    match j, hj with
    | 0, _ => rfl
    | 1, _ => rfl
  · rw [Lib.bytesWorld_size]
    omega

theorem size8 : (Try.prog.info? 5).map (·.size) = some 1 := by kernel_rfl
/-- What fields tell, each a number and how many bytes it has. -/
def told (F : List (Nat × Int)) : List Nat := F.flatMap fun f => pbn f.2 (f.1 : Nat)
theorem told_next {F : List (Nat × Int)} {k : Nat} (h : k < F.length) : told (F.take (k + 1)) = told (F.take k) ++ pbn F[k].2 (F[k].1 : Nat) := by
  unfold told
  rw [List.take_succ_eq_append_getElem h, List.flatMap_append]
  simp
theorem told_lt (F : List (Nat × Int)) : byt (told F) := by
  intro c hc
  simp only [told, List.mem_flatMap] at hc
  obtain ⟨f, _, hf⟩ := hc
  exact pbn_lt _ _ c hf
theorem told_len (F : List (Nat × Int)) : (told F).length ≤ 6 * F.length := by
  induction F with
  | nil => simp [told]
  | cons f F ih =>
    have h1 : told (f :: F) = pbn f.2 (f.1 : Nat) ++ told F := by simp [told]
    have h2 := NumA.wd_le (f.1 : Nat)
    rw [h1, List.length_append, pbn_len, List.length_cons]
    omega

set_option maxRecDepth 100000 in
set_option maxHeartbeats 3200000 in
theorem sector_any (s : ByteArray) (m : Nat) (hs : marks s m) (hm : m < 256) (F : List (Nat × Int)) (g gb n : Nat) (t' t2 : TypeId) (w : World) (hF : F.length = n) (h0 : 0 < n) (hn : n ≤ 100) (hB : Blk w gb t' (fcells g (F.map Prod.fst))) (hV : Blk w g t2 (vals (F.map Prod.snd))) (h60 : 2 + (told F).length ≤ 60) (xs : List Nat) (hxs : xs = [76, m] ++ told F) :
    Calls Try.prog 26 #[.string s, .slice (some ⟨gb, 0, none⟩) n n] w (Gives w (shut xs)) := by
  obtain ⟨i0, hi0, hz0, hz1, hz2⟩ := info_parts NumA.info8
  obtain ⟨cp, mw, kc, hmw⟩ := conv_two hs
  have HMW := Lib.hid hmw
  have HB := Lib.hid hB
  have HV := Lib.hid hV
  have HF := Lib.hid hF
  have H60 := Lib.hid h60
  have HM := Lib.hid hm
  have HXS := Lib.hid hxs
  clear hxs
  have hgl := hB.lt
  have hvl := hV.lt
  clear hmw hB hV hF h60 hs hm
  go_enter Try.func26, Try.ntmps26
  go_wp2_with fail
  go_loopw [5, 13] (fun b i wr => ∃ (k : Nat) (A : Option Addr) (l c : Nat), k ≤ n ∧ i = .int .i64 k ∧ b = .slice A l c ∧ Hid (Rd wr A l c (u8n ([76, m] ++ told (F.take k)))) ∧ Hid (0 < k → wr.ownsRow w.heap.size 5 1 (.slice A l c) l (u8n ([76, m] ++ told (F.take k)))) ∧ Hid (Below w.heap.size w wr)) (fun _ i _ => n - (intOf i).toNat)
  case atStart => exact ⟨0, _, _, _, by omega, rfl, rfl, Lib.hid (HMW.out w).1, Lib.hid (fun h => by omega), Lib.hid (HMW.out w).2⟩
  case round =>
    obtain ⟨k, A, l, c, hk, rfl, rfl, hR, hO, hL⟩ := hrel
    have hLs := hL.out.size
    by_cases hkn : k < n
    · have hkF : k < F.length := by have := HF.out; omega
      have q0 := (HB.out.below hL.out).cell (i := k * 2) (fcells_at (by rw [List.length_map]; exact hkF))
      have q1 := (HB.out.below hL.out).cell (i := k * 2 + 1) (fcells_wd (by rw [List.length_map]; exact hkF))
      have q2 := (HV.out.below hL.out).cell (i := k) (v := .int .i64 F[k].2) (by simp [vals, hkF])
      have HN := Lib.hid (told_next hkF)
      have HL := Lib.hid (told_len (F.take k))
      rw [List.getElem_map] at q1
      obtain ⟨x, hx⟩ : ∃ x, x = F[k].1 := ⟨_, rfl⟩
      obtain ⟨v, hv⟩ : ∃ v, v = F[k].2 := ⟨_, rfl⟩
      rw [← hx] at q1 HN
      rw [← hv] at q2 HN
      clear hx hv
      go_wp2_with fail
      have HB4 := Lib.hid (Blk.new wr 53 [.pointer (some ⟨g, k, none⟩), .int .i64 (x : Nat)])
      have HL4 := Lib.hid (show Below w.heap.size w (wr.alloc (.cells [.pointer (some ⟨g, k, none⟩), .int .i64 (x : Nat)].toArray 53)) from hL.out.alloc hLs _)
      have HR4 := Lib.hid (show Rd (wr.alloc (.cells [.pointer (some ⟨g, k, none⟩), .int .i64 (x : Nat)].toArray 53)) A l c (u8n ([76, m] ++ told (F.take k))) from hR.out.alloc _)
      obtain ⟨bx, hbx⟩ : ∃ bx, bx = wr.heap.size := ⟨_, rfl⟩
      have r2 : (wr.alloc (.cells [.pointer (some ⟨g, k, none⟩), .int .i64 (x : Nat)].toArray 53)).cell? ⟨g, k, none⟩ = some (.int .i64 v) := (((Below.refl wr.heap.size wr).alloc (Nat.le_refl _) _).cell (p := ⟨g, k, none⟩) (by show g < _; omega)).trans q2
      rw [← hbx] at HB4
      rw [← hbx]
      have hgbx : g < bx := by omega
      clear hbx q0 q1 q2
      generalize hw4 : wr.alloc (.cells [.pointer (some ⟨g, k, none⟩), .int .i64 (x : Nat)].toArray 53) = w4 at *
      clear hw4
      have r0 := HB4.out.cell (i := 0) rfl
      have r1 := HB4.out.cell (i := 1) rfl
      have hbl := HB4.out.lt
      have hll := Rd.nats HR4.out
      have HPUT := Lib.hid (NumB.put_any A l c (nl ([76, m] ++ told (F.take k))) v (x : Nat) w4.drew (show Rd w4.drew _ _ _ _ from by rw [← nl_u8s]; exact HR4.out.drewN 1) (by
        have := HL.out
        rw [List.length_take] at this
        rw [List.length_append] at hll
        simp at hll
        omega))
      clear hll
      go_region_held3 (fun w' => w'.cell? ⟨bx, 0, none⟩ = some (.pointer (some ⟨g, k, none⟩)) ∧ w'.cell? ⟨bx, 1, none⟩ = some (.int .i64 (x : Nat)) ∧ w'.cell? ⟨g, k, none⟩ = some (.int .i64 v))
        (first | go_keep | exact ⟨(hb6.cell (p := ⟨bx, 0, none⟩) hbl).trans r0, (hb6.cell (p := ⟨bx, 1, none⟩) hbl).trans r1, (hb6.cell (p := ⟨g, k, none⟩) (by show g < w4.heap.size; omega)).trans r2⟩)
        ((go_at_call 37; refine HPUT.out.mono ?_; rintro e w6 ⟨A6, n6, c6, hn6, rfl, hown6, hb6⟩))
      all_goals (
        have HO6 := Lib.hid (show w6.ownsRow w.heap.size 5 1 (.slice A6 n6 c6) n6 (u8n ([76, m] ++ told (F.take (k + 1)))) from by
          rw [HN.out, ← List.append_assoc, nl_u8s, nl_app, pbn_nl]
          exact own_mono hown6 HL4.out.size)
        have HL6 := Lib.hid (show Below w.heap.size w w6 from (show Below w.heap.size w w4.drew from below_drewN HL4.out 1).trans (hb6.mono HL4.out.size))
        clear hb6 hown6 hn6 r0 r1 r2
        go_wp2
        go_roundw
        case rel => exact ⟨k + 1, A6, n6, c6, by omega, by go_num, rfl, Lib.hid (Rd.own HO6.out), Lib.hid (fun _ => HO6.out), HL6⟩
        case measure => simp [intOf]; omega)
    · obtain rfl : k = n := by omega
      have hO := Lib.hid (hO.out h0)
      rw [List.take_of_length_le (by have := HF.out; omega), ← HXS.out] at hO hR
      have HX := Lib.hid (show byt xs from by rw [HXS.out]; exact byt_app (by have := HM.out; intro c hc; simp at hc; omega) (told_lt F))
      have HLEN := Lib.hid (show xs.length ≤ 60 from by rw [HXS.out]; have := H60.out; simp; omega)
      have HLL := Lib.hid (Rd.nats hR.out)
      go_wp2_with fail
      refine (sumOf_any A l c xs _ hR.out HX.out).mono ?_
      rintro e w2 ⟨A2, n2, c2, rfl, hown2, hb2⟩
      have HO2 := Lib.hid (own_below hO.out hb2)
      have HL2 := Lib.hid (hL.out.trans (hb2.mono hLs))
      have HR2 := Lib.hid (Rd.own hown2)
      have hs2 := HL2.out.size
      obtain rfl : 4 = n2 := by have := Rd.nats HR2.out; rw [s4_len] at this; omega
      clear hown2 hb2 hO hR
      go_wp2_with (first
       | (at_builtin; refine wpList_add _ rfl (.tmp 26) (.tmp 28) _ rfl w.heap.size 5 i0 _ 1 Try.underlying25 hi0 hz0 hz1 hz2 rfl _ l _ rfl HO2.out A2 4 c2 _ rfl HR2.out (u8n_one _) (by have := HLEN.out; have := HLL.out; omega) (by have := HLEN.out; have := HLL.out; omega) hs2 ?_; intro A3 n3 c3 w3 hn3 hown3 hg3 hat3;
          have HL3 := Lib.hid (below_add HL2.out HO2.out (Nat.le_refl _) hg3); rw [u8n_app] at hown3; have HR3 := Lib.hid (Rd.own hown3); have hs3 := HL3.out.size; have HN3 := Lib.hid (show n3 ≤ 64 from by have := HLEN.out; have := HLL.out; have := hn3.out; omega); have HLX := Lib.hid (show xs.length + 4 = n3 from by have := HLL.out; have := hn3.out; omega); clear hown3 hg3 hat3 hn3)
       | (at_make; refine wpList_make_room _ rfl _ _ _ rfl 5 i0 _ 1 Try.underlying25 hi0 hz0 hz1 hz2 rfl _ _ _ _ 64 64 rfl rfl (by omega) (by omega) (by omega) (by omega) (by omega) ?_; intro w4 H4 hb4 hs4;
          have HB4 := Lib.hid (show Blk w4 w3.heap.size 5 (u8n (List.replicate 64 0)) from (by have h := H4.out; unfold Blk; rw [h]; simp [u8n])); have HL4 := Lib.hid (HL3.out.trans (hb4.mono hs3)); have HR4 := Lib.hid (HR3.out.below hb4); clear H4 hb4 hs4)
       | (refine wpList_copy_part rfl (.tmp 31) (.tmp 32) 25 25 rfl 5 Try.underlying25 size8 w3.heap.size 0 64 64 rfl rfl HR4.out (u8n_one _) HB4.out (by rw [u8n_len]; simp) ?_; intro w5 k5 hk5 HB5 ho5))
      go_ret
      have hk5 := hk5.out
      have hB5 := HB5.out
      obtain rfl : k5 = n3 := by have := HN3.out; omega
      have e2 : splice (u8n (List.replicate 64 0)) 0 ((u8n (xs ++ s4 xs)).take k5) = u8n (shut xs) := by
        have e4 : (xs ++ s4 xs).length = k5 := by rw [List.length_append, s4_len]; exact HLX.out
        rw [List.take_of_length_le (by rw [u8n_len, e4]; omega)]
        simp only [splice, List.take_zero, List.nil_append, Nat.zero_add, u8n_len, e4]
        have e5 : (u8n (List.replicate 64 0)).drop k5 = u8n (List.replicate (60 - xs.length) 0) := by
          have h1 := HLX.out
          have h2 : 64 - k5 = 60 - xs.length := by omega
          simp only [u8n, List.map_replicate, List.drop_replicate, h2]
        rw [e5, u8n_app, List.append_assoc]
        rfl
      rw [e2] at hB5
      have e3 : (u8n (shut xs)).length = 64 := by rw [u8n_len, shut_len HLEN.out]
      have h := own_of_block (base := w.heap.size) (n := 64) hB5 hs3 (by omega) (by omega)
      rw [e3, List.take_of_length_le (by omega)] at h
      exact ⟨_, _, _, rfl, h, ho5.out.below HL4.out hs3 HL4.out.size⟩
end Go.Proofs.Ytegddebigeeeeaa.RecK
