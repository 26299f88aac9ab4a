/- The bytes of an image, by the code. Conditions: the image lies as the facts say, the rounds' own numbers lie in the variable. -/
import Derived.Test.YtlghojnlnfkdhaaDoorImgS
import Derived.Test.YtlghojnlnfkdhaaDoorImgB
namespace Go.Proofs.YtlghojnlnfkdhaaDoor.ImgP
open Go.RowKit Go.Proofs.YtlghojnlnfkdhaaDoor.Kit Go.Proofs.YtlghojnlnfkdhaaDoor.Byt Go.Proofs.YtlghojnlnfkdhaaDoor.Mem Go.Proofs.YtlghojnlnfkdhaaDoor.Beq Go.Proofs.YtlghojnlnfkdhaaDoor.ShaM Go.Proofs.YtlghojnlnfkdhaaDoor.ShaE Go.Proofs.YtlghojnlnfkdhaaDoor.ImgA Go.Proofs.YtlghojnlnfkdhaaDoor.ImgB Go.Proofs.YtlghojnlnfkdhaaDoor.ImgS

/-- What is ahead of the sums: the numbers, and the code. -/
def nums8 (i : Im) : List Nat := [76, 73] ++ pbn i.p 1 ++ pbn i.v 2 ++ pbn i.h 2 ++ pbn i.m 1 ++ pbn i.f 1 ++ pbn i.s 1 ++ pbn i.r 1
def head (i : Im) : List Nat := nums8 i ++ (pbn (i.n : Int) 2 ++ i.xs)
theorem nums8_len (i : Im) : (nums8 i).length = 11 := by simp only [nums8, List.length_append, pbn_len]; rfl
theorem head_len (i : Im) : (head i).length = 13 + i.xs.length := by
  rw [head, List.length_append, List.length_append, nums8_len, pbn_len]
  show 11 + (2 + _) = _
  omega
theorem app_lt {xs ys : List Nat} (hx : by256 xs) (hy : by256 ys) : by256 (xs ++ ys) := fun c hc => by
  rcases List.mem_append.1 hc with h | h
  · exact hx c h
  · exact hy c h
theorem nums8_lt (i : Im) : by256 (nums8 i) := by
  unfold nums8
  exact app_lt (app_lt (app_lt (app_lt (app_lt (app_lt (app_lt (by intro c hc; simp at hc; omega) (pbn_lt _ _)) (pbn_lt _ _)) (pbn_lt _ _)) (pbn_lt _ _)) (pbn_lt _ _)) (pbn_lt _ _)) (pbn_lt _ _)
theorem head_lt {i : Im} (h : by256 i.xs) : by256 (head i) := app_lt (nums8_lt i) (app_lt (pbn_lt _ _) h)
theorem txt_nl {xs : List Nat} {n : Nat} (hn : xs.length = n) (h : n ≤ 65535) : NumE.txt (nl xs) = nl (pbn (n : Int) 2 ++ xs) := by
  rw [nl_app, pbn_nl]
  unfold NumE.txt
  rw [nl_len, hn, Nat.min_eq_left h, List.take_of_length_le (by rw [nl_len]; omega)]
set_option maxRecDepth 100000 in
set_option maxHeartbeats 1600000 in
theorem put_no (i : Im) (w : World) (hn : i.n ≤ 9223372036854775807) (hr : ¬ right i) : Calls Tryd.prog 8 #[i.val] w fun e w' => e = .returned (.tuple #[.slice none 0 0, .int .i64 3]) ∧ Below w.heap.size w w' := by
  have HR := Lib.hid (fun w' => right_any i w' hn false (by simpa using hr))
  have HX := Lib.hid (Bx.new w i)
  clear hr
  obtain ⟨p, v, h, m, f, s, r, A, n, c, xs⟩ := i
  show Calls _ _ #[.agg #[.int .i64 p, .int .i64 v, .int .i64 h, .int .i64 m, .int .i64 f, .int .i64 s, .int .i64 r, .slice A n c]] w _
  go_enter Tryd.func8, Tryd.ntmps8
  go_wp2_with fail
  refine (HR.out _).mono ?_
  rintro e w1 ⟨rfl, hb1⟩
  have HX1 := Lib.hid (HX.out.step hb1)
  clear hb1 HX
  go_wp2
  go_ret2
  exact ⟨rfl, HX1.out.bel⟩
theorem size1 : (Tryd.prog.info? 3).map (·.size) = some 1 := by kernel_rfl
def acc (b : List Int) (m f s r : Int) : Nat → List Int
  | 0 => b
  | 1 => b ++ NumB.putb m 1
  | 2 => b ++ NumB.putb m 1 ++ NumB.putb f 1
  | 3 => b ++ NumB.putb m 1 ++ NumB.putb f 1 ++ NumB.putb s 1
  | _ => b ++ NumB.putb m 1 ++ NumB.putb f 1 ++ NumB.putb s 1 ++ NumB.putb r 1
theorem wd1 : NumA.wd 1 = 1 := rfl
theorem wd2 : NumA.wd 2 = 2 := rfl
theorem fresh_rd {w w' : World} {A : Option Addr} {n c : Nat} {xs : List Int} (h : w'.ownsRow w.heap.size 5 1 (.slice A n c) n (NumA.u8s xs)) : Rd w' A n c (NumA.u8s xs) := Rd.own h
set_option maxRecDepth 100000 in
set_option maxHeartbeats 6400000 in
theorem put_yes (i : Im) (w : World) (hT : Tab w) (ho : i.ok w) (hr : right i) : Calls Tryd.prog 8 #[i.val] w fun e w' => ∃ B m d, e = .returned (.tuple #[.slice B m d, .int .i64 0]) ∧ w'.ownsRow w.heap.size 5 1 (.slice B m d) m (u8n (closed (head i))) ∧ Below w.heap.size w w' := by
  have hn : i.xs.length = i.n := ho.len
  have h96 : i.n ≤ 96 := by have := hr.2.2.2.2.2.2.2; omega
  have HR := Lib.hid (fun w' => right_any i w' (by omega) true (by simpa using hr))
  have HX := Lib.hid (Bx.new w i)
  have HO := Lib.hid ho
  have HT := Lib.hid hT
  have HH := Lib.hid (show nl (head i) = [76, 73] ++ NumB.putb i.p 1 ++ NumB.putb i.v 2 ++ NumB.putb i.h 2 ++ NumB.putb i.m 1 ++ NumB.putb i.f 1 ++ NumB.putb i.s 1 ++ NumB.putb i.r 1 ++ NumE.txt (nl i.xs) from by
    rw [head, nl_app, ← txt_nl hn (by omega)]
    simp only [nums8, nl_app, pbn_nl]
    rfl)
  have HL := Lib.hid (head_lt (i := i) ho.byt)
  have HLN := Lib.hid (show (head i).length ≤ 100000 from by rw [head_len]; omega)
  have HRD := Lib.hid (show Rd w i.A i.n i.c (NumA.u8s (nl i.xs)) from by rw [← nl_u8s]; exact ho.code)
  clear hr ho hT
  generalize head i = hd at *
  obtain ⟨p, v, h, m, f, s, r, A, n, c, xs⟩ := i
  dsimp only at HH HRD hn h96
  show Calls _ _ #[.agg #[.int .i64 p, .int .i64 v, .int .i64 h, .int .i64 m, .int .i64 f, .int .i64 s, .int .i64 r, .slice A n c]] w _
  have kc := fun (w : World) (C : Array Value) (n c : Nat) => Lib.run_convert_bytes_const (P := Tryd.prog) w 22 5 C n c Tryd.underlying22 Tryd.underlying5
  go_enter Tryd.func8, Tryd.ntmps8
  go_wp2_with fail
  refine (HR.out _).mono ?_
  rintro e w1 ⟨rfl, hb1⟩
  have HX1 := Lib.hid (HX.out.step hb1)
  clear hb1 HX
  obtain ⟨y0, y1, y2, y3, y4, y5, y6, y7⟩ := HX1.out.cell
  dsimp only at y0 y1 y2 y3 y4 y5 y6 y7
  have hsz := HX1.out.sz
  go_wp2_with fail
  have HX2 := Lib.hid (HX1.out.alloc (.cells #[.int .u8 76, .int .u8 73] 5 (2, 3)))
  have HR2 := Lib.hid (show Rd (w1.alloc (.cells #[.int .u8 76, .int .u8 73] 5 (2, 3))) (some ⟨w1.heap.size, 0, none⟩) 2 2 (NumA.u8s [76, 73]) from CrcD.Rd.cells w1 [76, 73] 5 (m := (2, 3)) rfl (by omega))
  refine (NumB.put_any _ 2 2 [76, 73] p 1 _ HR2.out (by omega)).mono ?_
  rintro e w3 ⟨A3, n3, c3, hn3, rfl, ho3, hb3⟩
  have HX3 := Lib.hid (HX2.out.step hb3)
  have HR3 := Lib.hid (fresh_rd ho3)
  clear hb3 ho3 hn3 y0 y1 y2 y3 y4 y5 y6 y7 HX1 HX2 HR2 hsz
  obtain ⟨y0, y1, y2, y3, y4, y5, y6, y7⟩ := HX3.out.cell
  dsimp only at y0 y1 y2 y3 y4 y5 y6 y7
  go_wp2_with fail
  refine (NumB.put_any A3 n3 c3 ([76, 73] ++ NumB.putb p 1) v 2 _ HR3.out (by have := NumA.Rd.bytes HR3.out; simp only [List.length_append, NumB.putb_len, wd1, wd2, List.length_cons, List.length_nil] at this; omega)).mono ?_
  rintro e w4 ⟨A4, n4, c4, hn4, rfl, ho4, hb4⟩
  have HX4 := Lib.hid (HX3.out.step hb4)
  have HR4 := Lib.hid (fresh_rd ho4)
  clear hb4 ho4 hn4 y0 y1 y2 y3 y4 y5 y6 y7 HX3 HR3
  obtain ⟨y0, y1, y2, y3, y4, y5, y6, y7⟩ := HX4.out.cell
  dsimp only at y0 y1 y2 y3 y4 y5 y6 y7
  go_wp2_with fail
  refine (NumB.put_any A4 n4 c4 ([76, 73] ++ NumB.putb p 1 ++ NumB.putb v 2) h 2 _ HR4.out (by have := NumA.Rd.bytes HR4.out; simp only [List.length_append, NumB.putb_len, wd1, wd2, List.length_cons, List.length_nil] at this; omega)).mono ?_
  rintro e w5 ⟨A5, n5, c5, hn5, rfl, ho5, hb5⟩
  have HX5 := Lib.hid (HX4.out.step hb5)
  have HR5 := Lib.hid (fresh_rd ho5)
  clear hb5 ho5 hn5 y0 y1 y2 y3 y4 y5 y6 y7 HX4 HR4
  obtain ⟨y0, y1, y2, y3, y4, y5, y6, y7⟩ := HX5.out.cell
  dsimp only at y0 y1 y2 y3 y4 y5 y6 y7
  obtain ⟨L, hL⟩ : ∃ L, L = [76, 73] ++ NumB.putb p 1 ++ NumB.putb v 2 ++ NumB.putb h 2 := ⟨_, rfl⟩
  rw [← hL] at HR5
  have HLL := Lib.hid (show L.length = 7 from by rw [hL]; simp only [List.length_append, NumB.putb_len, wd1, wd2, List.length_cons, List.length_nil])
  have HHL := Lib.hid (show nl hd = acc L m f s r 4 ++ NumE.txt (nl xs) from by rw [HH.out, hL]; rfl)
  have hn5 : n5 = 7 := by have := NumA.Rd.bytes HR5.out; have := HLL.out; omega
  have HN5 := Lib.hid hn5
  clear hL HH hn5
  go_wp2_with fail
  clear y0 y1 y2 y3 y4 y5 y6 y7
  go_loopw [4, 6, 32] (fun o q i wr => ∃ (k : Nat) (B : Option Addr) (n' d : Nat), k ≤ 4 ∧ i = .int .i64 k ∧ o = .slice B n' d ∧ n' ≤ 7 + k ∧ Hid (Rd wr B n' d (NumA.u8s (acc L m f s r k))) ∧ Hid (Bx w w.heap.size ⟨p, v, h, m, f, s, r, A, n, c, xs⟩ wr)) (fun _ _ i _ => 4 - (intOf i).toNat)
  case atStart => exact ⟨0, A5, n5, c5, by omega, rfl, rfl, by have := HN5.out; omega, HR5, HX5⟩
  case round =>
    obtain ⟨k, B, n', d, hk, rfl, rfl, hnk, HRk, HXk⟩ := hrel
    match k, hk with
    | 0, _ =>
      have HC := Lib.hid (NumB.put_any B n' d (acc L m f s r 0) m 1 wr HRk.out (by omega))
      have hix : ∀ w, (Instr.index 41 (.agg #[.int .i64 m, .int .i64 f, .int .i64 s, .int .i64 r]) (.int .i64 0)).run Tryd.prog w = .ok (.int .i64 m) w := fun w => run_index_one (k := 0) (xs := [.int .i64 m, .int .i64 f, .int .i64 s, .int .i64 r]) Tryd.underlying41 ⟨_, Tryd.underlying3⟩ size1 (by omega) rfl w
      go_wp2_with (go_at_call 17; refine HC.out.mono ?_; rintro e w6 ⟨A6, n6, c6, hn6, rfl, ho6, hb6⟩)
      have HN6 := Lib.hid (show n6 ≤ 7 + 1 from by have h1 := hn6.out; have h2 := NumA.Rd.bytes HRk.out; rw [List.length_append, NumB.putb_len, wd1] at h1; omega)
      clear hn6
      go_roundw
      case rel => exact ⟨1, A6, n6, c6, by omega, rfl, rfl, HN6.out, Lib.hid (fresh_rd ho6), Lib.hid (HXk.out.step hb6)⟩
      case measure => simp [intOf]
    | 1, _ =>
      have HC := Lib.hid (NumB.put_any B n' d (acc L m f s r 1) f 1 wr HRk.out (by omega))
      have hix : ∀ w, (Instr.index 41 (.agg #[.int .i64 m, .int .i64 f, .int .i64 s, .int .i64 r]) (.int .i64 1)).run Tryd.prog w = .ok (.int .i64 f) w := fun w => run_index_one (k := 1) (xs := [.int .i64 m, .int .i64 f, .int .i64 s, .int .i64 r]) Tryd.underlying41 ⟨_, Tryd.underlying3⟩ size1 (by omega) rfl w
      go_wp2_with (go_at_call 17; refine HC.out.mono ?_; rintro e w6 ⟨A6, n6, c6, hn6, rfl, ho6, hb6⟩)
      have HN6 := Lib.hid (show n6 ≤ 7 + 2 from by have h1 := hn6.out; have h2 := NumA.Rd.bytes HRk.out; rw [List.length_append, NumB.putb_len, wd1] at h1; omega)
      clear hn6
      go_roundw
      case rel => exact ⟨2, A6, n6, c6, by omega, rfl, rfl, HN6.out, Lib.hid (fresh_rd ho6), Lib.hid (HXk.out.step hb6)⟩
      case measure => simp [intOf]
    | 2, _ =>
      have HC := Lib.hid (NumB.put_any B n' d (acc L m f s r 2) s 1 wr HRk.out (by omega))
      have hix : ∀ w, (Instr.index 41 (.agg #[.int .i64 m, .int .i64 f, .int .i64 s, .int .i64 r]) (.int .i64 2)).run Tryd.prog w = .ok (.int .i64 s) w := fun w => run_index_one (k := 2) (xs := [.int .i64 m, .int .i64 f, .int .i64 s, .int .i64 r]) Tryd.underlying41 ⟨_, Tryd.underlying3⟩ size1 (by omega) rfl w
      go_wp2_with (go_at_call 17; refine HC.out.mono ?_; rintro e w6 ⟨A6, n6, c6, hn6, rfl, ho6, hb6⟩)
      have HN6 := Lib.hid (show n6 ≤ 7 + 3 from by have h1 := hn6.out; have h2 := NumA.Rd.bytes HRk.out; rw [List.length_append, NumB.putb_len, wd1] at h1; omega)
      clear hn6
      go_roundw
      case rel => exact ⟨3, A6, n6, c6, by omega, rfl, rfl, HN6.out, Lib.hid (fresh_rd ho6), Lib.hid (HXk.out.step hb6)⟩
      case measure => simp [intOf]
    | 3, _ =>
      have HC := Lib.hid (NumB.put_any B n' d (acc L m f s r 3) r 1 wr HRk.out (by omega))
      have hix : ∀ w, (Instr.index 41 (.agg #[.int .i64 m, .int .i64 f, .int .i64 s, .int .i64 r]) (.int .i64 3)).run Tryd.prog w = .ok (.int .i64 r) w := fun w => run_index_one (k := 3) (xs := [.int .i64 m, .int .i64 f, .int .i64 s, .int .i64 r]) Tryd.underlying41 ⟨_, Tryd.underlying3⟩ size1 (by omega) rfl w
      go_wp2_with (go_at_call 17; refine HC.out.mono ?_; rintro e w6 ⟨A6, n6, c6, hn6, rfl, ho6, hb6⟩)
      have HN6 := Lib.hid (show n6 ≤ 7 + 4 from by have h1 := hn6.out; have h2 := NumA.Rd.bytes HRk.out; rw [List.length_append, NumB.putb_len, wd1] at h1; omega)
      clear hn6
      go_roundw
      case rel => exact ⟨4, A6, n6, c6, by omega, rfl, rfl, HN6.out, Lib.hid (fresh_rd ho6), Lib.hid (HXk.out.step hb6)⟩
      case measure => simp [intOf]
    | 4, _ =>
      obtain ⟨y0, y1, y2, y3, y4, y5, y6, y7⟩ := HXk.out.cell
      dsimp only at y0 y1 y2 y3 y4 y5 y6 y7
      have HTX := Lib.hid (NumE.text_any B n' d (acc L m f s r 4) A n c (nl xs) wr HRk.out (HRD.out.below HXk.out.bel) (by omega))
      go_wp2_with fail
      refine HTX.out.mono ?_
      rintro e w7 ⟨A7, n7, c7, hn7, rfl, ho7, hb7⟩
      have HX7 := Lib.hid (HXk.out.step hb7)
      have HR7 := Lib.hid (show Rd w7 A7 n7 c7 (u8n hd) from by rw [nl_u8s, HHL.out]; exact fresh_rd ho7)
      clear hn7 ho7 hb7 y0 y1 y2 y3 y4 y5 y6 y7
      have HSE := Lib.hid (sealed_any A7 n7 c7 hd w7 (HT.out.below HX7.out.bel HT.out.1) HR7.out HL.out HLN.out)
      go_wp2_with fail
      refine HSE.out.mono ?_
      rintro e w8 ⟨B8, m8, d8, rfl, ho8, hb8⟩
      have HX8 := Lib.hid (HX7.out.step hb8)
      have HO8 := Lib.hid (own_mono ho8 HX7.out.bel.size)
      clear ho8 hb8
      go_wp2
      go_ret2
      exact ⟨B8, m8, d8, rfl, HO8.out, HX8.out.bel⟩
end Go.Proofs.YtlghojnlnfkdhaaDoor.ImgP
