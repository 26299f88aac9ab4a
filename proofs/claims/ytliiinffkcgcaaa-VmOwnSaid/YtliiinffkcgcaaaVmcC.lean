/- The program's deeds without a channel. Conditions: what is worked on lies as the facts say. -/
import Derived.Test.YtliiinffkcgcaaaVmcB
namespace Go.Proofs.Ytliiinffkcgcaaa.VmcC
open Go.RowKit Go.Proofs.Ytliiinffkcgcaaa.Kit Go.Proofs.Ytliiinffkcgcaaa.Byt Go.Proofs.Ytliiinffkcgcaaa.Mem Go.Proofs.Ytliiinffkcgcaaa.VmcM Go.Proofs.Ytliiinffkcgcaaa.VmcA Go.Proofs.Ytliiinffkcgcaaa.VmcB
open Go.Proofs.Ytliiinffkcgcaaa.ImgA (Im)
open Go.Proofs.Ytliiinffkcgcaaa.BitA (i64s)

section
variable {v : V} {i : Im} {P : Value} {o b : Nat} {e : Bool} {w : World} {a : Int}
set_option maxRecDepth 100000 in
theorem yield_any (h : v.ok) (hB : Wb w b v i P o e) (a : Int) : Calls Try.prog 58 #[.pointer (some ⟨b, 0, none⟩), .int .i64 a] w (Did b i P o w (.tuple #[]) (v) true) := by
  have c38 := hB.tail h (k := 10) (x := .bool e) rfl
  have z38 := hB.frozen 38
  have hs := Blk.set hB 38 (.bool true)
  rw [wc_ends h true] at hs
  have HS := Lib.hid hs
  clear hB hs h
  go_enter Try.func58, Try.ntmps58
  go_wp2
  first | go_end0 | refine bodyPost_ret (results_none rfl _ _ _) rfl ?_
  exact ⟨rfl, HS.out, Only.set w b 38 _⟩
set_option maxRecDepth 100000 in
theorem drop_any (h : v.ok) (hB : Wb w b v i P o e) (a : Int) : Calls Try.prog 60 #[.pointer (some ⟨b, 0, none⟩), .int .i64 a] w (Did b i P o w (.tuple #[]) (takeV v) e) := by
  have HT := Lib.hid (take_any h hB)
  clear hB h
  go_enter Try.func60, Try.ntmps60
  go_wp2_with fail
  refine (HT.out).mono ?_
  rintro en w1 ⟨rfl, p1, q1⟩
  have P1 := Lib.hid p1
  have Q1 := Lib.hid q1
  clear p1 q1
  go_wp2
  first | go_end0 | refine bodyPost_ret (results_none rfl _ _ _) rfl ?_
  exact ⟨rfl, P1.out, Q1.out⟩
set_option maxRecDepth 100000 in
theorem now_any (h : v.ok) (hB : Wb w b v i P o e) (a : Int) : Calls Try.prog 76 #[.pointer (some ⟨b, 0, none⟩), .int .i64 a] w (Did b i P o w (.tuple #[]) (lay v.tk v) e) := by
  have c26 := hB.at_ h (sc_tk h)
  have HL := Lib.hid (lay_any h hB v.tk)
  clear hB h
  go_enter Try.func76, Try.ntmps76
  go_wp2_with fail
  refine (HL.out).mono ?_
  rintro en w1 ⟨rfl, p1, q1⟩
  have P1 := Lib.hid p1
  have Q1 := Lib.hid q1
  clear p1 q1
  go_wp2
  first | go_end0 | refine bodyPost_ret (results_none rfl _ _ _) rfl ?_
  exact ⟨rfl, P1.out, Q1.out⟩
set_option maxRecDepth 100000 in
theorem halt_any (h : v.ok) (hB : Wb w b v i P o e) (a : Int) : Calls Try.prog 75 #[.pointer (some ⟨b, 0, none⟩), .int .i64 a] w (Did b i P o w (.tuple #[]) (need false 16 v) e) := by
  have HN := Lib.hid (need_any h hB false 16)
  clear hB h
  go_enter Try.func75, Try.ntmps75
  go_wp2_with fail
  refine (HN.out).mono ?_
  rintro en w1 ⟨rfl, p1, q1⟩
  have P1 := Lib.hid p1
  have Q1 := Lib.hid q1
  clear p1 q1
  go_wp2
  first | go_end0 | refine bodyPost_ret (results_none rfl _ _ _) rfl ?_
  exact ⟨rfl, P1.out, Q1.out⟩
set_option maxRecDepth 100000 in
theorem dup_any (h : v.ok) (hB : Wb w b v i P o e) (a : Int) : Calls Try.prog 61 #[.pointer (some ⟨b, 0, none⟩), .int .i64 a] w (Did b i P o w (.tuple #[]) (dupl v) e) := by
  unfold dupl
  obtain ⟨x, hx⟩ : ∃ x, x = takeN v := ⟨_, rfl⟩
  obtain ⟨u, hu⟩ : ∃ u, u = takeV v := ⟨_, rfl⟩
  have ku : u.ok := hu ▸ h.takeV
  have nx : num x := hx ▸ h.takeN
  have T1 := take_any h hB
  rw [← hx, ← hu] at T1 ⊢
  have HT1 := Lib.hid T1
  obtain ⟨u2, hu2⟩ : ∃ u2, u2 = lay x u := ⟨_, rfl⟩
  have ku2 : u2.ok := hu2 ▸ ku.lay x
  have HL := Lib.hid (fun w' (hw : Wb w' b u i P o e) => hu2 ▸ lay_any ku hw x)
  have HL2 := Lib.hid (fun w' (hw : Wb w' b u2 i P o e) => lay_any ku2 hw x)
  rw [← hu2]
  clear T1 hx hu hu2 hB h nx
  go_enter Try.func61, Try.ntmps61
  go_wp2_with fail
  refine (HT1.out).mono ?_
  rintro en w1 ⟨rfl, p1, q1⟩
  have P1 := Lib.hid p1
  have Q1 := Lib.hid q1
  clear p1 q1
  go_wp2_with fail
  refine (HL.out _ P1.out).mono ?_
  rintro en w2 ⟨rfl, p2, q2⟩
  have P2 := Lib.hid p2
  have Q2 := Lib.hid q2
  clear p2 q2
  go_wp2_with fail
  refine (HL2.out _ P2.out).mono ?_
  rintro en w3 ⟨rfl, p3, q3⟩
  have P3 := Lib.hid p3
  have Q3 := Lib.hid q3
  clear p3 q3
  go_wp2
  first | go_end0 | refine bodyPost_ret (results_none rfl _ _ _) rfl ?_
  exact ⟨rfl, P3.out, (Q1.out.trans Q2.out).trans Q3.out⟩
set_option maxRecDepth 100000 in
theorem swap_any (h : v.ok) (hB : Wb w b v i P o e) (a : Int) : Calls Try.prog 62 #[.pointer (some ⟨b, 0, none⟩), .int .i64 a] w (Did b i P o w (.tuple #[]) (swp v) e) := by
  unfold swp
  obtain ⟨x, hx⟩ : ∃ x, x = takeN v := ⟨_, rfl⟩
  obtain ⟨u, hu⟩ : ∃ u, u = takeV v := ⟨_, rfl⟩
  have ku : u.ok := hu ▸ h.takeV
  have nx : num x := hx ▸ h.takeN
  have T1 := take_any h hB
  rw [← hx, ← hu] at T1 ⊢
  have HT1 := Lib.hid T1
  obtain ⟨y, hy⟩ : ∃ y, y = takeN u := ⟨_, rfl⟩
  obtain ⟨u2, hu2⟩ : ∃ u2, u2 = takeV u := ⟨_, rfl⟩
  have ku2 : u2.ok := hu2 ▸ ku.takeV
  have ny : num y := hy ▸ ku.takeN
  have HT2 := Lib.hid (show ∀ w', Wb w' b u i P o e → Calls Try.prog 79 #[.pointer (some ⟨b, 0, none⟩)] w' (Did b i P o w' (.int .i64 y) u2 e) from fun w' hw => by have T2 := take_any ku hw; rwa [← hy, ← hu2] at T2)
  rw [← hy, ← hu2]
  obtain ⟨u3, hu3⟩ : ∃ u3, u3 = lay x u2 := ⟨_, rfl⟩
  have ku3 : u3.ok := hu3 ▸ ku2.lay x
  have HL := Lib.hid (fun w' (hw : Wb w' b u2 i P o e) => hu3 ▸ lay_any ku2 hw x)
  have HL2 := Lib.hid (fun w' (hw : Wb w' b u3 i P o e) => lay_any ku3 hw y)
  rw [← hu3]
  clear T1 hx hu hu2 hu3 hy hB h nx ny
  go_enter Try.func62, Try.ntmps62
  go_wp2_with fail
  refine (HT1.out).mono ?_
  rintro en w1 ⟨rfl, p1, q1⟩
  have P1 := Lib.hid p1
  have Q1 := Lib.hid q1
  clear p1 q1
  go_wp2_with fail
  refine (HT2.out _ P1.out).mono ?_
  rintro en w2 ⟨rfl, p2, q2⟩
  have P2 := Lib.hid p2
  have Q2 := Lib.hid q2
  clear p2 q2
  go_wp2_with fail
  refine (HL.out _ P2.out).mono ?_
  rintro en w3 ⟨rfl, p3, q3⟩
  have P3 := Lib.hid p3
  have Q3 := Lib.hid q3
  clear p3 q3
  go_wp2_with fail
  refine (HL2.out _ P3.out).mono ?_
  rintro en w4 ⟨rfl, p4, q4⟩
  have P4 := Lib.hid p4
  have Q4 := Lib.hid q4
  clear p4 q4
  go_wp2
  first | go_end0 | refine bodyPost_ret (results_none rfl _ _ _) rfl ?_
  exact ⟨rfl, P4.out, ((Q1.out.trans Q2.out).trans Q3.out).trans Q4.out⟩
set_option maxRecDepth 100000 in
theorem add_any (h : v.ok) (hB : Wb w b v i P o e) (a : Int) : Calls Try.prog 63 #[.pointer (some ⟨b, 0, none⟩), .int .i64 a] w (Did b i P o w (.tuple #[]) (two (sum 5) v) e) := by
  unfold two
  obtain ⟨x, hx⟩ : ∃ x, x = takeN v := ⟨_, rfl⟩
  obtain ⟨u, hu⟩ : ∃ u, u = takeV v := ⟨_, rfl⟩
  have ku : u.ok := hu ▸ h.takeV
  have nx : num x := hx ▸ h.takeN
  have T1 := take_any h hB
  rw [← hx, ← hu] at T1 ⊢
  have HT1 := Lib.hid T1
  obtain ⟨y, hy⟩ : ∃ y, y = takeN u := ⟨_, rfl⟩
  obtain ⟨u2, hu2⟩ : ∃ u2, u2 = takeV u := ⟨_, rfl⟩
  have ku2 : u2.ok := hu2 ▸ ku.takeV
  have ny : num y := hy ▸ ku.takeN
  have HT2 := Lib.hid (show ∀ w', Wb w' b u i P o e → Calls Try.prog 79 #[.pointer (some ⟨b, 0, none⟩)] w' (Did b i P o w' (.int .i64 y) u2 e) from fun w' hw => by have T2 := take_any ku hw; rwa [← hy, ← hu2] at T2)
  rw [← hy, ← hu2]
  rw [show sum 5 y x = y + x from rfl]
  have n1 := nx.1
  have n2 := nx.2
  have n3 := ny.1
  have n4 := ny.2
  have HL := Lib.hid (fun w' (hw : Wb w' b u2 i P o e) => lay_any ku2 hw (y + x))
  clear T1 hx hu hu2 hy hB h nx ny
  go_enter Try.func63, Try.ntmps63
  go_wp2_with fail
  refine (HT1.out).mono ?_
  rintro en w1 ⟨rfl, p1, q1⟩
  have P1 := Lib.hid p1
  have Q1 := Lib.hid q1
  clear p1 q1
  go_wp2_with fail
  refine (HT2.out _ P1.out).mono ?_
  rintro en w2 ⟨rfl, p2, q2⟩
  have P2 := Lib.hid p2
  have Q2 := Lib.hid q2
  clear p2 q2
  go_wp2_with fail
  refine (HL.out _ P2.out).mono ?_
  rintro en w3 ⟨rfl, p3, q3⟩
  have P3 := Lib.hid p3
  have Q3 := Lib.hid q3
  clear p3 q3
  go_wp2
  first | go_end0 | refine bodyPost_ret (results_none rfl _ _ _) rfl ?_
  exact ⟨rfl, P3.out, (Q1.out.trans Q2.out).trans Q3.out⟩
set_option maxRecDepth 100000 in
theorem sub_any (h : v.ok) (hB : Wb w b v i P o e) (a : Int) : Calls Try.prog 64 #[.pointer (some ⟨b, 0, none⟩), .int .i64 a] w (Did b i P o w (.tuple #[]) (two (sum 6) v) e) := by
  unfold two
  obtain ⟨x, hx⟩ : ∃ x, x = takeN v := ⟨_, rfl⟩
  obtain ⟨u, hu⟩ : ∃ u, u = takeV v := ⟨_, rfl⟩
  have ku : u.ok := hu ▸ h.takeV
  have nx : num x := hx ▸ h.takeN
  have T1 := take_any h hB
  rw [← hx, ← hu] at T1 ⊢
  have HT1 := Lib.hid T1
  obtain ⟨y, hy⟩ : ∃ y, y = takeN u := ⟨_, rfl⟩
  obtain ⟨u2, hu2⟩ : ∃ u2, u2 = takeV u := ⟨_, rfl⟩
  have ku2 : u2.ok := hu2 ▸ ku.takeV
  have ny : num y := hy ▸ ku.takeN
  have HT2 := Lib.hid (show ∀ w', Wb w' b u i P o e → Calls Try.prog 79 #[.pointer (some ⟨b, 0, none⟩)] w' (Did b i P o w' (.int .i64 y) u2 e) from fun w' hw => by have T2 := take_any ku hw; rwa [← hy, ← hu2] at T2)
  rw [← hy, ← hu2]
  rw [show sum 6 y x = y - x from rfl]
  have n1 := nx.1
  have n2 := nx.2
  have n3 := ny.1
  have n4 := ny.2
  have HL := Lib.hid (fun w' (hw : Wb w' b u2 i P o e) => lay_any ku2 hw (y - x))
  clear T1 hx hu hu2 hy hB h nx ny
  go_enter Try.func64, Try.ntmps64
  go_wp2_with fail
  refine (HT1.out).mono ?_
  rintro en w1 ⟨rfl, p1, q1⟩
  have P1 := Lib.hid p1
  have Q1 := Lib.hid q1
  clear p1 q1
  go_wp2_with fail
  refine (HT2.out _ P1.out).mono ?_
  rintro en w2 ⟨rfl, p2, q2⟩
  have P2 := Lib.hid p2
  have Q2 := Lib.hid q2
  clear p2 q2
  go_wp2_with fail
  refine (HL.out _ P2.out).mono ?_
  rintro en w3 ⟨rfl, p3, q3⟩
  have P3 := Lib.hid p3
  have Q3 := Lib.hid q3
  clear p3 q3
  go_wp2
  first | go_end0 | refine bodyPost_ret (results_none rfl _ _ _) rfl ?_
  exact ⟨rfl, P3.out, (Q1.out.trans Q2.out).trans Q3.out⟩
set_option maxRecDepth 100000 in
theorem mul_any (h : v.ok) (hB : Wb w b v i P o e) (a : Int) : Calls Try.prog 65 #[.pointer (some ⟨b, 0, none⟩), .int .i64 a] w (Did b i P o w (.tuple #[]) (two (sum 7) v) e) := by
  unfold two
  obtain ⟨x, hx⟩ : ∃ x, x = takeN v := ⟨_, rfl⟩
  obtain ⟨u, hu⟩ : ∃ u, u = takeV v := ⟨_, rfl⟩
  have ku : u.ok := hu ▸ h.takeV
  have nx : num x := hx ▸ h.takeN
  have T1 := take_any h hB
  rw [← hx, ← hu] at T1 ⊢
  have HT1 := Lib.hid T1
  obtain ⟨y, hy⟩ : ∃ y, y = takeN u := ⟨_, rfl⟩
  obtain ⟨u2, hu2⟩ : ∃ u2, u2 = takeV u := ⟨_, rfl⟩
  have ku2 : u2.ok := hu2 ▸ ku.takeV
  have ny : num y := hy ▸ ku.takeN
  have HT2 := Lib.hid (show ∀ w', Wb w' b u i P o e → Calls Try.prog 79 #[.pointer (some ⟨b, 0, none⟩)] w' (Did b i P o w' (.int .i64 y) u2 e) from fun w' hw => by have T2 := take_any ku hw; rwa [← hy, ← hu2] at T2)
  rw [← hy, ← hu2]
  rw [show sum 7 y x = y * x from rfl]
  have n1 := nx.1
  have n2 := nx.2
  have n3 := ny.1
  have n4 := ny.2
  have n5 : 0 ≤ y * x := Int.mul_nonneg n3 n1
  have n6 : y * x ≤ 65535 * 65535 := Int.mul_le_mul n4 n2 n1 (by omega)
  have n7 : y * x ≤ 4294836225 := n6
  have HL := Lib.hid (fun w' (hw : Wb w' b u2 i P o e) => lay_any ku2 hw (y * x))
  clear T1 hx hu hu2 hy hB h nx ny
  go_enter Try.func65, Try.ntmps65
  go_wp2_with fail
  refine (HT1.out).mono ?_
  rintro en w1 ⟨rfl, p1, q1⟩
  have P1 := Lib.hid p1
  have Q1 := Lib.hid q1
  clear p1 q1
  go_wp2_with fail
  refine (HT2.out _ P1.out).mono ?_
  rintro en w2 ⟨rfl, p2, q2⟩
  have P2 := Lib.hid p2
  have Q2 := Lib.hid q2
  clear p2 q2
  go_wp2_with fail
  refine (HL.out _ P2.out).mono ?_
  rintro en w3 ⟨rfl, p3, q3⟩
  have P3 := Lib.hid p3
  have Q3 := Lib.hid q3
  clear p3 q3
  go_wp2
  first | go_end0 | refine bodyPost_ret (results_none rfl _ _ _) rfl ?_
  exact ⟨rfl, P3.out, (Q1.out.trans Q2.out).trans Q3.out⟩
set_option maxRecDepth 100000 in
theorem less_any (h : v.ok) (hB : Wb w b v i P o e) (a : Int) : Calls Try.prog 66 #[.pointer (some ⟨b, 0, none⟩), .int .i64 a] w (Did b i P o w (.tuple #[]) (two (sum 8) v) e) := by
  unfold two
  obtain ⟨x, hx⟩ : ∃ x, x = takeN v := ⟨_, rfl⟩
  obtain ⟨u, hu⟩ : ∃ u, u = takeV v := ⟨_, rfl⟩
  have ku : u.ok := hu ▸ h.takeV
  have nx : num x := hx ▸ h.takeN
  have T1 := take_any h hB
  rw [← hx, ← hu] at T1 ⊢
  have HT1 := Lib.hid T1
  obtain ⟨y, hy⟩ : ∃ y, y = takeN u := ⟨_, rfl⟩
  obtain ⟨u2, hu2⟩ : ∃ u2, u2 = takeV u := ⟨_, rfl⟩
  have ku2 : u2.ok := hu2 ▸ ku.takeV
  have ny : num y := hy ▸ ku.takeN
  have HT2 := Lib.hid (show ∀ w', Wb w' b u i P o e → Calls Try.prog 79 #[.pointer (some ⟨b, 0, none⟩)] w' (Did b i P o w' (.int .i64 y) u2 e) from fun w' hw => by have T2 := take_any ku hw; rwa [← hy, ← hu2] at T2)
  rw [← hy, ← hu2]
  rw [show sum 8 y x = tru (decide (y < x)) from rfl]
  have n1 := nx.1
  have n2 := nx.2
  have n3 := ny.1
  have n4 := ny.2
  have HL := Lib.hid (fun w' (hw : Wb w' b u2 i P o e) => truth_any ku2 hw (decide (y < x)))
  clear T1 hx hu hu2 hy hB h nx ny
  go_enter Try.func66, Try.ntmps66
  go_wp2_with fail
  refine (HT1.out).mono ?_
  rintro en w1 ⟨rfl, p1, q1⟩
  have P1 := Lib.hid p1
  have Q1 := Lib.hid q1
  clear p1 q1
  go_wp2_with fail
  refine (HT2.out _ P1.out).mono ?_
  rintro en w2 ⟨rfl, p2, q2⟩
  have P2 := Lib.hid p2
  have Q2 := Lib.hid q2
  clear p2 q2
  go_wp2_with fail
  refine (HL.out _ P2.out).mono ?_
  rintro en w3 ⟨rfl, p3, q3⟩
  have P3 := Lib.hid p3
  have Q3 := Lib.hid q3
  clear p3 q3
  go_wp2
  first | go_end0 | refine bodyPost_ret (results_none rfl _ _ _) rfl ?_
  exact ⟨rfl, P3.out, (Q1.out.trans Q2.out).trans Q3.out⟩
set_option maxRecDepth 100000 in
theorem same_any (h : v.ok) (hB : Wb w b v i P o e) (a : Int) : Calls Try.prog 67 #[.pointer (some ⟨b, 0, none⟩), .int .i64 a] w (Did b i P o w (.tuple #[]) (two (sum 9) v) e) := by
  unfold two
  obtain ⟨x, hx⟩ : ∃ x, x = takeN v := ⟨_, rfl⟩
  obtain ⟨u, hu⟩ : ∃ u, u = takeV v := ⟨_, rfl⟩
  have ku : u.ok := hu ▸ h.takeV
  have nx : num x := hx ▸ h.takeN
  have T1 := take_any h hB
  rw [← hx, ← hu] at T1 ⊢
  have HT1 := Lib.hid T1
  obtain ⟨y, hy⟩ : ∃ y, y = takeN u := ⟨_, rfl⟩
  obtain ⟨u2, hu2⟩ : ∃ u2, u2 = takeV u := ⟨_, rfl⟩
  have ku2 : u2.ok := hu2 ▸ ku.takeV
  have ny : num y := hy ▸ ku.takeN
  have HT2 := Lib.hid (show ∀ w', Wb w' b u i P o e → Calls Try.prog 79 #[.pointer (some ⟨b, 0, none⟩)] w' (Did b i P o w' (.int .i64 y) u2 e) from fun w' hw => by have T2 := take_any ku hw; rwa [← hy, ← hu2] at T2)
  rw [← hy, ← hu2]
  rw [show sum 9 y x = tru (decide (y = x)) from rfl]
  have n1 := nx.1
  have n2 := nx.2
  have n3 := ny.1
  have n4 := ny.2
  have HL := Lib.hid (fun w' (hw : Wb w' b u2 i P o e) => truth_any ku2 hw (decide (y = x)))
  clear T1 hx hu hu2 hy hB h nx ny
  go_enter Try.func67, Try.ntmps67
  go_wp2_with fail
  refine (HT1.out).mono ?_
  rintro en w1 ⟨rfl, p1, q1⟩
  have P1 := Lib.hid p1
  have Q1 := Lib.hid q1
  clear p1 q1
  go_wp2_with fail
  refine (HT2.out _ P1.out).mono ?_
  rintro en w2 ⟨rfl, p2, q2⟩
  have P2 := Lib.hid p2
  have Q2 := Lib.hid q2
  clear p2 q2
  go_wp2_with fail
  refine (HL.out _ P2.out).mono ?_
  rintro en w3 ⟨rfl, p3, q3⟩
  have P3 := Lib.hid p3
  have Q3 := Lib.hid q3
  clear p3 q3
  go_wp2
  first | go_end0 | refine bodyPost_ret (results_none rfl _ _ _) rfl ?_
  exact ⟨rfl, P3.out, (Q1.out.trans Q2.out).trans Q3.out⟩
end
end Go.Proofs.Ytliiinffkcgcaaa.VmcC
