/- The laws' example: the bytes of PDone of session 1. No conditions. -/
import Derived.Test.YtamilgbjjcdlbaaPduN
import Derived.Test.YtamilgbjjcdlbaaPduF
namespace Go.Proofs.Ytamilgbjjcdlbaa.PduW
open Go.RowKit Go.Proofs.Ytamilgbjjcdlbaa.Kit Go.Proofs.Ytamilgbjjcdlbaa.Byt Go.Proofs.Ytamilgbjjcdlbaa.Mem Go.Proofs.Ytamilgbjjcdlbaa.RecM Go.Proofs.Ytamilgbjjcdlbaa.PduM Go.Proofs.Ytamilgbjjcdlbaa.PduA Go.Proofs.Ytamilgbjjcdlbaa.PduN

def ex : Pu := ⟨3, 1, 0, 0, 0, 0, 0, 0, none, 0, 0, []⟩
theorem ex_right : ex.pd.right := by decide
theorem ex_ok (w : World) : ex.ok w := ⟨Rd.nil w, by intro c hc; cases hc⟩
theorem ex_bd : ex.bd := by constructor <;> (unfold n64 ex; decide)
theorem ex_head : ex.pd.head = [3, 0, 1] := by
  show pbn 3 1 ++ (pbn 1 2 ++ []) = _
  rw [show pbn (3 : Int) 1 = [3] from pbn1 3 (by omega), show pbn (1 : Int) 2 = [0, 1] from pbn2 1 (by omega)]
  rfl
set_option maxRecDepth 100000 in
set_option maxHeartbeats 1600000 in
theorem wakes_any (w : World) : Calls Try.prog 9 #[] w (Yes w true) := by
  have HP := Lib.hid (put_yes ex w (ex_ok w) ex_bd ex_right)
  rw [ex_head] at HP
  have HL := Lib.hid (show (tail [3, 0, 1]).length = 7 from tail_len _)
  have HT := Lib.hid (show (tail [3, 0, 1]).take 3 = [3, 0, 1] from by unfold tail; rw [List.take_append_of_le_length (by simp)]; rfl)
  obtain ⟨S, hS⟩ : ∃ S, S = tail [3, 0, 1] := ⟨_, rfl⟩
  rw [← hS] at HP HL HT
  clear hS
  have HP' : Hid (Calls Try.prog 10 #[.agg #[.int .i64 3, .int .i64 1, .int .i64 0, .int .i64 0, .int .i64 0, .int .i64 0, .int .i64 0, .int .i64 0, .slice none 0 0]] w (Puts w S)) := HP
  clear HP
  go_enter Try.func9, Try.ntmps9
  go_wp2_with fail
  refine HP'.out.mono ?_
  rintro e w2 ⟨B, k, d, rfl, ho2, hb2⟩
  have hR2 := Rd.own ho2
  obtain rfl : 7 = k := by have := Rd.nats hR2; have := HL.out; omega
  have hle := hR2.le
  have hcap := hR2.cap
  obtain ⟨bb, oo, rfl, hbl, _⟩ := hR2.2.2.2 (by omega)
  have HR3 := Lib.hid (show Rd w2 (some ⟨bb, oo, none⟩) 3 d (u8n [3, 0, 1]) from by
    have h := hR2.take (k := 3) (by omega)
    rw [← HT.out]
    simpa [u8n, List.map_take] using h)
  have HB2 := Lib.hid hb2
  clear hR2 ho2 hb2
  have k0 : (3 : Int) ≤ (d : Int) := by omega
  have k1 : 3 ≤ d := by omega
  have HZR := Lib.hid (rd_at w2 w2.heap.size 3 [3, 0, 1] rfl rfl (by omega))
  have HBZ := Lib.hid (HB2.out.alloc HB2.out.size (.cells (u8n [3, 0, 1]).toArray 5))
  go_wp2_with fail
  refine (Same.same_n (xs := [3, 0, 1]) (ys := [3, 0, 1]) (HR3.out.alloc _) HZR.out).mono ?_
  rintro e w3 ⟨rfl, n3, rfl⟩
  go_wp2
  go_ret
  exact ⟨rfl, below_drewN HBZ.out _⟩
end Go.Proofs.Ytamilgbjjcdlbaa.PduW
