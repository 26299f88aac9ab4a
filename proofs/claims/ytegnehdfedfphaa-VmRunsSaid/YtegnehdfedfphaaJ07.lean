/- The reference's Same of two states, and of what was sent. Conditions: both lie sa the facts say. The laws' table, and their example; a machine on channels, made anew. No conditions but those each law names. A field of a struct that a call hands back. Over any program; no conditions but those each law names. The laws' example holds. No conditions. A tick, whatever stands there; the image's box through a law; the bits of Sends. No conditions but those each law names. Reset; what a tick counts; told states through a tick; the numbers of a state. Conditions: the machine lies as the facts say. -/
import Derived.Test.YtegnehdfedfphaaJ06
import Derived.Test.YtegnehdfedfphaaJ04
import Derived.BigQuiet
import Derived.Laws.StructEq
import Derived.Test.YtegnehdfedfphaaJ01
namespace Go.Proofs.Ytegnehdfedfphaa.VmcT
open Go.RowKit Go.Proofs.Ytegnehdfedfphaa.Kit Go.Proofs.Ytegnehdfedfphaa.Byt Go.Proofs.Ytegnehdfedfphaa.Mem Go.Proofs.Ytegnehdfedfphaa.OpsM Go.Proofs.Ytegnehdfedfphaa.VmcM Go.Proofs.Ytegnehdfedfphaa.VmcS
open Go.Proofs.Ytegnehdfedfphaa.TabI (i64s i64s_len)
open Go.Proofs.Ytegnehdfedfphaa.PrtB (bel_drewN)
open Go.Proofs.Ytegnehdfedfphaa.PrtO (i64_at)

/-- Are two states alike? -/
def zsame (a b : Z) : Prop := a.pc = b.pc ∧ a.tk = b.tk ∧ a.ft = b.ft ∧ a.st = b.st ∧ a.mem = b.mem
theorem Sv.below {B : Nat} {w w' : World} {z : Z} {x : Value} (h : Sv B w z x) (hb : Below w.heap.size w w') : Sv B w' z x := by
  obtain ⟨A1, n1, c1, A2, n2, c2, h1, h2, h3⟩ := h
  exact ⟨A1, n1, c1, A2, n2, c2, h1, own_below h2 hb, own_below h3 hb⟩
theorem cells_eq {l m : List Int} {n : Nat} (hl : l.length = n) (hm : m.length = n) (h : ∀ j, j < n → l[j]? = m[j]?) : l = m := by
  apply List.ext_getElem?
  intro j
  by_cases hj : j < n
  · exact h j hj
  · rw [List.getElem?_eq_none (by omega), List.getElem?_eq_none (by omega)]
/-- The boxes of two states. -/
structure Two5 (w : World) (a b : Z) (A1 : Option Addr) (n1 c1 : Nat) (A2 : Option Addr) (n2 c2 : Nat) (D1 : Option Addr) (m1 d1 : Nat) (D2 : Option Addr) (m2 d2 : Nat) (wr : World) : Prop where
  x : Blk wr w.heap.size 66 [.int .i64 a.pc, .slice A1 n1 c1, .slice A2 n2 c2, .int .i64 a.tk, .int .i64 a.ft]
  y : Blk wr (w.heap.size + 1) 66 [.int .i64 b.pc, .slice D1 m1 d1, .slice D2 m2 d2, .int .i64 b.tk, .int .i64 b.ft]
  bel : Below w.heap.size w wr
set_option maxRecDepth 100000 in
set_option maxHeartbeats 3200000 in
theorem core_same (a b : Z) (A1 : Option Addr) (n1 c1 : Nat) (A2 : Option Addr) (n2 c2 : Nat) (D1 : Option Addr) (m1 d1 : Nat) (D2 : Option Addr) (m2 d2 : Nat) (w : World) (h1 : Rd w A1 n1 c1 (i64s a.st)) (h2 : Rd w A2 n2 c2 (i64s a.mem)) (k1 : Rd w D1 m1 d1 (i64s b.st)) (k2 : Rd w D2 m2 d2 (i64s b.mem)) (hn : n1 ≤ 1000 ∧ n2 ≤ 1000 ∧ m1 ≤ 1000 ∧ m2 ≤ 1000) (r : Bool) (hr : r = true ↔ zsame a b) :
    Calls Try.prog 19 #[.agg #[.int .i64 a.pc, .slice A1 n1 c1, .slice A2 n2 c2, .int .i64 a.tk, .int .i64 a.ft], .agg #[.int .i64 b.pc, .slice D1 m1 d1, .slice D2 m2 d2, .int .i64 b.tk, .int .i64 b.ft]] w fun e w' => e = .returned (.bool r) ∧ Below w.heap.size w w' := by
  obtain ⟨ap, sa, ma, at_, af⟩ := a
  obtain ⟨bp, sb, mb, bt, bf⟩ := b
  dsimp only at h1 h2 k1 k2
  obtain ⟨q1, q2, q3, q4⟩ := hn
  have e1 : sa.length = n1 := by have := h1.1; rwa [i64s_len] at this
  have e2 : ma.length = n2 := by have := h2.1; rwa [i64s_len] at this
  have e3 : sb.length = m1 := by have := k1.1; rwa [i64s_len] at this
  have e4 : mb.length = m2 := by have := k2.1; rwa [i64s_len] at this
  have HR := Lib.hid (show r = true ↔ ap = bp ∧ at_ = bt ∧ af = bf ∧ sa = sb ∧ ma = mb from hr)
  have HF := Lib.hid (show ∀ q : Prop, (r = true → q) → ¬ q → r = false from fun q hh hp => by rw [Bool.eq_false_iff]; exact fun hb => hp (hh hb))
  have HB := Lib.hid (show ∀ C1 C2 : Array Value, Below w.heap.size w ((w.alloc (.cells C1 66)).alloc (.cells C2 66)) from fun C1 C2 => ((Below.refl _ _).alloc (Nat.le_refl _) _).alloc (by simp) _)
  have H1 := Lib.hid h1
  have H2 := Lib.hid h2
  have K1 := Lib.hid k1
  have K2 := Lib.hid k2
  have E := Lib.hid (show sa.length = n1 ∧ ma.length = n2 ∧ sb.length = m1 ∧ mb.length = m2 from ⟨e1, e2, e3, e4⟩)
  clear h1 h2 k1 k2 hr e1 e2 e3 e4
  by_cases c1' : ap = bp
  rotate_left 1
  · have hrf := Lib.hid (HF.out _ (fun h => (HR.out.1 h).1) c1')
    go_enter Try.func19, Try.ntmps19
    go_wp2
    go_ret
    exact ⟨by rw [hrf.out]; rfl, HB.out _ _⟩
  by_cases c2' : at_ = bt
  rotate_left 1
  · have hrf := Lib.hid (HF.out _ (fun h => (HR.out.1 h).2.1) c2')
    go_enter Try.func19, Try.ntmps19
    go_wp2
    go_ret
    exact ⟨by rw [hrf.out]; rfl, HB.out _ _⟩
  by_cases c3' : af = bf
  rotate_left 1
  · have hrf := Lib.hid (HF.out _ (fun h => (HR.out.1 h).2.2.1) c3')
    go_enter Try.func19, Try.ntmps19
    go_wp2
    go_ret
    exact ⟨by rw [hrf.out]; rfl, HB.out _ _⟩
  by_cases c4' : n1 = m1
  rotate_left 1
  · have hrf := Lib.hid (HF.out _ (fun h => (HR.out.1 h).2.2.2.1) (fun h => c4' (by have := E.out; rw [h] at this; omega)))
    go_enter Try.func19, Try.ntmps19
    go_wp2
    go_ret
    exact ⟨by rw [hrf.out]; rfl, HB.out _ _⟩
  by_cases c5' : n2 = m2
  rotate_left 1
  · have hrf := Lib.hid (HF.out _ (fun h => (HR.out.1 h).2.2.2.2) (fun h => c5' (by have := E.out; rw [h] at this; omega)))
    go_enter Try.func19, Try.ntmps19
    go_wp2
    go_ret
    exact ⟨by rw [hrf.out]; rfl, HB.out _ _⟩
  subst c1' c2' c3' c4' c5'
  have HR2 := Lib.hid (show sa = sb → ma = mb → r = true from fun h1 h2 => HR.out.2 ⟨rfl, rfl, rfl, h1, h2⟩)
  have HB1 := Lib.hid (show Two5 w ⟨ap, sa, ma, at_, af⟩ ⟨ap, sb, mb, at_, af⟩ A1 n1 c1 A2 n2 c2 D1 n1 d1 D2 n2 d2 ((w.alloc (.cells #[.int .i64 ap, .slice A1 n1 c1, .slice A2 n2 c2, .int .i64 at_, .int .i64 af] 66)).alloc (.cells #[.int .i64 ap, .slice D1 n1 d1, .slice D2 n2 d2, .int .i64 at_, .int .i64 af] 66)) from
    ⟨(Blk.new w _ _).alloc _, by have q := Blk.new (w.alloc (.cells #[.int .i64 ap, .slice A1 n1 c1, .slice A2 n2 c2, .int .i64 at_, .int .i64 af] 66)) 66 [.int .i64 ap, .slice D1 n1 d1, .slice D2 n2 d2, .int .i64 at_, .int .i64 af]; rwa [World.size_alloc] at q, HB.out _ _⟩)
  go_enter Try.func19, Try.ntmps19
  go_wp2_with fail
  go_loopw [5] (fun z wr => ∃ k : Nat, k ≤ n1 ∧ z = .int .i64 k ∧ Hid (Two5 w ⟨ap, sa, ma, at_, af⟩ ⟨ap, sb, mb, at_, af⟩ A1 n1 c1 A2 n2 c2 D1 n1 d1 D2 n2 d2 wr) ∧ Hid (∀ j, j < k → sa[j]? = sb[j]?)) (fun z _ => n1 - (intOf z).toNat)
  case atStart => exact ⟨0, Nat.zero_le _, rfl, HB1, Lib.hid fun j hj => by omega⟩
  case round =>
    obtain ⟨k, hk, rfl, HT, HQ⟩ := hrel
    clear HB1
    by_cases hlt : k < n1
    · obtain ⟨x, bx, ox, hx1, hAx, _, gx⟩ := i64_at (H1.out.below HT.out.bel) hlt
      obtain ⟨y, by', oy, hy1, hAy, _, gy⟩ := i64_at (K1.out.below HT.out.bel) hlt
      have x1 := HT.out.x.cell (i := 1) rfl
      have y1 := HT.out.y.cell (i := 1) rfl
      try dsimp only at x1 y1
      rw [hAx] at x1
      rw [hAy] at y1
      by_cases hxy : x = y
      rotate_left 1
      · have hne : (x != y) = true := by simpa using hxy
        have hrf := Lib.hid (HF.out _ (fun h => (HR.out.1 h).2.2.2.1) (fun h => hxy (by rw [h, hy1] at hx1; injection hx1 with hx1; exact hx1.symm)))
        clear hx1 hy1 hxy hAx hAy
        go_wp2_with fail
        go_quiet (fail)
        go_wp2
        go_ret
        exact ⟨by rw [hrf.out]; rfl, bel_drewN HT.out.bel _⟩
      · subst hxy
        have HE := Lib.hid (show ∀ j, j < k + 1 → sa[j]? = sb[j]? from fun j hj => by
          by_cases hjk : j = k
          · rw [hjk, hx1, hy1]
          · exact HQ.out j (by omega))
        clear hx1 hy1 hAx hAy
        go_wp2_with fail
        go_quiet (fail)
        have HT2 := Lib.hid (show Two5 w ⟨ap, sa, ma, at_, af⟩ ⟨ap, sb, mb, at_, af⟩ A1 n1 c1 A2 n2 c2 D1 n1 d1 D2 n2 d2 (wr.drewN nq) from ⟨HT.out.x, HT.out.y, bel_drewN HT.out.bel _⟩)
        go_wp2
        go_roundw
        case rel => exact ⟨k + 1, by omega, by go_num, HT2, HE⟩
        case measure => simp [intOf]; omega
    · have u1 := HT.out.x.cell (i := 1) rfl
      obtain rfl : k = n1 := by omega
      have HS1 := Lib.hid (show sa = sb from cells_eq E.out.1 E.out.2.2.1 HQ.out)
      clear HQ
      obtain ⟨wo, rfl⟩ : ∃ wo : World, wo = wr := ⟨_, rfl⟩
      have HT1 := HT
      clear HT
      go_wp2_with fail
      clear u1
      go_loopw [6] (fun z wr2 => ∃ k2 : Nat, k2 ≤ n2 ∧ z = .int .i64 k2 ∧ Hid (Two5 w ⟨ap, sa, ma, at_, af⟩ ⟨ap, sb, mb, at_, af⟩ A1 k c1 A2 n2 c2 D1 k d1 D2 n2 d2 wr2) ∧ Hid (∀ j, j < k2 → ma[j]? = mb[j]?)) (fun z _ => n2 - (intOf z).toNat)
      case atStart => exact ⟨0, Nat.zero_le _, rfl, HT1, Lib.hid fun j hj => by omega⟩
      case round =>
        obtain ⟨k2, hk2, rfl, HT, HQ⟩ := hrel
        clear HT1
        by_cases hlt : k2 < n2
        · obtain ⟨x, bx, ox, hx1, hAx, _, gx⟩ := i64_at (H2.out.below HT.out.bel) hlt
          obtain ⟨y, by', oy, hy1, hAy, _, gy⟩ := i64_at (K2.out.below HT.out.bel) hlt
          have x1 := HT.out.x.cell (i := 2) rfl
          have y1 := HT.out.y.cell (i := 2) rfl
          try dsimp only at x1 y1
          rw [hAx] at x1
          rw [hAy] at y1
          by_cases hxy : x = y
          rotate_left 1
          · have hne : (x != y) = true := by simpa using hxy
            have hrf := Lib.hid (HF.out _ (fun h => (HR.out.1 h).2.2.2.2) (fun h => hxy (by rw [h, hy1] at hx1; injection hx1 with hx1; exact hx1.symm)))
            clear hx1 hy1 hxy hAx hAy
            go_wp2_with fail
            go_quiet (fail)
            go_wp2
            go_ret
            exact ⟨by rw [hrf.out]; rfl, bel_drewN HT.out.bel _⟩
          · subst hxy
            have HE := Lib.hid (show ∀ j, j < k2 + 1 → ma[j]? = mb[j]? from fun j hj => by
              by_cases hjk : j = k2
              · rw [hjk, hx1, hy1]
              · exact HQ.out j (by omega))
            clear hx1 hy1 hAx hAy
            go_wp2_with fail
            go_quiet (fail)
            have HT2 := Lib.hid (show Two5 w ⟨ap, sa, ma, at_, af⟩ ⟨ap, sb, mb, at_, af⟩ A1 k c1 A2 n2 c2 D1 k d1 D2 n2 d2 (wr.drewN nq) from ⟨HT.out.x, HT.out.y, bel_drewN HT.out.bel _⟩)
            go_wp2
            go_roundw
            case rel => exact ⟨k2 + 1, by omega, by go_num, HT2, HE⟩
            case measure => simp [intOf]; omega
        · have u2 := HT.out.x.cell (i := 2) rfl
          obtain rfl : k2 = n2 := by omega
          have HS2 := Lib.hid (show ma = mb from cells_eq E.out.2.1 E.out.2.2.2 HQ.out)
          have hrt := Lib.hid (HR2.out HS1.out HS2.out)
          go_wp2
          go_ret
          exact ⟨by rw [hrt.out]; rfl, HT.out.bel⟩
/-- Are two states that are told alike? -/
theorem same_any {B1 B2 : Nat} {a b : Z} {x y : Value} (w : World) (ha : Sv B1 w a x) (hb : Sv B2 w b y) (hn : a.st.length ≤ 1000 ∧ a.mem.length ≤ 1000 ∧ b.st.length ≤ 1000 ∧ b.mem.length ≤ 1000) (r : Bool) (hr : r = true ↔ zsame a b) :
    Calls Try.prog 19 #[x, y] w fun e w' => e = .returned (.bool r) ∧ Below w.heap.size w w' := by
  obtain ⟨A1, n1, c1, A2, n2, c2, rfl, o1, o2⟩ := ha
  obtain ⟨D1, m1, d1, D2, m2, d2, rfl, o3, o4⟩ := hb
  have h1 := Rd.own o1
  have h2 := Rd.own o2
  have k1 := Rd.own o3
  have k2 := Rd.own o4
  have e1 : a.st.length = n1 := by have := h1.1; rwa [i64s_len] at this
  have e2 : a.mem.length = n2 := by have := h2.1; rwa [i64s_len] at this
  have e3 : b.st.length = m1 := by have := k1.1; rwa [i64s_len] at this
  have e4 : b.mem.length = m2 := by have := k2.1; rwa [i64s_len] at this
  exact core_same a b A1 n1 c1 A2 n2 c2 D1 m1 d1 D2 m2 d2 w h1 h2 k1 k2 (by omega) r hr
theorem seq (o a q b : Int) (w : World) : (Op.equalIn 10000 78 (.agg #[.int .i64 o, .int .i64 a]) (.agg #[.int .i64 q, .int .i64 b])).run Try.prog w = .ok (decide (o = q ∧ a = b)) w := by
  have ht : Try.prog.underlying 78 = some (.struct (Try.prog.fieldsOf 78)) := by kernel_rfl
  have hp : Try.prog.stoodInHeld 78 = false := by kernel_rfl
  rw [show (10000 : Nat) = 9999 + 1 from rfl, run_equalIn_struct w 9999 _ _ _ ht hp]
  have e : decide (o = q ∧ a = b) = ((o == q) && (a == b)) := by rw [Bool.eq_iff_iff]; simp
  rw [e]
  simp [go_sem, Op.eqFields, Try.underlying78, Try.underlying3]
  (repeat' split) <;> simp [*]
set_option maxRecDepth 100000 in
set_option maxHeartbeats 800000 in
/-- What was sent is the same. -/
theorem sameSent_any (A D : Option Addr) (n c m d : Nat) (l : List (Int × Int)) (w : World) (h : Prs w A n c l) (k : Prs w D m d l) (hn : l.length ≤ 100000) :
    Calls Try.prog 15 #[.slice A n c, .slice D m d] w fun e w' => e = .returned (.bool true) ∧ Below w.heap.size w w' := by
  obtain rfl : l.length = n := h.1
  obtain rfl : l.length = m := k.1
  have HQ := Lib.hid (fun (o a : Int) (w' : World) => seq o a o a w')
  have hq : ∀ (o a : Int) (w' : World), (Op.equalIn 10000 78 (.agg #[.int .i64 o, .int .i64 a]) (.agg #[.int .i64 o, .int .i64 a])).run Try.prog w' = .ok true w' := fun o a w' => by rw [seq]; simp
  have H := Lib.hid h
  have K := Lib.hid k
  clear h k
  go_enter Try.func15, Try.ntmps15
  go_wp2_with fail
  go_loopw [5] (fun z wr => ∃ k : Nat, k ≤ l.length ∧ z = .int .i64 k ∧ Hid (Below w.heap.size w wr)) (fun z _ => l.length - (intOf z).toNat)
  case atStart => exact ⟨0, Nat.zero_le _, rfl, Lib.hid (Below.refl _ _)⟩
  case round =>
    obtain ⟨k, hk, rfl, HB⟩ := hrel
    by_cases hlt : k < l.length
    · obtain ⟨a1, m1, b1, o1, hx1, _, _, rfl, gx1, gx2⟩ := (H.out.below HB.out).at_ hlt
      obtain ⟨a2, m2, b2, o2, hx2, _, _, rfl, gy1, gy2⟩ := (K.out.below HB.out).at_ hlt
      obtain ⟨rfl, rfl⟩ : a1 = a2 ∧ m1 = m2 := by rw [hx1] at hx2; injection hx2 with hx2; injection hx2 with p q; exact ⟨p, q⟩
      clear hx1 hx2
      go_wp2_with fail
      go_quiet (fail)
      have HB2 := Lib.hid (bel_drewN HB.out nq)
      go_wp2
      go_roundw
      case rel => exact ⟨k + 1, by omega, by go_num, HB2⟩
      case measure => simp [intOf]; omega
    · go_wp2
      go_ret
      exact ⟨rfl, HB.out⟩
end Go.Proofs.Ytegnehdfedfphaa.VmcT
namespace Go.Proofs.Ytegnehdfedfphaa.VmcU
open Go.RowKit Go.Proofs.Ytegnehdfedfphaa.Kit Go.Proofs.Ytegnehdfedfphaa.Byt Go.Proofs.Ytegnehdfedfphaa.Mem Go.Proofs.Ytegnehdfedfphaa.OpsM Go.Proofs.Ytegnehdfedfphaa.VmcM Go.Proofs.Ytegnehdfedfphaa.VmcA Go.Proofs.Ytegnehdfedfphaa.VmcE Go.Proofs.Ytegnehdfedfphaa.VmcF Go.Proofs.Ytegnehdfedfphaa.VmcG Go.Proofs.Ytegnehdfedfphaa.VmcJ Go.Proofs.Ytegnehdfedfphaa.VmcK Go.Proofs.Ytegnehdfedfphaa.VmcN Go.Proofs.Ytegnehdfedfphaa.VmcL Go.Proofs.Ytegnehdfedfphaa.VmcP Go.Proofs.Ytegnehdfedfphaa.VmcS Go.Proofs.Ytegnehdfedfphaa.VmcT Go.Proofs.Ytegnehdfedfphaa.PrtM Go.Proofs.Ytegnehdfedfphaa.PrtA Go.Proofs.Ytegnehdfedfphaa.PrtG
open Go.Proofs.Ytegnehdfedfphaa.ImgA (Im)
open Go.Proofs.Ytegnehdfedfphaa.TabA (Tri Tris Ta)
open Go.Proofs.Ytegnehdfedfphaa.TabB (PartOk)
open Go.Proofs.Ytegnehdfedfphaa.TabC (WinOk endAt)
open Go.Proofs.Ytegnehdfedfphaa.TabE (tcells Tris.of_blk ret_row size_table)
open Go.Proofs.Ytegnehdfedfphaa.BitM (hb)
abbrev tright := Go.Proofs.Ytegnehdfedfphaa.TabD.right

def exP : List Tri := [⟨4, 8, 0⟩, ⟨4, 8, 0⟩]
def exW : List Tri := [⟨0, 0, 1⟩]
def exC : List Tri := [⟨0, 1, 0⟩]
def ex (g1 g2 g3 : Nat) : Ta := ⟨4, some ⟨g1, 0, none⟩, 2, 2, exP, some ⟨g2, 0, none⟩, 1, 1, exW, some ⟨g3, 0, none⟩, 1, 1, exC, 1⟩
theorem ex_right (g1 g2 g3 : Nat) : tright (ex g1 g2 g3) := by
  refine ⟨⟨by show (1 : Int) ≤ 4; omega, by show (4 : Int) ≤ 64; omega⟩, ⟨by show (1 : Int) ≤ 1; omega, by show (1 : Int) ≤ 7; omega⟩, ⟨⟨by show 2 ≤ 2; omega, by show 2 ≤ 4; omega⟩, ?_⟩, ⟨by show 1 ≤ 8; omega, ?_, 0, _, rfl, rfl⟩, ⟨by show 1 ≤ 4; omega, ?_⟩⟩
  · intro k r hr
    match k, hr with
    | 0, hr => injection hr with hr; subst hr; simp [PartOk]
    | 1, hr => injection hr with hr; subst hr; simp [PartOk]
    | k + 2, hr => simp [ex, exP] at hr
  · intro k r hr
    match k, hr with
    | 0, hr => injection hr with hr; subst hr; simp [WinOk, endAt, ex, exP]
    | k + 1, hr => simp [ex, exW] at hr
  · intro k r hr
    match k, hr with
    | 0, hr => injection hr with hr; subst hr; simp [Go.Proofs.Ytegnehdfedfphaa.TabC.ChanOk, ex, exP]
    | k + 1, hr => simp [ex, exC] at hr
theorem exP_ok : ∀ r ∈ exP, r.ok := by
  intro r hr
  simp only [exP, List.mem_cons, List.not_mem_nil, or_false] at hr
  rcases hr with rfl | rfl <;> exact ⟨by decide, by decide, by decide, by decide, by decide, by decide⟩
theorem exW_ok : ∀ r ∈ exW, r.ok := by
  intro r hr
  simp only [exW, List.mem_cons, List.not_mem_nil, or_false] at hr
  subst hr
  exact ⟨by decide, by decide, by decide, by decide, by decide, by decide⟩
theorem exC_ok : ∀ r ∈ exC, r.ok := by
  intro r hr
  simp only [exC, List.mem_cons, List.not_mem_nil, or_false] at hr
  subst hr
  exact ⟨by decide, by decide, by decide, by decide, by decide, by decide⟩
theorem ex_ok {w : World} {g1 g2 g3 : Nat} {t1 t2 t3 : TypeId} (h1 : Blk w g1 t1 (tcells exP)) (h2 : Blk w g2 t2 (tcells exW)) (h3 : Blk w g3 t3 (tcells exC)) : (ex g1 g2 g3).ok w :=
  ⟨Tris.of_blk (R := exP) (c := 2) (xs := []) (by simpa using h1) (Nat.le_refl _) (by decide) exP_ok, Tris.of_blk (R := exW) (c := 1) (xs := []) (by simpa using h2) (Nat.le_refl _) (by decide) exW_ok, Tris.of_blk (R := exC) (c := 1) (xs := []) (by simpa using h3) (Nat.le_refl _) (by decide) exC_ok,
    by show -9223372036854775808 ≤ (4 : Int); omega, by show (4 : Int) ≤ 9223372036854775807; omega, by show -9223372036854775808 ≤ (1 : Int); omega, by show (1 : Int) ≤ 9223372036854775807; omega⟩
theorem five (w : World) (o0 o1 : Obj) (t2 t3 t4 : TypeId) (x2 x3 x4 : List Value) :
    Blk (((((w.alloc o0).alloc o1).alloc (.cells x2.toArray t2)).alloc (.cells x3.toArray t3)).alloc (.cells x4.toArray t4)) (w.heap.size + 1 + 1) t2 x2 ∧
    Blk (((((w.alloc o0).alloc o1).alloc (.cells x2.toArray t2)).alloc (.cells x3.toArray t3)).alloc (.cells x4.toArray t4)) (w.heap.size + 1 + 1 + 1) t3 x3 ∧
    Blk (((((w.alloc o0).alloc o1).alloc (.cells x2.toArray t2)).alloc (.cells x3.toArray t3)).alloc (.cells x4.toArray t4)) (w.heap.size + 1 + 1 + 1 + 1) t4 x4 ∧
    Below w.heap.size w (((((w.alloc o0).alloc o1).alloc (.cells x2.toArray t2)).alloc (.cells x3.toArray t3)).alloc (.cells x4.toArray t4)) := by
  refine ⟨?_, ?_, ?_, ?_⟩
  · have h := ((Blk.new ((w.alloc o0).alloc o1) t2 x2).alloc (.cells x3.toArray t3)).alloc (.cells x4.toArray t4)
    rwa [World.size_alloc, World.size_alloc] at h
  · have h := (Blk.new (((w.alloc o0).alloc o1).alloc (.cells x2.toArray t2)) t3 x3).alloc (.cells x4.toArray t4)
    rwa [World.size_alloc, World.size_alloc, World.size_alloc] at h
  · have h := Blk.new ((((w.alloc o0).alloc o1).alloc (.cells x2.toArray t2)).alloc (.cells x3.toArray t3)) t4 x4
    rwa [World.size_alloc, World.size_alloc, World.size_alloc, World.size_alloc] at h
  · exact ((((Below.refl _ w).alloc (Nat.le_refl _) _).alloc (by simp) _).alloc (by simp; omega) _).alloc (by simp; omega) _ |>.alloc (by simp; omega) _
set_option maxRecDepth 100000 in
theorem example_any (w : World) : Calls Try.prog 23 #[] w fun e w' => ∃ g1 g2 g3, e = .returned (ex g1 g2 g3).val ∧ (ex g1 g2 g3).ok w' ∧ Below w.heap.size w w' := by
  go_enter Try.func23, Try.ntmps23
  go_wp2
  obtain ⟨b2, b3, b4, hb⟩ := five w (.cells #[.int .i64 4, .slice (some ⟨w.heap.size + 1 + 1, 0, none⟩) 2 2, .slice (some ⟨w.heap.size + 1 + 1 + 1, 0, none⟩) 1 1, .slice (some ⟨w.heap.size + 1 + 1 + 1 + 1, 0, none⟩) 1 1, .int .i64 1] 26) (.cells #[.int .i64 4, .int .i64 8, .int .i64 0] 80) 80 83 59 (tcells exP) (tcells exW) (tcells exC)
  refine ret_row (g := w.heap.size) (t := 26) (cs := #[.int .i64 4, .slice (some ⟨w.heap.size + 1 + 1, 0, none⟩) 2 2, .slice (some ⟨w.heap.size + 1 + 1 + 1, 0, none⟩) 1 1, .slice (some ⟨w.heap.size + 1 + 1 + 1 + 1, 0, none⟩) 1 1, .int .i64 1]) Try.results23 rfl rfl (alloc_old (alloc_old (alloc_old (alloc_old (heap_alloc_new w _))))) Try.underlying26 rfl size_table ?_
  exact ⟨_, _, _, rfl, ex_ok b2 b3 b4, hb⟩

theorem own_lower {B B0 : Nat} {w : World} {e : TypeId} {size n : Nat} {v : Value} {xs : List Value} (h : w.ownsRow B e size v n xs) (hb : B0 ≤ B) : w.ownsRow B0 e size v n xs := by
  refine ⟨h.1, ?_⟩
  rcases h.2 with h1 | ⟨g, cap, cur, h1, h2, rest⟩
  · exact .inl h1
  · exact .inr ⟨g, cap, cur, h1, Nat.le_trans hb h2, rest⟩
section
variable {B B0 S n c : Nat} {w : World} {ρ : Nat → Lab} {A : Option Addr} {Q : Nat → Nat} {C : List Tri} {L : Nat → List Int}
theorem Chs.lower (h : Chs B w ρ S A n c Q C L) (hb : B0 ≤ B) : Chs B0 w ρ S A n c Q C L where
  bd := fun i hi => ⟨Nat.le_trans hb (h.bd i hi).1, (h.bd i hi).2⟩
  base := Nat.le_trans hb h.base
  set := h.set
  lset := h.lset
  list := own_lower h.list hb
  llist := h.llist
  len := h.len
  most := h.most
  ok := h.ok
  head := fun k r hr => by
    obtain ⟨e1, e2⟩ := h.head k r hr
    refine ⟨e1, ?_⟩
    rcases e2 with e2 | ⟨h0, A, n, c, k1, k2, k3, k4⟩
    · exact .inl e2
    · exact .inr ⟨h0, A, n, c, k1, own_lower k2 hb, k3, k4⟩
/-- A block that bears no label is given one. -/
theorem Chs.name (h : Chs B w ρ S A n c Q C L) {g : Nat} (l : Lab) (hg : ρ g = .out) (hB : B ≤ g) (hl : g < w.heap.size) : Chs B w (fun k => if k = g then l else ρ k) S A n c Q C L := by
  have key : ∀ k, ρ k ≠ .out → (if k = g then l else ρ k) = ρ k := fun k hk => if_neg (fun e => hk (by rw [e]; exact hg))
  exact {
    bd := fun i hi => by
      by_cases he : i = g
      · rw [he]; exact ⟨hB, hl⟩
      · exact h.bd i (fun e => hi ((if_neg he).trans e))
    base := h.base
    set := h.set
    lset := by rw [key S (by rw [h.lset]; intro e; cases e)]; exact h.lset
    list := h.list
    llist := fun g2 hg2 => by rw [key g2 (by rw [h.llist g2 hg2]; intro e; cases e)]; exact h.llist g2 hg2
    len := h.len
    most := h.most
    ok := h.ok
    head := fun k r hr => by
      obtain ⟨e1, e2⟩ := h.head k r hr
      refine ⟨by rw [key _ (by rw [e1]; intro e; cases e)]; exact e1, ?_⟩
      rcases e2 with e2 | ⟨h0, A, n, c, k1, k2, k3, k4⟩
      · exact .inl e2
      · exact .inr ⟨h0, A, n, c, k1, k2, k3, fun g2 hg2 => (key g2 (by rw [k4 g2 hg2]; intro e; cases e)).trans (k4 g2 hg2)⟩ }
/-- A machine that was made ahead of the channels. -/
theorem mw_start {w1 : World} {M : Nat} {j : Im} {v : V} (hM : Blk w1 M 90 (mc j v)) (hv : v.ok) (hj : j.ok w1) (hne : ∀ b o, j.A = some ⟨b, o, none⟩ → 0 < j.n → b ≠ M) (hb : Below w1.heap.size w1 w) (hc : Chs B w ρ S A n c Q C L) (hB : w1.heap.size ≤ B) (h0 : B0 ≤ M) :
    Mw B0 w (fun k => if k = M then .own 0 else ρ k) M j S A n c Q C v L := by
  have hl : M < w1.heap.size := hM.lt
  have hout : ∀ k, k < w1.heap.size → ρ k = .out := fun k hk => Classical.byContradiction fun hn => by have := (hc.bd k hn).1; omega
  refine ⟨Chs.name (Chs.lower hc (by omega)) _ (hout M hl) h0 (Nat.lt_of_lt_of_le hl hb.size), hM.below hb, if_pos rfl, hv, hj.below hb, fun b o hA hn => ?_⟩
  rw [if_neg (hne b o hA hn)]
  obtain ⟨b', o', hA', hlt, _⟩ := hj.code.2.2.2 hn
  rw [hA'] at hA
  injection hA with hA
  injection hA with hA
  exact hout b (by omega)
end
end Go.Proofs.Ytegnehdfedfphaa.VmcU
namespace Go.Proofs.Ytegnehdfedfphaa.Fld
open Go.RowKit
theorem run_field_one {P : Program} {T : TypeId} {fs : Array Field} {f : Field} {k : Nat} {xs : List Value} {v : Value} (ht : P.underlying T = some (.struct fs)) (hf : fs[k]? = some f) (hd : ∃ d, P.underlying f.type = some (.int d)) (hv : xs[f.offset]? = some v) (w : World) :
    (Instr.field T (.agg xs.toArray) k).run P w = .ok v w := by
  obtain ⟨d, hd⟩ := hd
  simp [Instr.field, run_underlying ht, hf, part, isAgg, run_underlying hd, hv, asAgg]
end Go.Proofs.Ytegnehdfedfphaa.Fld
namespace Go.Proofs.Ytegnehdfedfphaa.VmcV
open Go.RowKit Go.Proofs.Ytegnehdfedfphaa.Kit Go.Proofs.Ytegnehdfedfphaa.Byt Go.Proofs.Ytegnehdfedfphaa.Mem Go.Proofs.Ytegnehdfedfphaa.OpsM Go.Proofs.Ytegnehdfedfphaa.VmcM Go.Proofs.Ytegnehdfedfphaa.VmcA Go.Proofs.Ytegnehdfedfphaa.VmcE Go.Proofs.Ytegnehdfedfphaa.VmcF Go.Proofs.Ytegnehdfedfphaa.VmcG Go.Proofs.Ytegnehdfedfphaa.VmcJ Go.Proofs.Ytegnehdfedfphaa.VmcK Go.Proofs.Ytegnehdfedfphaa.VmcN Go.Proofs.Ytegnehdfedfphaa.VmcL Go.Proofs.Ytegnehdfedfphaa.VmcP Go.Proofs.Ytegnehdfedfphaa.VmcS Go.Proofs.Ytegnehdfedfphaa.VmcT Go.Proofs.Ytegnehdfedfphaa.VmcU Go.Proofs.Ytegnehdfedfphaa.PrtM Go.Proofs.Ytegnehdfedfphaa.PrtA Go.Proofs.Ytegnehdfedfphaa.PrtG
open Go.Proofs.Ytegnehdfedfphaa.ImgA (Im Yes)
open Go.Proofs.Ytegnehdfedfphaa.ImgB (right)
open Go.Proofs.Ytegnehdfedfphaa.TabA (Tri Tris Ta)

def exI (A : Option Addr) (c : Nat) : Im := ⟨0, 1, 0, 1, 8, 1, 0, A, 8, c, [1, 2, 1, 3, 5, 14, 0, 0]⟩
theorem ex_tick (A : Option Addr) (c : Nat) : (tickV (exI A c) exC v0 none_).sn = [(0, 5)] ∧ (tickV (exI A c) exC v0 none_).v.pc = 8 := ⟨by kernel_rfl, by kernel_rfl⟩
theorem exI_right (A : Option Addr) (c : Nat) : right (exI A c) := by
  unfold right exI
  simp
theorem Cop.like {w w' : World} {i j : Im} (h : Cop w i j w') (hr : right i) : right j := by
  obtain ⟨⟨h1, h2, h3, h4, h5, h6, h7, h8, _⟩, _⟩ := h
  unfold right at hr ⊢
  rw [h1, h2, h3, h4, h5, h6, h7, h8]
  exact hr
theorem exI_cop {w w' : World} {A : Option Addr} {c : Nat} {j : Im} (h : Cop w (exI A c) j w') : j = exI j.A j.c := by
  obtain ⟨⟨h1, h2, h3, h4, h5, h6, h7, h8, h9⟩, _⟩ := h
  obtain ⟨p, v, hh, m, f, s, r, A', n, c', xs⟩ := j
  dsimp only at h1 h2 h3 h4 h5 h6 h7 h8 h9 ⊢
  rw [h1, h2, h3, h4, h5, h6, h7, h8, h9]
  rfl
theorem exI_ok {w : World} {g : Nat} (hB : Blk w g 5 [.int .u8 1, .int .u8 2, .int .u8 1, .int .u8 3, .int .u8 5, .int .u8 14, .int .u8 0, .int .u8 0]) : (exI (some ⟨g, 0, none⟩) 8).ok w :=
  ⟨⟨rfl, Nat.le_refl _, (by show 8 ≤ 9223372036854775807; omega), fun _ => ⟨g, 0, rfl, hB.lt, fun j u hu => by rw [Nat.zero_add]; exact hB.cell hu⟩⟩, by show ∀ u ∈ [1, 2, 1, 3, 5, 14, 0, 0], u < 256; decide⟩
set_option maxRecDepth 100000 in
set_option maxHeartbeats 1600000 in
theorem wakes_any (w : World) : Calls Try.prog 4 #[] w (Yes w true) := by
  obtain ⟨wa, hwa⟩ : ∃ wa, wa = w.alloc (.cells #[.int .u8 1, .int .u8 2, .int .u8 1, .int .u8 3, .int .u8 5, .int .u8 14, .int .u8 0, .int .u8 0] 5) := ⟨_, rfl⟩
  have hba : Below w.heap.size w wa := by rw [hwa]; exact (Below.refl _ _).alloc (Nat.le_refl _) _
  have HI := Lib.hid (show (exI (some ⟨w.heap.size, 0, none⟩) 8).ok wa from exI_ok (by rw [hwa]; exact Blk.new w _ _))
  have HBA := Lib.hid hba
  clear hba
  go_enter Try.func4, Try.ntmps4
  go_wp2_with fail
  rw [← hwa]
  clear hwa
  refine (new_yes (exI (some ⟨w.heap.size, 0, none⟩) 8) wa HI.out (exI_right _ _)).mono ?_
  rintro e w1 ⟨M, j, rfl, hM, hMl, hne, hj⟩
  have HM := Lib.hid hM
  have HJ := Lib.hid hj
  have HE := Lib.hid (exI_cop hj)
  have HR := Lib.hid (Cop.like hj (exI_right _ _))
  have HML := Lib.hid hMl
  have HNE := Lib.hid hne
  have HB1 := Lib.hid (HBA.out.trans (hj.2.2.2.mono HBA.out.size))
  clear hM hj hne hMl
  go_wp2_with fail
  refine (example_any _).mono ?_
  rintro e w2 ⟨g1, g2, g3, rfl, hok, hb2⟩
  have HO := Lib.hid hok
  have HB2 := Lib.hid hb2
  clear hok hb2
  go_wp2_with fail
  refine (PrtH.new_yes (ex g1 g2 g3) _ HO.out (ex_right _ _ _)).mono ?_
  rintro e w3 ⟨S, ρ, A, c, Q, rfl, h0, hb3⟩
  have HB3 := Lib.hid (HB2.out.trans (hb3.mono HB2.out.size))
  have HMW := Lib.hid (mw_start (B0 := w.heap.size) HM.out v0_ok HJ.out.2.1 HNE.out HB3.out (show Chs w2.heap.size w3 ρ S A 1 c Q exC none_ from h0) HB2.out.size (by have := HBA.out.size; have := HML.out; omega))
  have HB4 := Lib.hid (HB1.out.trans (HB3.out.mono HB1.out.size))
  clear h0 hb3 HO HB2 HB3 HM HJ HNE
  go_wp2_with fail
  refine (tick_goes HMW.out rfl HR.out ⟨by decide, by decide⟩ ⟨by decide, by decide⟩ rfl).mono ?_
  intro e w4 hk
  have hx := ex_tick j.A j.c
  rw [← HE.out] at hx
  obtain ⟨A4, n4, c4, ρ4, rfl, hp, hl, hm, hs⟩ := hk
  rw [hx.1] at hp
  obtain rfl : 1 = n4 := hp.1
  obtain ⟨a', m', b', o', hq, _, _, rfl, g0, g1⟩ := hp.at_ (k := 0) (by omega)
  obtain ⟨rfl, rfl⟩ : a' = 0 ∧ m' = 5 := by simp at hq; exact ⟨hq.1.symm, hq.2.symm⟩
  rw [show o' + 0 * 2 = o' from by omega] at g0 g1
  have hbl : b' < w4.heap.size := block_lt_of_cell g0
  have HB5 := Lib.hid (HB4.out.trans (hs.below HMW.out.chs.bd out_vm0 HMW.out.chs.base))
  have HPC := Lib.hid (show ((tickV j exC v0 none_).v.z j.m.toNat).pc = 8 from hx.2)
  have HST := Lib.hid (fun w' (hb : Below w4.heap.size w4 w') => state_any (hm.blk.below hb) hm.ok (by have := HR.out.2.2.2.1; omega))
  have HQ := Lib.hid (fun w' => seq 0 5 0 5 w')
  have hq2 : ∀ w', (Op.equalIn 10000 78 (.agg #[.int .i64 0, .int .i64 5]) (.agg #[.int .i64 0, .int .i64 5])).run Try.prog w' = .ok true w' := fun w' => by rw [seq]; simp
  obtain ⟨cfv, hcf⟩ : ∃ cfv, cfv = (tickV j exC v0 none_).cf := ⟨_, rfl⟩
  rw [← hcf]
  have HA := Lib.hid (show Below w4.heap.size w4 (w4.alloc (.cells #[.slice (some ⟨b', o', none⟩) 1 c4, .bool cfv] 51)) from (Below.refl _ _).alloc (Nat.le_refl _) _)
  clear hx hp hl hm hs hq hcf HMW HB4 HI HBA
  go_wp2_with fail
  refine (HST.out _ HA.out).mono ?_
  rintro e w6 ⟨x, rfl, hx, hb6⟩
  obtain ⟨A1, n1, c1, A2, n2, c2, rfl, _⟩ := hx
  rw [HPC.out]
  have HB6 := Lib.hid (HB5.out.trans ((HA.out.trans (hb6.mono HA.out.size)).mono HB5.out.size))
  have hfd := fun (w' : World) => Fld.run_field_one (P := Try.prog) (T := 66) (k := 0) (xs := [.int .i64 8, .slice A1 n1 c1, .slice A2 n2 c2, .int .i64 ((tickV j exC v0 none_).v.z j.m.toNat).tk, .int .i64 ((tickV j exC v0 none_).v.z j.m.toNat).ft]) (v := .int .i64 8) Try.underlying66 rfl ⟨_, Try.underlying3⟩ rfl w'
  clear hb6
  go_wp2
  go_ret
  exact ⟨rfl, HB6.out⟩
end Go.Proofs.Ytegnehdfedfphaa.VmcV
namespace Go.Proofs.Ytegnehdfedfphaa.VmcX
open Go.RowKit Go.Proofs.Ytegnehdfedfphaa.Kit Go.Proofs.Ytegnehdfedfphaa.Byt Go.Proofs.Ytegnehdfedfphaa.Mem Go.Proofs.Ytegnehdfedfphaa.OpsM Go.Proofs.Ytegnehdfedfphaa.VmcM Go.Proofs.Ytegnehdfedfphaa.VmcA Go.Proofs.Ytegnehdfedfphaa.VmcE Go.Proofs.Ytegnehdfedfphaa.VmcF Go.Proofs.Ytegnehdfedfphaa.VmcG Go.Proofs.Ytegnehdfedfphaa.VmcJ Go.Proofs.Ytegnehdfedfphaa.VmcK Go.Proofs.Ytegnehdfedfphaa.VmcN Go.Proofs.Ytegnehdfedfphaa.VmcL Go.Proofs.Ytegnehdfedfphaa.VmcP Go.Proofs.Ytegnehdfedfphaa.VmcS Go.Proofs.Ytegnehdfedfphaa.VmcT Go.Proofs.Ytegnehdfedfphaa.VmcU Go.Proofs.Ytegnehdfedfphaa.VmcV Go.Proofs.Ytegnehdfedfphaa.PrtM Go.Proofs.Ytegnehdfedfphaa.PrtA Go.Proofs.Ytegnehdfedfphaa.PrtG
open Go.Proofs.Ytegnehdfedfphaa.ImgA (Im Bx Yes)
open Go.Proofs.Ytegnehdfedfphaa.ImgB (right)
open Go.Proofs.Ytegnehdfedfphaa.TabA (Tri Tris Ta)
open Go.Proofs.Ytegnehdfedfphaa.BitM (hb)

section
variable {B S n c M g : Nat} {w w0 w' : World} {ρ : Nat → Lab} {A : Option Addr} {Q : Nat → Nat} {C : List Tri} {L : Nat → List Int} {i : Im} {v : V}
theorem tick_any (h : Mw B w ρ M i S A n c Q C v L) (hi : right i) (hp : 0 ≤ v.pc ∧ v.pc ≤ 1000) (ht : 0 ≤ v.tk ∧ v.tk ≤ 1000000) {G : R} (hG : G = tickV i C v L) : Calls Try.prog 13 #[.pointer (some ⟨M, 0, none⟩), pv S] w (Tks B w ρ M i S A n c Q C G) := by
  by_cases hf : v.ft = 0
  · exact tick_goes h hf hi hp ht hG
  · have e : tickV i C v L = ⟨v, L, [], false, false⟩ := if_pos hf
    rw [hG, e]
    exact tick_stands h hf
theorem Bx.over (h : Bx w0 g i w) (hb : Below B w w') (hg : g < B) (h0 : w0.heap.size ≤ B) : Bx w0 g i w' := ⟨(hb.block g hg).trans h.blk, h.new_, h.bel.trans (hb.mono h0)⟩
theorem Bx.cells (h : Bx w0 g i w) : w.cell? ⟨g, 0, none⟩ = some (.int .i64 i.p) ∧ w.cell? ⟨g, 1, none⟩ = some (.int .i64 i.v) ∧ w.cell? ⟨g, 2, none⟩ = some (.int .i64 i.h) ∧ w.cell? ⟨g, 3, none⟩ = some (.int .i64 i.m) ∧ w.cell? ⟨g, 4, none⟩ = some (.int .i64 i.f) ∧ w.cell? ⟨g, 5, none⟩ = some (.int .i64 i.s) ∧ w.cell? ⟨g, 6, none⟩ = some (.int .i64 i.r) ∧ w.cell? ⟨g, 7, none⟩ = some (.slice i.A i.n i.c) :=
  ⟨h.blk.cell rfl, h.blk.cell rfl, h.blk.cell rfl, h.blk.cell rfl, h.blk.cell rfl, h.blk.cell rfl, h.blk.cell rfl, h.blk.cell rfl⟩
end
theorem hb_three {s k : Int} (h : hb s k = true) (h0 : 0 ≤ s) (h15 : s ≤ 15) : k ≤ 3 := by
  unfold hb at h
  simp only [decide_eq_true_eq] at h
  obtain ⟨h1, h2, h3⟩ := h
  by_cases hk : k ≤ 3
  · exact hk
  · exfalso
    have h4 : (16 : Int) ≤ BitM.pw k := by
      unfold BitM.pw
      have := Nat.pow_le_pow_right (n := 2) (by omega) (show 4 ≤ k.toNat by omega)
      have h3 : ((2 ^ 4 : Nat) : Int) ≤ ((2 ^ k.toNat : Nat) : Int) := by exact_mod_cast this
      simpa using h3
    rw [Int.ediv_eq_zero_of_lt h0 (by omega)] at h3
    exact absurd h3 (by decide)
theorem bit_on {s : Int} {k : Nat} (h : hb s k = true) (hk : k ≤ 3) : bits .and .i64 (s / 2 ^ min k 64) 1 = 1 := by
  have e := BitO.shr_has s (k := k) (by omega)
  rw [h] at e
  rw [Nat.min_eq_left (by omega)]
  simpa using e
end Go.Proofs.Ytegnehdfedfphaa.VmcX
namespace Go.Proofs.Ytegnehdfedfphaa.VmcY
open Go.RowKit Go.Proofs.Ytegnehdfedfphaa.Kit Go.Proofs.Ytegnehdfedfphaa.Byt Go.Proofs.Ytegnehdfedfphaa.Mem Go.Proofs.Ytegnehdfedfphaa.OpsM Go.Proofs.Ytegnehdfedfphaa.VmcM Go.Proofs.Ytegnehdfedfphaa.VmcA Go.Proofs.Ytegnehdfedfphaa.VmcE Go.Proofs.Ytegnehdfedfphaa.VmcF Go.Proofs.Ytegnehdfedfphaa.VmcG Go.Proofs.Ytegnehdfedfphaa.VmcJ Go.Proofs.Ytegnehdfedfphaa.VmcK Go.Proofs.Ytegnehdfedfphaa.VmcN Go.Proofs.Ytegnehdfedfphaa.VmcL Go.Proofs.Ytegnehdfedfphaa.VmcP Go.Proofs.Ytegnehdfedfphaa.VmcS Go.Proofs.Ytegnehdfedfphaa.VmcT Go.Proofs.Ytegnehdfedfphaa.VmcX Go.Proofs.Ytegnehdfedfphaa.PrtM Go.Proofs.Ytegnehdfedfphaa.PrtA Go.Proofs.Ytegnehdfedfphaa.PrtG
open Go.Proofs.Ytegnehdfedfphaa.ImgA (Im Bx Yes)
open Go.Proofs.Ytegnehdfedfphaa.ImgB (right)
open Go.Proofs.Ytegnehdfedfphaa.TabA (Tri Tris Ta)

section
variable {B B0 S n c M : Nat} {w w' : World} {ρ ρ' : Nat → Lab} {A : Option Addr} {Q : Nat → Nat} {C : List Tri} {L : Nat → List Int} {i : Im} {v : V} {z : Z} {x : Value} {F : Lab → Prop}
theorem Sv.carry (h : Sv B0 w z x) (hs : Stp F w ρ w' ρ') (hF : ¬ F .out) (hl : ∀ b, B0 ≤ b → ρ b = .out) : Sv B0 w' z x := by
  obtain ⟨A1, n1, c1, A2, n2, c2, h1, h2, h3⟩ := h
  exact ⟨A1, n1, c1, A2, n2, c2, h1, hs.keep.own h2 fun k hk => by rw [hl k (h2.lt k hk).1]; exact hF, hs.keep.own h3 fun k hk => by rw [hl k (h3.lt k hk).1]; exact hF⟩
theorem Mw.fresh (h : Mw B w ρ M i S A n c Q C v L) : ∀ b, w.heap.size ≤ b → ρ b = .out := fun b hb => Classical.byContradiction fun hn => by have := (h.chs.bd b hn).2; omega
theorem tickV_one (hx : ∀ u ∈ i.xs, u < 256) (hl : i.xs.length ≤ 96) (h : v.ok) (hp : 0 ≤ v.pc ∧ v.pc ≤ 1000) (hf : v.ft = 0) : (tickV i C v L).v.tk = v.tk + 1 := by
  unfold tickV
  rw [if_neg (fun hh => hh hf)]
  obtain ⟨q1, q2, q3⟩ := goV_ok (C := C) hx hl i.f.toNat (r := ⟨v, L, [], false, false⟩) h hp
  show (goV i C i.f.toNat ⟨v, L, [], false, false⟩).v.tk + 1 = _
  rw [q3]
theorem tickV_same (hf : v.ft ≠ 0) : tickV i C v L = ⟨v, L, [], false, false⟩ := if_pos hf
theorem z_num (h : v.ok) (k : Nat) : ∀ x ∈ (v.z k).st ++ (v.z k).mem, num x := by
  intro x hx
  rcases List.mem_append.1 hx with hx | hx
  · exact h.ns x (List.mem_of_mem_take hx)
  · exact h.nm x (List.mem_of_mem_take hx)
theorem z_len (h : v.ok) {k : Nat} (hk : k ≤ 16) : (v.z k).st.length ≤ 8 ∧ (v.z k).mem.length = k := by
  have h1 := h.ls
  have h2 := h.lm
  have h3 := h.h8
  constructor
  · show (v.s.take v.h).length ≤ 8
    rw [List.length_take]
    omega
  · show (v.m.take k).length = k
    rw [List.length_take]
    omega
end
theorem z_start {k : Nat} (hk : k ≤ 16) : v0.z k = ⟨0, [], List.replicate k 0, 0, 0⟩ := by
  unfold V.z v0
  dsimp only
  congr 1
  have e : ([0, 0, 0, 0, 0, 0, 0, 0, 0, 0, 0, 0, 0, 0, 0, 0] : List Int) = List.replicate 16 0 := rfl
  rw [e, List.take_replicate, Nat.min_eq_left hk]
theorem built_state : Try.prog.built 88 [] = some (scells v0).toArray := by kernel_rfl
set_option maxRecDepth 100000 in
theorem reset_any {M : Nat} {i : Im} {v : V} {w : World} (hB : Blk w M 90 (mc i v)) (h : v.ok) : Calls Try.prog 18 #[.pointer (some ⟨M, 0, none⟩)] w fun e w' => e = .returned (.tuple #[]) ∧ Blk w' M 90 (mc i v0) ∧ Only M w w' := by
  have HB := Lib.hid hB
  have HOK := Lib.hid h
  have hMl := hB.lt
  have HBU := Lib.hid built_state
  clear hB h
  go_enter Try.func18, Try.ntmps18
  go_wp2_with (first
    | (refine wpList_build_l rfl 88 [] rfl (scells v0) HBU.out ?_)
    | (refine wpList_store_part rfl 88 (.tmp 7) (.tmp 5) rfl M 8 rfl (scells v0) rfl HB.out (by rw [mc_len HOK.out, sc_len v0_ok]; decide) (by rw [sc_len v0_ok]; exact size_state) (VmcS.sc_one _) ?_; intro w9 hB9 ho9))
  go_end0
  exact ⟨rfl, by have hB := hB9.out; rw [mc_splice HOK.out v0_ok] at hB; exact hB, ho9.out⟩
section
variable {P : Program} {o : Oper} {a : Act} {Q : Exit → Act → World → Prop}
theorem wp_make_room {K : Act → World → Prop} (w : World) (l c : Operand) (t : TypeId) (hop : o.op = Op.makeSlice t l c)
    (e : TypeId) (i : TypeInfo) (z : Value) (bytes : Nat) (h1 : P.underlying t = some (.slice e)) (h2 : P.info? e = some i) (h3 : i.zero = some z) (h4 : i.size = 1) (h5 : i.bytes = bytes) (hz : z.cells = #[z])
    (kl kc : IntKind) (m n : Nat) (hl : a.eval l = .int kl (m : Int)) (hc : a.eval c = .int kc (n : Int)) (hmn : m ≤ n) (b2 : bytes * n ≤ 281474976710656) (b3 : n ≤ 9223372036854775807)
    (hK : ∀ w', Hid (w'.heap[w.heap.size]? = some (.cells (List.replicate n z).toArray e (0, 0))) → Below w.heap.size w w' → w'.heap.size = w.heap.size + 1 → K (a.put o.dst (.slice (some ⟨w.heap.size, 0, none⟩) m n)) w') : o.wp P a w K Q := by
  subst h5
  have hb' : (i.bytes : Int) * (n : Int) ≤ 281474976710656 := by
    have h : ((i.bytes * n : Nat) : Int) ≤ 281474976710656 := by omega
    rwa [Int.natCast_mul] at h
  have hrun := run_make (P := P) w t e i z h1 h2 h3 kl kc m n (by omega) (by omega) hb' (by omega)
  simp only [Int.toNat_natCast, h4, Nat.mul_one, hz] at hrun
  have hm : madeCells #[z] n = (List.replicate n z).toArray := by
    apply Array.ext'
    rw [toList_madeCells_one]
  rw [hm] at hrun
  unfold Oper.wp
  simp [execOp, hop, hl, hc, hrun, Result.andThen]
  refine hK _ ?_ ((Below.refl _ _).alloc (Nat.le_refl _) _) (by simp)
  exact heap_alloc_new w _
end
theorem cell_below {w w' : World} {b o : Nat} {x : Value} (h : Below w.heap.size w w') (hc : w.cell? ⟨b, o, none⟩ = some x) : w'.cell? ⟨b, o, none⟩ = some x := by
  have hl : b < w.heap.size := block_lt_of_cell hc
  have e := h.block b hl
  unfold World.cell? at hc ⊢
  rw [e]
  exact hc
/-- Zeros in a block of their own, as a state's memory. -/
theorem sv_zero {w : World} {g m : Nat} (h : w.heap[g]? = some (.cells (List.replicate m (.int .i64 0)).toArray 3 (0, 0))) (hm : m ≤ 16) : Sv 0 w ⟨0, [], List.replicate m 0, 0, 0⟩ (.agg #[.int .i64 0, .slice none 0 0, .slice (some ⟨g, 0, none⟩) m m, .int .i64 0, .int .i64 0]) :=
  ⟨none, 0, 0, some ⟨g, 0, none⟩, m, m, rfl, World.ownsRow_nil _ _ _ _, by
    have q := own_of_block (base := 0) (n := m) h (Nat.zero_le _) (by simp) (by simp; omega)
    simpa [TabI.i64s] using q⟩
end Go.Proofs.Ytegnehdfedfphaa.VmcY
