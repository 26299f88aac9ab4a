/- A Hash as it lies in memory; bytes cut off in front. Over the digest's plain facts; no conditions but those each law names. -/
import Derived.Test.YtlghojnlnfkdhaaDoorShaG
namespace Go.Proofs.YtlghojnlnfkdhaaDoor.ShaH
open Go.RowKit Go.Proofs.YtlghojnlnfkdhaaDoor.Kit Go.Proofs.YtlghojnlnfkdhaaDoor.Byt Go.Proofs.YtlghojnlnfkdhaaDoor.ShaM Go.Proofs.YtlghojnlnfkdhaaDoor.ShaA Go.Proofs.YtlghojnlnfkdhaaDoor.ShaB Go.Proofs.YtlghojnlnfkdhaaDoor.ShaC Go.Proofs.YtlghojnlnfkdhaaDoor.ShaK Go.Proofs.YtlghojnlnfkdhaaDoor.ShaD Go.Proofs.YtlghojnlnfkdhaaDoor.ShaE Go.Proofs.YtlghojnlnfkdhaaDoor.ShaF Go.Proofs.YtlghojnlnfkdhaaDoor.ShaG

/-- The cells of a Hash. -/
def hc (u : W8) (op : List Nat) (n : Nat) : List Value := wl u ++ (u8n op ++ [.int .i64 (n : Int)])
theorem hc_len {u : W8} {op : List Nat} {n : Nat} (h : op.length = 64) : (hc u op n).length = 73 := by
  rw [hc, List.length_append, wl_len, List.length_append, u8n_len, h]; rfl
theorem hc_long {u : W8} {op : List Nat} {n : Nat} (h : op.length = 64) : (hc u op n)[72]? = some (.int .i64 (n : Int)) := by
  rw [hc, List.getElem?_append_right (by rw [wl_len]; omega), wl_len, List.getElem?_append_right (by rw [u8n_len]; omega), u8n_len, h]; rfl
theorem hc_setlong {u : W8} {op : List Nat} {n : Nat} (h : op.length = 64) (m : Nat) : (hc u op n).set 72 (.int .i64 (m : Int)) = hc u op m := by
  rw [hc, List.set_append, if_neg (by rw [wl_len]; omega), wl_len, List.set_append, if_neg (by rw [u8n_len]; omega), u8n_len, h]; rfl
theorem hc_range {u : W8} {op : List Nat} {n : Nat} (h : op.length = 64) : ((hc u op n).drop 8).take (u8n op).length = u8n op := by
  rw [hc, List.drop_append_of_le_length (by rw [wl_len]; omega), show (wl u).drop 8 = [] from rfl, List.nil_append, List.take_left]
theorem hc_splice {u : W8} {op ys : List Nat} {n r : Nat} (h : op.length = 64) (hr : r + ys.length ≤ 64) : splice (hc u op n) (8 + r) (u8n ys) = hc u (splice op r ys) n := by
  have h1 : (hc u op n).take (8 + r) = wl u ++ u8n (op.take r) := by
    rw [hc, List.take_append, wl_len, List.take_of_length_le (by rw [wl_len]; omega), show 8 + r - 8 = r by omega, List.take_append_of_le_length (by rw [u8n_len]; omega)]
    simp [u8n]
  have h2 : (hc u op n).drop (8 + r + (u8n ys).length) = u8n (op.drop (r + ys.length)) ++ [.int .i64 (n : Int)] := by
    rw [u8n_len, hc, List.drop_append, wl_len, show (wl u).drop (8 + r + ys.length) = [] from List.drop_of_length_le (by rw [wl_len]; omega), List.nil_append, show 8 + r + ys.length - 8 = r + ys.length by omega, List.drop_append_of_le_length (by rw [u8n_len]; omega)]
    simp [u8n]
  rw [splice, h1, h2, hc, splice]
  simp [u8n]
theorem head8 {w : World} {G : Nat} {t : TypeId} {u : W8} {rest : List Value} (hg : Blk w G t (wl u ++ rest)) :
    w.cell? ⟨G, 0, none⟩ = some (.int .u32 (u.a : Nat)) ∧ w.cell? ⟨G, 1, none⟩ = some (.int .u32 (u.b : Nat)) ∧ w.cell? ⟨G, 2, none⟩ = some (.int .u32 (u.c : Nat)) ∧ w.cell? ⟨G, 3, none⟩ = some (.int .u32 (u.d : Nat)) ∧ w.cell? ⟨G, 4, none⟩ = some (.int .u32 (u.e : Nat)) ∧ w.cell? ⟨G, 5, none⟩ = some (.int .u32 (u.f : Nat)) ∧ w.cell? ⟨G, 6, none⟩ = some (.int .u32 (u.g : Nat)) ∧ w.cell? ⟨G, 7, none⟩ = some (.int .u32 (u.h : Nat)) := by
  refine ⟨?_, ?_, ?_, ?_, ?_, ?_, ?_, ?_⟩ <;> (exact hg.cell rfl)
theorem setHead {w : World} {G : Nat} {t : TypeId} {u : W8} {rest : List Value} (hg : Blk w G t (wl u ++ rest)) (v0 v1 v2 v3 v4 v5 v6 v7 : Value) :
    Blk ((((((((w.setCell ⟨G, 0, none⟩ v0).setCell ⟨G, 1, none⟩ v1).setCell ⟨G, 2, none⟩ v2).setCell ⟨G, 3, none⟩ v3).setCell ⟨G, 4, none⟩ v4).setCell ⟨G, 5, none⟩ v5).setCell ⟨G, 6, none⟩ v6).setCell ⟨G, 7, none⟩ v7) G t ([v0, v1, v2, v3, v4, v5, v6, v7] ++ rest) := by
  have h7 := (((((((hg.set 0 v0).set 1 v1).set 2 v2).set 3 v3).set 4 v4).set 5 v5).set 6 v6).set 7 v7
  exact h7
theorem only8 (w : World) (G : Nat) (v0 v1 v2 v3 v4 v5 v6 v7 : Value) :
    Only G w ((((((((w.setCell ⟨G, 0, none⟩ v0).setCell ⟨G, 1, none⟩ v1).setCell ⟨G, 2, none⟩ v2).setCell ⟨G, 3, none⟩ v3).setCell ⟨G, 4, none⟩ v4).setCell ⟨G, 5, none⟩ v5).setCell ⟨G, 6, none⟩ v6).setCell ⟨G, 7, none⟩ v7) :=
  (((((((Only.set w G 0 v0).trans (Only.set _ G 1 v1)).trans (Only.set _ G 2 v2)).trans (Only.set _ G 3 v3)).trans (Only.set _ G 4 v4)).trans (Only.set _ G 5 v5)).trans (Only.set _ G 6 v6)).trans (Only.set _ G 7 v7)

/-- Block g holds a Hash behind the bytes l. -/
def Hs (w : World) (g : Nat) (l : List Nat) : Prop :=
  ∃ op : List Nat, op.length = 64 ∧ by256 op ∧ op.take (l.length % 64) = l.drop (64 * (l.length / 64)) ∧ Blk w g 78 (hc (bk l (l.length / 64)) op l.length)
theorem Hs.lt {w : World} {g : Nat} {l : List Nat} (h : Hs w g l) : g < w.heap.size := by
  obtain ⟨op, _, _, _, hB⟩ := h
  exact hB.lt
theorem Hs.below {w w' : World} {g : Nat} {l : List Nat} (h : Hs w g l) (hb : Below w.heap.size w w') : Hs w' g l := by
  obtain ⟨op, h1, h2, h3, hB⟩ := h
  exact ⟨op, h1, h2, h3, hB.below hb⟩
theorem part_step {op l ys : List Nat} {q r : Nat} (h : op.length = 64) (hl : l.length = 64 * q + r) (hop : op.take r = l.drop (64 * q)) (hy : r + ys.length ≤ 64) : (splice op r ys).take (r + ys.length) = (l ++ ys).drop (64 * q) := by
  have hr : (op.take r).length = r := by simp; omega
  rw [splice, ← List.append_assoc, List.take_append_of_le_length (by simp; omega), List.take_of_length_le (by simp; omega), hop, List.drop_append_of_le_length (by omega)]
/-- A part of a block was written. -/
theorem Hs.part {w : World} {g : Nat} {l ys op : List Nat} (h : op.length = 64) (h2 : by256 op) (hy : by256 ys) (hop : op.take (l.length % 64) = l.drop (64 * (l.length / 64))) (hr : l.length % 64 + ys.length < 64)
    (hB : Blk w g 78 (hc (bk l (l.length / 64)) (splice op (l.length % 64) ys) (l.length + ys.length))) : Hs w g (l ++ ys) := by
  have hq : (l ++ ys).length / 64 = l.length / 64 := by simp; omega
  have hm : (l ++ ys).length % 64 = l.length % 64 + ys.length := by simp; omega
  refine ⟨splice op (l.length % 64) ys, by rw [length_splice _ _ _ (by omega), h], ?_, ?_, ?_⟩
  · intro c hc
    simp only [splice, List.mem_append] at hc
    rcases hc with hc | hc | hc
    · exact h2 c (List.mem_of_mem_take hc)
    · exact hy c hc
    · exact h2 c (List.mem_of_mem_drop hc)
  · rw [hm, hq]
    exact part_step h (by omega) hop (by omega)
  · rw [hq, bk_app l ys _ (by omega), List.length_append]
    exact hB
theorem splice_lt {op ys : List Nat} {r : Nat} (h2 : by256 op) (hy : by256 ys) : by256 (splice op r ys) := by
  intro c hc
  simp only [splice, List.mem_append] at hc
  rcases hc with hc | hc | hc
  · exact h2 c (List.mem_of_mem_take hc)
  · exact hy c hc
  · exact h2 c (List.mem_of_mem_drop hc)
/-- A block was filled. -/
theorem Hs.full {w : World} {g : Nat} {l ys op : List Nat} (h : op.length = 64) (h2 : by256 op) (hy : by256 ys) (hop : op.take (l.length % 64) = l.drop (64 * (l.length / 64))) (hr : l.length % 64 + ys.length = 64)
    (hB : Blk w g 78 (hc (blk (bk l (l.length / 64)) (splice op (l.length % 64) ys)) (splice op (l.length % 64) ys) (l.length + ys.length))) : Hs w g (l ++ ys) := by
  have hq : (l ++ ys).length / 64 = l.length / 64 + 1 := by simp; omega
  have hm : (l ++ ys).length % 64 = 0 := by simp; omega
  have hlen : (splice op (l.length % 64) ys).length = 64 := by rw [length_splice _ _ _ (by omega), h]
  have hs := part_step (q := l.length / 64) h (by omega) hop (Nat.le_of_eq hr)
  rw [hr, List.take_of_length_le (by omega)] at hs
  refine ⟨splice op (l.length % 64) ys, hlen, splice_lt h2 hy, ?_, ?_⟩
  · rw [hm, hq, List.take_zero, List.drop_of_length_le (by simp; omega)]
  · rw [hq, bk, bk_app l ys _ (by omega), ← hs, List.take_of_length_le (by omega), List.length_append]
    exact hB

/-- Bytes that are read, and that do not lie in block g. -/
def Src (w : World) (g : Nat) (A : Option Addr) (n c : Nat) (xs : List Nat) : Prop := Rd w A n c (u8n xs) ∧ (0 < n → ∀ b o, A = some ⟨b, o, none⟩ → b ≠ g)
theorem Src.grown {w w' : World} {g n c : Nat} {A : Option Addr} {xs : List Nat} (h : Src w g A n c xs) (hg : w.grownBy w' (some g)) : Src w' g A n c xs := by
  refine ⟨?_, h.2⟩
  rcases Nat.eq_zero_or_pos n with h0 | h0
  · have hx : xs = [] := List.eq_nil_of_length_eq_zero (by have := Rd.nats h.1; omega)
    subst h0 hx
    exact Rd.empty w' A h.1.cap
  · exact Rd.grown h.1 hg fun k hk b o hA => by injection hk with hk; subst hk; exact h.2 h0 b o hA
theorem Src.cut {w : World} {g n c m : Nat} {A : Option Addr} {xs : List Nat} (h : Src w g A n c xs) (hm : m ≤ n) : Src w g (if c = m then A else A.map (·.add m)) (n - m) (c - m) (xs.drop m) := by
  have hl := Rd.nats h.1
  rcases Nat.eq_zero_or_pos (n - m) with h0 | h0
  · have hx : xs.drop m = [] := List.drop_of_length_le (by omega)
    rw [h0, hx]
    exact ⟨Rd.empty w _ (by have := h.1.cap; omega), fun h => absurd h (by omega)⟩
  · have hle := h.1.le
    rw [if_neg (by omega)]
    obtain ⟨b, o, hA, hb, hj⟩ := h.1.2.2.2 (by omega)
    have hA2 : A.map (·.add m) = some ⟨b, o + m, none⟩ := by rw [hA]; simp [Addr.add_lit]
    rw [hA2]
    refine ⟨⟨by rw [u8n_len]; simp; omega, by omega, by have := h.1.cap; omega, fun _ => ⟨b, o + m, rfl, hb, fun j u hu => ?_⟩⟩, fun _ b' o' he => ?_⟩
    · rw [Nat.add_assoc]
      refine hj (m + j) u ?_
      rw [← hu]
      simp [u8n]
    · injection he with he
      injection he with hb'
      subst hb'
      exact h.2 (by omega) _ _ hA

end Go.Proofs.YtlghojnlnfkdhaaDoor.ShaH
