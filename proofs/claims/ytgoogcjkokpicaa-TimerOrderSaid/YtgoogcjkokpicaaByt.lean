/- Slices of bytes, and of slices of bytes, as lists of numbers; how what came in reads. Over any program; no conditions but those each law names. -/
import Derived.Test.YtgoogcjkokpicaaKit
import Derived.Deep.Matrix
namespace Go.Proofs.Ytgoogcjkokpicaa.Byt
open Go.RowKit Go.Proofs.Ytgoogcjkokpicaa.Kit

/-- Bytes as cells. -/
def u8n (xs : List Nat) : List Value := xs.map fun n : Nat => Value.int .u8 (n : Int)
theorem u8n_one (xs : List Nat) : ∀ u ∈ u8n xs, u.oneCell' = true := by
  intro u hu
  simp only [u8n, List.mem_map] at hu
  obtain ⟨n, _, rfl⟩ := hu
  rfl
theorem u8n_len (xs : List Nat) : (u8n xs).length = xs.length := List.length_map ..
theorem u8n_app (xs ys : List Nat) : u8n xs ++ u8n ys = u8n (xs ++ ys) := by simp [u8n]
theorem Rd.nats {w : World} {A : Option Addr} {n c : Nat} {xs : List Nat} (h : Rd w A n c (u8n xs)) : xs.length = n := by have := h.len; rwa [u8n_len] at this
theorem Rd.nat {w : World} {A : Option Addr} {n c : Nat} {xs : List Nat} (h : Rd w A n c (u8n xs)) {k : Nat} (hk : k < xs.length) : ∃ b o, A = some ⟨b, o, none⟩ ∧ w.cell? ⟨b, o + k, none⟩ = some (.int .u8 (xs[k] : Nat)) := by
  obtain ⟨b, o, hA, hc⟩ := Rd.at_ h (k := k) (by have := Rd.nats h; omega)
  exact ⟨b, o, hA, by simpa [u8n] using hc⟩
/-- Bytes that came in, as numbers. -/
theorem Row.nats {w : World} {a : Option Addr} {len cap : Nat} {zs : List Int} (h : Row .u8 w a len cap zs) :
    ∃ xs : List Nat, Rd w a len cap (u8n xs) ∧ ∀ n ∈ xs, n < 256 := by
  obtain ⟨xs, hx, hw⟩ := Row.rd h
  have hb : ∀ n ∈ xs, 0 ≤ n ∧ n ≤ 255 := fun n hn => bounds_u8 (hw n hn)
  refine ⟨xs.map Int.toNat, ?_, ?_⟩
  · have : u8n (xs.map Int.toNat) = xs.map (Value.int .u8) := by
      simp only [u8n, List.map_map]
      apply List.map_congr_left
      intro n hn
      have := (hb n hn).1
      simp [Int.toNat_of_nonneg this]
    rw [this]
    exact hx
  · intro n hn
    simp only [List.mem_map] at hn
    obtain ⟨m, hm, rfl⟩ := hn
    have := hb m hm
    omega
theorem take_snoc {xs : List Nat} {k : Nat} (h : k < xs.length) : xs.take (k + 1) = xs.take k ++ [xs[k]] := List.take_succ_eq_append_getElem h

/-! ### slices of slices of bytes -/

structure Sl where
  A : Option Addr
  n : Nat
  c : Nat
  xs : List Nat
def Sl.val (s : Sl) : Value := .slice s.A s.n s.c
def Sl.ok (w : World) (s : Sl) : Prop := Rd w s.A s.n s.c (u8n s.xs) ∧ ∀ c ∈ s.xs, c < 256
/-- The slice at A is these slices of bytes. -/
def Rds (w : World) (A : Option Addr) (n c : Nat) (R : List Sl) : Prop := Rd w A n c (R.map Sl.val) ∧ ∀ s ∈ R, s.ok w
theorem Rds.len {w : World} {A : Option Addr} {n c : Nat} {R : List Sl} (h : Rds w A n c R) : R.length = n := by have := h.1.len; rwa [List.length_map] at this
theorem Sl.ok.below {w w' : World} {s : Sl} (h : s.ok w) (hb : Below w.heap.size w w') : s.ok w' := ⟨h.1.below hb, h.2⟩
theorem Rds.below {w w' : World} {A : Option Addr} {n c : Nat} {R : List Sl} (h : Rds w A n c R) (hb : Below w.heap.size w w') : Rds w' A n c R :=
  ⟨h.1.below hb, fun s hs => (h.2 s hs).below hb⟩
theorem Rds.at_ {w : World} {A : Option Addr} {n c : Nat} {R : List Sl} (h : Rds w A n c R) {k : Nat} (hk : k < R.length) : ∃ b o, A = some ⟨b, o, none⟩ ∧ w.cell? ⟨b, o + k, none⟩ = some (.slice R[k].A R[k].n R[k].c) := by
  obtain ⟨b, o, hA, hc⟩ := Rd.at_ h.1 (k := k) (by have := Rds.len h; omega)
  exact ⟨b, o, hA, by simpa [Sl.val] using hc⟩
def cat (R : List Sl) : List Nat := R.flatMap Sl.xs
theorem cat_nil : cat [] = [] := rfl
theorem cat_snoc {R : List Sl} {k : Nat} (h : k < R.length) : cat (R.take (k + 1)) = cat (R.take k) ++ R[k].xs := by
  unfold cat
  rw [List.take_succ_eq_append_getElem h, List.flatMap_append]
  simp
theorem cat_lt {w : World} {R : List Sl} (h : ∀ s ∈ R, s.ok w) : ∀ c ∈ cat R, c < 256 := by
  intro c hc
  simp only [cat, List.mem_flatMap] at hc
  obtain ⟨s, hs, hx⟩ := hc
  exact (h s hs).2 c hx

/-- A slice of slices of bytes that came in. -/
theorem open_rows {H : Type} {enc : TypeId × Value → H} {P : Program} {w : World} {base : Nat} {t e q : TypeId} {v : Value} {d : DataW H} {p : List MemPlace} (ht : P.underlying t = some (.slice e)) (he : P.underlying e = some (.slice q)) (hq : P.underlying q = some (.int .u8))
    (ce : P.cellsOf e = 1) (cq : P.cellsOf q = 1) (h : DataW.Trod enc P w 0 (fun _ => true) true t v d p) (o : Value.okWide P w .any base t v) :
    ∃ A n c R, v = .slice A n c ∧ Rds w A n c R := by
  obtain ⟨a, n, c, rfl⟩ := Go.WideShapes.okWide_slice ht o
  obtain ⟨fuel, hf⟩ := h
  rcases Go.Deep.open_int_rows ht he hq ce cq hf with ⟨hcs, _⟩ | ⟨x, len, cap, A, L, C, Z, hcs, _, hl, hm, _, hr⟩
  · simp [Value.cells] at hcs
    obtain ⟨rfl, rfl, rfl⟩ := hcs
    exact ⟨none, 0, 0, [], rfl, Rd.nil w, by simp⟩
  · simp [Value.cells] at hcs
    obtain ⟨rfl, rfl, rfl⟩ := hcs
    have each : ∀ r, r < n → ∃ xs : List Nat, Rd w (A r) (L r) (C r) (u8n xs) ∧ ∀ c ∈ xs, c < 256 := by
      intro r hr'
      obtain ⟨hc, h1, h2, h3, h4, h5, h6⟩ := hr r (by omega)
      refine Row.nats (zs := Z r) ?_
      rcases hA : A r with _ | a'
      · have hC := h5 hA
        exact .inl ⟨rfl, by omega, hC, List.eq_nil_of_length_eq_zero (by omega)⟩
      · exact .inr ⟨a', rfl, h1, h2, h3, fun i hi => (h6 a' hA).2 i (by omega), h4⟩
    obtain ⟨f, hf2⟩ := Go.Deep.choose_lt each
    refine ⟨some x, n, c, (List.range n).map fun r => ⟨A r, L r, C r, f r⟩, rfl, ⟨by simp, hl, by unfold maxLen at hm; omega, fun hp => ?_⟩, ?_⟩
    · obtain ⟨b, off, spot⟩ := x
      have hc0 := (hr 0 (by omega)).1
      have hspot : spot = none := by simpa [Addr.add] using World.cell?_spot hc0
      subst hspot
      refine ⟨b, off, rfl, ?_, fun j u hu => ?_⟩
      · have := block_lt_of_cell hc0
        simpa [Addr.add] using this
      · have hj : j < n := by
          have := (List.getElem?_eq_some_iff.1 hu).1
          simpa using this
        have := (hr j (by omega)).1
        rw [Addr.add_lit] at this
        rw [this]
        simp only [List.map_map, List.getElem?_map, List.getElem?_range hj, Option.map_some, Option.some.injEq] at hu
        rw [← hu]
        rfl
    · intro s hs
      simp only [List.mem_map, List.mem_range] at hs
      obtain ⟨r, hr', rfl⟩ := hs
      exact hf2 r hr'

end Go.Proofs.Ytgoogcjkokpicaa.Byt
