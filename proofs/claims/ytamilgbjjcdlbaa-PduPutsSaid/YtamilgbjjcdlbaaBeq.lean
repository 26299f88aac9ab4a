/- Two slices of bytes held against each other by the package bytes. Conditions: each slice reads as the list that is named, of bytes. -/
import Derived.Test.YtamilgbjjcdlbaaByt
import Derived.Laws.BytesArg
import Derived.Lib.Bytes
namespace Go.Proofs.Ytamilgbjjcdlbaa.Beq
open Go.RowKit Go.Proofs.Ytamilgbjjcdlbaa.Kit Go.Proofs.Ytamilgbjjcdlbaa.Byt

def nl (xs : List Nat) : List Int := xs.map fun n : Nat => (n : Int)
def stn (xs : List Nat) : ByteArray := strOfNums (nl xs)
theorem conv_str {P : Program} {w : World} {A : Option Addr} {n c : Nat} {xs : List Nat} {src e dst : TypeId} (hr : Rd w A n c (u8n xs)) (hs : P.underlying src = some (.slice e)) (he : P.underlying e = some (.int .u8)) (hd : P.underlying dst = some .string) :
    (convert src dst (.slice A n c)).run P w = .ok (.string (stn xs)) w := by
  have hl := Rd.nats hr
  rcases Nat.eq_zero_or_pos n with h0 | h0
  · subst h0
    obtain rfl : xs = [] := List.eq_nil_of_length_eq_zero hl
    rcases A with _ | a
    · rw [run_convert_bytes_nil w src e hs he 0 c dst hd]
      rfl
    · rw [run_convert_bytes_string w src dst e _ 0 c hs he hd, run_bytesToString w a 0 c [] (by simp [loadCells, loadCellsFrom])]
      rfl
  · obtain ⟨b, o, rfl, _, hc⟩ := hr.2.2.2 h0
    exact run_convert_bytes_arg w src e hs he b o n c (nl xs) (by simp [nl, hl]) (fun i hi => by
      rw [hc i (.int .u8 ((nl xs).getD i 0)) (by
        have : i < xs.length := by omega
        simp [u8n, nl, List.getD, this])]) dst hd
theorem stn_inj {xs ys : List Nat} (hx : ∀ u ∈ xs, u < 256) (hy : ∀ u ∈ ys, u < 256) (h : (stn xs).toList = (stn ys).toList) : xs = ys := by
  unfold stn at h
  rw [Lib.strOfNums_toList, Lib.strOfNums_toList] at h
  have h2 := congrArg (List.map UInt8.toNat) h
  have e : ∀ zs : List Nat, (∀ u ∈ zs, u < 256) → (Lib.bytesOf (nl zs)).map UInt8.toNat = zs := by
    intro zs hz
    have : (Lib.bytesOf (nl zs)).map UInt8.toNat = zs.map id := by
      simp only [Lib.bytesOf, nl, List.map_map]
      refine List.map_congr_left fun u hu => ?_
      have := hz u hu
      simp [Nat.mod_eq_of_lt this]
    simpa using this
  rw [e xs hx, e ys hy] at h2
  exact h2
theorem eql_str {xs ys : List Nat} (hx : ∀ u ∈ xs, u < 256) (hy : ∀ u ∈ ys, u < 256) : ((stn xs).toList == (stn ys).toList) = decide (xs = ys) := by
  rw [Bool.eq_iff_iff]
  simp only [beq_iff_eq, decide_eq_true_eq]
  exact ⟨stn_inj hx hy, fun h => by rw [h]⟩
set_option maxRecDepth 100000 in
set_option maxHeartbeats 400000 in
theorem equal_any (A B : Option Addr) (n m c d : Nat) (xs ys : List Nat) (w : World) (hx : Rd w A n c (u8n xs)) (hy : Rd w B m d (u8n ys)) (bx : ∀ u ∈ xs, u < 256) (by_ : ∀ u ∈ ys, u < 256) :
    Calls Try.prog 27 #[.slice A n c, .slice B m d] w fun e w' => e = .returned (.bool (decide (xs = ys))) ∧ w = w' := by
  have c1 := conv_str (P := Try.prog) (src := 22) (e := 5) (dst := 9) hx Try.underlying22 Try.underlying5 Try.underlying9
  have c2 := conv_str (P := Try.prog) (src := 22) (e := 5) (dst := 9) hy Try.underlying22 Try.underlying5 Try.underlying9
  have c3 := Lib.hid (eql_str bx by_)
  generalize decide (xs = ys) = q at *
  generalize stn xs = sx at *
  generalize stn ys = sy at *
  clear hx hy bx by_
  go_enter Try.func27, Try.ntmps27
  go_wp2
  go_ret
  exact ⟨ret_bool c3.out, rfl⟩
end Go.Proofs.Ytamilgbjjcdlbaa.Beq
