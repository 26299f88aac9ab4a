/- The given variables hold what the row lists; a world in which they do. No conditions. -/
import Derived.Test.YtklpkafgmggacaaDoorRows
import Derived.Test.YtklpkafgmggacaaDoorOpsG
import Derived.OpenShut
import Derived.ChangeVars
import Derived.LaidLaws
import Derived.LaidHandle
import Derived.MakeChecks
import Derived.Stop.LaidErr
namespace Go.Proofs.YtklpkafgmggacaaDoor.LaidO
open Go.RowKit Go.Proofs.YtklpkafgmggacaaDoor.OpsT Go.Proofs.YtklpkafgmggacaaDoor.OpsG Go.ChangeShapes Go.WideShapes

theorem gES : Tryd.prog.globalNamed "strconv.ErrSyntax" = some 2 := by kernel_rfl
theorem gEST : (Tryd.prog.globals[2]?).map (·.type) = some 48 := by kernel_rfl
theorem gER : Tryd.prog.globalNamed "strconv.ErrRange" = some 3 := by kernel_rfl
theorem gERT : (Tryd.prog.globals[3]?).map (·.type) = some 48 := by kernel_rfl
theorem gP : Tryd.prog.globalNamed "internal/strconv.uint64pow10" = some 4 := by kernel_rfl
theorem gPT : (Tryd.prog.globals[4]?).map (·.type) = some 78 := by kernel_rfl
theorem gN : Tryd.prog.globalNamed "longeron/op.names" = some 0 := by kernel_rfl
theorem gNT : (Tryd.prog.globals[0]?).map (·.type) = some 41 := by kernel_rfl
theorem c89 : Tryd.prog.cellsOf 89 = 1 := by kernel_rfl
theorem c9 : Tryd.prog.cellsOf 9 = 1 := by kernel_rfl
theorem c63 : Tryd.prog.cellsOf 63 = 1 := by kernel_rfl
theorem c78 : Tryd.prog.cellsOf 78 = 20 := by kernel_rfl
theorem c41 : Tryd.prog.cellsOf 41 = 19 := by kernel_rfl
theorem star : "*" ++ "errors.errorString" = "*errors.errorString" := by decide
theorem row87 (u : TypeId) (h : Tryd.prog.typeName? 3 u = some "*errors.errorString") : u = 87 :=
  typeName_ptr_named (nm := "errors.errorString") (by rw [star]; kernel_rfl) (by kernel_rfl) (by decide) u (by rw [star]; exact h)
theorem datumP : (Rows.laid_internal_strconv_uint64pow10 : DataW Unit) = Lib.tabData .u64 Lib.pow10Tab := rfl
theorem datumN : (Rows.laid_longeron_op_names : DataW Unit) = .agg (nm.map fun s => .lit (.string s.data.toList)) := rfl
theorem str_of_trod {H : Type} {enc : TypeId × Value → H} {P : Program} {w : World} {base : Nat} {sp : Nat → Bool} {held : Bool} {fuel : Nat} {t : TypeId} {c : Value} {y : DataW H × List MemPlace}
    (ht : P.underlying t = some .string) (h : DataW.trod enc P w base sp held fuel t [c] = some y) : ∃ s : ByteArray, c = .string s ∧ y.1 = .lit (.string s.data.toList) := by
  cases fuel with
  | zero => simp [DataW.trod] at h
  | succ fuel =>
    cases c <;> simp [DataW.trod, ht] at h
    rename_i s
    exact ⟨s, rfl, by rw [← h.2]⟩
set_option maxRecDepth 100000 in
theorem nm_of_laid {r : List (String × DataW Unit)} {W : World} (h : laidMet Tryd.prog (("longeron/op.names", Rows.laid_longeron_op_names) :: r) W) : ∀ k, k < 19 → W.cell? ⟨0, k, none⟩ = some (.string (nmk k)) := by
  obtain ⟨ps, ⟨g, t, cs, fuel, p, q, hg, ht, hvar, hd, _, _⟩, _⟩ := h
  obtain rfl := Option.some.inj (gN.symm.trans hg)
  obtain rfl := Option.some.inj (gNT.symm.trans ht)
  rw [datumN] at hd
  obtain ⟨xs, m, rfl, hx, hl, hxl, hat⟩ := DataW.trod_array Tryd.underlying41 hd
  rw [c41] at hl
  simp only [Prod.mk.injEq] at hx
  have hx1 : nm.map (fun s : ByteArray => (DataW.lit (.string s.data.toList) : DataW Unit)) = xs.map (·.1) := by
    have := hx.1
    injection this
  intro i hi
  have h1 := hat i hi
  rw [c9, Nat.mul_one] at h1
  have hi2 : i < cs.toList.length := by omega
  have hdt : (cs.toList.drop i).take 1 = [cs.toList[i]] := by
    rw [List.drop_eq_getElem_cons hi2]
    rfl
  rw [hdt, List.getElem?_eq_getElem (by omega)] at h1
  obtain ⟨n, hn, hy⟩ := str_of_trod Tryd.underlying9 h1
  have h2 : (xs.map (·.1))[i]? = some (.lit (.string n.data.toList)) := by
    rw [List.getElem?_map, List.getElem?_eq_getElem (by omega), Option.map_some, hy]
  have hk : i < nm.length := hi
  rw [← hx1, List.getElem?_map, List.getElem?_eq_getElem hk, Option.map_some] at h2
  injection h2 with h2
  injection h2 with h2
  injection h2 with h2
  have hen : nm[i] = n := OpsV.lst_inj h2
  rw [World.var?_cell hg hvar i]
  have h3 : cs[i]? = some (cs.toList[i]) := by simp
  rw [h3, hn, ← hen, nmk, List.getD_eq_getElem?_getD, List.getElem?_eq_getElem hk]
  rfl
set_option maxRecDepth 100000 in
theorem tab_of_laid {W : World} (h : laidMetH Tryd.prog Rows.opTextsRow.laid W) : OTab W := by
  have h' : laidMet Tryd.prog Rows.opTextsRow.laid W := h
  have h3 := h'.tail.tail
  have h4 := h3.tail
  have h5 := h4.tail
  obtain ⟨a0, _, e0, -, -, -⟩ := laid_sentinel h4 gER gERT Tryd.underlying48 row87 Tryd.underlying87 Tryd.underlying89 rfl rfl Tryd.underlying9 c89 c9
  obtain ⟨a1, _, e1, -, -, -⟩ := laid_sentinel h5 gES gEST Tryd.underlying48 row87 Tryd.underlying87 Tryd.underlying89 rfl rfl Tryd.underlying9 c89 c9
  exact ⟨nm_of_laid h5.tail, Lib.tabIs_of_head gP gPT Tryd.underlying78 Tryd.underlying63 c63 c78 h3, ⟨_, _, e1⟩, ⟨_, _, e0⟩⟩

/-- A world that meets the condition: the settled one, with two texts more, and the variables' cells laid. -/
abbrev synS : ByteArray := { data := #[105, 110, 118, 97, 108, 105, 100, 32, 115, 121, 110, 116, 97, 120] }
abbrev rngS : ByteArray := { data := #[118, 97, 108, 117, 101, 32, 111, 117, 116, 32, 111, 102, 32, 114, 97, 110, 103, 101] }
noncomputable def low : Nat := (World.holding Tryd.prog default ⟨#[], #[], []⟩).heap.size
def put (cs : Array Value) : Obj → Obj
  | .cells _ t frozen => .cells cs t frozen
  | o => o
def tab8 : List Int := [0, 1, 28, 2, 29, 14, 24, 3, 30, 22, 20, 15, 25, 17, 4, 8, 31, 27, 13, 23, 21, 19, 16, 7, 26, 12, 18, 6, 11, 5, 10, 9]
def tab64 : List Int := [0, 1, 56, 2, 57, 49, 28, 3, 61, 58, 42, 50, 38, 29, 17, 4, 62, 47, 59, 36, 45, 43, 51, 22, 53, 39, 33, 30, 24, 18, 12, 5, 63, 55, 48, 27, 60, 41, 37, 16, 46, 35, 44, 21, 52, 32, 23, 11, 54, 26, 40, 15, 34, 20, 31, 10, 25, 14, 19, 9, 13, 8, 7, 6]
noncomputable def laidWorld (os : Os) : World :=
  let w0 := World.holding Tryd.prog os ⟨#[.cells #[.string synS] 89, .cells #[.string rngS] 89], #[], []⟩
  { w0 with heap := (((((w0.heap.modify 2 (put #[.iface 87 (.pointer (some ⟨low, 0, none⟩))])).modify 3 (put #[.iface 87 (.pointer (some ⟨low + 1, 0, none⟩))])).modify 0 (put (Go.Proofs.YtklpkafgmggacaaDoor.OpsT.strs nm).toArray)).modify 4 (put (Lib.pow10Tab.map fun z => Value.int .u64 z).toArray)).modify 5 (put (tab8.map fun z => Value.int .u8 z).toArray)).modify 6 (put (tab64.map fun z => Value.int .u8 z).toArray) }
theorem laidWorld_met (os : Os) (args : Array Value) : laidMetH Tryd.prog Rows.opTextsRow.laid ((laidWorld os).forCall (fun _ _ => 0) ⟨#[], args, []⟩).memory :=
  laidMetH_of_parts (laidMet_of_run' 8 (by kernel_rfl) (by kernel_rfl)) (by kernel_rfl)
end Go.Proofs.YtklpkafgmggacaaDoor.LaidO
