/-
  No cell of these rows narrows 'for every input' (looked for: loops, veiled, ifaces, maps, wideKeys, modest, calm, conditions, laid).
  DERIVED. THE GIVEN ROWS OF THIS SEAT. 5 by the template 'for every input the law returns true; each argument reads behind the call as it read before'; 0 by the template 'total and deterministic' (their statements: YtegddebigeeeeaaTotals.lean).
  GIVEN WITH THE SEED: the statements are not yours to turn. If you find one false, say at which input.
  Laid BY PROGRAM, IN A SANDBOX (cutbox-rows.mjs): the forced cells as the released guide's own fill.sh prints them over the translation 3daeb0a25f3d9088… (all of the seat's roots in one cut). By AI agents, Wed Nov 11 2026. No macro, syntax, notation, axiom, sorry.
-/
import Derived.Test.YtegddebigeeeeaaChecked
import GoSem.Claim
import GoSem.ClaimJoined
import GoSem.ClaimMapViews
import Derived.JoinedTies
import Derived.KernelRfl
namespace Go.Proofs.Ytegddebigeeeeaa
/- THE CELL 'sum', in the pinned program and in every row, IS THE sha256 OF THE DUMP (.gsa) THAT YtegddebigeeeeaaProg.lean LOADS. Nothing in Lean hashes anything: it is a label: what it is worth is what the hold of that sum in a sandbox is worth. -/
noncomputable def Try.pinned : Pinned := { name := "ytegddebigeeeeaa", sum := "3daeb0a25f3d9088b8d194439839d5fb78ca4711273cf4507c57d5e5b1852063", checked := Try.checked }
namespace Rows
def none {H : Type} : Left H := { results := [], args := [] }

/-- 'longeronlaw07.RecordPuts': WHATEVER THE INPUT: true; the input reads as it did. -/
def recordPutsSpec : ChangeSpec := { name := "recordPuts", fn := fun _ => fun
  | [d] => { results := [.lit (.bool true)], args := [d] }
  | _ => none }
def recordPutsRow : OpenClaim := { program := "ytegddebigeeeeaa", sum := "3daeb0a25f3d9088b8d194439839d5fb78ca4711273cf4507c57d5e5b1852063", func := "longeron/longeronlaw07.RecordPuts", spec := "recordPuts", unfollowed := true, recurses := true, apart := false }
def RecordPutsSaid : Prop := recordPutsRow.holds Try.pinned (OpenSpec.ofChange recordPutsSpec)

/-- ITS FALSE NEIGHBOUR: 'it returns false'. Refute it at one input. -/
def recordPutsWrong : ChangeSpec := { name := "recordPuts", fn := fun _ => fun
  | [d] => { results := [.lit (.bool false)], args := [d] }
  | _ => none }
def RecordPutsWrongFalsely : Prop := recordPutsRow.holds Try.pinned (OpenSpec.ofChange recordPutsWrong)

/-- 'longeronlaw07.RecordStages': WHATEVER THE INPUT: true; the input reads as it did. -/
def recordStagesSpec : ChangeSpec := { name := "recordStages", fn := fun _ => fun
  | [d] => { results := [.lit (.bool true)], args := [d] }
  | _ => none }
def recordStagesRow : OpenClaim := { program := "ytegddebigeeeeaa", sum := "3daeb0a25f3d9088b8d194439839d5fb78ca4711273cf4507c57d5e5b1852063", func := "longeron/longeronlaw07.RecordStages", spec := "recordStages", unfollowed := true, recurses := true, apart := false }
def RecordStagesSaid : Prop := recordStagesRow.holds Try.pinned (OpenSpec.ofChange recordStagesSpec)

/-- ITS FALSE NEIGHBOUR: 'it returns false'. Refute it at one input. -/
def recordStagesWrong : ChangeSpec := { name := "recordStages", fn := fun _ => fun
  | [d] => { results := [.lit (.bool false)], args := [d] }
  | _ => none }
def RecordStagesWrongFalsely : Prop := recordStagesRow.holds Try.pinned (OpenSpec.ofChange recordStagesWrong)

/-- 'longeronlaw07.RecordGets': WHATEVER THE INPUT: true; the input reads as it did. -/
def recordGetsSpec : ChangeSpec := { name := "recordGets", fn := fun _ => fun
  | [d] => { results := [.lit (.bool true)], args := [d] }
  | _ => none }
def recordGetsRow : OpenClaim := { program := "ytegddebigeeeeaa", sum := "3daeb0a25f3d9088b8d194439839d5fb78ca4711273cf4507c57d5e5b1852063", func := "longeron/longeronlaw07.RecordGets", spec := "recordGets", unfollowed := true, recurses := true, apart := false }
def RecordGetsSaid : Prop := recordGetsRow.holds Try.pinned (OpenSpec.ofChange recordGetsSpec)

/-- ITS FALSE NEIGHBOUR: 'it returns false'. Refute it at one input. -/
def recordGetsWrong : ChangeSpec := { name := "recordGets", fn := fun _ => fun
  | [d] => { results := [.lit (.bool false)], args := [d] }
  | _ => none }
def RecordGetsWrongFalsely : Prop := recordGetsRow.holds Try.pinned (OpenSpec.ofChange recordGetsWrong)

/-- 'longeronlaw07.RecordTurned': WHATEVER THE INPUT: true; the input reads as it did. -/
def recordTurnedSpec : ChangeSpec := { name := "recordTurned", fn := fun _ => fun
  | [d1, d2, d3] => { results := [.lit (.bool true)], args := [d1, d2, d3] }
  | _ => none }
def recordTurnedRow : OpenClaim := { program := "ytegddebigeeeeaa", sum := "3daeb0a25f3d9088b8d194439839d5fb78ca4711273cf4507c57d5e5b1852063", func := "longeron/longeronlaw07.RecordTurned", spec := "recordTurned", unfollowed := true, recurses := true, apart := false }
def RecordTurnedSaid : Prop := recordTurnedRow.holds Try.pinned (OpenSpec.ofChange recordTurnedSpec)

/-- ITS FALSE NEIGHBOUR: 'it returns false'. Refute it at one input. -/
def recordTurnedWrong : ChangeSpec := { name := "recordTurned", fn := fun _ => fun
  | [d1, d2, d3] => { results := [.lit (.bool false)], args := [d1, d2, d3] }
  | _ => none }
def RecordTurnedWrongFalsely : Prop := recordTurnedRow.holds Try.pinned (OpenSpec.ofChange recordTurnedWrong)

/-- 'longeronlaw07.RecordZeros': WHATEVER THE INPUT: true; the input reads as it did. -/
def recordZerosSpec : ChangeSpec := { name := "recordZeros", fn := fun _ => fun
  | [d1, d2] => { results := [.lit (.bool true)], args := [d1, d2] }
  | _ => none }
def recordZerosRow : OpenClaim := { program := "ytegddebigeeeeaa", sum := "3daeb0a25f3d9088b8d194439839d5fb78ca4711273cf4507c57d5e5b1852063", func := "longeron/longeronlaw07.RecordZeros", spec := "recordZeros", unfollowed := true, recurses := true, apart := false }
def RecordZerosSaid : Prop := recordZerosRow.holds Try.pinned (OpenSpec.ofChange recordZerosSpec)

/-- ITS FALSE NEIGHBOUR: 'it returns false'. Refute it at one input. -/
def recordZerosWrong : ChangeSpec := { name := "recordZeros", fn := fun _ => fun
  | [d1, d2] => { results := [.lit (.bool false)], args := [d1, d2] }
  | _ => none }
def RecordZerosWrongFalsely : Prop := recordZerosRow.holds Try.pinned (OpenSpec.ofChange recordZerosWrong)

/- THE SECOND FORM. 'bulk': how many values and letters a reading holds, each counted each time it is reached (what is shared counts as often as it is met; a slice's spare places count too). A statement '..UptoSaid' is the law's where the arguments, and the package variables that the reading takes, are together of bulk at most 1048576: NARROWER than '..Said'. Prove '..Said' where nothing that the law and all that it calls make is longer than what came in: it says more and counts as full. Else prove '..UptoSaid'. A law counts once. -/
mutual
def uptoBulk {H : Type} : DataW H → Nat
  | .lit (.string bytes) => bytes.length + 1
  | .lit _ => 1
  | .nil => 1
  | .ptr d => uptoBulk d + 1
  | .slice elems spare => uptoBulkAll elems + uptoBulkAll spare + 1
  | .agg parts => uptoBulkAll parts + 1
  | .iface _ d => uptoBulk d + 1
  | .map entries => uptoBulkEntries entries + 1
  | .held _ => 1
def uptoBulkAll {H : Type} : List (DataW H) → Nat
  | [] => 0
  | d :: r => uptoBulk d + uptoBulkAll r
def uptoBulkEntries {H : Type} : List (Lit × DataW H) → Nat
  | [] => 0
  | x :: r => uptoBulkEntry x + uptoBulkEntries r
def uptoBulkEntry {H : Type} : Lit × DataW H → Nat
  | (.string bytes, d) => bytes.length + uptoBulk d + 1
  | (_, d) => uptoBulk d + 1
 end
def uptoSmall : (H : Type) → List (DataW H) → Bool := fun _ ds => decide (uptoBulkAll ds ≤ 1048576)
def OpenSpec.upto (s : _root_.Go.ChangeSpec) : _root_.Go.OpenSpec := { _root_.Go.OpenSpec.ofChange s with cond := some uptoSmall }

/-- 'longeronlaw07.RecordPuts', WHERE WHAT IT READS IS OF BULK AT MOST 1048576: true; the input reads as it did. -/
def recordPutsUptoRow : OpenClaim := { program := "ytegddebigeeeeaa", sum := "3daeb0a25f3d9088b8d194439839d5fb78ca4711273cf4507c57d5e5b1852063", func := "longeron/longeronlaw07.RecordPuts", spec := "recordPuts", unfollowed := true, recurses := true, apart := false, narrowed := true }
def RecordPutsUptoSaid : Prop := recordPutsUptoRow.holds Try.pinned (OpenSpec.upto recordPutsSpec)

/-- 'longeronlaw07.RecordStages', WHERE WHAT IT READS IS OF BULK AT MOST 1048576: true; the input reads as it did. -/
def recordStagesUptoRow : OpenClaim := { program := "ytegddebigeeeeaa", sum := "3daeb0a25f3d9088b8d194439839d5fb78ca4711273cf4507c57d5e5b1852063", func := "longeron/longeronlaw07.RecordStages", spec := "recordStages", unfollowed := true, recurses := true, apart := false, narrowed := true }
def RecordStagesUptoSaid : Prop := recordStagesUptoRow.holds Try.pinned (OpenSpec.upto recordStagesSpec)

/-- 'longeronlaw07.RecordGets', WHERE WHAT IT READS IS OF BULK AT MOST 1048576: true; the input reads as it did. -/
def recordGetsUptoRow : OpenClaim := { program := "ytegddebigeeeeaa", sum := "3daeb0a25f3d9088b8d194439839d5fb78ca4711273cf4507c57d5e5b1852063", func := "longeron/longeronlaw07.RecordGets", spec := "recordGets", unfollowed := true, recurses := true, apart := false, narrowed := true }
def RecordGetsUptoSaid : Prop := recordGetsUptoRow.holds Try.pinned (OpenSpec.upto recordGetsSpec)

/-- 'longeronlaw07.RecordTurned', WHERE WHAT IT READS IS OF BULK AT MOST 1048576: true; the input reads as it did. -/
def recordTurnedUptoRow : OpenClaim := { program := "ytegddebigeeeeaa", sum := "3daeb0a25f3d9088b8d194439839d5fb78ca4711273cf4507c57d5e5b1852063", func := "longeron/longeronlaw07.RecordTurned", spec := "recordTurned", unfollowed := true, recurses := true, apart := false, narrowed := true }
def RecordTurnedUptoSaid : Prop := recordTurnedUptoRow.holds Try.pinned (OpenSpec.upto recordTurnedSpec)

/-- 'longeronlaw07.RecordZeros', WHERE WHAT IT READS IS OF BULK AT MOST 1048576: true; the input reads as it did. -/
def recordZerosUptoRow : OpenClaim := { program := "ytegddebigeeeeaa", sum := "3daeb0a25f3d9088b8d194439839d5fb78ca4711273cf4507c57d5e5b1852063", func := "longeron/longeronlaw07.RecordZeros", spec := "recordZeros", unfollowed := true, recurses := true, apart := false, narrowed := true }
def RecordZerosUptoSaid : Prop := recordZerosUptoRow.holds Try.pinned (OpenSpec.upto recordZerosSpec)

end Rows
end Go.Proofs.Ytegddebigeeeeaa
