/-
  No cell of these rows narrows 'for every input' (looked for: loops, veiled, ifaces, maps, wideKeys, modest, calm, conditions, laid).
  DERIVED. THE GIVEN ROWS OF THIS SEAT. 4 by the template 'for every input the law returns true; each argument reads behind the call as it read before'; 0 by the template 'total and deterministic' (their statements: YthgmocipiknfpaaTotals.lean).
  GIVEN WITH THE SEED: the statements are not yours to turn. If you find one false, say at which input.
  Laid BY PROGRAM, IN A SANDBOX (cutbox-rows.mjs): the forced cells as the released guide's own fill.sh prints them over the translation 55139db20ecb8492… (all of the seat's roots in one cut). By AI agents, Wed Nov 11 2026. No macro, syntax, notation, axiom, sorry.
-/
import Derived.Test.YthgmocipiknfpaaChecked
import GoSem.Claim
import GoSem.ClaimJoined
import GoSem.ClaimMapViews
import Derived.JoinedTies
import Derived.KernelRfl
namespace Go.Proofs.Ythgmocipiknfpaa
/- THE CELL 'sum', in the pinned program and in every row, IS THE sha256 OF THE DUMP (.gsa) THAT YthgmocipiknfpaaProg.lean LOADS. Nothing in Lean hashes anything: it is a label: what it is worth is what the hold of that sum in a sandbox is worth. -/
noncomputable def Try.pinned : Pinned := { name := "ythgmocipiknfpaa", sum := "55139db20ecb849295c0ba6235731ec2999caa8895dd57fc1e86e9429d599f93", checked := Try.checked }
namespace Rows
def none {H : Type} : Left H := { results := [], args := [] }

/-- 'longeronlaw11.StageActs': WHATEVER THE INPUT: true; the input reads as it did. -/
def stageActsSpec : ChangeSpec := { name := "stageActs", fn := fun _ => fun
  | [d1, d2] => { results := [.lit (.bool true)], args := [d1, d2] }
  | _ => none }
def stageActsRow : OpenClaim := { program := "ythgmocipiknfpaa", sum := "55139db20ecb849295c0ba6235731ec2999caa8895dd57fc1e86e9429d599f93", func := "longeron/longeronlaw11.StageActs", spec := "stageActs", unfollowed := true, recurses := true, apart := false }
def StageActsSaid : Prop := stageActsRow.holds Try.pinned (OpenSpec.ofChange stageActsSpec)

/-- ITS FALSE NEIGHBOUR: 'it returns false'. Refute it at one input. -/
def stageActsWrong : ChangeSpec := { name := "stageActs", fn := fun _ => fun
  | [d1, d2] => { results := [.lit (.bool false)], args := [d1, d2] }
  | _ => none }
def StageActsWrongFalsely : Prop := stageActsRow.holds Try.pinned (OpenSpec.ofChange stageActsWrong)

/-- 'longeronlaw11.StageOrder': WHATEVER THE INPUT: true; the input reads as it did. -/
def stageOrderSpec : ChangeSpec := { name := "stageOrder", fn := fun _ => fun
  | [d1, d2] => { results := [.lit (.bool true)], args := [d1, d2] }
  | _ => none }
def stageOrderRow : OpenClaim := { program := "ythgmocipiknfpaa", sum := "55139db20ecb849295c0ba6235731ec2999caa8895dd57fc1e86e9429d599f93", func := "longeron/longeronlaw11.StageOrder", spec := "stageOrder", unfollowed := true, recurses := true, apart := false }
def StageOrderSaid : Prop := stageOrderRow.holds Try.pinned (OpenSpec.ofChange stageOrderSpec)

/-- ITS FALSE NEIGHBOUR: 'it returns false'. Refute it at one input. -/
def stageOrderWrong : ChangeSpec := { name := "stageOrder", fn := fun _ => fun
  | [d1, d2] => { results := [.lit (.bool false)], args := [d1, d2] }
  | _ => none }
def StageOrderWrongFalsely : Prop := stageOrderRow.holds Try.pinned (OpenSpec.ofChange stageOrderWrong)

/-- 'longeronlaw11.StageOpens': WHATEVER THE INPUT: true; the input reads as it did. -/
def stageOpensSpec : ChangeSpec := { name := "stageOpens", fn := fun _ => fun
  | [d1, d2, d3] => { results := [.lit (.bool true)], args := [d1, d2, d3] }
  | _ => none }
def stageOpensRow : OpenClaim := { program := "ythgmocipiknfpaa", sum := "55139db20ecb849295c0ba6235731ec2999caa8895dd57fc1e86e9429d599f93", func := "longeron/longeronlaw11.StageOpens", spec := "stageOpens", unfollowed := true, recurses := true, apart := false }
def StageOpensSaid : Prop := stageOpensRow.holds Try.pinned (OpenSpec.ofChange stageOpensSpec)

/-- ITS FALSE NEIGHBOUR: 'it returns false'. Refute it at one input. -/
def stageOpensWrong : ChangeSpec := { name := "stageOpens", fn := fun _ => fun
  | [d1, d2, d3] => { results := [.lit (.bool false)], args := [d1, d2, d3] }
  | _ => none }
def StageOpensWrongFalsely : Prop := stageOpensRow.holds Try.pinned (OpenSpec.ofChange stageOpensWrong)

/-- 'longeronlaw11.StageApart': WHATEVER THE INPUT: true; the input reads as it did. -/
def stageApartSpec : ChangeSpec := { name := "stageApart", fn := fun _ => fun
  | [d1, d2] => { results := [.lit (.bool true)], args := [d1, d2] }
  | _ => none }
def stageApartRow : OpenClaim := { program := "ythgmocipiknfpaa", sum := "55139db20ecb849295c0ba6235731ec2999caa8895dd57fc1e86e9429d599f93", func := "longeron/longeronlaw11.StageApart", spec := "stageApart", unfollowed := true, recurses := true, apart := false }
def StageApartSaid : Prop := stageApartRow.holds Try.pinned (OpenSpec.ofChange stageApartSpec)

/-- ITS FALSE NEIGHBOUR: 'it returns false'. Refute it at one input. -/
def stageApartWrong : ChangeSpec := { name := "stageApart", fn := fun _ => fun
  | [d1, d2] => { results := [.lit (.bool false)], args := [d1, d2] }
  | _ => none }
def StageApartWrongFalsely : Prop := stageApartRow.holds Try.pinned (OpenSpec.ofChange stageApartWrong)

/- THE SECOND FORM. 'bulk': how many values and letters a reading holds, each counted each time it is reached (what is shared counts as often as it is met; a slice's spare places count too). A statement '..UptoSaid' is the law's where the arguments, and the package variables that the reading takes, are together of bulk at most 1048576: NARROWER than '..Said'. Prove '..Said' where nothing that the law and all that it calls make is longer than what came in: it says more and counts as full. Else prove '..UptoSaid'. A law counts once. -/
mutual
def uptoBulk {H : Type} : DataW H → Nat
  | .lit (.string bytes) => bytes.length + 1
  | .lit _ => 1
  | .nil => 1
  | .ptr d => uptoBulk d + 1
  | .slice elems spare => uptoBulkAll elems + uptoBulkAll spare + 1
  | .agg parts => uptoBulkAll parts + 1
  | .iface _ d => uptoBulk d + 1
  | .map entries => uptoBulkEntries entries + 1
  | .held _ => 1
def uptoBulkAll {H : Type} : List (DataW H) → Nat
  | [] => 0
  | d :: r => uptoBulk d + uptoBulkAll r
def uptoBulkEntries {H : Type} : List (Lit × DataW H) → Nat
  | [] => 0
  | x :: r => uptoBulkEntry x + uptoBulkEntries r
def uptoBulkEntry {H : Type} : Lit × DataW H → Nat
  | (.string bytes, d) => bytes.length + uptoBulk d + 1
  | (_, d) => uptoBulk d + 1
 end
def uptoSmall : (H : Type) → List (DataW H) → Bool := fun _ ds => decide (uptoBulkAll ds ≤ 1048576)
def OpenSpec.upto (s : _root_.Go.ChangeSpec) : _root_.Go.OpenSpec := { _root_.Go.OpenSpec.ofChange s with cond := some uptoSmall }

/-- 'longeronlaw11.StageActs', WHERE WHAT IT READS IS OF BULK AT MOST 1048576: true; the input reads as it did. -/
def stageActsUptoRow : OpenClaim := { program := "ythgmocipiknfpaa", sum := "55139db20ecb849295c0ba6235731ec2999caa8895dd57fc1e86e9429d599f93", func := "longeron/longeronlaw11.StageActs", spec := "stageActs", unfollowed := true, recurses := true, apart := false, narrowed := true }
def StageActsUptoSaid : Prop := stageActsUptoRow.holds Try.pinned (OpenSpec.upto stageActsSpec)

/-- 'longeronlaw11.StageOrder', WHERE WHAT IT READS IS OF BULK AT MOST 1048576: true; the input reads as it did. -/
def stageOrderUptoRow : OpenClaim := { program := "ythgmocipiknfpaa", sum := "55139db20ecb849295c0ba6235731ec2999caa8895dd57fc1e86e9429d599f93", func := "longeron/longeronlaw11.StageOrder", spec := "stageOrder", unfollowed := true, recurses := true, apart := false, narrowed := true }
def StageOrderUptoSaid : Prop := stageOrderUptoRow.holds Try.pinned (OpenSpec.upto stageOrderSpec)

/-- 'longeronlaw11.StageOpens', WHERE WHAT IT READS IS OF BULK AT MOST 1048576: true; the input reads as it did. -/
def stageOpensUptoRow : OpenClaim := { program := "ythgmocipiknfpaa", sum := "55139db20ecb849295c0ba6235731ec2999caa8895dd57fc1e86e9429d599f93", func := "longeron/longeronlaw11.StageOpens", spec := "stageOpens", unfollowed := true, recurses := true, apart := false, narrowed := true }
def StageOpensUptoSaid : Prop := stageOpensUptoRow.holds Try.pinned (OpenSpec.upto stageOpensSpec)

/-- 'longeronlaw11.StageApart', WHERE WHAT IT READS IS OF BULK AT MOST 1048576: true; the input reads as it did. -/
def stageApartUptoRow : OpenClaim := { program := "ythgmocipiknfpaa", sum := "55139db20ecb849295c0ba6235731ec2999caa8895dd57fc1e86e9429d599f93", func := "longeron/longeronlaw11.StageApart", spec := "stageApart", unfollowed := true, recurses := true, apart := false, narrowed := true }
def StageApartUptoSaid : Prop := stageApartUptoRow.holds Try.pinned (OpenSpec.upto stageApartSpec)

end Rows
end Go.Proofs.Ythgmocipiknfpaa
