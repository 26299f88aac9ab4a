/-
  No cell of these rows narrows 'for every input' (looked for: loops, veiled, ifaces, maps, wideKeys, modest, calm, conditions, laid).
  DERIVED. THE GIVEN ROWS OF THIS SEAT. 4 by the template 'for every input the law returns true; each argument reads behind the call as it read before'; 0 by the template 'total and deterministic' (their statements: YtdmfgffjplbloaaTotals.lean).
  GIVEN WITH THE SEED: the statements are not yours to turn. If you find one false, say at which input.
  Laid BY PROGRAM, IN A SANDBOX (cutbox-rows.mjs): the forced cells as the released guide's own fill.sh prints them over the translation 500eb320291f84c0… (all of the seat's roots in one cut). By AI agents, Wed Nov 11 2026. No macro, syntax, notation, axiom, sorry.
-/
import Derived.Test.YtdmfgffjplbloaaChecked
import GoSem.Claim
import GoSem.ClaimJoined
import GoSem.ClaimMapViews
import Derived.JoinedTies
import Derived.KernelRfl
namespace Go.Proofs.Ytdmfgffjplbloaa
/- THE CELL 'sum', in the pinned program and in every row, IS THE sha256 OF THE DUMP (.gsa) THAT YtdmfgffjplbloaaProg.lean LOADS. Nothing in Lean hashes anything: it is a label: what it is worth is what the hold of that sum in a sandbox is worth. -/
noncomputable def Try.pinned : Pinned := { name := "ytdmfgffjplbloaa", sum := "500eb320291f84c0e9567d944e27caa550b7f35ab888a7fc8823c6ff482fb49f", checked := Try.checked }
namespace Rows
def none {H : Type} : Left H := { results := [], args := [] }

/-- 'longeronlaw12.CommitActs': WHATEVER THE INPUT: true; the input reads as it did. -/
def commitActsSpec : ChangeSpec := { name := "commitActs", fn := fun _ => fun
  | [d1, d2] => { results := [.lit (.bool true)], args := [d1, d2] }
  | _ => none }
def commitActsRow : OpenClaim := { program := "ytdmfgffjplbloaa", sum := "500eb320291f84c0e9567d944e27caa550b7f35ab888a7fc8823c6ff482fb49f", func := "longeron/longeronlaw12.CommitActs", spec := "commitActs", unfollowed := true, recurses := true, apart := false }
def CommitActsSaid : Prop := commitActsRow.holds Try.pinned (OpenSpec.ofChange commitActsSpec)

/-- ITS FALSE NEIGHBOUR: 'it returns false'. Refute it at one input. -/
def commitActsWrong : ChangeSpec := { name := "commitActs", fn := fun _ => fun
  | [d1, d2] => { results := [.lit (.bool false)], args := [d1, d2] }
  | _ => none }
def CommitActsWrongFalsely : Prop := commitActsRow.holds Try.pinned (OpenSpec.ofChange commitActsWrong)

/-- 'longeronlaw12.CommitReads': WHATEVER THE INPUT: true; the input reads as it did. -/
def commitReadsSpec : ChangeSpec := { name := "commitReads", fn := fun _ => fun
  | [d1, d2, d3] => { results := [.lit (.bool true)], args := [d1, d2, d3] }
  | _ => none }
def commitReadsRow : OpenClaim := { program := "ytdmfgffjplbloaa", sum := "500eb320291f84c0e9567d944e27caa550b7f35ab888a7fc8823c6ff482fb49f", func := "longeron/longeronlaw12.CommitReads", spec := "commitReads", unfollowed := true, recurses := true, apart := false }
def CommitReadsSaid : Prop := commitReadsRow.holds Try.pinned (OpenSpec.ofChange commitReadsSpec)

/-- ITS FALSE NEIGHBOUR: 'it returns false'. Refute it at one input. -/
def commitReadsWrong : ChangeSpec := { name := "commitReads", fn := fun _ => fun
  | [d1, d2, d3] => { results := [.lit (.bool false)], args := [d1, d2, d3] }
  | _ => none }
def CommitReadsWrongFalsely : Prop := commitReadsRow.holds Try.pinned (OpenSpec.ofChange commitReadsWrong)

/-- 'longeronlaw12.CommitOpens': WHATEVER THE INPUT: true; the input reads as it did. -/
def commitOpensSpec : ChangeSpec := { name := "commitOpens", fn := fun _ => fun
  | [d1, d2, d3] => { results := [.lit (.bool true)], args := [d1, d2, d3] }
  | _ => none }
def commitOpensRow : OpenClaim := { program := "ytdmfgffjplbloaa", sum := "500eb320291f84c0e9567d944e27caa550b7f35ab888a7fc8823c6ff482fb49f", func := "longeron/longeronlaw12.CommitOpens", spec := "commitOpens", unfollowed := true, recurses := true, apart := false }
def CommitOpensSaid : Prop := commitOpensRow.holds Try.pinned (OpenSpec.ofChange commitOpensSpec)

/-- ITS FALSE NEIGHBOUR: 'it returns false'. Refute it at one input. -/
def commitOpensWrong : ChangeSpec := { name := "commitOpens", fn := fun _ => fun
  | [d1, d2, d3] => { results := [.lit (.bool false)], args := [d1, d2, d3] }
  | _ => none }
def CommitOpensWrongFalsely : Prop := commitOpensRow.holds Try.pinned (OpenSpec.ofChange commitOpensWrong)

/-- 'longeronlaw12.CommitRises': WHATEVER THE INPUT: true; the input reads as it did. -/
def commitRisesSpec : ChangeSpec := { name := "commitRises", fn := fun _ => fun
  | [d1, d2] => { results := [.lit (.bool true)], args := [d1, d2] }
  | _ => none }
def commitRisesRow : OpenClaim := { program := "ytdmfgffjplbloaa", sum := "500eb320291f84c0e9567d944e27caa550b7f35ab888a7fc8823c6ff482fb49f", func := "longeron/longeronlaw12.CommitRises", spec := "commitRises", unfollowed := true, recurses := true, apart := false }
def CommitRisesSaid : Prop := commitRisesRow.holds Try.pinned (OpenSpec.ofChange commitRisesSpec)

/-- ITS FALSE NEIGHBOUR: 'it returns false'. Refute it at one input. -/
def commitRisesWrong : ChangeSpec := { name := "commitRises", fn := fun _ => fun
  | [d1, d2] => { results := [.lit (.bool false)], args := [d1, d2] }
  | _ => none }
def CommitRisesWrongFalsely : Prop := commitRisesRow.holds Try.pinned (OpenSpec.ofChange commitRisesWrong)

/- THE SECOND FORM. 'bulk': how many values and letters a reading holds, each counted each time it is reached (what is shared counts as often as it is met; a slice's spare places count too). A statement '..UptoSaid' is the law's where the arguments, and the package variables that the reading takes, are together of bulk at most 1048576: NARROWER than '..Said'. Prove '..Said' where nothing that the law and all that it calls make is longer than what came in: it says more and counts as full. Else prove '..UptoSaid'. A law counts once. -/
mutual
def uptoBulk {H : Type} : DataW H → Nat
  | .lit (.string bytes) => bytes.length + 1
  | .lit _ => 1
  | .nil => 1
  | .ptr d => uptoBulk d + 1
  | .slice elems spare => uptoBulkAll elems + uptoBulkAll spare + 1
  | .agg parts => uptoBulkAll parts + 1
  | .iface _ d => uptoBulk d + 1
  | .map entries => uptoBulkEntries entries + 1
  | .held _ => 1
def uptoBulkAll {H : Type} : List (DataW H) → Nat
  | [] => 0
  | d :: r => uptoBulk d + uptoBulkAll r
def uptoBulkEntries {H : Type} : List (Lit × DataW H) → Nat
  | [] => 0
  | x :: r => uptoBulkEntry x + uptoBulkEntries r
def uptoBulkEntry {H : Type} : Lit × DataW H → Nat
  | (.string bytes, d) => bytes.length + uptoBulk d + 1
  | (_, d) => uptoBulk d + 1
 end
def uptoSmall : (H : Type) → List (DataW H) → Bool := fun _ ds => decide (uptoBulkAll ds ≤ 1048576)
def OpenSpec.upto (s : _root_.Go.ChangeSpec) : _root_.Go.OpenSpec := { _root_.Go.OpenSpec.ofChange s with cond := some uptoSmall }

/-- 'longeronlaw12.CommitActs', WHERE WHAT IT READS IS OF BULK AT MOST 1048576: true; the input reads as it did. -/
def commitActsUptoRow : OpenClaim := { program := "ytdmfgffjplbloaa", sum := "500eb320291f84c0e9567d944e27caa550b7f35ab888a7fc8823c6ff482fb49f", func := "longeron/longeronlaw12.CommitActs", spec := "commitActs", unfollowed := true, recurses := true, apart := false, narrowed := true }
def CommitActsUptoSaid : Prop := commitActsUptoRow.holds Try.pinned (OpenSpec.upto commitActsSpec)

/-- 'longeronlaw12.CommitReads', WHERE WHAT IT READS IS OF BULK AT MOST 1048576: true; the input reads as it did. -/
def commitReadsUptoRow : OpenClaim := { program := "ytdmfgffjplbloaa", sum := "500eb320291f84c0e9567d944e27caa550b7f35ab888a7fc8823c6ff482fb49f", func := "longeron/longeronlaw12.CommitReads", spec := "commitReads", unfollowed := true, recurses := true, apart := false, narrowed := true }
def CommitReadsUptoSaid : Prop := commitReadsUptoRow.holds Try.pinned (OpenSpec.upto commitReadsSpec)

/-- 'longeronlaw12.CommitOpens', WHERE WHAT IT READS IS OF BULK AT MOST 1048576: true; the input reads as it did. -/
def commitOpensUptoRow : OpenClaim := { program := "ytdmfgffjplbloaa", sum := "500eb320291f84c0e9567d944e27caa550b7f35ab888a7fc8823c6ff482fb49f", func := "longeron/longeronlaw12.CommitOpens", spec := "commitOpens", unfollowed := true, recurses := true, apart := false, narrowed := true }
def CommitOpensUptoSaid : Prop := commitOpensUptoRow.holds Try.pinned (OpenSpec.upto commitOpensSpec)

/-- 'longeronlaw12.CommitRises', WHERE WHAT IT READS IS OF BULK AT MOST 1048576: true; the input reads as it did. -/
def commitRisesUptoRow : OpenClaim := { program := "ytdmfgffjplbloaa", sum := "500eb320291f84c0e9567d944e27caa550b7f35ab888a7fc8823c6ff482fb49f", func := "longeron/longeronlaw12.CommitRises", spec := "commitRises", unfollowed := true, recurses := true, apart := false, narrowed := true }
def CommitRisesUptoSaid : Prop := commitRisesUptoRow.holds Try.pinned (OpenSpec.upto commitRisesSpec)

end Rows
end Go.Proofs.Ytdmfgffjplbloaa
