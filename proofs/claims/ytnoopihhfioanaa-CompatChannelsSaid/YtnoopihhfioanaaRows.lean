/-
  No cell of these rows narrows 'for every input' (looked for: loops, veiled, ifaces, maps, wideKeys, modest, calm, conditions, laid).
  DERIVED. THE GIVEN ROWS OF THIS SEAT. 4 by the template 'for every input the law returns true; each argument reads behind the call as it read before'; 0 by the template 'total and deterministic' (their statements: YtnoopihhfioanaaTotals.lean).
  GIVEN WITH THE SEED: the statements are not yours to turn. If you find one false, say at which input.
  Laid BY PROGRAM, IN A SANDBOX (cutbox-rows.mjs): the forced cells as the released guide's own fill.sh prints them over the translation 33711e847efb5e6b… (all of the seat's roots in one cut). By AI agents, Wed Nov 11 2026. No macro, syntax, notation, axiom, sorry.
-/
import Derived.Test.YtnoopihhfioanaaChecked
import GoSem.Claim
import GoSem.ClaimJoined
import GoSem.ClaimMapViews
import Derived.JoinedTies
import Derived.KernelRfl
namespace Go.Proofs.Ytnoopihhfioanaa
/- THE CELL 'sum', in the pinned program and in every row, IS THE sha256 OF THE DUMP (.gsa) THAT YtnoopihhfioanaaProg.lean LOADS. Nothing in Lean hashes anything: it is a label: what it is worth is what the hold of that sum in a sandbox is worth. -/
noncomputable def Try.pinned : Pinned := { name := "ytnoopihhfioanaa", sum := "33711e847efb5e6ba7f6b325cccde9d6ef8e707df29893fc85c933ff34af3e43", checked := Try.checked }
namespace Rows
def none {H : Type} : Left H := { results := [], args := [] }

/-- 'longeronlaw13.CompatChecks': WHATEVER THE INPUT: true; the input reads as it did. -/
def compatChecksSpec : ChangeSpec := { name := "compatChecks", fn := fun _ => fun
  | [d1, d2, d3] => { results := [.lit (.bool true)], args := [d1, d2, d3] }
  | _ => none }
def compatChecksRow : OpenClaim := { program := "ytnoopihhfioanaa", sum := "33711e847efb5e6ba7f6b325cccde9d6ef8e707df29893fc85c933ff34af3e43", func := "longeron/longeronlaw13.CompatChecks", spec := "compatChecks", unfollowed := true, recurses := true, apart := false }
def CompatChecksSaid : Prop := compatChecksRow.holds Try.pinned (OpenSpec.ofChange compatChecksSpec)

/-- ITS FALSE NEIGHBOUR: 'it returns false'. Refute it at one input. -/
def compatChecksWrong : ChangeSpec := { name := "compatChecks", fn := fun _ => fun
  | [d1, d2, d3] => { results := [.lit (.bool false)], args := [d1, d2, d3] }
  | _ => none }
def CompatChecksWrongFalsely : Prop := compatChecksRow.holds Try.pinned (OpenSpec.ofChange compatChecksWrong)

/-- 'longeronlaw13.CompatChannels': WHATEVER THE INPUT: true; the input reads as it did. -/
def compatChannelsSpec : ChangeSpec := { name := "compatChannels", fn := fun _ => fun
  | [d1, d2] => { results := [.lit (.bool true)], args := [d1, d2] }
  | _ => none }
def compatChannelsRow : OpenClaim := { program := "ytnoopihhfioanaa", sum := "33711e847efb5e6ba7f6b325cccde9d6ef8e707df29893fc85c933ff34af3e43", func := "longeron/longeronlaw13.CompatChannels", spec := "compatChannels", unfollowed := true, recurses := true, apart := false }
def CompatChannelsSaid : Prop := compatChannelsRow.holds Try.pinned (OpenSpec.ofChange compatChannelsSpec)

/-- ITS FALSE NEIGHBOUR: 'it returns false'. Refute it at one input. -/
def compatChannelsWrong : ChangeSpec := { name := "compatChannels", fn := fun _ => fun
  | [d1, d2] => { results := [.lit (.bool false)], args := [d1, d2] }
  | _ => none }
def CompatChannelsWrongFalsely : Prop := compatChannelsRow.holds Try.pinned (OpenSpec.ofChange compatChannelsWrong)

/-- 'longeronlaw13.CompatNewer': WHATEVER THE INPUT: true; the input reads as it did. -/
def compatNewerSpec : ChangeSpec := { name := "compatNewer", fn := fun _ => fun
  | [d1, d2, d3] => { results := [.lit (.bool true)], args := [d1, d2, d3] }
  | _ => none }
def compatNewerRow : OpenClaim := { program := "ytnoopihhfioanaa", sum := "33711e847efb5e6ba7f6b325cccde9d6ef8e707df29893fc85c933ff34af3e43", func := "longeron/longeronlaw13.CompatNewer", spec := "compatNewer", unfollowed := true, recurses := true, apart := false }
def CompatNewerSaid : Prop := compatNewerRow.holds Try.pinned (OpenSpec.ofChange compatNewerSpec)

/-- ITS FALSE NEIGHBOUR: 'it returns false'. Refute it at one input. -/
def compatNewerWrong : ChangeSpec := { name := "compatNewer", fn := fun _ => fun
  | [d1, d2, d3] => { results := [.lit (.bool false)], args := [d1, d2, d3] }
  | _ => none }
def CompatNewerWrongFalsely : Prop := compatNewerRow.holds Try.pinned (OpenSpec.ofChange compatNewerWrong)

/-- 'longeronlaw13.CompatWider': WHATEVER THE INPUT: true; the input reads as it did. -/
def compatWiderSpec : ChangeSpec := { name := "compatWider", fn := fun _ => fun
  | [d1, d2, d3] => { results := [.lit (.bool true)], args := [d1, d2, d3] }
  | _ => none }
def compatWiderRow : OpenClaim := { program := "ytnoopihhfioanaa", sum := "33711e847efb5e6ba7f6b325cccde9d6ef8e707df29893fc85c933ff34af3e43", func := "longeron/longeronlaw13.CompatWider", spec := "compatWider", unfollowed := true, recurses := true, apart := false }
def CompatWiderSaid : Prop := compatWiderRow.holds Try.pinned (OpenSpec.ofChange compatWiderSpec)

/-- ITS FALSE NEIGHBOUR: 'it returns false'. Refute it at one input. -/
def compatWiderWrong : ChangeSpec := { name := "compatWider", fn := fun _ => fun
  | [d1, d2, d3] => { results := [.lit (.bool false)], args := [d1, d2, d3] }
  | _ => none }
def CompatWiderWrongFalsely : Prop := compatWiderRow.holds Try.pinned (OpenSpec.ofChange compatWiderWrong)

/- THE SECOND FORM. 'bulk': how many values and letters a reading holds, each counted each time it is reached (what is shared counts as often as it is met; a slice's spare places count too). A statement '..UptoSaid' is the law's where the arguments, and the package variables that the reading takes, are together of bulk at most 1048576: NARROWER than '..Said'. Prove '..Said' where nothing that the law and all that it calls make is longer than what came in: it says more and counts as full. Else prove '..UptoSaid'. A law counts once. -/
mutual
def uptoBulk {H : Type} : DataW H → Nat
  | .lit (.string bytes) => bytes.length + 1
  | .lit _ => 1
  | .nil => 1
  | .ptr d => uptoBulk d + 1
  | .slice elems spare => uptoBulkAll elems + uptoBulkAll spare + 1
  | .agg parts => uptoBulkAll parts + 1
  | .iface _ d => uptoBulk d + 1
  | .map entries => uptoBulkEntries entries + 1
  | .held _ => 1
def uptoBulkAll {H : Type} : List (DataW H) → Nat
  | [] => 0
  | d :: r => uptoBulk d + uptoBulkAll r
def uptoBulkEntries {H : Type} : List (Lit × DataW H) → Nat
  | [] => 0
  | x :: r => uptoBulkEntry x + uptoBulkEntries r
def uptoBulkEntry {H : Type} : Lit × DataW H → Nat
  | (.string bytes, d) => bytes.length + uptoBulk d + 1
  | (_, d) => uptoBulk d + 1
 end
def uptoSmall : (H : Type) → List (DataW H) → Bool := fun _ ds => decide (uptoBulkAll ds ≤ 1048576)
def OpenSpec.upto (s : _root_.Go.ChangeSpec) : _root_.Go.OpenSpec := { _root_.Go.OpenSpec.ofChange s with cond := some uptoSmall }

/-- 'longeronlaw13.CompatChecks', WHERE WHAT IT READS IS OF BULK AT MOST 1048576: true; the input reads as it did. -/
def compatChecksUptoRow : OpenClaim := { program := "ytnoopihhfioanaa", sum := "33711e847efb5e6ba7f6b325cccde9d6ef8e707df29893fc85c933ff34af3e43", func := "longeron/longeronlaw13.CompatChecks", spec := "compatChecks", unfollowed := true, recurses := true, apart := false, narrowed := true }
def CompatChecksUptoSaid : Prop := compatChecksUptoRow.holds Try.pinned (OpenSpec.upto compatChecksSpec)

/-- 'longeronlaw13.CompatChannels', WHERE WHAT IT READS IS OF BULK AT MOST 1048576: true; the input reads as it did. -/
def compatChannelsUptoRow : OpenClaim := { program := "ytnoopihhfioanaa", sum := "33711e847efb5e6ba7f6b325cccde9d6ef8e707df29893fc85c933ff34af3e43", func := "longeron/longeronlaw13.CompatChannels", spec := "compatChannels", unfollowed := true, recurses := true, apart := false, narrowed := true }
def CompatChannelsUptoSaid : Prop := compatChannelsUptoRow.holds Try.pinned (OpenSpec.upto compatChannelsSpec)

/-- 'longeronlaw13.CompatNewer', WHERE WHAT IT READS IS OF BULK AT MOST 1048576: true; the input reads as it did. -/
def compatNewerUptoRow : OpenClaim := { program := "ytnoopihhfioanaa", sum := "33711e847efb5e6ba7f6b325cccde9d6ef8e707df29893fc85c933ff34af3e43", func := "longeron/longeronlaw13.CompatNewer", spec := "compatNewer", unfollowed := true, recurses := true, apart := false, narrowed := true }
def CompatNewerUptoSaid : Prop := compatNewerUptoRow.holds Try.pinned (OpenSpec.upto compatNewerSpec)

/-- 'longeronlaw13.CompatWider', WHERE WHAT IT READS IS OF BULK AT MOST 1048576: true; the input reads as it did. -/
def compatWiderUptoRow : OpenClaim := { program := "ytnoopihhfioanaa", sum := "33711e847efb5e6ba7f6b325cccde9d6ef8e707df29893fc85c933ff34af3e43", func := "longeron/longeronlaw13.CompatWider", spec := "compatWider", unfollowed := true, recurses := true, apart := false, narrowed := true }
def CompatWiderUptoSaid : Prop := compatWiderUptoRow.holds Try.pinned (OpenSpec.upto compatWiderSpec)

end Rows
end Go.Proofs.Ytnoopihhfioanaa
