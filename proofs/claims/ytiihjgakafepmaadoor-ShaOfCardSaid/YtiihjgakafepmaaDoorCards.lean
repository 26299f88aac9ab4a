/-
  DERIVED. GIVEN WITH THE SEED: THE CARDS: each row of YtiihjgakafepmaaDoorRows.lean that lists a variable, with what it lists TIED to the program's text (the seventh form; the later family's looks); each row that meets fmt, with fmt's text TOLD by the authors' own Lean function (tested against real Go, not proved from fmt's source: count such statements apart). THE CARD IS WHAT COUNTS. Prove the row's statement (the work); the ties are given (YtiihjgakafepmaaDoorTie.lean); close each card by the builder's one call (the guide's Derived/Test/ToyasCard.lean, 'card_holds'). Laid BY PROGRAM, IN A SANDBOX (cutbox-door.mjs). By AI agents, Wed Nov 11 2026. No macro, syntax, notation, axiom, sorry.
-/
import Derived.Test.YtiihjgakafepmaaDoorRows
import GoSem.ClaimSeven
namespace Go.Proofs.YtiihjgakafepmaaDoor
namespace Rows

/-- THE TIED CARD OF 'longeronlaw03.ShaOf'. -/
def shaOfCard : Claim7 := { stood := { row := shaOfRow, standIns := [], harness := (true, "8d398aa9a9f965bf8723a9d7a7a2893bab6118e7a45ffcc440e2f149655d3864"), looks := false }, kinds := [], alts := [], laidByText := true, laidKinds := [.data], laidTests := true, laidLooks := .later }
def ShaOfCardSaid : Prop := Claim7.holds Tryd.pinned (.plain (OpenSpec.ofChange shaOfSpec)) shaOfCard

/-- THE SECOND FORM's CARD OF 'longeronlaw03.ShaOf'. -/
def shaOfUptoCard : Claim7 := { stood := { row := shaOfUptoRow, standIns := [], harness := (true, "8d398aa9a9f965bf8723a9d7a7a2893bab6118e7a45ffcc440e2f149655d3864"), looks := false }, kinds := [], alts := [], laidByText := true, laidKinds := [.data], laidTests := true, laidLooks := .later }
def ShaOfUptoCardSaid : Prop := Claim7.holds Tryd.pinned (.plain (OpenSpec.upto shaOfSpec)) shaOfUptoCard
end Rows
end Go.Proofs.YtiihjgakafepmaaDoor
