/-
  DERIVED. GIVEN WITH THE SEED: THE CARDS: each row of YtlghojnlnfkdhaaDoorRows.lean that lists a variable, with what it lists TIED to the program's text (the seventh form; the later family's looks); each row that meets fmt, with fmt's text TOLD by the authors' own Lean function (tested against real Go, not proved from fmt's source: count such statements apart). THE CARD IS WHAT COUNTS. Prove the row's statement (the work); the ties are given (YtlghojnlnfkdhaaDoorTie.lean); close each card by the builder's one call (the guide's Derived/Test/ToyasCard.lean, 'card_holds'). Laid BY PROGRAM, IN A SANDBOX (cutbox-door.mjs). By AI agents, Wed Nov 11 2026. No macro, syntax, notation, axiom, sorry.
-/
import Derived.Test.YtlghojnlnfkdhaaDoorRows
import GoSem.ClaimSeven
namespace Go.Proofs.YtlghojnlnfkdhaaDoor
namespace Rows

/-- THE TIED CARD OF 'longeronlaw06.ImagePuts'. -/
def imagePutsCard : Claim7 := { stood := { row := imagePutsRow, standIns := [], harness := (true, "87fc8a55b3682fea5a7ba2f68249f45ba97f8f0fbd0473f97431e5f5e6d58f80"), looks := false }, kinds := [], alts := [], laidByText := true, laidKinds := [.data], laidTests := true, laidLooks := .later }
def ImagePutsCardSaid : Prop := Claim7.holds Tryd.pinned (.plain (OpenSpec.ofChange imagePutsSpec)) imagePutsCard

/-- THE TIED CARD OF 'longeronlaw06.ImageTurned'. -/
def imageTurnedCard : Claim7 := { stood := { row := imageTurnedRow, standIns := [], harness := (true, "87fc8a55b3682fea5a7ba2f68249f45ba97f8f0fbd0473f97431e5f5e6d58f80"), looks := false }, kinds := [], alts := [], laidByText := true, laidKinds := [.data], laidTests := true, laidLooks := .later }
def ImageTurnedCardSaid : Prop := Claim7.holds Tryd.pinned (.plain (OpenSpec.ofChange imageTurnedSpec)) imageTurnedCard

/-- THE TIED CARD OF 'longeronlaw06.ImageSame'. -/
def imageSameCard : Claim7 := { stood := { row := imageSameRow, standIns := [], harness := (true, "87fc8a55b3682fea5a7ba2f68249f45ba97f8f0fbd0473f97431e5f5e6d58f80"), looks := false }, kinds := [], alts := [], laidByText := true, laidKinds := [.data], laidTests := true, laidLooks := .later }
def ImageSameCardSaid : Prop := Claim7.holds Tryd.pinned (.plain (OpenSpec.ofChange imageSameSpec)) imageSameCard

/-- THE TIED CARD OF 'longeronlaw06.ImageSize'. -/
def imageSizeCard : Claim7 := { stood := { row := imageSizeRow, standIns := [], harness := (true, "87fc8a55b3682fea5a7ba2f68249f45ba97f8f0fbd0473f97431e5f5e6d58f80"), looks := false }, kinds := [], alts := [], laidByText := true, laidKinds := [.data], laidTests := true, laidLooks := .later }
def ImageSizeCardSaid : Prop := Claim7.holds Tryd.pinned (.plain (OpenSpec.ofChange imageSizeSpec)) imageSizeCard

/-- THE SECOND FORM's CARD OF 'longeronlaw06.ImagePuts'. -/
def imagePutsUptoCard : Claim7 := { stood := { row := imagePutsUptoRow, standIns := [], harness := (true, "87fc8a55b3682fea5a7ba2f68249f45ba97f8f0fbd0473f97431e5f5e6d58f80"), looks := false }, kinds := [], alts := [], laidByText := true, laidKinds := [.data], laidTests := true, laidLooks := .later }
def ImagePutsUptoCardSaid : Prop := Claim7.holds Tryd.pinned (.plain (OpenSpec.upto imagePutsSpec)) imagePutsUptoCard

/-- THE SECOND FORM's CARD OF 'longeronlaw06.ImageTurned'. -/
def imageTurnedUptoCard : Claim7 := { stood := { row := imageTurnedUptoRow, standIns := [], harness := (true, "87fc8a55b3682fea5a7ba2f68249f45ba97f8f0fbd0473f97431e5f5e6d58f80"), looks := false }, kinds := [], alts := [], laidByText := true, laidKinds := [.data], laidTests := true, laidLooks := .later }
def ImageTurnedUptoCardSaid : Prop := Claim7.holds Tryd.pinned (.plain (OpenSpec.upto imageTurnedSpec)) imageTurnedUptoCard

/-- THE SECOND FORM's CARD OF 'longeronlaw06.ImageSame'. -/
def imageSameUptoCard : Claim7 := { stood := { row := imageSameUptoRow, standIns := [], harness := (true, "87fc8a55b3682fea5a7ba2f68249f45ba97f8f0fbd0473f97431e5f5e6d58f80"), looks := false }, kinds := [], alts := [], laidByText := true, laidKinds := [.data], laidTests := true, laidLooks := .later }
def ImageSameUptoCardSaid : Prop := Claim7.holds Tryd.pinned (.plain (OpenSpec.upto imageSameSpec)) imageSameUptoCard

/-- THE SECOND FORM's CARD OF 'longeronlaw06.ImageSize'. -/
def imageSizeUptoCard : Claim7 := { stood := { row := imageSizeUptoRow, standIns := [], harness := (true, "87fc8a55b3682fea5a7ba2f68249f45ba97f8f0fbd0473f97431e5f5e6d58f80"), looks := false }, kinds := [], alts := [], laidByText := true, laidKinds := [.data], laidTests := true, laidLooks := .later }
def ImageSizeUptoCardSaid : Prop := Claim7.holds Tryd.pinned (.plain (OpenSpec.upto imageSizeSpec)) imageSizeUptoCard
end Rows
end Go.Proofs.YtlghojnlnfkdhaaDoor
