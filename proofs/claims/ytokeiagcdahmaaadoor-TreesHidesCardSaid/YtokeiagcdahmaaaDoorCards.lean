/-
  DERIVED. GIVEN WITH THE SEED: THE CARDS: each row of YtokeiagcdahmaaaDoorRows.lean that lists a variable, with what it lists TIED to the program's text (the seventh form; the later family's looks); each row that meets fmt, with fmt's text TOLD by the authors' own Lean function (tested against real Go, not proved from fmt's source: count such statements apart). THE CARD IS WHAT COUNTS. Prove the row's statement (the work); the ties are given (YtokeiagcdahmaaaDoorTie.lean); close each card by the builder's one call (the guide's Derived/Test/ToyasCard.lean, 'card_holds'). Laid BY PROGRAM, IN A SANDBOX (cutbox-door.mjs). By AI agents, Wed Nov 11 2026. No macro, syntax, notation, axiom, sorry.
-/
import Derived.Test.YtokeiagcdahmaaaDoorRows
import GoSem.ClaimSeven
namespace Go.Proofs.YtokeiagcdahmaaaDoor
namespace Rows

/-- THE TIED CARD OF 'lighterlaw16.TreesHides'. -/
def treesHidesCard : Claim7 := { stood := { row := treesHidesRow, standIns := [], harness := (true, "a989315b9081e886cd4a3d0a33911663afb893949077af674e95c6c5e585172e"), looks := false }, kinds := [], alts := [], laidByText := true, laidKinds := [.data, .pinned], laidTests := true, laidLooks := .later }
def TreesHidesCardSaid : Prop := Claim7.holds Tryd.pinned (.plain (OpenSpec.ofChange treesHidesSpec)) treesHidesCard

/-- THE SECOND FORM's CARD OF 'lighterlaw16.TreesHides'. -/
def treesHidesUptoCard : Claim7 := { stood := { row := treesHidesUptoRow, standIns := [], harness := (true, "a989315b9081e886cd4a3d0a33911663afb893949077af674e95c6c5e585172e"), looks := false }, kinds := [], alts := [], laidByText := true, laidKinds := [.data, .pinned], laidTests := true, laidLooks := .later }
def TreesHidesUptoCardSaid : Prop := Claim7.holds Tryd.pinned (.plain (OpenSpec.upto treesHidesSpec)) treesHidesUptoCard
end Rows
end Go.Proofs.YtokeiagcdahmaaaDoor
