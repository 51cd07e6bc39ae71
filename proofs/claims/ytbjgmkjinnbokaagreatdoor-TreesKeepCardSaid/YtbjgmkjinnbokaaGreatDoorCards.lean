/-
  DERIVED. GIVEN WITH THE SEED: THE CARDS: each row of YtbjgmkjinnbokaaGreatDoorRows.lean that lists a variable, with what it lists TIED to the program's text (the seventh form; the later family's looks); each row that meets fmt, with fmt's text TOLD by the authors' own Lean function (tested against real Go, not proved from fmt's source: count such statements apart). THE CARD IS WHAT COUNTS. Prove the row's statement (the work); the ties are given (YtbjgmkjinnbokaaGreatDoorTie.lean); close each card by the builder's one call (the guide's Derived/Test/ToyasCard.lean, 'card_holds'). Laid BY PROGRAM, IN A SANDBOX (cutbox-door.mjs). By AI agents, Wed Nov 11 2026. No macro, syntax, notation, axiom, sorry.
-/
import Derived.Test.YtbjgmkjinnbokaaGreatDoorRows
import GoSem.ClaimSeven
namespace Go.Proofs.YtbjgmkjinnbokaaGreatDoor
namespace Rows

/-- THE TIED CARD OF 'lighterlaw16.TreesKeep'. -/
def treesKeepCard : Claim7 := { stood := { row := treesKeepRow, standIns := [], harness := (true, "c5af9b6f2d7d53f7d57958c077b81c95d663e708cdd0d2c57a495e4d7d7ce633"), looks := false }, kinds := [], alts := [], laidByText := true, laidKinds := [.data, .pinned], laidTests := true, laidLooks := .later }
def TreesKeepCardSaid : Prop := Claim7.holds Tryz.pinned (.plain (OpenSpec.ofChange treesKeepSpec)) treesKeepCard

/-- THE SECOND FORM's CARD OF 'lighterlaw16.TreesKeep'. -/
def treesKeepUptoCard : Claim7 := { stood := { row := treesKeepUptoRow, standIns := [], harness := (true, "c5af9b6f2d7d53f7d57958c077b81c95d663e708cdd0d2c57a495e4d7d7ce633"), looks := false }, kinds := [], alts := [], laidByText := true, laidKinds := [.data, .pinned], laidTests := true, laidLooks := .later }
def TreesKeepUptoCardSaid : Prop := Claim7.holds Tryz.pinned (.plain (OpenSpec.upto treesKeepSpec)) treesKeepUptoCard
end Rows
end Go.Proofs.YtbjgmkjinnbokaaGreatDoor
