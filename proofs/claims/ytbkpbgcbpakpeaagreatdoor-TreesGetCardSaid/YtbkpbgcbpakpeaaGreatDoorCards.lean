/-
  DERIVED. GIVEN WITH THE SEED: THE CARDS: each row of YtbkpbgcbpakpeaaGreatDoorRows.lean that lists a variable, with what it lists TIED to the program's text (the seventh form; the later family's looks); each row that meets fmt, with fmt's text TOLD by the authors' own Lean function (tested against real Go, not proved from fmt's source: count such statements apart). THE CARD IS WHAT COUNTS. Prove the row's statement (the work); the ties are given (YtbkpbgcbpakpeaaGreatDoorTie.lean); close each card by the builder's one call (the guide's Derived/Test/ToyasCard.lean, 'card_holds'). Laid BY PROGRAM, IN A SANDBOX (cutbox-door.mjs). By AI agents, Wed Nov 11 2026. No macro, syntax, notation, axiom, sorry.
-/
import Derived.Test.YtbkpbgcbpakpeaaGreatDoorRows
import GoSem.ClaimSeven
namespace Go.Proofs.YtbkpbgcbpakpeaaGreatDoor
namespace Rows

/-- THE TIED CARD OF 'lighterlaw16.TreesTell'. -/
def treesTellCard : Claim7 := { stood := { row := treesTellRow, standIns := [], harness := (true, "5dc4afd18e1af76bbcd8c292fbeda4c2928a1099b4b16a46f8f0c924e061c8d7"), looks := false }, kinds := [], alts := [], laidByText := true, laidKinds := [.data, .pinned], laidTests := true, laidLooks := .later }
def TreesTellCardSaid : Prop := Claim7.holds Tryz.pinned (.plain (OpenSpec.ofChange treesTellSpec)) treesTellCard

/-- THE TIED CARD OF 'lighterlaw16.TreesGet'. -/
def treesGetCard : Claim7 := { stood := { row := treesGetRow, standIns := [], harness := (true, "5dc4afd18e1af76bbcd8c292fbeda4c2928a1099b4b16a46f8f0c924e061c8d7"), looks := false }, kinds := [], alts := [], laidByText := true, laidKinds := [.data, .pinned], laidTests := true, laidLooks := .later }
def TreesGetCardSaid : Prop := Claim7.holds Tryz.pinned (.plain (OpenSpec.ofChange treesGetSpec)) treesGetCard

/-- THE SECOND FORM's CARD OF 'lighterlaw16.TreesTell'. -/
def treesTellUptoCard : Claim7 := { stood := { row := treesTellUptoRow, standIns := [], harness := (true, "5dc4afd18e1af76bbcd8c292fbeda4c2928a1099b4b16a46f8f0c924e061c8d7"), looks := false }, kinds := [], alts := [], laidByText := true, laidKinds := [.data, .pinned], laidTests := true, laidLooks := .later }
def TreesTellUptoCardSaid : Prop := Claim7.holds Tryz.pinned (.plain (OpenSpec.upto treesTellSpec)) treesTellUptoCard

/-- THE SECOND FORM's CARD OF 'lighterlaw16.TreesGet'. -/
def treesGetUptoCard : Claim7 := { stood := { row := treesGetUptoRow, standIns := [], harness := (true, "5dc4afd18e1af76bbcd8c292fbeda4c2928a1099b4b16a46f8f0c924e061c8d7"), looks := false }, kinds := [], alts := [], laidByText := true, laidKinds := [.data, .pinned], laidTests := true, laidLooks := .later }
def TreesGetUptoCardSaid : Prop := Claim7.holds Tryz.pinned (.plain (OpenSpec.upto treesGetSpec)) treesGetUptoCard
end Rows
end Go.Proofs.YtbkpbgcbpakpeaaGreatDoor
