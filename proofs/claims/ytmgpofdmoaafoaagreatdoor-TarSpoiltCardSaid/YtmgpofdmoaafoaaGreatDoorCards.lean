/-
  DERIVED. GIVEN WITH THE SEED: THE CARDS: each row of YtmgpofdmoaafoaaGreatDoorRows.lean that lists a variable, with what it lists TIED to the program's text (the seventh form; the later family's looks); each row that meets fmt, with fmt's text TOLD by the authors' own Lean function (tested against real Go, not proved from fmt's source: count such statements apart). THE CARD IS WHAT COUNTS. Prove the row's statement (the work); the ties are given (YtmgpofdmoaafoaaGreatDoorTie.lean); close each card by the builder's one call (the guide's Derived/Test/ToyasCard.lean, 'card_holds'). Laid BY PROGRAM, IN A SANDBOX (cutbox-door.mjs). By AI agents, Wed Nov 11 2026. No macro, syntax, notation, axiom, sorry.
-/
import Derived.Test.YtmgpofdmoaafoaaGreatDoorRows
import GoSem.ClaimSeven
namespace Go.Proofs.YtmgpofdmoaafoaaGreatDoor
namespace Rows

/-- THE TIED CARD OF 'lighterlaw15.TarSpoilt'. -/
def tarSpoiltCard : Claim7 := { stood := { row := tarSpoiltRow, standIns := [], harness := (true, "89c24e94ec19522aab991054fd919ab4eb91ed3b732e7894d65bfb4407d7824f"), looks := false }, kinds := [], alts := [], laidByText := true, laidKinds := [.data, .data, .data, .data, .pinned], laidTests := true, laidLooks := .later }
def TarSpoiltCardSaid : Prop := Claim7.holds Tryz.pinned (.plain (OpenSpec.ofChange tarSpoiltSpec)) tarSpoiltCard

/-- THE SECOND FORM's CARD OF 'lighterlaw15.TarSpoilt'. -/
def tarSpoiltUptoCard : Claim7 := { stood := { row := tarSpoiltUptoRow, standIns := [], harness := (true, "89c24e94ec19522aab991054fd919ab4eb91ed3b732e7894d65bfb4407d7824f"), looks := false }, kinds := [], alts := [], laidByText := true, laidKinds := [.data, .data, .data, .data, .pinned], laidTests := true, laidLooks := .later }
def TarSpoiltUptoCardSaid : Prop := Claim7.holds Tryz.pinned (.plain (OpenSpec.upto tarSpoiltSpec)) tarSpoiltUptoCard
end Rows
end Go.Proofs.YtmgpofdmoaafoaaGreatDoor
