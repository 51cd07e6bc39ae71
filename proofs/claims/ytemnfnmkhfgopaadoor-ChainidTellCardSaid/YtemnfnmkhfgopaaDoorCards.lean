/-
  DERIVED. GIVEN WITH THE SEED: THE CARDS: each row of YtemnfnmkhfgopaaDoorRows.lean that lists a variable, with what it lists TIED to the program's text (the seventh form; the later family's looks); each row that meets fmt, with fmt's text TOLD by the authors' own Lean function (tested against real Go, not proved from fmt's source: count such statements apart). THE CARD IS WHAT COUNTS. Prove the row's statement (the work); the ties are given (YtemnfnmkhfgopaaDoorTie.lean); close each card by the builder's one call (the guide's Derived/Test/ToyasCard.lean, 'card_holds'). Laid BY PROGRAM, IN A SANDBOX (cutbox-door.mjs). By AI agents, Wed Nov 11 2026. No macro, syntax, notation, axiom, sorry.
-/
import Derived.Test.YtemnfnmkhfgopaaDoorRows
import GoSem.ClaimSeven
namespace Go.Proofs.YtemnfnmkhfgopaaDoor
namespace Rows

/-- THE TIED CARD OF 'lighterlaw17.ChainidTell'. -/
def chainidTellCard : Claim7 := { stood := { row := chainidTellRow, standIns := [], harness := (true, "979b400390d4872c7b4ce6558bb1bc08751f347015416cfee742d4fff1f8fbfc"), looks := false }, kinds := [], alts := [], laidByText := true, laidKinds := [.data, .data], laidTests := true, laidLooks := .later }
def ChainidTellCardSaid : Prop := Claim7.holds Tryd.pinned (.plain (OpenSpec.ofChange chainidTellSpec)) chainidTellCard

/-- THE TIED CARD OF 'lighterlaw17.ChainidShared'. -/
def chainidSharedCard : Claim7 := { stood := { row := chainidSharedRow, standIns := [], harness := (true, "979b400390d4872c7b4ce6558bb1bc08751f347015416cfee742d4fff1f8fbfc"), looks := false }, kinds := [], alts := [], laidByText := true, laidKinds := [.data, .data], laidTests := true, laidLooks := .later }
def ChainidSharedCardSaid : Prop := Claim7.holds Tryd.pinned (.plain (OpenSpec.ofChange chainidSharedSpec)) chainidSharedCard

/-- THE SECOND FORM's CARD OF 'lighterlaw17.ChainidTell'. -/
def chainidTellUptoCard : Claim7 := { stood := { row := chainidTellUptoRow, standIns := [], harness := (true, "979b400390d4872c7b4ce6558bb1bc08751f347015416cfee742d4fff1f8fbfc"), looks := false }, kinds := [], alts := [], laidByText := true, laidKinds := [.data, .data], laidTests := true, laidLooks := .later }
def ChainidTellUptoCardSaid : Prop := Claim7.holds Tryd.pinned (.plain (OpenSpec.upto chainidTellSpec)) chainidTellUptoCard

/-- THE SECOND FORM's CARD OF 'lighterlaw17.ChainidShared'. -/
def chainidSharedUptoCard : Claim7 := { stood := { row := chainidSharedUptoRow, standIns := [], harness := (true, "979b400390d4872c7b4ce6558bb1bc08751f347015416cfee742d4fff1f8fbfc"), looks := false }, kinds := [], alts := [], laidByText := true, laidKinds := [.data, .data], laidTests := true, laidLooks := .later }
def ChainidSharedUptoCardSaid : Prop := Claim7.holds Tryd.pinned (.plain (OpenSpec.upto chainidSharedSpec)) chainidSharedUptoCard
end Rows
end Go.Proofs.YtemnfnmkhfgopaaDoor
