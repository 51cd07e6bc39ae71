/-
  DERIVED. GIVEN WITH THE SEED: THE CARDS: each row of YtdckfbppgenjkaaDoorRows.lean that lists a variable, with what it lists TIED to the program's text (the seventh form; the later family's looks); each row that meets fmt, with fmt's text TOLD by the authors' own Lean function (tested against real Go, not proved from fmt's source: count such statements apart). THE CARD IS WHAT COUNTS. Prove the row's statement (the work); the ties are given (YtdckfbppgenjkaaDoorTie.lean); close each card by the builder's one call (the guide's Derived/Test/ToyasCard.lean, 'card_holds'). Laid BY PROGRAM, IN A SANDBOX (cutbox-door.mjs). By AI agents, Wed Nov 11 2026. No macro, syntax, notation, axiom, sorry.
-/
import Derived.Test.YtdckfbppgenjkaaDoorRows
import GoSem.ClaimSeven
namespace Go.Proofs.YtdckfbppgenjkaaDoor
namespace Rows

/-- THE TIED CARD OF 'lighterlaw15.TarBack'. -/
def tarBackCard : Claim7 := { stood := { row := tarBackRow, standIns := [], harness := (true, "f82a86d4f9166b1740a00e5db9c4e5ba0c8ac296a676e517cea532b35383093e"), looks := false }, kinds := [], alts := [], laidByText := true, laidKinds := [.data, .data, .data, .data, .pinned], laidTests := true, laidLooks := .later }
def TarBackCardSaid : Prop := Claim7.holds Tryd.pinned (.plain (OpenSpec.ofChange tarBackSpec)) tarBackCard

/-- THE TIED CARD OF 'lighterlaw15.TarSum'. -/
def tarSumCard : Claim7 := { stood := { row := tarSumRow, standIns := [], harness := (true, "f82a86d4f9166b1740a00e5db9c4e5ba0c8ac296a676e517cea532b35383093e"), looks := false }, kinds := [], alts := [], laidByText := true, laidKinds := [.data, .data, .data, .data, .pinned], laidTests := true, laidLooks := .later }
def TarSumCardSaid : Prop := Claim7.holds Tryd.pinned (.plain (OpenSpec.ofChange tarSumSpec)) tarSumCard

/-- THE TIED CARD OF 'lighterlaw15.TarParts'. -/
def tarPartsCard : Claim7 := { stood := { row := tarPartsRow, standIns := [], harness := (true, "f82a86d4f9166b1740a00e5db9c4e5ba0c8ac296a676e517cea532b35383093e"), looks := false }, kinds := [], alts := [], laidByText := true, laidKinds := [.data, .data, .data, .data, .pinned], laidTests := true, laidLooks := .later }
def TarPartsCardSaid : Prop := Claim7.holds Tryd.pinned (.plain (OpenSpec.ofChange tarPartsSpec)) tarPartsCard

/-- THE SECOND FORM's CARD OF 'lighterlaw15.TarBack'. -/
def tarBackUptoCard : Claim7 := { stood := { row := tarBackUptoRow, standIns := [], harness := (true, "f82a86d4f9166b1740a00e5db9c4e5ba0c8ac296a676e517cea532b35383093e"), looks := false }, kinds := [], alts := [], laidByText := true, laidKinds := [.data, .data, .data, .data, .pinned], laidTests := true, laidLooks := .later }
def TarBackUptoCardSaid : Prop := Claim7.holds Tryd.pinned (.plain (OpenSpec.upto tarBackSpec)) tarBackUptoCard

/-- THE SECOND FORM's CARD OF 'lighterlaw15.TarSum'. -/
def tarSumUptoCard : Claim7 := { stood := { row := tarSumUptoRow, standIns := [], harness := (true, "f82a86d4f9166b1740a00e5db9c4e5ba0c8ac296a676e517cea532b35383093e"), looks := false }, kinds := [], alts := [], laidByText := true, laidKinds := [.data, .data, .data, .data, .pinned], laidTests := true, laidLooks := .later }
def TarSumUptoCardSaid : Prop := Claim7.holds Tryd.pinned (.plain (OpenSpec.upto tarSumSpec)) tarSumUptoCard

/-- THE SECOND FORM's CARD OF 'lighterlaw15.TarParts'. -/
def tarPartsUptoCard : Claim7 := { stood := { row := tarPartsUptoRow, standIns := [], harness := (true, "f82a86d4f9166b1740a00e5db9c4e5ba0c8ac296a676e517cea532b35383093e"), looks := false }, kinds := [], alts := [], laidByText := true, laidKinds := [.data, .data, .data, .data, .pinned], laidTests := true, laidLooks := .later }
def TarPartsUptoCardSaid : Prop := Claim7.holds Tryd.pinned (.plain (OpenSpec.upto tarPartsSpec)) tarPartsUptoCard
end Rows
end Go.Proofs.YtdckfbppgenjkaaDoor
