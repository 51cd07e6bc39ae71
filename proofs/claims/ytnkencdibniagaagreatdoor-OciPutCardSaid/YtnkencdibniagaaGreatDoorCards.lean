/-
  DERIVED. GIVEN WITH THE SEED: THE CARDS: each row of YtnkencdibniagaaGreatDoorRows.lean that lists a variable, with what it lists TIED to the program's text (the seventh form; the later family's looks); each row that meets fmt, with fmt's text TOLD by the authors' own Lean function (tested against real Go, not proved from fmt's source: count such statements apart). THE CARD IS WHAT COUNTS. Prove the row's statement (the work); the ties are given (YtnkencdibniagaaGreatDoorTie.lean); close each card by the builder's one call (the guide's Derived/Test/ToyasCard.lean, 'card_holds'). Laid BY PROGRAM, IN A SANDBOX (cutbox-door.mjs). By AI agents, Wed Nov 11 2026. No macro, syntax, notation, axiom, sorry.
-/
import Derived.Test.YtnkencdibniagaaGreatDoorRows
import GoSem.ClaimSeven
namespace Go.Proofs.YtnkencdibniagaaGreatDoor
namespace Rows

/-- THE TIED CARD OF 'lighterlaw13.OciRead'. -/
def ociReadCard : Claim7 := { stood := { row := ociReadRow, standIns := [], harness := (true, "c30b8706a5e0536fad95884747fc1527d9ba91a4afd318e9ade062ef62c4d628"), looks := true }, kinds := [], alts := [], laidByText := true, laidKinds := [.data, .data, .data, .data, .handle, .sentinel, .sentinel, .data, .pinned], laidTests := true, laidLooks := .later }
def OciReadCardSaid : Prop := Claim7.holds Tryz.pinned (.plain (OpenSpec.ofChange ociReadSpec)) ociReadCard

/-- THE TIED CARD OF 'lighterlaw13.OciPut'. -/
def ociPutCard : Claim7 := { stood := { row := ociPutRow, standIns := [], harness := (true, "c30b8706a5e0536fad95884747fc1527d9ba91a4afd318e9ade062ef62c4d628"), looks := true }, kinds := [], alts := [], laidByText := true, laidKinds := [.data, .data, .data, .data, .handle, .sentinel, .sentinel, .data, .pinned], laidTests := true, laidLooks := .later }
def OciPutCardSaid : Prop := Claim7.holds Tryz.pinned (.plain (OpenSpec.ofChange ociPutSpec)) ociPutCard

/-- THE TIED CARD OF 'lighterlaw13.OciKind'. -/
def ociKindCard : Claim7 := { stood := { row := ociKindRow, standIns := [], harness := (true, "c30b8706a5e0536fad95884747fc1527d9ba91a4afd318e9ade062ef62c4d628"), looks := true }, kinds := [], alts := [], laidByText := true, laidKinds := [.data, .data, .data, .data, .handle, .sentinel, .sentinel, .data, .pinned], laidTests := true, laidLooks := .later }
def OciKindCardSaid : Prop := Claim7.holds Tryz.pinned (.plain (OpenSpec.ofChange ociKindSpec)) ociKindCard

/-- THE TIED CARD OF 'lighterlaw13.OciBack'. -/
def ociBackCard : Claim7 := { stood := { row := ociBackRow, standIns := [], harness := (true, "c30b8706a5e0536fad95884747fc1527d9ba91a4afd318e9ade062ef62c4d628"), looks := true }, kinds := [], alts := [], laidByText := true, laidKinds := [.data, .data, .data, .data, .handle, .sentinel, .sentinel, .data, .pinned], laidTests := true, laidLooks := .later }
def OciBackCardSaid : Prop := Claim7.holds Tryz.pinned (.plain (OpenSpec.ofChange ociBackSpec)) ociBackCard

/-- THE TIED CARD OF 'lighterlaw13.OciOrder'. -/
def ociOrderCard : Claim7 := { stood := { row := ociOrderRow, standIns := [], harness := (true, "c30b8706a5e0536fad95884747fc1527d9ba91a4afd318e9ade062ef62c4d628"), looks := true }, kinds := [], alts := [], laidByText := true, laidKinds := [.data, .data, .data, .data, .handle, .sentinel, .sentinel, .data, .pinned], laidTests := true, laidLooks := .later }
def OciOrderCardSaid : Prop := Claim7.holds Tryz.pinned (.plain (OpenSpec.ofChange ociOrderSpec)) ociOrderCard

/-- THE SECOND FORM's CARD OF 'lighterlaw13.OciRead'. -/
def ociReadUptoCard : Claim7 := { stood := { row := ociReadUptoRow, standIns := [], harness := (true, "c30b8706a5e0536fad95884747fc1527d9ba91a4afd318e9ade062ef62c4d628"), looks := true }, kinds := [], alts := [], laidByText := true, laidKinds := [.data, .data, .data, .data, .handle, .sentinel, .sentinel, .data, .pinned], laidTests := true, laidLooks := .later }
def OciReadUptoCardSaid : Prop := Claim7.holds Tryz.pinned (.plain (OpenSpec.upto ociReadSpec)) ociReadUptoCard

/-- THE SECOND FORM's CARD OF 'lighterlaw13.OciPut'. -/
def ociPutUptoCard : Claim7 := { stood := { row := ociPutUptoRow, standIns := [], harness := (true, "c30b8706a5e0536fad95884747fc1527d9ba91a4afd318e9ade062ef62c4d628"), looks := true }, kinds := [], alts := [], laidByText := true, laidKinds := [.data, .data, .data, .data, .handle, .sentinel, .sentinel, .data, .pinned], laidTests := true, laidLooks := .later }
def OciPutUptoCardSaid : Prop := Claim7.holds Tryz.pinned (.plain (OpenSpec.upto ociPutSpec)) ociPutUptoCard

/-- THE SECOND FORM's CARD OF 'lighterlaw13.OciKind'. -/
def ociKindUptoCard : Claim7 := { stood := { row := ociKindUptoRow, standIns := [], harness := (true, "c30b8706a5e0536fad95884747fc1527d9ba91a4afd318e9ade062ef62c4d628"), looks := true }, kinds := [], alts := [], laidByText := true, laidKinds := [.data, .data, .data, .data, .handle, .sentinel, .sentinel, .data, .pinned], laidTests := true, laidLooks := .later }
def OciKindUptoCardSaid : Prop := Claim7.holds Tryz.pinned (.plain (OpenSpec.upto ociKindSpec)) ociKindUptoCard

/-- THE SECOND FORM's CARD OF 'lighterlaw13.OciBack'. -/
def ociBackUptoCard : Claim7 := { stood := { row := ociBackUptoRow, standIns := [], harness := (true, "c30b8706a5e0536fad95884747fc1527d9ba91a4afd318e9ade062ef62c4d628"), looks := true }, kinds := [], alts := [], laidByText := true, laidKinds := [.data, .data, .data, .data, .handle, .sentinel, .sentinel, .data, .pinned], laidTests := true, laidLooks := .later }
def OciBackUptoCardSaid : Prop := Claim7.holds Tryz.pinned (.plain (OpenSpec.upto ociBackSpec)) ociBackUptoCard

/-- THE SECOND FORM's CARD OF 'lighterlaw13.OciOrder'. -/
def ociOrderUptoCard : Claim7 := { stood := { row := ociOrderUptoRow, standIns := [], harness := (true, "c30b8706a5e0536fad95884747fc1527d9ba91a4afd318e9ade062ef62c4d628"), looks := true }, kinds := [], alts := [], laidByText := true, laidKinds := [.data, .data, .data, .data, .handle, .sentinel, .sentinel, .data, .pinned], laidTests := true, laidLooks := .later }
def OciOrderUptoCardSaid : Prop := Claim7.holds Tryz.pinned (.plain (OpenSpec.upto ociOrderSpec)) ociOrderUptoCard
end Rows
end Go.Proofs.YtnkencdibniagaaGreatDoor
