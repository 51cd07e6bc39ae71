/-
  No cell of these rows narrows 'for every input' (looked for: loops, veiled, ifaces, maps, wideKeys, modest, calm, conditions, laid).
  DERIVED. THE GIVEN ROWS OF THIS SEAT. 4 by the template 'for every input the law returns true; each argument reads behind the call as it read before'; 0 by the template 'total and deterministic' (their statements: YteannhninjdlfaaTotals.lean).
  GIVEN WITH THE SEED: the statements are not yours to turn. If you find one false, say at which input.
  Laid BY PROGRAM, IN A SANDBOX (cutbox-rows.mjs): the forced cells as the released guide's own fill.sh prints them over the translation d322cb3724db34ff… (all of the seat's roots in one cut). By AI agents, Wed Nov 11 2026. No macro, syntax, notation, axiom, sorry.
-/
import Derived.Test.YteannhninjdlfaaChecked
import GoSem.Claim
import GoSem.ClaimJoined
import GoSem.ClaimMapViews
import Derived.JoinedTies
import Derived.KernelRfl
namespace Go.Proofs.Yteannhninjdlfaa
/- THE CELL 'sum', in the pinned program and in every row, IS THE sha256 OF THE DUMP (.gsa) THAT YteannhninjdlfaaProg.lean LOADS. Nothing in Lean hashes anything: it is a label: what it is worth is what the hold of that sum in a sandbox is worth. -/
noncomputable def Try.pinned : Pinned := { name := "yteannhninjdlfaa", sum := "d322cb3724db34ffd112fef4f2e49ed17dad410b6e84857b463ff917bf822471", checked := Try.checked }
namespace Rows
def none {H : Type} : Left H := { results := [], args := [] }

/-- 'lighterlaw02.BitsNumber': WHATEVER THE INPUT: true; the input reads as it did. -/
def bitsNumberSpec : ChangeSpec := { name := "bitsNumber", fn := fun _ => fun
  | [d1, d2, d3] => { results := [.lit (.bool true)], args := [d1, d2, d3] }
  | _ => none }
def bitsNumberRow : OpenClaim := { program := "yteannhninjdlfaa", sum := "d322cb3724db34ffd112fef4f2e49ed17dad410b6e84857b463ff917bf822471", func := "lighter/lighterlaw02.BitsNumber", spec := "bitsNumber", unfollowed := true, recurses := true, apart := false }
def BitsNumberSaid : Prop := bitsNumberRow.holds Try.pinned (OpenSpec.ofChange bitsNumberSpec)

/-- ITS FALSE NEIGHBOUR: 'it returns false'. Refute it at one input. -/
def bitsNumberWrong : ChangeSpec := { name := "bitsNumber", fn := fun _ => fun
  | [d1, d2, d3] => { results := [.lit (.bool false)], args := [d1, d2, d3] }
  | _ => none }
def BitsNumberWrongFalsely : Prop := bitsNumberRow.holds Try.pinned (OpenSpec.ofChange bitsNumberWrong)

/-- 'lighterlaw02.BitsMap': WHATEVER THE INPUT: true; the input reads as it did. -/
def bitsMapSpec : ChangeSpec := { name := "bitsMap", fn := fun _ => fun
  | [d1, d2, d3] => { results := [.lit (.bool true)], args := [d1, d2, d3] }
  | _ => none }
def bitsMapRow : OpenClaim := { program := "yteannhninjdlfaa", sum := "d322cb3724db34ffd112fef4f2e49ed17dad410b6e84857b463ff917bf822471", func := "lighter/lighterlaw02.BitsMap", spec := "bitsMap", unfollowed := true, recurses := true, apart := false }
def BitsMapSaid : Prop := bitsMapRow.holds Try.pinned (OpenSpec.ofChange bitsMapSpec)

/-- ITS FALSE NEIGHBOUR: 'it returns false'. Refute it at one input. -/
def bitsMapWrong : ChangeSpec := { name := "bitsMap", fn := fun _ => fun
  | [d1, d2, d3] => { results := [.lit (.bool false)], args := [d1, d2, d3] }
  | _ => none }
def BitsMapWrongFalsely : Prop := bitsMapRow.holds Try.pinned (OpenSpec.ofChange bitsMapWrong)

/-- 'lighterlaw02.BitsBack': WHATEVER THE INPUT: true; the input reads as it did. -/
def bitsBackSpec : ChangeSpec := { name := "bitsBack", fn := fun _ => fun
  | [d1, d2, d3] => { results := [.lit (.bool true)], args := [d1, d2, d3] }
  | _ => none }
def bitsBackRow : OpenClaim := { program := "yteannhninjdlfaa", sum := "d322cb3724db34ffd112fef4f2e49ed17dad410b6e84857b463ff917bf822471", func := "lighter/lighterlaw02.BitsBack", spec := "bitsBack", unfollowed := true, recurses := true, apart := false }
def BitsBackSaid : Prop := bitsBackRow.holds Try.pinned (OpenSpec.ofChange bitsBackSpec)

/-- ITS FALSE NEIGHBOUR: 'it returns false'. Refute it at one input. -/
def bitsBackWrong : ChangeSpec := { name := "bitsBack", fn := fun _ => fun
  | [d1, d2, d3] => { results := [.lit (.bool false)], args := [d1, d2, d3] }
  | _ => none }
def BitsBackWrongFalsely : Prop := bitsBackRow.holds Try.pinned (OpenSpec.ofChange bitsBackWrong)

/-- 'lighterlaw02.BitsRun': WHATEVER THE INPUT: true; the input reads as it did. -/
def bitsRunSpec : ChangeSpec := { name := "bitsRun", fn := fun _ => fun
  | [d1, d2, d3] => { results := [.lit (.bool true)], args := [d1, d2, d3] }
  | _ => none }
def bitsRunRow : OpenClaim := { program := "yteannhninjdlfaa", sum := "d322cb3724db34ffd112fef4f2e49ed17dad410b6e84857b463ff917bf822471", func := "lighter/lighterlaw02.BitsRun", spec := "bitsRun", unfollowed := true, recurses := true, apart := false }
def BitsRunSaid : Prop := bitsRunRow.holds Try.pinned (OpenSpec.ofChange bitsRunSpec)

/-- ITS FALSE NEIGHBOUR: 'it returns false'. Refute it at one input. -/
def bitsRunWrong : ChangeSpec := { name := "bitsRun", fn := fun _ => fun
  | [d1, d2, d3] => { results := [.lit (.bool false)], args := [d1, d2, d3] }
  | _ => none }
def BitsRunWrongFalsely : Prop := bitsRunRow.holds Try.pinned (OpenSpec.ofChange bitsRunWrong)

/- THE SECOND FORM. 'bulk': how many values and letters a reading holds, each counted each time it is reached (what is shared counts as often as it is met; a slice's spare places count too). A statement '..UptoSaid' is the law's where the arguments, and the package variables that the reading takes, are together of bulk at most 1048576: NARROWER than '..Said'. Prove '..Said' where nothing that the law and all that it calls make is longer than what came in: it says more and counts as full. Else prove '..UptoSaid'. A law counts once. -/
mutual
def uptoBulk {H : Type} : DataW H → Nat
  | .lit (.string bytes) => bytes.length + 1
  | .lit _ => 1
  | .nil => 1
  | .ptr d => uptoBulk d + 1
  | .slice elems spare => uptoBulkAll elems + uptoBulkAll spare + 1
  | .agg parts => uptoBulkAll parts + 1
  | .iface _ d => uptoBulk d + 1
  | .map entries => uptoBulkEntries entries + 1
  | .held _ => 1
def uptoBulkAll {H : Type} : List (DataW H) → Nat
  | [] => 0
  | d :: r => uptoBulk d + uptoBulkAll r
def uptoBulkEntries {H : Type} : List (Lit × DataW H) → Nat
  | [] => 0
  | x :: r => uptoBulkEntry x + uptoBulkEntries r
def uptoBulkEntry {H : Type} : Lit × DataW H → Nat
  | (.string bytes, d) => bytes.length + uptoBulk d + 1
  | (_, d) => uptoBulk d + 1
 end
def uptoSmall : (H : Type) → List (DataW H) → Bool := fun _ ds => decide (uptoBulkAll ds ≤ 1048576)
def OpenSpec.upto (s : _root_.Go.ChangeSpec) : _root_.Go.OpenSpec := { _root_.Go.OpenSpec.ofChange s with cond := some uptoSmall }

/-- 'lighterlaw02.BitsNumber', WHERE WHAT IT READS IS OF BULK AT MOST 1048576: true; the input reads as it did. -/
def bitsNumberUptoRow : OpenClaim := { program := "yteannhninjdlfaa", sum := "d322cb3724db34ffd112fef4f2e49ed17dad410b6e84857b463ff917bf822471", func := "lighter/lighterlaw02.BitsNumber", spec := "bitsNumber", unfollowed := true, recurses := true, apart := false, narrowed := true }
def BitsNumberUptoSaid : Prop := bitsNumberUptoRow.holds Try.pinned (OpenSpec.upto bitsNumberSpec)

/-- 'lighterlaw02.BitsMap', WHERE WHAT IT READS IS OF BULK AT MOST 1048576: true; the input reads as it did. -/
def bitsMapUptoRow : OpenClaim := { program := "yteannhninjdlfaa", sum := "d322cb3724db34ffd112fef4f2e49ed17dad410b6e84857b463ff917bf822471", func := "lighter/lighterlaw02.BitsMap", spec := "bitsMap", unfollowed := true, recurses := true, apart := false, narrowed := true }
def BitsMapUptoSaid : Prop := bitsMapUptoRow.holds Try.pinned (OpenSpec.upto bitsMapSpec)

/-- 'lighterlaw02.BitsBack', WHERE WHAT IT READS IS OF BULK AT MOST 1048576: true; the input reads as it did. -/
def bitsBackUptoRow : OpenClaim := { program := "yteannhninjdlfaa", sum := "d322cb3724db34ffd112fef4f2e49ed17dad410b6e84857b463ff917bf822471", func := "lighter/lighterlaw02.BitsBack", spec := "bitsBack", unfollowed := true, recurses := true, apart := false, narrowed := true }
def BitsBackUptoSaid : Prop := bitsBackUptoRow.holds Try.pinned (OpenSpec.upto bitsBackSpec)

/-- 'lighterlaw02.BitsRun', WHERE WHAT IT READS IS OF BULK AT MOST 1048576: true; the input reads as it did. -/
def bitsRunUptoRow : OpenClaim := { program := "yteannhninjdlfaa", sum := "d322cb3724db34ffd112fef4f2e49ed17dad410b6e84857b463ff917bf822471", func := "lighter/lighterlaw02.BitsRun", spec := "bitsRun", unfollowed := true, recurses := true, apart := false, narrowed := true }
def BitsRunUptoSaid : Prop := bitsRunUptoRow.holds Try.pinned (OpenSpec.upto bitsRunSpec)

end Rows
end Go.Proofs.Yteannhninjdlfaa
