/- Layer 14: what the variables that start-up laid give (nothing is asked of them). -/
import Derived.Test.YtekfchlgkdgpdaaDoorPtS
import Derived.Test.YtekfchlgkdgpdaaDoorRows
import Derived.ProofKit
import Derived.LaidMore
import Derived.LaidLaws
import Derived.LaidHandle
import Derived.Lib.LaidU8T
import Derived.OpenShut
import Derived.Stop.Joined
namespace Go.Proofs.YtekfchlgkdgpdaaDoor
open Go.ChangeShapes Go.WideShapes Go.ChangeAt Go.WideElems Go.RowKit

theorem own : ownKnob Tryd.prog.godebug = none := by kernel_rfl
def laid2 : List (String × DataW Unit) := [("unicode/utf8.acceptRanges", Rows.laid_unicode_utf8_acceptRanges), ("unicode/utf8.first", Rows.laid_unicode_utf8_first)]
/-- The door's own heap, with the library's great table laid. -/
noncomputable def startW (os : Os) : World :=
  let w0 := World.doorLaid Tryd.prog 400 os
  { w0 with heap := w0.heap.modify 1 fun
      | .cells _ t frozen => .cells (Go.Pinned.utf8FirstZ.map fun (z : Nat) => Value.int .u8 (z : Int)).toArray t frozen
      | o => o }
theorem door_met (os : Os) (args : Array Value) : laidMetH Tryd.prog laid2 ((startW os).forCall (fun _ _ => 0) ⟨#[], args, []⟩).memory :=
  laidMetH_of_parts3 (fuel := 8) (laidMet_of_run' 8 (by kernel_rfl) (by kernel_rfl)) (by kernel_rfl) (by kernel_rfl)
theorem of_laid {W : World} (_h : laidMetH Tryd.prog laid2 W) : True := trivial
theorem tell_w (a0 a1 : ByteArray) (W : World) (_w0 : a0.size ≤ maxLen) (_w1 : a1.size ≤ maxLen) (_h : True) : Calls Tryd.prog 3 #[.string a0, .string a1] W fun e w' => e = .returned (.bool true) ∧ Below W.heap.size W w' := tell_walk a0 a1 W
theorem under_w (a0 a1 : ByteArray) (W : World) (_w0 : a0.size ≤ maxLen) (_w1 : a1.size ≤ maxLen) (_h : True) : Calls Tryd.prog 6 #[.string a0, .string a1] W fun e w' => e = .returned (.bool true) ∧ Below W.heap.size W w' := under_walk a0 a1 W
theorem white_w (a0 : ByteArray) (W : World) (_w0 : a0.size ≤ maxLen) (_h : True) : Calls Tryd.prog 7 #[.string a0] W fun e w' => e = .returned (.bool true) ∧ Below W.heap.size W w' := white_walk a0 W
theorem pclean_w (a0 : ByteArray) (W : World) (_w0 : a0.size ≤ maxLen) (_h : True) : Calls Tryd.prog 5 #[.string a0] W fun e w' => e = .returned (.bool true) ∧ Below W.heap.size W w' := pclean_walk a0 W
theorem pparts_w {H : Type} {enc : TypeId × Value → H} {base : Nat} {sp : Nat → Bool} {held : Bool} {d : DataW H} {p : List MemPlace} (a0 : Option Addr) (len0 cap0 : Nat) (a1 : Int) (W : World)
    (k0 : DataW.Trod enc Tryd.prog W base sp held 31 (.slice a0 len0 cap0) d p) (w1 : (Lit.int .u8 a1).wf = true) (_h : True) :
    Calls Tryd.prog 4 #[.slice a0 len0 cap0, .int .u8 a1] W fun e w' => e = .returned (.bool true) ∧ Below W.heap.size W w' := pparts_walk a0 len0 cap0 a1 W k0 w1
end Go.Proofs.YtekfchlgkdgpdaaDoor
