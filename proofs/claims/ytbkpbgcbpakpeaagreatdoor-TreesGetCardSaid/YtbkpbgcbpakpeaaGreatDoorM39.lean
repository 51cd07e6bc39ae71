/- Merged: UvZ. -/
import Derived.Test.YtbkpbgcbpakpeaaGreatDoorM38
/- Layer 16: TreesGet, of what is handed in. -/
namespace Go.Proofs.YtbkpbgcbpakpeaaGreatDoor
open Go.RowKit

theorem get_w (a0 : ByteArray) (W : World) (_w0 : a0.size ≤ maxLen) (_h : True) :
    Calls Tryz.prog 4 #[.string a0] W fun e w' => e = .returned (.bool true) ∧ Below W.heap.size W w' := by
  rw [str_ofT a0]
  exact getlaw_any a0.data.toList W
end Go.Proofs.YtbkpbgcbpakpeaaGreatDoor
#print axioms Go.Proofs.YtbkpbgcbpakpeaaGreatDoor.get_w

