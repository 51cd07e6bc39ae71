/- Layer 12: a walk, closed. -/
import Derived.Test.YtldbfjcfobdkpaaDoorRfP
import Derived.Test.YtldbfjcfobdkpaaDoorM04
namespace Go.Proofs.YtldbfjcfobdkpaaDoor
open Go.ChangeShapes Go.WideShapes Go.ChangeAt Go.WideElems Go.RowKit

theorem parse_w (a0 : ByteArray) (W : World) (w0 : a0.size ≤ maxLen) (_h : True) : Calls Tryd.prog 3 #[.string a0] W fun e w' => e = .returned (.bool true) ∧ Below W.heap.size W w' := parse_walk imp a0 W w0
end Go.Proofs.YtldbfjcfobdkpaaDoor
