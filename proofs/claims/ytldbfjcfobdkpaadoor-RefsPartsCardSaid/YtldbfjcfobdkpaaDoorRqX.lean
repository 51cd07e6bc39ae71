/- Layer 12: a walk, closed. -/
import Derived.Test.YtldbfjcfobdkpaaDoorRfX
import Derived.Test.YtldbfjcfobdkpaaDoorM04
namespace Go.Proofs.YtldbfjcfobdkpaaDoor
open Go.ChangeShapes Go.WideShapes Go.ChangeAt Go.WideElems Go.RowKit

theorem parts_w (a0 a1 : List UInt8) (W : World) (h0 : a0.length = 6) (h1 : a1.length = 32) (_h : True) :
    Calls Tryd.prog 5 #[.agg (cells8 a0), .agg (cells8 a1)] W fun e w' => e = .returned (.bool true) ∧ Below W.heap.size W w' := parts_walk imp a0 a1 W h0 h1
end Go.Proofs.YtldbfjcfobdkpaaDoor
