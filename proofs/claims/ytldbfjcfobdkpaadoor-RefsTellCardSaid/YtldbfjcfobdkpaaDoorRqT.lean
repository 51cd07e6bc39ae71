/- Layer 12: a walk, closed. -/
import Derived.Test.YtldbfjcfobdkpaaDoorRfR
import Derived.Test.YtldbfjcfobdkpaaDoorM04
namespace Go.Proofs.YtldbfjcfobdkpaaDoor
open Go.ChangeShapes Go.WideShapes Go.ChangeAt Go.WideElems Go.RowKit

theorem tell_w {H : Type} {enc : TypeId × Value → H} {base : Nat} {sp : Nat → Bool} {held : Bool} {d : DataW H} {p : List MemPlace} (v0 : Value) (W : World)
    (k0 : DataW.Trod enc Tryd.prog W base sp held 26 v0 d p) (_h : True) :
    Calls Tryd.prog 4 #[v0] W fun e w' => e = .returned (.bool true) ∧ Below W.heap.size W w' := tell_walk imp v0 W k0
end Go.Proofs.YtldbfjcfobdkpaaDoor
