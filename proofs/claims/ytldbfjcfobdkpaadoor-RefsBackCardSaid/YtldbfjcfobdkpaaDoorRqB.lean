/- Layer 12: a walk, closed. -/
import Derived.Test.YtldbfjcfobdkpaaDoorRfU
import Derived.Test.YtldbfjcfobdkpaaDoorM04
namespace Go.Proofs.YtldbfjcfobdkpaaDoor
open Go.ChangeShapes Go.WideShapes Go.ChangeAt Go.WideElems Go.RowKit

theorem back_w {H : Type} {enc : TypeId × Value → H} {base : Nat} {sp : Nat → Bool} {held : Bool} {d : DataW H} {p : List MemPlace} (v0 : Value) (a1 : ByteArray) (W : World)
    (k0 : DataW.Trod enc Tryd.prog W base sp held 26 v0 d p) (w1 : a1.size ≤ maxLen) (_h : True) :
    Calls Tryd.prog 6 #[v0, .string a1] W fun e w' => e = .returned (.bool true) ∧ Below W.heap.size W w' := back_walk imp v0 a1 W k0 w1
end Go.Proofs.YtldbfjcfobdkpaaDoor
