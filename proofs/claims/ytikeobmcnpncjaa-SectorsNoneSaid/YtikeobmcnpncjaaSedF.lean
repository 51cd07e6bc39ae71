/- Layer 6: SectorsPlay, as its statement hands it its input. -/
import Derived.Test.YtikeobmcnpncjaaSedE
namespace Go.Proofs.Ytikeobmcnpncjaa
open Go.RowKit Go.ChangeShapes Go.WideShapes Go.Deep

theorem play_walk {H : Type} {enc : TypeId × Value → H} {base : Nat} {sp : Nat → Bool} {held : Bool} {x : DataW H × List MemPlace} (a0 : Int) (a1 : Option Addr) (len1 cap1 : Nat) (W : World) (w0 : (Lit.int .i64 a0).wf = true)
    (k1 : ∃ fuel, DataW.trod enc Try.prog W base sp held fuel 22 [.slice a1 len1 cap1] = some x) :
    Calls Try.prog 3 #[.int .i64 a0, .slice a1 len1 cap1] W fun e w' => e = .returned (.bool true) ∧ Below W.heap.size W w' := by
  obtain ⟨fuel, hf⟩ := k1
  obtain ⟨l, hl⟩ := open_acts hf
  exact play_any imp a0 (bounds_i64 w0) hl
end Go.Proofs.Ytikeobmcnpncjaa
