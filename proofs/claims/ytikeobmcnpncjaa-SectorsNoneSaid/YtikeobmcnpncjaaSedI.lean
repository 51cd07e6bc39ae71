/- Layer 6: SectorsNone, as its statement hands it its input. -/
import Derived.Test.YtikeobmcnpncjaaSedH
namespace Go.Proofs.Ytikeobmcnpncjaa
open Go.RowKit Go.ChangeShapes Go.WideShapes Go.Deep

theorem sNone_walk {H : Type} {enc : TypeId × Value → H} {base : Nat} {sp : Nat → Bool} {held : Bool} {d : DataW H} {p : List MemPlace} (v0 : Value) (W : World)
    (k0 : DataW.Trod enc Try.prog W base sp held 34 v0 d p) :
    Calls Try.prog 4 #[v0] W fun e w' => e = .returned (.bool true) ∧ Below W.heap.size W w' := by
  obtain ⟨fuel, hf⟩ := k0
  obtain ⟨a, v, hc, hk, hok⟩ := open_act hf
  obtain rfl : v0 = .agg (actC a.kind a.c a.n a.data v) := by
    cases v0 with
    | agg cs =>
      have : cs.toList = [.int .u8 (a.kind : Int), byteV a.c, .int .i64 a.n, .string a.data, v] := hc
      have h2 : cs = #[.int .u8 (a.kind : Int), byteV a.c, .int .i64 a.n, .string a.data, v] := by
        apply Array.toList_inj.1
        rw [this]
      rw [h2]; rfl
    | _ => simp [Value.cells] at hc
  exact sNone_any imp hk hok
end Go.Proofs.Ytikeobmcnpncjaa
