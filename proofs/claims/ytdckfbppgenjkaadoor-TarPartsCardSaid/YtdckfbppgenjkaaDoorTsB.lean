/- Layer 15: TarParts, of what is handed in. -/
import Derived.Test.YtdckfbppgenjkaaDoorTsA
namespace Go.Proofs.YtdckfbppgenjkaaDoor
open Go.RowKit Go.ChangeShapes Go.WideShapes Go.Deep

theorem parts_w {H : Type} {enc : TypeId × Value → H} {base : Nat} {sp : Nat → Bool} {held : Bool} {d e : DataW H} {p q : List MemPlace} (a0 : Option Addr) (len0 cap0 : Nat) (a1 : Option Addr) (len1 cap1 : Nat) (W : World)
    (k0 : DataW.Trod enc Tryd.prog W base sp held 22 (.slice a0 len0 cap0) d p) (k1 : DataW.Trod enc Tryd.prog W base sp held 22 (.slice a1 len1 cap1) e q) (hE : EnvT W) :
    Calls Tryd.prog 5 #[.slice a0 len0 cap0, .slice a1 len1 cap1] W fun e w' => e = .returned (.bool true) ∧ Below W.heap.size W w' := by
  obtain ⟨fuel, hf⟩ := k0
  obtain ⟨l, xp, cp, hv, hE2, hl⟩ := open_ents hf
  simp only [Value.slice.injEq] at hv
  obtain ⟨rfl, rfl, rfl⟩ := hv
  obtain ⟨fuel', hf'⟩ := k1
  obtain ⟨l', xp', cp', hv', hE2', hl'⟩ := open_ents hf'
  simp only [Value.slice.injEq] at hv'
  obtain ⟨rfl, rfl, rfl⟩ := hv'
  exact parts_any l l' a0 cap0 a1 cap1 hl hl' W hE hE2 hE2'
end Go.Proofs.YtdckfbppgenjkaaDoor
