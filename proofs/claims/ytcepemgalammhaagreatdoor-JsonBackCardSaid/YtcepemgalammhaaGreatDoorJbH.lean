/- Layer 11: JsonBack, of what is handed in. -/
import Derived.Test.YtcepemgalammhaaGreatDoorJbD
import Derived.Test.YtcepemgalammhaaGreatDoorJbG
namespace Go.Proofs.YtcepemgalammhaaGreatDoor
open Go.RowKit Go.ChangeShapes Go.WideShapes Go.Deep

theorem boundsU16 {n : Int} (h : (Lit.int .u16 n).wf = true) : 0 ≤ n ∧ n < 65536 := by
  simp [Lit.wf, IntKind.min, IntKind.max, IntKind.signed, IntKind.bits] at h
  omega
set_option maxRecDepth 100000 in
theorem back_walk {H : Type} {enc : TypeId × Value → H} {base : Nat} {sp : Nat → Bool} {held : Bool} {d : DataW H} {p : List MemPlace} (a0 : Option Addr) (len0 cap0 : Nat) (a1 : ByteArray) (a2 : Int) (W : World)
    (k0 : DataW.Trod enc Tryz.prog W base sp held 22 (.slice a0 len0 cap0) d p) (_w1 : a1.size ≤ maxLen) (w2 : (Lit.int .u16 a2).wf = true) (hE : Env W) :
    Calls Tryz.prog 3 #[.slice a0 len0 cap0, .string a1, .int .u16 a2] W fun e w' => e = .returned (.bool true) ∧ Below W.heap.size W w' := by
  obtain ⟨fuel, hf⟩ := k0
  obtain ⟨l, xp, cp, he, hP, hl⟩ := open_partsC hf
  obtain ⟨rfl, rfl, rfl⟩ := Value.slice.inj he
  obtain ⟨b1, b2⟩ := boundsU16 w2
  obtain ⟨m, rfl⟩ : ∃ m : Nat, a2 = m := ⟨a2.toNat, by omega⟩
  have := back_any (cp := cap0) (s := a1.data.toList) (cut := m) (build_any hP hl) (by omega) hE
  rw [str_list] at this
  exact this
end Go.Proofs.YtcepemgalammhaaGreatDoor
