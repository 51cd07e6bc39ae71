/- Layer 15: TarSum, of what is handed in. -/
import Derived.Test.YtdckfbppgenjkaaDoorTsC
namespace Go.Proofs.YtdckfbppgenjkaaDoor
open Go.RowKit Go.ChangeShapes Go.WideShapes Go.Deep

theorem boundsU8 {a : Int} (h : (Lit.int .u8 a).wf = true) : 0 ≤ a ∧ a ≤ 255 := by
  simp [Lit.wf, IntKind.min, IntKind.max, IntKind.signed, IntKind.bits] at h
  omega
theorem sum_w {H : Type} {enc : TypeId × Value → H} {base : Nat} {sp : Nat → Bool} {held : Bool} {d : DataW H} {p : List MemPlace} (a0 : Option Addr) (len0 cap0 : Nat) (a1 a2 : Int) (W : World)
    (k0 : DataW.Trod enc Tryd.prog W base sp held 22 (.slice a0 len0 cap0) d p) (w1 : (Lit.int .u16 a1).wf = true) (w2 : (Lit.int .u8 a2).wf = true) (hE : EnvT W) :
    Calls Tryd.prog 4 #[.slice a0 len0 cap0, .int .u16 a1, .int .u8 a2] W fun e w' => e = .returned (.bool true) ∧ Below W.heap.size W w' := by
  obtain ⟨b1, b2⟩ := boundsU16 w1
  obtain ⟨c1, c2⟩ := boundsU8 w2
  obtain ⟨n, rfl⟩ : ∃ n : Nat, a1 = (n : Int) := ⟨a1.toNat, by omega⟩
  obtain ⟨m, rfl⟩ : ∃ m : Nat, a2 = (m : Int) := ⟨a2.toNat, by omega⟩
  obtain ⟨fuel, hf⟩ := k0
  obtain ⟨l, xp, cp, hv, hE2, hl⟩ := open_ents hf
  simp only [Value.slice.injEq] at hv
  obtain ⟨rfl, rfl, rfl⟩ := hv
  have hm : (UInt8.ofNat m).toNat = m := by rw [UInt8.toNat_ofNat']; omega
  have := tsum_any l a0 cap0 n (UInt8.ofNat m) (by omega) hl W hE hE2
  rw [hm] at this
  exact this
end Go.Proofs.YtdckfbppgenjkaaDoor
