/- Layer 6: SectorsSure, as its statement hands it its input. -/
import Derived.Test.YtikeobmcnpncjaaSedQ
import Derived.ChangeSlices
import Derived.OpenShut
namespace Go.Proofs.Ytikeobmcnpncjaa
open Go.RowKit Go.ChangeShapes Go.WideShapes Go.Deep

section
variable {H : Type} {enc : TypeId × Value → H} {W : World} {base : Nat} {sp : Nat → Bool} {held : Bool}
theorem open_pairs {fuel : Nat} {v : Value} {x : DataW H × List MemPlace} (h : DataW.trod enc Try.prog W base sp held fuel 48 [v] = some x) : ∃ l : List (UInt8 × UInt8), PairsAt W v l := by
  have hc2 : Try.prog.cellsOf 52 = 2 := by kernel_rfl
  rcases open_slice Try.underlying48 h with ⟨hcs, _⟩ | ⟨a, len, cap, m, n, D, Pl, hcs, _, hl, hm, hmm, _, hx⟩
  · exact ⟨[], .inl ⟨(List.cons.inj hcs).1, rfl⟩⟩
  · have hlm : len ≤ m := by rw [hmm]; split <;> omega
    rw [hc2] at hx
    have key : ∀ i, i < len → ∃ z : UInt8 × UInt8, W.cell? (a.add (i * 2)) = some (byteV z.1) ∧ W.cell? ⟨(a.add (i * 2)).block, (a.add (i * 2)).off + 1, none⟩ = some (byteV z.2) := by
      intro i hi
      obtain ⟨cs', h1, h2⟩ := hx i (by omega)
      obtain ⟨_, h3, hat⟩ := World.cells?_some h1
      obtain ⟨ys, m', _, _, _, hl2, hel⟩ := DataW.trod_array Try.underlying52 h2
      have he1 : Try.prog.cellsOf 5 = 1 := by kernel_rfl
      have g0 := hel 0 (by decide)
      have g1 := hel 1 (by decide)
      rw [he1, List.getElem?_eq_getElem (by omega)] at g0 g1
      obtain ⟨n0, e0, _, w0⟩ := DataW.trod_int Try.underlying5 g0
      obtain ⟨n1, e1, _, w1⟩ := DataW.trod_int Try.underlying5 g1
      obtain ⟨b0, rfl⟩ := byte_of w0
      obtain ⟨b1, rfl⟩ := byte_of w1
      obtain ⟨v0, v1, rfl⟩ : ∃ v0 v1, cs' = [v0, v1] := by
        match cs', h3 with
        | [v0, v1], _ => exact ⟨v0, v1, rfl⟩
      have a0 := hat 0 (by decide)
      have a1 := hat 1 (by decide)
      rw [Addr.add_zero'] at a0
      rw [add_pos _ 1 (by decide)] at a1
      have q0 : v0 = .int .u8 (b0.toNat : Int) := by simpa using e0
      have q1 : v1 = .int .u8 (b1.toNat : Int) := by simpa using e1
      exact ⟨(b0, b1), by rw [a0, q0]; rfl, by rw [a1, q1]; rfl⟩
    haveI : Inhabited (UInt8 × UInt8) := ⟨(0, 0)⟩
    obtain ⟨f, hf⟩ := choose_lt key
    refine ⟨(List.range len).map f, .inr ⟨a, cap, ?_, fun i hi => ?_⟩⟩
    · rw [List.length_map, List.length_range]; exact (List.cons.inj hcs).1
    · rw [List.length_map, List.length_range] at hi
      have e : ((List.range len).map f).getD i (0, 0) = f i := by
        rw [List.getD_eq_getElem?_getD, List.getElem?_map, List.getElem?_range hi]; rfl
      rw [e]
      exact hf i hi
end
theorem sSure_walk {H : Type} {enc : TypeId × Value → H} {base base2 : Nat} {sp sp2 : Nat → Bool} {held held2 : Bool} {x y : DataW H × List MemPlace} (a0 : Option Addr) (len0 cap0 : Nat) (a1 : Option Addr) (len1 cap1 : Nat) (W : World)
    (k0 : ∃ fuel, DataW.trod enc Try.prog W base sp held fuel 48 [.slice a0 len0 cap0] = some x)
    (k1 : ∃ fuel, DataW.trod enc Try.prog W base2 sp2 held2 fuel 32 [.slice a1 len1 cap1] = some y) :
    Calls Try.prog 5 #[.slice a0 len0 cap0, .slice a1 len1 cap1] W fun e w' => e = .returned (.bool true) ∧ Below W.heap.size W w' := by
  obtain ⟨f0, h0⟩ := k0
  obtain ⟨f1, h1⟩ := k1
  obtain ⟨l, hz⟩ := open_pairs h0
  obtain ⟨ks, hk, _⟩ := open_keep h1
  exact sSure_any imp hz hk
end Go.Proofs.Ytikeobmcnpncjaa
