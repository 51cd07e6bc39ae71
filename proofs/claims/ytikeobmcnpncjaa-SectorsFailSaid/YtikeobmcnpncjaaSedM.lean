/- Layer 6: SectorsFail, as its statement hands it its input. -/
import Derived.Test.YtikeobmcnpncjaaSedK
import Derived.ChangeSlices
namespace Go.Proofs.Ytikeobmcnpncjaa
open Go.RowKit Go.ChangeShapes Go.WideShapes Go.Deep

theorem open_u8s {H : Type} {enc : TypeId × Value → H} {W : World} {base : Nat} {sp : Nat → Bool} {held : Bool} {fuel : Nat} {v : Value} {x : DataW H × List MemPlace} (h : DataW.trod enc Try.prog W base sp held fuel 55 [v] = some x) : ∃ zs : List UInt8, BytesAt W v zs := by
  rcases open_ints Try.underlying55 Try.underlying5 (by kernel_rfl) h with ⟨hcs, _⟩ | ⟨a, len, cap, zs, hcs, _, hl, hm, hz, _, hcell, hwf⟩
  · exact ⟨[], .inl ⟨(List.cons.inj hcs).1, rfl⟩⟩
  · have hlz : len ≤ zs.length := by rw [hz]; split <;> omega
    refine ⟨(zs.take len).map (fun n => UInt8.ofNat n.toNat), .inr ⟨a, cap, ?_, fun j hj => ?_⟩⟩
    · rw [List.length_map, List.length_take, Nat.min_eq_left hlz]; exact (List.cons.inj hcs).1
    · rw [List.length_map, List.length_take, Nat.min_eq_left hlz] at hj
      rw [hcell j (by omega)]
      have hmem : zs.getD j 0 ∈ zs := by rw [List.getD_eq_getElem?_getD, List.getElem?_eq_getElem (by omega)]; exact List.getElem_mem _
      obtain ⟨b, hb⟩ := byte_of (hwf _ hmem)
      have e2 : ((zs.take len).map (fun n => UInt8.ofNat n.toNat)).getD j 0 = UInt8.ofNat (zs.getD j 0).toNat := by
        simp [List.getD_eq_getElem?_getD, List.getElem?_map, List.getElem?_take_of_lt hj, List.getElem?_eq_getElem (show j < zs.length by omega)]
      rw [e2, hb]
      unfold byteV
      simp
theorem sFail_walk {H : Type} {enc : TypeId × Value → H} {base base2 : Nat} {sp sp2 : Nat → Bool} {held held2 : Bool} {x y : DataW H × List MemPlace} (a0 : Option Addr) (len0 cap0 : Nat) (a1 : Int) (a2 : Option Addr) (len2 cap2 : Nat) (W : World)
    (k0 : ∃ fuel, DataW.trod enc Try.prog W base sp held fuel 55 [.slice a0 len0 cap0] = some x) (w1 : (Lit.int .u8 a1).wf = true)
    (k2 : ∃ fuel, DataW.trod enc Try.prog W base2 sp2 held2 fuel 32 [.slice a2 len2 cap2] = some y) :
    Calls Try.prog 6 #[.slice a0 len0 cap0, .int .u8 a1, .slice a2 len2 cap2] W fun e w' => e = .returned (.bool true) ∧ Below W.heap.size W w' := by
  obtain ⟨f0, h0⟩ := k0
  obtain ⟨f2, h2⟩ := k2
  obtain ⟨zs, hz⟩ := open_u8s h0
  obtain ⟨ks, hk, _⟩ := open_keep h2
  obtain ⟨b, rfl⟩ := byte_of w1
  exact sFail_any imp hz (UInt8.toNat_lt b) hk
end Go.Proofs.Ytikeobmcnpncjaa
