/- Layer 8: AllocOf, AllocFirst, AllocApart, as their statements hand them their input. -/
import Derived.Test.YtdngkpdiaeicmaaAlcV
import Derived.ChangeSlices
import Derived.Deep.Slices
import Derived.OpenShut
namespace Go.Proofs.Ytdngkpdiaeicmaa
open Go.RowKit Go.ChangeShapes Go.WideShapes Go.Deep

theorem of_walk (I : Impl) (a0 : ByteArray) (a1 : Int) (W : World) (w0 : a0.size ≤ maxLen) (w1 : (Lit.int .i64 a1).wf = true) :
    Calls Try.prog 4 #[.string a0, .int .i64 a1] W fun e w' => e = .returned (.bool true) ∧ Below W.heap.size W w' := of_any I a0 a1 W w0 (bounds_i64 w1)
theorem bounds_u8 {n : Int} (h : (Lit.int .u8 n).wf = true) : 0 ≤ n ∧ n ≤ 255 := by
  obtain ⟨b, rfl, hb⟩ := byte_of h
  omega
theorem bounds_u64 {n : Int} (h : (Lit.int .u64 n).wf = true) : 0 ≤ n ∧ n ≤ 18446744073709551615 := by
  simp [Lit.wf, IntKind.min, IntKind.max, IntKind.signed, IntKind.bits] at h
  omega
theorem first_walk (I : Impl) (a0 a1 : Int) (W : World) (w0 : (Lit.int .u8 a0).wf = true) (w1 : (Lit.int .u8 a1).wf = true) :
    Calls Try.prog 7 #[.int .u8 a0, .int .u8 a1] W fun e w' => e = .returned (.bool true) ∧ Below W.heap.size W w' := first_any I a0 a1 W (bounds_u8 w0) (bounds_u8 w1)
theorem open_u8s {H : Type} {enc : TypeId × Value → H} {W : World} {base : Nat} {sp : Nat → Bool} {held : Bool} {fuel : Nat} {v : Value} {x : DataW H × List MemPlace} (h : DataW.trod enc Try.prog W base sp held fuel 53 [v] = some x) : ∃ zs : List UInt8, BytesAt W v zs := by
  rcases open_ints Try.underlying53 Try.underlying5 (by kernel_rfl) h with ⟨hcs, _⟩ | ⟨a, len, cap, zs, hcs, _, hl, hm, hz, _, hcell, hwf⟩
  · exact ⟨[], .inl ⟨(List.cons.inj hcs).1, rfl⟩⟩
  · have hlz : len ≤ zs.length := by rw [hz]; split <;> omega
    refine ⟨(zs.take len).map (fun n => UInt8.ofNat n.toNat), .inr ⟨a, cap, ?_, ?_, fun j hj => ?_⟩⟩
    · rw [List.length_map, List.length_take, Nat.min_eq_left hlz]; exact (List.cons.inj hcs).1
    · rw [List.length_map, List.length_take, Nat.min_eq_left hlz]; omega
    · rw [List.length_map, List.length_take, Nat.min_eq_left hlz] at hj
      rw [hcell j (by omega)]
      have hmem : zs.getD j 0 ∈ zs := by rw [List.getD_eq_getElem?_getD, List.getElem?_eq_getElem (by omega)]; exact List.getElem_mem _
      obtain ⟨b, hb, hb2⟩ := byte_of (hwf _ hmem)
      have e2 : ((zs.take len).map (fun n => UInt8.ofNat n.toNat)).getD j 0 = UInt8.ofNat (zs.getD j 0).toNat := by
        simp [List.getD_eq_getElem?_getD, List.getElem?_map, List.getElem?_take_of_lt hj, List.getElem?_eq_getElem (show j < zs.length by omega)]
      rw [e2, hb, Int.toNat_natCast]
      unfold byteV
      rw [UInt8.toNat_ofNat_of_lt' (show _ < 256 by omega)]
theorem apart_walk (I : Impl) {H : Type} {enc : TypeId × Value → H} {base : Nat} {sp : Nat → Bool} {held : Bool} {x : DataW H × List MemPlace} (a0 : Int) (a1 : Option Addr) (len1 cap1 : Nat) (a2 : Int) (W : World) (w0 : (Lit.int .u8 a0).wf = true)
    (k1 : ∃ fuel, DataW.trod enc Try.prog W base sp held fuel 53 [.slice a1 len1 cap1] = some x) (w2 : (Lit.int .u64 a2).wf = true) :
    Calls Try.prog 6 #[.int .u8 a0, .slice a1 len1 cap1, .int .u64 a2] W fun e w' => e = .returned (.bool true) ∧ Below W.heap.size W w' := by
  obtain ⟨f, h⟩ := k1
  obtain ⟨zs, hz⟩ := open_u8s h
  exact apart_any I a0 a2 W (bounds_u8 w0) (bounds_u64 w2) hz
end Go.Proofs.Ytdngkpdiaeicmaa
