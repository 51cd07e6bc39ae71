/- Layer 16: what the variables that start-up laid give (nothing is asked of them); what is handed in to TreesHides. -/
import Derived.Test.YtokeiagcdahmaaaDoorTuF
import Derived.Test.YtokeiagcdahmaaaDoorRows
import Derived.ProofKit
import Derived.LaidMore
import Derived.LaidLaws
import Derived.LaidHandle
import Derived.Lib.LaidU8T
import Derived.OpenShut
import Derived.Stop.Joined
import Derived.Sort.BigQuietIn
import Derived.ChangeArms
namespace Go.Proofs.YtokeiagcdahmaaaDoor
open Go.ChangeShapes Go.WideShapes Go.ChangeAt Go.WideElems Go.RowKit

theorem own : ownKnob Tryd.prog.godebug = none := by kernel_rfl
def laid2 : List (String × DataW Unit) := [("unicode/utf8.acceptRanges", Rows.laid_unicode_utf8_acceptRanges), ("unicode/utf8.first", Rows.laid_unicode_utf8_first)]
/-- The door's own heap, with the library's great table laid. -/
noncomputable def startW (os : Os) : World :=
  let w0 := World.doorLaid Tryd.prog 400 os
  { w0 with heap := w0.heap.modify 1 fun
      | .cells _ t frozen => .cells (Go.Pinned.utf8FirstZ.map fun (z : Nat) => Value.int .u8 (z : Int)).toArray t frozen
      | o => o }
theorem door_met (os : Os) (args : Array Value) : laidMetH Tryd.prog laid2 ((startW os).forCall (fun _ _ => 0) ⟨#[], args, []⟩).memory :=
  laidMetH_of_parts3 (fuel := 8) (laidMet_of_run' 8 (by kernel_rfl) (by kernel_rfl)) (by kernel_rfl) (by kernel_rfl)
theorem of_laid {W : World} (_h : laidMetH Tryd.prog laid2 W) : True := trivial
theorem all_bytesV : ∀ cs : List Value, (∀ v ∈ cs, ∃ b : UInt8, v = byteV b) → ∃ l : List UInt8, cs = l.map byteV
  | [], _ => ⟨[], rfl⟩
  | v :: r, h => by
    obtain ⟨b, rfl⟩ := h v (by simp)
    obtain ⟨l, rfl⟩ := all_bytesV r (fun u hu => h u (by simp [hu]))
    exact ⟨b :: l, rfl⟩
set_option maxRecDepth 100000 in
theorem open_bytes {H : Type} {enc : TypeId × Value → H} {W : World} {b0 base : Nat} {sp : Nat → Bool} {held : Bool} {t : TypeId} {n : Nat} {v : Value} {d : DataW H} {p : List MemPlace}
    (ht : Tryd.prog.underlying t = some (.array n 5)) (hv : Value.okWide Tryd.prog W .any b0 t v) (hd : DataW.Trod enc Tryd.prog W base sp held t v d p) (hc : Tryd.prog.cellsOf t = n) :
    ∃ l : List UInt8, l.length = n ∧ v = .agg (cells8 l) := by
  have he : Tryd.prog.cellsOf 5 = 1 := by kernel_rfl
  simp only [Value.okWide, ht] at hv
  obtain ⟨cs, rfl, hsz, _⟩ := hv
  obtain ⟨fuel, hf⟩ := hd
  obtain ⟨xs, m, _, _, _, hxs, hall⟩ := DataW.trod_array ht hf
  rw [hc] at hsz
  have key : ∀ u ∈ cs.toList, ∃ b : UInt8, u = byteV b := by
    intro u hu
    obtain ⟨i, hi, rfl⟩ := List.mem_iff_getElem.1 hu
    have hin : i < n := by rw [← hsz]; simpa using hi
    have h1 := hall i hin
    rw [he, Nat.mul_one, List.getElem?_eq_getElem (by omega)] at h1
    obtain ⟨a, ha, _, hw⟩ := DataW.trod_int Tryd.underlying5 h1
    have e : ((Value.agg cs).cells.toList.drop i).take 1 = [cs.toList[i]] := by
      show ((cs.toList).drop i).take 1 = _
      rw [List.drop_eq_getElem_cons hi]; rfl
    have ha2 : ((Value.agg cs).cells.toList.drop i).take 1 = [.int .u8 a] := ha
    rw [e] at ha2
    have hb : 0 ≤ a ∧ a ≤ 255 := by
      simp [Lit.wf, IntKind.min, IntKind.max, IntKind.signed, IntKind.bits] at hw
      omega
    refine ⟨UInt8.ofNat a.toNat, ?_⟩
    rw [List.cons.inj ha2 |>.1, byteV_ofNat]
    congr 1
    omega
  obtain ⟨l, hl⟩ := all_bytesV cs.toList key
  refine ⟨l, ?_, ?_⟩
  · have := congrArg List.length hl
    simp at this
    omega
  · rw [cells8, ← hl]
theorem getD_in {zs : List Int} {j : Nat} (h : j < zs.length) : zs.getD j 0 ∈ zs := by
  rw [List.getD_eq_getElem?_getD, List.getElem?_eq_getElem h]
  exact List.getElem_mem _
theorem boundsU8 {a : Int} (h : (Lit.int .u8 a).wf = true) : 0 ≤ a ∧ a ≤ 255 := by
  simp [Lit.wf, IntKind.min, IntKind.max, IntKind.signed, IntKind.bits] at h
  omega
theorem hides_w {H : Type} {enc : TypeId × Value → H} {base : Nat} {sp : Nat → Bool} {held : Bool} {d : DataW H} {p : List MemPlace} (a0 : Option Addr) (len0 cap0 : Nat) (l1 : List UInt8) (W : World)
    (k0 : DataW.Trod enc Tryd.prog W base sp held 22 (.slice a0 len0 cap0) d p) (hl1 : l1.length = 2) (_h : True) :
    Calls Tryd.prog 3 #[.slice a0 len0 cap0, .agg (cells8 l1)] W fun e w' => e = .returned (.bool true) ∧ Below W.heap.size W w' := by
  obtain ⟨fuel1, hf1⟩ := k0
  have hz : ∃ z : Nat → Nat, 0 < len0 → ∃ b off, a0 = some ⟨b, off, none⟩ ∧ b < W.heap.size ∧ ∀ j, j < len0 → W.cell? ⟨b, off + j, none⟩ = some (.int .u8 (z j : Int)) ∧ z j < 256 := by
    rcases open_ints Tryd.underlying22 Tryd.underlying5 (by kernel_rfl) hf1 with ⟨hcs, _⟩ | ⟨x, l', c, zs, hcs, _, hl', hm, hz, _, hcell, hwz⟩
    · simp [Value.cells] at hcs
      obtain ⟨rfl, rfl, rfl⟩ := hcs
      exact ⟨fun _ => 0, fun h => absurd h (Nat.lt_irrefl 0)⟩
    · simp [Value.cells] at hcs
      obtain ⟨rfl, rfl, rfl⟩ := hcs
      have hz' : len0 ≤ zs.length := by rw [hz]; split <;> omega
      refine ⟨fun j => (zs.getD j 0).toNat, fun h => ?_⟩
      obtain ⟨b, off, rfl, hc⟩ := ints_at hcell (by omega)
      refine ⟨b, off, rfl, World.block_lt_of_cell? W ⟨b, off + 0, none⟩ (hc 0 (by omega)), fun j hj => ?_⟩
      obtain ⟨q1, q2⟩ := boundsU8 (hwz (zs.getD j 0) (getD_in (by omega)))
      refine ⟨?_, show (zs.getD j 0).toNat < 256 by omega⟩
      rw [hc j (by omega)]
      show some (Value.int .u8 (zs.getD j 0)) = some (Value.int .u8 (((zs.getD j 0).toNat : Nat) : Int))
      rw [Int.toNat_of_nonneg q1]
  obtain ⟨z, hz⟩ := hz
  obtain ⟨x, y, rfl⟩ : ∃ x y, l1 = [x, y] := by
    match l1, hl1 with
    | [x, y], _ => exact ⟨x, y, rfl⟩
  exact hides_any a0 len0 cap0 x.toNat y.toNat W z hz x.toNat_lt y.toNat_lt
end Go.Proofs.YtokeiagcdahmaaaDoor
#print axioms Go.Proofs.YtokeiagcdahmaaaDoor.hides_w
