/- Layer 5 on: an array of bytes that comes in. -/
import Derived.Test.YtemnfnmkhfgopaaDoorMem
import Derived.OpenShut
import Derived.ChangeArms
namespace Go.Proofs.YtemnfnmkhfgopaaDoor
open Go.RowKit Go.ChangeShapes Go.WideShapes

theorem all_bytesV : ∀ cs : List Value, (∀ v ∈ cs, ∃ b : UInt8, v = byteV b) → ∃ l : List UInt8, cs = l.map byteV
  | [], _ => ⟨[], rfl⟩
  | v :: r, h => by
    obtain ⟨b, rfl⟩ := h v (by simp)
    obtain ⟨l, rfl⟩ := all_bytesV r (fun u hu => h u (by simp [hu]))
    exact ⟨b :: l, rfl⟩
/-- An array of bytes that comes in, by what its reading says. -/
theorem open_bytes {H : Type} {enc : TypeId × Value → H} {W : World} {b0 base : Nat} {sp : Nat → Bool} {held : Bool} {t : TypeId} {n : Nat} {v : Value} {d : DataW H} {p : List MemPlace}
    (ht : Tryd.prog.underlying t = some (.array n 5)) (hv : Value.okWide Tryd.prog W .any b0 t v) (hd : DataW.Trod enc Tryd.prog W base sp held t v d p) (hc : Tryd.prog.cellsOf t = n) :
    ∃ l : List UInt8, l.length = n ∧ v = .agg (cells8 l) := by
  have he : Tryd.prog.cellsOf 5 = 1 := by kernel_rfl
  simp only [Value.okWide, ht] at hv
  obtain ⟨cs, rfl, hsz, _⟩ := hv
  obtain ⟨fuel, hf⟩ := hd
  obtain ⟨xs, m, _, _, _, hxs, hall⟩ := DataW.trod_array ht hf
  rw [hc] at hsz
  have key : ∀ u ∈ cs.toList, ∃ b : UInt8, u = byteV b := by
    intro u hu
    obtain ⟨i, hi, rfl⟩ := List.mem_iff_getElem.1 hu
    have hin : i < n := by rw [← hsz]; simpa using hi
    have h1 := hall i hin
    rw [he, Nat.mul_one, List.getElem?_eq_getElem (by omega)] at h1
    obtain ⟨a, ha, _, hw⟩ := DataW.trod_int Tryd.underlying5 h1
    have e : ((Value.agg cs).cells.toList.drop i).take 1 = [cs.toList[i]] := by
      show ((cs.toList).drop i).take 1 = _
      rw [List.drop_eq_getElem_cons hi]; rfl
    have ha2 : ((Value.agg cs).cells.toList.drop i).take 1 = [.int .u8 a] := ha
    rw [e] at ha2
    have hb : 0 ≤ a ∧ a ≤ 255 := by
      simp [Lit.wf, IntKind.min, IntKind.max, IntKind.signed, IntKind.bits] at hw
      omega
    refine ⟨UInt8.ofNat a.toNat, ?_⟩
    rw [List.cons.inj ha2 |>.1, byteV_ofNat]
    congr 1
    omega
  obtain ⟨l, hl⟩ := all_bytesV cs.toList key
  refine ⟨l, ?_, ?_⟩
  · have := congrArg List.length hl
    simp at this
    omega
  · rw [cells8, ← hl]
end Go.Proofs.YtemnfnmkhfgopaaDoor
