/- Lists of digests in memory. -/
import Derived.Test.YtemnfnmkhfgopaaDoorLs
import Derived.Test.YtemnfnmkhfgopaaDoorOpen
namespace Go.Proofs.YtemnfnmkhfgopaaDoor
open Go.RowKit Go.ChangeShapes Go.WideShapes Go.Deep

theorem info_dig : ∃ i z, Tryd.prog.info? 26 = some i ∧ i.zero = some z ∧ i.size = 32 ∧ i.bytes = 32 ∧ z.cells.size = 32 :=
  ⟨_, _, rfl, rfl, by kernel_rfl, by kernel_rfl, by kernel_rfl⟩
def DgE : Els (List UInt8) where
  e := 26
  s := 22
  sz := 32
  bytes := 32
  enc := fun d => d.map byteV
  ok := fun d => d.length = 32
  len := fun h => by rw [List.length_map]; exact h
  one := fun _ u hu => by obtain ⟨b, _, rfl⟩ := List.mem_map.1 hu; rfl
  pos := by decide
  hs := Tryd.underlying22
  info := info_dig
  cells := by kernel_rfl
theorem info_dig32 {d : List UInt8} (h : d.length = 32) : (Tryd.prog.info? 26).map (·.size) = some (d.map byteV).length := by rw [List.length_map, h]; kernel_rfl
section
variable {H : Type} {enc : TypeId × Value → H} {W : World} {base : Nat} {sp : Nat → Bool} {held : Bool}
set_option maxRecDepth 100000 in
theorem open_digL {fuel : Nat} {cs : List Value} {x : DataW H × List MemPlace} (h : DataW.trod enc Tryd.prog W base sp held fuel 26 cs = some x) : ∃ l : List UInt8, l.length = 32 ∧ cs = l.map byteV := by
  have he : Tryd.prog.cellsOf 5 = 1 := by kernel_rfl
  have hc : Tryd.prog.cellsOf 26 = 32 := by kernel_rfl
  obtain ⟨xs, m, _, _, hsz, hxs, hall⟩ := DataW.trod_array Tryd.underlying26 h
  rw [hc] at hsz
  have key : ∀ u ∈ cs, ∃ b : UInt8, u = byteV b := by
    intro u hu
    obtain ⟨i, hi, rfl⟩ := List.mem_iff_getElem.1 hu
    have h1 := hall i (by omega)
    rw [he, Nat.mul_one, List.getElem?_eq_getElem (by omega)] at h1
    obtain ⟨a, ha, _, hw⟩ := DataW.trod_int Tryd.underlying5 h1
    have e : (cs.drop i).take 1 = [cs[i]] := by
      rw [List.drop_eq_getElem_cons hi]; rfl
    rw [e] at ha
    have hb : 0 ≤ a ∧ a ≤ 255 := by
      simp [Lit.wf, IntKind.min, IntKind.max, IntKind.signed, IntKind.bits] at hw
      omega
    refine ⟨UInt8.ofNat a.toNat, ?_⟩
    rw [List.cons.inj ha |>.1, byteV_ofNat]
    congr 1
    omega
  obtain ⟨l, hl⟩ := all_bytesV cs key
  refine ⟨l, ?_, hl⟩
  have := congrArg List.length hl
  rw [List.length_map] at this
  omega
/-- A list of digests that comes in. -/
theorem open_digests {fuel : Nat} {v : Value} {x : DataW H × List MemPlace} (h : DataW.trod enc Tryd.prog W base sp held fuel 22 [v] = some x) :
    ∃ (l : List (List UInt8)) (xp : Option Addr) (cp : Nat), v = .slice xp l.length cp ∧ DgE.At W xp l ∧ l.length ≤ maxLen :=
  DgE.open (fun h => open_digL h) h
end
end Go.Proofs.YtemnfnmkhfgopaaDoor
