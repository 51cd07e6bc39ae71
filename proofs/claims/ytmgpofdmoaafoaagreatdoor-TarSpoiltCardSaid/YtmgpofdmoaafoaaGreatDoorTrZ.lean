/- Layer 15: what the variables that start-up laid give. -/
import Derived.Test.YtmgpofdmoaafoaaGreatDoorTrK
import Derived.Lib.LaidTab
import Derived.Test.YtmgpofdmoaafoaaGreatDoorRows
import Derived.ProofKit
import Derived.LaidMore
import Derived.LaidLaws
import Derived.LaidHandle
import Derived.Lib.LaidU8T
import Derived.OpenShut
import Derived.Stop.Joined
import Derived.Stop.LaidErr
namespace Go.Proofs.YtmgpofdmoaafoaaGreatDoor
open Go.ChangeShapes Go.WideShapes Go.ChangeAt Go.WideElems Go.RowKit

theorem own : ownKnob Tryz.prog.godebug = none := by kernel_rfl
def laid2 : List (String × DataW Unit) := [("math/bits.deBruijn32tab", Rows.laid_math_bits_deBruijn32tab), ("math/bits.deBruijn64tab", Rows.laid_math_bits_deBruijn64tab), ("internal/strconv.uint64pow10", Rows.laid_internal_strconv_uint64pow10), ("unicode/utf8.acceptRanges", Rows.laid_unicode_utf8_acceptRanges), ("unicode/utf8.first", Rows.laid_unicode_utf8_first)]
/-- The door's own heap, with the library's great table laid. -/
noncomputable def startW (os : Os) : World :=
  let w0 := World.doorLaid Tryz.prog 400 os
  { w0 with heap := w0.heap.modify 1 fun
      | .cells _ t frozen => .cells (Go.Pinned.utf8FirstZ.map fun (z : Nat) => Value.int .u8 (z : Int)).toArray t frozen
      | o => o }
theorem door_met (os : Os) (args : Array Value) : laidMetH Tryz.prog laid2 ((startW os).forCall (fun _ _ => 0) ⟨#[], args, []⟩).memory :=
  laidMetH_of_parts3 (fuel := 8) (laidMet_of_run' 8 (by kernel_rfl) (by kernel_rfl)) (by kernel_rfl) (by kernel_rfl)
theorem gPow : Tryz.prog.globalNamed "internal/strconv.uint64pow10" = some 3 := by kernel_rfl
theorem gFirst : Tryz.prog.globalNamed "unicode/utf8.first" = some 1 := by kernel_rfl
theorem gTz : Tryz.prog.globalNamed "math/bits.deBruijn64tab" = some 5 := by kernel_rfl
theorem tTz : (Tryz.prog.globals[5]?).map (·.type) = some 148 := by kernel_rfl
def tz64 : List Int := [0, 1, 56, 2, 57, 49, 28, 3, 61, 58, 42, 50, 38, 29, 17, 4, 62, 47, 59, 36, 45, 43, 51, 22, 53, 39, 33, 30, 24, 18, 12, 5, 63, 55, 48, 27, 60, 41, 37, 16, 46, 35, 44, 21, 52, 32, 23, 11, 54, 26, 40, 15, 34, 20, 31, 10, 25, 14, 19, 9, 13, 8, 7, 6]
set_option maxRecDepth 100000 in
theorem laid_split {W : World} (h : laidMetH Tryz.prog laid2 W) : laidMet Tryz.prog laid2 W := h
set_option maxRecDepth 100000 in
theorem of_laid {W : World} (h : laidMetH Tryz.prog laid2 W) : EnvT W := by
  have hd := laid_split h
  have rt_ := Lib.laidMet.reads hd (n := "math/bits.deBruijn64tab") (d := Rows.laid_math_bits_deBruijn64tab) (.tail _ (.head _))
  have h2 := hd.tail.tail
  have e : (Rows.laid_internal_strconv_uint64pow10 : DataW Unit) = Lib.tabData .u64 Lib.pow10Tab := by kernel_rfl
  rw [e] at h2
  refine ⟨Lib.tabIs_of_head (g := 3) (t := 143) (e := 112) (n := 20) (by kernel_rfl) (by kernel_rfl) Tryz.underlying143 Tryz.underlying112 (by kernel_rfl) (by kernel_rfl) h2, ?_⟩
  have htz : W.cell? ⟨5, 15, none⟩ = some (.int .u8 4) := by
    obtain ⟨g, t, cs, fuel, p, h1, h2, h3, h4⟩ := rt_
    obtain rfl := Option.some.inj (gTz.symm.trans h1)
    obtain rfl := Option.some.inj (tTz.symm.trans h2)
    have hcs := Lib.cells_of_tab (zs := tz64) Tryz.underlying148 Tryz.underlying5 (by kernel_rfl) (by kernel_rfl) h4
    rw [World.var?_cell h1 h3 15, ← Array.getElem?_toList, hcs]
    rfl
  exact World.block_lt_of_cell? W _ htz
end Go.Proofs.YtmgpofdmoaafoaaGreatDoor
