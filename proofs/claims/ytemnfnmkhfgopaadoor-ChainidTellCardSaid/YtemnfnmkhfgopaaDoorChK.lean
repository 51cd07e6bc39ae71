/- Layer 17: what the two tables that are laid give. -/
import Derived.Test.YtemnfnmkhfgopaaDoorChB
import Derived.Test.YtemnfnmkhfgopaaDoorRows
import Derived.ProofKit
import Derived.LaidMore
import Derived.OpenShut
import Derived.Stop.Joined
namespace Go.Proofs.YtemnfnmkhfgopaaDoor
open Go.ChangeShapes Go.WideShapes Go.ChangeAt Go.WideElems Go.RowKit

theorem table_u32 {H : Type} {enc : TypeId × Value → H} {P : Program} {w : World} {base fuel n : Nat} {spare : Nat → Bool} {held : Bool} {T e : TypeId} {cs : List Value} {q : List MemPlace} (hT : P.underlying T = some (.array n e)) (he : P.underlying e = some (.int .u32)) (h1 : P.cellsOf e = 1)
    (L : List Nat) (hd : DataW.trod enc P w base spare held fuel T cs = some (.agg (L.map fun (x : Nat) => .lit (.int .u32 (x : Int))), q)) (j : Nat) (hj : j < L.length) : cs[j]? = some (.int .u32 ((L.getD j 0 : Nat) : Int)) := by
  obtain ⟨xs, m, rfl, hx, hlen, hn, hel⟩ := DataW.trod_array hT hd
  simp only [Prod.mk.injEq, DataW.agg.injEq] at hx
  have hxl : xs.length = L.length := by have := congrArg List.length hx.1; simpa using this.symm
  have hg := hel j (by omega)
  rw [List.getElem?_eq_getElem (by omega)] at hg
  obtain ⟨k, e1, e2, _⟩ := DataW.trod_int he hg
  have hjx : j < xs.length := by omega
  have e3 : (xs[j]'hjx).1 = .lit (.int .u32 ((L.getD j 0 : Nat) : Int)) := by
    have := congrArg (fun l => l[j]?) hx.1
    simp only [List.getElem?_map, List.getElem?_eq_getElem hj, List.getElem?_eq_getElem hjx, Option.map_some, Option.some.injEq] at this
    rw [← this, List.getD_eq_getElem?_getD, List.getElem?_eq_getElem hj]
    rfl
  rw [e2] at e3
  simp only [DataW.lit.injEq, Lit.int.injEq, true_and] at e3
  rw [e3] at e1
  rw [h1, Nat.mul_one] at e1
  have := congrArg (fun l => l[0]?) e1
  simp only [List.getElem?_take, List.getElem?_drop, Nat.add_zero, List.getElem?_cons_zero] at this
  simpa using this
theorem own : ownKnob Tryd.prog.godebug = none := by kernel_rfl
theorem gSquares : Tryd.prog.globalNamed "lighter/sha.squares" = some 0 := by kernel_rfl
theorem gCubes : Tryd.prog.globalNamed "lighter/sha.cubes" = some 1 := by kernel_rfl
theorem tSquares : (Tryd.prog.globals[0]?).map (·.type) = some 41 := by kernel_rfl
theorem tCubes : (Tryd.prog.globals[1]?).map (·.type) = some 48 := by kernel_rfl
def laid2 : List (String × DataW Unit) := [("lighter/sha.squares", Rows.laid_lighter_sha_squares), ("lighter/sha.cubes", Rows.laid_lighter_sha_cubes)]
/-- The door's own heap meets the condition. -/
theorem door_met (os : Os) (args : Array Value) : laidMetH Tryd.prog laid2 ((World.doorLaid Tryd.prog 400 os).forCall (fun _ _ => 0) ⟨#[], args, []⟩).memory :=
  laidMetH_of_parts3 (fuel := 8) (laidMet_of_run' 8 (by kernel_rfl) (by kernel_rfl)) (by kernel_rfl) (by kernel_rfl)
/-- What the condition gives. -/
theorem of_laid {W : World} (h : laidMetH Tryd.prog laid2 W) : Laid W := by
  rw [MakeChecks.laidMetH_plain _ _ _ (by kernel_rfl)] at h
  obtain ⟨ps, ⟨g0, t0, cs0, f0, p0, q0, hg0, ht0, hv0, hd0, ⟨g1, t1, cs1, f1, p1, q1, hg1, ht1, hv1, hd1, _, _⟩, _⟩, _, _⟩ := h
  obtain rfl := Option.some.inj (gSquares.symm.trans hg0)
  obtain rfl := Option.some.inj (gCubes.symm.trans hg1)
  obtain rfl := Option.some.inj (tSquares.symm.trans ht0)
  obtain rfl := Option.some.inj (tCubes.symm.trans ht1)
  have c1 : Tryd.prog.cellsOf 40 = 1 := by kernel_rfl
  have r0 := table_u32 Tryd.underlying41 Tryd.underlying40 c1 initN.list hd0
  have r1 := table_u32 Tryd.underlying48 Tryd.underlying40 c1 kL hd1
  have v0 := fun i => World.var?_cell hg0 hv0 i
  have v1 := fun i => World.var?_cell hg1 hv1 i
  refine ⟨fun i hi => ?_, fun i hi => ?_, ?_⟩
  · rw [v0 i, ← r0 i hi, Array.getElem?_toList]
  · rw [v1 i, kN, ← r1 i hi, Array.getElem?_toList]
  · have h1 := v1 0
    have h2 := r1 0 (by decide)
    refine Nat.lt_of_not_le fun hn => ?_
    have hz : W.heap[1]? = none := Array.getElem?_eq_none (by omega)
    rw [Array.getElem?_toList] at h2
    rw [h2] at h1
    unfold World.cell? at h1
    simp [hz] at h1
end Go.Proofs.YtemnfnmkhfgopaaDoor
