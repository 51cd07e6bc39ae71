/- Merged: Stp, Gn. -/
import Derived.Test.YtbjgmkjinnbokaaGreatDoorM01
import Derived.Deep.AppendLies
import Derived.Deep.MidRow
/- Generic: a whole row is stored at a step of a region that draws its order. -/
namespace Go.Proofs.YtbjgmkjinnbokaaGreatDoor
open Go.RowKit

theorem step_store_row {P : Program} {ops : Array Oper} {o : Oper} {a : Act} {w : World} {K : Act → World → Prop} {Q : Exit → Act → World → Prop} {E : Prop} (hgd : o.guard = none) (ty : TypeId) (x y : Operand) (ho : o.op = .store ty x y)
    (g : Nat) (cells : Array Value) (hx : a.eval x = .pointer (some ⟨g, 0, none⟩)) (hy : a.eval y = .agg cells)
    (t : TypeId) (old : Array Value) (hg : w.heap[g]? = some (.cells old t (0, 0))) (hi : (P.info? ty).map (·.size) = some cells.size)
    (hold : old.size = cells.size) (h1 : cells.all (·.oneCell') = true)
    (h : K (a.put o.dst undef) (w.setRow g cells)) : if Region.wanted o (yielded ops a.tmps) = true then Oper.wp P o a w K Q else E := by
  have hw : Region.wanted o (yielded ops a.tmps) = true := by simp [Region.wanted, hgd]
  rw [if_pos hw]
  exact wp_store_row ty x y ho g cells hx hy t old hg hi hold h1 h
end Go.Proofs.YtbjgmkjinnbokaaGreatDoor

/- Generic: a world that has grown from another, but for some blocks that may have been written. -/
namespace Go.Proofs.YtbjgmkjinnbokaaGreatDoor
open Go.RowKit

/-- No block. -/
abbrev no : Nat → Prop := fun _ => False
def Gn (W : World) (s : Nat → Prop) (w : World) : Prop := Chg s W w
theorem Gn.start (W : World) (s : Nat → Prop) : Gn W s W.drew := (Chg.refl _ _).drew
theorem Gn.refl (W : World) (s : Nat → Prop) : Gn W s W := Chg.refl _ _
theorem Gn.alloc {W w : World} {s : Nat → Prop} (h : Gn W s w) (o : Obj) : Gn W s (w.alloc o) := Chg.alloc h o
theorem Gn.drew {W w : World} {s : Nat → Prop} (h : Gn W s w) : Gn W s w.drew := Chg.drew h
theorem Gn.call {W w w' : World} {s : Nat → Prop} (h : Gn W s w) (hb : Below w.heap.size w w') : Gn W s w' := Chg.then_below h hb
theorem Gn.grown {W w w' : World} {s : Nat → Prop} (h : Gn W s w) {row : Option Nat} (g : w.grownBy w' row) (hr : ∀ k, row = some k → s k ∨ W.heap.size ≤ k) : Gn W s w' := Chg.grown h g hr
theorem Gn.set {W w : World} {s : Nat → Prop} (h : Gn W s w) (g : Nat) (cs : Array Value) (hg : s g ∨ W.heap.size ≤ g) : Gn W s (w.setRow g cs) := Chg.setRow h g cs hg
theorem Gn.cell {W w : World} {s : Nat → Prop} (h : Gn W s w) (p : Addr) (v : Value) (hg : s p.block ∨ W.heap.size ≤ p.block) : Gn W s (w.setCell p v) := Chg.setCell h p v hg
theorem Gn.row {W w : World} {s : Nat → Prop} {b : Nat} {cs : Array Value} {t : TypeId} (h : Gn W s w) (hr : rowC W b cs t) (hne : ¬ s b) : rowC w b cs t := Chg.rowC h hr hne
theorem Gn.size {W w : World} {s : Nat → Prop} (h : Gn W s w) : W.heap.size ≤ w.heap.size := Chg.size h
theorem Gn.below {W w : World} {s : Nat → Prop} (h : Gn W s w) {B : Nat} (hB : B ≤ W.heap.size) (hr : ∀ k, k < B → ¬ s k) : Below B W w := Chg.below h hB hr
theorem rowC_range {w : World} {b : Nat} {cs : Array Value} {t : TypeId} (h : rowC w b cs t) (o : Nat) (l : List Value) (hl : ∀ j v, l[j]? = some v → cs[o + j]? = some v) : w.rangeAt b o l := fun j v hj => by
  rw [rowC_cell h]
  exact hl j v hj
end Go.Proofs.YtbjgmkjinnbokaaGreatDoor

