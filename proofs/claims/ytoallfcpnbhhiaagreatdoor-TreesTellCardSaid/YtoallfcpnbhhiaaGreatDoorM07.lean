/- Merged: Gn, Bld. -/
import Derived.Test.YtoallfcpnbhhiaaGreatDoorM03
import Derived.Test.YtoallfcpnbhhiaaGreatDoorM06
import Derived.Deep.MidRow
import Derived.Great.BuildSlice
/- Generic: a world that has grown from another, but for some blocks that may have been written. -/
namespace Go.Proofs.YtoallfcpnbhhiaaGreatDoor
open Go.RowKit

/-- No block. -/
abbrev no : Nat → Prop := fun _ => False
def Gn (W : World) (s : Nat → Prop) (w : World) : Prop := Chg s W w
theorem Gn.start (W : World) (s : Nat → Prop) : Gn W s W.drew := (Chg.refl _ _).drew
theorem Gn.refl (W : World) (s : Nat → Prop) : Gn W s W := Chg.refl _ _
theorem Gn.alloc {W w : World} {s : Nat → Prop} (h : Gn W s w) (o : Obj) : Gn W s (w.alloc o) := Chg.alloc h o
theorem Gn.drew {W w : World} {s : Nat → Prop} (h : Gn W s w) : Gn W s w.drew := Chg.drew h
theorem Gn.call {W w w' : World} {s : Nat → Prop} (h : Gn W s w) (hb : Below w.heap.size w w') : Gn W s w' := Chg.then_below h hb
theorem Gn.grown {W w w' : World} {s : Nat → Prop} (h : Gn W s w) {row : Option Nat} (g : w.grownBy w' row) (hr : ∀ k, row = some k → s k ∨ W.heap.size ≤ k) : Gn W s w' := Chg.grown h g hr
theorem Gn.set {W w : World} {s : Nat → Prop} (h : Gn W s w) (g : Nat) (cs : Array Value) (hg : s g ∨ W.heap.size ≤ g) : Gn W s (w.setRow g cs) := Chg.setRow h g cs hg
theorem Gn.cell {W w : World} {s : Nat → Prop} (h : Gn W s w) (p : Addr) (v : Value) (hg : s p.block ∨ W.heap.size ≤ p.block) : Gn W s (w.setCell p v) := Chg.setCell h p v hg
theorem Gn.row {W w : World} {s : Nat → Prop} {b : Nat} {cs : Array Value} {t : TypeId} (h : Gn W s w) (hr : rowC W b cs t) (hne : ¬ s b) : rowC w b cs t := Chg.rowC h hr hne
theorem Gn.size {W w : World} {s : Nat → Prop} (h : Gn W s w) : W.heap.size ≤ w.heap.size := Chg.size h
theorem Gn.below {W w : World} {s : Nat → Prop} (h : Gn W s w) {B : Nat} (hB : B ≤ W.heap.size) (hr : ∀ k, k < B → ¬ s k) : Below B W w := Chg.below h hB hr
theorem rowC_range {w : World} {b : Nat} {cs : Array Value} {t : TypeId} (h : rowC w b cs t) (o : Nat) (l : List Value) (hl : ∀ j v, l[j]? = some v → cs[o + j]? = some v) : w.rangeAt b o l := fun j v hj => by
  rw [rowC_cell h]
  exact hl j v hj
end Go.Proofs.YtoallfcpnbhhiaaGreatDoor

/- Generic: a slice literal of one row. -/
namespace Go.Proofs.YtoallfcpnbhhiaaGreatDoor
open Go.RowKit

theorem foldl_set : ∀ (l : List Value) (k : Nat) (base : Array Value), k + l.length ≤ base.size →
    ((l.zipIdx k).foldl (fun (a : Array Value) (p : Value × Nat) => a.setIfInBounds (0 + p.2) p.1) base).size = base.size ∧
    ∀ i, ((l.zipIdx k).foldl (fun (a : Array Value) (p : Value × Nat) => a.setIfInBounds (0 + p.2) p.1) base)[i]? = if k ≤ i ∧ i < k + l.length then l[i - k]? else base[i]?
  | [], k, base, _ => by
    refine ⟨rfl, fun i => ?_⟩
    rw [if_neg (by rw [List.length_nil]; omega)]
    rfl
  | c :: l, k, base, h => by
    rw [List.length_cons] at h
    have ih := foldl_set l (k + 1) (base.setIfInBounds (0 + k) c) (by rw [Array.size_setIfInBounds]; omega)
    rw [List.zipIdx_cons, List.foldl_cons]
    refine ⟨ih.1.trans (Array.size_setIfInBounds), fun i => ?_⟩
    rw [ih.2 i, List.length_cons]
    by_cases h1 : k + 1 ≤ i ∧ i < k + 1 + l.length
    · rw [if_pos h1, if_pos (by omega), show i - k = (i - (k + 1)) + 1 by omega, List.getElem?_cons_succ]
    · rw [if_neg h1]
      by_cases h2 : i = k
      · subst h2
        rw [if_pos (by omega), Nat.sub_self, List.getElem?_cons_zero, Nat.zero_add, Array.getElem?_setIfInBounds_self_of_lt (by omega)]
      · rw [if_neg (by omega), Nat.zero_add, Array.getElem?_setIfInBounds_ne (by omega)]
theorem fill_whole (cs base : Array Value) (h : base.size = cs.size) : cs.zipIdx.foldl (fun (a : Array Value) (p : Value × Nat) => a.setIfInBounds (0 + p.2) p.1) base = cs := by
  have h1 := foldl_set cs.toList 0 base (by simp [h])
  have e : cs.zipIdx.foldl (fun (a : Array Value) (p : Value × Nat) => a.setIfInBounds (0 + p.2) p.1) base = (cs.toList.zipIdx 0).foldl (fun (a : Array Value) (p : Value × Nat) => a.setIfInBounds (0 + p.2) p.1) base := by
    rw [← Array.foldl_toList, Array.toList_zipIdx]
  rw [e]
  apply Array.ext_getElem?
  intro i
  rw [h1.2 i]
  by_cases hi : i < cs.size
  · rw [if_pos (by simp; omega), Nat.sub_zero, Array.getElem?_toList]
  · rw [if_neg (by simp; omega), Array.getElem?_eq_none (by omega), Array.getElem?_eq_none (by omega)]
theorem wpList_oneR {P : Program} {ops : Array Oper} {rest : List Oper} {o : Oper} {a : Act} {w : World} {Q : Exit → Act → World → Prop} (hg : o.guard = none) (t e : TypeId) (n : Nat) (x : Operand) (ho : o.op = .buildSlice t 1 #[(0, x)])
    (cells : Array Value) (hx : a.eval x = .agg cells) (ie : TypeInfo) (z : Value) (hu : P.underlying t = some (.slice e)) (hie : P.info? e = some ie) (hz : ie.zero = some z) (hs : ie.size = n) (hn : cells.size = n) (hpos : 0 < n) (hsm : n ≤ 1000)
    (h : wpList P ops Q rest (a.put o.dst (.slice (some ⟨w.heap.size, 0, none⟩) 1 1)) (w.alloc (.cells cells e))) : wpList P ops Q (o :: rest) a w := by
  refine wpList_buildSlice hg t e 1 _ ho cells ie z hu hie hz (by omega) (by omega) ?_ h
  have e1 : (Array.map (fun (x : Nat × Operand) => (x.1, a.eval x.2)) #[(0, x)]).toList = [(0, .agg cells)] := by
    simp [hx]
  show Instr.fill _ _ (Array.map (fun (x : Nat × Operand) => (x.1, a.eval x.2)) #[(0, x)]).toList = some cells
  rw [e1]
  have hb : ((Array.range (1 * ie.size)).map (z.cells[· % z.cells.size]!)).size = cells.size := by simp [hs, hn]
  have hv : (Value.agg cells).cells = cells := rfl
  unfold Instr.fill
  simp only [Nat.zero_mul, hv]
  rw [if_neg (by simp [hs, hn])]
  unfold Instr.fill
  exact congrArg some (fill_whole cells _ hb)
end Go.Proofs.YtoallfcpnbhhiaaGreatDoor

