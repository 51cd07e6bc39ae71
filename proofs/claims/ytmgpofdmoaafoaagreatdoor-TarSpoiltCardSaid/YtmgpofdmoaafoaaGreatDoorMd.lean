/- Generic: some cells of a row are set, one behind the other. -/
import Derived.Test.YtmgpofdmoaafoaaGreatDoorGn
namespace Go.Proofs.YtmgpofdmoaafoaaGreatDoor
open Go.RowKit

/-- Cells in a row, one behind the other, set. -/
theorem rowC_setCells {b : Nat} {t : TypeId} : ∀ (vs : List Value) (o : Nat) {w : World} {cs : List Value}, rowC w b cs.toArray t → o + vs.length ≤ cs.length → rowC (w.setCells b o vs) b (cs.take o ++ vs ++ cs.drop (o + vs.length)).toArray t
  | [], o, w, cs, h, _ => by
    rw [List.append_nil, List.length_nil, Nat.add_zero, List.take_append_drop]
    exact h
  | v :: r, o, w, cs, h, hl => by
    rw [List.length_cons] at hl
    have h1 := rowC_set h o v
    rw [List.setIfInBounds_toArray] at h1
    have h2 := rowC_setCells r (o + 1) h1 (by rw [List.length_set]; omega)
    rw [World.setCells]
    have e : (cs.set o v).take (o + 1) ++ r ++ (cs.set o v).drop (o + 1 + r.length) = cs.take o ++ (v :: r) ++ cs.drop (o + (v :: r).length) := by
      rw [List.drop_set_of_lt (by omega), List.take_succ_eq_append_getElem (by rw [List.length_set]; omega), List.getElem_set_self, List.take_set_of_le (Nat.le_refl _), List.length_cons]
      simp [Nat.add_assoc, Nat.add_comm 1]
    rw [e] at h2
    exact h2
theorem setCells_size (b : Nat) : ∀ (vs : List Value) (o : Nat) (w : World), (w.setCells b o vs).heap.size = w.heap.size
  | [], _, _ => rfl
  | v :: r, o, w => by rw [World.setCells, setCells_size b r, World.size_setCell]
theorem rowC_setCells_other {b g : Nat} {t : TypeId} {cs : Array Value} (hne : g ≠ b) : ∀ (vs : List Value) (o : Nat) {w : World}, rowC w g cs t → rowC (w.setCells b o vs) g cs t
  | [], _, _, h => h
  | v :: r, o, w, h => by
    rw [World.setCells]
    exact rowC_setCells_other hne r (o + 1) (rowC_other h _ _ hne)
theorem below_setCells {B b : Nat} {a : World} (hb : B ≤ b) : ∀ (vs : List Value) (o : Nat) {w : World}, Below B a w → Below B a (w.setCells b o vs)
  | [], _, _, h => h
  | v :: r, o, w, h => by
    rw [World.setCells]
    exact below_setCells hb r (o + 1) (h.setCell (p := ⟨b, o, none⟩) hb _)
theorem row_there {w : World} {b : Nat} {t : TypeId} {cs : Array Value} (h : rowC w b cs t) (o n : Nat) (hn : o + n ≤ cs.size) : w.there b o n := fun j hj => by
  refine ⟨?_, rowC_free h _⟩
  rw [rowC_cell h, Array.getElem?_eq_getElem (by omega)]
  rfl
theorem Gn.sets {W : World} {s : Nat → Prop} {b : Nat} : ∀ (vs : List Value) (o : Nat) {w : World}, Gn W s w → (s b ∨ W.heap.size ≤ b) → Gn W s (w.setCells b o vs)
  | [], _, _, h, _ => h
  | v :: r, o, w, h, hb => by
    rw [World.setCells]
    exact Gn.sets r (o + 1) (h.cell ⟨b, o, none⟩ v hb) hb
end Go.Proofs.YtmgpofdmoaafoaaGreatDoor
