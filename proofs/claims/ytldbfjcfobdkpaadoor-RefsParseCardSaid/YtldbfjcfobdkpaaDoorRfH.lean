/- Layer 12: a name that is being read, in memory. -/
import Derived.Deep.Cut
import Derived.Deep.CutRange
import Derived.Test.YtldbfjcfobdkpaaDoorRfG
namespace Go.Proofs.YtldbfjcfobdkpaaDoor
open Go.RowKit

theorem refC_dom (r : RR) (d : List UInt8) : (refC r).setIfInBounds 0 (.string (str d)) = refC { r with dom := d } := by
  unfold refC refL
  rw [List.setIfInBounds_toArray]
  rfl
theorem refC_path (r : RR) (d : List UInt8) : (refC r).setIfInBounds 1 (.string (str d)) = refC { r with path := d } := by
  unfold refC refL
  rw [List.setIfInBounds_toArray]
  rfl
theorem refC_tag (r : RR) (d : List UInt8) : (refC r).setIfInBounds 2 (.string (str d)) = refC { r with tag := d } := by
  unfold refC refL
  rw [List.setIfInBounds_toArray]
  rfl
theorem refC_pin (r : RR) (b : Bool) (h : r.dig.length = 32) : (refC r).setIfInBounds 35 (.bool b) = refC { r with pin := b } := by
  unfold refC refL
  rw [List.setIfInBounds_toArray, List.set_append_right _ _ (by simp [h])]
  simp [h]
/-- Cells in a row, one behind the other, set. -/
theorem rowC_setCells {b : Nat} {t : TypeId} : ∀ (vs : List Value) (o : Nat) {w : World} {cs : List Value}, rowC w b cs.toArray t → o + vs.length ≤ cs.length → rowC (w.setCells b o vs) b (cs.take o ++ vs ++ cs.drop (o + vs.length)).toArray t
  | [], o, w, cs, h, _ => by
    rw [List.append_nil, List.length_nil, Nat.add_zero, List.take_append_drop]
    exact h
  | v :: r, o, w, cs, h, hl => by
    rw [List.length_cons] at hl
    have h1 := rowC_set h o v
    rw [List.setIfInBounds_toArray] at h1
    have h2 := rowC_setCells r (o + 1) h1 (by rw [List.length_set]; omega)
    rw [World.setCells]
    have e : (cs.set o v).take (o + 1) ++ r ++ (cs.set o v).drop (o + 1 + r.length) = cs.take o ++ (v :: r) ++ cs.drop (o + (v :: r).length) := by
      rw [List.drop_set_of_lt (by omega), List.take_succ_eq_append_getElem (by rw [List.length_set]; omega), List.getElem_set_self, List.take_set_of_le (Nat.le_refl _), List.length_cons]
      simp [Nat.add_assoc, Nat.add_comm 1]
    rw [e] at h2
    exact h2
theorem setCells_size (b : Nat) : ∀ (vs : List Value) (o : Nat) (w : World), (w.setCells b o vs).heap.size = w.heap.size
  | [], _, _ => rfl
  | v :: r, o, w => by rw [World.setCells, setCells_size b r, World.size_setCell]
theorem rowC_setCells_other {b g : Nat} {t : TypeId} {cs : Array Value} (hne : g ≠ b) : ∀ (vs : List Value) (o : Nat) {w : World}, rowC w g cs t → rowC (w.setCells b o vs) g cs t
  | [], _, _, h => h
  | v :: r, o, w, h => by
    rw [World.setCells]
    exact rowC_setCells_other hne r (o + 1) (rowC_other h _ _ hne)
theorem below_setCells {B b : Nat} {a : World} (hb : B ≤ b) : ∀ (vs : List Value) (o : Nat) {w : World}, Below B a w → Below B a (w.setCells b o vs)
  | [], _, _, h => h
  | v :: r, o, w, h => by
    rw [World.setCells]
    exact below_setCells hb r (o + 1) (h.setCell (p := ⟨b, o, none⟩) hb _)
theorem refL_dig (r : RR) (d : List UInt8) (h : r.dig.length = 32) (hd : d.length = 32) : (refL r).take 3 ++ d.map byteV ++ (refL r).drop (3 + (d.map byteV).length) = refL { r with dig := d } := by
  unfold refL
  rw [List.length_map, hd]
  have e1 : ([Value.string (str r.dom), .string (str r.path), .string (str r.tag)] ++ r.dig.map byteV ++ [Value.bool r.pin]).take 3 = [Value.string (str r.dom), .string (str r.path), .string (str r.tag)] := by
    rw [List.append_assoc]; rfl
  have e2 : ([Value.string (str r.dom), .string (str r.path), .string (str r.tag)] ++ r.dig.map byteV ++ [Value.bool r.pin]).drop (3 + 32) = [Value.bool r.pin] := by
    rw [List.drop_append_of_le_length (by simp [h]), List.drop_eq_nil_of_le (by simp [h])]
    rfl
  rw [e1, e2]
/-- Parse's world: what is told, and the name that is being read. -/
structure PM (W w : World) (z r : RR) : Prop where
  b : Below W.heap.size W w
  z : refAt w W.heap.size z
  r : refAt w (W.heap.size + 1) r
theorem PM.below {W w w' : World} {z r : RR} (h : PM W w z r) (hb : Below w.heap.size w w') : PM W w' z r := ⟨h.b.trans (hb.mono h.b.size), h.z.below hb, h.r.below hb⟩
theorem PM.dom {W w : World} {z r : RR} (h : PM W w z r) (d : List UInt8) : PM W (w.setCell ⟨W.heap.size + 1, 0, none⟩ (.string (str d))) z { r with dom := d } :=
  ⟨h.b.setCell (p := ⟨W.heap.size + 1, 0, none⟩) (by simp) _, rowC_other h.z _ _ (by simp), by unfold refAt; rw [← refC_dom]; exact rowC_set h.r 0 _⟩
theorem PM.path {W w : World} {z r : RR} (h : PM W w z r) (d : List UInt8) : PM W (w.setCell ⟨W.heap.size + 1, 1, none⟩ (.string (str d))) z { r with path := d } :=
  ⟨h.b.setCell (p := ⟨W.heap.size + 1, 1, none⟩) (by simp) _, rowC_other h.z _ _ (by simp), by unfold refAt; rw [← refC_path]; exact rowC_set h.r 1 _⟩
theorem PM.tag {W w : World} {z r : RR} (h : PM W w z r) (d : List UInt8) : PM W (w.setCell ⟨W.heap.size + 1, 2, none⟩ (.string (str d))) z { r with tag := d } :=
  ⟨h.b.setCell (p := ⟨W.heap.size + 1, 2, none⟩) (by simp) _, rowC_other h.z _ _ (by simp), by unfold refAt; rw [← refC_tag]; exact rowC_set h.r 2 _⟩
theorem PM.pin {W w : World} {z r : RR} (h : PM W w z r) (hd : r.dig.length = 32) (b : Bool) : PM W (w.setCell ⟨W.heap.size + 1, 35, none⟩ (.bool b)) z { r with pin := b } :=
  ⟨h.b.setCell (p := ⟨W.heap.size + 1, 35, none⟩) (by simp) _, rowC_other h.z _ _ (by simp), by unfold refAt; rw [← refC_pin r b hd]; exact rowC_set h.r 35 _⟩
theorem PM.dig {W w : World} {z r : RR} (h : PM W w z r) (hr : r.dig.length = 32) (d : List UInt8) (hd : d.length = 32) : PM W (w.setCells (W.heap.size + 1) 3 (d.map byteV)) z { r with dig := d } := by
  refine ⟨below_setCells (by omega) _ _ h.b, rowC_setCells_other (by omega) _ _ h.z, ?_⟩
  unfold refAt refC
  rw [← refL_dig r d hr hd]
  exact rowC_setCells _ 3 h.r (by unfold refL; simp [hr, hd])
theorem PM.res {W w : World} {z r : RR} (h : PM W w z r) (x : RR) : PM W (w.setRow W.heap.size (refC x)) x r :=
  ⟨below_setRow h.b (Nat.le_refl _) _, rowC_setRow h.z _, rowC_setRow_other h.r _ _ (by omega)⟩
theorem PM.cells {W w : World} {z r : RR} (h : PM W w z r) (ho : r.ok) :
    (w.cell? ⟨W.heap.size + 1, 0, none⟩ = some (.string (str r.dom)) ∧ w.cell? ⟨W.heap.size + 1, 1, none⟩ = some (.string (str r.path)) ∧ w.cell? ⟨W.heap.size + 1, 2, none⟩ = some (.string (str r.tag)) ∧ w.cell? ⟨W.heap.size + 1, 35, none⟩ = some (.bool r.pin)) ∧
    (w.frozen? ⟨W.heap.size + 1, 0, none⟩ = false ∧ w.frozen? ⟨W.heap.size + 1, 1, none⟩ = false ∧ w.frozen? ⟨W.heap.size + 1, 2, none⟩ = false ∧ w.frozen? ⟨W.heap.size + 1, 35, none⟩ = false) :=
  ⟨h.r.cells ho, rowC_free h.r 0, rowC_free h.r 1, rowC_free h.r 2, rowC_free h.r 35⟩
theorem PM.there {W w : World} {z r : RR} (h : PM W w z r) (ho : r.ok) : w.there (W.heap.size + 1) 3 32 := fun j hj => by
  refine ⟨?_, rowC_free h.r _⟩
  rw [rowC_cell h.r (3 + j), Array.getElem?_eq_getElem (by rw [refC_size ho]; omega)]
  rfl
theorem zero_ok : zeroR.ok := ⟨by decide, by decide, by decide, rfl⟩
theorem built_ref : Tryd.prog.built 26 [] = some (refC zeroR) := by kernel_rfl
theorem zero_lit : refC zeroR = #[.string ⟨#[]⟩, .string ⟨#[]⟩, .string ⟨#[]⟩, .int .u8 0, .int .u8 0, .int .u8 0, .int .u8 0, .int .u8 0, .int .u8 0, .int .u8 0, .int .u8 0, .int .u8 0, .int .u8 0, .int .u8 0, .int .u8 0, .int .u8 0, .int .u8 0, .int .u8 0, .int .u8 0, .int .u8 0, .int .u8 0, .int .u8 0, .int .u8 0, .int .u8 0, .int .u8 0, .int .u8 0, .int .u8 0, .int .u8 0, .int .u8 0, .int .u8 0, .int .u8 0, .int .u8 0, .int .u8 0, .int .u8 0, .int .u8 0, .bool false] := by kernel_rfl
end Go.Proofs.YtldbfjcfobdkpaaDoor
