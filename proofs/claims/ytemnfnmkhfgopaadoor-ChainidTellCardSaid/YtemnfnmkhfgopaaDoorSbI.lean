/- Layer 4: a hasher in memory; New, Copy, Size. -/
import Derived.Test.YtemnfnmkhfgopaaDoorSbG
import Derived.Test.YtemnfnmkhfgopaaDoorSbH
namespace Go.Proofs.YtemnfnmkhfgopaaDoor
open Go.RowKit

/-- A hasher's cells: made, the eight numbers, the rest, the size. -/
def hcells (v : List Nat) (r : List UInt8) (n : Nat) : List Value := .bool true :: (v.map u32V ++ (r.map byteV ++ [.int .i64 (n : Int)]))
def hrow (v : List Nat) (r : List UInt8) (n : Nat) : Array Value := (hcells v r n).toArray
theorem hcells_length {v : List Nat} {r : List UInt8} (n : Nat) (hv : v.length = 8) (hr : r.length = 64) : (hcells v r n).length = 74 := by
  simp [hcells, hv, hr]
theorem hrow_size {v : List Nat} {r : List UInt8} (n : Nat) (hv : v.length = 8) (hr : r.length = 64) : (hrow v r n).size = 74 := by
  unfold hrow; rw [List.size_toArray, hcells_length n hv hr]
theorem hrow_made (v : List Nat) (r : List UInt8) (n : Nat) : (hrow v r n)[0]? = some (.bool true) := by simp [hrow, hcells]
theorem hrow_n {v : List Nat} {r : List UInt8} (n : Nat) (hv : v.length = 8) (hr : r.length = 64) : (hrow v r n)[73]? = some (.int .i64 (n : Int)) := by
  unfold hrow hcells
  rw [List.getElem?_toArray, List.getElem?_cons_succ, List.getElem?_append_right (by rw [List.length_map, hv]; omega), List.length_map, hv, List.getElem?_append_right (by rw [List.length_map, hr]; omega), List.length_map, hr]
  rfl
theorem hrow_sum {v : List Nat} (r : List UInt8) (n : Nat) {j : Nat} (hj : j < v.length) : (hrow v r n)[1 + j]? = some (u32V (v.getD j 0)) := by
  unfold hrow hcells
  rw [List.getElem?_toArray, Nat.add_comm, List.getElem?_cons_succ, List.getElem?_append_left (by rw [List.length_map]; exact hj), List.getElem?_map, List.getElem?_eq_getElem hj, List.getD_eq_getElem?_getD, List.getElem?_eq_getElem hj]
  rfl
theorem hrow_rest {v : List Nat} {r : List UInt8} (n : Nat) (hv : v.length = 8) {j : Nat} (hj : j < r.length) : (hrow v r n)[9 + j]? = some (byteV (r.getD j 0)) := by
  unfold hrow hcells
  rw [List.getElem?_toArray, show 9 + j = (8 + j) + 1 by omega, List.getElem?_cons_succ, List.getElem?_append_right (by rw [List.length_map, hv]; omega), List.length_map, hv, List.getElem?_append_left (by rw [List.length_map]; omega), List.getElem?_map, show 8 + j - 8 = j by omega, List.getElem?_eq_getElem hj, List.getD_eq_getElem?_getD, List.getElem?_eq_getElem hj]
  rfl
theorem hrow_setn {v : List Nat} {r : List UInt8} (n m : Nat) (hv : v.length = 8) (hr : r.length = 64) : (hrow v r n).setIfInBounds 73 (.int .i64 (m : Int)) = hrow v r m := by
  unfold hrow hcells
  rw [List.setIfInBounds_toArray, List.set_cons_succ, List.set_append_right _ _ (by rw [List.length_map, hv]; omega), List.length_map, hv, List.set_append_right _ _ (by rw [List.length_map, hr]; omega), List.length_map, hr]
  rfl
/-- The rest, written in from a place on. -/
theorem hcells_rest {v : List Nat} {r b : List UInt8} (n o : Nat) (hv : v.length = 8) (hr : r.length = 64) (ho : o + b.length ≤ 64) :
    (hcells v r n).take (9 + o) ++ b.map byteV ++ (hcells v r n).drop (9 + o + (b.map byteV).length) = hcells v (r.take o ++ b ++ r.drop (o + b.length)) n := by
  unfold hcells
  have e1 : (v.map u32V).length = 8 := by rw [List.length_map, hv]
  rw [List.length_map, show 9 + o = (8 + o) + 1 by omega, List.take_succ_cons, show 8 + o + 1 + b.length = (8 + (o + b.length)) + 1 by omega, List.drop_succ_cons, List.take_append, List.drop_append, e1,
    List.take_of_length_le (by rw [e1]; omega), List.drop_of_length_le (by rw [e1]; omega), show 8 + o - 8 = o by omega, show 8 + (o + b.length) - 8 = o + b.length by omega,
    List.take_append_of_le_length (by rw [List.length_map, hr]; omega), List.drop_append_of_le_length (by rw [List.length_map, hr]; omega)]
  simp [List.map_append, List.map_take, List.map_drop]
/-- The eight numbers, written in. -/
theorem hcells_sums {v v' : List Nat} (r : List UInt8) (n : Nat) (hv : v.length = 8) (hv' : v'.length = 8) :
    (hcells v r n).take 1 ++ v'.map u32V ++ (hcells v r n).drop (1 + (v'.map u32V).length) = hcells v' r n := by
  unfold hcells
  have e1 : (v.map u32V).length = 8 := by rw [List.length_map, hv]
  rw [List.length_map, hv', show 1 + 8 = 8 + 1 by omega, List.take_succ_cons, List.drop_succ_cons, List.take_zero, List.drop_append, e1, List.drop_of_length_le (by rw [e1]; omega)]
  simp
theorem hrow_one (v : List Nat) (r : List UInt8) (n : Nat) : (hrow v r n).all (·.oneCell') = true := all_oneCell_toArray (fun x hx => by
  unfold hcells at hx
  simp only [List.mem_cons, List.mem_append, List.mem_map, List.not_mem_nil, or_false] at hx
  rcases hx with rfl | ⟨y, _, rfl⟩ | ⟨y, _, rfl⟩ | rfl <;> rfl)

/-- At p lies a hasher that took these bytes. -/
def IsHash (w : World) (p : Nat) (all : List UInt8) : Prop := ∃ r : List UInt8, r.length = 64 ∧ r.take (all.length % 64) = all.drop (64 * (all.length / 64)) ∧ rowC w p (hrow (sha_runN all (all.length / 64)).list r all.length) 44
theorem IsHash.lt {w : World} {p : Nat} {all : List UInt8} (h : IsHash w p all) : p < w.heap.size := by
  obtain ⟨r, _, _, h⟩ := h
  exact rowC_lt h
theorem IsHash.made {w : World} {p : Nat} {all : List UInt8} (h : IsHash w p all) : w.cell? ⟨p, 0, none⟩ = some (.bool true) := by
  obtain ⟨r, _, _, h⟩ := h
  rw [rowC_cell h, hrow_made]
theorem IsHash.size {w : World} {p : Nat} {all : List UInt8} (h : IsHash w p all) : w.cell? ⟨p, 73, none⟩ = some (.int .i64 (all.length : Int)) := by
  obtain ⟨r, hr, _, h⟩ := h
  rw [rowC_cell h, hrow_n _ rfl hr]
theorem IsHash.below {w w' : World} {p B : Nat} {all : List UInt8} (h : IsHash w p all) (hb : Below B w w') (hp : p < B) : IsHash w' p all := by
  obtain ⟨r, h1, h2, h3⟩ := h
  exact ⟨r, h1, h2, rowC_below h3 hb hp⟩
theorem IsHash.drewN {w : World} {p : Nat} {all : List UInt8} (h : IsHash w p all) (n : Nat) : IsHash (w.drewN n) p all := h
theorem IsHash.grown {w w' : World} {p q : Nat} {all : List UInt8} (h : IsHash w p all) (hg : w.grownBy w' (some q)) (hne : p ≠ q) : IsHash w' p all := by
  have hl := h.lt
  obtain ⟨r, h1, h2, h3⟩ := h
  exact ⟨r, h1, h2, (hg.block p hl (by simpa using hne)).trans h3⟩

set_option maxHeartbeats 400000 in
theorem none_no (w : World) (p : Nat) (h : w.cell? ⟨p, 0, none⟩ = some (.bool true)) :
    Calls Tryd.prog 21 #[.pointer (some ⟨p, 0, none⟩)] w fun e w' => e = .returned (.bool false) ∧ w = w' := by
  go_enter Tryd.func21, Tryd.ntmps21
  go_wp2
  go_ret
  exact ⟨rfl, rfl⟩
set_option maxHeartbeats 400000 in
theorem none_nil (w : World) : Calls Tryd.prog 21 #[.pointer none] w fun e w' => e = .returned (.bool true) ∧ w = w' := by
  go_enter Tryd.func21, Tryd.ntmps21
  go_wp2
  go_ret
  exact ⟨rfl, rfl⟩
set_option maxHeartbeats 400000 in
theorem none_unmade (w : World) (p : Nat) (h : w.cell? ⟨p, 0, none⟩ = some (.bool false)) :
    Calls Tryd.prog 21 #[.pointer (some ⟨p, 0, none⟩)] w fun e w' => e = .returned (.bool true) ∧ w = w' := by
  go_enter Tryd.func21, Tryd.ntmps21
  go_wp2
  go_ret
  exact ⟨rfl, rfl⟩
set_option maxRecDepth 100000 in
set_option maxHeartbeats 1000000 in
theorem sha_new_any (w : World) (L : Laid w) :
    Calls Tryd.prog 14 #[] w fun e w' => e = .returned (.pointer (some ⟨w.heap.size, 0, none⟩)) ∧ IsHash w' w.heap.size [] ∧ Below w.heap.size w w' := by
  have hr : w.rangeAt 0 0 (initN.list.map u32V) := fun j v hv => by
    have hj : j < 8 := by
      have := (List.getElem?_eq_some_iff.1 hv).1
      simpa [initN, St.list] using this
    rw [Nat.zero_add, L.h j hj, ← hv, List.getElem?_map, List.getElem?_eq_getElem (by simpa [St.list] using hj), List.getD_eq_getElem?_getD, List.getElem?_eq_getElem (by simpa [St.list] using hj)]
    rfl
  have hb : Tryd.prog.built 44 [(0, .bool true), (1, .agg (initN.list.map u32V).toArray)] = some (hrow initN.list (List.replicate 64 0) 0) := by kernel_rfl
  have HB := Lib.hid hb
  have HR := Lib.hid hr
  clear hb hr
  go_enter Tryd.func14, Tryd.ntmps14
  go_wp2_with (first
    | (refine wpList_load_mid rfl 41 _ rfl 0 0 rfl _ _ HR.out Tryd.underlying41 rfl (by kernel_rfl) ?_)
    | ((with_reducible refine wpList_build_list rfl 44 _ rfl (hrow initN.list (List.replicate 64 0) 0) ?_ ?_); exact HB.out))
  go_ret
  exact ⟨rfl, ⟨List.replicate 64 0, rfl, rfl, rowC_new _ _ _⟩, (Below.refl _ _).alloc (Nat.le_refl _) _⟩
end Go.Proofs.YtemnfnmkhfgopaaDoor
