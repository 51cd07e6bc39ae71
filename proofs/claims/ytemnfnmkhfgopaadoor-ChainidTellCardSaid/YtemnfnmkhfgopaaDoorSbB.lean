/- Layer 4: rows of numbers of 32 bits in memory; the memory of the document's own block. -/
import Derived.Test.YtemnfnmkhfgopaaDoorSbA
import Derived.Test.YtemnfnmkhfgopaaDoorMem
import Derived.Outline
import Derived.Deep.MidRow
import Derived.Deep.WholeRow
import Derived.Laws.Rows
import Derived.StillTailTactics
import Derived.BigRegion
import Derived.IntWalk
import Derived.Deep.RegionWith
import Derived.Deep.RegionHeld3
import Derived.Below
namespace Go.Proofs.YtemnfnmkhfgopaaDoor
open Go.RowKit

/-- Numbers of 32 bits as cells. -/
def u32V (n : Nat) : Value := .int .u32 (n : Int)
def cells32 (l : List Nat) : Array Value := (l.map u32V).toArray
theorem cells32_size (l : List Nat) : (cells32 l).size = l.length := by simp [cells32]
theorem cells32_get (l : List Nat) (i : Nat) (h : i < l.length) : (cells32 l)[i]? = some (u32V (l.getD i 0)) := by
  simp [cells32, h, List.getD_eq_getElem?_getD]
theorem cells32_set (l : List Nat) (i x : Nat) : (cells32 l).setIfInBounds i (u32V x) = cells32 (l.set i x) := by
  simp [cells32, List.map_set]
/-- A row of numbers in memory. -/
def World.row32 (w : World) (b : Nat) (l : List Nat) (t : TypeId) : Prop := w.heap[b]? = some (.cells (cells32 l) t (0, 0))
theorem row32_cell {w : World} {b : Nat} {l : List Nat} {t : TypeId} (h : World.row32 w b l t) (i : Nat) (hi : i < l.length) : w.cell? ⟨b, i, none⟩ = some (.int .u32 (l.getD i 0 : Nat)) := by
  rw [cell_of_row w b i _ t _ h, cells32_get l i hi]; rfl
theorem row32_free {w : World} {b : Nat} {l : List Nat} {t : TypeId} (h : World.row32 w b l t) (i : Nat) : w.frozen? ⟨b, i, none⟩ = false := frozen_of_row w b i _ t h
theorem row32_set {w : World} {b : Nat} {l : List Nat} {t : TypeId} (h : World.row32 w b l t) (i x : Nat) : World.row32 (w.setCell ⟨b, i, none⟩ (.int .u32 (x : Int))) b (l.set i x) t := by
  unfold World.row32
  rw [← cells32_set]
  exact heap_setCell_same w b i _ t _ h
theorem row32_other {w : World} {b : Nat} {l : List Nat} {t : TypeId} (h : World.row32 w b l t) (a : Addr) (v : Value) (hne : b ≠ a.block) : World.row32 (w.setCell a v) b l t := by
  unfold World.row32
  rw [heap_setCell_other w a b v hne]
  exact h
theorem row32_drew {w : World} {b : Nat} {l : List Nat} {t : TypeId} (h : World.row32 w b l t) : World.row32 w.drew b l t := h
theorem zeros32_8 : cells32 (List.replicate 8 0) = #[Value.int IntKind.u32 0, Value.int IntKind.u32 0, Value.int IntKind.u32 0, Value.int IntKind.u32 0, Value.int IntKind.u32 0, Value.int IntKind.u32 0, Value.int IntKind.u32 0, Value.int IntKind.u32 0] := rfl

theorem set_far {w : World} {b i j : Nat} {x v : Value} (h : i ≠ j) (hc : w.cell? ⟨b, j, none⟩ = some v) : (w.setCell ⟨b, i, none⟩ x).drew.cell? ⟨b, j, none⟩ = some v := by
  show (w.setCell ⟨b, i, none⟩ x).cell? ⟨b, j, none⟩ = some v
  rw [World.cell?_setCell_other w ⟨b, i, none⟩ ⟨b, j, none⟩ x (fun e => h (congrArg Addr.off e))]
  exact hc
theorem row32_lt {w : World} {b : Nat} {l : List Nat} {t : TypeId} (h : World.row32 w b l t) : b < w.heap.size := (Array.getElem?_eq_some_iff.1 h).1
theorem row32_alloc {w : World} {b : Nat} {l : List Nat} {t : TypeId} (h : World.row32 w b l t) (o : Obj) : World.row32 (w.alloc o) b l t := by
  unfold World.row32
  rw [Below.heap_alloc w o b (row32_lt h)]
  exact h
theorem row32_setRow_other {w : World} {b : Nat} {l : List Nat} {t : TypeId} (h : World.row32 w b l t) (g : Nat) (cs : Array Value) (hne : b ≠ g) : World.row32 (w.setRow g cs) b l t := by
  unfold World.row32
  rw [setRow_other w g b cs hne]
  exact h
theorem row32_new (w : World) (l : List Nat) (t : TypeId) : World.row32 (w.alloc (.cells (cells32 l) t)) w.heap.size l t := heap_alloc_new w _
theorem cells32_one (l : List Nat) : (cells32 l).all (·.oneCell') = true := all_oneCell_toArray (fun v hv => by
  obtain ⟨x, _, rfl⟩ := List.mem_map.1 hv
  rfl)
/-- The memory of the document's own block. -/
structure BlkM (W w : World) (x kl y z : List Nat) : Prop where
  r1 : World.row32 w W.heap.size x 41
  r2 : World.row32 w (W.heap.size + 1) kl 48
  r3 : World.row32 w (W.heap.size + 1 + 1) y 41
  r4 : World.row32 w (W.heap.size + 1 + 1 + 1) z 48
  nx : Below W.heap.size W w
theorem BlkM.start (w : World) (x kl y z : List Nat) : BlkM w ((((w.alloc (.cells (cells32 x) 41)).alloc (.cells (cells32 kl) 48)).alloc (.cells (cells32 y) 41)).alloc (.cells (cells32 z) 48)) x kl y z := by
  have h2 := row32_new (w.alloc (.cells (cells32 x) 41)) kl 48
  have h3 := row32_new ((w.alloc (.cells (cells32 x) 41)).alloc (.cells (cells32 kl) 48)) y 41
  have h4 := row32_new (((w.alloc (.cells (cells32 x) 41)).alloc (.cells (cells32 kl) 48)).alloc (.cells (cells32 y) 41)) z 48
  simp only [size_alloc] at h2 h3 h4
  exact ⟨row32_alloc (row32_alloc (row32_alloc (row32_new w x _) _) _) _, row32_alloc (row32_alloc h2 _) _, row32_alloc h3 _, h4,
    ((((Below.refl _ _).alloc (Nat.le_refl _) _).alloc (by simp) _).alloc (by simp; omega) _).alloc (by simp; omega) _⟩
theorem BlkM.drew {W w : World} {x kl y z : List Nat} (h : BlkM W w x kl y z) : BlkM W w.drew x kl y z := ⟨h.r1, h.r2, h.r3, h.r4, h.nx.drew⟩
theorem BlkM.drewN {W w : World} {x kl y z : List Nat} (h : BlkM W w x kl y z) (n : Nat) : BlkM W (w.drewN n) x kl y z := ⟨h.r1, h.r2, h.r3, h.r4, below_drewN h.nx n⟩
theorem BlkM.set4 {W w : World} {x kl y z : List Nat} (h : BlkM W w x kl y z) (i n : Nat) : BlkM W (w.setCell ⟨W.heap.size + 1 + 1 + 1, i, none⟩ (.int .u32 (n : Int))) x kl y (z.set i n) :=
  ⟨row32_other h.r1 _ _ (by simp; omega), row32_other h.r2 _ _ (by simp), row32_other h.r3 _ _ (by simp), row32_set h.r4 i n, h.nx.setCell (p := ⟨W.heap.size + 1 + 1 + 1, i, none⟩) (by simp; omega) _⟩
theorem BlkM.set1 {W w : World} {x kl y z : List Nat} (h : BlkM W w x kl y z) (i n : Nat) : BlkM W (w.setCell ⟨W.heap.size, i, none⟩ (.int .u32 (n : Int))) (x.set i n) kl y z :=
  ⟨row32_set h.r1 i n, row32_other h.r2 _ _ (by simp), row32_other h.r3 _ _ (by simp; omega), row32_other h.r4 _ _ (by simp; omega), h.nx.setCell (p := ⟨W.heap.size, i, none⟩) (by simp) _⟩
/-- .. and behind it the eight numbers that go round. -/
structure BlkN (W w : World) (G : Nat) (x kl y z n : List Nat) : Prop where
  m : BlkM W w x kl y z
  r5 : World.row32 w G n 41
  gt : W.heap.size + 3 < G
theorem BlkN.start {W w : World} {x kl y z : List Nat} (h : BlkM W w x kl y z) (zs : Array Value) : BlkN W ((w.alloc (.cells zs 41)).setRow w.heap.size (cells32 x)) w.heap.size x kl y z x := by
  have l4 := row32_lt h.r4
  refine ⟨⟨row32_setRow_other (row32_alloc h.r1 _) _ _ (by omega), row32_setRow_other (row32_alloc h.r2 _) _ _ (by omega), row32_setRow_other (row32_alloc h.r3 _) _ _ (by omega), row32_setRow_other (row32_alloc h.r4 _) _ _ (by omega), below_setRow (h.nx.alloc (by omega) _) (by omega) _⟩, ?_, by omega⟩
  rw [World.setRow_alloc_new]
  exact row32_new w x _
theorem BlkN.drewN {W w : World} {G : Nat} {x kl y z n : List Nat} (h : BlkN W w G x kl y z n) (k : Nat) : BlkN W (w.drewN k) G x kl y z n := ⟨h.m.drewN k, h.r5, h.gt⟩
theorem BlkN.drew {W w : World} {G : Nat} {x kl y z n : List Nat} (h : BlkN W w G x kl y z n) : BlkN W w.drew G x kl y z n := ⟨h.m.drew, h.r5, h.gt⟩
theorem BlkN.set1 {W w : World} {G : Nat} {x kl y z n : List Nat} (h : BlkN W w G x kl y z n) (i v : Nat) : BlkN W (w.setCell ⟨W.heap.size, i, none⟩ (.int .u32 (v : Int))) G (x.set i v) kl y z n := by
  have gt := h.gt
  exact ⟨h.m.set1 i v, row32_other h.r5 _ _ (by simp; omega), gt⟩
theorem BlkN.set5 {W w : World} {G : Nat} {x kl y z n : List Nat} (h : BlkN W w G x kl y z n) (i v : Nat) : BlkN W (w.setCell ⟨G, i, none⟩ (.int .u32 (v : Int))) G x kl y z (n.set i v) := by
  have gt := h.gt
  exact ⟨⟨row32_other h.m.r1 _ _ (by simp; omega), row32_other h.m.r2 _ _ (by simp; omega), row32_other h.m.r3 _ _ (by simp; omega), row32_other h.m.r4 _ _ (by simp; omega), h.m.nx.setCell (p := ⟨G, i, none⟩) (by simp; omega) _⟩, row32_set h.r5 i v, gt⟩
theorem stepE (a b c d e f : Nat) : ((a : Int) + ((b : Int) + (c : Int) + (d : Int) + (e : Int) + (f : Int))) % 4294967296 = ((a + (b + c + d + e + f) % 4294967296) % 4294967296 : Nat) := by omega
theorem stepA (b c d e f g h : Nat) : (((b : Int) + (c : Int) + (d : Int) + (e : Int) + (f : Int)) + ((g : Int) + (h : Int))) % 4294967296 = (((b + c + d + e + f) % 4294967296 + (g + h) % 4294967296) % 4294967296 : Nat) := by omega
/-- A row of which the first k are another's. -/
def mixN (l m : List Nat) (k : Nat) : List Nat := m.take k ++ l.drop k
theorem mixN_length (l m : List Nat) (k : Nat) (h : l.length = m.length) : (mixN l m k).length = l.length := by simp [mixN]; omega
theorem mixN_getD (l m : List Nat) (k : Nat) (h : l.length = m.length) (hk : k < l.length) : (mixN l m k).getD k 0 = l.getD k 0 := by
  unfold mixN
  have e : (m.take k).length = k := by rw [List.length_take]; omega
  rw [List.getD_eq_getElem?_getD, List.getElem?_append_right (by omega), e, Nat.sub_self, List.getElem?_drop, Nat.add_zero, ← List.getD_eq_getElem?_getD]
theorem mixN_set (l m : List Nat) (k : Nat) (h : l.length = m.length) (h8 : l.length = 8) (hk : k < 8) : (mixN l m k).set k (m.getD k 0) = mixN l m (k + 1) := by
  unfold mixN
  have e : (m.take k).length = k := by rw [List.length_take]; omega
  have hm : k < m.length := by omega
  rw [List.set_append_right _ _ (by omega), e, Nat.sub_self, List.drop_eq_getElem_cons (show k < l.length by omega), List.set_cons_zero, List.take_succ_eq_append_getElem hm, List.getD_eq_getElem?_getD, List.getElem?_eq_getElem hm]
  rw [Option.getD_some, List.append_assoc, List.singleton_append]
theorem mixN_all (l m : List Nat) (h : l.length = m.length) (h8 : l.length = 8) : mixN l m 8 = m := by
  unfold mixN
  rw [List.take_of_length_le (by omega), List.drop_of_length_le (by omega), List.append_nil]
theorem addN_getD (s t : St) {k : Nat} (h : k < 8) : (addN s t).list.getD k 0 = (s.list.getD k 0 + t.list.getD k 0) % 4294967296 := by
  rcases (show k = 0 ∨ k = 1 ∨ k = 2 ∨ k = 3 ∨ k = 4 ∨ k = 5 ∨ k = 6 ∨ k = 7 by omega) with rfl | rfl | rfl | rfl | rfl | rfl | rfl | rfl <;> simp only [addN, St.list, List.getD_cons_zero, List.getD_cons_succ]
theorem compN_def (v : St) (b : List UInt8) : compN v b = addN v (rdsN b v 64) := by unfold compN; with_reducible rfl
theorem St.list_length (s : St) : s.list.length = 8 := rfl
theorem sum4 (a b c d : Nat) : (((((a : Int) + (b : Int)) % 4294967296 + (c : Int)) % 4294967296 + (d : Int)) % 4294967296) = ((a + b + c + d) % 4294967296 : Nat) := by omega
/-- The numbers so far, and zeros behind. -/
def wz (b : List UInt8) (k : Nat) : List Nat := wl b k ++ List.replicate (64 - k) 0
theorem wz_length (b : List UInt8) {k : Nat} (h : k ≤ 64) : (wz b k).length = 64 := by simp [wz, wl_length]; omega
theorem wz_getD (b : List UInt8) {k i : Nat} (h : i < k) : (wz b k).getD i 0 = wN b i := by
  unfold wz
  rw [List.getD_eq_getElem?_getD, List.getElem?_append_left (by rw [wl_length]; exact h), ← List.getD_eq_getElem?_getD, wl_getD b k h]
theorem wz_set (b : List UInt8) {k : Nat} (h : k < 64) : (wz b k).set k (wN b k) = wz b (k + 1) := by
  unfold wz
  rw [List.set_append_right _ _ (by rw [wl_length]; omega), wl_length, show 64 - k = (64 - (k + 1)) + 1 by omega, List.replicate_succ, wl_succ]
  simp


/-! ### A row of cells, whatever they are -/
/-! ### A composite literal, and its store into the block that was made last -/
end Go.Proofs.YtemnfnmkhfgopaaDoor
