/- Layer 4: rows of numbers of 32 bits in memory; the memory of the document's own block. -/
import Derived.Test.YtkjhfjibddcenaaDoorShaA
import Derived.Outline
import Derived.Deep.MidRow
import Derived.Deep.WholeRow
import Derived.Laws.Rows
import Derived.StillTailTactics
import Derived.BigRegion
import Derived.IntWalk
import Derived.Deep.RegionWith
import Derived.Deep.RegionHeld3
import Derived.Below
namespace Go.Proofs.YtkjhfjibddcenaaDoor
open Go.RowKit

/-- Numbers of 32 bits as cells. -/
def u32V (n : Nat) : Value := .int .u32 (n : Int)
def cells32 (l : List Nat) : Array Value := (l.map u32V).toArray
theorem cells32_size (l : List Nat) : (cells32 l).size = l.length := by simp [cells32]
theorem cells32_get (l : List Nat) (i : Nat) (h : i < l.length) : (cells32 l)[i]? = some (u32V (l.getD i 0)) := by
  simp [cells32, h, List.getD_eq_getElem?_getD]
theorem cells32_set (l : List Nat) (i x : Nat) : (cells32 l).setIfInBounds i (u32V x) = cells32 (l.set i x) := by
  simp [cells32, List.map_set]
/-- A row of numbers in memory. -/
def World.row32 (w : World) (b : Nat) (l : List Nat) (t : TypeId) : Prop := w.heap[b]? = some (.cells (cells32 l) t (0, 0))
theorem row32_cell {w : World} {b : Nat} {l : List Nat} {t : TypeId} (h : World.row32 w b l t) (i : Nat) (hi : i < l.length) : w.cell? ⟨b, i, none⟩ = some (.int .u32 (l.getD i 0 : Nat)) := by
  rw [cell_of_row w b i _ t _ h, cells32_get l i hi]; rfl
theorem row32_free {w : World} {b : Nat} {l : List Nat} {t : TypeId} (h : World.row32 w b l t) (i : Nat) : w.frozen? ⟨b, i, none⟩ = false := frozen_of_row w b i _ t h
theorem row32_set {w : World} {b : Nat} {l : List Nat} {t : TypeId} (h : World.row32 w b l t) (i x : Nat) : World.row32 (w.setCell ⟨b, i, none⟩ (.int .u32 (x : Int))) b (l.set i x) t := by
  unfold World.row32
  rw [← cells32_set]
  exact heap_setCell_same w b i _ t _ h
theorem row32_other {w : World} {b : Nat} {l : List Nat} {t : TypeId} (h : World.row32 w b l t) (a : Addr) (v : Value) (hne : b ≠ a.block) : World.row32 (w.setCell a v) b l t := by
  unfold World.row32
  rw [heap_setCell_other w a b v hne]
  exact h
theorem row32_drew {w : World} {b : Nat} {l : List Nat} {t : TypeId} (h : World.row32 w b l t) : World.row32 w.drew b l t := h
theorem zeros32_8 : cells32 (List.replicate 8 0) = #[Value.int IntKind.u32 0, Value.int IntKind.u32 0, Value.int IntKind.u32 0, Value.int IntKind.u32 0, Value.int IntKind.u32 0, Value.int IntKind.u32 0, Value.int IntKind.u32 0, Value.int IntKind.u32 0] := rfl

theorem set_far {w : World} {b i j : Nat} {x v : Value} (h : i ≠ j) (hc : w.cell? ⟨b, j, none⟩ = some v) : (w.setCell ⟨b, i, none⟩ x).drew.cell? ⟨b, j, none⟩ = some v := by
  show (w.setCell ⟨b, i, none⟩ x).cell? ⟨b, j, none⟩ = some v
  rw [World.cell?_setCell_other w ⟨b, i, none⟩ ⟨b, j, none⟩ x (fun e => h (congrArg Addr.off e))]
  exact hc
theorem row32_lt {w : World} {b : Nat} {l : List Nat} {t : TypeId} (h : World.row32 w b l t) : b < w.heap.size := (Array.getElem?_eq_some_iff.1 h).1
theorem row32_alloc {w : World} {b : Nat} {l : List Nat} {t : TypeId} (h : World.row32 w b l t) (o : Obj) : World.row32 (w.alloc o) b l t := by
  unfold World.row32
  rw [Below.heap_alloc w o b (row32_lt h)]
  exact h
theorem row32_setRow_other {w : World} {b : Nat} {l : List Nat} {t : TypeId} (h : World.row32 w b l t) (g : Nat) (cs : Array Value) (hne : b ≠ g) : World.row32 (w.setRow g cs) b l t := by
  unfold World.row32
  rw [setRow_other w g b cs hne]
  exact h
theorem row32_new (w : World) (l : List Nat) (t : TypeId) : World.row32 (w.alloc (.cells (cells32 l) t)) w.heap.size l t := heap_alloc_new w _
theorem below_setRow {B : Nat} {a w : World} (h : Below B a w) {g : Nat} (hg : B ≤ g) (cs : Array Value) : Below B a (w.setRow g cs) :=
  ⟨h.os, h.tape, h.output, by rw [setRow_size]; exact h.size, fun k hk => (setRow_other w g k cs (by omega)).trans (h.block k hk)⟩
theorem cells32_one (l : List Nat) : (cells32 l).all (·.oneCell') = true := all_oneCell_toArray (fun v hv => by
  obtain ⟨x, _, rfl⟩ := List.mem_map.1 hv
  rfl)
/-- The memory of the document's own block. -/
structure BlkM (W w : World) (x kl y z : List Nat) : Prop where
  r1 : World.row32 w W.heap.size x 35
  r2 : World.row32 w (W.heap.size + 1) kl 42
  r3 : World.row32 w (W.heap.size + 1 + 1) y 35
  r4 : World.row32 w (W.heap.size + 1 + 1 + 1) z 42
  nx : Below W.heap.size W w
theorem size_alloc (w : World) (o : Obj) : (w.alloc o).heap.size = w.heap.size + 1 := by
  show (w.heap.push o).size = _
  simp
theorem BlkM.start (w : World) (x kl y z : List Nat) : BlkM w ((((w.alloc (.cells (cells32 x) 35)).alloc (.cells (cells32 kl) 42)).alloc (.cells (cells32 y) 35)).alloc (.cells (cells32 z) 42)) x kl y z := by
  have h2 := row32_new (w.alloc (.cells (cells32 x) 35)) kl 42
  have h3 := row32_new ((w.alloc (.cells (cells32 x) 35)).alloc (.cells (cells32 kl) 42)) y 35
  have h4 := row32_new (((w.alloc (.cells (cells32 x) 35)).alloc (.cells (cells32 kl) 42)).alloc (.cells (cells32 y) 35)) z 42
  simp only [size_alloc] at h2 h3 h4
  exact ⟨row32_alloc (row32_alloc (row32_alloc (row32_new w x _) _) _) _, row32_alloc (row32_alloc h2 _) _, row32_alloc h3 _, h4,
    ((((Below.refl _ _).alloc (Nat.le_refl _) _).alloc (by simp) _).alloc (by simp; omega) _).alloc (by simp; omega) _⟩
theorem BlkM.drew {W w : World} {x kl y z : List Nat} (h : BlkM W w x kl y z) : BlkM W w.drew x kl y z := ⟨h.r1, h.r2, h.r3, h.r4, h.nx.drew⟩
theorem BlkM.drewN {W w : World} {x kl y z : List Nat} (h : BlkM W w x kl y z) (n : Nat) : BlkM W (w.drewN n) x kl y z := ⟨h.r1, h.r2, h.r3, h.r4, below_drewN h.nx n⟩
theorem BlkM.set4 {W w : World} {x kl y z : List Nat} (h : BlkM W w x kl y z) (i n : Nat) : BlkM W (w.setCell ⟨W.heap.size + 1 + 1 + 1, i, none⟩ (.int .u32 (n : Int))) x kl y (z.set i n) :=
  ⟨row32_other h.r1 _ _ (by simp; omega), row32_other h.r2 _ _ (by simp), row32_other h.r3 _ _ (by simp), row32_set h.r4 i n, h.nx.setCell (p := ⟨W.heap.size + 1 + 1 + 1, i, none⟩) (by simp; omega) _⟩
theorem BlkM.set1 {W w : World} {x kl y z : List Nat} (h : BlkM W w x kl y z) (i n : Nat) : BlkM W (w.setCell ⟨W.heap.size, i, none⟩ (.int .u32 (n : Int))) (x.set i n) kl y z :=
  ⟨row32_set h.r1 i n, row32_other h.r2 _ _ (by simp), row32_other h.r3 _ _ (by simp; omega), row32_other h.r4 _ _ (by simp; omega), h.nx.setCell (p := ⟨W.heap.size, i, none⟩) (by simp) _⟩
/-- .. and behind it the eight numbers that go round. -/
structure BlkN (W w : World) (G : Nat) (x kl y z n : List Nat) : Prop where
  m : BlkM W w x kl y z
  r5 : World.row32 w G n 35
  gt : W.heap.size + 3 < G
theorem BlkN.start {W w : World} {x kl y z : List Nat} (h : BlkM W w x kl y z) (zs : Array Value) : BlkN W ((w.alloc (.cells zs 35)).setRow w.heap.size (cells32 x)) w.heap.size x kl y z x := by
  have l4 := row32_lt h.r4
  refine ⟨⟨row32_setRow_other (row32_alloc h.r1 _) _ _ (by omega), row32_setRow_other (row32_alloc h.r2 _) _ _ (by omega), row32_setRow_other (row32_alloc h.r3 _) _ _ (by omega), row32_setRow_other (row32_alloc h.r4 _) _ _ (by omega), below_setRow (h.nx.alloc (by omega) _) (by omega) _⟩, ?_, by omega⟩
  rw [World.setRow_alloc_new]
  exact row32_new w x _
theorem BlkN.drewN {W w : World} {G : Nat} {x kl y z n : List Nat} (h : BlkN W w G x kl y z n) (k : Nat) : BlkN W (w.drewN k) G x kl y z n := ⟨h.m.drewN k, h.r5, h.gt⟩
theorem BlkN.drew {W w : World} {G : Nat} {x kl y z n : List Nat} (h : BlkN W w G x kl y z n) : BlkN W w.drew G x kl y z n := ⟨h.m.drew, h.r5, h.gt⟩
theorem BlkN.set1 {W w : World} {G : Nat} {x kl y z n : List Nat} (h : BlkN W w G x kl y z n) (i v : Nat) : BlkN W (w.setCell ⟨W.heap.size, i, none⟩ (.int .u32 (v : Int))) G (x.set i v) kl y z n := by
  have gt := h.gt
  exact ⟨h.m.set1 i v, row32_other h.r5 _ _ (by simp; omega), gt⟩
theorem BlkN.set5 {W w : World} {G : Nat} {x kl y z n : List Nat} (h : BlkN W w G x kl y z n) (i v : Nat) : BlkN W (w.setCell ⟨G, i, none⟩ (.int .u32 (v : Int))) G x kl y z (n.set i v) := by
  have gt := h.gt
  exact ⟨⟨row32_other h.m.r1 _ _ (by simp; omega), row32_other h.m.r2 _ _ (by simp; omega), row32_other h.m.r3 _ _ (by simp; omega), row32_other h.m.r4 _ _ (by simp; omega), h.m.nx.setCell (p := ⟨G, i, none⟩) (by simp; omega) _⟩, row32_set h.r5 i v, gt⟩
/-- A byte of a text, as the walk meets it. -/
theorem idx_str (s : ByteArray) (i : Nat) (x : Int) (hx : x = i) (h : i < s.size) : ∀ w, (Instr.index 9 (.string s) (.int .i64 x)).run Tryd.prog w = .ok (.int .u8 ((s.data.toList.getD i 0).toNat : Int)) w := by
  intro w
  subst hx
  rw [run_index_string w _ s _ _ Tryd.underlying9, dif_pos ⟨by omega, by omega⟩]
  have h2 : i < s.data.toList.length := by simpa using h
  simp only [Int.toNat_natCast]
  congr 3
  rw [List.getD_eq_getElem?_getD, List.getElem?_eq_getElem h2]
  rfl

theorem stepE (a b c d e f : Nat) : ((a : Int) + ((b : Int) + (c : Int) + (d : Int) + (e : Int) + (f : Int))) % 4294967296 = ((a + (b + c + d + e + f) % 4294967296) % 4294967296 : Nat) := by omega
theorem stepA (b c d e f g h : Nat) : (((b : Int) + (c : Int) + (d : Int) + (e : Int) + (f : Int)) + ((g : Int) + (h : Int))) % 4294967296 = (((b + c + d + e + f) % 4294967296 + (g + h) % 4294967296) % 4294967296 : Nat) := by omega
theorem qs {P : Program} {f : FuncId} {args : Array Value} {w : World} {n : Nat} {v : Value} (h : Calls P f args (w.drewN n) fun e w' => e = .returned v ∧ w.drewN n = w') :
    Calls P f args (w.drewN n) fun e w'' => e = .returned v ∧ ∃ m, w'' = w.drewN m := h.mono fun _ _ ⟨he, hm⟩ => ⟨he, n, hm.symm⟩
theorem qs2 {P : Program} {f : FuncId} {args : Array Value} {w : World} {a n : Nat} {v : Value} (h : Calls P f args (w.drewN (a + n)) fun e w' => e = .returned v ∧ w.drewN (a + n) = w') :
    Calls P f args (w.drewN (a + n)) fun e w'' => e = .returned v ∧ ∃ m, w'' = w.drewN (a + m) := h.mono fun _ _ ⟨he, hm⟩ => ⟨he, n, hm.symm⟩
/-- A row of which the first k are another's. -/
def mixN (l m : List Nat) (k : Nat) : List Nat := m.take k ++ l.drop k
theorem mixN_length (l m : List Nat) (k : Nat) (h : l.length = m.length) : (mixN l m k).length = l.length := by simp [mixN]; omega
theorem mixN_getD (l m : List Nat) (k : Nat) (h : l.length = m.length) (hk : k < l.length) : (mixN l m k).getD k 0 = l.getD k 0 := by
  unfold mixN
  have e : (m.take k).length = k := by rw [List.length_take]; omega
  rw [List.getD_eq_getElem?_getD, List.getElem?_append_right (by omega), e, Nat.sub_self, List.getElem?_drop, Nat.add_zero, ← List.getD_eq_getElem?_getD]
theorem mixN_set (l m : List Nat) (k : Nat) (h : l.length = m.length) (h8 : l.length = 8) (hk : k < 8) : (mixN l m k).set k (m.getD k 0) = mixN l m (k + 1) := by
  unfold mixN
  have e : (m.take k).length = k := by rw [List.length_take]; omega
  have hm : k < m.length := by omega
  rw [List.set_append_right _ _ (by omega), e, Nat.sub_self, List.drop_eq_getElem_cons (show k < l.length by omega), List.set_cons_zero, List.take_succ_eq_append_getElem hm, List.getD_eq_getElem?_getD, List.getElem?_eq_getElem hm]
  rw [Option.getD_some, List.append_assoc, List.singleton_append]
theorem mixN_all (l m : List Nat) (h : l.length = m.length) (h8 : l.length = 8) : mixN l m 8 = m := by
  unfold mixN
  rw [List.take_of_length_le (by omega), List.drop_of_length_le (by omega), List.append_nil]
theorem addN_getD (s t : St) {k : Nat} (h : k < 8) : (addN s t).list.getD k 0 = (s.list.getD k 0 + t.list.getD k 0) % 4294967296 := by
  rcases (show k = 0 ∨ k = 1 ∨ k = 2 ∨ k = 3 ∨ k = 4 ∨ k = 5 ∨ k = 6 ∨ k = 7 by omega) with rfl | rfl | rfl | rfl | rfl | rfl | rfl | rfl <;> simp only [addN, St.list, List.getD_cons_zero, List.getD_cons_succ]
theorem compN_def (v : St) (b : List UInt8) : compN v b = addN v (rdsN b v 64) := by unfold compN; with_reducible rfl
theorem St.list_length (s : St) : s.list.length = 8 := rfl
theorem sum4 (a b c d : Nat) : (((((a : Int) + (b : Int)) % 4294967296 + (c : Int)) % 4294967296 + (d : Int)) % 4294967296) = ((a + b + c + d) % 4294967296 : Nat) := by omega
/-- The numbers so far, and zeros behind. -/
def wz (b : List UInt8) (k : Nat) : List Nat := wl b k ++ List.replicate (64 - k) 0
theorem wz_length (b : List UInt8) {k : Nat} (h : k ≤ 64) : (wz b k).length = 64 := by simp [wz, wl_length]; omega
theorem wz_getD (b : List UInt8) {k i : Nat} (h : i < k) : (wz b k).getD i 0 = wN b i := by
  unfold wz
  rw [List.getD_eq_getElem?_getD, List.getElem?_append_left (by rw [wl_length]; exact h), ← List.getD_eq_getElem?_getD, wl_getD b k h]
theorem wz_set (b : List UInt8) {k : Nat} (h : k < 64) : (wz b k).set k (wN b k) = wz b (k + 1) := by
  unfold wz
  rw [List.set_append_right _ _ (by rw [wl_length]; omega), wl_length, show 64 - k = (64 - (k + 1)) + 1 by omega, List.replicate_succ, wl_succ]
  simp


/-! ### A row of cells, whatever they are -/
/-- The block b is just these cells. -/
def rowC (w : World) (b : Nat) (cs : Array Value) (t : TypeId) : Prop := w.heap[b]? = some (.cells cs t (0, 0))
section
variable {w : World} {b : Nat} {cs : Array Value} {t : TypeId}
theorem rowC_lt (h : rowC w b cs t) : b < w.heap.size := (Array.getElem?_eq_some_iff.1 h).1
theorem rowC_cell (h : rowC w b cs t) (i : Nat) : w.cell? ⟨b, i, none⟩ = cs[i]? := cell_of_row w b i _ t _ h
theorem rowC_free (h : rowC w b cs t) (i : Nat) : w.frozen? ⟨b, i, none⟩ = false := frozen_of_row w b i _ t h
theorem rowC_set (h : rowC w b cs t) (i : Nat) (x : Value) : rowC (w.setCell ⟨b, i, none⟩ x) b (cs.setIfInBounds i x) t := heap_setCell_same w b i _ t _ h
theorem rowC_other (h : rowC w b cs t) (a : Addr) (v : Value) (hne : b ≠ a.block) : rowC (w.setCell a v) b cs t := (heap_setCell_other w a b v hne).trans h
theorem rowC_drew (h : rowC w b cs t) : rowC w.drew b cs t := h
theorem rowC_drewN (h : rowC w b cs t) (n : Nat) : rowC (w.drewN n) b cs t := h
theorem rowC_alloc (h : rowC w b cs t) (o : Obj) : rowC (w.alloc o) b cs t := (Below.heap_alloc w o b (rowC_lt h)).trans h
theorem rowC_setRow_other (h : rowC w b cs t) (g : Nat) (d : Array Value) (hne : b ≠ g) : rowC (w.setRow g d) b cs t := (setRow_other w g b d hne).trans h
theorem rowC_setRow (h : rowC w b cs t) (d : Array Value) : rowC (w.setRow b d) b d t := setRow_heap w b cs d t _ h
theorem rowC_new (w : World) (cs : Array Value) (t : TypeId) : rowC (w.alloc (.cells cs t)) w.heap.size cs t := heap_alloc_new w _
theorem rowC_below (h : rowC w b cs t) {w' : World} {B : Nat} (hb : Below B w w') (hlt : b < B) : rowC w' b cs t := (hb.block b hlt).trans h
end
/-! ### A composite literal, and its store into the block that was made last -/
theorem wpList_build_as {P : Program} {w : World} {ops : Array Oper} {rest : List Oper} {o : Oper} {a : Act} {Q : Exit → Act → World → Prop} (hg : o.guard = none) (t : TypeId) (parts : Array (Nat × Operand)) (ho : o.op = .build t parts) (cells : Array Value)
    (hc : P.built t (parts.map fun (i, x) => (i, a.eval x)).toList = some cells) (h : wpList P ops Q rest (a.put o.dst (.agg cells)) w) : wpList P ops Q (o :: rest) a w := by
  refine wpList_build hg t parts ho (by rw [hc]; rfl) ?_
  rw [hc]
  exact h
theorem wpList_store_last {P : Program} {W : World} {ops : Array Oper} {rest : List Oper} {o : Oper} {a : Act} {Q : Exit → Act → World → Prop} (hgd : o.guard = none) (ty : TypeId) (x y : Operand) (ho : o.op = .store ty x y)
    (n : Nat) (cells : Array Value) (hx : a.eval x = .pointer (some ⟨n, 0, none⟩)) (hy : a.eval y = .agg cells) (t : TypeId) (old : Array Value) (hn : n = W.heap.size)
    (hi : (P.info? ty).map (·.size) = some cells.size) (hold : old.size = cells.size) (h1 : cells.all (·.oneCell') = true)
    (h : wpList P ops Q rest (a.put o.dst undef) (W.alloc (.cells cells t))) : wpList P ops Q (o :: rest) a (W.alloc (.cells old t)) := by
  subst hn
  refine wpList_store_row hgd ty x y ho W.heap.size cells hx hy t old (heap_alloc_new W _) hi hold h1 ?_
  rw [World.setRow_alloc_new]
  exact h
/-- Bytes as cells. -/
def byteV (b : UInt8) : Value := .int .u8 (b.toNat : Int)
def cells8 (l : List UInt8) : Array Value := (l.map byteV).toArray
theorem byteV_ofNat (x : Nat) : byteV (UInt8.ofNat x) = .int .u8 ((x : Int) % 256) := by
  unfold byteV; simp
theorem cells8_size (l : List UInt8) : (cells8 l).size = l.length := by simp [cells8]
theorem cells8_get (l : List UInt8) (i : Nat) (h : i < l.length) : (cells8 l)[i]? = some (byteV (l.getD i 0)) := by
  simp [cells8, h, List.getD_eq_getElem?_getD]
theorem cells8_set (l : List UInt8) (i : Nat) (x : UInt8) : (cells8 l).setIfInBounds i (byteV x) = cells8 (l.set i x) := by
  simp [cells8, List.map_set]
theorem cells8_one (l : List UInt8) : (cells8 l).all (·.oneCell') = true := all_oneCell_toArray (fun v hv => by
  obtain ⟨x, _, rfl⟩ := List.mem_map.1 hv
  rfl)
end Go.Proofs.YtkjhfjibddcenaaDoor
