/- Merged: Row, Chg, JuB. -/
import Derived.Test.YtnkencdibniagaaGreatDoorRows
import Derived.WalkKit
import Derived.Lib.Hide
import Derived.WalkLawsBesides
import Derived.WalkSpells
import Derived.Deep.QuietTactic
import Derived.BigQuiet
import Derived.Laws.Bits64b
import Derived.Laws.BitsAllLaws
import Derived.Outline
import Derived.Deep.MidRow
import Derived.Deep.WholeRow
import Derived.Laws.Rows
import Derived.Laws.ResultCell
import Derived.StillTailTactics
import Derived.BigRegion
import Derived.IntWalk
import Derived.Deep.RegionWith
import Derived.Deep.RegionHeld3
import Derived.Below
import Derived.Laws.BytesArg
import Derived.Laws.MakeOwn
import Derived.Laws.OwnMore
import Derived.Laws.AppendOwnNone
import Derived.OwnWalk
import Derived.Maps.AppendAt
import Derived.Deep.AppendLies
import Derived.Test.YtnkencdibniagaaGreatDoorM03
import Derived.Great.Walk
/- Rows of cells, bytes and texts in memory, as any layer's walks meet them (it wants of the cut only the types uint8 and string). -/
namespace Go.Proofs.YtnkencdibniagaaGreatDoor
open Go.RowKit

theorem retBool {a b : Bool} (h : a = b) : Ending.returned (.bool a) = .returned (.bool b) := by rw [h]
theorem size_alloc (w : World) (o : Obj) : (w.alloc o).heap.size = w.heap.size + 1 := by
  show (w.heap.push o).size = _
  simp
theorem below_setRow {B : Nat} {a w : World} (h : Below B a w) {g : Nat} (hg : B ≤ g) (cs : Array Value) : Below B a (w.setRow g cs) :=
  ⟨h.os, h.tape, h.output, by rw [setRow_size]; exact h.size, fun k hk => (setRow_other w g k cs (by omega)).trans (h.block k hk)⟩
theorem below_drewN {B : Nat} {a w : World} (h : Below B a w) (n : Nat) : Below B a (w.drewN n) := h.trans ⟨rfl, rfl, rfl, Nat.le_refl _, fun _ _ => rfl⟩
/-- A byte of a text, as the walk meets it. -/
theorem idx_str (s : ByteArray) (i : Nat) (x : Int) (hx : x = i) (h : i < s.size) : ∀ w, (Instr.index 9 (.string s) (.int .i64 x)).run Tryz.prog w = .ok (.int .u8 ((s.data.toList.getD i 0).toNat : Int)) w := by
  intro w
  subst hx
  rw [run_index_string w _ s _ _ Tryz.underlying9, dif_pos ⟨by omega, by omega⟩]
  have h2 : i < s.data.toList.length := by simpa using h
  simp only [Int.toNat_natCast]
  congr 3
  rw [List.getD_eq_getElem?_getD, List.getElem?_eq_getElem h2]
  rfl

theorem qs {P : Program} {f : FuncId} {args : Array Value} {w : World} {n : Nat} {v : Value} (h : Calls P f args (w.drewN n) fun e w' => e = .returned v ∧ w.drewN n = w') :
    Calls P f args (w.drewN n) fun e w'' => e = .returned v ∧ ∃ m, w'' = w.drewN m := h.mono fun _ _ ⟨he, hm⟩ => ⟨he, n, hm.symm⟩
theorem qs2 {P : Program} {f : FuncId} {args : Array Value} {w : World} {a n : Nat} {v : Value} (h : Calls P f args (w.drewN (a + n)) fun e w' => e = .returned v ∧ w.drewN (a + n) = w') :
    Calls P f args (w.drewN (a + n)) fun e w'' => e = .returned v ∧ ∃ m, w'' = w.drewN (a + m) := h.mono fun _ _ ⟨he, hm⟩ => ⟨he, n, hm.symm⟩
/-! ### A row of cells, whatever they are -/
/-- The block b is just these cells. -/
def rowC (w : World) (b : Nat) (cs : Array Value) (t : TypeId) : Prop := w.heap[b]? = some (.cells cs t (0, 0))
section
variable {w : World} {b : Nat} {cs : Array Value} {t : TypeId}
theorem rowC_lt (h : rowC w b cs t) : b < w.heap.size := (Array.getElem?_eq_some_iff.1 h).1
theorem rowC_cell (h : rowC w b cs t) (i : Nat) : w.cell? ⟨b, i, none⟩ = cs[i]? := cell_of_row w b i _ t _ h
theorem rowC_free (h : rowC w b cs t) (i : Nat) : w.frozen? ⟨b, i, none⟩ = false := frozen_of_row w b i _ t h
theorem rowC_set (h : rowC w b cs t) (i : Nat) (x : Value) : rowC (w.setCell ⟨b, i, none⟩ x) b (cs.setIfInBounds i x) t := heap_setCell_same w b i _ t _ h
theorem rowC_other (h : rowC w b cs t) (a : Addr) (v : Value) (hne : b ≠ a.block) : rowC (w.setCell a v) b cs t := (heap_setCell_other w a b v hne).trans h
theorem rowC_drew (h : rowC w b cs t) : rowC w.drew b cs t := h
theorem rowC_drewN (h : rowC w b cs t) (n : Nat) : rowC (w.drewN n) b cs t := h
theorem rowC_alloc (h : rowC w b cs t) (o : Obj) : rowC (w.alloc o) b cs t := (Below.heap_alloc w o b (rowC_lt h)).trans h
theorem rowC_setRow_other (h : rowC w b cs t) (g : Nat) (d : Array Value) (hne : b ≠ g) : rowC (w.setRow g d) b cs t := (setRow_other w g b d hne).trans h
theorem rowC_setRow (h : rowC w b cs t) (d : Array Value) : rowC (w.setRow b d) b d t := setRow_heap w b cs d t _ h
theorem rowC_new (w : World) (cs : Array Value) (t : TypeId) : rowC (w.alloc (.cells cs t)) w.heap.size cs t := heap_alloc_new w _
theorem rowC_below (h : rowC w b cs t) {w' : World} {B : Nat} (hb : Below B w w') (hlt : b < B) : rowC w' b cs t := (hb.block b hlt).trans h
end
/-! ### A composite literal, and its store into the block that was made last -/
theorem wpList_build_as {P : Program} {w : World} {ops : Array Oper} {rest : List Oper} {o : Oper} {a : Act} {Q : Exit → Act → World → Prop} (hg : o.guard = none) (t : TypeId) (parts : Array (Nat × Operand)) (ho : o.op = .build t parts) (cells : Array Value)
    (hc : P.built t (parts.map fun (i, x) => (i, a.eval x)).toList = some cells) (h : wpList P ops Q rest (a.put o.dst (.agg cells)) w) : wpList P ops Q (o :: rest) a w := by
  refine wpList_build hg t parts ho (by rw [hc]; rfl) ?_
  rw [hc]
  exact h
theorem wpList_store_last {P : Program} {W : World} {ops : Array Oper} {rest : List Oper} {o : Oper} {a : Act} {Q : Exit → Act → World → Prop} (hgd : o.guard = none) (ty : TypeId) (x y : Operand) (ho : o.op = .store ty x y)
    (n : Nat) (cells : Array Value) (hx : a.eval x = .pointer (some ⟨n, 0, none⟩)) (hy : a.eval y = .agg cells) (t : TypeId) (old : Array Value) (hn : n = W.heap.size)
    (hi : (P.info? ty).map (·.size) = some cells.size) (hold : old.size = cells.size) (h1 : cells.all (·.oneCell') = true)
    (h : wpList P ops Q rest (a.put o.dst undef) (W.alloc (.cells cells t))) : wpList P ops Q (o :: rest) a (W.alloc (.cells old t)) := by
  subst hn
  refine wpList_store_row hgd ty x y ho W.heap.size cells hx hy t old (heap_alloc_new W _) hi hold h1 ?_
  rw [World.setRow_alloc_new]
  exact h
/-- Bytes as cells. -/
def byteV (b : UInt8) : Value := .int .u8 (b.toNat : Int)
def cells8 (l : List UInt8) : Array Value := (l.map byteV).toArray
theorem byteV_ofNat (x : Nat) : byteV (UInt8.ofNat x) = .int .u8 ((x : Int) % 256) := by
  unfold byteV; simp
theorem cells8_size (l : List UInt8) : (cells8 l).size = l.length := by simp [cells8]
theorem cells8_get (l : List UInt8) (i : Nat) (h : i < l.length) : (cells8 l)[i]? = some (byteV (l.getD i 0)) := by
  simp [cells8, h, List.getD_eq_getElem?_getD]
theorem cells8_set (l : List UInt8) (i : Nat) (x : UInt8) : (cells8 l).setIfInBounds i (byteV x) = cells8 (l.set i x) := by
  simp [cells8, List.map_set]
theorem cells8_one (l : List UInt8) : (cells8 l).all (·.oneCell') = true := all_oneCell_toArray (fun v hv => by
  obtain ⟨x, _, rfl⟩ := List.mem_map.1 hv
  rfl)
/-- A list of bytes as a text. -/
def str (l : List UInt8) : ByteArray := ⟨l.toArray⟩
theorem str_size (l : List UInt8) : (str l).size = l.length := by simp [str, ByteArray.size]
theorem str_toList (l : List UInt8) : (str l).data.toList = l := by simp [str]
theorem bytes_toList {a b : ByteArray} (h : a.data.toList = b.data.toList) : a = b := by
  cases a; cases b; simp_all
theorem str_append (a b : List UInt8) : str a ++ str b = str (a ++ b) := by
  refine bytes_toList ?_
  simp [str, ByteArray.data_append]
theorem info_u8 : (Tryz.prog.info? 5).map (fun i => (i.zero, i.size, i.bytes)) = some (some (.int .u8 0), 1, 1) := by kernel_rfl
theorem str_nums (l : List UInt8) : strOfNums (l.map fun b => (b.toNat : Int)) = str l := by
  unfold strOfNums str
  congr 2
  rw [List.map_map]
  conv => rhs; rw [← List.map_id l]
  refine List.map_congr_left fun x _ => ?_
  simp
theorem retStr {a b : ByteArray} (h : a = b) : Ending.returned (.string a) = .returned (.string b) := by rw [h]

/-- A byte of a text at an index of any kind. -/
theorem idx_strK (k : IntKind) (s : ByteArray) (i : Nat) (x : Int) (hx : x = i) (h : i < s.size) : ∀ w, (Instr.index 9 (.string s) (.int k x)).run Tryz.prog w = .ok (.int .u8 ((s.data.toList.getD i 0).toNat : Int)) w := by
  intro w
  subst hx
  rw [run_index_string w _ s _ _ Tryz.underlying9, dif_pos ⟨by omega, by omega⟩]
  have h2 : i < s.data.toList.length := by simpa using h
  simp only [Int.toNat_natCast]
  congr 3
  rw [List.getD_eq_getElem?_getD, List.getElem?_eq_getElem h2]
  rfl
/-- A row out of memory, and a number beside it, as results. -/
theorem results_row_tmp {P : Program} {fn : Func} {p u : Tmp} {ty : TypeId} (h : fn.results = #[.cell p ty, .tmp u]) (tmps : Array Value) (w : World) (g : Nat) (t : TypeId) (cs : Array Value) (d : TypeDesc)
    (hp : tmps.getD p undef = .pointer (some ⟨g, 0, none⟩)) (hg : rowC w g cs t)
    (hu : P.underlying ty = some d) (hd : (match d with | .struct _ | .array _ _ => true | _ => false) = true) (hi : (P.info? ty).map (·.size) = some cs.size) (v : Value) (hv : tmps.getD u undef = v) :
    (results fn tmps).run P w = .ok (.tuple #[.agg cs, v]) w := by
  rw [results_cell_tmp h, hp, hv]
  simp only [asAddr, Sem.run_pure, Result.andThen_ok, run_loadVar_row w g t ty cs (0, 0) d hg hu hd hi]
/-- Texts against each other, as the walk spells it. -/
theorem eq_texts (a b : List UInt8) : ((str a).toList == (str b).toList) = decide (a = b) := by
  unfold str
  rw [ByteArray.toList_mk, ByteArray.toList_mk, Bool.eq_iff_iff, beq_iff_eq, decide_eq_true_eq]
/-- A whole array is read, where a guard may stand ahead of it. -/
theorem wpList_load_rowG {P : Program} {ops : Array Oper} {rest : List Oper} {o : Oper} {a : Act} {w : World} {Q : Exit → Act → World → Prop} (hw : Region.wanted o (yielded ops a.tmps) = true) (ty : TypeId) (x : Operand) (ho : o.op = .load ty x)
    (g : Nat) (hx : a.eval x = .pointer (some ⟨g, 0, none⟩)) (t : TypeId) (cs : Array Value) (d : TypeDesc) (hg : rowC w g cs t)
    (hu : P.underlying ty = some d) (hd : (match d with | .struct _ | .array _ _ => true | _ => false) = true) (hi : (P.info? ty).map (·.size) = some cs.size)
    (h : wpList P ops Q rest (a.put o.dst (.agg cs)) w) : wpList P ops Q (o :: rest) a w := by
  rw [wpList, if_pos hw]
  exact .inl (wp_load_row ty x ho g hx t cs (0, 0) d hg hu hd hi h)
theorem eqItems_bytes (w : World) (l m : List UInt8) (d : Nat) : ∀ is : List Nat, (∀ i ∈ is, i < l.length ∧ i < m.length) →
    (Op.eqItems (d + 1) 5 1 (cells8 l) (cells8 m) is).run Tryz.prog w = .ok (is.all fun i => l.getD i 0 == m.getD i 0) w
  | [], _ => by simp [Op.eqItems]
  | i :: is, h => by
    obtain ⟨h1, h2⟩ := h i (by simp)
    have ih := eqItems_bytes w l m d is (fun j hj => h j (by simp [hj]))
    have p1 := run_part_plain (P := Tryz.prog) w (e := 5) (by kernel_rfl) (cells8_get l i h1)
    have p2 := run_part_plain (P := Tryz.prog) w (e := 5) (by kernel_rfl) (cells8_get m i h2)
    have p3 := run_equalIn_int (P := Tryz.prog) w d 5 .u8 .u8 ((l.getD i 0).toNat : Int) ((m.getD i 0).toNat : Int) Tryz.underlying5
    have e : (((l.getD i 0).toNat : Int) == ((m.getD i 0).toNat : Int)) = (l.getD i 0 == m.getD i 0) := by
      rw [Bool.eq_iff_iff]; simp only [beq_iff_eq]
      constructor
      · intro h; exact UInt8.toNat_inj.1 (by omega)
      · intro h; rw [h]
    rw [e] at p3
    unfold byteV at p1 p2
    rw [Op.eqItems, Nat.mul_one]
    simp only [Sem.run_bind, p1, p2, p3, Result.andThen_ok, List.all_cons]
    cases l.getD i 0 == m.getD i 0
    · simp
    · simpa using ih
theorem all_bytes {l m : List UInt8} (hl : l.length = 32) (hm : m.length = 32) : ((List.range 32).all fun i => l.getD i 0 == m.getD i 0) = decide (l = m) := by
  rw [Bool.eq_iff_iff, List.all_eq_true, decide_eq_true_eq]
  constructor
  · intro h
    refine List.ext_getElem? fun i => ?_
    by_cases hi : i < 32
    · have := h i (List.mem_range.2 hi)
      rw [beq_iff_eq, List.getD_eq_getElem?_getD, List.getD_eq_getElem?_getD, List.getElem?_eq_getElem (by omega), List.getElem?_eq_getElem (by omega)] at this
      rw [List.getElem?_eq_getElem (by omega), List.getElem?_eq_getElem (by omega)]
      exact congrArg some this
    · rw [List.getElem?_eq_none (by omega), List.getElem?_eq_none (by omega)]
  · rintro rfl i _
    simp
end Go.Proofs.YtnkencdibniagaaGreatDoor

/- What a call changes: new blocks, and of the old ones just some. (Generic: it names nothing of the cut.) -/
namespace Go.Proofs.YtnkencdibniagaaGreatDoor
open Go.RowKit

/-- w' is w with new blocks, and of the old ones none but those of s is another one. -/
structure Chg (s : Nat → Prop) (w w' : World) : Prop where
  os : w'.os = w.os
  tape : w'.tape = w.tape
  output : w'.output = w.output
  size : w.heap.size ≤ w'.heap.size
  block : ∀ k, k < w.heap.size → ¬ s k → w'.heap[k]? = w.heap[k]?
theorem Chg.refl (s : Nat → Prop) (w : World) : Chg s w w := ⟨rfl, rfl, rfl, Nat.le_refl _, fun _ _ _ => rfl⟩
theorem Chg.trans {s t : Nat → Prop} {a b c : World} (h : Chg s a b) (g : Chg t b c) (ht : ∀ k, k < a.heap.size → t k → s k) : Chg s a c :=
  ⟨g.os.trans h.os, g.tape.trans h.tape, g.output.trans h.output, Nat.le_trans h.size g.size, fun k hk hs => (g.block k (Nat.lt_of_lt_of_le hk h.size) (fun hh => hs (ht k hk hh))).trans (h.block k hk hs)⟩
theorem Chg.of_below {s : Nat → Prop} {w w' : World} (h : Below w.heap.size w w') : Chg s w w' := ⟨h.os, h.tape, h.output, h.size, fun k hk _ => h.block k hk⟩
theorem Chg.below {s : Nat → Prop} {w w' : World} (h : Chg s w w') {B : Nat} (hB : B ≤ w.heap.size) (hs : ∀ k, k < B → ¬ s k) : Below B w w' :=
  ⟨h.os, h.tape, h.output, h.size, fun k hk => h.block k (Nat.lt_of_lt_of_le hk hB) (hs k hk)⟩
theorem Chg.mono {s t : Nat → Prop} {w w' : World} (h : Chg s w w') (hs : ∀ k, k < w.heap.size → s k → t k) : Chg t w w' :=
  ⟨h.os, h.tape, h.output, h.size, fun k hk ht => h.block k hk (fun hh => ht (hs k hk hh))⟩
theorem Chg.then_below {s : Nat → Prop} {a w w' : World} (h : Chg s a w) (g : Below w.heap.size w w') : Chg s a w' := h.trans (t := s) (Chg.of_below g) (fun _ _ h => h)
theorem Chg.alloc {s : Nat → Prop} {a w : World} (h : Chg s a w) (o : Obj) : Chg s a (w.alloc o) := h.then_below ((Below.refl _ _).alloc (Nat.le_refl _) _)
theorem Chg.drew {s : Nat → Prop} {a w : World} (h : Chg s a w) : Chg s a w.drew := ⟨h.os, h.tape, h.output, h.size, h.block⟩
theorem Chg.drewN {s : Nat → Prop} {a w : World} (h : Chg s a w) (n : Nat) : Chg s a (w.drewN n) := ⟨h.os, h.tape, h.output, h.size, h.block⟩
theorem Chg.setCell {s : Nat → Prop} {a w : World} (h : Chg s a w) (p : Addr) (v : Value) (hp : s p.block ∨ a.heap.size ≤ p.block) : Chg s a (w.setCell p v) := by
  refine ⟨h.os, h.tape, h.output, ?_, fun k hk hs => ?_⟩
  · rw [World.size_setCell]; exact h.size
  · rw [heap_setCell_other w p k v (fun e => by subst e; rcases hp with hp | hp; exact hs hp; omega)]
    exact h.block k hk hs
theorem Chg.setRow {s : Nat → Prop} {a w : World} (h : Chg s a w) (g : Nat) (cs : Array Value) (hp : s g ∨ a.heap.size ≤ g) : Chg s a (w.setRow g cs) := by
  refine ⟨h.os, h.tape, h.output, ?_, fun k hk hs => ?_⟩
  · rw [setRow_size]; exact h.size
  · rw [setRow_other w g k cs (fun e => by subst e; rcases hp with hp | hp; exact hs hp; omega)]
    exact h.block k hk hs
theorem Chg.grown {s : Nat → Prop} {a w w' : World} (h : Chg s a w) {row : Option Nat} (g : w.grownBy w' row) (hr : ∀ k, row = some k → s k ∨ a.heap.size ≤ k) : Chg s a w' := by
  refine ⟨g.os.trans h.os, g.tape.trans h.tape, g.output.trans h.output, Nat.le_trans h.size g.size, fun k hk hs => ?_⟩
  rw [g.block k (Nat.lt_of_lt_of_le hk h.size) (fun e => by rcases hr k e.symm with hp | hp; exact hs hp; omega)]
  exact h.block k hk hs
theorem Chg.rowC {s : Nat → Prop} {w w' : World} (h : Chg s w w') {b : Nat} {cs : Array Value} {t : TypeId} (hr : rowC w b cs t) (hs : ¬ s b) : rowC w' b cs t := (h.block b (rowC_lt hr) hs).trans hr
theorem Chg.owns {s : Nat → Prop} {w w' : World} (h : Chg s w w') {base : Nat} {e : TypeId} {size n : Nat} {v : Value} {xs : List Value} (ho : w.ownsRow base e size v n xs) (hs : ∀ g, v.ownBlock = some g → ¬ s g) : w'.ownsRow base e size v n xs := by
  have hl := ho.lt
  refine ⟨ho.1, ?_⟩
  rcases ho.2 with hn | ⟨g, cap, cur, hv, hb, hg, hrest⟩
  · exact .inl hn
  · refine .inr ⟨g, cap, cur, hv, hb, ?_, hrest⟩
    have hlt := (hl g (by rw [hv]; rfl)).2
    exact (h.block g hlt (hs g (by rw [hv]; rfl))).trans hg
theorem owns_form {w : World} {base : Nat} {e : TypeId} {size n : Nat} {v : Value} {xs : List Value} (ho : w.ownsRow base e size v n xs) : ∃ a cap, v = .slice a n cap := by
  rcases ho.2 with ⟨hv, rfl⟩ | ⟨g, cap, cur, hv, _⟩
  · exact ⟨none, 0, hv⟩
  · exact ⟨_, cap, hv⟩
end Go.Proofs.YtnkencdibniagaaGreatDoor

/- Layer 11: a number below 32, to the base 16. -/
namespace Go.Proofs.YtnkencdibniagaaGreatDoor
open Go.RowKit

def dig36 : Bs := [48, 49, 50, 51, 52, 53, 54, 55, 56, 57, 97, 98, 99, 100, 101, 102, 103, 104, 105, 106, 107, 108, 109, 110, 111, 112, 113, 114, 115, 116, 117, 118, 119, 120, 121, 122]
theorem dig36_at : ∀ k : Fin 16, dig36.getD k.val 0 = hexd k.val := by decide
def hexS (c : Nat) : Bs := if c < 16 then [hexd c] else [49, hexd (c - 16)]
theorem idx_dig (k : Nat) (hk : k < 16) (w : World) : (Instr.index 9 (.string ⟨#[48, 49, 50, 51, 52, 53, 54, 55, 56, 57, 97, 98, 99, 100, 101, 102, 103, 104, 105, 106, 107, 108, 109, 110, 111, 112, 113, 114, 115, 116, 117, 118, 119, 120, 121, 122]⟩) (.int .u64 (k : Int))).run Tryz.prog w = .ok (.int .u8 ((hexd k).toNat : Int)) w := by
  have := idx_strK .u64 (str dig36) k (k : Int) rfl (by rw [str_size]; show k < 36; omega) w
  rw [str_toList, dig36_at ⟨k, hk⟩] at this
  exact this
theorem pow16 (w : World) : Calls Tryz.prog 194 #[.int .i64 16] w fun e w' => e = .returned (.bool true) ∧ w' = w := by
  go_enter Tryz.func194, Tryz.ntmps194
  go_wp2
  go_ret
  exact ⟨rfl, rfl⟩
theorem tz16 (w : World) (h : w.cell? ⟨9, 15, none⟩ = some (.int .u8 4)) : Calls Tryz.prog 203 #[.int .u64 16] w fun e w' => e = .returned (.int .i64 4) ∧ w' = w := by
  have hb : bits BinOp.and .u64 16 (IntKind.u64.wrap (-16)) = 16 := by decide
  have hw : IntKind.u64.wrap (16 * 285870213051353865) / 288230376151711744 = 15 := by decide
  go_enter Tryz.func203, Tryz.ntmps203
  go_wp2
  go_ret
  exact ⟨rfl, rfl⟩
theorem tzs16 (w : World) (h : w.cell? ⟨9, 15, none⟩ = some (.int .u8 4)) : Calls Tryz.prog 195 #[.int .u64 16] w fun e w' => e = .returned (.int .i64 4) ∧ w' = w := by
  go_enter Tryz.func195, Tryz.ntmps195
  go_wp2_with (go_at_call 203; ((with_reducible refine (tz16 w h).mono ?_); rintro e w2 ⟨rfl, rfl⟩))
  go_ret
  exact ⟨rfl, rfl⟩
theorem run_alloc65 (w : World) (ρ : Operand → Value) (o : Oper) (ho : o.op = .alloc 271) : (execOp ρ o).run Tryz.prog w = .ok (.value (.pointer (some ⟨w.heap.size, 0, none⟩))) (w.alloc (.cells (cells8 (List.replicate 65 0)) 271)) := by
  unfold execOp
  rw [ho]
  kernel_rfl
theorem wpList_alloc65 {ops : Array Oper} {rest : List Oper} {o : Oper} {a : Act} {w : World} {Q : Exit → Act → World → Prop} (hg : o.guard = none) (ho : o.op = .alloc 271) (n : Nat) (hn : n = w.heap.size)
    (h : wpList Tryz.prog ops Q rest (a.put o.dst (.pointer (some ⟨n, 0, none⟩))) (w.alloc (.cells (cells8 (List.replicate 65 0)) 271))) : wpList Tryz.prog ops Q (o :: rest) a w := by
  subst hn
  exact Great.wpList_allocTo hg _ rfl _ _ (run_alloc65 w _ o ho) h
theorem conv_at (w : World) (b : Nat) (l : Bs) (t : TypeId) (h : rowC w b (cells8 l) t) (off n cap : Nat) (hn : off + n = l.length) :
    (convert 132 9 (.slice (some ⟨b, off, none⟩) n cap)).run Tryz.prog w = .ok (.string (str (l.drop off))) w := by
  rw [run_convert_bytes_arg w 132 5 Tryz.underlying132 Tryz.underlying5 b off n cap ((l.drop off).map fun b => (b.toNat : Int)) (by simp; omega) (fun i hi => ?_) 9 Tryz.underlying9, str_nums]
  rw [rowC_cell h, cells8_get _ _ (by omega)]
  have h1 : i < (l.drop off).length := by rw [List.length_drop]; omega
  simp [List.getD_eq_getElem?_getD, byteV, List.getElem?_eq_getElem (show off + i < l.length by omega)]
set_option maxRecDepth 100000 in
set_option maxHeartbeats 4000000 in
theorem fmtBits_small (c : Nat) (hc : c < 16) (w : World) (h : w.cell? ⟨9, 15, none⟩ = some (.int .u8 4)) :
    Calls Tryz.prog 177 #[.slice none 0 0, .int .u64 (c : Int), .int .i64 16, .bool false, .bool false] w fun e w' => e = .returned (.tuple #[.slice none 0 0, .string (str (hexS c))]) ∧ Below w.heap.size w w' := by
  have hidx := idx_dig c hc
  obtain ⟨W0, hW0⟩ : ∃ W0, W0 = w.alloc (.cells (cells8 (List.replicate 65 0)) 271) := ⟨_, rfl⟩
  have R0 : rowC W0 w.heap.size (cells8 (List.replicate 65 0)) 271 := by rw [hW0]; exact rowC_new w _ _
  have B0 : Below w.heap.size w W0 := by rw [hW0]; exact (Below.refl _ _).alloc (Nat.le_refl _) _
  have h0 : W0.cell? ⟨9, 15, none⟩ = some (.int .u8 4) := (B0.cell (World.block_lt_of_cell? w _ h)).trans h
  have P := pow16 W0
  have T := tzs16 W0 h0
  have c0 := rowC_cell R0 64
  have f0 := rowC_free R0 64
  have R1 := rowC_set R0 64 (byteV (hexd c))
  rw [cells8_set] at R1
  have cv : (convert 132 9 (.slice (some ⟨w.heap.size, 64, none⟩) 1 1)).run Tryz.prog (W0.setCell ⟨w.heap.size, 64, none⟩ (.int .u8 ((hexd c).toNat : Int))) = .ok (.string (str [hexd c])) (W0.setCell ⟨w.heap.size, 64, none⟩ (.int .u8 ((hexd c).toNat : Int))) := conv_at _ _ _ _ R1 64 1 1 (by simp)
  have HF : Hid (Below w.heap.size w (W0.setCell ⟨w.heap.size, 64, none⟩ (.int .u8 ((hexd c).toNat : Int)))) := Lib.hid (B0.setCell (p := ⟨w.heap.size, 64, none⟩) (Nat.le_refl _) _)
  have HX : Hid (hexS c = [hexd c]) := Lib.hid (if_pos hc)
  have HW0 := Lib.hid hW0
  have HB0 := Lib.hid B0
  have hlt : ¬ ((16 : Int) ≤ (c : Int)) := by omega
  clear hW0 B0 R0 R1 h h0
  go_enter Tryz.func177, Tryz.ntmps177
  go_wp2_with (first
    | ((with_reducible show wpList _ _ _ (⟨some 12, .alloc _, _, _, _, _⟩ :: _) _ _); refine wpList_alloc65 rfl rfl w.heap.size rfl ?_; rw [← HW0.out])
    | (go_at_call 194; ((with_reducible refine P.mono ?_); rintro e w2 ⟨rfl, rfl⟩))
    | (go_at_call 195; ((with_reducible refine T.mono ?_); rintro e w2 ⟨rfl, rfl⟩)))
  refine wp_loop_rounds 1 ?_
  rw [rounds_succ]
  go_wp2
  go_ret2
  rw [HX.out]
  exact ⟨rfl, HF.out⟩
set_option maxRecDepth 100000 in
set_option maxHeartbeats 4000000 in
theorem fmtBits_big (c : Nat) (h16 : 16 ≤ c) (hc : c < 32) (w : World) (h : w.cell? ⟨9, 15, none⟩ = some (.int .u8 4)) :
    Calls Tryz.prog 177 #[.slice none 0 0, .int .u64 (c : Int), .int .i64 16, .bool false, .bool false] w fun e w' => e = .returned (.tuple #[.slice none 0 0, .string (str (hexS c))]) ∧ Below w.heap.size w w' := by
  obtain ⟨d, rfl⟩ : ∃ d, c = 16 + d := ⟨c - 16, by omega⟩
  have hidx := idx_dig d (by omega)
  have hidx1 : ∀ w, (Instr.index 9 (.string ⟨#[48, 49, 50, 51, 52, 53, 54, 55, 56, 57, 97, 98, 99, 100, 101, 102, 103, 104, 105, 106, 107, 108, 109, 110, 111, 112, 113, 114, 115, 116, 117, 118, 119, 120, 121, 122]⟩) (.int .u64 1)).run Tryz.prog w = .ok (.int .u8 49) w := idx_dig 1 (by decide)
  obtain ⟨W0, hW0⟩ : ∃ W0, W0 = w.alloc (.cells (cells8 (List.replicate 65 0)) 271) := ⟨_, rfl⟩
  have R0 : rowC W0 w.heap.size (cells8 (List.replicate 65 0)) 271 := by rw [hW0]; exact rowC_new w _ _
  have B0 : Below w.heap.size w W0 := by rw [hW0]; exact (Below.refl _ _).alloc (Nat.le_refl _) _
  have h0 : W0.cell? ⟨9, 15, none⟩ = some (.int .u8 4) := (B0.cell (World.block_lt_of_cell? w _ h)).trans h
  have P := pow16 W0
  have T := tzs16 W0 h0
  have c0 := rowC_cell R0 64
  have f0 := rowC_free R0 64
  have R1 := rowC_set R0 64 (byteV (hexd d))
  rw [cells8_set] at R1
  have c1 : (W0.setCell ⟨w.heap.size, 64, none⟩ (.int .u8 ((hexd d).toNat : Int))).cell? ⟨w.heap.size, 63, none⟩ = some (byteV 0) := rowC_cell R1 63
  have f1 : (W0.setCell ⟨w.heap.size, 64, none⟩ (.int .u8 ((hexd d).toNat : Int))).frozen? ⟨w.heap.size, 63, none⟩ = false := rowC_free R1 63
  have R2 := rowC_set R1 63 (byteV (hexd 1))
  rw [cells8_set] at R2
  have cv : (convert 132 9 (.slice (some ⟨w.heap.size, 63, none⟩) 2 2)).run Tryz.prog ((W0.setCell ⟨w.heap.size, 64, none⟩ (.int .u8 ((hexd d).toNat : Int))).setCell ⟨w.heap.size, 63, none⟩ (.int .u8 49)) = .ok (.string (str [49, hexd d])) ((W0.setCell ⟨w.heap.size, 64, none⟩ (.int .u8 ((hexd d).toNat : Int))).setCell ⟨w.heap.size, 63, none⟩ (.int .u8 49)) := conv_at _ _ _ _ R2 63 2 2 (by simp)
  have HF : Hid (Below w.heap.size w ((W0.setCell ⟨w.heap.size, 64, none⟩ (.int .u8 ((hexd d).toNat : Int))).setCell ⟨w.heap.size, 63, none⟩ (.int .u8 49))) := Lib.hid ((B0.setCell (p := ⟨w.heap.size, 64, none⟩) (Nat.le_refl _) _).setCell (p := ⟨w.heap.size, 63, none⟩) (Nat.le_refl _) _)
  have HX : Hid (hexS (16 + d) = [49, hexd d]) := Lib.hid (by unfold hexS; rw [if_neg (by omega), Nat.add_sub_cancel_left])
  have HW0 := Lib.hid hW0
  have HB0 := Lib.hid B0
  have hge : (16 : Int) ≤ 16 + (d : Int) := by omega
  have hand : bits BinOp.and .u64 (16 + (d : Int)) 15 = (d : Int) := by
    have : ∀ d : Fin 16, bits BinOp.and .u64 (16 + (d.val : Int)) 15 = (d.val : Int) := by decide
    exact this ⟨d, by omega⟩
  have hshr : (16 + (d : Int)) / 16 = 1 := by omega
  clear hW0 B0 R0 R1 R2 h h0
  go_enter Tryz.func177, Tryz.ntmps177
  go_wp2_with (first
    | ((with_reducible show wpList _ _ _ (⟨some 12, .alloc _, _, _, _, _⟩ :: _) _ _); refine wpList_alloc65 rfl rfl w.heap.size rfl ?_; rw [← HW0.out])
    | (go_at_call 194; ((with_reducible refine P.mono ?_); rintro e w2 ⟨rfl, rfl⟩))
    | (go_at_call 195; ((with_reducible refine T.mono ?_); rintro e w2 ⟨rfl, rfl⟩)))
  refine wp_loop_rounds 2 ?_
  rw [rounds_succ]
  go_wp2
  rw [rounds_succ]
  go_wp2
  go_ret2
  rw [HX.out]
  exact ⟨rfl, HF.out⟩
theorem fmtBits_any (c : Nat) (hc : c < 32) (w : World) (h : w.cell? ⟨9, 15, none⟩ = some (.int .u8 4)) :
    Calls Tryz.prog 177 #[.slice none 0 0, .int .u64 (c : Int), .int .i64 16, .bool false, .bool false] w fun e w' => e = .returned (.tuple #[.slice none 0 0, .string (str (hexS c))]) ∧ Below w.heap.size w w' := by
  by_cases h16 : c < 16
  · exact fmtBits_small c h16 w h
  · exact fmtBits_big c (by omega) hc w h
theorem ifmt_any (c : Nat) (hc : c < 32) (w : World) (h : w.cell? ⟨9, 15, none⟩ = some (.int .u8 4)) :
    Calls Tryz.prog 153 #[.int .i64 (c : Int), .int .i64 16] w fun e w' => e = .returned (.string (str (hexS c))) ∧ Below w.heap.size w w' := by
  have C := fmtBits_any c hc w h
  have h0 : ¬ ((c : Int) < 0) := by omega
  have hb : (c : Int) ≤ 31 := by omega
  clear h
  go_enter Tryz.func153, Tryz.ntmps153
  go_wp2_with (go_at_call 177; ((with_reducible refine C.mono ?_); rintro e w2 ⟨rfl, hb2⟩))
  go_ret
  exact ⟨rfl, hb2⟩
theorem fmt_any (c : Nat) (hc : c < 32) (w : World) (h : w.cell? ⟨9, 15, none⟩ = some (.int .u8 4)) :
    Calls Tryz.prog 164 #[.int .i64 (c : Int), .int .i64 16] w fun e w' => e = .returned (.string (str (hexS c))) ∧ Below w.heap.size w w' := by
  have C := ifmt_any c hc w h
  clear h
  go_enter Tryz.func164, Tryz.ntmps164
  go_wp2_with (go_at_call 153; ((with_reducible refine C.mono ?_); rintro e w2 ⟨rfl, hb2⟩))
  go_ret
  exact ⟨rfl, hb2⟩
end Go.Proofs.YtnkencdibniagaaGreatDoor

