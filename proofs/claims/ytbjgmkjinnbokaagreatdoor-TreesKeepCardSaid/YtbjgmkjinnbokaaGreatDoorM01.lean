/- Merged: Row, Chg. -/
import Derived.Test.YtbjgmkjinnbokaaGreatDoorRows
import Derived.WalkKit
import Derived.Lib.Hide
import Derived.WalkLawsBesides
import Derived.WalkSpells
import Derived.Deep.QuietTactic
import Derived.BigQuiet
import Derived.Laws.Bits64b
import Derived.Laws.BitsAllLaws
import Derived.Outline
import Derived.Deep.MidRow
import Derived.Deep.WholeRow
import Derived.Laws.Rows
import Derived.Laws.ResultCell
import Derived.StillTailTactics
import Derived.BigRegion
import Derived.IntWalk
import Derived.Deep.RegionWith
import Derived.Deep.RegionHeld3
import Derived.Below
import Derived.Laws.BytesArg
import Derived.Laws.MakeOwn
import Derived.Laws.OwnMore
import Derived.Laws.AppendOwnNone
import Derived.OwnWalk
import Derived.Maps.AppendAt
import Derived.Deep.AppendLies
/- Rows of cells, bytes and texts in memory, as any layer's walks meet them (it wants of the cut only the types uint8 and string). -/
namespace Go.Proofs.YtbjgmkjinnbokaaGreatDoor
open Go.RowKit

theorem size_alloc (w : World) (o : Obj) : (w.alloc o).heap.size = w.heap.size + 1 := by
  show (w.heap.push o).size = _
  simp
theorem below_setRow {B : Nat} {a w : World} (h : Below B a w) {g : Nat} (hg : B ≤ g) (cs : Array Value) : Below B a (w.setRow g cs) :=
  ⟨h.os, h.tape, h.output, by rw [setRow_size]; exact h.size, fun k hk => (setRow_other w g k cs (by omega)).trans (h.block k hk)⟩
theorem below_drewN {B : Nat} {a w : World} (h : Below B a w) (n : Nat) : Below B a (w.drewN n) := h.trans ⟨rfl, rfl, rfl, Nat.le_refl _, fun _ _ => rfl⟩
/-- A byte of a text, as the walk meets it. -/
theorem idx_str (s : ByteArray) (i : Nat) (x : Int) (hx : x = i) (h : i < s.size) : ∀ w, (Instr.index 9 (.string s) (.int .i64 x)).run Tryz.prog w = .ok (.int .u8 ((s.data.toList.getD i 0).toNat : Int)) w := by
  intro w
  subst hx
  rw [run_index_string w _ s _ _ Tryz.underlying9, dif_pos ⟨by omega, by omega⟩]
  have h2 : i < s.data.toList.length := by simpa using h
  simp only [Int.toNat_natCast]
  congr 3
  rw [List.getD_eq_getElem?_getD, List.getElem?_eq_getElem h2]
  rfl

/-! ### A row of cells, whatever they are -/
/-- The block b is just these cells. -/
def rowC (w : World) (b : Nat) (cs : Array Value) (t : TypeId) : Prop := w.heap[b]? = some (.cells cs t (0, 0))
section
variable {w : World} {b : Nat} {cs : Array Value} {t : TypeId}
theorem rowC_lt (h : rowC w b cs t) : b < w.heap.size := (Array.getElem?_eq_some_iff.1 h).1
theorem rowC_cell (h : rowC w b cs t) (i : Nat) : w.cell? ⟨b, i, none⟩ = cs[i]? := cell_of_row w b i _ t _ h
theorem rowC_free (h : rowC w b cs t) (i : Nat) : w.frozen? ⟨b, i, none⟩ = false := frozen_of_row w b i _ t h
theorem rowC_set (h : rowC w b cs t) (i : Nat) (x : Value) : rowC (w.setCell ⟨b, i, none⟩ x) b (cs.setIfInBounds i x) t := heap_setCell_same w b i _ t _ h
theorem rowC_other (h : rowC w b cs t) (a : Addr) (v : Value) (hne : b ≠ a.block) : rowC (w.setCell a v) b cs t := (heap_setCell_other w a b v hne).trans h
theorem rowC_alloc (h : rowC w b cs t) (o : Obj) : rowC (w.alloc o) b cs t := (Below.heap_alloc w o b (rowC_lt h)).trans h
theorem rowC_setRow_other (h : rowC w b cs t) (g : Nat) (d : Array Value) (hne : b ≠ g) : rowC (w.setRow g d) b cs t := (setRow_other w g b d hne).trans h
theorem rowC_setRow (h : rowC w b cs t) (d : Array Value) : rowC (w.setRow b d) b d t := setRow_heap w b cs d t _ h
theorem rowC_new (w : World) (cs : Array Value) (t : TypeId) : rowC (w.alloc (.cells cs t)) w.heap.size cs t := heap_alloc_new w _
theorem rowC_below (h : rowC w b cs t) {w' : World} {B : Nat} (hb : Below B w w') (hlt : b < B) : rowC w' b cs t := (hb.block b hlt).trans h
end
/-! ### A composite literal, and its store into the block that was made last -/
theorem wpList_store_last {P : Program} {W : World} {ops : Array Oper} {rest : List Oper} {o : Oper} {a : Act} {Q : Exit → Act → World → Prop} (hgd : o.guard = none) (ty : TypeId) (x y : Operand) (ho : o.op = .store ty x y)
    (n : Nat) (cells : Array Value) (hx : a.eval x = .pointer (some ⟨n, 0, none⟩)) (hy : a.eval y = .agg cells) (t : TypeId) (old : Array Value) (hn : n = W.heap.size)
    (hi : (P.info? ty).map (·.size) = some cells.size) (hold : old.size = cells.size) (h1 : cells.all (·.oneCell') = true)
    (h : wpList P ops Q rest (a.put o.dst undef) (W.alloc (.cells cells t))) : wpList P ops Q (o :: rest) a (W.alloc (.cells old t)) := by
  subst hn
  refine wpList_store_row hgd ty x y ho W.heap.size cells hx hy t old (heap_alloc_new W _) hi hold h1 ?_
  rw [World.setRow_alloc_new]
  exact h
/-- Bytes as cells. -/
def byteV (b : UInt8) : Value := .int .u8 (b.toNat : Int)
theorem byteV_ofNat (x : Nat) : byteV (UInt8.ofNat x) = .int .u8 ((x : Int) % 256) := by
  unfold byteV; simp
/-- A list of bytes as a text. -/
def str (l : List UInt8) : ByteArray := ⟨l.toArray⟩
theorem str_size (l : List UInt8) : (str l).size = l.length := by simp [str, ByteArray.size]
theorem str_toList (l : List UInt8) : (str l).data.toList = l := by simp [str]
theorem bytes_toList {a b : ByteArray} (h : a.data.toList = b.data.toList) : a = b := by
  cases a; cases b; simp_all
theorem str_append (a b : List UInt8) : str a ++ str b = str (a ++ b) := by
  refine bytes_toList ?_
  simp [str, ByteArray.data_append]
theorem info_u8 : (Tryz.prog.info? 5).map (fun i => (i.zero, i.size, i.bytes)) = some (some (.int .u8 0), 1, 1) := by kernel_rfl
theorem str_nums (l : List UInt8) : strOfNums (l.map fun b => (b.toNat : Int)) = str l := by
  unfold strOfNums str
  congr 2
  rw [List.map_map]
  conv => rhs; rw [← List.map_id l]
  refine List.map_congr_left fun x _ => ?_
  simp
theorem retStr {a b : ByteArray} (h : a = b) : Ending.returned (.string a) = .returned (.string b) := by rw [h]

/-- A row out of memory, and a number beside it, as results. -/
theorem results_row_tmp {P : Program} {fn : Func} {p u : Tmp} {ty : TypeId} (h : fn.results = #[.cell p ty, .tmp u]) (tmps : Array Value) (w : World) (g : Nat) (t : TypeId) (cs : Array Value) (d : TypeDesc)
    (hp : tmps.getD p undef = .pointer (some ⟨g, 0, none⟩)) (hg : rowC w g cs t)
    (hu : P.underlying ty = some d) (hd : (match d with | .struct _ | .array _ _ => true | _ => false) = true) (hi : (P.info? ty).map (·.size) = some cs.size) (v : Value) (hv : tmps.getD u undef = v) :
    (results fn tmps).run P w = .ok (.tuple #[.agg cs, v]) w := by
  rw [results_cell_tmp h, hp, hv]
  simp only [asAddr, Sem.run_pure, Result.andThen_ok, run_loadVar_row w g t ty cs (0, 0) d hg hu hd hi]
end Go.Proofs.YtbjgmkjinnbokaaGreatDoor

/- What a call changes: new blocks, and of the old ones just some. (Generic: it names nothing of the cut.) -/
namespace Go.Proofs.YtbjgmkjinnbokaaGreatDoor
open Go.RowKit

/-- w' is w with new blocks, and of the old ones none but those of s is another one. -/
structure Chg (s : Nat → Prop) (w w' : World) : Prop where
  os : w'.os = w.os
  tape : w'.tape = w.tape
  output : w'.output = w.output
  size : w.heap.size ≤ w'.heap.size
  block : ∀ k, k < w.heap.size → ¬ s k → w'.heap[k]? = w.heap[k]?
theorem Chg.refl (s : Nat → Prop) (w : World) : Chg s w w := ⟨rfl, rfl, rfl, Nat.le_refl _, fun _ _ _ => rfl⟩
theorem Chg.trans {s t : Nat → Prop} {a b c : World} (h : Chg s a b) (g : Chg t b c) (ht : ∀ k, k < a.heap.size → t k → s k) : Chg s a c :=
  ⟨g.os.trans h.os, g.tape.trans h.tape, g.output.trans h.output, Nat.le_trans h.size g.size, fun k hk hs => (g.block k (Nat.lt_of_lt_of_le hk h.size) (fun hh => hs (ht k hk hh))).trans (h.block k hk hs)⟩
theorem Chg.of_below {s : Nat → Prop} {w w' : World} (h : Below w.heap.size w w') : Chg s w w' := ⟨h.os, h.tape, h.output, h.size, fun k hk _ => h.block k hk⟩
theorem Chg.below {s : Nat → Prop} {w w' : World} (h : Chg s w w') {B : Nat} (hB : B ≤ w.heap.size) (hs : ∀ k, k < B → ¬ s k) : Below B w w' :=
  ⟨h.os, h.tape, h.output, h.size, fun k hk => h.block k (Nat.lt_of_lt_of_le hk hB) (hs k hk)⟩
theorem Chg.mono {s t : Nat → Prop} {w w' : World} (h : Chg s w w') (hs : ∀ k, k < w.heap.size → s k → t k) : Chg t w w' :=
  ⟨h.os, h.tape, h.output, h.size, fun k hk ht => h.block k hk (fun hh => ht (hs k hk hh))⟩
theorem Chg.then_below {s : Nat → Prop} {a w w' : World} (h : Chg s a w) (g : Below w.heap.size w w') : Chg s a w' := h.trans (t := s) (Chg.of_below g) (fun _ _ h => h)
theorem Chg.alloc {s : Nat → Prop} {a w : World} (h : Chg s a w) (o : Obj) : Chg s a (w.alloc o) := h.then_below ((Below.refl _ _).alloc (Nat.le_refl _) _)
theorem Chg.drew {s : Nat → Prop} {a w : World} (h : Chg s a w) : Chg s a w.drew := ⟨h.os, h.tape, h.output, h.size, h.block⟩
theorem Chg.drewN {s : Nat → Prop} {a w : World} (h : Chg s a w) (n : Nat) : Chg s a (w.drewN n) := ⟨h.os, h.tape, h.output, h.size, h.block⟩
theorem Chg.setCell {s : Nat → Prop} {a w : World} (h : Chg s a w) (p : Addr) (v : Value) (hp : s p.block ∨ a.heap.size ≤ p.block) : Chg s a (w.setCell p v) := by
  refine ⟨h.os, h.tape, h.output, ?_, fun k hk hs => ?_⟩
  · rw [World.size_setCell]; exact h.size
  · rw [heap_setCell_other w p k v (fun e => by subst e; rcases hp with hp | hp; exact hs hp; omega)]
    exact h.block k hk hs
theorem Chg.setRow {s : Nat → Prop} {a w : World} (h : Chg s a w) (g : Nat) (cs : Array Value) (hp : s g ∨ a.heap.size ≤ g) : Chg s a (w.setRow g cs) := by
  refine ⟨h.os, h.tape, h.output, ?_, fun k hk hs => ?_⟩
  · rw [setRow_size]; exact h.size
  · rw [setRow_other w g k cs (fun e => by subst e; rcases hp with hp | hp; exact hs hp; omega)]
    exact h.block k hk hs
theorem Chg.grown {s : Nat → Prop} {a w w' : World} (h : Chg s a w) {row : Option Nat} (g : w.grownBy w' row) (hr : ∀ k, row = some k → s k ∨ a.heap.size ≤ k) : Chg s a w' := by
  refine ⟨g.os.trans h.os, g.tape.trans h.tape, g.output.trans h.output, Nat.le_trans h.size g.size, fun k hk hs => ?_⟩
  rw [g.block k (Nat.lt_of_lt_of_le hk h.size) (fun e => by rcases hr k e.symm with hp | hp; exact hs hp; omega)]
  exact h.block k hk hs
theorem Chg.rowC {s : Nat → Prop} {w w' : World} (h : Chg s w w') {b : Nat} {cs : Array Value} {t : TypeId} (hr : rowC w b cs t) (hs : ¬ s b) : rowC w' b cs t := (h.block b (rowC_lt hr) hs).trans hr
theorem Chg.owns {s : Nat → Prop} {w w' : World} (h : Chg s w w') {base : Nat} {e : TypeId} {size n : Nat} {v : Value} {xs : List Value} (ho : w.ownsRow base e size v n xs) (hs : ∀ g, v.ownBlock = some g → ¬ s g) : w'.ownsRow base e size v n xs := by
  have hl := ho.lt
  refine ⟨ho.1, ?_⟩
  rcases ho.2 with hn | ⟨g, cap, cur, hv, hb, hg, hrest⟩
  · exact .inl hn
  · refine .inr ⟨g, cap, cur, hv, hb, ?_, hrest⟩
    have hlt := (hl g (by rw [hv]; rfl)).2
    exact (h.block g hlt (hs g (by rw [hv]; rfl))).trans hg
theorem owns_form {w : World} {base : Nat} {e : TypeId} {size n : Nat} {v : Value} {xs : List Value} (ho : w.ownsRow base e size v n xs) : ∃ a cap, v = .slice a n cap := by
  rcases ho.2 with ⟨hv, rfl⟩ | ⟨g, cap, cur, hv, _⟩
  · exact ⟨none, 0, hv⟩
  · exact ⟨_, cap, hv⟩
theorem owns_some {w : World} {base : Nat} {e : TypeId} {size n : Nat} {v : Value} {xs : List Value} (ho : w.ownsRow base e size v n xs) (hn : 0 < n) : ∃ g cap, v = .slice (some ⟨g, 0, none⟩) n cap := by
  rcases ho.2 with ⟨hv, rfl⟩ | ⟨g, cap, cur, hv, _⟩
  · omega
  · exact ⟨g, cap, hv⟩
end Go.Proofs.YtbjgmkjinnbokaaGreatDoor

