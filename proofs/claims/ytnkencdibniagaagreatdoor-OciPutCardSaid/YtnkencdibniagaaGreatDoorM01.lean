/- Merged: Row, JsA, OhA. -/
import Derived.Test.YtnkencdibniagaaGreatDoorRows
import Derived.WalkKit
import Derived.Lib.Hide
import Derived.WalkLawsBesides
import Derived.WalkSpells
import Derived.Deep.QuietTactic
import Derived.BigQuiet
import Derived.Laws.Bits64b
import Derived.Laws.BitsAllLaws
import Derived.Outline
import Derived.Deep.MidRow
import Derived.Deep.WholeRow
import Derived.Laws.Rows
import Derived.Laws.ResultCell
import Derived.StillTailTactics
import Derived.BigRegion
import Derived.IntWalk
import Derived.Deep.RegionWith
import Derived.Deep.RegionHeld3
import Derived.Below
import Derived.Laws.BytesArg
import Derived.Laws.MakeOwn
import Derived.Laws.OwnMore
import Derived.Laws.AppendOwnNone
import Derived.OwnWalk
import Derived.Maps.AppendAt
import Derived.Deep.AppendLies
import Derived.Lib.ValidLaws
import Derived.Lib.RuneBytes
import Derived.Deep.DeepCutAuto
import Derived.Deep.CutBlock
/- Rows of cells, bytes and texts in memory, as any layer's walks meet them (it wants of the cut only the types uint8 and string). -/
namespace Go.Proofs.YtnkencdibniagaaGreatDoor
open Go.RowKit

theorem retBool {a b : Bool} (h : a = b) : Ending.returned (.bool a) = .returned (.bool b) := by rw [h]
theorem retInt {k : IntKind} {a b : Int} (h : a = b) : Ending.returned (.int k a) = .returned (.int k b) := by rw [h]
theorem size_alloc (w : World) (o : Obj) : (w.alloc o).heap.size = w.heap.size + 1 := by
  show (w.heap.push o).size = _
  simp
theorem below_setRow {B : Nat} {a w : World} (h : Below B a w) {g : Nat} (hg : B ≤ g) (cs : Array Value) : Below B a (w.setRow g cs) :=
  ⟨h.os, h.tape, h.output, by rw [setRow_size]; exact h.size, fun k hk => (setRow_other w g k cs (by omega)).trans (h.block k hk)⟩
theorem below_drewN {B : Nat} {a w : World} (h : Below B a w) (n : Nat) : Below B a (w.drewN n) := h.trans ⟨rfl, rfl, rfl, Nat.le_refl _, fun _ _ => rfl⟩
/-- A byte of a text, as the walk meets it. -/
theorem idx_str (s : ByteArray) (i : Nat) (x : Int) (hx : x = i) (h : i < s.size) : ∀ w, (Instr.index 9 (.string s) (.int .i64 x)).run Tryz.prog w = .ok (.int .u8 ((s.data.toList.getD i 0).toNat : Int)) w := by
  intro w
  subst hx
  rw [run_index_string w _ s _ _ Tryz.underlying9, dif_pos ⟨by omega, by omega⟩]
  have h2 : i < s.data.toList.length := by simpa using h
  simp only [Int.toNat_natCast]
  congr 3
  rw [List.getD_eq_getElem?_getD, List.getElem?_eq_getElem h2]
  rfl

theorem qs {P : Program} {f : FuncId} {args : Array Value} {w : World} {n : Nat} {v : Value} (h : Calls P f args (w.drewN n) fun e w' => e = .returned v ∧ w.drewN n = w') :
    Calls P f args (w.drewN n) fun e w'' => e = .returned v ∧ ∃ m, w'' = w.drewN m := h.mono fun _ _ ⟨he, hm⟩ => ⟨he, n, hm.symm⟩
theorem qs2 {P : Program} {f : FuncId} {args : Array Value} {w : World} {a n : Nat} {v : Value} (h : Calls P f args (w.drewN (a + n)) fun e w' => e = .returned v ∧ w.drewN (a + n) = w') :
    Calls P f args (w.drewN (a + n)) fun e w'' => e = .returned v ∧ ∃ m, w'' = w.drewN (a + m) := h.mono fun _ _ ⟨he, hm⟩ => ⟨he, n, hm.symm⟩
/-! ### A row of cells, whatever they are -/
/-- The block b is just these cells. -/
def rowC (w : World) (b : Nat) (cs : Array Value) (t : TypeId) : Prop := w.heap[b]? = some (.cells cs t (0, 0))
section
variable {w : World} {b : Nat} {cs : Array Value} {t : TypeId}
theorem rowC_lt (h : rowC w b cs t) : b < w.heap.size := (Array.getElem?_eq_some_iff.1 h).1
theorem rowC_cell (h : rowC w b cs t) (i : Nat) : w.cell? ⟨b, i, none⟩ = cs[i]? := cell_of_row w b i _ t _ h
theorem rowC_free (h : rowC w b cs t) (i : Nat) : w.frozen? ⟨b, i, none⟩ = false := frozen_of_row w b i _ t h
theorem rowC_set (h : rowC w b cs t) (i : Nat) (x : Value) : rowC (w.setCell ⟨b, i, none⟩ x) b (cs.setIfInBounds i x) t := heap_setCell_same w b i _ t _ h
theorem rowC_other (h : rowC w b cs t) (a : Addr) (v : Value) (hne : b ≠ a.block) : rowC (w.setCell a v) b cs t := (heap_setCell_other w a b v hne).trans h
theorem rowC_drew (h : rowC w b cs t) : rowC w.drew b cs t := h
theorem rowC_drewN (h : rowC w b cs t) (n : Nat) : rowC (w.drewN n) b cs t := h
theorem rowC_alloc (h : rowC w b cs t) (o : Obj) : rowC (w.alloc o) b cs t := (Below.heap_alloc w o b (rowC_lt h)).trans h
theorem rowC_setRow_other (h : rowC w b cs t) (g : Nat) (d : Array Value) (hne : b ≠ g) : rowC (w.setRow g d) b cs t := (setRow_other w g b d hne).trans h
theorem rowC_setRow (h : rowC w b cs t) (d : Array Value) : rowC (w.setRow b d) b d t := setRow_heap w b cs d t _ h
theorem rowC_new (w : World) (cs : Array Value) (t : TypeId) : rowC (w.alloc (.cells cs t)) w.heap.size cs t := heap_alloc_new w _
theorem rowC_below (h : rowC w b cs t) {w' : World} {B : Nat} (hb : Below B w w') (hlt : b < B) : rowC w' b cs t := (hb.block b hlt).trans h
end
/-! ### A composite literal, and its store into the block that was made last -/
theorem wpList_build_as {P : Program} {w : World} {ops : Array Oper} {rest : List Oper} {o : Oper} {a : Act} {Q : Exit → Act → World → Prop} (hg : o.guard = none) (t : TypeId) (parts : Array (Nat × Operand)) (ho : o.op = .build t parts) (cells : Array Value)
    (hc : P.built t (parts.map fun (i, x) => (i, a.eval x)).toList = some cells) (h : wpList P ops Q rest (a.put o.dst (.agg cells)) w) : wpList P ops Q (o :: rest) a w := by
  refine wpList_build hg t parts ho (by rw [hc]; rfl) ?_
  rw [hc]
  exact h
theorem wpList_store_last {P : Program} {W : World} {ops : Array Oper} {rest : List Oper} {o : Oper} {a : Act} {Q : Exit → Act → World → Prop} (hgd : o.guard = none) (ty : TypeId) (x y : Operand) (ho : o.op = .store ty x y)
    (n : Nat) (cells : Array Value) (hx : a.eval x = .pointer (some ⟨n, 0, none⟩)) (hy : a.eval y = .agg cells) (t : TypeId) (old : Array Value) (hn : n = W.heap.size)
    (hi : (P.info? ty).map (·.size) = some cells.size) (hold : old.size = cells.size) (h1 : cells.all (·.oneCell') = true)
    (h : wpList P ops Q rest (a.put o.dst undef) (W.alloc (.cells cells t))) : wpList P ops Q (o :: rest) a (W.alloc (.cells old t)) := by
  subst hn
  refine wpList_store_row hgd ty x y ho W.heap.size cells hx hy t old (heap_alloc_new W _) hi hold h1 ?_
  rw [World.setRow_alloc_new]
  exact h
/-- Bytes as cells. -/
def byteV (b : UInt8) : Value := .int .u8 (b.toNat : Int)
def cells8 (l : List UInt8) : Array Value := (l.map byteV).toArray
theorem byteV_ofNat (x : Nat) : byteV (UInt8.ofNat x) = .int .u8 ((x : Int) % 256) := by
  unfold byteV; simp
theorem cells8_size (l : List UInt8) : (cells8 l).size = l.length := by simp [cells8]
theorem cells8_get (l : List UInt8) (i : Nat) (h : i < l.length) : (cells8 l)[i]? = some (byteV (l.getD i 0)) := by
  simp [cells8, h, List.getD_eq_getElem?_getD]
theorem cells8_set (l : List UInt8) (i : Nat) (x : UInt8) : (cells8 l).setIfInBounds i (byteV x) = cells8 (l.set i x) := by
  simp [cells8, List.map_set]
theorem cells8_one (l : List UInt8) : (cells8 l).all (·.oneCell') = true := all_oneCell_toArray (fun v hv => by
  obtain ⟨x, _, rfl⟩ := List.mem_map.1 hv
  rfl)
/-- A list of bytes as a text. -/
def str (l : List UInt8) : ByteArray := ⟨l.toArray⟩
theorem str_size (l : List UInt8) : (str l).size = l.length := by simp [str, ByteArray.size]
theorem str_toList (l : List UInt8) : (str l).data.toList = l := by simp [str]
theorem bytes_toList {a b : ByteArray} (h : a.data.toList = b.data.toList) : a = b := by
  cases a; cases b; simp_all
theorem str_append (a b : List UInt8) : str a ++ str b = str (a ++ b) := by
  refine bytes_toList ?_
  simp [str, ByteArray.data_append]
theorem info_u8 : (Tryz.prog.info? 5).map (fun i => (i.zero, i.size, i.bytes)) = some (some (.int .u8 0), 1, 1) := by kernel_rfl
theorem str_nums (l : List UInt8) : strOfNums (l.map fun b => (b.toNat : Int)) = str l := by
  unfold strOfNums str
  congr 2
  rw [List.map_map]
  conv => rhs; rw [← List.map_id l]
  refine List.map_congr_left fun x _ => ?_
  simp
theorem retStr {a b : ByteArray} (h : a = b) : Ending.returned (.string a) = .returned (.string b) := by rw [h]

/-- A byte of a text at an index of any kind. -/
theorem idx_strK (k : IntKind) (s : ByteArray) (i : Nat) (x : Int) (hx : x = i) (h : i < s.size) : ∀ w, (Instr.index 9 (.string s) (.int k x)).run Tryz.prog w = .ok (.int .u8 ((s.data.toList.getD i 0).toNat : Int)) w := by
  intro w
  subst hx
  rw [run_index_string w _ s _ _ Tryz.underlying9, dif_pos ⟨by omega, by omega⟩]
  have h2 : i < s.data.toList.length := by simpa using h
  simp only [Int.toNat_natCast]
  congr 3
  rw [List.getD_eq_getElem?_getD, List.getElem?_eq_getElem h2]
  rfl
/-- A row out of memory, and a number beside it, as results. -/
theorem results_row_tmp {P : Program} {fn : Func} {p u : Tmp} {ty : TypeId} (h : fn.results = #[.cell p ty, .tmp u]) (tmps : Array Value) (w : World) (g : Nat) (t : TypeId) (cs : Array Value) (d : TypeDesc)
    (hp : tmps.getD p undef = .pointer (some ⟨g, 0, none⟩)) (hg : rowC w g cs t)
    (hu : P.underlying ty = some d) (hd : (match d with | .struct _ | .array _ _ => true | _ => false) = true) (hi : (P.info? ty).map (·.size) = some cs.size) (v : Value) (hv : tmps.getD u undef = v) :
    (results fn tmps).run P w = .ok (.tuple #[.agg cs, v]) w := by
  rw [results_cell_tmp h, hp, hv]
  simp only [asAddr, Sem.run_pure, Result.andThen_ok, run_loadVar_row w g t ty cs (0, 0) d hg hu hd hi]
/-- Texts against each other, as the walk spells it. -/
theorem eq_texts (a b : List UInt8) : ((str a).toList == (str b).toList) = decide (a = b) := by
  unfold str
  rw [ByteArray.toList_mk, ByteArray.toList_mk, Bool.eq_iff_iff, beq_iff_eq, decide_eq_true_eq]
/-- A whole array is read, where a guard may stand ahead of it. -/
theorem wpList_load_rowG {P : Program} {ops : Array Oper} {rest : List Oper} {o : Oper} {a : Act} {w : World} {Q : Exit → Act → World → Prop} (hw : Region.wanted o (yielded ops a.tmps) = true) (ty : TypeId) (x : Operand) (ho : o.op = .load ty x)
    (g : Nat) (hx : a.eval x = .pointer (some ⟨g, 0, none⟩)) (t : TypeId) (cs : Array Value) (d : TypeDesc) (hg : rowC w g cs t)
    (hu : P.underlying ty = some d) (hd : (match d with | .struct _ | .array _ _ => true | _ => false) = true) (hi : (P.info? ty).map (·.size) = some cs.size)
    (h : wpList P ops Q rest (a.put o.dst (.agg cs)) w) : wpList P ops Q (o :: rest) a w := by
  rw [wpList, if_pos hw]
  exact .inl (wp_load_row ty x ho g hx t cs (0, 0) d hg hu hd hi h)
end Go.Proofs.YtnkencdibniagaaGreatDoor

/- Layer 11, plain: runes of a text, as UTF-8 has them: what is encoded is decoded, whatever stands behind it; of what is cut off nothing is. -/
namespace Go.Proofs.YtnkencdibniagaaGreatDoor
open Go.Lib

abbrev Bs := List UInt8
/-- A number that is a rune. -/
def scal (c : Nat) : Prop := c < 55296 ∨ (57344 ≤ c ∧ c ≤ 1114111)
instance (c : Nat) : Decidable (scal c) := by unfold scal; infer_instance

set_option maxHeartbeats 1000000 in
/-- What is encoded is decoded. -/
theorem dec_enc {c : Nat} (hc : scal c) (r : Bs) : decodeL (encodeRune (c : Int) ++ r) = (c, (encodeRune (c : Int)).length) := by
  unfold scal at hc
  rw [decodeL_N]
  unfold encodeRune
  by_cases h1 : c < 128
  · rw [encodeRuneZ_one (by omega) (by omega)]
    simp only [List.map_cons, List.map_nil, List.cons_append, List.nil_append, List.getD_cons_zero, List.length_cons, List.length_nil]
    unfold decodeN
    have e : ((c : Int).toNat.toUInt8).toNat = c := by simp; omega
    rw [e, if_pos h1]
  by_cases h2 : c < 2048
  · rw [encodeRuneZ_two (by omega) (by omega)]
    simp only [List.map_cons, List.map_nil, List.cons_append, List.nil_append, List.getD_cons_zero, List.getD_cons_succ, List.length_cons, List.length_nil]
    have e0 : ((192 + (c : Int) / 64).toNat.toUInt8).toNat = 192 + c / 64 := by simp; omega
    have e1 : ((128 + (c : Int) % 64).toNat.toUInt8).toNat = 128 + c % 64 := by simp; omega
    rw [e0, e1]
    unfold decodeN
    rw [if_neg (by omega), if_pos ⟨by omega, by omega, by omega⟩, if_pos (by omega)]
    congr 1; omega
  by_cases h3 : c < 65536
  · rw [encodeRuneZ_three (by omega)]
    simp only [List.map_cons, List.map_nil, List.cons_append, List.nil_append, List.getD_cons_zero, List.getD_cons_succ, List.length_cons, List.length_nil]
    have e0 : ((224 + (c : Int) / 4096).toNat.toUInt8).toNat = 224 + c / 4096 := by simp; omega
    have e1 : ((128 + (c : Int) / 64 % 64).toNat.toUInt8).toNat = 128 + c / 64 % 64 := by simp; omega
    have e2 : ((128 + (c : Int) % 64).toNat.toUInt8).toNat = 128 + c % 64 := by simp; omega
    rw [e0, e1, e2]
    unfold decodeN
    rw [if_neg (by omega), if_neg (by omega), if_pos ⟨by omega, ⟨by omega, by omega⟩, by omega, by omega⟩, if_pos (by omega)]
    congr 1; omega
  · rw [encodeRuneZ_four (by omega) (by omega)]
    simp only [List.map_cons, List.map_nil, List.cons_append, List.nil_append, List.getD_cons_zero, List.getD_cons_succ, List.length_cons, List.length_nil]
    have e0 : ((240 + (c : Int) / 262144).toNat.toUInt8).toNat = 240 + c / 262144 := by simp; omega
    have e1 : ((128 + (c : Int) / 4096 % 64).toNat.toUInt8).toNat = 128 + c / 4096 % 64 := by simp; omega
    have e2 : ((128 + (c : Int) / 64 % 64).toNat.toUInt8).toNat = 128 + c / 64 % 64 := by simp; omega
    have e3 : ((128 + (c : Int) % 64).toNat.toUInt8).toNat = 128 + c % 64 := by simp; omega
    rw [e0, e1, e2, e3]
    unfold decodeN
    rw [if_neg (by omega), if_neg (by omega), if_neg (by omega), if_pos ⟨by omega, ⟨by omega, by omega⟩, ⟨by omega, by omega⟩, by omega, by omega⟩, if_pos (by omega)]
    congr 1; omega
theorem enc_pos (c : Nat) : 1 ≤ (encodeRune (c : Int)).length := by
  have := encodeRuneZ_length (c : Int)
  unfold encodeRune
  rw [List.length_map]
  exact this.1
theorem enc_le (c : Nat) : (encodeRune (c : Int)).length ≤ 4 := by
  have := encodeRuneZ_length (c : Int)
  unfold encodeRune
  rw [List.length_map]
  exact this.2
theorem enc_ne (c : Nat) : encodeRune (c : Int) ≠ [] := fun h => by
  have := enc_pos c
  rw [h] at this
  exact absurd this (by decide)
theorem enc_ascii {c : Nat} (h : c < 128) : encodeRune (c : Int) = [UInt8.ofNat c] := by
  unfold encodeRune
  rw [encodeRuneZ_one (by omega) (by omega)]
  simp
theorem scal_decode (n b0 b1 b2 b3 : Nat) (k0 : b0 < 256) (k1 : b1 < 256) : scal (decodeN n b0 b1 b2 b3).1 := by
  unfold scal decodeN
  repeat' split
  all_goals omega
/-- What is decoded is a rune. -/
theorem scal_dec (l : Bs) : scal (decodeL l).1 := by
  rw [decodeL_N]
  exact scal_decode _ _ _ _ _ (UInt8.toNat_lt _) (UInt8.toNat_lt _)
/-- No rune stands at the head. -/
def noRune (l : Bs) : Prop := (decodeL l).1 = 65533 ∧ (decodeL l).2 = 1
instance (l : Bs) : Decidable (noRune l) := by unfold noRune; infer_instance
theorem dec_take {l : Bs} (hne : l ≠ []) (hv : ¬ noRune l) : l = encodeRune ((decodeL l).1 : Int) ++ l.drop (decodeL l).2 := by
  rw [encode_decode l hne hv, List.take_append_drop]
theorem enc_rune {c : Nat} (hc : scal c) (r : Bs) : ¬ noRune (encodeRune (c : Int) ++ r) := by
  unfold noRune
  rw [dec_enc hc]
  rintro ⟨h1, h2⟩
  simp only at h1 h2
  subst h1
  revert h2
  decide
/-- The bytes of runes. -/
def utfB : List Nat → Bs
  | [] => []
  | c :: l => encodeRune (c : Int) ++ utfB l
theorem utfB_append (a b : List Nat) : utfB (a ++ b) = utfB a ++ utfB b := by
  induction a with
  | nil => rfl
  | cons c l ih => simp [utfB, ih]
/-- Valid bytes are those of runes. -/
theorem valid_utf : ∀ (n : Nat) (t : Bs), t.length ≤ n → validD t = true → ∃ cs : List Nat, (∀ c ∈ cs, scal c) ∧ t = utfB cs
  | 0, t, hn, _ => ⟨[], by simp, by rw [List.eq_nil_of_length_eq_zero (Nat.le_zero.1 hn)]; rfl⟩
  | n + 1, t, hn, hv => by
    by_cases hne : t = []
    · exact ⟨[], by simp, by rw [hne]; rfl⟩
    · rw [validD_step t hne] at hv
      by_cases hr : noRune t
      · rw [if_pos (show _ ∧ _ from hr)] at hv; cases hv
      · rw [if_neg (show ¬ (_ ∧ _) from hr)] at hv
        have hw := decodeL_width t
        have hl : 0 < t.length := List.length_pos_iff.2 hne
        obtain ⟨cs, h1, h2⟩ := valid_utf n (t.drop (decodeL t).2) (by rw [List.length_drop]; omega) hv
        refine ⟨(decodeL t).1 :: cs, ?_, ?_⟩
        · intro c hc
          rcases List.mem_cons.1 hc with rfl | hc
          · exact scal_dec t
          · exact h1 c hc
        · rw [utfB, ← h2]
          exact dec_take hne hr
theorem utf_valid : ∀ cs : List Nat, (∀ c ∈ cs, scal c) → validD (utfB cs) = true
  | [], _ => rfl
  | c :: cs, h => by
    have hc := h c (by simp)
    have hne : utfB (c :: cs) ≠ [] := fun e => enc_ne c (List.append_eq_nil_iff.1 e).1
    rw [validD_step _ hne]
    have hr : ¬ noRune (utfB (c :: cs)) := enc_rune hc _
    unfold noRune at hr
    rw [if_neg hr]
    have e : (decodeL (utfB (c :: cs))).2 = (encodeRune (c : Int)).length := by
      show (decodeL (encodeRune (c : Int) ++ utfB cs)).2 = _
      rw [dec_enc hc]
    rw [e]
    show validD ((encodeRune (c : Int) ++ utfB cs).drop _) = true
    rw [List.drop_left]
    exact utf_valid cs (fun d hd => h d (by simp [hd]))
/-- The runes of bytes, one behind the other. -/
def runesF : Nat → Bs → List Nat
  | 0, _ => []
  | n + 1, l => if l = [] then [] else (decodeL l).1 :: runesF n (l.drop (decodeL l).2)
theorem runesF_utf : ∀ (cs : List Nat) (n : Nat), (∀ c ∈ cs, scal c) → (utfB cs).length ≤ n → runesF n (utfB cs) = cs
  | [], n, _, _ => by cases n <;> rfl
  | c :: cs, n, h, hn => by
    have hc := h c (by simp)
    have hp := enc_pos c
    have hne : utfB (c :: cs) ≠ [] := fun e => enc_ne c (List.append_eq_nil_iff.1 e).1
    have e : decodeL (utfB (c :: cs)) = (c, (encodeRune (c : Int)).length) := dec_enc hc _
    have hl : (utfB (c :: cs)).length = (encodeRune (c : Int)).length + (utfB cs).length := by simp [utfB]
    obtain ⟨m, rfl⟩ : ∃ m, n = m + 1 := ⟨n - 1, by omega⟩
    rw [runesF, if_neg hne, e]
    have e2 : (utfB (c :: cs)).drop (encodeRune (c : Int)).length = utfB cs := by
      show (encodeRune (c : Int) ++ utfB cs).drop _ = _
      rw [List.drop_left]
    show c :: runesF m ((utfB (c :: cs)).drop (encodeRune (c : Int)).length) = _
    rw [e2, runesF_utf cs m (fun d hd => h d (by simp [hd])) (by omega)]
def runesT (l : Bs) : List Nat := runesF l.length l
theorem runesT_utf {cs : List Nat} (h : ∀ c ∈ cs, scal c) : runesT (utfB cs) = cs := runesF_utf cs _ h (Nat.le_refl _)
end Go.Proofs.YtnkencdibniagaaGreatDoor

/- Layer 13, the document's own side: UTF-8 as the document reads it (Rune, Utf). -/
namespace Go.Proofs.YtnkencdibniagaaGreatDoor
open Go.RowKit Go.Lib

def contB : Nat → Nat → Nat → Bs → Bool
  | 0, _, _, _ => true
  | _ + 1, _, _, [] => false
  | m + 1, lo, hi, b :: r => decide (lo ≤ b.toNat) && (decide (b.toNat ≤ hi) && contB m 128 191 r)
def szD (b : Nat) : Nat := if b < 224 then 2 else if b < 240 then 3 else 4
def loD (b : Nat) : Nat := if b = 224 then 160 else if b = 240 then 144 else 128
def hiD (b : Nat) : Nat := if b = 237 then 159 else if b = 244 then 143 else 191
/-- How many bytes the rune has that stands ahead; 0: none. -/
def runeL : Bs → Nat
  | [] => 0
  | b :: r => if b.toNat < 128 then 1 else if b.toNat < 194 ∨ 244 < b.toNat then 0 else if contB (szD b.toNat - 1) (loD b.toNat) (hiD b.toNat) r = true then szD b.toNat else 0
theorem szD_is (b : Nat) : szD b = 2 ∨ szD b = 3 ∨ szD b = 4 := by
  unfold szD
  split
  · exact .inl rfl
  · split
    · exact .inr (.inl rfl)
    · exact .inr (.inr rfl)
theorem lead_tab : ∀ b : Fin 256, 128 ≤ b.val → ((b.val < 194 ∨ 244 < b.val) → ¬ (firstT b.val % 8 = 2 ∨ firstT b.val % 8 = 3 ∨ firstT b.val % 8 = 4)) ∧ (¬ (b.val < 194 ∨ 244 < b.val) → firstT b.val % 8 = szD b.val ∧ accLo (firstT b.val / 16) = loD b.val ∧ accHi (firstT b.val / 16) = hiD b.val) := by decide +kernel
theorem if_swap {α : Type} {A B : Prop} [Decidable A] [Decidable B] (h : A ↔ ¬ B) (x y : α) : (if A then x else y) = if B then y else x := by
  by_cases hb : B
  · rw [if_pos hb, if_neg (fun ha => h.1 ha hb)]
  · rw [if_neg hb, if_pos (h.2 hb)]
theorem check_cont (b : UInt8) (r : Bs) (sz lo hi : Nat) (hsz : sz = 2 ∨ sz = 3 ∨ sz = 4) :
    checkN (b :: r).length ((b :: r).getD 1 0).toNat ((b :: r).getD 2 0).toNat ((b :: r).getD 3 0).toNat sz lo hi = if contB (sz - 1) lo hi r = true then some sz else none := by
  unfold checkN
  rcases hsz with rfl | rfl | rfl
  · rw [if_pos rfl]
    refine if_swap ?_ _ _
    rcases r with _ | ⟨c1, r⟩
    · simp [contB]
    · have e1 : ((b :: c1 :: r).getD 1 0) = c1 := rfl
      rw [e1]
      simp only [Nat.reduceSub, contB, List.length_cons, Bool.and_true, Bool.and_eq_true, decide_eq_true_eq]
      omega
  · rw [if_neg (by decide), if_pos rfl]
    refine if_swap ?_ _ _
    rcases r with _ | ⟨c1, _ | ⟨c2, r⟩⟩
    · simp [contB]
    · simp [contB]
    · have e1 : ((b :: c1 :: c2 :: r).getD 1 0) = c1 := rfl
      have e2 : ((b :: c1 :: c2 :: r).getD 2 0) = c2 := rfl
      rw [e1, e2]
      simp only [Nat.reduceSub, contB, List.length_cons, Bool.and_true, Bool.and_eq_true, decide_eq_true_eq]
      omega
  · rw [if_neg (by decide), if_neg (by decide), if_pos rfl]
    refine if_swap ?_ _ _
    rcases r with _ | ⟨c1, _ | ⟨c2, _ | ⟨c3, r⟩⟩⟩
    · simp [contB]
    · simp [contB]
    · simp [contB]
    · have e1 : ((b :: c1 :: c2 :: c3 :: r).getD 1 0) = c1 := rfl
      have e2 : ((b :: c1 :: c2 :: c3 :: r).getD 2 0) = c2 := rfl
      have e3 : ((b :: c1 :: c2 :: c3 :: r).getD 3 0) = c3 := rfl
      rw [e1, e2, e3]
      simp only [Nat.reduceSub, contB, List.length_cons, Bool.and_true, Bool.and_eq_true, decide_eq_true_eq]
      omega
theorem validD_rune (b : UInt8) (r : Bs) : validD (b :: r) = if runeL (b :: r) = 0 then false else validD ((b :: r).drop (runeL (b :: r))) := by
  by_cases h : b.toNat < 128
  · have e : runeL (b :: r) = 1 := by simp [runeL, h]
    rw [validD_cons b r h, e]
    rfl
  · have hb : ((b :: r).getD 0 0) = b := rfl
    rw [validD_lead _ (by simp) (by rw [hb]; omega), hb]
    obtain ⟨t1, t2⟩ := lead_tab ⟨b.toNat, b.toNat_lt⟩ (by show 128 ≤ b.toNat; omega)
    by_cases h2 : b.toNat < 194 ∨ 244 < b.toNat
    · have e : runeL (b :: r) = 0 := by simp [runeL, h, h2]
      have t3 := t1 h2
      simp only [not_or] at t3
      unfold checkN
      rw [if_neg t3.1, if_neg t3.2.1, if_neg t3.2.2, e]
      rfl
    · obtain ⟨e1, e2, e3⟩ := t2 h2
      simp only at e1 e2 e3
      rw [e1, e2, e3, check_cont b r _ _ _ (szD_is _)]
      by_cases hc : contB (szD b.toNat - 1) (loD b.toNat) (hiD b.toNat) r = true
      · have e : runeL (b :: r) = szD b.toNat := by simp only [runeL]; rw [if_neg h, if_neg h2, if_pos hc]
        rw [if_pos hc, e, if_neg (by have := szD_is b.toNat; omega)]
      · have e : runeL (b :: r) = 0 := by simp only [runeL]; rw [if_neg h, if_neg h2, if_neg hc]
        rw [if_neg hc, e]
        rfl
theorem drop_cons {S : Bs} {i : Nat} (h : i < S.length) : S.drop i = S.getD i 0 :: S.drop (i + 1) := by
  rw [List.drop_eq_getElem_cons h]
  simp [List.getD, h]
theorem contB_nil (m lo hi : Nat) : contB (m + 1) lo hi [] = false := rfl
theorem contB_cons (m lo hi : Nat) (b : UInt8) (r : Bs) : contB (m + 1) lo hi (b :: r) = (decide (lo ≤ b.toNat) && (decide (b.toNat ≤ hi) && contB m 128 191 r)) := rfl
theorem contB_le : ∀ (m lo hi : Nat) (r : Bs), contB m lo hi r = true → m ≤ r.length
  | 0, _, _, _, _ => Nat.zero_le _
  | _ + 1, _, _, [], h => by cases h
  | m + 1, lo, hi, b :: r, h => by
    rw [contB_cons, Bool.and_eq_true, Bool.and_eq_true] at h
    have := contB_le m 128 191 r h.2.2
    rw [List.length_cons]
    omega
theorem runeL_le (b : UInt8) (r : Bs) : runeL (b :: r) ≤ r.length + 1 := by
  simp only [runeL]
  split
  · omega
  split
  · omega
  split
  · rename_i hc
    have := contB_le _ _ _ _ hc
    have := szD_is b.toNat
    omega
  · omega
set_option maxRecDepth 100000 in
set_option maxHeartbeats 800000 in
theorem rrune_any (S : Bs) (i : Nat) (hi : i < S.length) (hS : S.length ≤ 140737488355328) (w : World) :
    Calls Tryz.prog 94 #[.string (str S), .int .i64 (i : Int)] w fun e w' => e = .returned (.int .i64 (runeL (S.drop i) : Int)) ∧ Below w.heap.size w w' := by
  have ix : ∀ k, k < S.length → ∀ x : Int, x = (k : Int) → ∀ w, (Instr.index 9 (.string (str S)) (.int .i64 x)).run Tryz.prog w = .ok (.int .u8 ((S.getD k 0).toNat : Int)) w := fun k hk x hx => by
    have := idx_str (str S) k x hx (by rw [str_size]; exact hk)
    rwa [str_toList] at this
  have hd := drop_cons hi
  have i0 := ix i hi _ rfl
  obtain ⟨z, hz⟩ : ∃ z, z = (S.getD i 0).toNat := ⟨_, rfl⟩
  have hz1 : z < 256 := by rw [hz]; exact (S.getD i 0).toNat_lt
  have hr : runeL (S.drop i) = if z < 128 then 1 else if z < 194 ∨ 244 < z then 0 else if contB (szD z - 1) (loD z) (hiD z) (S.drop (i + 1)) = true then szD z else 0 := by
    rw [hd, hz]
    rfl
  rw [← hz] at i0
  rw [hr]
  have HIX := Lib.hid ix
  obtain ⟨T, hT⟩ : ∃ T, T = str S := ⟨_, rfl⟩
  have hTs : T.size = S.length := by rw [hT, str_size]
  rw [← hT] at i0 HIX ⊢
  obtain ⟨N, hN⟩ : ∃ N, N = S.length := ⟨_, rfl⟩
  rw [← hN] at hTs hi hS
  have HN := Lib.hid hN
  clear hT hd ix hz hr hN
  go_enter Tryz.func94, Tryz.ntmps94
  have g0 : ¬ (N : Int) ≤ (i : Int) := by omega
  by_cases h1 : z < 128
  · have g1 : (z : Int) < 128 := by omega
    have e : Hid ((if z < 128 then 1 else if z < 194 ∨ 244 < z then 0 else if contB (szD z - 1) (loD z) (hiD z) (S.drop (i + 1)) = true then szD z else 0) = 1) := Lib.hid (if_pos h1)
    rw [e.out]
    clear h1 e
    go_wp2
    go_ret
    exact ⟨rfl, Below.refl _ _⟩
  have g1 : ¬ (z : Int) < 128 := by omega
  rw [if_neg h1]
  by_cases h2 : z < 194
  · have g2 : (z : Int) < 194 := by omega
    rw [if_pos (.inl h2)]
    clear h1 h2
    go_wp2
    go_ret
    exact ⟨rfl, Below.refl _ _⟩
  have g2 : ¬ (z : Int) < 194 := by omega
  by_cases h3 : 244 < z
  · have g3 : (244 : Int) < (z : Int) := by omega
    rw [if_pos (.inr h3)]
    clear h1 h2 h3
    go_wp2
    go_ret
    exact ⟨rfl, Below.refl _ _⟩
  have g3 : ¬ (244 : Int) < (z : Int) := by omega
  rw [if_neg (by omega)]
  obtain ⟨R, hR⟩ : ∃ R : Nat, R = if contB (szD z - 1) (loD z) (hiD z) (S.drop (i + 1)) = true then szD z else 0 := ⟨_, rfl⟩
  rw [← hR]
  have HR := Lib.hid hR
  clear hR h1
  go_upto_if 26 with (fail)
  go_cut [6] from 26 to 27 (fun a wx => a = .int .i64 ((if z < 224 then 1 else 2 : Nat) : Int) ∧ wx = w)
  case first =>
    by_cases e1 : z < 224
    · have f1 : ¬ (224 : Int) ≤ (z : Int) := by omega
      go_wp2
      go_meet
      exact ⟨by rw [if_pos e1]; rfl, rfl⟩
    · have f1 : (224 : Int) ≤ (z : Int) := by omega
      go_wp2
      go_meet
      exact ⟨by rw [if_neg e1]; rfl, rfl⟩
  case rest =>
  obtain ⟨rfl, rfl⟩ := hcut
  obtain ⟨m1, hm1⟩ : ∃ m : Nat, m = if z < 224 then 1 else 2 := ⟨_, rfl⟩
  rw [← hm1]
  have HM1 := Lib.hid hm1
  clear hm1
  go_upto_if 28 with (fail)
  go_cut [6] from 28 to 29 (fun a wx => a = .int .i64 ((szD z - 1 : Nat) : Int) ∧ wx = wc)
  case first =>
    by_cases e1 : z < 240
    · have f1 : ¬ (240 : Int) ≤ (z : Int) := by omega
      go_wp2
      go_meet
      exact ⟨by rw [HM1.out]; unfold szD; split <;> simp_all, rfl⟩
    · have f1 : (240 : Int) ≤ (z : Int) := by omega
      go_wp2
      go_meet
      exact ⟨by unfold szD; rw [if_neg (by omega), if_neg e1]; rfl, rfl⟩
  case rest =>
  obtain ⟨rfl, rfl⟩ := hcut
  clear HM1
  obtain ⟨m2, hm2⟩ : ∃ m : Nat, m = szD z - 1 := ⟨_, rfl⟩
  rw [← hm2]
  have HM2 := Lib.hid hm2
  clear hm2
  go_upto_block 0 with (fail)
  go_cut [7, 8] from 30 to 37 (fun b c wx => b = .int .u8 (loD z : Int) ∧ c = .int .u8 (hiD z : Int) ∧ wx = wc)
  case first =>
    clear HR HIX
    by_cases e2 : z = 224
    · subst e2
      go_wp2
      go_meet
      exact ⟨rfl, rfl, rfl⟩
    have f3 : ((z : Int) == 224) = false := by rw [beq_eq_false_iff_ne]; omega
    by_cases e3 : z = 237
    · subst e3
      go_wp2
      go_meet
      exact ⟨rfl, rfl, rfl⟩
    have f4 : ((z : Int) == 237) = false := by rw [beq_eq_false_iff_ne]; omega
    by_cases e4 : z = 240
    · subst e4
      go_wp2
      go_meet
      exact ⟨rfl, rfl, rfl⟩
    have f5 : ((z : Int) == 240) = false := by rw [beq_eq_false_iff_ne]; omega
    by_cases e5 : z = 244
    · subst e5
      go_wp2
      go_meet
      exact ⟨rfl, rfl, rfl⟩
    have f6 : ((z : Int) == 244) = false := by rw [beq_eq_false_iff_ne]; omega
    have q2 : loD z = 128 := by unfold loD; rw [if_neg (by omega), if_neg (by omega)]
    have q3 : hiD z = 191 := by unfold hiD; rw [if_neg (by omega), if_neg (by omega)]
    have HQ := Lib.hid (show loD z = 128 ∧ hiD z = 191 from ⟨q2, q3⟩)
    clear q2 q3 e2 e3 e4 e5
    go_wp2
    go_meet
    exact ⟨by rw [HQ.out.1]; rfl, by rw [HQ.out.2]; rfl, rfl⟩
  case rest =>
    obtain ⟨rfl, rfl, rfl⟩ := hcut
    have hsz := szD_is z
    obtain ⟨n, hn2⟩ : ∃ n, n = m2 := ⟨_, rfl⟩
    have hn : n = szD z - 1 := by rw [hn2, HM2.out]
    rw [← hn2]
    clear hn2
    have hn3 : 1 ≤ n ∧ n ≤ 3 := by omega
    have hRn : Hid (R = if contB n (loD z) (hiD z) (S.drop (i + 1)) = true then n + 1 else 0) := Lib.hid (by rw [HR.out, hn, show szD z - 1 + 1 = szD z by omega])
    obtain ⟨lo, hlo⟩ : ∃ l, l = loD z := ⟨_, rfl⟩
    obtain ⟨hi', hhi⟩ : ∃ l, l = hiD z := ⟨_, rfl⟩
    rw [← hlo, ← hhi] at hRn ⊢
    have hlb : lo < 256 ∧ hi' < 256 := by
      rw [hlo, hhi]
      unfold loD hiD
      refine ⟨?_, ?_⟩ <;> (repeat' split) <;> omega
    clear hn hlo hhi HR HM2 hsz g1 g2 g3 h2 h3 hz1 i0
    go_wp2
    go_loopw [9, 7, 8] (fun a b c wr => ∃ k l h : Nat, a = .int .i64 (k : Int) ∧ b = .int .u8 (l : Int) ∧ c = .int .u8 (h : Int) ∧ 1 ≤ k ∧ k ≤ n + 1 ∧ l < 256 ∧ h < 256 ∧ Hid (contB n lo hi' (S.drop (i + 1)) = contB (n + 1 - k) l h (S.drop (i + k))) ∧ wr = wc) (fun a _ _ _ => n + 1 - (intOf a).toNat)
    case atStart => exact ⟨1, lo, hi', rfl, rfl, rfl, Nat.le_refl _, by omega, hlb.1, hlb.2, Lib.hid rfl, rfl⟩
    case round =>
      obtain ⟨k, l, h, rfl, rfl, rfl, hk1, hk2, hl, hh, hC, rfl⟩ := hrel
      by_cases hkn : k ≤ n
      · have q0 : (k : Int) ≤ (n : Int) := by omega
        have en : n + 1 - k = (n - k) + 1 := by omega
        by_cases hnil : N ≤ i + k
        · have q1 : (N : Int) ≤ (i : Int) + (k : Int) := by omega
          have HF : Hid (R = 0) := Lib.hid (by
            have h1 := hRn.out
            rw [hC.out, en, List.drop_eq_nil_of_le (by rw [← HN.out]; exact hnil), contB_nil, if_neg (by decide)] at h1
            exact h1)
          clear hC hnil hkn
          go_wp2
          go_ret
          exact ⟨by rw [HF.out]; rfl, Below.refl _ _⟩
        · have q1 : ¬ (N : Int) ≤ (i : Int) + (k : Int) := by omega
          have hlt : i + k < S.length := by rw [← HN.out]; omega
          obtain ⟨b, hb⟩ : ∃ b, b = (S.getD (i + k) 0).toNat := ⟨_, rfl⟩
          have ik := HIX.out (i + k) hlt ((i : Int) + (k : Int)) (by omega)
          rw [← hb] at ik
          have hcc : contB n lo hi' (S.drop (i + 1)) = (decide (l ≤ b) && (decide (b ≤ h) && contB (n - k) 128 191 (S.drop (i + (k + 1))))) := by
            rw [hC.out, en, drop_cons hlt, contB_cons, hb]
            rfl
          have HCC := Lib.hid hcc
          by_cases hbl : b < l
          · have q2 : (b : Int) < (l : Int) := by omega
            have HF : Hid (R = 0) := Lib.hid (by
              have h1 := hRn.out
              rw [hcc, decide_eq_false (by omega), Bool.false_and, if_neg (by decide)] at h1
              exact h1)
            clear hC hcc HCC hnil hkn hb hbl hlt
            go_wp2
            go_ret
            exact ⟨by rw [HF.out]; rfl, Below.refl _ _⟩
          have q2 : ¬ (b : Int) < (l : Int) := by omega
          by_cases hbh : h < b
          · have q3 : (h : Int) < (b : Int) := by omega
            have HF : Hid (R = 0) := Lib.hid (by
              have h1 := hRn.out
              rw [hcc, decide_eq_false (show ¬ b ≤ h by omega), Bool.false_and, Bool.and_false, if_neg (by decide)] at h1
              exact h1)
            clear hC hcc HCC hnil hkn hb hbl hlt hbh
            go_wp2
            go_ret
            exact ⟨by rw [HF.out]; rfl, Below.refl _ _⟩
          have q3 : ¬ (h : Int) < (b : Int) := by omega
          have HN2 : Hid (contB n lo hi' (S.drop (i + 1)) = contB (n + 1 - (k + 1)) 128 191 (S.drop (i + (k + 1)))) := Lib.hid (by
            rw [hcc, decide_eq_true (by omega), decide_eq_true (show b ≤ h by omega), Bool.true_and, Bool.true_and, show n + 1 - (k + 1) = n - k by omega])
          clear hC hcc HCC hnil hb hbl hlt hbh
          go_wp2
          go_roundw
          case rel => exact ⟨k + 1, 128, 191, by go_num, rfl, rfl, by omega, by omega, by omega, by omega, HN2, by trivial⟩
          case measure => simp [intOf] <;> omega
      · obtain rfl : k = n + 1 := by omega
        have q0 : ¬ ((n + 1 : Nat) : Int) ≤ (n : Int) := by omega
        have HF : Hid (R = n + 1) := Lib.hid (by
          have h1 := hRn.out
          rw [hC.out, Nat.sub_self] at h1
          have e : contB 0 l h (S.drop (i + (n + 1))) = true := by unfold contB; rfl
          rw [e, if_pos rfl] at h1
          exact h1)
        clear hC hkn
        go_wp2
        go_ret
        exact ⟨by rw [HF.out]; rfl, Below.refl _ _⟩
set_option maxRecDepth 100000 in
set_option maxHeartbeats 800000 in
theorem rutf_any (S : Bs) (hS : S.length ≤ 140737488355328) (w : World) :
    Calls Tryz.prog 63 #[.string (str S)] w fun e w' => e = .returned (.bool (validD S)) ∧ Below w.heap.size w w' := by
  have CR := fun i hi w => rrune_any S i hi hS w
  obtain ⟨T, hT⟩ : ∃ T, T = str S := ⟨_, rfl⟩
  have hTs : T.size = S.length := by rw [hT, str_size]
  rw [← hT] at CR ⊢
  obtain ⟨N, hN⟩ : ∃ N, N = S.length := ⟨_, rfl⟩
  rw [← hN] at hTs hS CR
  have HN := Lib.hid hN
  have HCR := Lib.hid CR
  obtain ⟨V, hV⟩ : ∃ V, V = validD S := ⟨_, rfl⟩
  rw [← hV]
  have HV := Lib.hid hV
  clear hT hN CR hV
  go_enter Tryz.func63, Tryz.ntmps63
  go_wp2
  go_loopw [3] (fun a wr => ∃ k : Nat, a = .int .i64 (k : Int) ∧ k ≤ N ∧ Hid (V = validD (S.drop k)) ∧ Hid (Below w.heap.size w wr)) (fun a _ => N - (intOf a).toNat)
  case atStart => exact ⟨0, rfl, Nat.zero_le _, Lib.hid (by rw [HV.out]; rfl), Lib.hid (Below.refl _ _)⟩
  case round =>
    obtain ⟨k, rfl, hk, hC, hB⟩ := hrel
    by_cases hlt : k < N
    · have q0 : (k : Int) < (N : Int) := by omega
      have hd : S.drop k = S.getD k 0 :: S.drop (k + 1) := drop_cons (by rw [← HN.out]; exact hlt)
      obtain ⟨m, hm⟩ : ∃ m, m = runeL (S.drop k) := ⟨_, rfl⟩
      have hv : V = if m = 0 then false else validD ((S.drop k).drop m) := by
        have h1 := hC.out
        rw [hm]
        rw [hd] at h1 ⊢
        rw [validD_rune] at h1
        exact h1
      have hml : m ≤ N - k := by
        have h1 := runeL_le (S.getD k 0) (S.drop (k + 1))
        rw [← hd, ← hm, List.length_drop, ← HN.out] at h1
        omega
      have CRK := HCR.out k hlt
      rw [← hm] at CRK
      have HVV := Lib.hid hv
      clear hd hm hv hC
      by_cases h0 : m = 0
      · subst h0
        go_wp2_with (go_at_call 94; (with_reducible refine (CRK _).mono ?_); rintro e w2 ⟨rfl, b2⟩)
        go_ret
        exact ⟨by rw [HVV.out]; simp, hB.out.trans (b2.mono hB.out.size)⟩
      · have q1 : ((m : Int) == 0) = false := by rw [beq_eq_false_iff_ne]; omega
        have HV2 : Hid (V = validD (S.drop (k + m))) := Lib.hid (by rw [HVV.out, if_neg h0, List.drop_drop])
        clear HVV
        go_wp2_with (go_at_call 94; (with_reducible refine (CRK _).mono ?_); rintro e w2 ⟨rfl, b2⟩; have HB2 := Lib.hid (hB.out.trans (b2.mono hB.out.size)); clear b2)
        go_roundw
        case rel => exact ⟨k + m, by go_num, by omega, HV2, HB2⟩
        case measure => simp [intOf] <;> omega
    · obtain rfl : k = N := by omega
      have HF : Hid (V = true) := Lib.hid (by rw [hC.out, List.drop_eq_nil_of_le (by rw [← HN.out]; omega)]; rfl)
      clear hC
      go_wp2
      go_ret
      exact ⟨by rw [HF.out]; rfl, hB.out⟩
end Go.Proofs.YtnkencdibniagaaGreatDoor

