/- Merged: OfB, OfC, OfD. -/
import Derived.Test.YtnkencdibniagaaGreatDoorM38
import Derived.ChangeKeysEq
/- Layer 13: two platforms, two descriptors; a descriptor copied; the one that is picked. -/
namespace Go.Proofs.YtnkencdibniagaaGreatDoor
open Go.RowKit

def eqPB (a b : Bs × Bs) : Bool := decide (a.1 = b.1) && decide (a.2 = b.2)
theorem eqPB_iff (a b : Bs × Bs) : eqPB a b = true ↔ a = b := by
  unfold eqPB
  rw [Bool.and_eq_true, decide_eq_true_eq, decide_eq_true_eq]
  exact ⟨fun h => Prod.ext h.1 h.2, fun h => by rw [h]; exact ⟨rfl, rfl⟩⟩
def eqDB (a b : DV) : Bool := decide (a.media = b.media) && (decide (a.dig = b.dig) && (decide (a.size = b.size) && eqPB (a.os, a.arch) (b.os, b.arch)))
theorem eqDB_iff (a b : DV) : eqDB a b = true ↔ a = b := by
  unfold eqDB
  rw [Bool.and_eq_true, Bool.and_eq_true, Bool.and_eq_true, decide_eq_true_eq, decide_eq_true_eq, decide_eq_true_eq, eqPB_iff]
  obtain ⟨a1, a2, a3, a4, a5⟩ := a
  obtain ⟨b1, b2, b3, b4, b5⟩ := b
  simp only [DV.mk.injEq, Prod.mk.injEq]
theorem fields_plat : (Tryz.prog.fieldsOf 26).toList = [⟨"OS", 9, 0, false, "", "", 0⟩, ⟨"Arch", 9, 1, false, "", "", 16⟩] := by kernel_rfl
theorem fields_desc : (Tryz.prog.fieldsOf 28).toList = [⟨"Media", 9, 0, false, "", "", 0⟩, ⟨"Digest", 24, 1, false, "", "", 16⟩, ⟨"Size", 3, 33, false, "", "", 48⟩, ⟨"Platform", 26, 34, false, "", "", 56⟩] := by kernel_rfl
theorem txt_eq (x y : List UInt8) : ((str x).toList == (str y).toList) = decide (x = y) := eq_texts x y
theorem eq_plat (w : World) (d : Nat) (a b : Bs × Bs) : (Op.equalIn (d + 2) 26 (.agg (encP a)) (.agg (encP b))).run Tryz.prog w = .ok (eqPB a b) w := by
  rw [run_equalIn_struct w (d + 1) _ _ _ (by kernel_rfl) (by kernel_rfl), fields_plat]
  have e1 (x y : List UInt8) (w : World) : (Op.equalIn (d + 1) 9 (.string (str x)) (.string (str y))).run Tryz.prog w = .ok (decide (x = y)) w := by
    rw [run_equalIn_string w d _ _ _ Tryz.underlying9, txt_eq]
  have p0 (q : Bs × Bs) (w : World) : (part 9 (encP q) 0).run Tryz.prog w = .ok (.string (str q.1)) w := run_part_plain w (by kernel_rfl) rfl
  have p1 (q : Bs × Bs) (w : World) : (part 9 (encP q) 1).run Tryz.prog w = .ok (.string (str q.2)) w := run_part_plain w (by kernel_rfl) rfl
  simp only [Op.eqFields, show ("OS" : String) ≠ "_" by decide, show ("Arch" : String) ≠ "_" by decide, ne_eq, not_false_eq_true, if_true, Sem.run_bind, Sem.run_ite, Sem.run_pure, p0, p1, Result.andThen_ok, e1]
  unfold eqPB
  by_cases h1 : a.1 = b.1 <;> by_cases h2 : a.2 = b.2 <;> simp [h1, h2]
theorem guard_plat : Tryz.prog.eqGuardType Tryz.prog.depth 26 = false := by kernel_rfl
theorem encD_get {d : DV} (h : d.dig.length = 32) : (encD d)[0]? = some (.string (str d.media)) ∧ (encD d)[33]? = some (.int .i64 d.size) ∧ (encD d)[34]? = some (.string (str d.os)) ∧ (encD d)[35]? = some (.string (str d.arch)) := by
  rw [encD_list]
  unfold encL
  refine ⟨rfl, ?_, ?_, ?_⟩
  · rw [List.getElem?_toArray, List.getElem?_append_right (by simp [h])]; simp [h]
  · rw [List.getElem?_toArray, List.getElem?_append_right (by simp [h])]; simp [h]
  · rw [List.getElem?_toArray, List.getElem?_append_right (by simp [h])]; simp [h]
theorem encD_dig {d : DV} (h : d.dig.length = 32) : (encD d).extract 1 (1 + 32) = cells8 d.dig := by
  rw [encD_list]
  unfold encL cells8
  rw [List.extract_toArray]
  congr 1
  rw [List.extract_eq_take_drop, List.append_assoc, List.drop_append_of_le_length (by simp)]
  simp [h]
theorem encD_plx {d : DV} (h : d.dig.length = 32) : (encD d).extract 34 (34 + 2) = encP (d.os, d.arch) := by
  rw [encD_list]
  unfold encL encP
  rw [List.extract_toArray]
  apply congrArg List.toArray
  rw [List.extract_eq_take_drop, List.drop_append]
  have h2 : List.drop 33 (d.dig.map byteV) = [] := List.drop_eq_nil_of_le (by rw [List.length_map, h]; decide)
  simp [h, h2]
theorem part_agg {t : TypeId} {n : Nat} {cs : Array Value} {k : Nat} (hs : ∀ w, (sizeOf t).run Tryz.prog w = .ok n w) (ha : ∀ w, (isAgg t).run Tryz.prog w = .ok true w) (w : World) : (part t cs k).run Tryz.prog w = .ok (.agg (cs.extract k (k + n))) w := by
  unfold part
  rw [Sem.run_bind, ha, Result.andThen_ok]
  simp only [if_true, Sem.run_bind, hs, Result.andThen_ok, Sem.run_pure]
theorem eq_desc (w : World) (d : Nat) {a b : DV} (ha : a.dig.length = 32) (hb : b.dig.length = 32) : (Op.equalIn (d + 3) 28 (.agg (encD a)) (.agg (encD b))).run Tryz.prog w = .ok (eqDB a b) w := by
  rw [run_equalIn_struct w (d + 2) _ _ _ (by kernel_rfl) (by kernel_rfl), fields_desc]
  have e1 (x y : List UInt8) (w : World) : (Op.equalIn (d + 2) 9 (.string (str x)) (.string (str y))).run Tryz.prog w = .ok (decide (x = y)) w := by
    rw [run_equalIn_string w (d + 1) _ _ _ Tryz.underlying9, txt_eq]
  have e2 (x y : Int) (w : World) : (Op.equalIn (d + 2) 3 (.int .i64 x) (.int .i64 y)).run Tryz.prog w = .ok (x == y) w := run_equalIn_int w (d + 1) _ _ _ _ _ Tryz.underlying3
  have e3 := eq_digest w d ha hb
  have e4 := eq_plat w d (a.os, a.arch) (b.os, b.arch)
  have p0 (q : DV) (h : q.dig.length = 32) (w : World) : (part 9 (encD q) 0).run Tryz.prog w = .ok (.string (str q.media)) w := run_part_plain w (by kernel_rfl) (encD_get h).1
  have p1 (q : DV) (h : q.dig.length = 32) (w : World) : (part 24 (encD q) 1).run Tryz.prog w = .ok (.agg (cells8 q.dig)) w := by
    rw [part_agg (n := 32) (fun w => by kernel_rfl) (fun w => by kernel_rfl), encD_dig h]
  have p2 (q : DV) (h : q.dig.length = 32) (w : World) : (part 3 (encD q) 33).run Tryz.prog w = .ok (.int .i64 q.size) w := run_part_plain w (by kernel_rfl) (encD_get h).2.1
  have p3 (q : DV) (h : q.dig.length = 32) (w : World) : (part 26 (encD q) 34).run Tryz.prog w = .ok (.agg (encP (q.os, q.arch))) w := by
    rw [part_agg (n := 2) (fun w => by kernel_rfl) (fun w => by kernel_rfl), encD_plx h]
  simp only [Op.eqFields, show ("Media" : String) ≠ "_" by decide, show ("Digest" : String) ≠ "_" by decide, show ("Size" : String) ≠ "_" by decide, show ("Platform" : String) ≠ "_" by decide, ne_eq, not_false_eq_true, if_true, Sem.run_bind, Sem.run_ite, Sem.run_pure, p0 a ha, p0 b hb, p1 a ha, p1 b hb, p2 a ha, p2 b hb, p3 a ha, p3 b hb, Result.andThen_ok, e1, e2, e3, e4]
  unfold eqDB
  cases eqPB (a.os, a.arch) (b.os, b.arch)
  all_goals by_cases h1 : a.media = b.media <;> by_cases h2 : a.dig = b.dig <;> by_cases h3 : a.size = b.size <;> simp [h1, h2, h3]
theorem guard_desc : Tryz.prog.eqGuardType Tryz.prog.depth 28 = false := by kernel_rfl
theorem set_again {cs : Array Value} {i : Nat} {v : Value} (h : cs[i]? = some v) : cs.setIfInBounds i v = cs := by
  apply Array.ext_getElem?
  intro j
  rw [Array.getElem?_setIfInBounds]
  split
  · rename_i e
    subst e
    split
    · exact h.symm
    · rename_i h2
      rw [Array.getElem?_eq_none (by omega)]
  · rfl
theorem rowC_again {w : World} {b : Nat} {cs : Array Value} {t : TypeId} (h : rowC w b cs t) {i : Nat} {v : Value} (hv : cs[i]? = some v) : rowC (w.setCell ⟨b, i, none⟩ v) b cs t := by
  have := rowC_set h i v
  rwa [set_again hv] at this
/-- A part of a row is read, where a guard may stand ahead of it. -/
theorem wpList_load_midG {P : Program} {ops : Array Oper} {rest : List Oper} {op : Oper} {a : Act} {w : World} {Q : Exit → Act → World → Prop} (hw : Region.wanted op (yielded ops a.tmps) = true) (ty : TypeId) (x : Operand) (ho : op.op = .load ty x)
    (b o : Nat) (hx : a.eval x = .pointer (some ⟨b, o, none⟩)) (cs : List Value) (d : TypeDesc) (hc : w.rangeAt b o cs)
    (hu : P.underlying ty = some d) (hd : d.isRow = true) (hi : (P.info? ty).map (·.size) = some cs.length)
    (h : wpList P ops Q rest (a.put op.dst (.agg cs.toArray)) w) : wpList P ops Q (op :: rest) a w := by
  rw [wpList, if_pos hw]
  exact .inl (wp_load_mid ty x ho b o hx cs d hc hu hd hi h)
theorem desc_pla {w : World} {b : Nat} {d : DV} (hd : d.dig.length = 32) (h : rowC w b (encD d) 28) : w.rangeAt b 34 [.string (str d.os), .string (str d.arch)] :=
  rowC_range h 34 _ (fun j v hv => by
    match j, hv with
    | 0, hv => rw [(encD_get hd).2.2.1]; exact hv
    | 1, hv => rw [(encD_get hd).2.2.2]; exact hv)
end Go.Proofs.YtnkencdibniagaaGreatDoor

/- Layer 13: a descriptor copied; the one that is picked. -/
namespace Go.Proofs.YtnkencdibniagaaGreatDoor
open Go.RowKit

set_option maxRecDepth 100000 in
set_option maxHeartbeats 4000000 in
theorem oclone_any (d : DV) (w : World) (hd : goodD d) :
    Calls Tryz.prog 66 #[.agg (encD d)] w fun e w' => e = .returned (.agg (encD d)) ∧ Below w.heap.size w w' := by
  obtain ⟨W0, hW0⟩ : ∃ W0, W0 = (w.alloc (.cells (encD d) 28)).alloc (.cells (encD zeroD) 28) := ⟨_, rfl⟩
  have s1 : (w.alloc (.cells (encD d) 28)).heap.size = w.heap.size + 1 := size_alloc _ _
  have R0 : rowC W0 w.heap.size (encD d) 28 := by rw [hW0]; exact rowC_alloc (rowC_new _ _ _) _
  have Z0 : rowC W0 (w.heap.size + 1) (encD zeroD) 28 := by rw [hW0, ← s1]; exact rowC_new _ _ _
  have B0 : Below w.heap.size w W0 := by rw [hW0]; exact ((Below.refl _ _).alloc (Nat.le_refl _) _).alloc (by rw [s1]; omega) _
  have S0 : W0.heap.size = w.heap.size + 2 := by rw [hW0, size_alloc, s1]
  obtain ⟨g0, _, g34, g35⟩ := encD_get hd.1
  have C1 := fun w => clone_any (str d.media) w (by rw [str_size]; exact hd.2.1)
  have C2 := fun w => clone_any (str d.os) w (by rw [str_size]; exact hd.2.2.1)
  have C3 := fun w => clone_any (str d.arch) w (by rw [str_size]; exact hd.2.2.2)
  have q0 : W0.cell? ⟨w.heap.size, 0, none⟩ = some (.string (str d.media)) := by rw [rowC_cell R0]; exact g0
  have HG34 := Lib.hid g34
  have HG35 := Lib.hid g35
  have HG0 := Lib.hid g0
  have HW0 := Lib.hid hW0
  have HR0 := Lib.hid R0
  have HZ0 := Lib.hid Z0
  have HB0 := Lib.hid B0
  have HI := Lib.hid (show (Tryz.prog.info? 28).map (·.size) = some (encD d).size by rw [encD_size d hd]; exact info_D)
  have HSZ := Lib.hid (show (encD zeroD).size = (encD d).size by rw [encD_size d hd]; rfl)
  clear hW0 R0 Z0 B0 g0 g34 g35
  go_enter Tryz.func66, Tryz.ntmps66
  go_upto_region 1 with (fail)
  change Code.wp _ _ _ _ ((w.alloc (.cells (encD d) 28)).alloc (.cells (encD zeroD) 28))
  rw [← HW0.out]
  clear HW0
  -- the media type
  go_upto_region 2 with (go_at_call 97; (with_reducible refine (C1 _).mono ?_); rintro e w1 ⟨rfl, b1⟩; have R1 := rowC_below HR0.out b1 (by omega); have Z1 := rowC_below HZ0.out b1 (by omega); have t0 := rowC_cell R1 0; rw [HG0.out] at t0; have f0 := rowC_free R1 0; have HR1 := Lib.hid R1; have HZ1 := Lib.hid Z1; have HB1 := Lib.hid (HB0.out.trans (b1.mono (by omega))); have hs1 := b1.size; clear R1 Z1 b1)
  have HR1' := Lib.hid (rowC_again HR1.out HG0.out)
  have HZ1' := Lib.hid (rowC_other HZ1.out ⟨w.heap.size, 0, none⟩ (.string (str d.media)) (by show w.heap.size + 1 ≠ w.heap.size; omega))
  have HB1' := Lib.hid (HB1.out.setCell (p := ⟨w.heap.size, 0, none⟩) (Nat.le_refl _) (.string (str d.media)))
  have hs1' : (w1.setCell ⟨w.heap.size, 0, none⟩ (.string (str d.media))).heap.size = w1.heap.size := World.size_setCell _ _ _
  generalize w1.setCell ⟨w.heap.size, 0, none⟩ (.string (str d.media)) = v1 at *
  have q34 : v1.cell? ⟨w.heap.size, 34, none⟩ = some (.string (str d.os)) := by rw [rowC_cell HR1'.out]; exact HG34.out
  clear t0 f0 HR1 HZ1 HB1 q0
  -- the platform's two texts
  go_upto_region 3 with (go_at_call 97; (with_reducible refine (C2 _).mono ?_); rintro e w2 ⟨rfl, b2⟩; have R2 := rowC_below HR1'.out b2 (by omega); have Z2 := rowC_below HZ1'.out b2 (by omega); have t0 := rowC_cell R2 34; rw [HG34.out] at t0; have f0 := rowC_free R2 34; have HR2 := Lib.hid R2; have HZ2 := Lib.hid Z2; have HB2 := Lib.hid (HB1'.out.trans (b2.mono (by omega))); have hs2 := b2.size; clear R2 Z2 b2)
  have HR2' := Lib.hid (rowC_again HR2.out HG34.out)
  have HZ2' := Lib.hid (rowC_other HZ2.out ⟨w.heap.size, 34, none⟩ (.string (str d.os)) (by show w.heap.size + 1 ≠ w.heap.size; omega))
  have HB2' := Lib.hid (HB2.out.setCell (p := ⟨w.heap.size, 34, none⟩) (Nat.le_refl _) (.string (str d.os)))
  have hs2' : (w2.setCell ⟨w.heap.size, 34, none⟩ (.string (str d.os))).heap.size = w2.heap.size := World.size_setCell _ _ _
  generalize w2.setCell ⟨w.heap.size, 34, none⟩ (.string (str d.os)) = v2 at *
  have q35 : v2.cell? ⟨w.heap.size, 35, none⟩ = some (.string (str d.arch)) := by rw [rowC_cell HR2'.out]; exact HG35.out
  clear t0 f0 HR2 HZ2 HB2 q34
  go_upto_region 4 with (go_at_call 97; (with_reducible refine (C3 _).mono ?_); rintro e w3 ⟨rfl, b3⟩; have R3 := rowC_below HR2'.out b3 (by omega); have Z3 := rowC_below HZ2'.out b3 (by omega); have t0 := rowC_cell R3 35; rw [HG35.out] at t0; have f0 := rowC_free R3 35; have HR3 := Lib.hid R3; have HZ3 := Lib.hid Z3; have HB3 := Lib.hid (HB2'.out.trans (b3.mono (by omega))); have hs3 := b3.size; clear R3 Z3 b3)
  have HR3' := Lib.hid (rowC_again HR3.out HG35.out)
  have HZ3' := Lib.hid (rowC_other HZ3.out ⟨w.heap.size, 35, none⟩ (.string (str d.arch)) (by show w.heap.size + 1 ≠ w.heap.size; omega))
  have HB3' := Lib.hid (HB3.out.setCell (p := ⟨w.heap.size, 35, none⟩) (Nat.le_refl _) (.string (str d.arch)))
  generalize w3.setCell ⟨w.heap.size, 35, none⟩ (.string (str d.arch)) = v3 at *
  clear t0 f0 HR3 HZ3 HB3 q35
  go_wp2_with (first
    | ((with_reducible show wpList _ _ _ (⟨some 19, .load _ _, _, _, _, _⟩ :: _) _ _); refine wpList_load_row rfl 28 _ rfl w.heap.size rfl 28 (encD d) (0, 0) _ HR3'.out Tryz.underlying28 rfl HI.out ?_)
    | ((with_reducible show wpList _ _ _ (⟨none, .store _ (.tmp 2) _, _, _, _, _⟩ :: _) _ _); refine wpList_store_row rfl 28 _ _ rfl (w.heap.size + 1) (encD d) rfl rfl 28 _ HZ3'.out HI.out HSZ.out (encD_one _) ?_))
  refine bodyPost_ret (results_cell_row rfl _ _ (w.heap.size + 1) 28 (encD d) (0, 0) _ rfl (rowC_setRow HZ3'.out _) Tryz.underlying28 rfl HI.out) rfl ?_
  exact ⟨rfl, below_setRow HB3'.out (by omega) _⟩
end Go.Proofs.YtnkencdibniagaaGreatDoor

/- Layer 13: Pick. -/
namespace Go.Proofs.YtnkencdibniagaaGreatDoor
open Go.RowKit

theorem find_at {α : Type} {q : α → Bool} : ∀ {l : List α} {j : Nat} {d : α}, (∀ i d', i < j → l[i]? = some d' → q d' = false) → l[j]? = some d → q d = true → l.find? q = some d
  | [], _, _, _, hd, _ => by simp at hd
  | x :: l, 0, d, _, hd, hq => by
    simp only [List.getElem?_cons_zero, Option.some.injEq] at hd
    subst hd
    simp [List.find?, hq]
  | x :: l, j + 1, d, h, hd, hq => by
    have hx := h 0 x (by omega) rfl
    rw [List.getElem?_cons_succ] at hd
    have := find_at (fun i d' hi hd' => h (i + 1) d' (by omega) (by rw [List.getElem?_cons_succ]; exact hd')) hd hq
    simp [List.find?, hx, this]
def pickQ (p : Bs × Bs) (d : DV) : Bool := kindN d.media == 1 && (decide (d.os = p.1) && decide (d.arch = p.2))
def pickA (l : List DV) (p : Bs × Bs) : DV × Nat := match l.find? (pickQ p) with | some d => (d, 0) | none => (zeroD, 73)
theorem pickQ_eq (p : Bs × Bs) (d : DV) : pickQ p d = (kindN d.media == 1 && eqPB (d.os, d.arch) p) := rfl
theorem pickA_some {l : List DV} {p : Bs × Bs} {d : DV} (h : l.find? (pickQ p) = some d) : pickA l p = (d, 0) := by unfold pickA; rw [h]
theorem pickA_none {l : List DV} {p : Bs × Bs} (h : ∀ (i : Nat) (d : DV), l[i]? = some d → pickQ p d = false) : pickA l p = (zeroD, 73) := by
  unfold pickA
  rw [List.find?_eq_none.2 (fun d hd => by obtain ⟨i, hi⟩ := List.mem_iff_getElem?.1 hd; rw [h i d hi]; decide)]
set_option maxRecDepth 100000 in
set_option maxHeartbeats 8000000 in
theorem pick_any (l : List DV) (p : Bs × Bs) (x : Option Addr) (cc : Nat) (w : World) (hll : l.length ≤ 65536) (hL : eDess.at_ w (fun k => k < w.heap.size) l (.slice x l.length cc)) :
    Calls Tryz.prog 27 #[.slice x l.length cc, .agg #[.string (str p.1), .string (str p.2)]] w fun e w' => e = .returned (.tuple #[.agg (encD (pickA l p).1), .int .i64 ((pickA l p).2 : Int)]) ∧ Below w.heap.size w w' := by
  obtain ⟨W0, hW0⟩ : ∃ W0, W0 = (w.alloc (.cells #[.string (str p.1), .string (str p.2)] 26)).alloc (.cells (encD zeroD) 28) := ⟨_, rfl⟩
  have s1 : (w.alloc (.cells #[.string (str p.1), .string (str p.2)] 26)).heap.size = w.heap.size + 1 := size_alloc _ _
  have R0 : rowC W0 w.heap.size #[.string (str p.1), .string (str p.2)] 26 := by rw [hW0]; exact rowC_alloc (rowC_new _ _ _) _
  have Z0 : rowC W0 (w.heap.size + 1) (encD zeroD) 28 := by rw [hW0, ← s1]; exact rowC_new _ _ _
  have B0 : Below w.heap.size w W0 := by rw [hW0]; exact ((Below.refl _ _).alloc (Nat.le_refl _) _).alloc (by rw [s1]; omega) _
  have S0 : W0.heap.size = w.heap.size + 2 := by rw [hW0, size_alloc, s1]
  have HCK := Lib.hid (fun (s : Bs) (w : World) => kind_any s w)
  have HW0 := Lib.hid hW0
  have HR0 := Lib.hid R0
  have HZ0 := Lib.hid Z0
  have HB0 := Lib.hid B0
  have HL := Lib.hid hL
  have HID := Lib.hid (fun (d : DV) (h : goodD d) => show (Tryz.prog.info? 28).map (·.size) = some (encD d).size by rw [encD_size d h]; exact info_D)
  have HSZ := Lib.hid (fun (d : DV) (h : goodD d) => show (encD zeroD).size = (encD d).size by rw [encD_size d h]; rfl)
  have gd := guard_plat
  have hu := Tryz.underlying26
  have g0 : goodD zeroD := ⟨rfl, by simp [zeroD], by simp [zeroD], by simp [zeroD]⟩
  have G0 := Lib.hid g0
  clear hW0 R0 Z0 B0 hL g0
  go_enter Tryz.func27, Tryz.ntmps27
  go_upto_region 1 with (fail)
  change Code.wp _ _ _ _ ((w.alloc (.cells #[.string (str p.1), .string (str p.2)] 26)).alloc (.cells (encD zeroD) 28))
  rw [← HW0.out]
  clear HW0
  go_wp2
  go_loopg [10] l.length (fun gk s10 wr => ∃ j : Nat, s10 = .int .i64 (j : Int) ∧ Hid (gk = l.length - j) ∧ Hid (j ≤ l.length) ∧ Hid (∀ i d, i < j → l[i]? = some d → pickQ p d = false) ∧ Hid (Below W0.heap.size W0 wr))
  case atStart => exact ⟨0, rfl, Lib.hid rfl, Lib.hid (Nat.zero_le _), Lib.hid (fun i d h => absurd h (Nat.not_lt_zero _)), Lib.hid (Below.refl _ _)⟩
  case round =>
    obtain ⟨j, rfl, HNj, HNL, HM, HBW⟩ := hrel
    have sw := HBW.out.size
    have hbw : Below w.heap.size w wr := HB0.out.trans (HBW.out.mono (by omega))
    by_cases hj : j < l.length
    · have hj1 : (j : Int) < (l.length : Int) := by omega
      obtain ⟨d, hd⟩ : ∃ d, l[j]? = some d := ⟨_, List.getElem?_eq_getElem hj⟩
      obtain ⟨gd', ad, rfl, hab, hcs⟩ := dess_at HL.out hd
      have HGD := Lib.hid gd'
      have HCS := Lib.hid (show ∀ i u, (encL d)[i]? = some u → wr.cell? ((ad.add (j * 36)).add i) = some u from fun i u hu => by
        rw [World.cell?_of_block (w := w) (w' := wr) (hbw.block _ (by rw [add_block, add_block]; exact hab))]
        exact hcs i u hu)
      have HDJ := Lib.hid hd
      have CD := HCK.out d.media
      have HEL := Lib.hid (encD_list d)
      have HIL := Lib.hid (show (Tryz.prog.info? 28).map (·.size) = some (encL d).length by rw [encL_len gd'.1]; exact info_D)
      have hjm : j ≤ 65536 := by omega
      clear gd' hcs hd hj
      go_upto_region 4 with (first
        | ((with_reducible show wpList _ _ _ (⟨some 13, .load _ _, _, _, _, _⟩ :: _) _ _); refine wpList_load_at rfl 28 _ rfl (ad.add (j * 36)) rfl (encL d) _ HCS.out Tryz.underlying28 rfl HIL.out ?_)
        | ((with_reducible show wpList _ _ _ (⟨none, .store _ (.tmp 7) _, _, _, _, _⟩ :: _) _ _); refine wpList_store_last rfl 28 _ _ rfl wr.heap.size (encD d) rfl (by rw [HEL.out]; rfl) 28 (encD zeroD) rfl (HID.out d HGD.out) (HSZ.out d HGD.out) (encD_one _) ?_))
      obtain ⟨W1, hW1⟩ : ∃ W1, W1 = wr.alloc (.cells (encD d) 28) := ⟨_, rfl⟩
      rw [← hW1]
      have R1 : rowC W1 wr.heap.size (encD d) 28 := by rw [hW1]; exact rowC_new _ _ _
      have q1 : W1.cell? ⟨wr.heap.size, 0, none⟩ = some (.string (str d.media)) := by rw [rowC_cell R1]; exact (encD_get HGD.out.1).1
      have BW1 : Below wr.heap.size wr W1 := by rw [hW1]; exact (Below.refl _ _).alloc (Nat.le_refl _) _
      have B1 := Lib.hid (HBW.out.trans (BW1.mono sw))
      have HP1 := Lib.hid (desc_pla HGD.out.1 R1)
      have HQ1 := Lib.hid (rowC_below (rowC_below HR0.out HBW.out (by omega)) BW1 (by omega))
      have HZ1 := Lib.hid (rowC_below (rowC_below HZ0.out HBW.out (by omega)) BW1 (by omega))
      have HR1 := Lib.hid R1
      have hs1 : wr.heap.size + 1 ≤ W1.heap.size := by rw [hW1, size_alloc]; omega
      clear hW1 R1 BW1
      have HQD := Lib.hid (pickQ_eq p d)
      have eq1 : ∀ w, (Op.equalIn 10000 26 (.agg #[.string (str d.os), .string (str d.arch)]) (.agg #[.string (str p.1), .string (str p.2)])).run Tryz.prog w = .ok (eqPB (d.os, d.arch) p) w := fun w => eq_plat w 9998 (d.os, d.arch) p
      by_cases h4 : kindN d.media = 1
      rotate_left
      · have e0 : Hid (pickQ p d = false) := Lib.hid (by rw [HQD.out, show (kindN d.media == 1) = false by simpa using h4]; rfl)
        have h4' : (((kindN d.media : Nat) : Int) == 1) = false := by rw [beq_eq_false_iff_ne]; omega
        generalize kindN d.media = kd at *
        clear h4 eq1 HQD
        go_wp2_with (go_at_call 24; ((with_reducible refine (CD _).mono ?_); rintro e w2 ⟨rfl, rfl⟩))
        go_roundg (l.length - (j + 1))
        case measure => rw [HNj.out]; omega
        case rel =>
          refine ⟨j + 1, rfl, Lib.hid rfl, Lib.hid (by omega), Lib.hid (fun i d' hi hd' => ?_), B1⟩
          by_cases hij : i = j
          · subst hij
            rw [HDJ.out] at hd'
            injection hd' with hd'
            rw [← hd']
            exact e0.out
          · exact HM.out i d' (by omega) hd'
      rw [h4] at CD HQD
      clear h4
      cases hq : eqPB (d.os, d.arch) p
      · have e0 : Hid (pickQ p d = false) := Lib.hid (by rw [HQD.out, hq]; rfl)
        rw [hq] at eq1
        clear hq HQD
        go_wp2_with (first
          | (go_at_call 24; ((with_reducible refine (CD _).mono ?_); rintro e w2 ⟨rfl, rfl⟩))
          | ((with_reducible show wpList _ _ _ (⟨some 20, .load _ _, _, _, _, _⟩ :: _) _ _); refine wpList_load_midG rfl 26 _ rfl wr.heap.size 34 rfl [.string (str d.os), .string (str d.arch)] _ HP1.out hu rfl info_P ?_)
          | ((with_reducible show wpList _ _ _ (⟨some 21, .load _ _, _, _, _, _⟩ :: _) _ _); refine wpList_load_rowG rfl 26 _ rfl w.heap.size rfl 26 #[.string (str p.1), .string (str p.2)] _ HQ1.out hu rfl info_P ?_))
        go_roundg (l.length - (j + 1))
        case measure => rw [HNj.out]; omega
        case rel =>
          refine ⟨j + 1, rfl, Lib.hid rfl, Lib.hid (by omega), Lib.hid (fun i d' hi hd' => ?_), B1⟩
          by_cases hij : i = j
          · subst hij
            rw [HDJ.out] at hd'
            injection hd' with hd'
            rw [← hd']
            exact e0.out
          · exact HM.out i d' (by omega) hd'
      · have e0 : Hid (pickA l p = (d, 0)) := Lib.hid (pickA_some (find_at (fun i d' hi hd' => HM.out i d' hi hd') HDJ.out (by rw [HQD.out, hq]; rfl)))
        rw [hq] at eq1
        clear hq HQD
        have CC := oclone_any d W1 HGD.out
        go_wp2_with (first
          | (go_at_call 24; ((with_reducible refine (CD _).mono ?_); rintro e w2 ⟨rfl, rfl⟩))
          | ((with_reducible show wpList _ _ _ (⟨some 20, .load _ _, _, _, _, _⟩ :: _) _ _); refine wpList_load_midG rfl 26 _ rfl wr.heap.size 34 rfl [.string (str d.os), .string (str d.arch)] _ HP1.out hu rfl info_P ?_)
          | ((with_reducible show wpList _ _ _ (⟨some 21, .load _ _, _, _, _, _⟩ :: _) _ _); refine wpList_load_rowG rfl 26 _ rfl w.heap.size rfl 26 #[.string (str p.1), .string (str p.2)] _ HQ1.out hu rfl info_P ?_)
          | ((with_reducible show wpList _ _ _ (⟨some 24, .load _ _, _, _, _, _⟩ :: _) _ _); refine wpList_load_row rfl 28 _ rfl wr.heap.size rfl 28 (encD d) (0, 0) _ HR1.out Tryz.underlying28 rfl (HID.out d HGD.out) ?_)
          | (go_at_call 66; refine CC.mono ?_; rintro e w3 ⟨rfl, b3⟩; have HZ3 := Lib.hid (rowC_below HZ1.out b3 (by omega)); have HB3 := Lib.hid b3; clear b3)
          | ((with_reducible show wpList _ _ _ (⟨none, .store _ (.tmp 4) _, _, _, _, _⟩ :: _) _ _); refine wpList_store_row rfl 28 _ _ rfl (w.heap.size + 1) (encD d) rfl rfl 28 _ HZ3.out (HID.out d HGD.out) (HSZ.out d HGD.out) (encD_one _) ?_))
        refine bodyPost_ret (results_row_tmp rfl _ _ (w.heap.size + 1) 28 (encD d) _ rfl (rowC_setRow HZ3.out _) Tryz.underlying28 rfl (HID.out d HGD.out) (.int .i64 0) rfl) rfl ?_
        rw [e0.out]
        have h1 := HB0.out.trans (B1.out.mono (by omega))
        exact ⟨rfl, below_setRow (h1.trans (HB3.out.mono h1.size)) (by omega) _⟩
    · have hj1 : ¬ (j : Int) < (l.length : Int) := by omega
      have e0 : Hid (pickA l p = (zeroD, 73)) := Lib.hid (pickA_none fun i d hi => HM.out i d (by have := (List.getElem?_eq_some_iff.1 hi).1; omega) hi)
      have HZ1 := Lib.hid (rowC_below HZ0.out HBW.out (by omega))
      clear hj
      go_wp2_with (first
        | ((with_reducible show wpList _ _ _ (⟨some 27, .build _ _, _, _, _, _⟩ :: _) _ _); refine wpList_build_as rfl 28 _ rfl (encD zeroD) (by kernel_rfl) ?_)
        | ((with_reducible show wpList _ _ _ (⟨none, .store _ (.tmp 4) _, _, _, _, _⟩ :: _) _ _); refine wpList_store_row rfl 28 _ _ rfl (w.heap.size + 1) (encD zeroD) rfl rfl 28 _ HZ1.out (HID.out _ G0.out) rfl (encD_one _) ?_))
      refine bodyPost_ret (results_row_tmp rfl _ _ (w.heap.size + 1) 28 (encD zeroD) _ rfl (rowC_setRow HZ1.out _) Tryz.underlying28 rfl (HID.out _ G0.out) (.int .i64 73) rfl) rfl ?_
      rw [e0.out]
      exact ⟨rfl, below_setRow hbw (by omega) _⟩
end Go.Proofs.YtnkencdibniagaaGreatDoor

