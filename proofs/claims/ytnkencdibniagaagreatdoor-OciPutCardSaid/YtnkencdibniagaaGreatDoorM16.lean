/- Merged: JuG, JuH, JuI. -/
import Derived.Test.YtnkencdibniagaaGreatDoorM14
import Derived.Test.YtnkencdibniagaaGreatDoorM15
/- Layer 11: values in memory, opened; a part that is loaded. -/
namespace Go.Proofs.YtnkencdibniagaaGreatDoor
open Go.RowKit

theorem add_add (a : Addr) (i j : Nat) : (a.add i).add j = a.add (i + j) := by
  unfold Addr.add
  by_cases h : i = 0
  · subst h; simp
  · by_cases h2 : j = 0
    · subst h2; simp
    · rw [if_neg h, if_neg h2, if_neg (by omega)]
      simp [Nat.add_assoc]
theorem run_loadVar_at (w : World) (a : Addr) (ty : TypeId) (cs : List Value) (d : TypeDesc) (hc : ∀ j v, cs[j]? = some v → w.cell? (a.add j) = some v)
    (hu : Tryz.prog.underlying ty = some d) (hd : d.isRow = true) (hi : (Tryz.prog.info? ty).map (·.size) = some cs.length) :
    (loadVar ty a).run Tryz.prog w = .ok (.agg cs.toArray) w := by
  have hl := run_loadCells_list (P := Tryz.prog) w a cs hc
  cases hq : Tryz.prog.info? ty with
  | none => simp [hq] at hi
  | some i =>
    have hs : i.size = cs.length := by simpa [hq] using hi
    have hagg : (isAgg ty).run Tryz.prog w = .ok true w := by
      unfold isAgg
      rw [Sem.run_bind, run_underlying hu w]
      cases d <;> simp_all
    simp [loadVar, Sem.run_bind, hagg, sizeOf, typeInfo, hq, hs, hl]
theorem wpList_load_at {ops : Array Oper} {rest : List Oper} {op : Oper} {a : Act} {w : World} {Q : Exit → Act → World → Prop} (hw : Region.wanted op (yielded ops a.tmps) = true) (ty : TypeId) (x : Operand) (ho : op.op = .load ty x)
    (p : Addr) (hx : a.eval x = .pointer (some p)) (cs : List Value) (d : TypeDesc) (hc : ∀ j v, cs[j]? = some v → w.cell? (p.add j) = some v)
    (hu : Tryz.prog.underlying ty = some d) (hd : d.isRow = true) (hi : (Tryz.prog.info? ty).map (·.size) = some cs.length)
    (h : wpList Tryz.prog ops Q rest (a.put op.dst (.agg cs.toArray)) w) : wpList Tryz.prog ops Q (op :: rest) a w := by
  rw [wpList, if_pos hw]
  refine .inl ?_
  unfold Oper.wp execOp
  simp only [ho, hx, Instr.loadAt, Instr.sureAddr, Sem.run_bind, Sem.run_pure, Result.andThen_ok, run_loadVar_at w p ty cs d hc hu hd hi]
  exact h
theorem HoldsR.get {w : World} {F : Nat → Prop} {ad : Addr} : ∀ (l : List JV) (j i : Nat) (x : JV), HoldsR w F l ad j → l[i]? = some x →
    ∃ a b c d, F ad.block ∧ w.cell? (ad.add (4 * (j + i))) = some a ∧ w.cell? (ad.add (4 * (j + i) + 1)) = some b ∧ w.cell? (ad.add (4 * (j + i) + 2)) = some c ∧ w.cell? (ad.add (4 * (j + i) + 3)) = some d ∧ HoldsC w F x a b c d
  | [], j, i, x, _, hx => by simp at hx
  | y :: l, j, 0, x, h, hx => by
    obtain rfl : y = x := by simpa using hx
    rw [HoldsR] at h
    obtain ⟨⟨a, b, c, d, h1⟩, _⟩ := h
    exact ⟨a, b, c, d, h1⟩
  | y :: l, j, i + 1, x, h, hx => by
    rw [HoldsR] at h
    have := HoldsR.get l (j + 1) i x h.2 (by simpa using hx)
    rw [show j + 1 + i = j + (i + 1) by omega] at this
    exact this
/-- The four cells of an item, as a load asks for them. -/
def at4 (w : World) (p : Addr) (a b c d : Value) : Prop := ∀ j v, [a, b, c, d][j]? = some v → w.cell? (p.add j) = some v
/-- A value's cells, opened. -/
theorem HoldsC.opens {w : World} {F : Nat → Prop} {k : Int} {t : Bs} {items : List JV} {keys : List Bs} {a b c d : Value} (h : HoldsC w F (.mk k t items keys) a b c d) :
    a = .int .i64 k ∧ b = .string (str t) ∧ t.length ≤ 281474976710656 ∧
    (∃ x1 c1, c = .slice x1 items.length c1 ∧ ∀ i x, items[i]? = some x → ∃ ad a' b' c' d', x1 = some ad ∧ F ad.block ∧ at4 w (ad.add (i * 4)) a' b' c' d' ∧ HoldsC w F x a' b' c' d') ∧
    (∃ x2 c2, d = .slice x2 keys.length c2 ∧ ∀ i, i < keys.length → ∃ ad, x2 = some ad ∧ F ad.block ∧ w.cell? (ad.add i) = some (.string (str (keys.getD i [])))) := by
  rw [HoldsC] at h
  obtain ⟨h1, h2, h3, h4, h5⟩ := h
  refine ⟨h1, h2, h3, ?_, ?_⟩
  · rcases h5 with ⟨h5, h6⟩ | ⟨ad, cap, h5, h6⟩
    · subst h6
      exact ⟨none, 0, h5, fun i x hx => by simp at hx⟩
    · refine ⟨some ad, cap, h5, fun i x hx => ?_⟩
      obtain ⟨a', b', c', d', g0, g1, g2, g3, g4, g5⟩ := HoldsR.get items 0 i x h6 hx
      rw [Nat.zero_add] at g1 g2 g3 g4
      refine ⟨ad, a', b', c', d', rfl, g0, fun j v hj => ?_, g5⟩
      rw [add_add, Nat.mul_comm i 4]
      match j, hj with
      | 0, hj => simp at hj; subst hj; exact g1
      | 1, hj => simp at hj; subst hj; exact g2
      | 2, hj => simp at hj; subst hj; exact g3
      | 3, hj => simp at hj; subst hj; exact g4
  · rcases h4 with ⟨h4, h6⟩ | ⟨ad, cap, h4, h6⟩
    · subst h6
      exact ⟨none, 0, h4, fun i hi => by simp at hi⟩
    · exact ⟨some ad, cap, h4, fun i hi => ⟨ad, rfl, (h6 i hi).1, (h6 i hi).2⟩⟩
theorem at4.chg {s : Nat → Prop} {w w' : World} {p : Addr} {a b c d : Value} (h : at4 w p a b c d) (hc : Chg s w w') (hs : ¬ s p.block) : at4 w' p a b c d := fun j v hj => cell_chg hc (h j v hj) (by rw [add_block]; exact hs)
/-- Memory below B stands. -/
theorem chg_of_below {B : Nat} {w w' : World} (h : Below B w w') : Chg (fun k => B ≤ k) w w' := ⟨h.os, h.tape, h.output, h.size, fun k _ hk => h.block k (by omega)⟩
theorem HoldsC.far {B : Nat} {w w' : World} {v : JV} {a b c d : Value} (h : HoldsC w (fun k => k < B) v a b c d) (hb : Below B w w') : HoldsC w' (fun k => k < B) v a b c d :=
  HoldsC.chg (chg_of_below hb) (fun k hk hs => by omega) _ _ _ _ _ h
theorem Env.far {B : Nat} {w w' : World} (h : Env w) (hb : Below B w w') (hB : 10 ≤ B) : Env w' := h.chg (chg_of_below hb) (fun k hk hs => by omega)
end Go.Proofs.YtnkencdibniagaaGreatDoor

/- Layer 11: the parts of a list, or of an object, are written. -/
namespace Go.Proofs.YtnkencdibniagaaGreatDoor
open Go.RowKit
set_option linter.unusedSimpArgs false

/-- What is asked of 'value' at one value. -/
def PvOk (v : JV) : Prop := ∀ (w : World) (B b : Nat) (l : Bs) (a b' c d : Value), PrAt w B b l → B ≤ w.heap.size → Env w → 10 ≤ B → HoldsC w (fun k => k < B) v a b' c d →
  Calls Tryz.prog 70 #[.pointer (some ⟨b, 0, none⟩), .agg #[a, b', c, d]] w fun e w' => e = .returned (.tuple #[]) ∧ PrS w B b (putsL l (psJ v)) w'
theorem psL_cons (k : Int) (first : Bool) (x : JV) (l : List JV) (keys : List Bs) : psL k first (x :: l) keys = (if first = true then [] else [[44]]) ++ (if k = 6 then quoPs (keys.headD []) ++ [[58]] else []) ++ psJ x ++ psL k false l keys.tail := by rw [psL]
theorem psL_nil (k : Int) (first : Bool) (keys : List Bs) : psL k first [] keys = [] := by rw [psL]
/-- What is written of parts from the n-th one on. -/
def restP (k : Int) (items : List JV) (keys : List Bs) (n : Nat) : List Bs := psL k (decide (n = 0)) (items.drop n) (keys.drop n)
theorem restP_step {k : Int} {items : List JV} {keys : List Bs} {n : Nat} {x : JV} (hx : items[n]? = some x) :
    restP k items keys n = (if n = 0 then [] else [[44]]) ++ (if k = 6 then quoPs (keys.getD n []) ++ [[58]] else []) ++ psJ x ++ restP k items keys (n + 1) := by
  have hn : n < items.length := (List.getElem?_eq_some_iff.1 hx).1
  have e : items.drop n = x :: items.drop (n + 1) := by
    rw [List.drop_eq_getElem_cons hn]
    congr 1
    exact (List.getElem?_eq_some_iff.1 hx).2
  have h2 : (keys.drop n).headD [] = keys.getD n [] := by
    rw [List.headD_eq_head?_getD, List.head?_drop, List.getD_eq_getElem?_getD]
  unfold restP
  rw [e, psL_cons, h2, List.tail_drop]
  by_cases h : n = 0
  · subst h; simp
  · simp [h]
theorem restP_end {k : Int} {items : List JV} {keys : List Bs} {n : Nat} (h : items.length ≤ n) : restP k items keys n = [] := by
  unfold restP
  rw [List.drop_eq_nil_of_le h, psL_nil]
set_option maxRecDepth 100000 in
set_option maxHeartbeats 8000000 in
theorem pparts_any {k : Int} {t : Bs} {items : List JV} {keys : List Bs} (hk : k = 5 ∨ k = 6) (hkl : k = 6 → keys.length = items.length) (hlen : items.length ≤ 4611686018427387904) (IH : ∀ x ∈ items, PvOk x) (p q : UInt8) (sp sq : ByteArray) (hp : sp = str [p]) (hq : sq = str [q])
    {w : World} {B b : Nat} {l : Bs} {a b' c d : Value} (h : PrAt w B b l) (hB : B ≤ w.heap.size) (hE : Env w) (h10 : 10 ≤ B) (hH : HoldsC w (fun k => k < B) (.mk k t items keys) a b' c d) :
    Calls Tryz.prog 108 #[.pointer (some ⟨b, 0, none⟩), .string sp, .string sq, .agg #[a, b', c, d]] w fun e w' => e = .returned (.tuple #[]) ∧ PrS w B b (putsL l ([p] :: (psL k true items keys ++ [[q]]))) w' := by
  have hbB := h.lt
  obtain ⟨rfl, rfl, ht, ⟨x1, c1, rfl, hI⟩, ⟨x2, c2, rfl, hK⟩⟩ := hH.opens
  have C1 := fun (w2 : World) (acc : Bs) (g : PrAt w2 B b acc) (hB2 : B ≤ w2.heap.size) => put_any [p] g hB2 (show ([p] : Bs).length ≤ 70368744177664 by simp)
  have C2 := fun (w2 : World) (acc : Bs) (g : PrAt w2 B b acc) (hB2 : B ≤ w2.heap.size) => put_any [q] g hB2 (show ([q] : Bs).length ≤ 70368744177664 by simp)
  rw [← hp] at C1
  rw [← hq] at C2
  have C44 : ∀ (w2 : World) (acc : Bs), PrAt w2 B b acc → B ≤ w2.heap.size → Calls Tryz.prog 106 #[.pointer (some ⟨b, 0, none⟩), .string ⟨#[44]⟩] w2 fun e w' => e = .returned (.tuple #[]) ∧ PrS w2 B b (putL acc [44]) w' := fun w2 acc g hB2 => put_any [44] g hB2 (by decide)
  have C58 : ∀ (w2 : World) (acc : Bs), PrAt w2 B b acc → B ≤ w2.heap.size → Calls Tryz.prog 106 #[.pointer (some ⟨b, 0, none⟩), .string ⟨#[58]⟩] w2 fun e w' => e = .returned (.tuple #[]) ∧ PrS w2 B b (putL acc [58]) w' := fun w2 acc g hB2 => put_any [58] g hB2 (by decide)
  have HFin : Hid (putsL l ([p] :: (psL k true items keys ++ [[q]])) = putL (putsL (putL l [p]) (restP k items keys 0)) [q]) := Lib.hid (by
    rw [← List.singleton_append, putsL_app, putsL_app]
    rfl)
  obtain ⟨W0, hW0⟩ : ∃ W0, W0 = w.alloc (.cells #[.int .i64 k, .string (str t), .slice x1 items.length c1, .slice x2 keys.length c2] 63) := ⟨_, rfl⟩
  have R0 : rowC W0 w.heap.size (row4 k (str t) x1 items.length c1 x2 keys.length c2) 63 := by rw [hW0]; exact rowC_new w _ _
  have S0 : PrS w B b l W0 := by rw [hW0]; exact (PrS.start h).below hB ((Below.refl _ _).alloc (Nat.le_refl _) _)
  have s0 : W0.heap.size = w.heap.size + 1 := by rw [hW0]; exact size_alloc _ _
  have HS0 := Lib.hid S0
  have HR0 := Lib.hid R0
  have Hs0 := Lib.hid s0
  have HW0 := Lib.hid hW0
  have HE := Lib.hid hE
  have HB := Lib.hid hB
  have H10 := Lib.hid h10
  have HbB := Lib.hid hbB
  have HII := Lib.hid hI
  have HKK := Lib.hid hK
  have HKL := Lib.hid hkl
  unfold PvOk at IH
  have HIH := Lib.hid IH
  have HIF := Lib.hid info_V
  have HLN := Lib.hid hlen
  clear hW0 S0 R0 s0 hE hbB hI hK hkl IH hp hq ht hH
  go_enter Tryz.func108, Tryz.ntmps108
  go_upto_region 1 with (fail)
  rw [← HW0.out]
  go_upto_region 2 with (go_at_call 106; ((with_reducible refine (C1 _ _ HS0.out.pr (by have := Hs0.out; have := HB.out; omega)).mono ?_); rintro e w1 ⟨rfl, h1⟩))
  have g2 : w1.cell? ⟨w.heap.size, 2, none⟩ = some (.slice x1 items.length c1) := rowC_cell (h1.row HR0.out (by have := HbB.out; omega) (by decide)) 2
  have P1 := HS0.out.trans h1
  go_wp2
  go_loopg [8, 16] items.length (fun kk s8 s16 wr => ∃ (n : Nat) (acc : Bs), s16 = .int .i64 (n : Int) ∧ Hid (kk = items.length - n) ∧ Hid (n ≤ items.length) ∧ Hid (PrS w B b acc wr) ∧ Hid (rowC wr w.heap.size (row4 k (str t) x1 items.length c1 x2 keys.length c2) 63) ∧ Hid (putsL acc (restP k items keys n) = putsL (putL l [p]) (restP k items keys 0)))
  case atStart => exact ⟨0, _, rfl, Lib.hid rfl, Lib.hid (Nat.zero_le _), Lib.hid P1, Lib.hid (h1.row HR0.out (by have := HbB.out; omega) (by decide)), Lib.hid rfl⟩
  case round =>
    obtain ⟨n, acc, rfl, HN, HNL, HP, HR, HQ⟩ := hrel
    clear g2
    by_cases hn : n < items.length
    · obtain ⟨x, hx⟩ : ∃ x, items[n]? = some x := ⟨_, List.getElem?_eq_getElem hn⟩
      obtain ⟨ad, a1, a2, a3, a4, rfl, hF, h4c, hHx⟩ := HII.out n x hx
      obtain ⟨rfl, rfl, ⟨y1, yc1, rfl⟩, y2, yc2, rfl⟩ := hHx.form
      have hbq : B ≤ wr.heap.size := by have := HB.out; have := HP.out.size; omega
      have hc := chg_of_below HP.out.bel
      have L4 := Lib.hid (h4c.chg hc (by rw [add_block]; omega))
      have hHx0 := hHx
      have HIX := Lib.hid (HIH.out x (List.mem_of_getElem? hx))
      have HST := Lib.hid (restP_step (k := k) (keys := keys) hx)
      have hlen2 : (n : Int) < (items.length : Int) := by omega
      obtain ⟨W2, hW2⟩ : ∃ W2, W2 = wr.alloc (.cells (row4 x.kind (str x.text) y1 x.items.length yc1 y2 x.keys.length yc2) 63) := ⟨_, rfl⟩
      have P2 : PrS w B b acc W2 := by rw [hW2]; exact HP.out.below hbq ((Below.refl _ _).alloc (Nat.le_refl _) _)
      have R2 : rowC W2 w.heap.size (row4 k (str t) (some ad) items.length c1 x2 keys.length c2) 63 := by rw [hW2]; exact rowC_alloc HR.out _
      have X2 : rowC W2 wr.heap.size (row4 x.kind (str x.text) y1 x.items.length yc1 y2 x.keys.length yc2) 63 := by rw [hW2]; exact rowC_new _ _ _
      have hsz := HP.out.size
      have hbW2 : B ≤ W2.heap.size := by have := P2.size; have := HB.out; omega
      have g0 : W2.cell? ⟨w.heap.size, 0, none⟩ = some (.int .i64 k) := rowC_cell R2 0
      have g3 : W2.cell? ⟨w.heap.size, 3, none⟩ = some (.slice x2 keys.length c2) := rowC_cell R2 3
      have HW2 := Lib.hid hW2
      have HP2 := Lib.hid P2
      have HR2 := Lib.hid R2
      have HX2 := Lib.hid X2
      clear hW2 hx hF h4c hHx hc
      go_upto_region 5 with (first
        | ((with_reducible show wpList _ _ _ (⟨some 20, .load _ (.tmp 19), _, _, _, _⟩ :: _) _ _); refine wpList_load_at rfl 63 _ rfl (ad.add (n * 4)) rfl [.int .i64 x.kind, .string (str x.text), .slice y1 x.items.length yc1, .slice y2 x.keys.length yc2] _ L4.out Tryz.underlying63 rfl HIF.out ?_)
        | ((with_reducible show wpList _ _ _ (⟨none, .store _ (.tmp 9) (.tmp 20), _, _, _, _⟩ :: _) _ _); refine wpList_store_last rfl 63 _ _ rfl wr.heap.size (row4 x.kind (str x.text) y1 x.items.length yc1 y2 x.keys.length yc2) rfl rfl 63 zeroV4 rfl HIF.out rfl (row4_all _ _ _ _ _ _ _ _) ?_))
      rw [← HW2.out]
      have HX0 := Lib.hid hHx0
      clear hHx0
      rcases hk with rfl | rfl
      · clear HKK C58 g3
        by_cases h0 : n = 0
        · subst h0
          go_wp2_with (first
          | (go_at_call 106; first
              | ((with_reducible refine (C44 _ _ P2.pr hbW2).mono ?_); rintro e w3 ⟨rfl, h3⟩; have P2 := P2.trans h3; have hbW2 := Nat.le_trans hbW2 h3.size; have R2 := h3.row R2 (by have := HbB.out; omega) (by decide); have X2 := h3.row X2 (by have := HbB.out; omega) (by decide); have g0 : w3.cell? ⟨w.heap.size, 0, none⟩ = some (.int .i64 5) := rowC_cell R2 0)
              | ((with_reducible refine (C58 _ _ P2.pr hbW2).mono ?_); rintro e w5 ⟨rfl, h5⟩; have P2 := P2.trans h5; have hbW2 := Nat.le_trans hbW2 h5.size; have R2 := h5.row R2 (by have := HbB.out; omega) (by decide); have X2 := h5.row X2 (by have := HbB.out; omega) (by decide)))
          | (go_at_call 70; ((with_reducible refine (HIX.out _ B b _ _ _ _ _ P2.pr hbW2 (HE.out.far P2.bel H10.out) H10.out (HX0.out.far P2.bel)).mono ?_); rintro e w6 ⟨rfl, h6⟩; have P2 := P2.trans h6; have R2 := h6.row R2 (by have := HbB.out; omega) (by decide)))
          | ((with_reducible show wpList _ _ _ (⟨some 38, .load _ (.tmp 9), _, _, _, _⟩ :: _) _ _); refine wpList_load_row rfl 63 _ rfl wr.heap.size rfl 63 #[.int .i64 x.kind, .string (str x.text), .slice y1 x.items.length yc1, .slice y2 x.keys.length yc2] (0, 0) _ X2 Tryz.underlying63 rfl HIF.out ?_))
          go_roundg (items.length - (0 + 1))
          case measure => rw [HN.out]; omega
          case rel => exact ⟨0 + 1, _, rfl, Lib.hid rfl, Lib.hid (by omega), Lib.hid P2, Lib.hid R2, Lib.hid (by
            rw [← HQ.out, HST.out]
            simp only [reduceIte, Int.reduceEq, putsL_app, putsL_one, List.nil_append]
            try rfl)⟩
        · have hpos : (0 : Int) < (n : Int) := by omega
          go_wp2_with (first
          | (go_at_call 106; first
              | ((with_reducible refine (C44 _ _ P2.pr hbW2).mono ?_); rintro e w3 ⟨rfl, h3⟩; have P2 := P2.trans h3; have hbW2 := Nat.le_trans hbW2 h3.size; have R2 := h3.row R2 (by have := HbB.out; omega) (by decide); have X2 := h3.row X2 (by have := HbB.out; omega) (by decide); have g0 : w3.cell? ⟨w.heap.size, 0, none⟩ = some (.int .i64 5) := rowC_cell R2 0)
              | ((with_reducible refine (C58 _ _ P2.pr hbW2).mono ?_); rintro e w5 ⟨rfl, h5⟩; have P2 := P2.trans h5; have hbW2 := Nat.le_trans hbW2 h5.size; have R2 := h5.row R2 (by have := HbB.out; omega) (by decide); have X2 := h5.row X2 (by have := HbB.out; omega) (by decide)))
          | (go_at_call 70; ((with_reducible refine (HIX.out _ B b _ _ _ _ _ P2.pr hbW2 (HE.out.far P2.bel H10.out) H10.out (HX0.out.far P2.bel)).mono ?_); rintro e w6 ⟨rfl, h6⟩; have P2 := P2.trans h6; have R2 := h6.row R2 (by have := HbB.out; omega) (by decide)))
          | ((with_reducible show wpList _ _ _ (⟨some 38, .load _ (.tmp 9), _, _, _, _⟩ :: _) _ _); refine wpList_load_row rfl 63 _ rfl wr.heap.size rfl 63 #[.int .i64 x.kind, .string (str x.text), .slice y1 x.items.length yc1, .slice y2 x.keys.length yc2] (0, 0) _ X2 Tryz.underlying63 rfl HIF.out ?_))
          go_roundg (items.length - (n + 1))
          case measure => rw [HN.out]; omega
          case rel => exact ⟨n + 1, _, rfl, Lib.hid rfl, Lib.hid (by omega), Lib.hid P2, Lib.hid R2, Lib.hid (by
            rw [← HQ.out, HST.out]
            simp only [h0, reduceIte, Int.reduceEq, putsL_app, putsL_one, List.nil_append]
            try rfl)⟩
      · have hkl := HKL.out rfl
        obtain ⟨adk, rfl, hFk, hck⟩ := HKK.out n (by omega)
        have HKC : Hid (∀ w', Below B w w' → w'.cell? (adk.add n) = some (.string (str (keys.getD n [])))) := Lib.hid fun w' hb => cell_chg (chg_of_below hb) hck (by rw [add_block]; omega)
        have gk := HKC.out _ P2.bel
        have hn2 : (n : Int) < (keys.length : Int) := by omega
        clear HKK HKL hck hFk hkl
        generalize keys.getD n [] = kt at *
        by_cases h0 : n = 0
        · subst h0
          replace gk : W2.cell? adk = some (.string (str kt)) := gk
          go_wp2_with (first
          | (go_at_call 106; first
              | ((with_reducible refine (C44 _ _ P2.pr hbW2).mono ?_); rintro e w3 ⟨rfl, h3⟩; have P2 := P2.trans h3; have hbW2 := Nat.le_trans hbW2 h3.size; have R2 := h3.row R2 (by have := HbB.out; omega) (by decide); have X2 := h3.row X2 (by have := HbB.out; omega) (by decide); have g0 : w3.cell? ⟨w.heap.size, 0, none⟩ = some (.int .i64 6) := rowC_cell R2 0; have g3 : w3.cell? ⟨w.heap.size, 3, none⟩ = some (.slice (some adk) keys.length c2) := rowC_cell R2 3; have gk := HKC.out _ P2.bel)
              | ((with_reducible refine (C58 _ _ P2.pr hbW2).mono ?_); rintro e w5 ⟨rfl, h5⟩; have P2 := P2.trans h5; have hbW2 := Nat.le_trans hbW2 h5.size; have R2 := h5.row R2 (by have := HbB.out; omega) (by decide); have X2 := h5.row X2 (by have := HbB.out; omega) (by decide)))
          | (go_at_call 70; ((with_reducible refine (HIX.out _ B b _ _ _ _ _ P2.pr hbW2 (HE.out.far P2.bel H10.out) H10.out (HX0.out.far P2.bel)).mono ?_); rintro e w6 ⟨rfl, h6⟩; have P2 := P2.trans h6; have R2 := h6.row R2 (by have := HbB.out; omega) (by decide)))
          | (go_at_call 107; ((with_reducible refine (pquoted_any (kt) P2.pr hbW2 H10.out (HE.out.far P2.bel H10.out).tz).mono ?_); rintro e w4 ⟨rfl, h4⟩; have P2 := P2.trans h4; have hbW2 := Nat.le_trans hbW2 h4.size; have R2 := h4.row R2 (by have := HbB.out; omega) (by decide); have X2 := h4.row X2 (by have := HbB.out; omega) (by decide)))
          | ((with_reducible show wpList _ _ _ (⟨some 38, .load _ (.tmp 9), _, _, _, _⟩ :: _) _ _); refine wpList_load_row rfl 63 _ rfl wr.heap.size rfl 63 #[.int .i64 x.kind, .string (str x.text), .slice y1 x.items.length yc1, .slice y2 x.keys.length yc2] (0, 0) _ X2 Tryz.underlying63 rfl HIF.out ?_))
          go_roundg (items.length - (0 + 1))
          case measure => rw [HN.out]; omega
          case rel => exact ⟨0 + 1, _, rfl, Lib.hid rfl, Lib.hid (by omega), Lib.hid P2, Lib.hid R2, Lib.hid (by
            rw [← HQ.out, HST.out]
            simp only [reduceIte, Int.reduceEq, putsL_app, putsL_one, List.nil_append]
            try rfl)⟩
        · have hpos : (0 : Int) < (n : Int) := by omega
          go_wp2_with (first
          | (go_at_call 106; first
              | ((with_reducible refine (C44 _ _ P2.pr hbW2).mono ?_); rintro e w3 ⟨rfl, h3⟩; have P2 := P2.trans h3; have hbW2 := Nat.le_trans hbW2 h3.size; have R2 := h3.row R2 (by have := HbB.out; omega) (by decide); have X2 := h3.row X2 (by have := HbB.out; omega) (by decide); have g0 : w3.cell? ⟨w.heap.size, 0, none⟩ = some (.int .i64 6) := rowC_cell R2 0; have g3 : w3.cell? ⟨w.heap.size, 3, none⟩ = some (.slice (some adk) keys.length c2) := rowC_cell R2 3; have gk := HKC.out _ P2.bel)
              | ((with_reducible refine (C58 _ _ P2.pr hbW2).mono ?_); rintro e w5 ⟨rfl, h5⟩; have P2 := P2.trans h5; have hbW2 := Nat.le_trans hbW2 h5.size; have R2 := h5.row R2 (by have := HbB.out; omega) (by decide); have X2 := h5.row X2 (by have := HbB.out; omega) (by decide)))
          | (go_at_call 70; ((with_reducible refine (HIX.out _ B b _ _ _ _ _ P2.pr hbW2 (HE.out.far P2.bel H10.out) H10.out (HX0.out.far P2.bel)).mono ?_); rintro e w6 ⟨rfl, h6⟩; have P2 := P2.trans h6; have R2 := h6.row R2 (by have := HbB.out; omega) (by decide)))
          | (go_at_call 107; ((with_reducible refine (pquoted_any (kt) P2.pr hbW2 H10.out (HE.out.far P2.bel H10.out).tz).mono ?_); rintro e w4 ⟨rfl, h4⟩; have P2 := P2.trans h4; have hbW2 := Nat.le_trans hbW2 h4.size; have R2 := h4.row R2 (by have := HbB.out; omega) (by decide); have X2 := h4.row X2 (by have := HbB.out; omega) (by decide)))
          | ((with_reducible show wpList _ _ _ (⟨some 38, .load _ (.tmp 9), _, _, _, _⟩ :: _) _ _); refine wpList_load_row rfl 63 _ rfl wr.heap.size rfl 63 #[.int .i64 x.kind, .string (str x.text), .slice y1 x.items.length yc1, .slice y2 x.keys.length yc2] (0, 0) _ X2 Tryz.underlying63 rfl HIF.out ?_))
          go_roundg (items.length - (n + 1))
          case measure => rw [HN.out]; omega
          case rel => exact ⟨n + 1, _, rfl, Lib.hid rfl, Lib.hid (by omega), Lib.hid P2, Lib.hid R2, Lib.hid (by
            rw [← HQ.out, HST.out]
            simp only [h0, reduceIte, Int.reduceEq, putsL_app, putsL_one, List.nil_append]
            try rfl)⟩
    · have hn' : ¬ (n : Int) < (items.length : Int) := by omega
      have hbq : B ≤ wr.heap.size := by have := HB.out; have := HP.out.size; omega
      have HE2 : Hid (acc = putsL (putL l [p]) (restP k items keys 0)) := Lib.hid (by rw [← HQ.out, restP_end (by omega)]; rfl)
      clear HQ hn
      go_wp2_with (go_at_call 106; ((with_reducible refine (C2 _ _ HP.out.pr hbq).mono ?_); rintro e w4 ⟨rfl, h4⟩))
      go_end0
      rw [HFin.out, ← HE2.out]
      exact ⟨rfl, HP.out.trans h4⟩
end Go.Proofs.YtnkencdibniagaaGreatDoor

/- Layer 11: a value is written. -/
namespace Go.Proofs.YtnkencdibniagaaGreatDoor
open Go.RowKit

mutual
/-- Numbers' texts, and lists, are no longer than memory takes. -/
def okJ : JV → Prop
  | .mk k t items keys => (k = 3 → t.length ≤ 70368744177664) ∧ (items.length ≤ 65536 ∧ keys.length ≤ 65536 ∧ ∀ y ∈ keys, y.length ≤ 262144) ∧ okJL items
def okJL : List JV → Prop
  | [] => True
  | x :: l => okJ x ∧ okJL l
end
theorem okJL_mem : ∀ {l : List JV}, okJL l → ∀ x ∈ l, okJ x
  | _ :: _, h, x, hx => by
    rw [okJL] at h
    rcases List.mem_cons.1 hx with rfl | hx
    · exact h.1
    · exact okJL_mem h.2 x hx
theorem okJL_of : ∀ {l : List JV}, (∀ x ∈ l, okJ x) → okJL l
  | [], _ => by rw [okJL]; trivial
  | x :: l, h => by rw [okJL]; exact ⟨h x (by simp), okJL_of fun y hy => h y (by simp [hy])⟩
theorem wordOf_le (k : Int) : (wordOf k).length ≤ 5 := by
  unfold wordOf
  split
  · decide
  split <;> decide
set_option maxRecDepth 100000 in
set_option maxHeartbeats 8000000 in
theorem pvalue_any : ∀ (n : Nat) (v : JV), SizeOf.sizeOf v ≤ n → may v → okJ v → PvOk v := by
  intro n
  induction n with
  | zero =>
    intro v hs
    obtain ⟨k, t, items, keys⟩ := v
    simp at hs
  | succ n ih =>
    intro v hs hm ho w B b l a b' c d h hB hE h10 hH
    obtain ⟨k, t, items, keys⟩ := v
    have IH : ∀ x ∈ items, PvOk x := fun x hx => by
      have := List.sizeOf_lt_of_mem hx
      simp at hs
      rw [may] at hm
      rw [okJ] at ho
      exact ih x (by omega) (mayL_mem hm.1 x hx) (okJL_mem ho.2.2 x hx)
    rw [okJ] at ho
    have hbB := h.lt
    have hH0 := hH
    obtain ⟨rfl, rfl, ht, ⟨x1, c1, rfl, hI⟩, ⟨x2, c2, rfl, hK⟩⟩ := hH.opens
    obtain ⟨W0, hW0⟩ : ∃ W0, W0 = w.alloc (.cells #[.int .i64 k, .string (str t), .slice x1 items.length c1, .slice x2 keys.length c2] 63) := ⟨_, rfl⟩
    have R0 : rowC W0 w.heap.size #[.int .i64 k, .string (str t), .slice x1 items.length c1, .slice x2 keys.length c2] 63 := by rw [hW0]; exact rowC_new w _ _
    have S0 : PrS w B b l W0 := by rw [hW0]; exact (PrS.start h).below hB ((Below.refl _ _).alloc (Nat.le_refl _) _)
    have s0 : B ≤ W0.heap.size := by have := S0.size; omega
    have E0 : Env W0 := hE.far S0.bel h10
    have H0 := hH0.far S0.bel
    have g0 : W0.cell? ⟨w.heap.size, 0, none⟩ = some (.int .i64 k) := rowC_cell R0 0
    have g1 : W0.cell? ⟨w.heap.size, 1, none⟩ = some (.string (str t)) := rowC_cell R0 1
    have HIF := Lib.hid info_V
    have HS := Lib.hid S0
    have HR := Lib.hid R0
    have HW0 := Lib.hid hW0
    have CP := fun (s : Bs) (hs : s.length ≤ 70368744177664) => put_any s S0.pr s0 hs
    by_cases h3 : k = 3
    · subst h3
      have hp : Hid (psJ (.mk 3 t items keys) = [t]) := Lib.hid (by rw [psJ]; rfl)
      have C := CP t (ho.1 rfl)
      clear CP hI hK hH hH0 H0 IH hm ho hs hE h10 R0 S0 hW0 E0 h ih
      go_enter Tryz.func70, Tryz.ntmps70
      go_upto_region 1 with (fail)
      rw [← HW0.out]
      go_wp2_with (go_at_call 106; ((with_reducible refine C.mono ?_); rintro e w3 ⟨rfl, h3⟩))
      go_end0
      rw [hp.out]
      exact ⟨rfl, HS.out.trans h3⟩
    by_cases h4 : k = 4
    · subst h4
      have hp : Hid (psJ (.mk 4 t items keys) = quoPs t) := Lib.hid (by rw [psJ]; rfl)
      have C := pquoted_any t S0.pr s0 h10 E0.tz
      clear CP hI hK hH hH0 H0 IH hm ho hs hE h10 R0 S0 hW0 E0 h ih
      go_enter Tryz.func70, Tryz.ntmps70
      go_upto_region 1 with (fail)
      rw [← HW0.out]
      go_wp2_with (go_at_call 107; ((with_reducible refine C.mono ?_); rintro e w3 ⟨rfl, h3⟩))
      go_end0
      rw [hp.out]
      exact ⟨rfl, HS.out.trans h3⟩
    by_cases h5 : k = 5
    · subst h5
      have hp : Hid (psJ (.mk 5 t items keys) = [91] :: (psL 5 true items keys ++ [[93]])) := Lib.hid (by rw [psJ]; rfl)
      have C := pparts_any (k := 5) (.inl rfl) (fun e => absurd e (by decide)) (Nat.le_trans ho.2.1.1 (by decide)) IH 91 93 ⟨#[91]⟩ ⟨#[93]⟩ rfl rfl S0.pr s0 E0 h10 H0
      clear CP hI hK hH hH0 H0 IH hm ho hs hE h10 R0 S0 hW0 E0 h ih
      go_enter Tryz.func70, Tryz.ntmps70
      go_upto_region 1 with (fail)
      rw [← HW0.out]
      go_wp2_with (first
        | (go_at_call 108; ((with_reducible refine C.mono ?_); rintro e w3 ⟨rfl, h3⟩))
        | ((with_reducible show wpList _ _ _ (⟨some 27, .load _ (.tmp 3), _, _, _, _⟩ :: _) _ _); refine wpList_load_row rfl 63 _ rfl w.heap.size rfl 63 _ (0, 0) _ HR.out Tryz.underlying63 rfl HIF.out ?_))
      go_end0
      rw [hp.out]
      exact ⟨rfl, HS.out.trans h3⟩
    by_cases h6 : k = 6
    · subst h6
      have hp : Hid (psJ (.mk 6 t items keys) = [123] :: (psL 6 true items keys ++ [[125]])) := Lib.hid (by rw [psJ]; rfl)
      have C := pparts_any (k := 6) (.inr rfl) (fun _ => (may_obj hm).2.2.1) (Nat.le_trans ho.2.1.1 (by decide)) IH 123 125 ⟨#[123]⟩ ⟨#[125]⟩ rfl rfl S0.pr s0 E0 h10 H0
      clear CP hI hK hH hH0 H0 IH hm ho hs hE h10 R0 S0 hW0 E0 h ih
      go_enter Tryz.func70, Tryz.ntmps70
      go_upto_region 1 with (fail)
      rw [← HW0.out]
      go_wp2_with (first
        | (go_at_call 108; ((with_reducible refine C.mono ?_); rintro e w3 ⟨rfl, h3⟩))
        | ((with_reducible show wpList _ _ _ (⟨some 32, .load _ (.tmp 3), _, _, _, _⟩ :: _) _ _); refine wpList_load_row rfl 63 _ rfl w.heap.size rfl 63 _ (0, 0) _ HR.out Tryz.underlying63 rfl HIF.out ?_))
      go_end0
      rw [hp.out]
      exact ⟨rfl, HS.out.trans h3⟩
    · have hk := (may_word hm h3 h4 h5 h6).1
      have hp : Hid (psJ (.mk k t items keys) = [wordOf k]) := Lib.hid (by rw [psJ, if_neg h3, if_neg h4, if_neg h5, if_neg h6])
      obtain ⟨i, hi, rfl⟩ : ∃ i : Nat, i < 3 ∧ k = (i : Int) := ⟨k.toNat, by omega, by omega⟩
      have gw := E0.words i hi
      have C := CP (wordOf (i : Int)) (Nat.le_trans (wordOf_le _) (by decide))
      generalize wordOf (i : Int) = wd at *
      have i3 : (i : Int) < 3 := by omega
      clear CP hI hK hH hH0 H0 IH hm ho hs hE h10 R0 S0 hW0 E0 h ih h3 h4 h5 h6 hk
      have n3 : ((i : Int) == 3) = false := by rw [beq_eq_false_iff_ne]; omega
      have n4 : ((i : Int) == 4) = false := by rw [beq_eq_false_iff_ne]; omega
      have n5 : ((i : Int) == 5) = false := by rw [beq_eq_false_iff_ne]; omega
      have n6 : ((i : Int) == 6) = false := by rw [beq_eq_false_iff_ne]; omega
      clear hi
      go_enter Tryz.func70, Tryz.ntmps70
      go_upto_region 1 with (fail)
      rw [← HW0.out]
      go_wp2_with (go_at_call 106; ((with_reducible refine C.mono ?_); rintro e w3 ⟨rfl, h3⟩))
      go_end0
      rw [hp.out]
      exact ⟨rfl, HS.out.trans h3⟩
end Go.Proofs.YtnkencdibniagaaGreatDoor

