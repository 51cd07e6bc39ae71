/- Layer 11: values in memory, opened; a part that is loaded. -/
import Derived.Test.YtcepemgalammhaaGreatDoorJuF
import Derived.Test.YtcepemgalammhaaGreatDoorJtQ
namespace Go.Proofs.YtcepemgalammhaaGreatDoor
open Go.RowKit

theorem add_add (a : Addr) (i j : Nat) : (a.add i).add j = a.add (i + j) := by
  unfold Addr.add
  by_cases h : i = 0
  · subst h; simp
  · by_cases h2 : j = 0
    · subst h2; simp
    · rw [if_neg h, if_neg h2, if_neg (by omega)]
      simp [Nat.add_assoc]
theorem run_loadVar_at (w : World) (a : Addr) (ty : TypeId) (cs : List Value) (d : TypeDesc) (hc : ∀ j v, cs[j]? = some v → w.cell? (a.add j) = some v)
    (hu : Tryz.prog.underlying ty = some d) (hd : d.isRow = true) (hi : (Tryz.prog.info? ty).map (·.size) = some cs.length) :
    (loadVar ty a).run Tryz.prog w = .ok (.agg cs.toArray) w := by
  have hl := run_loadCells_list (P := Tryz.prog) w a cs hc
  cases hq : Tryz.prog.info? ty with
  | none => simp [hq] at hi
  | some i =>
    have hs : i.size = cs.length := by simpa [hq] using hi
    have hagg : (isAgg ty).run Tryz.prog w = .ok true w := by
      unfold isAgg
      rw [Sem.run_bind, run_underlying hu w]
      cases d <;> simp_all
    simp [loadVar, Sem.run_bind, hagg, sizeOf, typeInfo, hq, hs, hl]
theorem wpList_load_at {ops : Array Oper} {rest : List Oper} {op : Oper} {a : Act} {w : World} {Q : Exit → Act → World → Prop} (hw : Region.wanted op (yielded ops a.tmps) = true) (ty : TypeId) (x : Operand) (ho : op.op = .load ty x)
    (p : Addr) (hx : a.eval x = .pointer (some p)) (cs : List Value) (d : TypeDesc) (hc : ∀ j v, cs[j]? = some v → w.cell? (p.add j) = some v)
    (hu : Tryz.prog.underlying ty = some d) (hd : d.isRow = true) (hi : (Tryz.prog.info? ty).map (·.size) = some cs.length)
    (h : wpList Tryz.prog ops Q rest (a.put op.dst (.agg cs.toArray)) w) : wpList Tryz.prog ops Q (op :: rest) a w := by
  rw [wpList, if_pos hw]
  refine .inl ?_
  unfold Oper.wp execOp
  simp only [ho, hx, Instr.loadAt, Instr.sureAddr, Sem.run_bind, Sem.run_pure, Result.andThen_ok, run_loadVar_at w p ty cs d hc hu hd hi]
  exact h
theorem HoldsR.get {w : World} {F : Nat → Prop} {ad : Addr} : ∀ (l : List JV) (j i : Nat) (x : JV), HoldsR w F l ad j → l[i]? = some x →
    ∃ a b c d, F ad.block ∧ w.cell? (ad.add (4 * (j + i))) = some a ∧ w.cell? (ad.add (4 * (j + i) + 1)) = some b ∧ w.cell? (ad.add (4 * (j + i) + 2)) = some c ∧ w.cell? (ad.add (4 * (j + i) + 3)) = some d ∧ HoldsC w F x a b c d
  | [], j, i, x, _, hx => by simp at hx
  | y :: l, j, 0, x, h, hx => by
    obtain rfl : y = x := by simpa using hx
    rw [HoldsR] at h
    obtain ⟨⟨a, b, c, d, h1⟩, _⟩ := h
    exact ⟨a, b, c, d, h1⟩
  | y :: l, j, i + 1, x, h, hx => by
    rw [HoldsR] at h
    have := HoldsR.get l (j + 1) i x h.2 (by simpa using hx)
    rw [show j + 1 + i = j + (i + 1) by omega] at this
    exact this
/-- The four cells of an item, as a load asks for them. -/
def at4 (w : World) (p : Addr) (a b c d : Value) : Prop := ∀ j v, [a, b, c, d][j]? = some v → w.cell? (p.add j) = some v
/-- A value's cells, opened. -/
theorem HoldsC.opens {w : World} {F : Nat → Prop} {k : Int} {t : Bs} {items : List JV} {keys : List Bs} {a b c d : Value} (h : HoldsC w F (.mk k t items keys) a b c d) :
    a = .int .i64 k ∧ b = .string (str t) ∧ t.length ≤ 281474976710656 ∧
    (∃ x1 c1, c = .slice x1 items.length c1 ∧ ∀ i x, items[i]? = some x → ∃ ad a' b' c' d', x1 = some ad ∧ F ad.block ∧ at4 w (ad.add (i * 4)) a' b' c' d' ∧ HoldsC w F x a' b' c' d') ∧
    (∃ x2 c2, d = .slice x2 keys.length c2 ∧ ∀ i, i < keys.length → ∃ ad, x2 = some ad ∧ F ad.block ∧ w.cell? (ad.add i) = some (.string (str (keys.getD i [])))) := by
  rw [HoldsC] at h
  obtain ⟨h1, h2, h3, h4, h5⟩ := h
  refine ⟨h1, h2, h3, ?_, ?_⟩
  · rcases h5 with ⟨h5, h6⟩ | ⟨ad, cap, h5, h6⟩
    · subst h6
      exact ⟨none, 0, h5, fun i x hx => by simp at hx⟩
    · refine ⟨some ad, cap, h5, fun i x hx => ?_⟩
      obtain ⟨a', b', c', d', g0, g1, g2, g3, g4, g5⟩ := HoldsR.get items 0 i x h6 hx
      rw [Nat.zero_add] at g1 g2 g3 g4
      refine ⟨ad, a', b', c', d', rfl, g0, fun j v hj => ?_, g5⟩
      rw [add_add, Nat.mul_comm i 4]
      match j, hj with
      | 0, hj => simp at hj; subst hj; exact g1
      | 1, hj => simp at hj; subst hj; exact g2
      | 2, hj => simp at hj; subst hj; exact g3
      | 3, hj => simp at hj; subst hj; exact g4
  · rcases h4 with ⟨h4, h6⟩ | ⟨ad, cap, h4, h6⟩
    · subst h6
      exact ⟨none, 0, h4, fun i hi => by simp at hi⟩
    · exact ⟨some ad, cap, h4, fun i hi => ⟨ad, rfl, (h6 i hi).1, (h6 i hi).2⟩⟩
theorem at4.chg {s : Nat → Prop} {w w' : World} {p : Addr} {a b c d : Value} (h : at4 w p a b c d) (hc : Chg s w w') (hs : ¬ s p.block) : at4 w' p a b c d := fun j v hj => cell_chg hc (h j v hj) (by rw [add_block]; exact hs)
/-- Memory below B stands. -/
theorem chg_of_below {B : Nat} {w w' : World} (h : Below B w w') : Chg (fun k => B ≤ k) w w' := ⟨h.os, h.tape, h.output, h.size, fun k _ hk => h.block k (by omega)⟩
theorem HoldsC.far {B : Nat} {w w' : World} {v : JV} {a b c d : Value} (h : HoldsC w (fun k => k < B) v a b c d) (hb : Below B w w') : HoldsC w' (fun k => k < B) v a b c d :=
  HoldsC.chg (chg_of_below hb) (fun k hk hs => by omega) _ _ _ _ _ h
theorem Env.far {B : Nat} {w w' : World} (h : Env w) (hb : Below B w w') (hB : 10 ≤ B) : Env w' := h.chg (chg_of_below hb) (fun k hk hs => by omega)
end Go.Proofs.YtcepemgalammhaaGreatDoor
