/- Layer 4: Copy; what a write does to a row; Write. -/
import Derived.Test.YtemnfnmkhfgopaaDoorSbI
import Derived.Laws.CopyOwn
namespace Go.Proofs.YtemnfnmkhfgopaaDoor
open Go.RowKit

/-- A hasher that is none. -/
def hzero : Array Value := (.bool false :: (List.replicate 8 (u32V 0) ++ (List.replicate 64 (byteV 0) ++ [.int .i64 0]))).toArray
theorem hzero_size : hzero.size = 74 := by simp [hzero]
theorem hzero_run : ∀ w, (zeroValue 44).run Tryd.prog w = .ok (.agg hzero) w := (zero_of_info (P := Tryd.prog) (t := 44) (v := .agg hzero) (n := 74) (by kernel_rfl)).1
theorem sha_run_copy_str {P : Program} (w : World) (dT sT ty elem : TypeId) (g o dLen dCap : Nat) (S : ByteArray) (cur : Array Value) (t : TypeId) (cs : List UInt8)
    (hu : P.underlying dT = some (.slice elem)) (hs : (P.info? elem).map (·.size) = some 1) (hg : rowC w g cur t) (hcs : cs = S.data.toList.take (Nat.min S.size dLen)) (hfit : o + cs.length ≤ cur.size) :
    (Builtin.copy_ #[dT, sT] ty #[.slice (some ⟨g, o, none⟩) dLen dCap, .string S]).run P w =
      .ok (goInt cs.length) (w.setRow g (cur.toList.take o ++ cs.map byteV ++ cur.toList.drop (o + (cs.map byteV).length)).toArray) := by
  have hst := run_storeCells_at P g o t (cs.map byteV) 0 cur w hg (by simpa using hfit) (fun v hv => by
    obtain ⟨x, _, rfl⟩ := List.mem_map.1 hv
    rfl)
  have hl : cs.length = Nat.min S.size dLen := by
    rw [hcs, List.length_take]
    have : S.data.toList.length = S.size := by simp
    rw [this]
    exact Nat.min_eq_left (Nat.min_le_left _ _)
  have hcs2 : cs = S.data.toList.take cs.length := by rw [hl]; exact hcs
  have hfc : (Builtin.firstCells 1 cs.length (.string S)).run P w = .ok (cs.map byteV).toArray w := by
    have e : ((S.extract 0 (cs.length * 1)).data).toList = cs := by
      rw [Nat.mul_one, ByteArray.data_extract, Array.toList_extract, List.extract_eq_take_drop, List.drop_zero, Nat.sub_zero]
      exact hcs2.symm
    have e2 : (S.extract 0 cs.length).data = cs.toArray := by
      rw [Nat.mul_one] at e
      have e3 := congrArg List.toArray e
      rwa [Array.toArray_toList] at e3
    simp only [Builtin.firstCells, Sem.run_pure]
    rw [e2, List.map_toArray]
    rfl
  cases hq : P.info? elem with
  | none => simp [hq] at hs
  | some i =>
    have hi : i.size = 1 := by simpa [hq] using hs
    rw [Nat.add_zero] at hst
    simp [Builtin.copy_, run_underlying hu, Builtin.lenOf, sizeOf, typeInfo, hq, hi, ← hl, hfc, hst]
theorem sha_wpList_copy_str {P : Program} {w : World} {ops : Array Oper} {rest : List Oper} {o : Oper} {a : Act} {Q : Exit → Act → World → Prop} (hgd : o.guard = none) (d s : Operand) (dT sT : TypeId)
    (ho : o.op = .call { callee := .builtin .copy, args := #[d, s], argTypes := #[dT, sT] }) (elem : TypeId) (hu : P.underlying dT = some (.slice elem)) (hsz : (P.info? elem).map (·.size) = some 1)
    (g off dLen dCap : Nat) (S : ByteArray) (hd : a.eval d = .slice (some ⟨g, off, none⟩) dLen dCap) (hs : a.eval s = .string S) (cur R : Array Value) (t : TypeId) (hg : rowC w g cur t) (cs : List UInt8)
    (hcs : cs = S.data.toList.take (Nat.min S.size dLen)) (hfit : off + cs.length ≤ cur.size) (hR : (cur.toList.take off ++ cs.map byteV ++ cur.toList.drop (off + (cs.map byteV).length)).toArray = R)
    (h : wpList P ops Q rest (a.put o.dst (goInt cs.length)) (w.setRow g R)) : wpList P ops Q (o :: rest) a w := by
  refine wpList_plain hgd fun K hK => ?_
  have hrun := sha_run_copy_str (P := P) w dT sT o.type elem g off dLen dCap S cur t cs hu hsz hg hcs hfit
  rw [hR] at hrun
  unfold Oper.wp
  simp [execOp, ho, resolve, invoke, builtin, hd, hs, hrun, Result.andThen]
  exact hK _ _ h
/-- An array out of the midst of a row, in a region that draws its order. -/
theorem wpStill_load_mid {P : Program} {w : World} {ops : Array Oper} {rest : List Oper} {o : Oper} {a : Act} {Q : Act → Prop} (hw : Region.wanted o (yielded ops a.tmps) = true) (ty : TypeId) (x : Operand) (ho : o.op = .load ty x)
    (b off : Nat) (hx : a.eval x = .pointer (some ⟨b, off, none⟩)) (cs : List Value) (d : TypeDesc) (hc : w.rangeAt b off cs)
    (hu : P.underlying ty = some d) (hd : d.isRow = true) (hi : (P.info? ty).map (·.size) = some cs.length)
    (h : wpStill P ops w Q rest (a.put o.dst (.agg cs.toArray))) : wpStill P ops w Q (o :: rest) a := by
  refine wpStill_step fun K hK => ?_
  rw [if_pos hw]
  unfold Oper.still execOp
  simp only [ho, hx, Instr.loadAt, Instr.sureAddr, Sem.run_bind, Sem.run_pure, Result.andThen_ok, run_loadVar_mid w b off ty cs d hc hu hd hi]
  exact ⟨rfl, hK _ h⟩
/-- An array into the midst of a row. -/
theorem wp_store_seg {P : Program} {w : World} {o : Oper} {a : Act} {K : Act → World → Prop} {Q : Exit → Act → World → Prop} (ty : TypeId) (x y : Operand) (ho : o.op = .store ty x y)
    (g off : Nat) (cells : Array Value) (hx : a.eval x = .pointer (some ⟨g, off, none⟩)) (hy : a.eval y = .agg cells) (t : TypeId) (cur R : Array Value) (hg : rowC w g cur t)
    (hi : (P.info? ty).map (·.size) = some cells.size) (hfit : off + cells.size ≤ cur.size) (h1 : cells.all (·.oneCell') = true)
    (hR : (cur.toList.take off ++ cells.toList ++ cur.toList.drop (off + cells.toList.length)).toArray = R)
    (h : K (a.put o.dst undef) (w.setRow g R)) : o.wp P a w K Q := by
  have hst := run_storeCells_at P g off t cells.toList 0 cur w hg (by simpa using hfit) (fun v hv => (Array.all_eq_true_iff_forall_mem.1 h1) v (by simpa using hv))
  rw [Nat.add_zero, hR] at hst
  have hsv : (storeVar ty ⟨g, off, none⟩ (.agg cells)).run P w = .ok () (w.setRow g R) := by
    cases hq : P.info? ty with
    | none => simp [hq] at hi
    | some i =>
      have hs : cells.size = i.size := by simp [hq] at hi; omega
      simp [storeVar, sizeOf, typeInfo, hq, Value.cells, hs, hst]
  unfold Oper.wp execOp
  simp only [ho, hx, hy, Instr.storeAt, Instr.sureAddr, Sem.run_bind, Sem.run_pure, Result.andThen_ok, hsv]
  exact h
end Go.Proofs.YtemnfnmkhfgopaaDoor
