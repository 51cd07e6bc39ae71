/- Merged: Bld, TtA. -/
import Derived.Test.YtbjgmkjinnbokaaGreatDoorM04
import Derived.Great.BuildSlice
import Derived.Test.YtbjgmkjinnbokaaGreatDoorM03
/- Generic: a slice literal of one row. -/
namespace Go.Proofs.YtbjgmkjinnbokaaGreatDoor
open Go.RowKit

theorem foldl_set : ∀ (l : List Value) (k : Nat) (base : Array Value), k + l.length ≤ base.size →
    ((l.zipIdx k).foldl (fun (a : Array Value) (p : Value × Nat) => a.setIfInBounds (0 + p.2) p.1) base).size = base.size ∧
    ∀ i, ((l.zipIdx k).foldl (fun (a : Array Value) (p : Value × Nat) => a.setIfInBounds (0 + p.2) p.1) base)[i]? = if k ≤ i ∧ i < k + l.length then l[i - k]? else base[i]?
  | [], k, base, _ => by
    refine ⟨rfl, fun i => ?_⟩
    rw [if_neg (by rw [List.length_nil]; omega)]
    rfl
  | c :: l, k, base, h => by
    rw [List.length_cons] at h
    have ih := foldl_set l (k + 1) (base.setIfInBounds (0 + k) c) (by rw [Array.size_setIfInBounds]; omega)
    rw [List.zipIdx_cons, List.foldl_cons]
    refine ⟨ih.1.trans (Array.size_setIfInBounds), fun i => ?_⟩
    rw [ih.2 i, List.length_cons]
    by_cases h1 : k + 1 ≤ i ∧ i < k + 1 + l.length
    · rw [if_pos h1, if_pos (by omega), show i - k = (i - (k + 1)) + 1 by omega, List.getElem?_cons_succ]
    · rw [if_neg h1]
      by_cases h2 : i = k
      · subst h2
        rw [if_pos (by omega), Nat.sub_self, List.getElem?_cons_zero, Nat.zero_add, Array.getElem?_setIfInBounds_self_of_lt (by omega)]
      · rw [if_neg (by omega), Nat.zero_add, Array.getElem?_setIfInBounds_ne (by omega)]
theorem fill_whole (cs base : Array Value) (h : base.size = cs.size) : cs.zipIdx.foldl (fun (a : Array Value) (p : Value × Nat) => a.setIfInBounds (0 + p.2) p.1) base = cs := by
  have h1 := foldl_set cs.toList 0 base (by simp [h])
  have e : cs.zipIdx.foldl (fun (a : Array Value) (p : Value × Nat) => a.setIfInBounds (0 + p.2) p.1) base = (cs.toList.zipIdx 0).foldl (fun (a : Array Value) (p : Value × Nat) => a.setIfInBounds (0 + p.2) p.1) base := by
    rw [← Array.foldl_toList, Array.toList_zipIdx]
  rw [e]
  apply Array.ext_getElem?
  intro i
  rw [h1.2 i]
  by_cases hi : i < cs.size
  · rw [if_pos (by simp; omega), Nat.sub_zero, Array.getElem?_toList]
  · rw [if_neg (by simp; omega), Array.getElem?_eq_none (by omega), Array.getElem?_eq_none (by omega)]
theorem wpList_oneR {P : Program} {ops : Array Oper} {rest : List Oper} {o : Oper} {a : Act} {w : World} {Q : Exit → Act → World → Prop} (hg : o.guard = none) (t e : TypeId) (n : Nat) (x : Operand) (ho : o.op = .buildSlice t 1 #[(0, x)])
    (cells : Array Value) (hx : a.eval x = .agg cells) (ie : TypeInfo) (z : Value) (hu : P.underlying t = some (.slice e)) (hie : P.info? e = some ie) (hz : ie.zero = some z) (hs : ie.size = n) (hn : cells.size = n) (hpos : 0 < n) (hsm : n ≤ 1000)
    (h : wpList P ops Q rest (a.put o.dst (.slice (some ⟨w.heap.size, 0, none⟩) 1 1)) (w.alloc (.cells cells e))) : wpList P ops Q (o :: rest) a w := by
  refine wpList_buildSlice hg t e 1 _ ho cells ie z hu hie hz (by omega) (by omega) ?_ h
  have e1 : (Array.map (fun (x : Nat × Operand) => (x.1, a.eval x.2)) #[(0, x)]).toList = [(0, .agg cells)] := by
    simp [hx]
  show Instr.fill _ _ (Array.map (fun (x : Nat × Operand) => (x.1, a.eval x.2)) #[(0, x)]).toList = some cells
  rw [e1]
  have hb : ((Array.range (1 * ie.size)).map (z.cells[· % z.cells.size]!)).size = cells.size := by simp [hs, hn]
  have hv : (Value.agg cells).cells = cells := rfl
  unfold Instr.fill
  simp only [Nat.zero_mul, hv]
  rw [if_neg (by simp [hs, hn])]
  unfold Instr.fill
  exact congrArg some (fill_whole cells _ hb)
end Go.Proofs.YtbjgmkjinnbokaaGreatDoor

/- Layer 16: nodes and entries in memory. -/
namespace Go.Proofs.YtbjgmkjinnbokaaGreatDoor
open Go.RowKit

theorem add_blk (a : Addr) (i : Nat) : (a.add i).block = a.block := by unfold Addr.add; split <;> rfl
theorem add_add (g i j : Nat) : ((⟨g, 0, none⟩ : Addr).add i).add j = ⟨g, i + j, none⟩ := by
  unfold Addr.add
  by_cases h1 : i = 0 <;> by_cases h2 : j = 0 <;> simp [h1, h2]
theorem cell_far {B : Nat} {w w' : World} (hb : Below B w w') {a : Addr} (h : a.block < B) : w'.cell? a = w.cell? a := World.cell?_of_block (hb.block _ h)
theorem run_loadVar_at (w : World) (a : Addr) (ty : TypeId) (cs : List Value) (d : TypeDesc) (hc : ∀ j v, cs[j]? = some v → w.cell? (a.add j) = some v)
    (hu : Tryz.prog.underlying ty = some d) (hd : d.isRow = true) (hi : (Tryz.prog.info? ty).map (·.size) = some cs.length) :
    (loadVar ty a).run Tryz.prog w = .ok (.agg cs.toArray) w := by
  have hl := run_loadCells_list (P := Tryz.prog) w a cs hc
  cases hq : Tryz.prog.info? ty with
  | none => simp [hq] at hi
  | some i =>
    have hs : i.size = cs.length := by simpa [hq] using hi
    have hagg : (isAgg ty).run Tryz.prog w = .ok true w := by
      unfold isAgg
      rw [Sem.run_bind, run_underlying hu w]
      cases d <;> simp_all
    simp [loadVar, Sem.run_bind, hagg, sizeOf, typeInfo, hq, hs, hl]
theorem wpList_load_at {ops : Array Oper} {rest : List Oper} {op : Oper} {a : Act} {w : World} {Q : Exit → Act → World → Prop} (hw : Region.wanted op (yielded ops a.tmps) = true) (ty : TypeId) (x : Operand) (ho : op.op = .load ty x)
    (p : Addr) (hx : a.eval x = .pointer (some p)) (cs : List Value) (d : TypeDesc) (hc : ∀ j v, cs[j]? = some v → w.cell? (p.add j) = some v)
    (hu : Tryz.prog.underlying ty = some d) (hd : d.isRow = true) (hi : (Tryz.prog.info? ty).map (·.size) = some cs.length)
    (h : wpList Tryz.prog ops Q rest (a.put op.dst (.agg cs.toArray)) w) : wpList Tryz.prog ops Q (op :: rest) a w := by
  rw [wpList, if_pos hw]
  refine .inl ?_
  unfold Oper.wp execOp
  simp only [ho, hx, Instr.loadAt, Instr.sureAddr, Sem.run_bind, Sem.run_pure, Result.andThen_ok, run_loadVar_at w p ty cs d hc hu hd hi]
  exact h

/-! ### A node -/
def ndV (n : Nd) : List Value := [.string (str n.path), .int .i64 n.kind, .int .i64 n.mode, .string (str n.data)]
def ndA (n : Nd) : Array Value := #[.string (str n.path), .int .i64 n.kind, .int .i64 n.mode, .string (str n.data)]
theorem ndV_arr (x : Nd) : (ndV x).toArray = ndA x := rfl
theorem ndA_one (x : Nd) : (ndA x).all (·.oneCell') = true := by simp [Value.oneCell', ndA]
theorem ndV_one (x : Nd) : ∀ u ∈ ndV x, u.oneCell' = true := by
  intro u hu
  unfold ndV at hu
  simp only [List.mem_cons, List.not_mem_nil, or_false] at hu
  rcases hu with rfl | rfl | rfl | rfl <;> rfl
def rowN (l : List Nd) : List Value := l.flatMap ndV
theorem rowN_app (a b : List Nd) : rowN (a ++ b) = rowN a ++ rowN b := by simp [rowN]
theorem rowN_len (l : List Nd) : (rowN l).length = l.length * 4 := by
  induction l with
  | nil => rfl
  | cons x r ih =>
    have : rowN (x :: r) = ndV x ++ rowN r := rfl
    rw [this, List.length_append, ih, List.length_cons, show (ndV x).length = 4 from rfl]
    omega
theorem info_nd : (Tryz.prog.info? 41).map (fun i => (i.zero, i.size, i.bytes)) = some (some (.agg #[.string ⟨#[]⟩, .int .i64 0, .int .i64 0, .string ⟨#[]⟩]), 4, 48) := by kernel_rfl
theorem info_nd4 : (Tryz.prog.info? 41).map (·.size) = some 4 := by kernel_rfl
/-- Nodes in a slice, wherever it came from. -/
def NodesAt (w : World) (ad : Option Addr) (l : List Nd) : Prop := ∀ i x, l[i]? = some x → ∃ a, ad = some a ∧ a.block < w.heap.size ∧ ∀ j u, (ndV x)[j]? = some u → w.cell? ((a.add (i * 4)).add j) = some u
theorem NodesAt.far {B : Nat} {w w' : World} {ad : Option Addr} {l : List Nd} (h : NodesAt w ad l) (hb : Below B w w') (hB : w.heap.size ≤ B) : NodesAt w' ad l := fun i x hx => by
  obtain ⟨a, ha, hlt, hc⟩ := h i x hx
  refine ⟨a, ha, Nat.lt_of_lt_of_le hlt hb.size, fun j u hu => ?_⟩
  rw [cell_far hb (by rw [add_blk, add_blk]; omega)]
  exact hc j u hu
theorem NodesAt.below {w w' : World} {ad : Option Addr} {l : List Nd} (h : NodesAt w ad l) (hb : Below w.heap.size w w') : NodesAt w' ad l := h.far hb (Nat.le_refl _)
theorem NodesAt.take {w : World} {ad : Option Addr} {l : List Nd} (h : NodesAt w ad l) (k : Nat) : NodesAt w ad (l.take k) := fun i x hx => by
  rw [List.getElem?_take] at hx
  split at hx
  · exact h i x hx
  · cases hx
theorem NodesAt.nil (w : World) (ad : Option Addr) : NodesAt w ad [] := fun i x hx => by simp at hx
/-- Nodes in a row of the call's own. -/
def OwnsN (w : World) (base : Nat) (v : Value) (l : List Nd) : Prop := w.ownsRow base 41 4 v l.length (rowN l)
theorem OwnsN.nodes {w : World} {base : Nat} {a : Option Addr} {n c : Nat} {l : List Nd} (h : OwnsN w base (.slice a n c) l) : NodesAt w a l := fun i x hx => by
  have hp : 0 < l.length := by have := (List.getElem?_eq_some_iff.1 hx).1; omega
  obtain ⟨g, c', hv⟩ := owns_some h hp
  simp only [Value.slice.injEq] at hv
  obtain ⟨rfl, rfl, _⟩ := hv
  refine ⟨⟨g, 0, none⟩, rfl, (World.ownsRow.lt h g rfl).2, fun j u hu => ?_⟩
  have hi : i < l.length := (List.getElem?_eq_some_iff.1 hx).1
  have hj : j < 4 := (List.getElem?_eq_some_iff.1 hu).1
  have hrow : (rowN l)[i * 4 + j]? = some u := by
    have : rowN l = rowN (l.take i) ++ (ndV x ++ rowN (l.drop (i + 1))) := by
      conv => lhs; rw [← List.take_append_drop i l, List.drop_eq_getElem_cons hi]
      rw [rowN_app]
      have hxe : l[i] = x := by rw [List.getElem?_eq_getElem hi] at hx; exact Option.some.inj hx
      rw [hxe]
      simp [rowN]
    have hl : (rowN (l.take i)).length = i * 4 := by rw [rowN_len, List.length_take]; omega
    rw [this, List.getElem?_append_right (by omega), hl, Nat.add_sub_cancel_left, List.getElem?_append_left (by exact hj)]
    exact hu
  have h2 : w.ownsRow base 41 4 (.slice (some ⟨g, 0, none⟩) l.length c) l.length (rowN l) := h
  rw [add_add]
  exact (World.ownsRow.cellAt h2 _ (by omega)).trans hrow
theorem OwnsN.form {w : World} {base : Nat} {v : Value} {l : List Nd} (h : OwnsN w base v l) : ∃ a cap, v = .slice a l.length cap := owns_form h
/-! ### An entry -/
def enV (x : En) : List Value := [.int .i64 x.kind, .string (str x.name), .string (str x.to), .int .i64 x.mode, .string (str x.data)]
def enA (x : En) : Array Value := #[.int .i64 x.kind, .string (str x.name), .string (str x.to), .int .i64 x.mode, .string (str x.data)]
theorem enV_arr (x : En) : (enV x).toArray = enA x := rfl
theorem enA_one (x : En) : (enA x).all (·.oneCell') = true := by simp [Value.oneCell', enA]
theorem info_en5 : (Tryz.prog.info? 38).map (·.size) = some 5 := by kernel_rfl
def EnsAt (w : World) (ad : Option Addr) (l : List En) : Prop := ∀ i x, l[i]? = some x → ∃ a, ad = some a ∧ a.block < w.heap.size ∧ ∀ j u, (enV x)[j]? = some u → w.cell? ((a.add (i * 5)).add j) = some u
theorem EnsAt.far {B : Nat} {w w' : World} {ad : Option Addr} {l : List En} (h : EnsAt w ad l) (hb : Below B w w') (hB : w.heap.size ≤ B) : EnsAt w' ad l := fun i x hx => by
  obtain ⟨a, ha, hlt, hc⟩ := h i x hx
  refine ⟨a, ha, Nat.lt_of_lt_of_le hlt hb.size, fun j u hu => ?_⟩
  rw [cell_far hb (by rw [add_blk, add_blk]; omega)]
  exact hc j u hu
theorem EnsAt.below {w w' : World} {ad : Option Addr} {l : List En} (h : EnsAt w ad l) (hb : Below w.heap.size w w') : EnsAt w' ad l := h.far hb (Nat.le_refl _)
theorem EnsAt.nil (w : World) (ad : Option Addr) : EnsAt w ad [] := fun i x hx => by simp at hx
/-! ### A place -/
def plA (p : Pl) : Array Value := #[.string (str p.nd.path), .int .i64 p.nd.kind, .int .i64 p.nd.mode, .string (str p.nd.data), .int .i64 p.lay]
def plV (p : Pl) : List Value := [.string (str p.nd.path), .int .i64 p.nd.kind, .int .i64 p.nd.mode, .string (str p.nd.data), .int .i64 p.lay]
theorem plA_one (x : Pl) : (plA x).all (·.oneCell') = true := by simp [Value.oneCell', plA]
theorem info_pl5 : (Tryz.prog.info? 64).map (·.size) = some 5 := by kernel_rfl

end Go.Proofs.YtbjgmkjinnbokaaGreatDoor
#print axioms Go.Proofs.YtbjgmkjinnbokaaGreatDoor.OwnsN.nodes

