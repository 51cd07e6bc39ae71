/- Merged: TtA, PtL. -/
import Derived.Test.YtoallfcpnbhhiaaGreatDoorM05
import Derived.Test.YtoallfcpnbhhiaaGreatDoorM06
import Derived.Test.YtoallfcpnbhhiaaGreatDoorM07
import Derived.RangeFuncNested
import Derived.RangeFuncBound
import Derived.RangeFuncCalls
import Derived.RangeFuncLeaves
import Derived.RangeFuncFrom
import Derived.Shelf.Abstract
import Derived.OwnWalkIn
import Derived.TacticsInMore
import Derived.LoopNIn
import Derived.LoopIn
import Derived.Test.YtoallfcpnbhhiaaGreatDoorM04
/- Layer 16: nodes and entries in memory. -/
namespace Go.Proofs.YtoallfcpnbhhiaaGreatDoor
open Go.RowKit

theorem add_blk (a : Addr) (i : Nat) : (a.add i).block = a.block := by unfold Addr.add; split <;> rfl
theorem add_add (g i j : Nat) : ((⟨g, 0, none⟩ : Addr).add i).add j = ⟨g, i + j, none⟩ := by
  unfold Addr.add
  by_cases h1 : i = 0 <;> by_cases h2 : j = 0 <;> simp [h1, h2]
theorem cell_far {B : Nat} {w w' : World} (hb : Below B w w') {a : Addr} (h : a.block < B) : w'.cell? a = w.cell? a := World.cell?_of_block (hb.block _ h)
theorem run_loadVar_at (w : World) (a : Addr) (ty : TypeId) (cs : List Value) (d : TypeDesc) (hc : ∀ j v, cs[j]? = some v → w.cell? (a.add j) = some v)
    (hu : Tryz.prog.underlying ty = some d) (hd : d.isRow = true) (hi : (Tryz.prog.info? ty).map (·.size) = some cs.length) :
    (loadVar ty a).run Tryz.prog w = .ok (.agg cs.toArray) w := by
  have hl := run_loadCells_list (P := Tryz.prog) w a cs hc
  cases hq : Tryz.prog.info? ty with
  | none => simp [hq] at hi
  | some i =>
    have hs : i.size = cs.length := by simpa [hq] using hi
    have hagg : (isAgg ty).run Tryz.prog w = .ok true w := by
      unfold isAgg
      rw [Sem.run_bind, run_underlying hu w]
      cases d <;> simp_all
    simp [loadVar, Sem.run_bind, hagg, sizeOf, typeInfo, hq, hs, hl]
theorem wpList_load_at {ops : Array Oper} {rest : List Oper} {op : Oper} {a : Act} {w : World} {Q : Exit → Act → World → Prop} (hw : Region.wanted op (yielded ops a.tmps) = true) (ty : TypeId) (x : Operand) (ho : op.op = .load ty x)
    (p : Addr) (hx : a.eval x = .pointer (some p)) (cs : List Value) (d : TypeDesc) (hc : ∀ j v, cs[j]? = some v → w.cell? (p.add j) = some v)
    (hu : Tryz.prog.underlying ty = some d) (hd : d.isRow = true) (hi : (Tryz.prog.info? ty).map (·.size) = some cs.length)
    (h : wpList Tryz.prog ops Q rest (a.put op.dst (.agg cs.toArray)) w) : wpList Tryz.prog ops Q (op :: rest) a w := by
  rw [wpList, if_pos hw]
  refine .inl ?_
  unfold Oper.wp execOp
  simp only [ho, hx, Instr.loadAt, Instr.sureAddr, Sem.run_bind, Sem.run_pure, Result.andThen_ok, run_loadVar_at w p ty cs d hc hu hd hi]
  exact h

/-! ### A node -/
def ndV (n : Nd) : List Value := [.string (str n.path), .int .i64 n.kind, .int .i64 n.mode, .string (str n.data)]
def ndA (n : Nd) : Array Value := #[.string (str n.path), .int .i64 n.kind, .int .i64 n.mode, .string (str n.data)]
theorem ndV_arr (x : Nd) : (ndV x).toArray = ndA x := rfl
theorem ndA_one (x : Nd) : (ndA x).all (·.oneCell') = true := by simp [Value.oneCell', ndA]
theorem ndV_one (x : Nd) : ∀ u ∈ ndV x, u.oneCell' = true := by
  intro u hu
  unfold ndV at hu
  simp only [List.mem_cons, List.not_mem_nil, or_false] at hu
  rcases hu with rfl | rfl | rfl | rfl <;> rfl
def rowN (l : List Nd) : List Value := l.flatMap ndV
theorem rowN_app (a b : List Nd) : rowN (a ++ b) = rowN a ++ rowN b := by simp [rowN]
theorem rowN_len (l : List Nd) : (rowN l).length = l.length * 4 := by
  induction l with
  | nil => rfl
  | cons x r ih =>
    have : rowN (x :: r) = ndV x ++ rowN r := rfl
    rw [this, List.length_append, ih, List.length_cons, show (ndV x).length = 4 from rfl]
    omega
theorem info_nd : (Tryz.prog.info? 32).map (fun i => (i.zero, i.size, i.bytes)) = some (some (.agg #[.string ⟨#[]⟩, .int .i64 0, .int .i64 0, .string ⟨#[]⟩]), 4, 48) := by kernel_rfl
theorem info_nd4 : (Tryz.prog.info? 32).map (·.size) = some 4 := by kernel_rfl
/-- Nodes in a slice, wherever it came from. -/
def NodesAt (w : World) (ad : Option Addr) (l : List Nd) : Prop := ∀ i x, l[i]? = some x → ∃ a, ad = some a ∧ a.block < w.heap.size ∧ ∀ j u, (ndV x)[j]? = some u → w.cell? ((a.add (i * 4)).add j) = some u
theorem NodesAt.far {B : Nat} {w w' : World} {ad : Option Addr} {l : List Nd} (h : NodesAt w ad l) (hb : Below B w w') (hB : w.heap.size ≤ B) : NodesAt w' ad l := fun i x hx => by
  obtain ⟨a, ha, hlt, hc⟩ := h i x hx
  refine ⟨a, ha, Nat.lt_of_lt_of_le hlt hb.size, fun j u hu => ?_⟩
  rw [cell_far hb (by rw [add_blk, add_blk]; omega)]
  exact hc j u hu
theorem NodesAt.below {w w' : World} {ad : Option Addr} {l : List Nd} (h : NodesAt w ad l) (hb : Below w.heap.size w w') : NodesAt w' ad l := h.far hb (Nat.le_refl _)
theorem NodesAt.take {w : World} {ad : Option Addr} {l : List Nd} (h : NodesAt w ad l) (k : Nat) : NodesAt w ad (l.take k) := fun i x hx => by
  rw [List.getElem?_take] at hx
  split at hx
  · exact h i x hx
  · cases hx
theorem NodesAt.nil (w : World) (ad : Option Addr) : NodesAt w ad [] := fun i x hx => by simp at hx
/-- Nodes in a row of the call's own. -/
def OwnsN (w : World) (base : Nat) (v : Value) (l : List Nd) : Prop := w.ownsRow base 32 4 v l.length (rowN l)
theorem OwnsN.nodes {w : World} {base : Nat} {a : Option Addr} {n c : Nat} {l : List Nd} (h : OwnsN w base (.slice a n c) l) : NodesAt w a l := fun i x hx => by
  have hp : 0 < l.length := by have := (List.getElem?_eq_some_iff.1 hx).1; omega
  obtain ⟨g, c', hv⟩ := owns_some h hp
  simp only [Value.slice.injEq] at hv
  obtain ⟨rfl, rfl, _⟩ := hv
  refine ⟨⟨g, 0, none⟩, rfl, (World.ownsRow.lt h g rfl).2, fun j u hu => ?_⟩
  have hi : i < l.length := (List.getElem?_eq_some_iff.1 hx).1
  have hj : j < 4 := (List.getElem?_eq_some_iff.1 hu).1
  have hrow : (rowN l)[i * 4 + j]? = some u := by
    have : rowN l = rowN (l.take i) ++ (ndV x ++ rowN (l.drop (i + 1))) := by
      conv => lhs; rw [← List.take_append_drop i l, List.drop_eq_getElem_cons hi]
      rw [rowN_app]
      have hxe : l[i] = x := by rw [List.getElem?_eq_getElem hi] at hx; exact Option.some.inj hx
      rw [hxe]
      simp [rowN]
    have hl : (rowN (l.take i)).length = i * 4 := by rw [rowN_len, List.length_take]; omega
    rw [this, List.getElem?_append_right (by omega), hl, Nat.add_sub_cancel_left, List.getElem?_append_left (by exact hj)]
    exact hu
  have h2 : w.ownsRow base 32 4 (.slice (some ⟨g, 0, none⟩) l.length c) l.length (rowN l) := h
  rw [add_add]
  exact (World.ownsRow.cellAt h2 _ (by omega)).trans hrow
theorem OwnsN.form {w : World} {base : Nat} {v : Value} {l : List Nd} (h : OwnsN w base v l) : ∃ a cap, v = .slice a l.length cap := owns_form h
/-! ### An entry -/
def enV (x : En) : List Value := [.int .i64 x.kind, .string (str x.name), .string (str x.to), .int .i64 x.mode, .string (str x.data)]
def enA (x : En) : Array Value := #[.int .i64 x.kind, .string (str x.name), .string (str x.to), .int .i64 x.mode, .string (str x.data)]
theorem enV_arr (x : En) : (enV x).toArray = enA x := rfl
theorem enA_one (x : En) : (enA x).all (·.oneCell') = true := by simp [Value.oneCell', enA]
theorem info_en5 : (Tryz.prog.info? 52).map (·.size) = some 5 := by kernel_rfl
def EnsAt (w : World) (ad : Option Addr) (l : List En) : Prop := ∀ i x, l[i]? = some x → ∃ a, ad = some a ∧ a.block < w.heap.size ∧ ∀ j u, (enV x)[j]? = some u → w.cell? ((a.add (i * 5)).add j) = some u
theorem EnsAt.far {B : Nat} {w w' : World} {ad : Option Addr} {l : List En} (h : EnsAt w ad l) (hb : Below B w w') (hB : w.heap.size ≤ B) : EnsAt w' ad l := fun i x hx => by
  obtain ⟨a, ha, hlt, hc⟩ := h i x hx
  refine ⟨a, ha, Nat.lt_of_lt_of_le hlt hb.size, fun j u hu => ?_⟩
  rw [cell_far hb (by rw [add_blk, add_blk]; omega)]
  exact hc j u hu
theorem EnsAt.below {w w' : World} {ad : Option Addr} {l : List En} (h : EnsAt w ad l) (hb : Below w.heap.size w w') : EnsAt w' ad l := h.far hb (Nat.le_refl _)
theorem EnsAt.nil (w : World) (ad : Option Addr) : EnsAt w ad [] := fun i x hx => by simp at hx
/-! ### A place -/
def plA (p : Pl) : Array Value := #[.string (str p.nd.path), .int .i64 p.nd.kind, .int .i64 p.nd.mode, .string (str p.nd.data), .int .i64 p.lay]
def plV (p : Pl) : List Value := [.string (str p.nd.path), .int .i64 p.nd.kind, .int .i64 p.nd.mode, .string (str p.nd.data), .int .i64 p.lay]
theorem plA_one (x : Pl) : (plA x).all (·.oneCell') = true := by simp [Value.oneCell', plA]
theorem info_pl5 : (Tryz.prog.info? 104).map (·.size) = some 5 := by kernel_rfl

end Go.Proofs.YtoallfcpnbhhiaaGreatDoor
#print axioms Go.Proofs.YtoallfcpnbhhiaaGreatDoor.OwnsN.nodes

/- Generic: a range over a function whose iterator keeps a text of its own in a box that was laid ahead of the loop, and stores into it between two rounds. -/
namespace Go.Proofs.YtoallfcpnbhhiaaGreatDoor
open Go.RowKit Go.Shelf

/-- What a round leaves of the iterator's boxes. -/
def KeepsIn (s : Nat → Prop) (W W' : World) : Prop := ∀ b, s b → ∀ v, W.cell? ⟨b, 0, none⟩ = some v → W.frozen? ⟨b, 0, none⟩ = false → W'.cell? ⟨b, 0, none⟩ = some v ∧ W'.frozen? ⟨b, 0, none⟩ = false
theorem KeepsIn.refl (s : Nat → Prop) (W : World) : KeepsIn s W W := fun _ _ _ h h' => ⟨h, h'⟩
theorem KeepsIn.trans {s : Nat → Prop} {W W' W'' : World} (h : KeepsIn s W W') (h' : KeepsIn s W' W'') : KeepsIn s W W'' := fun b hb v hv hf => h' b hb v (h b hb v hv hf).1 (h b hb v hv hf).2
theorem KeepsIn.put (s : Nat → Prop) (W : World) (l : Nat) (o o' : Obj) (h : W.heap[l]? = some o) (hc : o.isCells = false) : KeepsIn s W (W.putObj l o') := fun _ _ _ hv hf =>
  ⟨cell_kept hv (grownBy_putObj' _ l o') (fun r e => by cases e; exact ⟨_, h, hc⟩), (frozen_kept hv (grownBy_putObj' _ l o') (fun r e => by cases e; exact ⟨_, h, hc⟩)).trans hf⟩
theorem frozen_block {W W' : World} {p : Addr} (h : W'.heap[p.block]? = W.heap[p.block]?) : W'.frozen? p = W.frozen? p := by unfold World.frozen?; rw [h]
theorem KeepsIn.below {s : Nat → Prop} {W W' : World} (h : Below W.heap.size W W') : KeepsIn s W W' := fun b _ _ hv hf =>
  have hb := h.block b (World.block_lt_of_cell? W ⟨b, 0, none⟩ hv)
  ⟨(World.cell?_of_block hb).trans hv, (frozen_block (p := ⟨b, 0, none⟩) hb).trans hf⟩
theorem KeepsIn.setCell {s : Nat → Prop} {W : World} {p : Addr} (h : ¬ s p.block) (u : Value) : KeepsIn s W (W.setCell p u) := fun b hb _ hv hf =>
  ⟨(World.cell?_setCell_other W p ⟨b, 0, none⟩ u (fun e => h (by rw [e]; exact hb))).trans hv, by rw [World.frozen?_setCell]; exact hf⟩
/-- What lies when the loop begins may be said between two rounds. -/
structure Abode (w : World) (Bs : Nat) {β : Type} (I : β → World → Prop) : Prop where
  alloc : ∀ k W o, I k W → I k (W.alloc o)
  put : ∀ k W l o o', I k W → w.heap.size ≤ l → W.heap[l]? = some o → o.isCells = false → I k (W.putObj l o')
  own : ∀ k W v, I k W → I k (W.setCell ⟨Bs, 0, none⟩ v)
/-- AN ITERATOR OVER xs, with boxes s, that stores into the box at Bs alone. -/
def IterB (P : Program) (n gf : Nat) (lb : Array Value) (s : Nat → Prop) (Bs : Nat) (xs : List (List UInt8)) (w : World) : Prop :=
  ∀ (l : Nat) (J Jx : List (List UInt8) → World → Prop) (W : World), KeepsIn s w W → (∀ k W v, J k W → J k (W.setCell ⟨Bs, 0, none⟩ v)) →
    (∀ pre x W1, J pre W1 → pre ++ [x] <+: xs → YieldAt Fence.wide (n - 1) P l #[.string (str x)] W1 fun e W' =>
      (e = .returned (.bool true) ∧ J (pre ++ [x]) W' ∧ KeepsIn s W1 W') ∨ (e = .returned (.bool false) ∧ Jx (pre ++ [x]) W')) →
    J [] W →
    CallsIn Fence.wide n P gf (#[.func (.yield l) #[] #[]] ++ lb) W fun e W' => (∃ v, e = .returned v) ∧ (J xs W' ∨ (∃ pre, pre <+: xs ∧ Jx pre W'))
/-- How a round's body may be left. -/
def leftBy (s : Nat → Prop) (I Ix : List (List UInt8) → World → Prop) (xs : List (List UInt8)) (W : World) : Exit → Act → World → Prop
  | .normal, _, W' => KeepsOthers W W' ∧ KeepsIn s W W' ∧ I xs W'
  | .ret, _, W' => KeepsOthers W W' ∧ Ix xs W'
  | _, _, _ => False
theorem heap_own {W : World} {b k : Nat} {v : Value} {o : Obj} (h : W.heap[k]? = some o) (ho : o.isCells = false) : (W.setCell ⟨b, 0, none⟩ v).heap[k]? = some o :=
  (KeepsOthers.setCell W ⟨b, 0, none⟩ v).same k o h ho
/-- THE LAW. -/
theorem range_own {P : Program} {n : Nat} {g : Operand} {ps : Array Tmp} {assign body : Code} {Q : Exit → Act → World → Prop} {a : Act} {w : World} (h1 : 1 ≤ n)
    {gf : Nat} {lb : Array Value} (hg : a.eval g = .func (.func gf) #[] lb) (eg : ∀ args w, (callFunc gf args).run P w = .ok (.enter gf args) w)
    {s : Nat → Prop} {Bs : Nat} {xs : List (List UInt8)} (hit : IterB P (n - 1) gf lb s Bs xs w) (hps : ps.size = 1)
    (I Ix : List (List UInt8) → World → Prop) (hI : Abode w Bs I) (hIx : Abode w Bs Ix) (h0 : I [] w) (a₁ : List UInt8 → Act)
    (hassign : ∀ (l : Nat) (x : List UInt8) (W : World) (K : Act → World → Prop), K (a₁ x) W →
      assign.wpIn (Fence.wide.inRound l) (n - 1 - 1) P (Exit.then K (fun _ _ _ => False)) { tmps := (ps.zip #[.string (str x)]).foldl (fun t (p, v) => t.setIfInBounds p v) a.tmps, defers := [] } W)
    (hbody : ∀ (l : Nat) (pre : List (List UInt8)) (x : List UInt8) (W : World), I pre W → pre ++ [x] <+: xs → body.wpIn (Fence.wide.inRound l) (n - 1 - 1) P (leftBy s I Ix (pre ++ [x]) W) (a₁ x) W)
    (hdone : ∀ (D : Nat) (W : World), w.heap.size ≤ D → I xs W → W.heap[D]? = some (.deferred (some [])) → Q .normal { a with defers := { target := .collected D, args := #[] } :: a.defers } W)
    (hstop : ∀ (D : Nat) (pre : List (List UInt8)) (W : World), w.heap.size ≤ D → pre <+: xs → Ix pre W → W.heap[D]? = some (.deferred (some [])) → Code.ret.wpIn Fence.wide n P Q { a with defers := { target := .collected D, args := #[] } :: a.defers } W) :
    (Code.rangeFunc g ps assign body).wpIn Fence.wide n P Q a w := by
  refine wpIn_rangeFunc fun fn hfn => ?_
  -- the loop's record, in each of its states
  obtain ⟨R, hR⟩ : ∃ R : LoopState → Option Code → Loop, R = fun st pe => { state := st, pending := pe, fn, tmps := a.tmps, params := ps, assign, body, defers := w.heap.size } := ⟨_, rfl⟩
  obtain ⟨V, hV⟩ : ∃ V, V = (w.alloc (.deferred (some []))).alloc (.loop (R .ready none)) := ⟨_, rfl⟩
  have v0 : V.heap[w.heap.size]? = some (.deferred (some [])) := by
    rw [hV]; exact (Below.heap_alloc _ _ _ (by simp)).trans (World.alloc_heap_new w _)
  have v1 : V.heap[w.heap.size + 1]? = some (.loop (R .ready none)) := by
    rw [hV]
    have := World.alloc_heap_new (w.alloc (.deferred (some []))) (.loop (R .ready none))
    rwa [World.size_alloc] at this
  have vI : I [] V := by rw [hV]; exact hI.alloc _ _ _ (hI.alloc _ _ _ h0)
  have vK : KeepsIn s w V := by
    rw [hV]
    exact KeepsIn.below (((Below.refl _ w).alloc (Nat.le_refl _) _).alloc (by simp) _)
  refine ⟨w.heap.size + 1, [{ target := .collected w.heap.size, args := #[] }], V, { target := .fn (.func gf) lb, args := #[.func (.yield (w.heap.size + 1)) #[] #[]] }, V, gf,
    #[.func (.yield (w.heap.size + 1)) #[] #[]] ++ lb, V, ?_, ?_, fun _ _ => trivial, ?_, fun _ => h1, ?_⟩
  · rw [hV, hR]; exact run_enterLoop_outer _ _ _ _ _
  · simp only [resolve, hg]
    simp [go_sem]
  · simp [invoke, go_sem, eg]
  refine (hit (w.heap.size + 1)
    (fun pre W => I pre W ∧ W.heap[w.heap.size + 1]? = some (.loop (R .ready none)) ∧ W.heap[w.heap.size]? = some (.deferred (some [])))
    (fun pre W => Ix pre W ∧ W.heap[w.heap.size + 1]? = some (.loop (R .done (some .ret))) ∧ W.heap[w.heap.size]? = some (.deferred (some [])))
    V vK (fun k W v hs => ⟨hI.own _ _ _ hs.1, heap_own hs.2.1 rfl, heap_own hs.2.2 rfl⟩) ?_ ⟨vI, v1, v0⟩).mono ?_
  · rintro pre x W ⟨hi, hl, hk⟩ hpre
    have hlt : w.heap.size + 1 < W.heap.size := (Array.getElem?_eq_some_iff.1 hl).1
    have hy := run_yield (P := P) (args := #[.string (str x)]) hl (by rw [hR]; exact hps.symm)
    rw [hR] at hy
    refine ⟨fn, _, assign, body, hy, roundIn_of_wpIn hfn (hassign _ x W _ ⟨_, run_beginRound hl (by rw [hR]), ?_⟩)⟩
    obtain ⟨X, hX⟩ : ∃ X, X = W.putObj (w.heap.size + 1) (.loop { R .ready none with state := .busy }) := ⟨_, rfl⟩
    rw [← hX]
    have x1 : X.heap[w.heap.size + 1]? = some (.loop { R .ready none with state := .busy }) := by rw [hX]; exact World.putObj_heap_same hlt
    have x0 : X.heap[w.heap.size]? = some (.deferred (some [])) := by rw [hX]; exact (World.putObj_heap_other (by omega)).trans hk
    have xI : I pre X := by rw [hX]; exact hI.put _ _ _ _ _ hi (by omega) hl rfl
    have xK : KeepsIn s W X := by rw [hX]; exact KeepsIn.put _ _ _ _ _ hl rfl
    refine wpIn_mono (hbody _ pre x X xI hpre) ?_
    intro e a3 Y hp
    cases e with
    | normal =>
      obtain ⟨ko, kb, hi3⟩ := hp
      have y1 := ko.same _ _ x1 rfl
      have y0 := ko.same _ _ x0 rfl
      have hr := run_endRound (P := P) none y1
      rw [hR] at hr y1
      refine ⟨_, _, hr, .inl ⟨rfl, ⟨hI.put _ _ _ _ _ hi3 (by omega) y1 rfl, ?_, (World.putObj_heap_other (by omega)).trans y0⟩, (xK.trans kb).trans (KeepsIn.put _ _ _ _ _ y1 rfl)⟩⟩
      rw [hR]
      exact World.putObj_heap_same (Array.getElem?_eq_some_iff.1 y1).1
    | ret =>
      obtain ⟨ko, hi3⟩ := hp
      have y1 := ko.same _ _ x1 rfl
      have y0 := ko.same _ _ x0 rfl
      have hr := run_endRound (P := P) (some .ret) y1
      rw [hR] at hr y1
      refine ⟨_, _, hr, .inr ⟨rfl, hIx.put _ _ _ _ _ hi3 (by omega) y1 rfl, ?_, (World.putObj_heap_other (by omega)).trans y0⟩⟩
      rw [hR]
      exact World.putObj_heap_same (Array.getElem?_eq_some_iff.1 y1).1
    | exit id => exact hp.elim
    | goto t => exact hp.elim
    | panic ch => exact hp.elim
    | outgrown => exact hp.elim
  · rintro e Y ⟨⟨v, rfl⟩, (⟨hi, hl, hk⟩ | ⟨pre, hpre, hi, hl, hk⟩)⟩
    · have hr := run_endLoop (P := P) hl (by rw [hR]; simp)
      rw [hR] at hr hl
      exact ⟨none, _, hr, hdone _ _ (Nat.le_refl _) (hI.put _ _ _ _ _ hi (by omega) hl rfl) ((World.putObj_heap_other (by omega)).trans hk)⟩
    · have hr := run_endLoop (P := P) hl (by rw [hR]; simp)
      rw [hR] at hr hl
      exact ⟨some .ret, _, hr, hstop _ pre _ (Nat.le_refl _) hpre (hIx.put _ _ _ _ _ hi (by omega) hl rfl) ((World.putObj_heap_other (by omega)).trans hk)⟩
end Go.Proofs.YtoallfcpnbhhiaaGreatDoor

