/- Generic: a range over a function whose iterator keeps a text of its own in a box that was laid ahead of the loop, and stores into it between two rounds. -/
import Derived.RangeFuncNested
import Derived.RangeFuncBound
import Derived.RangeFuncCalls
import Derived.RangeFuncLeaves
import Derived.RangeFuncFrom
import Derived.Shelf.Abstract
import Derived.OwnWalkIn
import Derived.TacticsInMore
import Derived.LoopNIn
import Derived.LoopIn
import Derived.Test.YtokeiagcdahmaaaDoorPtA
namespace Go.Proofs.YtokeiagcdahmaaaDoor
open Go.RowKit Go.Shelf

/-- What a round leaves of the iterator's boxes. -/
def KeepsIn (s : Nat → Prop) (W W' : World) : Prop := ∀ b, s b → ∀ v, W.cell? ⟨b, 0, none⟩ = some v → W.frozen? ⟨b, 0, none⟩ = false → W'.cell? ⟨b, 0, none⟩ = some v ∧ W'.frozen? ⟨b, 0, none⟩ = false
theorem KeepsIn.refl (s : Nat → Prop) (W : World) : KeepsIn s W W := fun _ _ _ h h' => ⟨h, h'⟩
theorem KeepsIn.trans {s : Nat → Prop} {W W' W'' : World} (h : KeepsIn s W W') (h' : KeepsIn s W' W'') : KeepsIn s W W'' := fun b hb v hv hf => h' b hb v (h b hb v hv hf).1 (h b hb v hv hf).2
theorem KeepsIn.put (s : Nat → Prop) (W : World) (l : Nat) (o o' : Obj) (h : W.heap[l]? = some o) (hc : o.isCells = false) : KeepsIn s W (W.putObj l o') := fun _ _ _ hv hf =>
  ⟨cell_kept hv (grownBy_putObj' _ l o') (fun r e => by cases e; exact ⟨_, h, hc⟩), (frozen_kept hv (grownBy_putObj' _ l o') (fun r e => by cases e; exact ⟨_, h, hc⟩)).trans hf⟩
theorem frozen_block {W W' : World} {p : Addr} (h : W'.heap[p.block]? = W.heap[p.block]?) : W'.frozen? p = W.frozen? p := by unfold World.frozen?; rw [h]
theorem KeepsIn.below {s : Nat → Prop} {W W' : World} (h : Below W.heap.size W W') : KeepsIn s W W' := fun b _ _ hv hf =>
  have hb := h.block b (World.block_lt_of_cell? W ⟨b, 0, none⟩ hv)
  ⟨(World.cell?_of_block hb).trans hv, (frozen_block (p := ⟨b, 0, none⟩) hb).trans hf⟩
theorem KeepsIn.setCell {s : Nat → Prop} {W : World} {p : Addr} (h : ¬ s p.block) (u : Value) : KeepsIn s W (W.setCell p u) := fun b hb _ hv hf =>
  ⟨(World.cell?_setCell_other W p ⟨b, 0, none⟩ u (fun e => h (by rw [e]; exact hb))).trans hv, by rw [World.frozen?_setCell]; exact hf⟩
/-- What lies when the loop begins may be said between two rounds. -/
structure Abode (w : World) (Bs : Nat) {β : Type} (I : β → World → Prop) : Prop where
  alloc : ∀ k W o, I k W → I k (W.alloc o)
  put : ∀ k W l o o', I k W → w.heap.size ≤ l → W.heap[l]? = some o → o.isCells = false → I k (W.putObj l o')
  own : ∀ k W v, I k W → I k (W.setCell ⟨Bs, 0, none⟩ v)
/-- AN ITERATOR OVER xs, with boxes s, that stores into the box at Bs alone. -/
def IterB (P : Program) (n gf : Nat) (lb : Array Value) (s : Nat → Prop) (Bs : Nat) (xs : List (List UInt8)) (w : World) : Prop :=
  ∀ (l : Nat) (J Jx : List (List UInt8) → World → Prop) (W : World), KeepsIn s w W → (∀ k W v, J k W → J k (W.setCell ⟨Bs, 0, none⟩ v)) →
    (∀ pre x W1, J pre W1 → pre ++ [x] <+: xs → YieldAt Fence.wide (n - 1) P l #[.string (str x)] W1 fun e W' =>
      (e = .returned (.bool true) ∧ J (pre ++ [x]) W' ∧ KeepsIn s W1 W') ∨ (e = .returned (.bool false) ∧ Jx (pre ++ [x]) W')) →
    J [] W →
    CallsIn Fence.wide n P gf (#[.func (.yield l) #[] #[]] ++ lb) W fun e W' => (∃ v, e = .returned v) ∧ (J xs W' ∨ (∃ pre, pre <+: xs ∧ Jx pre W'))
/-- How a round's body may be left. -/
def leftBy (s : Nat → Prop) (I Ix : List (List UInt8) → World → Prop) (xs : List (List UInt8)) (W : World) : Exit → Act → World → Prop
  | .normal, _, W' => KeepsOthers W W' ∧ KeepsIn s W W' ∧ I xs W'
  | .ret, _, W' => KeepsOthers W W' ∧ Ix xs W'
  | _, _, _ => False
theorem heap_own {W : World} {b k : Nat} {v : Value} {o : Obj} (h : W.heap[k]? = some o) (ho : o.isCells = false) : (W.setCell ⟨b, 0, none⟩ v).heap[k]? = some o :=
  (KeepsOthers.setCell W ⟨b, 0, none⟩ v).same k o h ho
/-- THE LAW. -/
theorem range_own {P : Program} {n : Nat} {g : Operand} {ps : Array Tmp} {assign body : Code} {Q : Exit → Act → World → Prop} {a : Act} {w : World} (h1 : 1 ≤ n)
    {gf : Nat} {lb : Array Value} (hg : a.eval g = .func (.func gf) #[] lb) (eg : ∀ args w, (callFunc gf args).run P w = .ok (.enter gf args) w)
    {s : Nat → Prop} {Bs : Nat} {xs : List (List UInt8)} (hit : IterB P (n - 1) gf lb s Bs xs w) (hps : ps.size = 1)
    (I Ix : List (List UInt8) → World → Prop) (hI : Abode w Bs I) (hIx : Abode w Bs Ix) (h0 : I [] w) (a₁ : List UInt8 → Act)
    (hassign : ∀ (l : Nat) (x : List UInt8) (W : World) (K : Act → World → Prop), K (a₁ x) W →
      assign.wpIn (Fence.wide.inRound l) (n - 1 - 1) P (Exit.then K (fun _ _ _ => False)) { tmps := (ps.zip #[.string (str x)]).foldl (fun t (p, v) => t.setIfInBounds p v) a.tmps, defers := [] } W)
    (hbody : ∀ (l : Nat) (pre : List (List UInt8)) (x : List UInt8) (W : World), I pre W → pre ++ [x] <+: xs → body.wpIn (Fence.wide.inRound l) (n - 1 - 1) P (leftBy s I Ix (pre ++ [x]) W) (a₁ x) W)
    (hdone : ∀ (D : Nat) (W : World), w.heap.size ≤ D → I xs W → W.heap[D]? = some (.deferred (some [])) → Q .normal { a with defers := { target := .collected D, args := #[] } :: a.defers } W)
    (hstop : ∀ (D : Nat) (pre : List (List UInt8)) (W : World), w.heap.size ≤ D → pre <+: xs → Ix pre W → W.heap[D]? = some (.deferred (some [])) → Code.ret.wpIn Fence.wide n P Q { a with defers := { target := .collected D, args := #[] } :: a.defers } W) :
    (Code.rangeFunc g ps assign body).wpIn Fence.wide n P Q a w := by
  refine wpIn_rangeFunc fun fn hfn => ?_
  -- the loop's record, in each of its states
  obtain ⟨R, hR⟩ : ∃ R : LoopState → Option Code → Loop, R = fun st pe => { state := st, pending := pe, fn, tmps := a.tmps, params := ps, assign, body, defers := w.heap.size } := ⟨_, rfl⟩
  obtain ⟨V, hV⟩ : ∃ V, V = (w.alloc (.deferred (some []))).alloc (.loop (R .ready none)) := ⟨_, rfl⟩
  have v0 : V.heap[w.heap.size]? = some (.deferred (some [])) := by
    rw [hV]; exact (Below.heap_alloc _ _ _ (by simp)).trans (World.alloc_heap_new w _)
  have v1 : V.heap[w.heap.size + 1]? = some (.loop (R .ready none)) := by
    rw [hV]
    have := World.alloc_heap_new (w.alloc (.deferred (some []))) (.loop (R .ready none))
    rwa [World.size_alloc] at this
  have vI : I [] V := by rw [hV]; exact hI.alloc _ _ _ (hI.alloc _ _ _ h0)
  have vK : KeepsIn s w V := by
    rw [hV]
    exact KeepsIn.below (((Below.refl _ w).alloc (Nat.le_refl _) _).alloc (by simp) _)
  refine ⟨w.heap.size + 1, [{ target := .collected w.heap.size, args := #[] }], V, { target := .fn (.func gf) lb, args := #[.func (.yield (w.heap.size + 1)) #[] #[]] }, V, gf,
    #[.func (.yield (w.heap.size + 1)) #[] #[]] ++ lb, V, ?_, ?_, fun _ _ => trivial, ?_, fun _ => h1, ?_⟩
  · rw [hV, hR]; exact run_enterLoop_outer _ _ _ _ _
  · simp only [resolve, hg]
    simp [go_sem]
  · simp [invoke, go_sem, eg]
  refine (hit (w.heap.size + 1)
    (fun pre W => I pre W ∧ W.heap[w.heap.size + 1]? = some (.loop (R .ready none)) ∧ W.heap[w.heap.size]? = some (.deferred (some [])))
    (fun pre W => Ix pre W ∧ W.heap[w.heap.size + 1]? = some (.loop (R .done (some .ret))) ∧ W.heap[w.heap.size]? = some (.deferred (some [])))
    V vK (fun k W v hs => ⟨hI.own _ _ _ hs.1, heap_own hs.2.1 rfl, heap_own hs.2.2 rfl⟩) ?_ ⟨vI, v1, v0⟩).mono ?_
  · rintro pre x W ⟨hi, hl, hk⟩ hpre
    have hlt : w.heap.size + 1 < W.heap.size := (Array.getElem?_eq_some_iff.1 hl).1
    have hy := run_yield (P := P) (args := #[.string (str x)]) hl (by rw [hR]; exact hps.symm)
    rw [hR] at hy
    refine ⟨fn, _, assign, body, hy, roundIn_of_wpIn hfn (hassign _ x W _ ⟨_, run_beginRound hl (by rw [hR]), ?_⟩)⟩
    obtain ⟨X, hX⟩ : ∃ X, X = W.putObj (w.heap.size + 1) (.loop { R .ready none with state := .busy }) := ⟨_, rfl⟩
    rw [← hX]
    have x1 : X.heap[w.heap.size + 1]? = some (.loop { R .ready none with state := .busy }) := by rw [hX]; exact World.putObj_heap_same hlt
    have x0 : X.heap[w.heap.size]? = some (.deferred (some [])) := by rw [hX]; exact (World.putObj_heap_other (by omega)).trans hk
    have xI : I pre X := by rw [hX]; exact hI.put _ _ _ _ _ hi (by omega) hl rfl
    have xK : KeepsIn s W X := by rw [hX]; exact KeepsIn.put _ _ _ _ _ hl rfl
    refine wpIn_mono (hbody _ pre x X xI hpre) ?_
    intro e a3 Y hp
    cases e with
    | normal =>
      obtain ⟨ko, kb, hi3⟩ := hp
      have y1 := ko.same _ _ x1 rfl
      have y0 := ko.same _ _ x0 rfl
      have hr := run_endRound (P := P) none y1
      rw [hR] at hr y1
      refine ⟨_, _, hr, .inl ⟨rfl, ⟨hI.put _ _ _ _ _ hi3 (by omega) y1 rfl, ?_, (World.putObj_heap_other (by omega)).trans y0⟩, (xK.trans kb).trans (KeepsIn.put _ _ _ _ _ y1 rfl)⟩⟩
      rw [hR]
      exact World.putObj_heap_same (Array.getElem?_eq_some_iff.1 y1).1
    | ret =>
      obtain ⟨ko, hi3⟩ := hp
      have y1 := ko.same _ _ x1 rfl
      have y0 := ko.same _ _ x0 rfl
      have hr := run_endRound (P := P) (some .ret) y1
      rw [hR] at hr y1
      refine ⟨_, _, hr, .inr ⟨rfl, hIx.put _ _ _ _ _ hi3 (by omega) y1 rfl, ?_, (World.putObj_heap_other (by omega)).trans y0⟩⟩
      rw [hR]
      exact World.putObj_heap_same (Array.getElem?_eq_some_iff.1 y1).1
    | exit id => exact hp.elim
    | goto t => exact hp.elim
    | panic ch => exact hp.elim
    | outgrown => exact hp.elim
  · rintro e Y ⟨⟨v, rfl⟩, (⟨hi, hl, hk⟩ | ⟨pre, hpre, hi, hl, hk⟩)⟩
    · have hr := run_endLoop (P := P) hl (by rw [hR]; simp)
      rw [hR] at hr hl
      exact ⟨none, _, hr, hdone _ _ (Nat.le_refl _) (hI.put _ _ _ _ _ hi (by omega) hl rfl) ((World.putObj_heap_other (by omega)).trans hk)⟩
    · have hr := run_endLoop (P := P) hl (by rw [hR]; simp)
      rw [hR] at hr hl
      exact ⟨some .ret, _, hr, hstop _ pre _ (Nat.le_refl _) hpre (hIx.put _ _ _ _ _ hi (by omega) hl rfl) ((World.putObj_heap_other (by omega)).trans hk)⟩
end Go.Proofs.YtokeiagcdahmaaaDoor
