/- Merged: RpL, RpM, RpN, RpP, RpB, RpT, RpC. -/
import Derived.RangeFuncNested
import Derived.RangeFuncBound
import Derived.RangeFuncCalls
import Derived.RangeFuncLeaves
import Derived.RangeFuncFrom
import Derived.Shelf.Abstract
import Derived.OwnWalkIn
import Derived.TacticsInMore
import Derived.LoopNIn
import Derived.LoopIn
import Derived.Test.YtldbfjcfobdkpaaDoorRfA
import Derived.Test.YtldbfjcfobdkpaaDoorRfN
import Derived.Test.YtldbfjcfobdkpaaDoorRfC
import Derived.Test.YtldbfjcfobdkpaaDoorShelf
import Derived.Test.YtldbfjcfobdkpaaDoorRfE
import Derived.Shelf.GgClosure.StringsTrimFunc
import Derived.Lib.TrimUEq
import Derived.Lib.SpaceUEq
import Derived.Lib.MapLaws
/- Generic: a range over a function whose iterator keeps a text of its own in a box that was laid ahead of the loop, and stores into it between two rounds. -/
namespace Go.Proofs.YtldbfjcfobdkpaaDoor
open Go.RowKit Go.Shelf

/-- What a round leaves of the iterator's boxes. -/
def KeepsIn (s : Nat → Prop) (W W' : World) : Prop := ∀ b, s b → ∀ v, W.cell? ⟨b, 0, none⟩ = some v → W.frozen? ⟨b, 0, none⟩ = false → W'.cell? ⟨b, 0, none⟩ = some v ∧ W'.frozen? ⟨b, 0, none⟩ = false
theorem KeepsIn.refl (s : Nat → Prop) (W : World) : KeepsIn s W W := fun _ _ _ h h' => ⟨h, h'⟩
theorem KeepsIn.trans {s : Nat → Prop} {W W' W'' : World} (h : KeepsIn s W W') (h' : KeepsIn s W' W'') : KeepsIn s W W'' := fun b hb v hv hf => h' b hb v (h b hb v hv hf).1 (h b hb v hv hf).2
theorem KeepsIn.put (s : Nat → Prop) (W : World) (l : Nat) (o o' : Obj) (h : W.heap[l]? = some o) (hc : o.isCells = false) : KeepsIn s W (W.putObj l o') := fun _ _ _ hv hf =>
  ⟨cell_kept hv (grownBy_putObj' _ l o') (fun r e => by cases e; exact ⟨_, h, hc⟩), (frozen_kept hv (grownBy_putObj' _ l o') (fun r e => by cases e; exact ⟨_, h, hc⟩)).trans hf⟩
theorem frozen_block {W W' : World} {p : Addr} (h : W'.heap[p.block]? = W.heap[p.block]?) : W'.frozen? p = W.frozen? p := by unfold World.frozen?; rw [h]
theorem KeepsIn.below {s : Nat → Prop} {W W' : World} (h : Below W.heap.size W W') : KeepsIn s W W' := fun b _ _ hv hf =>
  have hb := h.block b (World.block_lt_of_cell? W ⟨b, 0, none⟩ hv)
  ⟨(World.cell?_of_block hb).trans hv, (frozen_block (p := ⟨b, 0, none⟩) hb).trans hf⟩
theorem KeepsIn.setCell {s : Nat → Prop} {W : World} {p : Addr} (h : ¬ s p.block) (u : Value) : KeepsIn s W (W.setCell p u) := fun b hb _ hv hf =>
  ⟨(World.cell?_setCell_other W p ⟨b, 0, none⟩ u (fun e => h (by rw [e]; exact hb))).trans hv, by rw [World.frozen?_setCell]; exact hf⟩
/-- What lies when the loop begins may be said between two rounds. -/
structure Abode (w : World) (Bs : Nat) {β : Type} (I : β → World → Prop) : Prop where
  alloc : ∀ k W o, I k W → I k (W.alloc o)
  put : ∀ k W l o o', I k W → w.heap.size ≤ l → W.heap[l]? = some o → o.isCells = false → I k (W.putObj l o')
  own : ∀ k W v, I k W → I k (W.setCell ⟨Bs, 0, none⟩ v)
/-- AN ITERATOR OVER xs, with boxes s, that stores into the box at Bs alone. -/
def IterB (P : Program) (n gf : Nat) (lb : Array Value) (s : Nat → Prop) (Bs : Nat) (xs : List (List UInt8)) (w : World) : Prop :=
  ∀ (l : Nat) (J Jx : List (List UInt8) → World → Prop) (W : World), KeepsIn s w W → (∀ k W v, J k W → J k (W.setCell ⟨Bs, 0, none⟩ v)) →
    (∀ pre x W1, J pre W1 → pre ++ [x] <+: xs → YieldAt Fence.wide (n - 1) P l #[.string (str x)] W1 fun e W' =>
      (e = .returned (.bool true) ∧ J (pre ++ [x]) W' ∧ KeepsIn s W1 W') ∨ (e = .returned (.bool false) ∧ Jx (pre ++ [x]) W')) →
    J [] W →
    CallsIn Fence.wide n P gf (#[.func (.yield l) #[] #[]] ++ lb) W fun e W' => (∃ v, e = .returned v) ∧ (J xs W' ∨ (∃ pre, pre <+: xs ∧ Jx pre W'))
/-- How a round's body may be left. -/
def leftBy (s : Nat → Prop) (I Ix : List (List UInt8) → World → Prop) (xs : List (List UInt8)) (W : World) : Exit → Act → World → Prop
  | .normal, _, W' => KeepsOthers W W' ∧ KeepsIn s W W' ∧ I xs W'
  | .ret, _, W' => KeepsOthers W W' ∧ Ix xs W'
  | _, _, _ => False
theorem heap_own {W : World} {b k : Nat} {v : Value} {o : Obj} (h : W.heap[k]? = some o) (ho : o.isCells = false) : (W.setCell ⟨b, 0, none⟩ v).heap[k]? = some o :=
  (KeepsOthers.setCell W ⟨b, 0, none⟩ v).same k o h ho
/-- THE LAW. -/
theorem range_own {P : Program} {n : Nat} {g : Operand} {ps : Array Tmp} {assign body : Code} {Q : Exit → Act → World → Prop} {a : Act} {w : World} (h1 : 1 ≤ n)
    {gf : Nat} {lb : Array Value} (hg : a.eval g = .func (.func gf) #[] lb) (eg : ∀ args w, (callFunc gf args).run P w = .ok (.enter gf args) w)
    {s : Nat → Prop} {Bs : Nat} {xs : List (List UInt8)} (hit : IterB P (n - 1) gf lb s Bs xs w) (hps : ps.size = 1)
    (I Ix : List (List UInt8) → World → Prop) (hI : Abode w Bs I) (hIx : Abode w Bs Ix) (h0 : I [] w) (a₁ : List UInt8 → Act)
    (hassign : ∀ (l : Nat) (x : List UInt8) (W : World) (K : Act → World → Prop), K (a₁ x) W →
      assign.wpIn (Fence.wide.inRound l) (n - 1 - 1) P (Exit.then K (fun _ _ _ => False)) { tmps := (ps.zip #[.string (str x)]).foldl (fun t (p, v) => t.setIfInBounds p v) a.tmps, defers := [] } W)
    (hbody : ∀ (l : Nat) (pre : List (List UInt8)) (x : List UInt8) (W : World), I pre W → pre ++ [x] <+: xs → body.wpIn (Fence.wide.inRound l) (n - 1 - 1) P (leftBy s I Ix (pre ++ [x]) W) (a₁ x) W)
    (hdone : ∀ (D : Nat) (W : World), w.heap.size ≤ D → I xs W → W.heap[D]? = some (.deferred (some [])) → Q .normal { a with defers := { target := .collected D, args := #[] } :: a.defers } W)
    (hstop : ∀ (D : Nat) (pre : List (List UInt8)) (W : World), w.heap.size ≤ D → pre <+: xs → Ix pre W → W.heap[D]? = some (.deferred (some [])) → Code.ret.wpIn Fence.wide n P Q { a with defers := { target := .collected D, args := #[] } :: a.defers } W) :
    (Code.rangeFunc g ps assign body).wpIn Fence.wide n P Q a w := by
  refine wpIn_rangeFunc fun fn hfn => ?_
  -- the loop's record, in each of its states
  obtain ⟨R, hR⟩ : ∃ R : LoopState → Option Code → Loop, R = fun st pe => { state := st, pending := pe, fn, tmps := a.tmps, params := ps, assign, body, defers := w.heap.size } := ⟨_, rfl⟩
  obtain ⟨V, hV⟩ : ∃ V, V = (w.alloc (.deferred (some []))).alloc (.loop (R .ready none)) := ⟨_, rfl⟩
  have v0 : V.heap[w.heap.size]? = some (.deferred (some [])) := by
    rw [hV]; exact (Below.heap_alloc _ _ _ (by simp)).trans (World.alloc_heap_new w _)
  have v1 : V.heap[w.heap.size + 1]? = some (.loop (R .ready none)) := by
    rw [hV]
    have := World.alloc_heap_new (w.alloc (.deferred (some []))) (.loop (R .ready none))
    rwa [World.size_alloc] at this
  have vI : I [] V := by rw [hV]; exact hI.alloc _ _ _ (hI.alloc _ _ _ h0)
  have vK : KeepsIn s w V := by
    rw [hV]
    exact KeepsIn.below (((Below.refl _ w).alloc (Nat.le_refl _) _).alloc (by simp) _)
  refine ⟨w.heap.size + 1, [{ target := .collected w.heap.size, args := #[] }], V, { target := .fn (.func gf) lb, args := #[.func (.yield (w.heap.size + 1)) #[] #[]] }, V, gf,
    #[.func (.yield (w.heap.size + 1)) #[] #[]] ++ lb, V, ?_, ?_, fun _ _ => trivial, ?_, fun _ => h1, ?_⟩
  · rw [hV, hR]; exact run_enterLoop_outer _ _ _ _ _
  · simp only [resolve, hg]
    simp [go_sem]
  · simp [invoke, go_sem, eg]
  refine (hit (w.heap.size + 1)
    (fun pre W => I pre W ∧ W.heap[w.heap.size + 1]? = some (.loop (R .ready none)) ∧ W.heap[w.heap.size]? = some (.deferred (some [])))
    (fun pre W => Ix pre W ∧ W.heap[w.heap.size + 1]? = some (.loop (R .done (some .ret))) ∧ W.heap[w.heap.size]? = some (.deferred (some [])))
    V vK (fun k W v hs => ⟨hI.own _ _ _ hs.1, heap_own hs.2.1 rfl, heap_own hs.2.2 rfl⟩) ?_ ⟨vI, v1, v0⟩).mono ?_
  · rintro pre x W ⟨hi, hl, hk⟩ hpre
    have hlt : w.heap.size + 1 < W.heap.size := (Array.getElem?_eq_some_iff.1 hl).1
    have hy := run_yield (P := P) (args := #[.string (str x)]) hl (by rw [hR]; exact hps.symm)
    rw [hR] at hy
    refine ⟨fn, _, assign, body, hy, roundIn_of_wpIn hfn (hassign _ x W _ ⟨_, run_beginRound hl (by rw [hR]), ?_⟩)⟩
    obtain ⟨X, hX⟩ : ∃ X, X = W.putObj (w.heap.size + 1) (.loop { R .ready none with state := .busy }) := ⟨_, rfl⟩
    rw [← hX]
    have x1 : X.heap[w.heap.size + 1]? = some (.loop { R .ready none with state := .busy }) := by rw [hX]; exact World.putObj_heap_same hlt
    have x0 : X.heap[w.heap.size]? = some (.deferred (some [])) := by rw [hX]; exact (World.putObj_heap_other (by omega)).trans hk
    have xI : I pre X := by rw [hX]; exact hI.put _ _ _ _ _ hi (by omega) hl rfl
    have xK : KeepsIn s W X := by rw [hX]; exact KeepsIn.put _ _ _ _ _ hl rfl
    refine wpIn_mono (hbody _ pre x X xI hpre) ?_
    intro e a3 Y hp
    cases e with
    | normal =>
      obtain ⟨ko, kb, hi3⟩ := hp
      have y1 := ko.same _ _ x1 rfl
      have y0 := ko.same _ _ x0 rfl
      have hr := run_endRound (P := P) none y1
      rw [hR] at hr y1
      refine ⟨_, _, hr, .inl ⟨rfl, ⟨hI.put _ _ _ _ _ hi3 (by omega) y1 rfl, ?_, (World.putObj_heap_other (by omega)).trans y0⟩, (xK.trans kb).trans (KeepsIn.put _ _ _ _ _ y1 rfl)⟩⟩
      rw [hR]
      exact World.putObj_heap_same (Array.getElem?_eq_some_iff.1 y1).1
    | ret =>
      obtain ⟨ko, hi3⟩ := hp
      have y1 := ko.same _ _ x1 rfl
      have y0 := ko.same _ _ x0 rfl
      have hr := run_endRound (P := P) (some .ret) y1
      rw [hR] at hr y1
      refine ⟨_, _, hr, .inr ⟨rfl, hIx.put _ _ _ _ _ hi3 (by omega) y1 rfl, ?_, (World.putObj_heap_other (by omega)).trans y0⟩⟩
      rw [hR]
      exact World.putObj_heap_same (Array.getElem?_eq_some_iff.1 y1).1
    | exit id => exact hp.elim
    | goto t => exact hp.elim
    | panic ch => exact hp.elim
    | outgrown => exact hp.elim
  · rintro e Y ⟨⟨v, rfl⟩, (⟨hi, hl, hk⟩ | ⟨pre, hpre, hi, hl, hk⟩)⟩
    · have hr := run_endLoop (P := P) hl (by rw [hR]; simp)
      rw [hR] at hr hl
      exact ⟨none, _, hr, hdone _ _ (Nat.le_refl _) (hI.put _ _ _ _ _ hi (by omega) hl rfl) ((World.putObj_heap_other (by omega)).trans hk)⟩
    · have hr := run_endLoop (P := P) hl (by rw [hR]; simp)
      rw [hR] at hr hl
      exact ⟨some .ret, _, hr, hstop _ pre _ (Nat.le_refl _) hpre (hIx.put _ _ _ _ _ hi (by omega) hl rfl) ((World.putObj_heap_other (by omega)).trans hk)⟩
end Go.Proofs.YtldbfjcfobdkpaaDoor

/- Layer 12: the program's own way to tell a domain, a path, a tag, plainly; it is the document's. -/
namespace Go.Proofs.YtldbfjcfobdkpaaDoor

theorem byte_all {P : UInt8 → Prop} (h : ∀ n : Fin 256, P (UInt8.ofNat n.val)) (x : UInt8) : P x := by
  have := h ⟨x.toNat, x.toNat_lt⟩
  simpa using this
def wordB (x : UInt8) : Bool := decide (97 ≤ x.toNat ∧ x.toNat ≤ 122) || decide (48 ≤ x.toNat ∧ x.toNat ≤ 57)
def digB (x : UInt8) : Bool := decide (48 ≤ x.toNat ∧ x.toNat ≤ 57)
def labB (x : UInt8) : Bool := wordB x || decide (65 ≤ x.toNat ∧ x.toNat ≤ 90) || decide (x.toNat = 45)
def tagB (x : UInt8) : Bool := labB x || decide (x.toNat = 95) || decide (x.toNat = 46)
theorem gapS_word (x : UInt8) : gapS x = wordB x := by
  refine byte_all (P := fun x => gapS x = wordB x) ?_ x
  decide +kernel
theorem of_one (s t : List UInt8) : ofB s t = s.all fun x => ofB [x] t := by
  unfold ofB
  congr 1
  funext x
  simp
theorem of_same {t : List UInt8} {q : UInt8 → Bool} (h : ∀ n : Fin 256, ofB [UInt8.ofNat n.val] t = q (UInt8.ofNat n.val)) (s : List UInt8) : ofB s t = s.all q := by
  rw [of_one]
  congr 1
  funext x
  exact byte_all (P := fun x => ofB [x] t = q x) h x
theorem of_word (s : List UInt8) : ofB s smallB = s.all wordB := of_same (by decide +kernel) s
theorem of_dig (s : List UInt8) : ofB s digitB = s.all digB := of_same (by decide +kernel) s
theorem of_lab (s : List UInt8) : ofB s (allB ++ [45]) = s.all labB := of_same (by decide +kernel) s
theorem of_tag (s : List UInt8) : ofB s (allB ++ [95, 46, 45]) = s.all tagB := of_same (by decide +kernel) s
theorem of_dash (s : List UInt8) : ofB s [45] = s.all fun x => decide (x = 45) := by
  unfold ofB
  congr 1
  funext x
  simp only [List.any_cons, List.any_nil, Bool.or_false]
  rfl
theorem of_signs (s : List UInt8) : ofB s (smallB ++ [46, 95, 45]) = s.all fun x => wordB x || (decide (x = 46) || (decide (x = 95) || decide (x = 45))) := of_same (by decide +kernel) s
/-- Where a text is cut. -/
theorem cut_first {c : UInt8} : ∀ {s : List UInt8}, c ∈ s → ∃ a b, s = a ++ c :: b ∧ c ∉ a
  | [], h => by cases h
  | x :: s, h => by
    by_cases hx : x = c
    · exact ⟨[], s, by rw [hx]; rfl, by simp⟩
    · have hm : c ∈ s := by
        rcases List.mem_cons.1 h with e | e
        · exact absurd e.symm hx
        · exact e
      obtain ⟨a, b, e, hn⟩ := cut_first hm
      refine ⟨x :: a, b, by rw [e]; rfl, ?_⟩
      intro h2
      rcases List.mem_cons.1 h2 with e2 | e2
      · exact hx e2.symm
      · exact hn e2
theorem cut_len (s : List UInt8) (c : UInt8) : decide (1 < (cutL s c).length) = decide (c ∈ s) := by
  by_cases h : c ∈ s
  · obtain ⟨a, b, rfl, hn⟩ := cut_first h
    have := cutL_count a c b
    rw [decide_eq_true (show 1 < (cutL (a ++ c :: b) c).length by omega), decide_eq_true h]
  · rw [cutL_one s c h, decide_eq_false h]; rfl
theorem cut_len1 (s : List UInt8) (c : UInt8) : decide ((cutL s c).length = 1) = decide (c ∉ s) := by
  have h := cut_len s c
  have hp := cutL_pos s c
  by_cases hc : c ∈ s
  · rw [decide_eq_true hc, decide_eq_true_eq] at h
    rw [decide_eq_false (by omega), decide_eq_false (by simpa using hc)]
  · rw [decide_eq_false hc, decide_eq_false_iff_not] at h
    rw [decide_eq_true (by omega), decide_eq_true hc]
theorem cut_head {a : List UInt8} {c : UInt8} (b : List UInt8) (h : c ∉ a) : (cutL (a ++ c :: b) c).getD 0 [] = a := by rw [cutL_two b h]; rfl
theorem cut_head1 {s : List UInt8} {c : UInt8} (h : c ∉ s) : (cutL s c).getD 0 [] = s := by rw [cutL_one s c h]; rfl
/-- What tells a domain from a path's first part. -/
def standsB (h : List UInt8) : Bool := decide (h = localB) || h.any fun x => decide (x = 46) || decide (x = 58)
theorem isDom_eq (h : List UInt8) : isDom h = standsB h := by
  unfold isDom standsB
  rw [cut_len, cut_len]
  by_cases h1 : h = localB
  · simp [h1]
  · rw [decide_eq_false h1, Bool.or_false, Bool.false_or, ← Bool.decide_or]
    by_cases h2 : (46 : UInt8) ∈ h ∨ (58 : UInt8) ∈ h
    · rw [decide_eq_true h2]
      symm
      rw [List.any_eq_true]
      rcases h2 with h2 | h2
      · exact ⟨46, h2, by decide⟩
      · exact ⟨58, h2, by decide⟩
    · rw [decide_eq_false h2]
      symm
      rw [List.any_eq_false]
      intro x hx hc
      simp only [Bool.or_eq_true, decide_eq_true_eq] at hc
      rcases hc with rfl | rfl
      · exact h2 (.inl hx)
      · exact h2 (.inr hx)
theorem stands_ne {h : List UInt8} (hs : standsB h = true) : h ≠ [] := by
  rintro rfl
  revert hs
  decide
/-- The program's way with a domain. -/
theorem front_yes {a : List UInt8} (b : List UInt8) (hn : (47 : UInt8) ∉ a) (hs : standsB a = true) : frontR (a ++ 47 :: b) = a := by
  unfold frontR
  rw [cut_len, cut_head b hn, isDom_eq, hs, decide_eq_true (by simp)]
  rfl
theorem front_not {a : List UInt8} (b : List UInt8) (hn : (47 : UInt8) ∉ a) (hs : standsB a = false) : frontR (a ++ 47 :: b) = [] := by
  unfold frontR
  rw [cut_head b hn, isDom_eq, hs, Bool.and_false]
  rfl
theorem front_none {s : List UInt8} (hn : (47 : UInt8) ∉ s) : frontR s = [] := by
  unfold frontR
  rw [cut_len, decide_eq_false hn, Bool.false_and]
  rfl
/-- A label. -/
theorem head_not {m : List UInt8} (c : UInt8) (h : m ≠ []) : (!decide (m.getD 0 0 = c)) = !decide ([c] <+: m) := by
  cases m with
  | nil => exact absurd rfl h
  | cons x r =>
    congr 1
    simp [List.cons_prefix_cons, eq_comm]
theorem last_not {m : List UInt8} (c : UInt8) (h : m ≠ []) : (!decide (m.getD (m.length - 1) 0 = c)) = !decide ([c] <:+ m) := by
  obtain ⟨r, x, rfl⟩ := (List.eq_nil_or_concat m).resolve_left h
  rw [List.concat_eq_append]
  congr 1
  have e : (r ++ [x]).getD ((r ++ [x]).length - 1) 0 = x := by
    rw [List.length_append, List.length_singleton, Nat.add_sub_cancel, List.getD_eq_getElem?_getD, List.getElem?_append_right (Nat.le_refl _), Nat.sub_self]
    rfl
  rw [e]
  refine decide_eq_decide.2 ⟨fun h => ⟨r, by rw [h]⟩, fun ⟨t, ht⟩ => ?_⟩
  have := congrArg List.getLast? ht
  simp at this
  exact this.symm
theorem label_eq (m : List UInt8) : partsOk m = (!decide (m = []) && (!decide ([45] <+: m) && (!decide ([45] <:+ m) && m.all labB))) := by
  unfold partsOk
  by_cases h : m = []
  · subst h; rfl
  · have hl : ¬ m.length = 0 := fun e => h (List.length_eq_zero_iff.1 e)
    rw [decide_eq_false hl, decide_eq_false h, head_not 45 h, last_not 45 h, of_lab]
    cases m.all labB <;> cases (!decide ([45] <+: m)) <;> cases (!decide ([45] <:+ m)) <;> rfl
/-- A domain. -/
theorem port_eq {a b : List UInt8} (hn : (58 : UInt8) ∉ a) : portOk (cutL (a ++ 58 :: b) 58) = (!decide (b = []) && (decide (b.length ≤ 5) && b.all digB)) := by
  rw [cutL_two b hn]
  by_cases hb : (58 : UInt8) ∈ b
  · have h1 := cut_len b 58
    rw [decide_eq_true hb, decide_eq_true_eq] at h1
    have h2 : b.all digB = false := by
      rw [List.all_eq_false]
      exact ⟨58, hb, by decide⟩
    rw [h2, Bool.and_false, Bool.and_false]
    unfold portOk
    rw [decide_eq_false (show ¬ (a :: cutL b 58).length ≤ 2 by rw [List.length_cons]; omega), Bool.false_and]
  · rw [cutL_one b 58 hb]
    unfold portOk
    rw [← of_dig]
    rfl
theorem domain_port {a b : List UInt8} (hn : (58 : UInt8) ∉ a) : domainB (a ++ 58 :: b) = ((!decide (b = []) && (decide (b.length ≤ 5) && b.all digB)) && (cutL a 46).all partsOk) := by
  unfold domainB
  rw [port_eq hn, cut_head b hn]
theorem domain_bare {s : List UInt8} (hn : (58 : UInt8) ∉ s) : domainB s = (cutL s 46).all partsOk := by
  unfold domainB
  rw [cutL_one s 58 hn]
  rfl
/-- A tag. -/
theorem tag_eq (t : List UInt8) : tagOk t = (decide (t.length ≤ 32) && (!decide (t.getD 0 0 = 46) && (!decide (t.getD 0 0 = 45) && t.all tagB))) := by
  unfold tagOk
  rw [of_tag]
  cases t.all tagB <;> cases (!decide (t.getD 0 0 = 46)) <;> cases (!decide (t.getD 0 0 = 45)) <;> rfl
end Go.Proofs.YtldbfjcfobdkpaaDoor

/- Layer 12: a part of a path, told word by word, plainly. -/
namespace Go.Proofs.YtldbfjcfobdkpaaDoor

theorem dropw_nil {p : UInt8 → Bool} : ∀ {l : List UInt8}, l.dropWhile p = [] ↔ ∀ x ∈ l, p x = true
  | [] => by simp
  | y :: l => by
    rw [List.dropWhile_cons]
    by_cases h : p y = true
    · rw [if_pos h, dropw_nil (l := l)]
      simp [h]
    · rw [if_neg h]
      simp [h]
theorem partG_word : ∀ (a r : List UInt8), a.all wordB = true → partG [] (a ++ r) = partG [] r
  | [], _, _ => rfl
  | x :: a, r, h => by
    rw [List.all_cons, Bool.and_eq_true] at h
    rw [List.cons_append, partG, gapS_word, if_pos h.1, if_pos (by decide)]
    exact partG_word a r h.2
theorem partG_gap : ∀ (g h r : List UInt8), (g.all fun x => !wordB x) = true → partG h (g ++ r) = partG (h ++ g) r
  | [], h, r, _ => by simp
  | x :: g, h, r, hg => by
    rw [List.all_cons, Bool.and_eq_true, Bool.not_eq_true'] at hg
    rw [List.cons_append, partG, gapS_word, hg.1, if_neg (by simp), partG_gap g _ r hg.2, List.append_assoc]
    rfl
theorem partG_next {x : UInt8} (g r : List UInt8) (hx : wordB x = true) : partG g (x :: r) = (gapOk g && partG [] (x :: r)) := by
  rw [partG, partG, gapS_word, if_pos hx, if_pos hx, if_pos (show gapOk [] = true by decide)]
  cases gapOk g <;> simp
theorem first_word (s : List UInt8) (h : s ≠ []) : ofB (s.take 1) smallB = wordB (s.getD 0 0) := by
  cases s with
  | nil => exact absurd rfl h
  | cons x r => rw [of_word]; simp
theorem last_word (s : List UInt8) (x : UInt8) : ofB ((s ++ [x]).drop ((s ++ [x]).length - 1)) smallB = wordB x := by
  rw [of_word, List.length_append, List.length_singleton, Nat.add_sub_cancel, List.drop_left]
  simp
theorem gap_signs {g : List UInt8} (h : gapOk g = true) : ofB g (smallB ++ [46, 95, 45]) = true := by
  unfold gapOk at h
  simp only [Bool.or_eq_true, decide_eq_true_eq] at h
  rcases h with rfl | rfl | rfl | rfl | h
  · rfl
  · decide
  · decide
  · decide
  · rw [of_dash] at h
    rw [of_signs, List.all_eq_true]
    rw [List.all_eq_true] at h
    intro x hx
    have := h x hx
    simp only [decide_eq_true_eq] at this
    subst this
    decide
theorem word_signs {a : List UInt8} (h : a.all wordB = true) : ofB a (smallB ++ [46, 95, 45]) = true := by
  rw [of_signs, List.all_eq_true]
  rw [List.all_eq_true] at h
  intro x hx
  rw [h x hx]
  rfl
theorem of_append (a b t : List UInt8) : ofB (a ++ b) t = (ofB a t && ofB b t) := by unfold ofB; rw [List.all_append]
/-- Nothing, or what does not begin with a word. -/
theorem part_none {s : List UInt8} (h : s.dropWhile wordB = s) : partB s = false := by
  unfold partB
  cases s with
  | nil => rfl
  | cons x r =>
    rw [first_word (x :: r) (by simp)]
    have hx : wordB x = false := by
      cases e : wordB x with
      | false => rfl
      | true =>
        rw [List.dropWhile_cons, if_pos e] at h
        have h1 := congrArg List.length h
        have h2 := (List.dropWhile_suffix (p := wordB) (l := r)).length_le
        rw [List.length_cons] at h1
        omega
    have e : (x :: r).getD 0 0 = x := rfl
    rw [e, hx, Bool.false_and, Bool.and_false, Bool.and_false]
/-- A word alone. -/
theorem part_word {s : List UInt8} (h0 : s ≠ []) (h : s.all wordB = true) : partB s = true := by
  obtain ⟨r, x, rfl⟩ := (List.eq_nil_or_concat s).resolve_left h0
  rw [List.concat_eq_append] at *
  have hx : wordB x = true := by rw [List.all_append, Bool.and_eq_true] at h; simpa using h.2
  unfold partB
  have hg := partG_word (r ++ [x]) [] h
  rw [List.append_nil] at hg
  rw [last_word, hx, first_word _ h0, word_signs h, hg, decide_eq_false h0]
  have : wordB ((r ++ [x]).getD 0 0) = true := by
    rw [List.all_eq_true] at h
    refine h _ ?_
    rw [List.getD_eq_getElem?_getD, List.getElem?_eq_getElem (by simp)]
    exact List.getElem_mem _
  rw [this]
  rfl
/-- A word, what stands behind it, and what is left. -/
theorem part_gap {a g s : List UInt8} (ha0 : a ≠ []) (ha : a.all wordB = true) (hg0 : g ≠ []) (hg : (g.all fun x => !wordB x) = true) (hs : ∀ x r, s = x :: r → wordB x = true) : partB (a ++ g ++ s) = (gapOk g && partB s) := by
  have hne : a ++ g ++ s ≠ [] := by simp [ha0]
  have hw : wordB ((a ++ g ++ s).getD 0 0) = true := by
    cases a with
    | nil => exact absurd rfl ha0
    | cons y a' =>
      rw [List.all_cons, Bool.and_eq_true] at ha
      exact ha.1
  have hG : partG [] (a ++ g ++ s) = partG g s := by
    rw [List.append_assoc, partG_word a _ ha, partG_gap g [] s hg]
    rfl
  cases s with
  | nil =>
    obtain ⟨g', x, rfl⟩ := (List.eq_nil_or_concat g).resolve_left hg0
    rw [List.concat_eq_append] at *
    have hx : wordB x = false := by
      rw [List.all_append, Bool.and_eq_true] at hg
      simpa using hg.2
    have e : a ++ (g' ++ [x]) ++ [] = (a ++ g') ++ [x] := by simp
    have hp : partB [] = false := rfl
    rw [hp, Bool.and_false, e]
    unfold partB
    rw [last_word, hx, Bool.false_and, Bool.and_false, Bool.and_false, Bool.and_false]
  | cons x r =>
    have hx := hs x r rfl
    rw [partG_next g r hx] at hG
    unfold partB
    rw [hG, first_word _ hne, hw, decide_eq_false hne, of_append, of_append, word_signs ha]
    have hl : (a ++ g ++ x :: r).drop ((a ++ g ++ x :: r).length - 1) = (x :: r).drop ((x :: r).length - 1) := by
      rw [List.length_append, List.length_cons, Nat.add_sub_assoc (by omega), List.drop_append, List.drop_eq_nil_of_le (by omega), Nat.add_sub_cancel_left]
      rfl
    rw [hl, first_word (x :: r) (by simp)]
    have hx0 : wordB ((x :: r).getD 0 0) = true := hx
    rw [hx0]
    cases hgo : gapOk g with
    | true => rw [gap_signs hgo]; simp
    | false => simp
/-- What may stand between two words. -/
theorem gap_eq {g : List UInt8} (h : g ≠ []) : gapOk g = (decide (g = [46]) || (decide (g = [95]) || (decide (g = [95, 95]) || g.all fun x => decide (x = 45)))) := by
  unfold gapOk
  rw [decide_eq_false h, of_dash]
  rfl
theorem trim_dash (g : List UInt8) : decide ((g.reverse.dropWhile (· == 45)).reverse.dropWhile (· == 45) = []) = g.all fun x => decide (x = 45) := by
  rw [eq_comm]
  by_cases h : (g.all fun x => decide (x = 45)) = true
  · rw [h]
    symm
    rw [decide_eq_true_eq]
    have : g.reverse.dropWhile (· == 45) = [] := by
      rw [dropw_nil]
      intro x hx
      rw [List.all_eq_true] at h
      simpa using h x (List.mem_reverse.1 hx)
    rw [this]
    rfl
  · have h' : (g.all fun x => decide (x = 45)) = false := by simpa using h
    rw [h']
    symm
    rw [decide_eq_false_iff_not]
    intro e
    apply h
    rw [dropw_nil] at e
    rw [List.all_eq_true]
    have h2 : g.reverse.dropWhile (· == 45) = [] := by
      rcases hq : g.reverse.dropWhile (· == 45) with _ | ⟨y, q⟩
      · rfl
      · exfalso
        have h3 := List.head?_dropWhile_not (· == (45 : UInt8)) g.reverse
        rw [hq] at h3 e
        have h4 := e y (by simp)
        simp at h3 h4
        exact h3 h4
    rw [dropw_nil] at h2
    intro x hx
    have := h2 x (List.mem_reverse.2 hx)
    simpa using this
end Go.Proofs.YtldbfjcfobdkpaaDoor

/- Layer 12: the program's predicates on runes. -/
namespace Go.Proofs.YtldbfjcfobdkpaaDoor
open Go.RowKit

/-- The program's predicates. -/
def digN (r : Nat) : Bool := decide (48 ≤ r ∧ r ≤ 57)
def wordN (r : Nat) : Bool := decide (97 ≤ r ∧ r ≤ 122) || decide (48 ≤ r ∧ r ≤ 57)
def labN (r : Nat) : Bool := wordN r || decide (65 ≤ r ∧ r ≤ 90) || decide (r = 45)
def tagN (r : Nat) : Bool := labN r || decide (r = 95) || decide (r = 46)
theorem dig_low (r : Nat) (h : digN r = true) : r < 128 := by unfold digN at h; rw [decide_eq_true_eq] at h; omega
theorem word_low (r : Nat) (h : wordN r = true) : r < 128 := by unfold wordN at h; simp only [Bool.or_eq_true, decide_eq_true_eq] at h; omega
theorem lab_low (r : Nat) (h : labN r = true) : r < 128 := by
  unfold labN at h
  simp only [Bool.or_eq_true, decide_eq_true_eq] at h
  rcases h with (h | h) | h
  · exact word_low r h
  · omega
  · omega
theorem tag_low (r : Nat) (h : tagN r = true) : r < 128 := by
  unfold tagN at h
  simp only [Bool.or_eq_true, decide_eq_true_eq] at h
  rcases h with (h | h) | h
  · exact lab_low r h
  · omega
  · omega
theorem retB {a b : Bool} (h : a = b) : Ending.returned (.bool a) = .returned (.bool b) := by rw [h]
set_option maxHeartbeats 1000000 in
theorem isDigit_any (r : Nat) (w : World) :
    Calls Tryd.prog 81 #[.int .i32 (r : Int)] w fun e w' => e = .returned (.bool (digN r)) ∧ w = w' := by
  have HV := Lib.hid (show digN r = (decide ((48 : Int) ≤ (r : Int)) && decide ((r : Int) ≤ 57)) by
    unfold digN
    rw [Bool.eq_iff_iff, Bool.and_eq_true, decide_eq_true_eq, decide_eq_true_eq, decide_eq_true_eq]
    omega)
  by_cases h1 : (48 : Int) ≤ (r : Int)
  · by_cases h2 : (r : Int) ≤ 57
    · rw [decide_eq_true h1, decide_eq_true h2] at HV
      go_enter Tryd.func81, Tryd.ntmps81
      go_wp2
      go_ret
      exact ⟨retB HV.out.symm, rfl⟩
    · rw [decide_eq_true h1, decide_eq_false h2] at HV
      go_enter Tryd.func81, Tryd.ntmps81
      go_wp2
      go_ret
      exact ⟨retB HV.out.symm, rfl⟩
  · rw [decide_eq_false h1, Bool.false_and] at HV
    go_enter Tryd.func81, Tryd.ntmps81
    go_wp2
    go_ret
    exact ⟨retB HV.out.symm, rfl⟩
set_option maxHeartbeats 1000000 in
theorem inWord_any (r : Nat) (w : World) :
    Calls Tryd.prog 71 #[.int .i32 (r : Int)] w fun e w' => e = .returned (.bool (wordN r)) ∧ w = w' := by
  have HV := Lib.hid (show wordN r = ((decide ((97 : Int) ≤ (r : Int)) && decide ((r : Int) ≤ 122)) || digN r) by
    unfold wordN digN
    congr 1
    rw [Bool.eq_iff_iff, Bool.and_eq_true, decide_eq_true_eq, decide_eq_true_eq, decide_eq_true_eq]
    omega)
  have CD := fun w => isDigit_any r w
  generalize digN r = D at *
  generalize wordN r = V at *
  by_cases h1 : (97 : Int) ≤ (r : Int)
  · by_cases h2 : (r : Int) ≤ 122
    · rw [decide_eq_true h1, decide_eq_true h2] at HV
      go_enter Tryd.func71, Tryd.ntmps71
      go_wp2_with (go_at_call 81; ((with_reducible refine (CD _).mono ?_); rintro e w1 ⟨rfl, rfl⟩))
      go_ret
      exact ⟨retB HV.out.symm, rfl⟩
    · rw [decide_eq_true h1, decide_eq_false h2] at HV
      go_enter Tryd.func71, Tryd.ntmps71
      go_wp2_with (go_at_call 81; ((with_reducible refine (CD _).mono ?_); rintro e w1 ⟨rfl, rfl⟩))
      go_ret
      exact ⟨retB HV.out.symm, rfl⟩
  · rw [decide_eq_false h1, Bool.false_and] at HV
    go_enter Tryd.func71, Tryd.ntmps71
    go_wp2_with (go_at_call 81; ((with_reducible refine (CD _).mono ?_); rintro e w1 ⟨rfl, rfl⟩))
    go_ret
    exact ⟨retB HV.out.symm, rfl⟩
set_option maxHeartbeats 1000000 in
theorem notInWord_any (r : Nat) (w : World) :
    Calls Tryd.prog 72 #[.int .i32 (r : Int)] w fun e w' => e = .returned (.bool (!wordN r)) ∧ w = w' := by
  have CD := fun w => inWord_any r w
  generalize wordN r = V at *
  go_enter Tryd.func72, Tryd.ntmps72
  go_wp2_with (go_at_call 71; ((with_reducible refine (CD _).mono ?_); rintro e w1 ⟨rfl, rfl⟩))
  go_ret
  exact ⟨rfl, rfl⟩
set_option maxHeartbeats 1000000 in
theorem inLabel_any (r : Nat) (w : World) :
    Calls Tryd.prog 84 #[.int .i32 (r : Int)] w fun e w' => e = .returned (.bool (labN r)) ∧ w = w' := by
  have HV := Lib.hid (show labN r = ((wordN r || (decide ((65 : Int) ≤ (r : Int)) && decide ((r : Int) ≤ 90))) || ((r : Int) == 45)) by
    unfold labN
    congr 1
    · congr 1
      rw [Bool.eq_iff_iff, Bool.and_eq_true, decide_eq_true_eq, decide_eq_true_eq, decide_eq_true_eq]
      omega
    · rw [Bool.eq_iff_iff, decide_eq_true_eq, beq_iff_eq]
      omega)
  have CD := fun w => inWord_any r w
  generalize wordN r = D at *
  generalize labN r = V at *
  by_cases h1 : (65 : Int) ≤ (r : Int)
  · by_cases h2 : (r : Int) ≤ 90
    · rw [decide_eq_true h1, decide_eq_true h2] at HV
      cases D <;> (
      go_enter Tryd.func84, Tryd.ntmps84
      go_wp2_with (go_at_call 71; ((with_reducible refine (CD _).mono ?_); rintro e w1 ⟨rfl, rfl⟩))
      all_goals (go_ret; exact ⟨retB (HV.out.trans (by first | (simp; done) | (simp; omega) | (simp_all; done))).symm, rfl⟩))
    · rw [decide_eq_true h1, decide_eq_false h2] at HV
      cases D <;> (
      go_enter Tryd.func84, Tryd.ntmps84
      go_wp2_with (go_at_call 71; ((with_reducible refine (CD _).mono ?_); rintro e w1 ⟨rfl, rfl⟩))
      all_goals (go_ret; exact ⟨retB (HV.out.trans (by first | (simp; done) | (simp; omega) | (simp_all; done))).symm, rfl⟩))
  · rw [decide_eq_false h1, Bool.false_and] at HV
    cases D <;> (
    go_enter Tryd.func84, Tryd.ntmps84
    go_wp2_with (go_at_call 71; ((with_reducible refine (CD _).mono ?_); rintro e w1 ⟨rfl, rfl⟩))
    all_goals (go_ret; exact ⟨retB (HV.out.trans (by first | (simp; done) | (simp; omega) | (simp_all; done))).symm, rfl⟩))
set_option maxHeartbeats 1000000 in
theorem inTag_any (r : Nat) (w : World) :
    Calls Tryd.prog 75 #[.int .i32 (r : Int)] w fun e w' => e = .returned (.bool (tagN r)) ∧ w = w' := by
  have HV := Lib.hid (show tagN r = ((labN r || ((r : Int) == 95)) || ((r : Int) == 46)) by
    unfold tagN
    have e : ∀ k : Nat, decide (r = k) = ((r : Int) == (k : Int)) := fun k => by
      rw [Bool.eq_iff_iff, decide_eq_true_eq, beq_iff_eq]
      omega
    rw [e 95, e 46]
    rfl)
  have CD := fun w => inLabel_any r w
  generalize labN r = D at *
  generalize tagN r = V at *
  cases D <;> (
  go_enter Tryd.func75, Tryd.ntmps75
  go_wp2_with (go_at_call 84; ((with_reducible refine (CD _).mono ?_); rintro e w1 ⟨rfl, rfl⟩))
  all_goals (go_ret; exact ⟨retB (HV.out.trans (by first | (simp; done) | (simp; omega) | (simp_all; done))).symm, rfl⟩))
end Go.Proofs.YtldbfjcfobdkpaaDoor

/- Layer 12: a text cut at a byte, as the program's library does it. -/
namespace Go.Proofs.YtldbfjcfobdkpaaDoor
open Go.RowKit

theorem index_at {a : List UInt8} {c : UInt8} (b : List UInt8) (h : c ∉ a) : Lib.indexByte (a ++ c :: b) c = (a.length : Int) := by
  induction a with
  | nil => simp [Lib.indexByte]
  | cons x a ih =>
    have h1 : ¬ (x == c) = true := fun e => h (by simp [beq_iff_eq.1 e])
    have h2 : c ∉ a := fun e => h (List.mem_cons_of_mem _ e)
    have h3 : ¬ (((a.length : Nat) : Int) == -1) = true := by rw [beq_iff_eq]; omega
    rw [List.cons_append, Lib.indexByte, if_neg h1, ih h2, if_neg h3, List.length_cons]
    rfl
theorem index_miss {s : List UInt8} {c : UInt8} (h : c ∉ s) : Lib.indexByte s c = -1 := by
  induction s with
  | nil => rfl
  | cons x a ih =>
    have h1 : ¬ (x == c) = true := fun e => h (by simp [beq_iff_eq.1 e])
    have h2 : c ∉ a := fun e => h (List.mem_cons_of_mem _ e)
    rw [Lib.indexByte, if_neg h1, ih h2]
    rfl
theorem index_dec (s : List UInt8) (c : UInt8) : decide (0 ≤ Lib.indexByte s c) = decide (c ∈ s) := by
  by_cases h : c ∈ s
  · obtain ⟨a, b, rfl, hn⟩ := cut_first h
    rw [index_at b hn, decide_eq_true h, decide_eq_true (by omega)]
  · rw [index_miss h, decide_eq_false h]
    rfl
theorem contains_any (s : List UInt8) (c : UInt8) (w : World) :
    Calls Tryd.prog 41 #[.string (str s), .string ⟨#[c]⟩] w fun e w' => e = .returned (.bool (decide (c ∈ s))) ∧ w = w' := by
  have h := Tryd.strings_Contains_one (str s) c w
  rw [show (str s).data.toList = s from rfl, index_dec] at h
  exact h.mono fun _ _ ⟨h1, h2⟩ => ⟨h1, h2.symm⟩
theorem ret3s {a a' b b' : ByteArray} {c : Bool} (h : a = a') (h' : b = b') : Ending.returned (.tuple #[.string a, .string b, .bool c]) = .returned (.tuple #[.string a', .string b', .bool c]) := by rw [h, h']
theorem part_ahead (a b : List UInt8) (c : UInt8) : (str (a ++ c :: b)).extract 0 a.length = str a := by
  rw [extract_str, List.drop_zero, List.take_left]
theorem part_behind (a b : List UInt8) (c : UInt8) : (str (a ++ c :: b)).extract (a.length + 1) (a ++ c :: b).length = str b := by
  rw [extract_str, List.take_length, show a ++ c :: b = (a ++ [c]) ++ b by simp, show a.length + 1 = (a ++ [c]).length by simp, List.drop_left]
set_option maxRecDepth 100000 in
set_option maxHeartbeats 2000000 in
theorem cutL_hit (a b : List UInt8) (c : UInt8) (hn : c ∉ a) (hl : (a ++ c :: b).length ≤ 1000000) (w : World) :
    Calls Tryd.prog 50 #[.string (str (a ++ c :: b)), .string ⟨#[c]⟩] w fun e w' => e = .returned (.tuple #[.string (str a), .string (str b), .bool true]) ∧ Below w.heap.size w w' := by
  have CI := fun w => Tryd.stringslite_Index_one (str (a ++ c :: b)) c w
  rw [show (str (a ++ c :: b)).data.toList = a ++ c :: b from rfl, index_at b hn] at CI
  have hz : (str (a ++ c :: b)).size = (a ++ c :: b).length := str_size _
  have ha := Lib.hid (part_ahead a b c)
  have hb := Lib.hid (part_behind a b c)
  have hlen : (a ++ c :: b).length = a.length + (b.length + 1) := by rw [List.length_append, List.length_cons]
  rw [← hz] at hb hl hlen
  clear hz
  generalize str (a ++ c :: b) = s at *
  generalize a.length = i at *
  have c1 : (0 : Int) ≤ (i : Int) := by omega
  have c2 : (i : Int) ≤ (s.size : Int) := by omega
  have c3 : (0 : Int) ≤ (i : Int) + 1 := by omega
  have c4 : (i : Int) + 1 ≤ (s.size : Int) := by omega
  have c5 : (i : Int) + 1 ≤ 1000001 := by omega
  clear hlen
  go_enter Tryd.func50, Tryd.ntmps50
  go_wp2_with (go_at_call 64; ((with_reducible refine (CI _).mono ?_); rintro e w1 ⟨rfl, rfl⟩))
  go_region
  go_wp2
  go_ret3

  exact ⟨ret3s (ha.out) (hb.out), below_drewN (Below.refl _ _) _⟩
set_option maxRecDepth 100000 in
set_option maxHeartbeats 2000000 in
theorem cutL_miss {s : List UInt8} {c : UInt8} (hn : c ∉ s) (w : World) :
    Calls Tryd.prog 50 #[.string (str s), .string ⟨#[c]⟩] w fun e w' => e = .returned (.tuple #[.string (str s), .string (str []), .bool false]) ∧ Below w.heap.size w w' := by
  have CI := fun w => Tryd.stringslite_Index_one (str s) c w
  rw [show (str s).data.toList = s from rfl, index_miss hn] at CI
  generalize str s = s at *
  go_enter Tryd.func50, Tryd.ntmps50
  go_wp2_with (go_at_call 64; ((with_reducible refine (CI _).mono ?_); rintro e w1 ⟨rfl, rfl⟩))
  go_ret3
  exact ⟨rfl, Below.refl _ _⟩
set_option maxHeartbeats 1000000 in
theorem cut_hit (a b : List UInt8) (c : UInt8) (hn : c ∉ a) (hl : (a ++ c :: b).length ≤ 1000000) (w : World) :
    Calls Tryd.prog 33 #[.string (str (a ++ c :: b)), .string ⟨#[c]⟩] w fun e w' => e = .returned (.tuple #[.string (str a), .string (str b), .bool true]) ∧ Below w.heap.size w w' := by
  have CC := fun w => cutL_hit a b c hn hl w
  generalize str (a ++ c :: b) = s at *
  go_enter Tryd.func33, Tryd.ntmps33
  go_wp2_with (go_at_call 50; ((with_reducible refine (CC _).mono ?_); rintro e w1 ⟨rfl, b1⟩))
  go_ret3
  exact ⟨rfl, b1⟩
set_option maxHeartbeats 1000000 in
theorem cut_miss {s : List UInt8} {c : UInt8} (hn : c ∉ s) (w : World) :
    Calls Tryd.prog 33 #[.string (str s), .string ⟨#[c]⟩] w fun e w' => e = .returned (.tuple #[.string (str s), .string (str []), .bool false]) ∧ Below w.heap.size w w' := by
  have CC := fun w => cutL_miss hn w
  generalize str s = s at *
  go_enter Tryd.func33, Tryd.ntmps33
  go_wp2_with (go_at_call 50; ((with_reducible refine (CC _).mono ?_); rintro e w1 ⟨rfl, b1⟩))
  go_ret3
  exact ⟨rfl, b1⟩
end Go.Proofs.YtldbfjcfobdkpaaDoor

/- Layer 12: strings.TrimLeftFunc at a predicate that holds of low runes alone, and at one that fails of such alone: it goes byte by byte. -/
namespace Go.Proofs.YtldbfjcfobdkpaaDoor

theorem dropw_skip {q : UInt8 → Bool} : ∀ (K : Nat) (l : List UInt8), K ≤ l.length → (∀ j, j < K → q (l.getD j 0) = true) → l.dropWhile q = (l.drop K).dropWhile q
  | 0, _, _, _ => rfl
  | K + 1, [], h, _ => by simp at h
  | K + 1, x :: l, h, hq => by
    have h0 : q x = true := hq 0 (by omega)
    rw [List.dropWhile_cons, if_pos h0, List.drop_succ_cons]
    exact dropw_skip K l (by simpa using h) (fun j hj => by have := hq (j + 1) (by omega); simpa using this)
/-- A predicate on runes goes as one on bytes does. -/
structure Bytewise (p : Nat → Bool) (q : UInt8 → Bool) : Prop where
  stop : ∀ (s : ByteArray) (pos : Nat), pos < s.size → p (Utf8.decode s pos).1 = false → q (s.data.toList.getD pos 0) = false
  go : ∀ (s : ByteArray) (pos : Nat), pos < s.size → p (Utf8.decode s pos).1 = true → pos + (Utf8.decode s pos).2 ≤ s.size ∧ ∀ j, j < (Utf8.decode s pos).2 → q (s.data.toList.getD (pos + j) 0) = true
theorem idx_scan {p : Nat → Bool} {q : UInt8 → Bool} (B : Bytewise p q) (s : ByteArray) : ∀ (f pos : Nat), pos ≤ s.size → s.size ≤ pos + f →
    Lib.idxFuncFrom p false s f pos = if (s.data.toList.drop pos).dropWhile q = [] then -1 else ((s.size - ((s.data.toList.drop pos).dropWhile q).length : Nat) : Int)
  | 0, pos, hp, hf => by
    have h0 : s.data.toList.drop pos = [] := List.drop_eq_nil_of_le (by rw [← Lib.size_eq]; omega)
    rw [h0]
    rfl
  | f + 1, pos, hp, hf => by
    by_cases h : pos < s.size
    · have hl : pos < s.data.toList.length := by rw [← Lib.size_eq]; exact h
      unfold Lib.idxFuncFrom
      rw [if_pos h]
      cases hv : p (Utf8.decode s pos).1 with
      | false =>
        rw [if_pos rfl]
        have hs := B.stop s pos h hv
        have hd : s.data.toList.drop pos = s.data.toList.getD pos 0 :: s.data.toList.drop (pos + 1) := by
          rw [List.drop_eq_getElem_cons hl, List.getD_eq_getElem?_getD, List.getElem?_eq_getElem hl]; rfl
        have hw : (s.data.toList.drop pos).dropWhile q = s.data.toList.drop pos := by
          rw [hd, List.dropWhile_cons, if_neg (by rw [hs]; simp)]
        rw [hw, if_neg (by rw [hd]; simp), List.length_drop, ← Lib.size_eq]
        omega
      | true =>
        rw [if_neg (by simp)]
        obtain ⟨h1, h2⟩ := B.go s pos h hv
        have hw1 := Lib.width_pos s pos
        rw [idx_scan B s f (pos + (Utf8.decode s pos).2) h1 (by omega)]
        have hk := dropw_skip (q := q) (Utf8.decode s pos).2 (s.data.toList.drop pos) (by rw [List.length_drop, ← Lib.size_eq]; omega) (fun j hj => by rw [Lib.getD_dropU]; exact h2 j hj)
        rw [List.drop_drop] at hk
        rw [hk]
    · have h0 : s.data.toList.drop pos = [] := List.drop_eq_nil_of_le (by rw [← Lib.size_eq]; omega)
      rw [Lib.idxFuncFrom_end p false s _ pos h, h0]
      rfl
theorem trim_bytes {p : Nat → Bool} {q : UInt8 → Bool} (B : Bytewise p q) (s : List UInt8) : Lib.trimLeftF p (str s) = str (s.dropWhile q) := by
  have hi := idx_scan B (str s) (str s).size 0 (by omega) (by omega)
  have hs : (str s).size = s.length := str_size s
  have hl : (str s).data.toList = s := rfl
  unfold Lib.trimLeftF
  rw [show Lib.idxFunc p false (str s) = _ from hi, hl, List.drop_zero, hs]
  by_cases h : s.dropWhile q = []
  · rw [if_pos h, if_pos rfl, h]; rfl
  · rw [if_neg h, if_neg (by omega), Int.toNat_natCast]
    have hsuf := List.dropWhile_suffix (p := q) (l := s)
    obtain ⟨t, ht⟩ := hsuf
    have hlen : t.length + (s.dropWhile q).length = s.length := by rw [← List.length_append, ht]
    refine bytes_toList ?_
    have hd : s.drop t.length = s.dropWhile q := by
      have := List.drop_left (l₁ := t) (l₂ := s.dropWhile q)
      rw [ht] at this
      exact this
    rw [Lib.extract_data, hl, show s.length - (s.dropWhile q).length = t.length by omega]
    show _ = s.dropWhile q
    rw [hd, List.take_of_length_le (by omega)]
theorem bytes_low {p : Nat → Bool} (h : ∀ r, p r = true → r < 128) : Bytewise p (fun x => p x.toNat) := by
  refine ⟨fun s pos hp hv => ?_, fun s pos hp hv => ?_⟩
  · rw [Lib.decode_N] at hv
    have h0 := (s.data.toList.getD pos 0).toNat_lt
    rcases Lib.decodeN_shape (s.data.toList.length - pos) (s.data.toList.getD pos 0).toNat (s.data.toList.getD (pos + 1) 0).toNat (s.data.toList.getD (pos + 2) 0).toNat (s.data.toList.getD (pos + 3) 0).toNat with ⟨hb, he⟩ | hx
    · rw [he] at hv; exact hv
    · have hge : ¬ (s.data.toList.getD pos 0).toNat < 128 := by
        intro hb
        have he : Lib.decodeN (s.data.toList.length - pos) (s.data.toList.getD pos 0).toNat (s.data.toList.getD (pos + 1) 0).toNat (s.data.toList.getD (pos + 2) 0).toNat (s.data.toList.getD (pos + 3) 0).toNat = ((s.data.toList.getD pos 0).toNat, 1) := by unfold Lib.decodeN; rw [if_pos hb]
        rw [he] at hx
        rcases hx with ⟨a, _⟩ | ⟨a, _⟩ | ⟨a, _⟩ | a
        · omega
        · omega
        · omega
        · simp only [Prod.mk.injEq] at a; omega
      cases e : p (s.data.toList.getD pos 0).toNat with
      | false => rfl
      | true => exact absurd (h _ e) hge
  · have hlt := h _ hv
    rw [Lib.decode_N] at hv hlt ⊢
    have hlen : 0 < s.data.toList.length - pos := by rw [← Lib.size_eq]; omega
    rcases Lib.decodeN_shape (s.data.toList.length - pos) (s.data.toList.getD pos 0).toNat (s.data.toList.getD (pos + 1) 0).toNat (s.data.toList.getD (pos + 2) 0).toNat (s.data.toList.getD (pos + 3) 0).toNat with ⟨hb, he⟩ | ⟨_, _, _, hc, he⟩ | ⟨_, _, _, _, hc, _, he⟩ | ⟨_, _, _, _, _, hc, _, he⟩ | he
    · rw [he] at hv ⊢
      refine ⟨by omega, fun j hj => ?_⟩
      obtain rfl : j = 0 := by simpa using hj
      exact hv
    all_goals (rw [he] at hlt; simp only at hlt; omega)
theorem bytes_high {p : Nat → Bool} (h : ∀ r, p r = true → r < 128) : Bytewise (fun r => !p r) (fun x => !p x.toNat) := by
  have hB := bytes_low h
  refine ⟨fun s pos hp hv => ?_, fun s pos hp hv => ?_⟩
  · have hv' : p (Utf8.decode s pos).1 = true := by simpa using hv
    obtain ⟨_, h2⟩ := hB.go s pos hp hv'
    have := h2 0 (by have := Lib.width_pos s pos; omega)
    rw [Nat.add_zero] at this
    show (!p (s.data.toList.getD pos 0).toNat) = false
    rw [show p (s.data.toList.getD pos 0).toNat = true from this]
    rfl
  · have hv' : p (Utf8.decode s pos).1 = false := by simpa using hv
    have hs0 := hB.stop s pos hp hv'
    have hc := Lib.decodeN_conts (s.data.toList.length - pos) (s.data.toList.getD pos 0).toNat (s.data.toList.getD (pos + 1) 0).toNat (s.data.toList.getD (pos + 2) 0).toNat (s.data.toList.getD (pos + 3) 0).toNat
    rw [← Lib.decode_N] at hc
    obtain ⟨c2, c3, c4, c5⟩ := hc
    have hsz : s.size = s.data.toList.length := Lib.size_eq s
    have hw := Lib.width_pos s pos
    refine ⟨by omega, fun j hj => ?_⟩
    have hi : ∀ k, (s.data.toList.getD k 0).toNat / 64 = 2 → (!p (s.data.toList.getD k 0).toNat) = true := fun k hk => by
      cases e : p (s.data.toList.getD k 0).toNat with
      | false => rfl
      | true => have := h _ e; omega
    have hj4 : j = 0 ∨ j = 1 ∨ j = 2 ∨ j = 3 := by omega
    rcases hj4 with rfl | rfl | rfl | rfl
    · rw [Nat.add_zero]
      show (!p (s.data.toList.getD pos 0).toNat) = true
      rw [show p (s.data.toList.getD pos 0).toNat = false from hs0]
      rfl
    · exact hi _ (c2 (by omega)).1
    · exact hi _ (c3 (by omega)).1
    · exact hi _ (c4 (by omega)).1
theorem all_trim (q : UInt8 → Bool) (s : List UInt8) : decide (s.dropWhile q = []) = s.all q := by
  rw [Bool.eq_iff_iff, decide_eq_true_eq, dropw_nil, List.all_eq_true]
end Go.Proofs.YtldbfjcfobdkpaaDoor

/- Layer 12: the program's ports, labels, tags, and what may stand between two words. -/
namespace Go.Proofs.YtldbfjcfobdkpaaDoor
open Go.RowKit

theorem empty_lit (h : List UInt8) : (str h).toList.isEmpty = decide (h = []) := by
  rw [← eq_none h]
  cases (str h).toList <;> rfl
theorem pred_at {g : Nat} {p : Nat → Bool} (hg : ∀ (r : Nat) (w : World), Calls Tryd.prog g #[.int .i32 (r : Int)] w fun e w' => e = .returned (.bool (p r)) ∧ w = w') (w : World) : PredAt Tryd.prog g #[] encR p w := fun W r _ => by
  unfold FnGives
  rw [show (#[encR r] ++ #[] : Array Value) = #[Value.int .i32 (r : Int)] from rfl]
  exact (hg r W).mono fun e w' ⟨h1, h2⟩ => ⟨h1, 0, by rw [← h2]; rfl⟩
theorem trim_any {g : Nat} {p : Nat → Bool} {q : UInt8 → Bool} (B : Bytewise p q) (eg : ∀ args w, (callFunc g args).run Tryd.prog w = .ok (.enter g args) w)
    (hg : ∀ (r : Nat) (w : World), Calls Tryd.prog g #[.int .i32 (r : Int)] w fun e w' => e = .returned (.bool (p r)) ∧ w = w') (s : List UInt8) (w : World) :
    Calls Tryd.prog 70 #[.string (str s), .func (.func g) #[] #[]] w fun e w' => e = .returned (.string (str (s.dropWhile q))) ∧ Below w.heap.size w w' := by
  have h := Tryd.strings_TrimLeftFunc g #[] eg p (str s) w (pred_at hg w)
  rw [trim_bytes B] at h
  exact h
theorem word_q : (fun x : UInt8 => wordN x.toNat) = wordB := rfl
theorem gap_q : (fun x : UInt8 => !wordN x.toNat) = fun x => !wordB x := rfl
theorem dig_q : (fun x : UInt8 => digN x.toNat) = digB := rfl
theorem lab_q : (fun x : UInt8 => labN x.toNat) = labB := rfl
theorem tag_q : (fun x : UInt8 => tagN x.toNat) = tagB := rfl
set_option maxHeartbeats 1000000 in
theorem all_any {g : Nat} {q : UInt8 → Bool} (s : List UInt8)
    (CT : ∀ w, Calls Tryd.prog 70 #[.string (str s), .func (.func g) #[] #[]] w fun e w' => e = .returned (.string (str (s.dropWhile q))) ∧ Below w.heap.size w w') (w : World) :
    Calls Tryd.prog 74 #[.string (str s), .func (.func g) #[] #[]] w fun e w' => e = .returned (.bool (s.all q)) ∧ Below w.heap.size w w' := by
  have he := Lib.hid ((empty_lit (s.dropWhile q)).trans (all_trim q s))
  generalize s.dropWhile q = r at *
  generalize s.all q = v at *
  go_enter Tryd.func74, Tryd.ntmps74
  go_wp2_with (go_at_call 70; ((with_reducible refine (CT _).mono ?_); rintro e w1 ⟨rfl, b1⟩))
  go_ret
  exact ⟨retB he.out, b1⟩
theorem digs_any (s : List UInt8) (w : World) :
    Calls Tryd.prog 74 #[.string (str s), .func (.func 81) #[] #[]] w fun e w' => e = .returned (.bool (s.all digB)) ∧ Below w.heap.size w w' :=
  all_any s (fun w => dig_q ▸ trim_any (bytes_low dig_low) (enters_of Tryd.func81 (by kernel_rfl) rfl) isDigit_any s w) w
theorem labs_any (s : List UInt8) (w : World) :
    Calls Tryd.prog 74 #[.string (str s), .func (.func 84) #[] #[]] w fun e w' => e = .returned (.bool (s.all labB)) ∧ Below w.heap.size w w' :=
  all_any s (fun w => lab_q ▸ trim_any (bytes_low lab_low) (enters_of Tryd.func84 (by kernel_rfl) rfl) inLabel_any s w) w
theorem tags_any (s : List UInt8) (w : World) :
    Calls Tryd.prog 74 #[.string (str s), .func (.func 75) #[] #[]] w fun e w' => e = .returned (.bool (s.all tagB)) ∧ Below w.heap.size w w' :=
  all_any s (fun w => tag_q ▸ trim_any (bytes_low tag_low) (enters_of Tryd.func75 (by kernel_rfl) rfl) inTag_any s w) w
theorem words_any (s : List UInt8) (w : World) :
    Calls Tryd.prog 70 #[.string (str s), .func (.func 71) #[] #[]] w fun e w' => e = .returned (.string (str (s.dropWhile wordB))) ∧ Below w.heap.size w w' :=
  word_q ▸ trim_any (bytes_low word_low) (enters_of Tryd.func71 (by kernel_rfl) rfl) inWord_any s w
theorem gaps_any (s : List UInt8) (w : World) :
    Calls Tryd.prog 70 #[.string (str s), .func (.func 72) #[] #[]] w fun e w' => e = .returned (.string (str (s.dropWhile fun x => !wordB x))) ∧ Below w.heap.size w w' :=
  gap_q ▸ trim_any (bytes_high word_low) (enters_of Tryd.func72 (by kernel_rfl) rfl) notInWord_any s w
theorem neq_none (s : List UInt8) : ((str s).toList != []) = !decide (s = []) := by rw [bne, eq_none]
theorem le_dec (a : Nat) (b : Int) (c : Nat) (h : b = (c : Int)) : decide ((a : Int) ≤ b) = decide (a ≤ c) := by subst h; rw [decide_eq_decide]; omega
/-- A port. -/
def portP (s : List UInt8) : Bool := !decide (s = []) && (decide (s.length ≤ 5) && s.all digB)
set_option maxHeartbeats 1000000 in
theorem isPort_any (s : List UInt8) (hl : s.length ≤ 1000000) (w : World) :
    Calls Tryd.prog 67 #[.string (str s)] w fun e w' => e = .returned (.bool (portP s)) ∧ Below w.heap.size w w' := by
  have CA := fun w => digs_any s w
  have he := eq_none s
  have he2 := empty_lit s
  have hz := str_size s
  have hl5 := le_dec s.length 5 5 rfl
  have HV := Lib.hid (show portP s = (!decide (s = []) && (decide (s.length ≤ 5) && s.all digB)) from rfl)
  generalize portP s = V at *
  generalize s.all digB = D at *
  by_cases h1 : s = []
  · rw [decide_eq_true h1] at he he2 HV
    clear h1
    go_enter Tryd.func67, Tryd.ntmps67
    go_wp2_with (go_at_call 74; ((with_reducible refine (CA _).mono ?_); rintro e w1 ⟨rfl, b1⟩))
    go_ret
    exact ⟨retB HV.out.symm, Below.refl _ _⟩
  · rw [decide_eq_false h1] at he he2 HV
    clear h1
    by_cases h2 : s.length ≤ 5
    · have h2' : (s.length : Int) ≤ 5 := by omega
      rw [decide_eq_true h2] at HV hl5
      go_enter Tryd.func67, Tryd.ntmps67
      go_wp2_with (go_at_call 74; ((with_reducible refine (CA _).mono ?_); rintro e w1 ⟨rfl, b1⟩))
      go_ret
      exact ⟨retB HV.out.symm, b1⟩
    · have h2' : ¬ (s.length : Int) ≤ 5 := by omega
      rw [decide_eq_false h2] at HV hl5
      go_enter Tryd.func67, Tryd.ntmps67
      go_wp2_with (go_at_call 74; ((with_reducible refine (CA _).mono ?_); rintro e w1 ⟨rfl, b1⟩))
      go_ret
      exact ⟨retB HV.out.symm, Below.refl _ _⟩
/-- A label. -/
theorem pre_one (c : UInt8) (m : List UInt8) : Lib.hasPrefix m [c] = decide ([c] <+: m) := by
  unfold Lib.hasPrefix
  rw [Bool.eq_iff_iff, List.isPrefixOf_iff_prefix, decide_eq_true_eq]
theorem suf_one (c : UInt8) (m : List UInt8) : Lib.hasSuffix m [c] = decide ([c] <:+ m) := by
  unfold Lib.hasSuffix
  rw [Bool.eq_iff_iff, List.isSuffixOf_iff_suffix, decide_eq_true_eq]
set_option maxHeartbeats 1000000 in
theorem isLabel_any (s : List UInt8) (hl : s.length ≤ 1000000) (w : World) :
    Calls Tryd.prog 68 #[.string (str s)] w fun e w' => e = .returned (.bool (partsOk s)) ∧ Below w.heap.size w w' := by
  have CA := fun w => labs_any s w
  have CP := fun w => Tryd.strings_HasPrefix (str s) ⟨#[45]⟩ w
  have CS := fun w => Tryd.strings_HasSuffix (str s) ⟨#[45]⟩ w (by rw [str_size]; omega)
  rw [show (str s).data.toList = s from rfl, show (⟨#[45]⟩ : ByteArray).data.toList = [45] from rfl] at CP CS
  rw [pre_one] at CP
  rw [suf_one] at CS
  have he := eq_none s
  have he2 := empty_lit s
  have HV := Lib.hid (label_eq s)
  generalize partsOk s = V at *
  generalize s.all labB = D at *
  generalize decide ([45] <+: s) = p at *
  generalize decide ([45] <:+ s) = q at *
  generalize decide (s = []) = z at *
  cases z <;> cases p <;> cases q <;> (
    go_enter Tryd.func68, Tryd.ntmps68
    go_wp2_with (first
      | (go_at_call 82; ((with_reducible refine (CP _).mono ?_); rintro e w1 ⟨rfl, rfl⟩))
      | (go_at_call 83; ((with_reducible refine (CS _).mono ?_); rintro e w2 ⟨rfl, rfl⟩))
      | (go_at_call 74; ((with_reducible refine (CA _).mono ?_); rintro e w3 ⟨rfl, b3⟩)))
    go_ret
    first
      | exact ⟨retB HV.out.symm, b3⟩
      | exact ⟨retB HV.out.symm, Below.refl _ _⟩)
/-- A tag. -/
def tagP (t : List UInt8) : Bool := !decide (t = []) && tagOk t
theorem tagP_eq (t : List UInt8) : tagP t = (!decide (t = []) && (decide (t.length ≤ 32) && (!decide (t.getD 0 0 = 46) && (!decide (t.getD 0 0 = 45) && t.all tagB)))) := by
  unfold tagP
  rw [tag_eq]
set_option maxHeartbeats 1000000 in
theorem isTag_any (s : List UInt8) (hl : s.length ≤ 1000000) (w : World) :
    Calls Tryd.prog 57 #[.string (str s)] w fun e w' => e = .returned (.bool (tagP s)) ∧ Below w.heap.size w w' := by
  have CA := fun w => tags_any s w
  have he := eq_none s
  have he2 := empty_lit s
  have hz := str_size s
  have HV := Lib.hid (tagP_eq s)
  generalize tagP s = V at *
  generalize s.all tagB = D at *
  by_cases h1 : s = []
  · rw [decide_eq_true h1] at he he2 HV
    clear h1
    go_enter Tryd.func57, Tryd.ntmps57
    go_wp2_with (go_at_call 74; ((with_reducible refine (CA _).mono ?_); rintro e w1 ⟨rfl, b1⟩))
    go_ret
    exact ⟨retB HV.out.symm, Below.refl _ _⟩
  · rw [decide_eq_false h1] at he he2 HV
    have hpos : 0 < (str s).size := by rw [hz]; exact List.length_pos_iff.2 h1
    have hix := idx_str (str s) 0 0 rfl hpos
    rw [show (str s).data.toList = s from rfl] at hix
    clear h1
    have ne : ∀ (c : UInt8) (i : Int), i = (c.toNat : Int) → (((s.getD 0 0).toNat : Int) == i) = decide (s.getD 0 0 = c) := fun c i hi => by
      subst hi
      rw [Bool.eq_iff_iff, beq_iff_eq, decide_eq_true_eq]
      exact ⟨fun h => UInt8.toNat_inj.1 (by omega), fun h => by rw [h]⟩
    have n46 := ne 46 46 rfl
    have n45 := ne 45 45 rfl
    clear ne
    by_cases h2 : s.length ≤ 32
    · have h2' : (s.length : Int) ≤ 32 := by omega
      rw [decide_eq_true h2] at HV
      rw [← n46, ← n45] at HV
      clear n46 n45
      generalize ((s.getD 0 0).toNat : Int) = x at *
      by_cases k46 : x = 46
      · subst k46
        go_enter Tryd.func57, Tryd.ntmps57
        go_wp2_with (go_at_call 74; ((with_reducible refine (CA _).mono ?_); rintro e w1 ⟨rfl, b1⟩))
        go_ret
        exact ⟨retB HV.out.symm, Below.refl _ _⟩
      · have k46' := beq_eq_false_iff_ne.2 k46
        rw [k46'] at HV
        by_cases k45 : x = 45
        · subst k45
          go_enter Tryd.func57, Tryd.ntmps57
          go_wp2_with (go_at_call 74; ((with_reducible refine (CA _).mono ?_); rintro e w1 ⟨rfl, b1⟩))
          go_ret
          exact ⟨retB HV.out.symm, Below.refl _ _⟩
        · have k45' := beq_eq_false_iff_ne.2 k45
          rw [k45'] at HV
          go_enter Tryd.func57, Tryd.ntmps57
          go_wp2_with (go_at_call 74; ((with_reducible refine (CA _).mono ?_); rintro e w1 ⟨rfl, b1⟩))
          go_ret
          exact ⟨retB (HV.out.trans (by simp [k46, k45])).symm, b1⟩
    · have h2' : ¬ (s.length : Int) ≤ 32 := by omega
      rw [decide_eq_false h2] at HV
      go_enter Tryd.func57, Tryd.ntmps57
      go_wp2_with (go_at_call 74; ((with_reducible refine (CA _).mono ?_); rintro e w1 ⟨rfl, b1⟩))
      go_ret
      exact ⟨retB HV.out.symm, Below.refl _ _⟩
set_option maxHeartbeats 1000000 in
theorem isBetween_any (s : List UInt8) (h0 : s ≠ []) (hl : s.length ≤ 1000000) (w : World) :
    Calls Tryd.prog 73 #[.string (str s)] w fun e w' => e = .returned (.bool (gapOk s)) ∧ Below w.heap.size w w' := by
  have CT := fun w => Tryd.strings_Trim_one (str s) 45 (by decide) w (by rw [str_size]; omega)
  rw [show (str s).data.toList = s from rfl] at CT
  obtain ⟨r, hr⟩ : ∃ r, r = Lib.trimB s 45 := ⟨_, rfl⟩
  rw [← hr] at CT
  have CT' : ∀ w, Calls Tryd.prog 88 #[.string (str s), .string ⟨#[45]⟩] w fun e w' => e = .returned (.string (str r)) ∧ Below w.heap.size w w' := fun w =>
    (CT w).mono fun e w' ⟨h1, h2⟩ => ⟨h1, by rcases h2 with rfl | rfl; exact Below.refl _ _; exact (below_drewN (Below.refl _ _) 1)⟩
  have hr2 : decide (r = []) = s.all fun x => decide (x = 45) := by rw [hr]; exact trim_dash s
  have HE := Lib.hid ((empty_lit r).trans hr2)
  have e1 := eq_lit s [46]
  have e2 := eq_lit s [95]
  have e3 := eq_lit s [95, 95]
  have HV := Lib.hid (gap_eq h0)
  clear hr hr2 CT h0
  generalize gapOk s = V at *
  generalize (s.all fun x => decide (x = 45)) = D at *
  generalize decide (s = [46]) = p at *
  generalize decide (s = [95]) = q at *
  generalize decide (s = [95, 95]) = t at *
  cases p <;> cases q <;> cases t <;> (
    go_enter Tryd.func73, Tryd.ntmps73
    go_wp2_with (go_at_call 88; ((with_reducible refine (CT' _).mono ?_); rintro e w1 ⟨rfl, b1⟩))
    go_ret
    first
      | exact ⟨retB (HE.out.trans HV.out.symm), b1⟩
      | exact ⟨retB HV.out.symm, Below.refl _ _⟩)
end Go.Proofs.YtldbfjcfobdkpaaDoor

