/- Merged: Rnd, PtM. -/
import Derived.Sort.QuietThIn
import Derived.Sort.BigQuietIn
import Derived.StillTail
import Derived.TacticsIn
import Init
/- Generic: a region that draws its order, in a fence, in a round too: all of it quiet, or all but a forced end, under any class of worlds. (It names nothing of the cut.) -/
namespace Go.Proofs.YtbkpbgcbpakpeaaGreatDoor
open Go

/-- A wide fence lets every call through, in a round too. -/
theorem wide_fn (f : FuncId) : Fence.wide.fn f = True := eq_true trivial
theorem round_fn (l : Nat) (f : FuncId) : (Fence.wide.inRound l).fn f = True := eq_true trivial
/-- No operation puts a call off. -/
def noDef (l : List Oper) : Bool := l.all fun o => match o.op with | .defer _ => false | _ => true
theorem noDef_at {l : List Oper} (h : noDef l = true) {i : Nat} {o : Oper} (ho : l.toArray[i]? = some o) : ∀ c, o.op ≠ .defer c := by
  intro c hc
  have hm : o ∈ l := List.mem_of_getElem? (by simpa using ho)
  have := List.all_eq_true.1 h o hm
  rw [hc] at this
  cases this
section
variable {F : Fence} {n : Nat} {P : Program} {l : List Oper} {md : Region.Mode} {C : World → Prop}

theorem op_quiet {o : Oper} {a : Act} {K : Act → Prop} {K' : Act → World → Prop} {Q' : Exit → Act → World → Prop} {w : World} (hd : ∀ c, o.op ≠ .defer c) (hw : C w) (h : ∀ a w', C w' → K a → K' a w')
    (ha : o.askedIn F P a C) (hq : o.quietIn F n P a C K) : o.wpIn F n P a w K' Q' := by
  obtain ⟨v, hv, hk⟩ := hq
  have hv := hv w hw
  unfold Oper.quietAtIn at hv
  refine ⟨ha w hw, ?_⟩
  rw [Oper.semAt_eq _ _ _ hd]
  cases hr : (execOp a.eval o).run P w with
  | halt x w' => rw [hr] at hv; exact hv.elim
  | ok x w' =>
    rw [hr] at hv
    cases x with
    | value u => obtain ⟨rfl, rfl⟩ := hv; exact h _ _ hw hk
    | skip => obtain ⟨rfl, rfl⟩ := hv; exact h _ _ hw hk
    | enter f args =>
      obtain ⟨rfl, hdep, hc⟩ := hv
      exact ⟨hdep, hc.mono fun e w'' hh => by obtain ⟨rfl, hC⟩ := hh; exact h _ _ hC hk⟩
    | _ => exact hv.elim
theorem wpOp_quiet {i : Nat} {a : Act} {K : Act → Prop} {K' : Act → World → Prop} {Q' : Exit → Act → World → Prop} {w : World} (hd : noDef l = true) (hw : C w) (h : ∀ a w', C w' → K a → K' a w')
    (hq : qOpIn F n P l.toArray C i K a) : wpOpIn F n P l.toArray Q' i K' a w := by
  unfold qOpIn at hq
  unfold wpOpIn
  cases ho : l.toArray[i]? with
  | none => rw [ho] at hq; exact h _ _ hw hq
  | some o =>
    rw [ho] at hq
    obtain ⟨ha, hq⟩ := hq
    by_cases hg : Region.wanted o (yielded l.toArray a.tmps) = true
    · simp only [hg, if_true] at hq ⊢; exact op_quiet (noDef_at hd ho) hw h ha hq
    · simp only [hg, Bool.false_eq_true, if_false] at hq ⊢; exact ⟨ha w hw, h _ _ hw hq⟩
theorem wpAny_quietR {Q : Act → Prop} {Q' : Exit → Act → World → Prop} (hd : noDef l = true) (hQ : ∀ a w, C w → Q a → Q' .normal a w) : ∀ (f : Nat) (listed : Array Bool) (a : Act) (w : World), C w →
    wpAnyQIn F n P md l.toArray C Q f listed a → wpAnyIn F n P md l.toArray Q' f listed a w
  | 0, _, _, _, hw, h => ⟨h.1, hQ _ _ hw h.2⟩
  | f + 1, _, _, _, hw, h => ⟨fun h0 => hQ _ _ hw (h.1 h0), fun i hi => wpOp_quiet hd hw (fun a' w' hw' hk => wpAny_quietR hd hQ f _ a' w' hw' hk) (h.2 i hi)⟩
/-- All of it is quiet. -/
theorem region_quiet {id : Nat} {Q : Exit → Act → World → Prop} {a : Act} {w : World} (hm : P.follows .mixedOrders = true) (hd : noDef l = true) (hB : Region.lexB .any l.toArray = true) (hC : C w.drew)
    (h : wpQuietIn F n P l.toArray C (fun a' => ∀ w', C w' → Q .normal a' w') l a) : (Code.region id l.toArray true).wpIn F n P Q a w := by
  simp only [Region.lexB, Bool.and_eq_true] at hB
  refine wpIn_region_any hm (wpAny_quietR (Q := fun a' => ∀ w', C w' → Q .normal a' w') hd (fun _ w' hw' h => h w' hw') _ _ _ w.drew hC ?_)
  have := wpAnyQIn_lex (F := F) (n := n) (P := P) (C := C) (md := .any) hB.1 l 0 (Array.replicate l.toArray.size false) a (by simp) (by simpa using hB.2) h
  simpa using this
/-! ### All but a forced end -/
/-- The operations ahead of number m, in whatever order; then T. -/
def headQ (F : Fence) (n : Nat) (P : Program) (md : Region.Mode) (ops : Array Oper) (C : World → Prop) (m : Nat) (T : Array Bool → Act → Prop) : Nat → Array Bool → Act → Prop
  | 0, listed, a => T listed a
  | f + 1, listed, a => Region.ready md ops listed ≠ [] ∧ ∀ i ∈ Region.ready md ops listed, i < m ∧ qOpIn F n P ops C i (headQ F n P md ops C m T f (listed.setIfInBounds i true)) a
theorem headQ_sound {m g : Nat} {T : Array Bool → Act → Prop} {Q' : Exit → Act → World → Prop} (hd : noDef l = true) (hT : ∀ listed a w, C w → T listed a → wpAnyIn F n P md l.toArray Q' g listed a w) :
    ∀ (f : Nat) (listed : Array Bool) (a : Act) (w : World), C w → headQ F n P md l.toArray C m T f listed a → wpAnyIn F n P md l.toArray Q' (f + g) listed a w
  | 0, listed, a, w, hw, h => by rw [Nat.zero_add]; exact hT _ _ _ hw h
  | f + 1, listed, a, w, hw, h => by
    rw [Nat.succ_add]
    exact ⟨fun h0 => absurd h0 h.1, fun i hi => wpOp_quiet hd hw (fun a' w' hw' hk => headQ_sound hd hT f _ a' w' hw' hk) (h.2 i hi).2⟩
theorem headQ_first {ops : Array Oper} {m i : Nat} {oi : Oper} {v : Value} {T : Array Bool → Act → Prop} (hi : ops[i]? = some oi) (hsel : ∀ (j : Nat) (o : Oper) cs b, ops[j]? = some o → o.op ≠ .select cs b)
    (hs : Region.sinkB md ops m = true) (hc : Region.chainB md ops m = true) (hm : m < ops.size) (him : i < m) (hT : ∀ listed a, T listed a → ∀ j ∈ Region.ready md ops listed, m ≤ j) :
    ∀ (f : Nat) (listed : Array Bool) (a : Act), HeadInv md ops m listed →
      (∀ j oj, ops[j]? = some oj → j ≠ i → listed.getD j true = false → (∀ e ∈ oj.after, Region.binds md e = true → e.on ≠ i) → oi.apart ops oj = true) →
      i ∈ Region.ready md ops listed → YieldsQuiet F n P ops C oi v a →
      headQ F n P md ops C m T f (listed.setIfInBounds i true) (a.put oi.dst v) → headQ F n P md ops C m T (f + 1) listed a := by
  intro f
  induction f with
  | zero =>
    intro listed a inv _ hr hy H
    refine ⟨fun h0 => (by rw [h0] at hr; cases hr), fun j hj => ?_⟩
    have hjm : j < m := Nat.lt_of_not_le fun h => tail_waits hs hc hm inv _ i rfl him (mem_ready.1 hr).1 j h hj
    by_cases hji : j = i
    · subst hji; exact ⟨hjm, hy.qOpIn hi H⟩
    · have := hT _ _ H j (ready_mono hj hji)
      omega
  | succ f ih =>
    intro listed a inv hfree hr hy H
    have hun := (mem_ready.1 hr).1
    refine ⟨fun h0 => (by rw [h0] at hr; cases hr), fun j hj => ?_⟩
    have hjm : j < m := Nat.lt_of_not_le fun h => tail_waits hs hc hm inv _ i rfl him hun j h hj
    refine ⟨hjm, ?_⟩
    by_cases hji : j = i
    · subst hji; exact hy.qOpIn hi H
    · obtain ⟨hjun, oj, hoj, hall⟩ := mem_ready.1 hj
      have hnot : ∀ e ∈ oj.after, Region.binds md e = true → e.on ≠ i := fun e he hb heq => by
        have h1 := hall e he hb
        rw [heq, getD_both hun] at h1
        cases h1
      have hstep := qOpIn_put hoj (hfree j oj hoj hji hjun hnot) (fun cs b => hsel i oi cs b hi) (fun cs b => hsel j oj cs b hoj) hy (H.2 j (ready_mono hj hji)).2
      refine qOpIn_mono (fun a' h3 => ih (listed.setIfInBounds j true) a' (inv.set hj hjm) (fun k ok hk hki hkun hno => hfree k ok hk hki ?_ hno) (ready_mono hr (Ne.symm hji)) h3.1 ?_) hstep
      · by_cases hjk : j = k
        · subst hjk; exact hjun
        · rw [getD_set_ne true hjk] at hkun; exact hkun
      · rw [Array.setIfInBounds_comm _ _ hji]
        exact h3.2
theorem headQ_lex {ops : Array Oper} {m g : Nat} {T : Act → Prop} (hsel : Region.noSelect ops = true) (hs : Region.sinkB md ops m = true) (hc : Region.chainB md ops m = true) (hm : m < ops.size) :
    ∀ (h : List Oper) (k : Nat) (listed : Array Bool) (a : Act), (∀ j, j < h.length → h[j]? = ops[k + j]?) → k + h.length = m → HeadInv md ops m listed → Region.lexHead md ops g h.length k listed = true → wpQuietIn F n P ops C T h a →
      headQ F n P md ops C m (fun listed' a' => Region.seqB md ops g m listed' = true ∧ T a') h.length listed a
  | [], k, listed, a, _, hk, _, hB, hq => by
    obtain rfl : k = m := by simpa using hk
    exact ⟨by simpa [Region.lexHead] using hB, hq⟩
  | o :: r, k, listed, a, hl, hk, inv, hB, hq => by
    have h0 : ops[k]? = some o := by simpa using (hl 0 (by simp)).symm
    simp only [List.length_cons, Region.lexHead, Bool.and_eq_true] at hB
    rw [List.length_cons] at hk
    have hr : k ∈ Region.ready md ops listed := by simpa using hB.1.1
    have hst : qOpIn F n P ops C k (wpQuietIn F n P ops C T r) a := by unfold qOpIn; rw [h0]; exact hq
    obtain ⟨v, hy, hK⟩ := yieldsQuiet_of_qOpIn h0 hst
    exact headQ_first h0 (Region.noSelect_spec hsel) hs hc hm (by omega) (fun _ _ hL => seqB_ready hL.1) r.length listed a inv (Region.free_spec h0 hB.1.2) hr hy
      (headQ_lex hsel hs hc hm r (k + 1) _ _ (fun j hj => by have := hl (j + 1) (by simp; omega); simpa [Nat.add_assoc, Nat.add_comm 1 j] using this) (by omega) (inv.set hr (by omega)) hB.2 hK)
theorem seq_sound {ops : Array Oper} {Q' : Exit → Act → World → Prop} : ∀ (r : List Oper) (k : Nat) (listed : Array Bool) (a : Act) (w : World), (∀ j, r[j]? = ops[k + j]?) → Region.seqB md ops r.length k listed = true →
    wpListIn F n P ops Q' r a w → wpAnyIn F n P md ops Q' r.length listed a w
  | [], _, _, _, _, _, hB, h => ⟨by simpa [Region.seqB] using hB, h⟩
  | o :: r, k, listed, a, w, hl, hB, h => by
    have h0 : ops[k]? = some o := by simpa using (hl 0).symm
    simp only [List.length_cons, Region.seqB, Bool.and_eq_true, decide_eq_true_eq] at hB
    refine ⟨fun h1 => (by rw [hB.1] at h1; cases h1), fun i hi => ?_⟩
    rw [hB.1, List.mem_singleton] at hi
    subst hi
    have hw : wpOpIn F n P ops Q' i (wpListIn F n P ops Q' r) a w := by unfold wpOpIn; rw [h0]; exact h
    exact wpOpIn_mono (fun a' w' h' => seq_sound r (i + 1) _ a' w' (fun j => by have := hl (j + 1); simpa [Nat.add_assoc, Nat.add_comm 1 j] using this) hB.2 h') hw
/-- The first m operations are quiet; those behind come in their order. -/
theorem region_quiet_tail {id : Nat} {Q : Exit → Act → World → Prop} {a : Act} {w : World} (m : Nat) (hm : P.follows .mixedOrders = true) (hd : noDef l = true) (hB : Region.lexTailB .any l.toArray m = true) (hC : C w.drew)
    (h : wpQuietIn F n P l.toArray C (fun a' => ∀ w', C w' → wpListIn F n P l.toArray Q (l.drop m) a' w') (l.take m) a) : (Code.region id l.toArray true).wpIn F n P Q a w := by
  simp only [Region.lexTailB, Bool.and_eq_true, decide_eq_true_eq] at hB
  obtain ⟨⟨⟨⟨hsel, hlt⟩, hs⟩, hc⟩, hlex⟩ := hB
  have hlt' : m < l.length := by simpa using hlt
  have htl : (l.take m).length = m := by simp; omega
  have hdl : (l.drop m).length = l.toArray.size - m := by simp
  have inv0 : HeadInv .any l.toArray m (Array.replicate l.toArray.size false) :=
    ⟨by simp, fun j oj _ hl => (by rw [getD_replicate_false] at hl; cases hl), fun t _ ht => getD_in (by simpa using ht) (getD_replicate_false _ _)⟩
  have H := headQ_lex (F := F) (n := n) (P := P) (C := C) (md := .any) (g := l.toArray.size - m) hsel hs hc hlt (l.take m) 0 _ a (fun j hj => by rw [htl] at hj; simp [hj]) (by simpa using htl) inv0 (by rw [htl]; exact hlex) h
  refine wpIn_region_any hm ?_
  have := headQ_sound (Q' := Q) (g := l.toArray.size - m) hd (fun listed a' w' hw' hL => by
    have := seq_sound (F := F) (n := n) (P := P) (md := .any) (Q' := Q) (l.drop m) m listed a' w' (fun j => by simp [List.getElem?_drop]) (by rw [hdl]; exact hL.1) (hL.2 w' hw')
    rwa [hdl] at this) _ _ _ w.drew hC H
  rw [htl, show m + (l.toArray.size - m) = l.toArray.size by omega] at this
  exact this
end
end Go.Proofs.YtbkpbgcbpakpeaaGreatDoor

/- Layer 14: paths, plainly: a text's parts, what is joined, what is cleaned, what lies in what, whiteouts. -/
namespace Go.Proofs.YtbkpbgcbpakpeaaGreatDoor

/-- A text's parts: one byte more. -/
def cutS (c : UInt8) (l : List (List UInt8)) (x : UInt8) : List (List UInt8) := if x = c then l ++ [[]] else l.set (l.length - 1) (l.getD (l.length - 1) [] ++ [x])
def cutL (s : List UInt8) (c : UInt8) : List (List UInt8) := s.foldl (cutS c) [[]]
theorem cutL_nil (c : UInt8) : cutL [] c = [[]] := rfl
theorem cutL_snoc (s : List UInt8) (c x : UInt8) : cutL (s ++ [x]) c = cutS c (cutL s c) x := by simp [cutL]
theorem cutS_length (c : UInt8) (l : List (List UInt8)) (x : UInt8) : (cutS c l x).length = l.length + if x = c then 1 else 0 := by
  unfold cutS
  split <;> simp
theorem cutL_pos (s : List UInt8) (c : UInt8) : 0 < (cutL s c).length := by
  rcases List.eq_nil_or_concat s with rfl | ⟨r, x, rfl⟩
  · exact Nat.one_pos
  · rw [List.concat_eq_append, cutL_snoc, cutS_length]
    have := cutL_pos r c
    omega
termination_by s.length
decreasing_by rename_i h; rw [h]; simp
theorem cutL_le (s : List UInt8) (c : UInt8) : (cutL s c).length ≤ s.length + 1 := by
  rcases List.eq_nil_or_concat s with rfl | ⟨r, x, rfl⟩
  · exact Nat.le_refl _
  · rw [List.concat_eq_append, cutL_snoc, cutS_length, List.length_append, List.length_singleton]
    have := cutL_le r c
    split <;> omega
termination_by s.length
decreasing_by rename_i h; rw [h]; simp
theorem cutL_piece (s : List UInt8) (c : UInt8) : ∀ p ∈ cutL s c, p.length ≤ s.length := by
  rcases List.eq_nil_or_concat s with rfl | ⟨r, x, rfl⟩
  · intro p hp
    rw [cutL_nil, List.mem_singleton] at hp
    subst hp
    exact Nat.le_refl _
  · have ih := cutL_piece r c
    intro p hp
    rw [List.concat_eq_append, cutL_snoc] at hp
    rw [List.concat_eq_append, List.length_append, List.length_singleton]
    unfold cutS at hp
    split at hp
    · rcases List.mem_append.1 hp with hp | hp
      · have := ih p hp; omega
      · rw [List.mem_singleton] at hp; subst hp; exact Nat.zero_le _
    · rcases List.mem_or_eq_of_mem_set hp with hp | rfl
      · have := ih p hp; omega
      · rw [List.length_append, List.length_singleton]
        have hpos := cutL_pos r c
        have := ih ((cutL r c).getD ((cutL r c).length - 1) []) (by rw [List.getD_eq_getElem?_getD, List.getElem?_eq_getElem (by omega)]; exact List.getElem_mem _)
        omega
termination_by s.length
decreasing_by rename_i h; rw [h]; simp
theorem cutL_getD_le (s : List UInt8) (c : UInt8) (k : Nat) : ((cutL s c).getD k []).length ≤ s.length := by
  by_cases h : k < (cutL s c).length
  · exact cutL_piece s c _ (by rw [List.getD_eq_getElem?_getD, List.getElem?_eq_getElem h]; exact List.getElem_mem _)
  · rw [List.getD_eq_getElem?_getD, List.getElem?_eq_none (by omega)]
    exact Nat.zero_le _
theorem cut_take (s : List UInt8) (c : UInt8) {k : Nat} (h : k < s.length) : cutL (s.take (k + 1)) c = cutS c (cutL (s.take k) c) (s.getD k 0) := by
  rw [List.take_succ_eq_append_getElem h, cutL_snoc, List.getD_eq_getElem?_getD, List.getElem?_eq_getElem h]
  rfl
theorem cut_rec (P : List UInt8 → Prop) (h0 : P []) (h1 : ∀ l x, P l → P (l ++ [x])) : ∀ l, P l := fun l => by
  rcases List.eq_nil_or_concat l with rfl | ⟨r, x, rfl⟩
  · exact h0
  · rw [List.concat_eq_append]
    exact h1 r x (cut_rec P h0 h1 r)
termination_by l => l.length
decreasing_by rename_i h; rw [h]; simp
theorem cutS_behind (c x : UInt8) (a : List (List UInt8)) {b : List (List UInt8)} (hb : 0 < b.length) : cutS c (a ++ b) x = a ++ cutS c b x := by
  unfold cutS
  split
  · rw [List.append_assoc]
  · have e1 : (a ++ b).length - 1 = a.length + (b.length - 1) := by rw [List.length_append]; omega
    have e2 : (a ++ b).getD ((a ++ b).length - 1) [] = b.getD (b.length - 1) [] := by
      rw [e1, List.getD_eq_getElem?_getD, List.getD_eq_getElem?_getD, List.getElem?_append_right (by omega), Nat.add_sub_cancel_left]
    rw [e2, e1, List.set_append_right _ _ (by omega), Nat.add_sub_cancel_left]
/-- A text in two, at the byte: its parts. -/
theorem cutL_cons (a : List UInt8) (c : UInt8) (b : List UInt8) : cutL (a ++ c :: b) c = cutL a c ++ cutL b c := by
  refine cut_rec (fun b => cutL (a ++ c :: b) c = cutL a c ++ cutL b c) ?_ (fun l x h => ?_) b
  · rw [cutL_snoc, cutL_nil]
    unfold cutS
    rw [if_pos rfl]
  · rw [show a ++ c :: (l ++ [x]) = (a ++ c :: l) ++ [x] by simp, cutL_snoc, h, cutL_snoc, cutS_behind _ _ _ (cutL_pos l c)]
theorem cutL_one (s : List UInt8) (c : UInt8) : c ∉ s → cutL s c = [s] := by
  refine cut_rec (fun s => c ∉ s → cutL s c = [s]) (fun _ => rfl) (fun l x h hn => ?_) s
  rw [List.mem_append, List.mem_singleton, not_or] at hn
  rw [cutL_snoc, h hn.1]
  unfold cutS
  rw [if_neg (Ne.symm hn.2)]
  rfl
theorem cutL_two {a : List UInt8} {c : UInt8} (b : List UInt8) (h : c ∉ a) : cutL (a ++ c :: b) c = a :: cutL b c := by rw [cutL_cons, cutL_one a c h]; rfl
/-- Where a text is cut. -/
theorem cut_first {c : UInt8} : ∀ {s : List UInt8}, c ∈ s → ∃ a b, s = a ++ c :: b ∧ c ∉ a
  | [], h => by cases h
  | x :: s, h => by
    by_cases hx : x = c
    · exact ⟨[], s, by rw [hx]; rfl, by simp⟩
    · have hm : c ∈ s := by
        rcases List.mem_cons.1 h with e | e
        · exact absurd e.symm hx
        · exact e
      obtain ⟨a, b, e, hn⟩ := cut_first hm
      refine ⟨x :: a, b, by rw [e]; rfl, ?_⟩
      intro h2
      rcases List.mem_cons.1 h2 with e2 | e2
      · exact hx e2.symm
      · exact hn e2
/-- No part has the byte. -/
theorem cutL_noc (s : List UInt8) (c : UInt8) : ∀ p ∈ cutL s c, c ∉ p := by
  refine cut_rec (fun s => ∀ p ∈ cutL s c, c ∉ p) ?_ (fun l x h => ?_) s
  · intro p hp
    rw [cutL_nil, List.mem_singleton] at hp
    subst hp
    simp
  · intro p hp
    rw [cutL_snoc] at hp
    unfold cutS at hp
    split at hp
    · rcases List.mem_append.1 hp with hp | hp
      · exact h p hp
      · rw [List.mem_singleton.1 hp]
        simp
    · rename_i hx
      rcases List.mem_or_eq_of_mem_set hp with hp | rfl
      · exact h p hp
      · rw [List.mem_append, List.mem_singleton, not_or]
        refine ⟨?_, Ne.symm hx⟩
        have hpos := cutL_pos l c
        exact h _ (by rw [List.getD_eq_getElem?_getD, List.getElem?_eq_getElem (by omega)]; exact List.getElem_mem _)
/-- Parts with a / between. -/
def tailL (r : List (List UInt8)) : List UInt8 := (r.map fun y => 47 :: y).flatten
def joinL : List (List UInt8) → List UInt8
  | [] => []
  | x :: r => x ++ tailL r
theorem tailL_snoc (r : List (List UInt8)) (y : List UInt8) : tailL (r ++ [y]) = tailL r ++ 47 :: y := by simp [tailL]
theorem tailL_append (r m : List (List UInt8)) : tailL (r ++ m) = tailL r ++ tailL m := by simp [tailL]
theorem joinL_one (x : List UInt8) : joinL [x] = x := by simp [joinL, tailL]
theorem joinL_snoc {l : List (List UInt8)} (h : l ≠ []) (y : List UInt8) : joinL (l ++ [y]) = joinL l ++ 47 :: y := by
  cases l with
  | nil => exact absurd rfl h
  | cons x r => rw [List.cons_append, joinL, joinL, tailL_snoc, List.append_assoc]
theorem joinL_append {l m : List (List UInt8)} (h : l ≠ []) (h' : m ≠ []) : joinL (l ++ m) = joinL l ++ 47 :: joinL m := by
  cases l with
  | nil => exact absurd rfl h
  | cons x r =>
    cases m with
    | nil => exact absurd rfl h'
    | cons y t =>
      rw [List.cons_append, joinL, joinL, joinL, tailL_append, List.append_assoc]
      congr 1
theorem joinL_grow {l : List (List UInt8)} (m y : List UInt8) : joinL (l ++ [m ++ y]) = joinL (l ++ [m]) ++ y := by
  cases l with
  | nil => rw [List.nil_append, List.nil_append, joinL_one, joinL_one]
  | cons x r => rw [joinL_snoc (by simp), joinL_snoc (by simp), List.append_assoc, List.cons_append]
theorem split_end {l : List (List UInt8)} (h : 0 < l.length) : ∃ m x, l = m ++ [x] := by
  rcases List.eq_nil_or_concat l with rfl | ⟨m, x, rfl⟩
  · simp at h
  · exact ⟨m, x, by rw [List.concat_eq_append]⟩
theorem cutS_end (c : UInt8) (m : List (List UInt8)) (x : List UInt8) (b : UInt8) : cutS c (m ++ [x]) b = if b = c then m ++ [x] ++ [[]] else m ++ [x ++ [b]] := by
  unfold cutS
  split
  · rfl
  · have e : (m ++ [x]).length - 1 = m.length := by simp
    rw [e, List.getD_eq_getElem?_getD, List.getElem?_append_right (Nat.le_refl _), Nat.sub_self]
    simp
/-- What is cut is joined. -/
theorem join_cut (s : List UInt8) : joinL (cutL s 47) = s := by
  refine cut_rec (fun s => joinL (cutL s 47) = s) rfl (fun l b h => ?_) s
  obtain ⟨m, x, hm⟩ := split_end (cutL_pos l 47)
  rw [cutL_snoc, hm, cutS_end]
  rw [hm] at h
  split
  · rename_i hb
    rw [joinL_snoc (by simp), h, hb]
  · rw [joinL_grow, h]
/-- One part: what it does to the parts that stand. -/
def stepP (o : Option (List (List UInt8))) (x : List UInt8) : Option (List (List UInt8)) :=
  match o with
  | none => none
  | some l => if x = [] ∨ x = [46] then some l else if x = [46, 46] then (if l = [] then none else some l.dropLast) else if (0 : UInt8) ∈ x then none else some (l ++ [x])
def foldP (l : List (List UInt8)) : Option (List (List UInt8)) := l.foldl stepP (some [])
theorem fold_none : ∀ l : List (List UInt8), l.foldl stepP none = none
  | [] => rfl
  | _ :: l => fold_none l
theorem foldP_snoc (l : List (List UInt8)) (x : List UInt8) : foldP (l ++ [x]) = stepP (foldP l) x := by simp [foldP]
/-- A path, cleaned: 71 (it leads out, or may not be), 3 (too long), or 0. -/
def cleanR : Option (List (List UInt8)) → List UInt8 × Int
  | none => ([], 71)
  | some l => if 200 < (joinL l).length then ([], 3) else (joinL l, 0)
def cleanL (s : List UInt8) : List UInt8 × Int := cleanR (foldP (cutL s 47))
/-- A part of a clean path. -/
def goodB (x : List UInt8) : Bool := !decide (x = []) && (!decide (x = [46]) && (!decide (x = [46, 46]) && !decide ((0 : UInt8) ∈ x)))
theorem good_iff (x : List UInt8) : goodB x = true ↔ x ≠ [] ∧ x ≠ [46] ∧ x ≠ [46, 46] ∧ (0 : UInt8) ∉ x := by
  unfold goodB
  simp only [Bool.and_eq_true, Bool.not_eq_true', decide_eq_false_iff_not]
/-- Parts of a clean path. -/
def Good (l : List (List UInt8)) : Prop := ∀ x ∈ l, goodB x = true ∧ (47 : UInt8) ∉ x
theorem step_keeps {l l' : List (List UInt8)} {x : List UInt8} (hx : (47 : UInt8) ∉ x) (hl : Good l) (h : stepP (some l) x = some l') : Good l' := by
  unfold stepP at h
  simp only at h
  split at h
  · cases h; exact hl
  · rename_i h1
    rw [not_or] at h1
    split at h
    · split at h
      · cases h
      · cases h
        intro y hy
        exact hl y (List.dropLast_subset l hy)
    · rename_i h3
      split at h
      · cases h
      · rename_i h4
        cases h
        intro y hy
        rcases List.mem_append.1 hy with hy | hy
        · exact hl y hy
        · rw [List.mem_singleton.1 hy]
          exact ⟨(good_iff x).2 ⟨h1.1, h1.2, h3, h4⟩, hx⟩
theorem fold_keeps : ∀ (ps : List (List UInt8)) {l l' : List (List UInt8)}, (∀ x ∈ ps, (47 : UInt8) ∉ x) → Good l → ps.foldl stepP (some l) = some l' → Good l'
  | [], _, _, _, hl, h => by cases h; exact hl
  | x :: ps, l, l', hp, hl, h => by
    rw [List.foldl_cons] at h
    cases e : stepP (some l) x with
    | none => rw [e, fold_none] at h; cases h
    | some m =>
      rw [e] at h
      exact fold_keeps ps (fun y hy => hp y (by simp [hy])) (step_keeps (hp x (by simp)) hl e) h
theorem foldP_good {s : List UInt8} {l : List (List UInt8)} (h : foldP (cutL s 47) = some l) : Good l :=
  fold_keeps _ (cutL_noc s 47) (fun x hx => by cases hx) h
theorem good_len {l : List (List UInt8)} (h : Good l) : 2 * l.length ≤ (joinL l).length + 1 := by
  cases l with
  | nil => simp [joinL]
  | cons x r =>
    have hx := ((good_iff x).1 (h x (by simp)).1).1
    have h1 : 1 ≤ x.length := by cases x with | nil => exact absurd rfl hx | cons a t => simp
    have ht : ∀ r : List (List UInt8), (∀ y ∈ r, goodB y = true) → 2 * r.length ≤ (tailL r).length := by
      intro r
      induction r with
      | nil => intro _; simp [tailL]
      | cons y r ih =>
        intro hr
        have hy := ((good_iff y).1 (hr y (by simp))).1
        have h2 : 1 ≤ y.length := by cases y with | nil => exact absurd rfl hy | cons a t => simp
        have := ih (fun z hz => hr z (by simp [hz]))
        have e : tailL (y :: r) = 47 :: y ++ tailL r := by simp [tailL]
        rw [e, List.length_append, List.length_cons, List.length_cons]
        omega
    have := ht r (fun y hy => (h y (by simp [hy])).1)
    rw [joinL, List.length_append, List.length_cons]
    omega
theorem clean_len (s : List UInt8) : (cleanL s).1.length ≤ 200 := by
  unfold cleanL cleanR
  split
  · simp
  · split
    · simp
    · simp only; omega
/-- Parent, Base, Join, Inside. -/
def parentL (s : List UInt8) : List UInt8 := joinL (cutL s 47).dropLast
def baseL (s : List UInt8) : List UInt8 := (cutL s 47).getD ((cutL s 47).length - 1) []
def join2 (d p : List UInt8) : List UInt8 := if d = [] then p else if p = [] then d else d ++ 47 :: p
def insideB (d p : List UInt8) : Bool := decide (d = []) || (decide (p = d) || decide (d ++ [47] <+: p))
theorem getD_end (m : List (List UInt8)) (x : List UInt8) : (m ++ [x]).getD ((m ++ [x]).length - 1) [] = x := by
  have e : (m ++ [x]).length - 1 = m.length := by simp
  rw [e, List.getD_eq_getElem?_getD, List.getElem?_append_right (Nat.le_refl _), Nat.sub_self]
  rfl
theorem parent_hit (a : List UInt8) {b : List UInt8} (h : (47 : UInt8) ∉ b) : parentL (a ++ 47 :: b) = a ∧ baseL (a ++ 47 :: b) = b := by
  have e : cutL (a ++ 47 :: b) 47 = cutL a 47 ++ [b] := by rw [cutL_cons, cutL_one b 47 h]
  unfold parentL baseL
  rw [e, getD_end, List.dropLast_concat, join_cut]
  exact ⟨rfl, rfl⟩
theorem parent_miss {b : List UInt8} (h : (47 : UInt8) ∉ b) : parentL b = [] ∧ baseL b = b := by
  unfold parentL baseL
  rw [cutL_one b 47 h]
  exact ⟨rfl, rfl⟩
theorem cut_last : ∀ {s : List UInt8}, (47 : UInt8) ∈ s → ∃ a b, s = a ++ 47 :: b ∧ (47 : UInt8) ∉ b
  | [], h => by cases h
  | x :: s, h => by
    by_cases hm : (47 : UInt8) ∈ s
    · obtain ⟨a, b, e, hn⟩ := cut_last hm
      exact ⟨x :: a, b, by rw [e]; rfl, hn⟩
    · rcases List.mem_cons.1 h with e | e
      · exact ⟨[], s, by rw [← e]; rfl, hm⟩
      · exact absurd e hm
/-- Whiteouts. -/
def whB : List UInt8 := [46, 119, 104, 46]
def opqB : List UInt8 := [46, 119, 104, 46, 46, 119, 104, 46, 46, 111, 112, 113]
def mayGoB (n : List UInt8) : Bool := !decide (n = []) && (!decide (n = [46]) && (!decide (n = [46, 46]) && !decide (whB <+: n)))
def whiteL (s : List UInt8) : List UInt8 × Bool × Bool := if s = opqB then ([], true, true) else if (decide (whB <+: s) && mayGoB (s.drop 4)) = true then (s.drop 4, false, true) else ([], false, false)
end Go.Proofs.YtbkpbgcbpakpeaaGreatDoor

