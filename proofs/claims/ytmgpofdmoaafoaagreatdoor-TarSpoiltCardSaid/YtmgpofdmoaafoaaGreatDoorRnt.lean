/- Generic: a region that draws its order, of which some operations were taken first (those that need nothing of the world): of the others a head is quiet, in whatever order, and the end is forced. (It names nothing of the cut.) -/
import Derived.Test.YtmgpofdmoaafoaaGreatDoorRnd
namespace Go.Proofs.YtmgpofdmoaafoaaGreatDoor
open Go

section
variable {F : Fence} {n : Nat} {P : Program} {l : List Oper} {md : Region.Mode} {C : World → Prop}

/-- Each operation ahead of number m that was not taken is waited for by another one, up to number m. -/
def sinkFrom (md : Region.Mode) (ops : Array Oper) (listed : Array Bool) (m : Nat) : Bool :=
  (List.range m).all fun i => listed.getD i false || (List.range (m + 1)).any fun j => decide (i < j) && Region.waitsFor md ops j i
/-- What was taken waited for nothing but such; nothing of the end was taken. -/
def invFrom (md : Region.Mode) (ops : Array Oper) (listed : Array Bool) (m : Nat) : Bool :=
  decide (listed.size = ops.size) && ((List.range ops.size).all fun j => (!listed.getD j false || decide (j < m)) && (!listed.getD j false || match ops[j]? with | some o => o.after.all fun e => !Region.binds md e || listed.getD e.on false | none => true))
theorem invFrom_spec {ops : Array Oper} {listed : Array Bool} {m : Nat} (h : invFrom md ops listed m = true) : HeadInv md ops m listed := by
  unfold invFrom at h
  rw [Bool.and_eq_true, decide_eq_true_eq, List.all_eq_true] at h
  obtain ⟨hs, h⟩ := h
  refine ⟨hs, fun j oj hj hl e he hb => ?_, fun t ht htl => ?_⟩
  · have h1 := h j (List.mem_range.2 (Array.getElem?_eq_some_iff.1 hj).1)
    rw [hl, hj] at h1
    simp only [Bool.not_true, Bool.false_or, Bool.and_eq_true] at h1
    have h2 := Array.all_eq_true'.1 h1.2 e he
    rw [hb] at h2
    simpa using h2
  · have h1 := h t (List.mem_range.2 htl)
    cases hl : listed.getD t true with
    | false => rfl
    | true =>
      have hts : t < listed.size := by omega
      have : listed.getD t false = true := by simp [hts] at hl ⊢; exact hl
      rw [this] at h1
      simp at h1
      omega
theorem tail_waitsL {ops : Array Oper} {m : Nat} {listed0 listed : Array Bool} (hs : sinkFrom md ops listed0 m = true) (h0 : ∀ i, listed0.getD i false = true → listed.getD i false = true) (hc : Region.chainB md ops m = true) (hm : m < ops.size) (inv : HeadInv md ops m listed) :
    ∀ (d i : Nat), m - i = d → i < m → listed.getD i true = false → ∀ t, m ≤ t → t ∉ Region.ready md ops listed := by
  intro d
  induction d using Nat.strongRecOn with
  | _ d ih =>
    intro i hd hi hun t ht hr
    obtain ⟨_, ot, hot, hall⟩ := mem_ready.1 hr
    have htlt : t < ops.size := (Array.getElem?_eq_some_iff.1 hot).1
    by_cases htn : t = m
    · subst htn
      have h1 := List.all_eq_true.1 hs i (List.mem_range.2 hi)
      rw [Bool.or_eq_true] at h1
      rcases h1 with h1 | h1
      · have := getD_both hun
        rw [h0 i h1] at this
        cases this
      · obtain ⟨j, hj, hj2⟩ := List.any_eq_true.1 h1
        simp only [Bool.and_eq_true, decide_eq_true_eq] at hj2
        obtain ⟨oj, hoj, e, he, hb, hon⟩ := Region.waitsFor_spec hj2.2
        have hjle : j ≤ t := by have := List.mem_range.1 hj; omega
        by_cases hjt : j = t
        · subst hjt
          have : oj = ot := Option.some.inj (hoj.symm.trans hot)
          subst this
          have h2 := hall e he hb
          rw [hon, getD_both hun] at h2
          cases h2
        · cases hl : listed.getD j false with
          | true =>
            have h2 := inv.closed j oj hoj hl e he hb
            rw [hon, getD_both hun] at h2
            cases h2
          | false =>
            have hjs : j < listed.size := by rw [inv.size]; omega
            exact ih (t - j) (by omega) j rfl (by omega) (getD_in hjs hl) t (Nat.le_refl _) hr
    · have h1 := List.all_eq_true.1 hc t (List.mem_range.2 htlt)
      simp only [Bool.or_eq_true, decide_eq_true_eq] at h1
      rcases h1 with h1 | h1
      · omega
      · obtain ⟨o', ho', e, he, hb, hon⟩ := Region.waitsFor_spec h1
        have : o' = ot := Option.some.inj (ho'.symm.trans hot)
        subst this
        have h2 := hall e he hb
        rw [hon, getD_both (inv.tail (t - 1) (by omega) (by omega))] at h2
        cases h2
theorem headQ_firstL {ops : Array Oper} {m i : Nat} {oi : Oper} {v : Value} {T : Array Bool → Act → Prop} {listed0 : Array Bool} (hi : ops[i]? = some oi) (hsel : ∀ (j : Nat) (o : Oper) cs b, ops[j]? = some o → o.op ≠ .select cs b)
    (hs : sinkFrom md ops listed0 m = true) (hc : Region.chainB md ops m = true) (hm : m < ops.size) (him : i < m) (hT : ∀ listed a, T listed a → ∀ j ∈ Region.ready md ops listed, m ≤ j) :
    ∀ (f : Nat) (listed : Array Bool) (a : Act), HeadInv md ops m listed → (∀ i, listed0.getD i false = true → listed.getD i false = true) →
      (∀ j oj, ops[j]? = some oj → j ≠ i → listed.getD j true = false → (∀ e ∈ oj.after, Region.binds md e = true → e.on ≠ i) → oi.apart ops oj = true) →
      i ∈ Region.ready md ops listed → YieldsQuiet F n P ops C oi v a →
      headQ F n P md ops C m T f (listed.setIfInBounds i true) (a.put oi.dst v) → headQ F n P md ops C m T (f + 1) listed a := by
  intro f
  induction f with
  | zero =>
    intro listed a inv h0 _ hr hy H
    refine ⟨fun h0 => (by rw [h0] at hr; cases hr), fun j hj => ?_⟩
    have hjm : j < m := Nat.lt_of_not_le fun h => tail_waitsL hs h0 hc hm inv _ i rfl him (mem_ready.1 hr).1 j h hj
    by_cases hji : j = i
    · subst hji; exact ⟨hjm, hy.qOpIn hi H⟩
    · have := hT _ _ H j (ready_mono hj hji)
      omega
  | succ f ih =>
    intro listed a inv h0 hfree hr hy H
    have hun := (mem_ready.1 hr).1
    refine ⟨fun h0 => (by rw [h0] at hr; cases hr), fun j hj => ?_⟩
    have hjm : j < m := Nat.lt_of_not_le fun h => tail_waitsL hs h0 hc hm inv _ i rfl him hun j h hj
    refine ⟨hjm, ?_⟩
    by_cases hji : j = i
    · subst hji; exact hy.qOpIn hi H
    · obtain ⟨hjun, oj, hoj, hall⟩ := mem_ready.1 hj
      have hnot : ∀ e ∈ oj.after, Region.binds md e = true → e.on ≠ i := fun e he hb heq => by
        have h1 := hall e he hb
        rw [heq, getD_both hun] at h1
        cases h1
      have hstep := qOpIn_put hoj (hfree j oj hoj hji hjun hnot) (fun cs b => hsel i oi cs b hi) (fun cs b => hsel j oj cs b hoj) hy (H.2 j (ready_mono hj hji)).2
      refine qOpIn_mono (fun a' h3 => ih (listed.setIfInBounds j true) a' (inv.set hj hjm) (fun k hk => getD_set_true (h0 k hk)) (fun k ok hk hki hkun hno => hfree k ok hk hki ?_ hno) (ready_mono hr (Ne.symm hji)) h3.1 ?_) hstep
      · by_cases hjk : j = k
        · subst hjk; exact hjun
        · rw [getD_set_ne true hjk] at hkun; exact hkun
      · rw [Array.setIfInBounds_comm _ _ hji]
        exact h3.2
/-- The operations of these numbers. -/
def noOper : Oper := ⟨none, .move (.tmp 0), 0, "", #[], none⟩
def pickOps (l : List Oper) (ks : List Nat) : List Oper := ks.map fun k => l.getD k noOper
/-- They may come one behind the other; then the end, in its order. -/
def lexHeadL (md : Region.Mode) (ops : Array Oper) (g m : Nat) : List Nat → Array Bool → Bool
  | [], listed => Region.seqB md ops g m listed
  | k :: ks, listed => decide (k < m) && (Region.ready md ops listed).contains k && Region.free md ops listed k && lexHeadL md ops g m ks (listed.setIfInBounds k true)
theorem headQ_lexL {m g : Nat} {T : Act → Prop} {listed0 : Array Bool} (hsel : Region.noSelect l.toArray = true) (hs : sinkFrom md l.toArray listed0 m = true) (hc : Region.chainB md l.toArray m = true) (hm : m < l.toArray.size) :
    ∀ (ks : List Nat) (listed : Array Bool) (a : Act), HeadInv md l.toArray m listed → (∀ i, listed0.getD i false = true → listed.getD i false = true) → lexHeadL md l.toArray g m ks listed = true → wpQuietIn F n P l.toArray C T (pickOps l ks) a →
      headQ F n P md l.toArray C m (fun listed' a' => Region.seqB md l.toArray g m listed' = true ∧ T a') ks.length listed a
  | [], listed, a, _, _, hB, hq => ⟨hB, hq⟩
  | k :: ks, listed, a, inv, h0, hB, hq => by
    simp only [lexHeadL, Bool.and_eq_true, decide_eq_true_eq] at hB
    obtain ⟨⟨⟨hkm, hr⟩, hf⟩, hB⟩ := hB
    have hr : k ∈ Region.ready md l.toArray listed := by simpa using hr
    obtain ⟨_, o, ho, _⟩ := mem_ready.1 hr
    have ho' : l[k]? = some o := by simpa using ho
    have e : pickOps l (k :: ks) = o :: pickOps l ks := by
      unfold pickOps
      rw [List.map_cons, List.getD_eq_getElem?_getD, ho']
      rfl
    rw [e] at hq
    have hst : qOpIn F n P l.toArray C k (wpQuietIn F n P l.toArray C T (pickOps l ks)) a := by unfold qOpIn; rw [ho]; exact hq
    obtain ⟨v, hy, hK⟩ := yieldsQuiet_of_qOpIn ho hst
    exact headQ_firstL ho (Region.noSelect_spec hsel) hs hc hm hkm (fun _ _ hL => seqB_ready hL.1) ks.length listed a inv h0 (Region.free_spec ho hf) hr hy
      (headQ_lexL hsel hs hc hm ks _ _ (inv.set hr hkm) (fun i hi => getD_set_true (h0 i hi)) hB hK)
/-- The whole check, for the kernel. -/
def tailLB (ops : Array Oper) (listed : Array Bool) (ks : List Nat) (m : Nat) : Bool :=
  Region.noSelect ops && decide (m < ops.size) && sinkFrom .any ops listed m && Region.chainB .any ops m && invFrom .any ops listed m && lexHeadL .any ops (ops.size - m) m ks listed
theorem quiet_tailL {Q : Exit → Act → World → Prop} {a : Act} {w : World} {listed : Array Bool} {f : Nat} (ks : List Nat) (m : Nat) (hd : noDef l = true) (hf : f = ks.length + (l.length - m)) (hB : tailLB l.toArray listed ks m = true) (hC : C w)
    (h : wpQuietIn F n P l.toArray C (fun a' => ∀ w', C w' → wpListIn F n P l.toArray Q (l.drop m) a' w') (pickOps l ks) a) : wpAnyIn F n P .any l.toArray Q f listed a w := by
  simp only [tailLB, Bool.and_eq_true, decide_eq_true_eq] at hB
  obtain ⟨⟨⟨⟨⟨hsel, hlt⟩, hs⟩, hc⟩, hinv⟩, hlex⟩ := hB
  have hdl : (l.drop m).length = l.toArray.size - m := by simp
  have H := headQ_lexL (F := F) (n := n) (P := P) (C := C) (md := .any) (g := l.toArray.size - m) hsel hs hc hlt ks listed a (invFrom_spec hinv) (fun _ h => h) hlex h
  have := headQ_sound (Q' := Q) (g := l.toArray.size - m) hd (fun listed a' w' hw' hL => by
    have := seq_sound (F := F) (n := n) (P := P) (md := .any) (Q' := Q) (l.drop m) m listed a' w' (fun j => by simp [List.getElem?_drop]) (by rw [hdl]; exact hL.1) (hL.2 w' hw')
    rwa [hdl] at this) _ _ _ w hC H
  rw [hf]
  simpa using this
end
end Go.Proofs.YtmgpofdmoaafoaaGreatDoor
