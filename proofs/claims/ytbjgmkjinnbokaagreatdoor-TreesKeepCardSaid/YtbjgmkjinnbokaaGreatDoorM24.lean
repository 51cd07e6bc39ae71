/- Merged: VkA, Rnd. -/
import Derived.Test.YtbjgmkjinnbokaaGreatDoorM23
import Derived.Test.YtbjgmkjinnbokaaGreatDoorM20
import Derived.Sort.QuietThIn
import Derived.Sort.BigQuietIn
import Derived.StillTail
import Derived.TacticsIn
/- Layer 16, plainly: what layers come to is a tree. -/
namespace Go.Proofs.YtbjgmkjinnbokaaGreatDoor

/-! ### Paths that may be -/
theorem clean_parent {s : List UInt8} (h : cleanL s = (s, 0)) : cleanL (parentL s) = (parentL s, 0) := by
  obtain ⟨l, _, hg, hs, hl⟩ := clean_some h
  rcases List.eq_nil_or_concat l with rfl | ⟨m, x, rfl⟩
  · rw [hs]
    decide +kernel
  · rw [List.concat_eq_append] at *
    rw [hs, (good_parent hg).1]
    have := shorter hg
    exact clean_join (good_front hg) (by rw [hs] at hl; omega)
theorem parent_split {s : List UInt8} (h : parentL s ≠ []) : ∃ b, s = parentL s ++ 47 :: b := by
  by_cases hm : (47 : UInt8) ∈ s
  · obtain ⟨a, b, rfl, hn⟩ := cut_last hm
    rw [(parent_hit a hn).1]
    exact ⟨b, rfl⟩
  · exact absurd (parent_miss hm).1 h
theorem inside_child {d s : List UInt8} (h : parentL s ≠ []) (hi : insideB d (parentL s) = true) : insideB d s = true := by
  obtain ⟨b, hs⟩ := parent_split h
  generalize parentL s = a at *
  subst hs
  unfold insideB at hi ⊢
  simp only [Bool.or_eq_true, decide_eq_true_eq] at hi ⊢
  rcases hi with h1 | h1 | h1
  · exact .inl h1
  · exact .inr (.inr ⟨b, by rw [h1]; simp⟩)
  · exact .inr (.inr (h1.trans (List.prefix_append ..)))
theorem inside_len {d s : List UInt8} (h : insideB d s = true) (hd : d ≠ []) : d.length ≤ s.length := by
  unfold insideB at h
  simp only [Bool.or_eq_true, decide_eq_true_eq] at h
  rcases h with h1 | h1 | h1
  · exact absurd h1 hd
  · rw [h1]; exact Nat.le_refl _
  · have := h1.length_le
    rw [List.length_append] at this
    omega
theorem inside_up {s : List UInt8} (h : s ≠ []) : insideB s (parentL s) = false := by
  cases e : insideB s (parentL s)
  · rfl
  · have := inside_len e h
    have := parent_lt h
    omega
theorem inside_ne {d s : List UInt8} (hs : s ≠ []) (hi : insideB d (parentL s) = true) : s ≠ d := fun e => by
  subst e
  rw [inside_up hs] at hi
  cases hi

/-! ### What holds of a ground -/
structure KG (B : Nat) (k : Int) (g : List Pl) : Prop where
  r : Rise g
  m : ∀ p ∈ g, mayN p.nd = true
  u : ∀ p ∈ g, parentL p.nd.path = [] ∨ ∃ q ∈ g, q.nd.path = parentL p.nd.path ∧ q.nd.kind = 2 ∧ (p.lay = k → q.lay = k)
  d : ∀ p ∈ g, p.nd.data.length ≤ B
theorem may_ne {n : Nd} (h : mayN n = true) : n.path ≠ [] ∧ cleanL n.path = (n.path, 0) ∧ 0 ≤ n.mode ∧ n.mode ≤ 4095 ∧ (n.kind = 1 ∨ n.kind = 2 ∨ n.kind = 4) ∧ (n.kind = 2 → n.data = []) := by
  unfold mayN at h
  simp only [Bool.and_eq_true, decide_eq_true_eq, Bool.not_eq_true', decide_eq_false_iff_not] at h
  obtain ⟨h1, h2, h3, h4, h5⟩ := h
  refine ⟨h1, h4, h2, h3, ?_⟩
  unfold kindN at h5
  split at h5
  · rename_i e
    exact ⟨.inl e, fun h => by rw [e] at h; cases h⟩
  · split at h5
    · rename_i e
      exact ⟨.inr (.inl e), fun _ => by simpa using h5⟩
    · split at h5
      · rename_i e
        exact ⟨.inr (.inr e), fun h => by rw [e] at h; cases h⟩
      · cases h5
theorem kg_put {B : Nat} {k : Int} {g : List Pl} {n : Nd} (h : KG B k g) (hm : mayN n = true) (hB : n.data.length ≤ B)
    (hu : parentL n.path = [] ∨ ∃ q ∈ g, q.nd.path = parentL n.path ∧ q.nd.kind = 2 ∧ q.lay = k) (hk : n.kind = 2 ∨ ∀ p ∈ g, parentL p.nd.path ≠ n.path) : KG B k (putG g ⟨n, k⟩) where
  r := rise_put h.r _
  m := fun p hp => by
    rcases put_mem.1 hp with rfl | ⟨h1, _⟩
    · exact hm
    · exact h.m p h1
  u := fun p hp => by
    rcases put_mem.1 hp with rfl | ⟨h1, h2⟩
    · rcases hu with hu | ⟨q, q1, q2, q3, q4⟩
      · exact .inl hu
      · refine .inr ⟨q, put_mem.2 (.inr ⟨q1, fun e => ?_⟩), q2, q3, fun _ => q4⟩
        have e1 : parentL n.path = n.path := q2.symm.trans e
        have := parent_lt (may_ne hm).1
        rw [e1] at this
        omega
    · rcases h.u p h1 with hu | ⟨q, q1, q2, q3, q4⟩
      · exact .inl hu
      · by_cases e : q.nd.path = n.path
        · rcases hk with hk | hk
          · exact .inr ⟨⟨n, k⟩, put_mem.2 (.inl rfl), e.symm.trans q2, hk, fun _ => rfl⟩
          · exact absurd (q2.symm.trans e) (hk p h1)
        · exact .inr ⟨q, put_mem.2 (.inr ⟨q1, e⟩), q2, q3, q4⟩
  d := fun p hp => by
    rcases put_mem.1 hp with rfl | ⟨h1, _⟩
    · exact hB
    · exact h.d p h1
theorem kg_out {B : Nat} {k : Int} {g : List Pl} (h : KG B k g) (P : List UInt8) : KG B k (g.filter fun q => !insideB P q.nd.path) where
  r := rise_filter h.r _
  m := fun p hp => h.m p (List.mem_filter.1 hp).1
  u := fun p hp => by
    obtain ⟨h1, h2⟩ := List.mem_filter.1 hp
    rcases h.u p h1 with hu | ⟨q, q1, q2, q3, q4⟩
    · exact .inl hu
    · by_cases he : parentL p.nd.path = []
      · exact .inl he
      · refine .inr ⟨q, List.mem_filter.2 ⟨q1, ?_⟩, q2, q3, q4⟩
        cases e : insideB P q.nd.path
        · rfl
        · rw [q2] at e
          rw [inside_child he e] at h2
          cases h2
  d := fun p hp => h.d p (List.mem_filter.1 hp).1
theorem kg_take {B : Nat} {k : Int} {g : List Pl} (h : KG B k g) (dir name : List UInt8) (o : Bool) : KG B k (takeG k g dir name o) where
  r := rise_filter h.r _
  m := fun p hp => h.m p (List.mem_filter.1 hp).1
  u := fun p hp => by
    obtain ⟨h1, h2⟩ := List.mem_filter.1 hp
    rcases h.u p h1 with hu | ⟨q, q1, q2, q3, q4⟩
    · exact .inl hu
    · by_cases he : parentL p.nd.path = []
      · exact .inl he
      · refine .inr ⟨q, List.mem_filter.2 ⟨q1, ?_⟩, q2, q3, q4⟩
        have hpn := (may_ne (h.m p h1)).1
        by_cases hq : q.lay = k
        · simp [hq]
        · have hp9 : ¬ p.lay = k := fun e => hq (q4 e)
          rw [decide_eq_false hp9] at h2
          rw [decide_eq_false hq, q2]
          cases o
          · rw [if_neg (by decide)] at h2 ⊢
            cases e : insideB (join2 dir name) (parentL p.nd.path)
            · rfl
            · rw [inside_child he e] at h2
              cases h2
          · rw [if_pos rfl] at h2 ⊢
            cases e : insideB dir (parentL p.nd.path)
            · simp
            · rw [inside_child he e, decide_eq_false (inside_ne hpn e)] at h2
              cases h2
  d := fun p hp => h.d p (List.mem_filter.1 hp).1
theorem enterG_kg (B : Nat) (k : Int) : ∀ (n : Nat) (d : List UInt8) (g g' : List Pl), d.length ≤ n → cleanL d = (d, 0) → KG B k g → enterG k d g = some g' →
    KG B k g' ∧ (d = [] ∨ ∃ q ∈ g', q.nd.path = d ∧ q.nd.kind = 2 ∧ q.lay = k)
  | 0, d, g, g', hn, _, hg, h => by
    have : d = [] := List.eq_nil_of_length_eq_zero (by omega)
    subst this
    rw [enterG_nil] at h
    cases h
    exact ⟨hg, .inl rfl⟩
  | n + 1, d, g, g', hn, h2, hg, h => by
    by_cases hd : d = []
    · subst hd
      rw [enterG_nil] at h
      cases h
      exact ⟨hg, .inl rfl⟩
    · rw [enterG_step k hd] at h
      have hp := parent_lt hd
      cases he : enterG k (parentL d) g with
      | none => rw [he] at h; cases h
      | some g1 =>
        rw [he] at h
        obtain ⟨h1, hpar⟩ := enterG_kg B k n (parentL d) g g1 (by omega) (clean_parent h2) hg he
        simp only at h
        cases hl : lookG g1 d with
        | none =>
          rw [hl] at h
          simp only at h
          cases h
          have hmay : mayN ⟨d, 2, 493, []⟩ = true := by
            unfold mayN kindN
            simp [hd, h2]
          exact ⟨kg_put h1 hmay (Nat.zero_le _) hpar (.inl rfl), .inr ⟨_, put_mem.2 (.inl rfl), rfl, rfl, rfl⟩⟩
        | some p =>
          rw [hl] at h
          simp only at h
          obtain ⟨hpg, hpp⟩ := look_some hl
          split at h
          · rename_i hk2
            cases h
            exact ⟨kg_put h1 (h1.m p hpg) (h1.d p hpg) (by rw [hpp]; exact hpar) (.inl hk2), .inr ⟨_, put_mem.2 (.inl rfl), hpp, hk2, rfl⟩⟩
          · cases h
theorem nodeG_is {g : List Pl} {x : En} {p : List UInt8} (h : (nodeG g x p).2 = 0) : (nodeG g x p).1.path = p := by
  have pick : ∀ {n : Nd}, n.path = p → (if mayN n = true then (n, (0 : Int)) else (default, 2)).2 = 0 → (if mayN n = true then (n, (0 : Int)) else (default, 2)).1.path = p := fun {n} hn h => by
    cases hm : mayN n
    · rw [hm] at h; cases h
    · exact hn
  unfold nodeG at h ⊢
  by_cases h3 : x.kind = 3
  · rw [if_pos h3] at h ⊢
    by_cases h4 : (linkedG g x.to).2 = 0
    · rw [if_pos h4] at h ⊢
      exact pick rfl h
    · rw [if_neg h4] at h
      exact absurd h h4
  · rw [if_neg h3] at h ⊢
    exact pick rfl h
theorem linked_data {B : Nat} {g : List Pl} {t : List UInt8} (h : (linkedG g t).2 = 0) (hg : ∀ p ∈ g, p.nd.data.length ≤ B) : (linkedG g t).1.data.length ≤ B := by
  unfold linkedG at h ⊢
  split
  · rename_i h1
    rw [if_pos h1] at h
    cases hl : lookG g (cleanL t).1 with
    | none => rw [hl] at h; cases h
    | some p =>
      rw [hl] at h
      simp only at h ⊢
      split
      · exact hg p (look_some hl).1
      · rename_i h2
        rw [if_neg h2] at h
        cases h
  · rename_i h1
    rw [if_neg h1] at h
    exact absurd h h1
theorem nodeG_data {B : Nat} {g : List Pl} {x : En} {p : List UInt8} (h : (nodeG g x p).2 = 0) (hg : ∀ q ∈ g, q.nd.data.length ≤ B) (h1 : x.data.length ≤ B) (h2 : x.to.length ≤ B) : (nodeG g x p).1.data.length ≤ B := by
  have pick : ∀ {n : Nd}, n.data.length ≤ B → (if mayN n = true then (n, (0 : Int)) else (default, 2)).2 = 0 → (if mayN n = true then (n, (0 : Int)) else (default, 2)).1.data.length ≤ B := fun {n} hn h => by
    cases hm : mayN n
    · rw [hm] at h; cases h
    · exact hn
  unfold nodeG at h ⊢
  by_cases h3 : x.kind = 3
  · rw [if_pos h3] at h ⊢
    by_cases h4 : (linkedG g x.to).2 = 0
    · rw [if_pos h4] at h ⊢
      exact pick (linked_data h4 hg) h
    · rw [if_neg h4] at h
      exact absurd h h4
  · rw [if_neg h3] at h ⊢
    refine pick ?_ h
    show (if x.kind = 1 then x.data else if x.kind = 4 then x.to else []).length ≤ B
    split
    · exact h1
    · split
      · exact h2
      · exact Nat.zero_le _
theorem kg_lay {B : Nat} {k : Int} {g : List Pl} {n : Nd} (h : KG B k g) (hm : mayN n = true) (hB : n.data.length ≤ B)
    (hu : parentL n.path = [] ∨ ∃ q ∈ g, q.nd.path = parentL n.path ∧ q.nd.kind = 2 ∧ q.lay = k) : KG B k (layG k g n) := by
  have hn := (may_ne hm).1
  unfold layG
  cases hd : isDir g n.path && !decide (n.kind = 2)
  · rw [if_neg (by decide)]
    refine kg_put h hm hB hu ?_
    by_cases h2 : n.kind = 2
    · exact .inl h2
    · rw [decide_eq_false h2] at hd
      refine .inr fun p hp e => ?_
      rcases h.u p hp with h3 | ⟨q, q1, q2, q3, _⟩
      · exact hn (e.symm.trans h3)
      · have hl := look_of h.r q1
        unfold isDir at hd
        rw [← e, ← q2, hl] at hd
        simp [q3] at hd
  · rw [if_pos rfl]
    refine kg_put (kg_out h n.path) hm hB ?_ ?_
    · rcases hu with hu | ⟨q, q1, q2, q3, q4⟩
      · exact .inl hu
      · refine .inr ⟨q, List.mem_filter.2 ⟨q1, ?_⟩, q2, q3, q4⟩
        rw [q2, inside_up hn]
        rfl
    · refine .inr fun p hp e => ?_
      obtain ⟨_, h2⟩ := List.mem_filter.1 hp
      have : insideB n.path p.nd.path = true := inside_child (by rw [e]; exact hn) (by rw [e]; unfold insideB; simp)
      rw [this] at h2
      cases h2
theorem step_kg {B : Nat} {k : Int} {g : List Pl} {x : En} (hg : KG B k g) (h1 : x.data.length ≤ B) (h2 : x.to.length ≤ B) (h : (stepT k g x).2 = 0) : KG B k (stepT k g x).1 := by
  by_cases hce : (cleanL x.name).2 = 0
  rotate_left
  · rw [stepT_err hce]
    exact hg
  · by_cases hp : (cleanL x.name).1 = []
    · rw [stepT_root hce hp]
      exact hg
    · have hcc : cleanL (cleanL x.name).1 = ((cleanL x.name).1, 0) := (clean_clean (s := x.name) (by rw [← hce])).2
      cases hw : (whiteL (baseL (cleanL x.name).1)).2.2 with
      | true =>
        rw [stepT_wh rfl hce hp hw]
        exact kg_take hg _ _ _
      | false =>
        rw [stepT_in rfl hce hp hw] at h ⊢
        cases he : enterG k (parentL (cleanL x.name).1) g with
        | none => rw [he] at h; cases h
        | some g1 =>
          rw [he] at h
          obtain ⟨h3, hpar⟩ := enterG_kg B k _ (parentL (cleanL x.name).1) g g1 (Nat.le_refl _) (clean_parent hcc) hg he
          simp only at h ⊢
          split at h
          · rename_i h4
            rw [if_pos h4]
            exact kg_lay h3 (nodeG_may h4) (nodeG_data h4 h3.d h1 h2) (by rw [nodeG_is h4]; exact hpar)
          · rename_i h4
            exact absurd h h4
theorem steps_kg {B : Nat} {k : Int} : ∀ (l : List En) {g : List Pl}, KG B k g → (∀ x ∈ l, x.data.length ≤ B ∧ x.to.length ≤ B) → (stepsT k g l).2 = 0 → KG B k (stepsT k g l).1
  | [], _, hg, _, _ => hg
  | x :: r, g, hg, hx, h => by
    rw [stepsT_cons] at h ⊢
    by_cases h0 : (stepT k g x).2 = 0
    · rw [if_pos h0] at h ⊢
      have := hx x (by simp)
      exact steps_kg r (step_kg hg this.1 this.2 h0) (fun y hy => hx y (by simp [hy])) h
    · rw [if_neg h0] at h
      exact absurd h h0
theorem pair_ne {l : List Nd} (h : treeB l = true) : l.Pairwise fun a b => a.path ≠ b.path := (tree_rise h).imp fun h => bb_ne h
theorem findN_mem {l : List Nd} (h : l.Pairwise fun a b => a.path ≠ b.path) {n : Nd} (hn : n ∈ l) : findN l n.path = some n := by
  induction l with
  | nil => cases hn
  | cons y r ih =>
    obtain ⟨h1, h2⟩ := List.pairwise_cons.1 h
    unfold findN
    rw [List.find?_cons]
    rcases List.mem_cons.1 hn with rfl | hn
    · simp
    · rw [decide_eq_false (h1 n hn)]
      exact ih h2 hn
theorem ground_mem {l : List Nd} (h : treeB l = true) {p : Pl} : p ∈ groundOf l ↔ p.lay = 0 ∧ p.nd ∈ l := by
  have hl := ground_look l (pair_ne h)
  constructor
  · intro hp
    have h1 := look_of (ground_rise l) hp
    rw [hl] at h1
    cases hf : findN l p.nd.path with
    | none => rw [hf] at h1; cases h1
    | some n =>
      rw [hf] at h1
      cases h1
      exact ⟨rfl, List.mem_of_find?_eq_some hf⟩
  · rintro ⟨h1, h2⟩
    have h3 := hl p.nd.path
    rw [findN_mem (pair_ne h) h2] at h3
    have h4 : (⟨p.nd, 0⟩ : Pl) ∈ groundOf l := (look_some h3).1
    have : (⟨p.nd, 0⟩ : Pl) = p := by
      cases p
      simp only at h1
      rw [h1]
    rwa [this] at h4
theorem kg_ground {B : Nat} {k : Int} {l : List Nd} (h : treeB l = true) (hB : ∀ n ∈ l, n.data.length ≤ B) : KG B k (groundOf l) where
  r := ground_rise l
  m := fun p hp => tree_may h _ ((ground_mem h).1 hp).2
  u := fun p hp => by
    obtain ⟨h1, h2⟩ := (ground_mem h).1 hp
    obtain ⟨i, hi⟩ := List.mem_iff_getElem?.1 h2
    have h3 := ((treeB_iff l).1 h i _ hi).2
    unfold followN at h3
    rw [Bool.and_eq_true, Bool.or_eq_true, decide_eq_true_eq, List.any_eq_true] at h3
    rcases h3.2 with h4 | ⟨m, hm, h5⟩
    · exact .inl h4
    · rw [decide_eq_true_eq] at h5
      exact .inr ⟨⟨m, 0⟩, (ground_mem h).2 ⟨rfl, List.mem_of_mem_take hm⟩, h5.1, h5.2, fun e => by rw [h1] at e; exact e⟩
  d := fun p hp => hB _ ((ground_mem h).1 hp).2
theorem kg_check {B : Nat} {k : Int} {g : List Pl} (h : KG B k g) (hl : g.length ≤ 400) : checkT (g.map Pl.nd) = 0 :=
  tree_of h.r h.m (fun p hp => (h.u p hp).imp id fun ⟨q, q1, q2, q3, _⟩ => ⟨q, q1, q2, q3⟩) hl
/-- What a layer comes to, laid over a tree. -/
theorem apply_kg {B : Nat} {l : List Nd} {x : List En} (hl : checkT l = 0) (hB : ∀ n ∈ l, n.data.length ≤ B) (hx : ∀ y ∈ x, y.data.length ≤ B ∧ y.to.length ≤ B) (h : (applyT l x).2 = 0) :
    ∃ g, KG B 1 g ∧ g.length ≤ 400 ∧ x.length ≤ 200 ∧ stepsT 1 (groundOf l) x = (g, 0) ∧ applyT l x = (g.map Pl.nd, 0) := by
  obtain ⟨h4, ht⟩ := check_zero hl
  by_cases h2 : (laysT 1 (groundOf l) x).2 = 0
  rotate_left
  · rw [applyT_no hl h2] at h
    exact absurd h h2
  · have ho := (laysT_ok (ok_ground (tree_may ht)) h2).2
    have ha := applyT_ok hl h2
    unfold laysT at h2 ho ha
    by_cases h3 : 200 < x.length
    · rw [if_pos h3] at h2; cases h2
    rw [if_neg h3] at h2 ho ha
    by_cases h5 : (stepsT 1 (groundOf l) x).2 = 0
    rotate_left
    · rw [if_neg h5] at h2
      exact absurd h2 h5
    rw [if_pos h5] at h2 ho ha
    by_cases h6 : 400 < (stepsT 1 (groundOf l) x).1.length
    · rw [if_pos h6] at h2; cases h2
    rw [if_neg h6] at ho ha
    exact ⟨_, steps_kg x (kg_ground ht hB) hx h5, by omega, by omega, by rw [← h5], ha⟩
end Go.Proofs.YtbjgmkjinnbokaaGreatDoor
#print axioms Go.Proofs.YtbjgmkjinnbokaaGreatDoor.apply_kg

/- Generic: a region that draws its order, in a fence, in a round too: all of it quiet, or all but a forced end, under any class of worlds. (It names nothing of the cut.) -/
namespace Go.Proofs.YtbjgmkjinnbokaaGreatDoor
open Go

/-- A wide fence lets every call through, in a round too. -/
theorem wide_fn (f : FuncId) : Fence.wide.fn f = True := eq_true trivial
theorem round_fn (l : Nat) (f : FuncId) : (Fence.wide.inRound l).fn f = True := eq_true trivial
/-- No operation puts a call off. -/
def noDef (l : List Oper) : Bool := l.all fun o => match o.op with | .defer _ => false | _ => true
theorem noDef_at {l : List Oper} (h : noDef l = true) {i : Nat} {o : Oper} (ho : l.toArray[i]? = some o) : ∀ c, o.op ≠ .defer c := by
  intro c hc
  have hm : o ∈ l := List.mem_of_getElem? (by simpa using ho)
  have := List.all_eq_true.1 h o hm
  rw [hc] at this
  cases this
section
variable {F : Fence} {n : Nat} {P : Program} {l : List Oper} {md : Region.Mode} {C : World → Prop}

theorem op_quiet {o : Oper} {a : Act} {K : Act → Prop} {K' : Act → World → Prop} {Q' : Exit → Act → World → Prop} {w : World} (hd : ∀ c, o.op ≠ .defer c) (hw : C w) (h : ∀ a w', C w' → K a → K' a w')
    (ha : o.askedIn F P a C) (hq : o.quietIn F n P a C K) : o.wpIn F n P a w K' Q' := by
  obtain ⟨v, hv, hk⟩ := hq
  have hv := hv w hw
  unfold Oper.quietAtIn at hv
  refine ⟨ha w hw, ?_⟩
  rw [Oper.semAt_eq _ _ _ hd]
  cases hr : (execOp a.eval o).run P w with
  | halt x w' => rw [hr] at hv; exact hv.elim
  | ok x w' =>
    rw [hr] at hv
    cases x with
    | value u => obtain ⟨rfl, rfl⟩ := hv; exact h _ _ hw hk
    | skip => obtain ⟨rfl, rfl⟩ := hv; exact h _ _ hw hk
    | enter f args =>
      obtain ⟨rfl, hdep, hc⟩ := hv
      exact ⟨hdep, hc.mono fun e w'' hh => by obtain ⟨rfl, hC⟩ := hh; exact h _ _ hC hk⟩
    | _ => exact hv.elim
theorem wpOp_quiet {i : Nat} {a : Act} {K : Act → Prop} {K' : Act → World → Prop} {Q' : Exit → Act → World → Prop} {w : World} (hd : noDef l = true) (hw : C w) (h : ∀ a w', C w' → K a → K' a w')
    (hq : qOpIn F n P l.toArray C i K a) : wpOpIn F n P l.toArray Q' i K' a w := by
  unfold qOpIn at hq
  unfold wpOpIn
  cases ho : l.toArray[i]? with
  | none => rw [ho] at hq; exact h _ _ hw hq
  | some o =>
    rw [ho] at hq
    obtain ⟨ha, hq⟩ := hq
    by_cases hg : Region.wanted o (yielded l.toArray a.tmps) = true
    · simp only [hg, if_true] at hq ⊢; exact op_quiet (noDef_at hd ho) hw h ha hq
    · simp only [hg, Bool.false_eq_true, if_false] at hq ⊢; exact ⟨ha w hw, h _ _ hw hq⟩
theorem wpAny_quietR {Q : Act → Prop} {Q' : Exit → Act → World → Prop} (hd : noDef l = true) (hQ : ∀ a w, C w → Q a → Q' .normal a w) : ∀ (f : Nat) (listed : Array Bool) (a : Act) (w : World), C w →
    wpAnyQIn F n P md l.toArray C Q f listed a → wpAnyIn F n P md l.toArray Q' f listed a w
  | 0, _, _, _, hw, h => ⟨h.1, hQ _ _ hw h.2⟩
  | f + 1, _, _, _, hw, h => ⟨fun h0 => hQ _ _ hw (h.1 h0), fun i hi => wpOp_quiet hd hw (fun a' w' hw' hk => wpAny_quietR hd hQ f _ a' w' hw' hk) (h.2 i hi)⟩
/-- All of it is quiet. -/
theorem region_quiet {id : Nat} {Q : Exit → Act → World → Prop} {a : Act} {w : World} (hm : P.follows .mixedOrders = true) (hd : noDef l = true) (hB : Region.lexB .any l.toArray = true) (hC : C w.drew)
    (h : wpQuietIn F n P l.toArray C (fun a' => ∀ w', C w' → Q .normal a' w') l a) : (Code.region id l.toArray true).wpIn F n P Q a w := by
  simp only [Region.lexB, Bool.and_eq_true] at hB
  refine wpIn_region_any hm (wpAny_quietR (Q := fun a' => ∀ w', C w' → Q .normal a' w') hd (fun _ w' hw' h => h w' hw') _ _ _ w.drew hC ?_)
  have := wpAnyQIn_lex (F := F) (n := n) (P := P) (C := C) (md := .any) hB.1 l 0 (Array.replicate l.toArray.size false) a (by simp) (by simpa using hB.2) h
  simpa using this
/-! ### All but a forced end -/
end
end Go.Proofs.YtbjgmkjinnbokaaGreatDoor

