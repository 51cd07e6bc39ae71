/- Merged: TuC, UvA. -/
import Derived.Test.YtbkpbgcbpakpeaaGreatDoorM32
import Derived.Test.YtbkpbgcbpakpeaaGreatDoorM31
import Derived.Test.YtbkpbgcbpakpeaaGreatDoorM26
/- Layer 16, plainly: a family of small trees; what a layer takes away of them. -/
namespace Go.Proofs.YtbkpbgcbpakpeaaGreatDoor

/-! ### The family's paths -/
/-! ### A tree, told by what is there -/
theorem tree_of {g : List Pl} (hr : Rise g) (hm : ∀ p ∈ g, mayN p.nd = true) (hp : ∀ p ∈ g, parentL p.nd.path = [] ∨ ∃ q ∈ g, q.nd.path = parentL p.nd.path ∧ q.nd.kind = 2) (hlen : g.length ≤ 400) : checkT (g.map Pl.nd) = 0 := by
  have hrm := rise_map hr
  unfold checkT
  rw [if_neg (by rw [List.length_map]; omega), if_pos]
  rw [treeB_iff]
  intro k x hx
  rw [List.getElem?_map] at hx
  cases hg : g[k]? with
  | none => rw [hg] at hx; cases hx
  | some p =>
    rw [hg] at hx
    cases hx
    have hpg := List.mem_of_getElem? hg
    refine ⟨hm p hpg, ?_⟩
    unfold followN
    rw [Bool.and_eq_true]
    obtain ⟨hk, hge⟩ := List.getElem?_eq_some_iff.1 hg
    constructor
    · cases hl : ((g.map Pl.nd).take k).getLast? with
      | none => rfl
      | some m =>
        have hmem := List.mem_of_getLast? hl
        obtain ⟨j, hj, rfl⟩ := List.getElem_of_mem hmem
        rw [List.length_take, List.length_map] at hj
        have := List.pairwise_iff_getElem.1 hrm j k (by rw [List.length_map]; omega) (by rw [List.length_map]; omega) (by omega)
        simp only [List.getElem_take, List.getElem_map] at this ⊢
        rw [hge] at this
        exact this
    · rcases hp p hpg with h | ⟨q, hq, hqp, hqk⟩
      · rw [decide_eq_true h]; rfl
      · rw [Bool.or_eq_true]
        right
        rw [List.any_eq_true]
        obtain ⟨j, hj, hqe⟩ := List.getElem_of_mem hq
        have hpar : bytesBefore q.nd.path p.nd.path = true := by
          rw [hqp]
          by_cases hm47 : (47 : UInt8) ∈ p.nd.path
          · obtain ⟨a, b, he, hn⟩ := cut_last hm47
            rw [he, (parent_hit a hn).1]
            exact bb_pre a (47 :: b) (by simp)
          · rw [(parent_miss hm47).1]
            have := hm p hpg
            unfold mayN at this
            simp only [Bool.and_eq_true, Bool.not_eq_true', decide_eq_false_iff_not] at this
            cases hpp : p.nd.path with
            | nil => exact absurd hpp this.1
            | cons y r => rfl
        have hjk : j < k := by
          rcases Nat.lt_trichotomy j k with h | h | h
          · exact h
          · subst h
            rw [hge] at hqe
            rw [hqe, bb_irr] at hpar
            cases hpar
          · have := List.pairwise_iff_getElem.1 hr k j hk hj h
            rw [hge, hqe] at this
            rw [bb_asym this] at hpar
            cases hpar
        refine ⟨q.nd, ?_, decide_eq_true ⟨hqp, hqk⟩⟩
        rw [List.mem_take_iff_getElem]
        exact ⟨j, by rw [List.length_map]; omega, by simp [hqe]⟩
theorem ground_look : ∀ (l : List Nd), l.Pairwise (fun a b => a.path ≠ b.path) → ∀ s, lookG (groundOf l) s = (findN l s).map fun n => ⟨n, 0⟩ := by
  refine cut_recN (fun l => l.Pairwise (fun a b => a.path ≠ b.path) → ∀ s, lookG (groundOf l) s = (findN l s).map fun n => ⟨n, 0⟩) (fun _ _ => rfl) (fun l x ih h s => ?_)
  rw [List.pairwise_append] at h
  rw [ground_snoc, look_put (ground_rise l), ih h.1 s]
  unfold findN
  rw [List.find?_append]
  split
  · rename_i e
    have e1 : l.find? (fun n => decide (n.path = s)) = none := by
      rw [List.find?_eq_none]
      intro y hy
      have := h.2.2 y hy x (by simp)
      rw [e]
      simpa using this
    rw [e1, e]
    simp
  · rename_i e
    have e2 : ([x] : List Nd).find? (fun n => decide (n.path = s)) = none := by
      rw [List.find?_eq_none]
      intro y hy
      rw [List.mem_singleton.1 hy]
      simpa using fun h => e h.symm
    rw [e2]
    cases l.find? (fun n => decide (n.path = s)) <;> rfl
end Go.Proofs.YtbkpbgcbpakpeaaGreatDoor
#print axioms Go.Proofs.YtbkpbgcbpakpeaaGreatDoor.ground_look

/- Layer 16, plainly: the document's Check is the program's. -/
namespace Go.Proofs.YtbkpbgcbpakpeaaGreatDoor

theorem rise_of {l : List Nd} (h : ∀ k x, l[k]? = some x → riseAt l k x = true) : l.Pairwise fun a b => bytesBefore a.path b.path = true := by
  have step : ∀ k (h1 : k + 1 < l.length), bytesBefore (l[k]'(by omega)).path l[k + 1].path = true := fun k h1 => by
    have := h (k + 1) _ (List.getElem?_eq_getElem h1)
    unfold riseAt at this
    rw [Nat.add_sub_cancel, List.getElem?_eq_getElem (show k < l.length by omega)] at this
    simpa using this
  rw [List.pairwise_iff_getElem]
  intro i j hi hj hij
  obtain ⟨m, rfl⟩ := Nat.le.dest (Nat.succ_le_of_lt hij)
  clear hij
  induction m with
  | zero => exact step i hj
  | succ m ih => exact bb_trans (ih (by omega)) (step (i + 1 + m) (by omega))
theorem find_mem {l : List Nd} {p : List UInt8} {m : Nd} (h : findR l p = some m) : m ∈ l ∧ m.path = p := by
  unfold findR at h
  exact ⟨List.mem_of_find?_eq_some h, by simpa using List.find?_some h⟩
theorem find_rise {l : List Nd} (hr : l.Pairwise fun a b => bytesBefore a.path b.path = true) {m : Nd} (hm : m ∈ l) : findR l m.path = some m := by
  unfold findR
  cases h : l.find? fun n => decide (n.path = m.path) with
  | none =>
    have := List.find?_eq_none.1 h m hm
    simp at this
  | some m' =>
    have h1 := List.mem_of_find?_eq_some h
    have h2 : m'.path = m.path := by simpa using List.find?_some h
    obtain ⟨i, hi, rfl⟩ := List.getElem_of_mem hm
    obtain ⟨j, hj, rfl⟩ := List.getElem_of_mem h1
    rcases Nat.lt_trichotomy i j with h3 | h3 | h3
    · have := List.pairwise_iff_getElem.1 hr i j hi hj h3
      rw [h2, bb_irr] at this
      cases this
    · subst h3; rfl
    · have := List.pairwise_iff_getElem.1 hr j i hj hi h3
      rw [h2, bb_irr] at this
      cases this
theorem good_tree {l : List Nd} (h4 : l.length ≤ 400) : (∀ k x, l[k]? = some x → goodAt l k x = true) ↔ treeB l = true := by
  constructor
  · intro h
    have h1 : ∀ k x, l[k]? = some x → mayN x = true ∧ riseAt l k x = true ∧ upAt l x = true := fun k x hx => by
      have := h k x hx
      unfold goodAt at this
      rw [Bool.and_eq_true, Bool.and_eq_true] at this
      exact this
    have hr := rise_of fun k x hx => (h1 k x hx).2.1
    have hmem : ∀ x ∈ l, mayN x = true ∧ upAt l x = true := fun x hx => by
      obtain ⟨k, hk⟩ := List.mem_iff_getElem?.1 hx
      exact ⟨(h1 k x hk).1, (h1 k x hk).2.2⟩
    obtain ⟨g, hg⟩ : ∃ g : List Pl, g = l.map fun n => ⟨n, 0⟩ := ⟨_, rfl⟩
    have hgl : g.map Pl.nd = l := by rw [hg, List.map_map]; exact List.map_id' _
    have ht := tree_of (g := g) (by
        unfold Rise
        rw [hg, List.pairwise_map]
        exact hr) (fun p hp => by
        rw [hg] at hp
        obtain ⟨n, hn, rfl⟩ := List.mem_map.1 hp
        exact (hmem n hn).1) (fun p hp => by
        rw [hg] at hp
        obtain ⟨n, hn, rfl⟩ := List.mem_map.1 hp
        have hu := (hmem n hn).2
        unfold upAt at hu
        rw [Bool.or_eq_true, decide_eq_true_eq] at hu
        rcases hu with hu | hu
        · exact .inl hu
        · cases hf : findR l (parentL n.path) with
          | none => rw [hf] at hu; exact absurd hu (by simp [kdOk])
          | some m =>
            rw [hf] at hu
            obtain ⟨m1, m2⟩ := find_mem hf
            exact .inr ⟨⟨m, 0⟩, by rw [hg]; exact List.mem_map.2 ⟨m, m1, rfl⟩, m2, by simpa [kdOk] using hu⟩) (by rw [hg, List.length_map]; exact h4)
    rw [hgl] at ht
    unfold checkT at ht
    rw [if_neg (by omega)] at ht
    cases hb : treeB l
    · rw [hb] at ht; cases ht
    · rfl
  · intro h k x hx
    have hr := tree_rise h
    obtain ⟨h1, h2⟩ := (treeB_iff l).1 h k x hx
    unfold followN at h2
    rw [Bool.and_eq_true, Bool.or_eq_true, decide_eq_true_eq] at h2
    unfold goodAt
    rw [h1, Bool.true_and, Bool.and_eq_true]
    have hk := (List.getElem?_eq_some_iff.1 hx).1
    constructor
    · unfold riseAt
      by_cases h0 : k = 0
      · rw [decide_eq_true h0]; rfl
      · rw [decide_eq_false h0, Bool.false_or]
        have e : (l.take k).getLast? = l[k - 1]? := by
          rw [List.getLast?_eq_getElem?, List.length_take, show min k l.length - 1 = k - 1 by omega, List.getElem?_take, if_pos (by omega)]
        rw [e] at h2
        cases hp : l[k - 1]? with
        | none => rw [List.getElem?_eq_none_iff] at hp; omega
        | some m =>
          rw [hp] at h2
          exact h2.1
    · unfold upAt
      rw [Bool.or_eq_true, decide_eq_true_eq]
      rcases h2.2 with h3 | h3
      · exact .inl h3
      · right
        rw [List.any_eq_true] at h3
        obtain ⟨m, hm, hd⟩ := h3
        rw [decide_eq_true_eq] at hd
        have hf := find_rise hr (List.mem_of_mem_take hm)
        rw [hd.1] at hf
        rw [hf]
        show decide (m.kind = 2) = true
        exact decide_eq_true hd.2
end Go.Proofs.YtbkpbgcbpakpeaaGreatDoor

