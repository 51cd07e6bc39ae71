/- Layer 16, plainly: what a tree is, node by node; rising paths. -/
import Derived.Test.YtokeiagcdahmaaaDoorTtM
namespace Go.Proofs.YtokeiagcdahmaaaDoor

theorem treeF_iff : ∀ (l a : List Nd), treeF a l = true ↔ ∀ k x, l[k]? = some x → mayN x = true ∧ followN (a ++ l.take k) x.path = true
  | [], a => by simp [treeF]
  | n :: r, a => by
    unfold treeF
    rw [Bool.and_eq_true, Bool.and_eq_true, treeF_iff r (a ++ [n])]
    constructor
    · rintro ⟨h1, h2, h3⟩ k x hx
      cases k with
      | zero =>
        simp only [List.getElem?_cons_zero, Option.some.injEq] at hx
        subst hx
        rw [List.take_zero, List.append_nil]
        exact ⟨h1, h2⟩
      | succ k =>
        rw [List.getElem?_cons_succ] at hx
        have := h3 k x hx
        rw [List.append_assoc] at this
        rw [List.take_succ_cons]
        exact this
    · intro h
      refine ⟨(h 0 n rfl).1, ?_, fun k x hx => ?_⟩
      · have := (h 0 n rfl).2
        rwa [List.take_zero, List.append_nil] at this
      · have := h (k + 1) x (by rw [List.getElem?_cons_succ]; exact hx)
        rw [List.take_succ_cons] at this
        rw [List.append_assoc]
        exact this
theorem treeB_iff (l : List Nd) : treeB l = true ↔ ∀ k x, l[k]? = some x → mayN x = true ∧ followN (l.take k) x.path = true := by
  have := treeF_iff l []
  simpa [treeB] using this
theorem treeB_not {l : List Nd} {k : Nat} {x : Nd} (hx : l[k]? = some x) (h : (mayN x && followN (l.take k) x.path) = false) : treeB l = false := by
  cases e : treeB l
  · rfl
  · obtain ⟨h1, h2⟩ := (treeB_iff l).1 e k x hx
    rw [h1, h2] at h
    cases h
theorem rise_nodes {l : List Nd} (h : ∀ k x, l[k]? = some x → followN (l.take k) x.path = true) : l.Pairwise fun a b => bytesBefore a.path b.path = true := by
  have step : ∀ k (h1 : k + 1 < l.length), bytesBefore (l[k]'(by omega)).path l[k + 1].path = true := fun k h1 => by
    have := h (k + 1) _ (List.getElem?_eq_getElem h1)
    unfold followN at this
    rw [Bool.and_eq_true] at this
    have e : (l.take (k + 1)).getLast? = some (l[k]'(by omega)) := by
      rw [List.getLast?_eq_getElem?, List.length_take, show min (k + 1) l.length - 1 = k by omega, List.getElem?_take, if_pos (by omega), List.getElem?_eq_getElem (by omega)]
    rw [e] at this
    exact this.1
  rw [List.pairwise_iff_getElem]
  intro i j hi hj hij
  obtain ⟨m, rfl⟩ := Nat.le.dest (Nat.succ_le_of_lt hij)
  clear hij
  induction m with
  | zero => exact step i hj
  | succ m ih => exact bb_trans (ih (by omega)) (step (i + 1 + m) (by omega))
theorem rise_take {l : List Nd} {k : Nat} (h : ∀ j x, j < k → l[j]? = some x → followN (l.take j) x.path = true) : (l.take k).Pairwise fun a b => bytesBefore a.path b.path = true := by
  refine rise_nodes fun j x hx => ?_
  rw [List.getElem?_take] at hx
  split at hx
  · rename_i hj
    rw [List.take_take, Nat.min_eq_left (by omega)]
    exact h j x hj hx
  · cases hx
theorem tree_rise {l : List Nd} (h : treeB l = true) : l.Pairwise fun a b => bytesBefore a.path b.path = true := rise_nodes fun k x hx => ((treeB_iff l).1 h k x hx).2
end Go.Proofs.YtokeiagcdahmaaaDoor
#print axioms Go.Proofs.YtokeiagcdahmaaaDoor.rise_take
