/- Layer 8: as few extents as a rising row of blocks makes: plain lemmas. -/
import Derived.Test.YtdngkpdiaeicmaaAmF
namespace Go.Proofs.Ytdngkpdiaeicmaa

/-- The last extent. -/
def lastE (A : List (Nat × Nat)) : Nat × Nat := A.getD (A.length - 1) (0, 0)
/-- One block more. -/
def addB (A : List (Nat × Nat)) (b : Nat) : List (Nat × Nat) :=
  if 0 < A.length ∧ (lastE A).1 + (lastE A).2 = b then A.set (A.length - 1) ((lastE A).1, (lastE A).2 + 1) else A ++ [(b, 1)]
theorem lastE_snoc (A : List (Nat × Nat)) (x : Nat × Nat) : lastE (A ++ [x]) = x := by simp [lastE]
theorem addB_more (A : List (Nat × Nat)) (f c : Nat) : addB (A ++ [(f, c)]) (f + c) = A ++ [(f, c + 1)] := by
  unfold addB
  rw [lastE_snoc, if_pos ⟨by simp, rfl⟩]
  simp
theorem addB_new {A : List (Nat × Nat)} {b : Nat} (h : 0 < A.length → (lastE A).1 + (lastE A).2 ≠ b) : addB A b = A ++ [(b, 1)] := by
  unfold addB
  rw [if_neg (fun hh => h hh.1 hh.2)]
theorem addB_le (A : List (Nat × Nat)) (b : Nat) : (addB A b).length ≤ A.length + 1 := by
  unfold addB
  split
  · rw [List.length_set]; omega
  · simp
def addAll (A : List (Nat × Nat)) (l : List Nat) : List (Nat × Nat) := l.foldl addB A
theorem addAll_snoc (A : List (Nat × Nat)) (l : List Nat) (b : Nat) : addAll A (l ++ [b]) = addB (addAll A l) b := by simp [addAll]
theorem addAll_le (l : List Nat) : ∀ A, (addAll A l).length ≤ A.length + l.length := by
  induction l with
  | nil => intro A; exact Nat.le_refl _
  | cons b r ih =>
    intro A
    have h1 := ih (addB A b)
    have h2 := addB_le A b
    show (addAll (addB A b) r).length ≤ _
    rw [List.length_cons]
    omega
theorem addAll_run (A : List (Nat × Nat)) (f : Nat) : ∀ k c, addAll (A ++ [(f, c)]) (List.range' (f + c) k) = A ++ [(f, c + k)]
  | 0, c => rfl
  | k + 1, c => by
    rw [List.range'_succ]
    show addAll (addB (A ++ [(f, c)]) (f + c)) _ = _
    rw [addB_more, show f + c + 1 = f + (c + 1) by omega, addAll_run A f k (c + 1), show c + 1 + k = c + (k + 1) by omega]
theorem freeF_run {L : List Bool} {i : Nat} : ∀ k, k ≤ runL L i → freeF L i = List.range' i k ++ freeF L (i + k)
  | 0, _ => rfl
  | k + 1, h => by
    have hs := run_free (L := L) (i := i) (j := k) (by omega)
    rw [freeF_run k (by omega), freeF_free (i := i + k) (lt_of_some hs) (getD_some hs), List.range'_1_concat, List.append_assoc]
    rfl
theorem addAll_append (A : List (Nat × Nat)) (l r : List Nat) : addAll A (l ++ r) = addAll (addAll A l) r := by simp [addAll]
theorem low_addAll (L : List Bool) : ∀ d i left A, L.length - i ≤ d → (∀ b ∈ freeF L i, 0 < A.length → (lastE A).1 + (lastE A).2 ≠ b) → addAll A ((freeF L i).take left) = A ++ lowL L i left := by
  intro d
  induction d with
  | zero =>
    intro i left A h _
    rw [freeF_end (by omega), List.take_nil, low_end (.inr (by omega)), List.append_nil]
    rfl
  | succ d ih =>
    intro i left A h hsep
    by_cases h0 : left = 0
    · subst h0
      rw [List.take_zero, low_end (.inl rfl), List.append_nil]
      rfl
    by_cases hi : L.length ≤ i
    · rw [freeF_end hi, List.take_nil, low_end (.inr hi), List.append_nil]
      rfl
    have hlt : i < L.length := by omega
    cases hb : L.getD i false
    · have hrun : 0 < runL L i := by
        by_cases e : 0 < runL L i
        · exact e
        · have := run_stop L i
          rw [show runL L i = 0 by omega] at this
          exact absurd (get_of_getD (by omega) hb) this
      obtain ⟨k, hk⟩ : ∃ k, k = min (runL L i) left := ⟨_, rfl⟩
      have hk0 : 0 < k := by omega
      rw [low_free (by omega) hlt hk hk0, freeF_run k (by omega), List.take_append, List.length_range', List.take_of_length_le (by rw [List.length_range']; omega), addAll_append]
      have e1 : addAll A (List.range' i k) = A ++ [(i, k)] := by
        obtain ⟨j, rfl⟩ : ∃ j, k = j + 1 := ⟨k - 1, by omega⟩
        rw [List.range'_succ]
        show addAll (addB A i) (List.range' (i + 1) j) = _
        rw [addB_new (hsep i (by rw [freeF_free hlt hb]; exact List.mem_cons_self ..)), addAll_run A i j 1, Nat.add_comm 1 j]
      rw [e1]
      by_cases hl : left - k = 0
      · rw [hl, List.take_zero, low_end (.inl rfl)]
        rfl
      · rw [ih (i + k) (left - k) _ (by omega) (fun b hb2 _ => ?_), List.append_assoc, List.singleton_append]
        rw [lastE_snoc]
        obtain ⟨f1, f2, f3⟩ := freeF_in hb2
        intro e
        have hr := run_stop L i
        rw [show runL L i = k by omega, show i + k = b from e] at hr
        exact hr (get_of_getD f2 f3)
    · have hrun : runL L i = 0 := run_is (fun j hj => by omega) (by
        rw [Nat.add_zero]
        intro e
        rw [getD_some e] at hb
        cases hb)
      rw [freeF_used hlt hb, low_used (by omega) hlt hrun]
      exact ih (i + 1) left A (by omega) (by rw [← freeF_used hlt hb]; exact hsep)
theorem low_free_all (L : List Bool) (m : Nat) : addAll [] ((freeF L 0).take m) = lowL L 0 m := by
  rw [low_addAll L L.length 0 m [] (by omega) (fun _ _ h => by simp at h), List.nil_append]
end Go.Proofs.Ytdngkpdiaeicmaa
