/- Layer 8: what is taken was not in use, is apart, and given back all is as it was: plain lemmas. -/
import Derived.Test.YtdngkpdiaeicmaaAlcM
namespace Go.Proofs.Ytdngkpdiaeicmaa

/-- Extents of blocks that are not in use, rising, that do not touch, from lo on. -/
def Apart (L : List Bool) : Nat → List (Nat × Nat) → Prop
  | _, [] => True
  | lo, x :: r => lo ≤ x.1 ∧ 1 ≤ x.2 ∧ x.1 + x.2 ≤ L.length ∧ (∀ j, j < x.2 → L[x.1 + j]? = some false) ∧ Apart L (x.1 + x.2 + 1) r
def sumL : List (Nat × Nat) → Nat
  | [] => 0
  | x :: r => x.2 + sumL r
theorem Apart.up {L : List Bool} {lo lo' : Nat} {l : List (Nat × Nat)} (h : Apart L lo l) (hl : lo' ≤ lo) : Apart L lo' l := by
  cases l with
  | nil => trivial
  | cons x r => exact ⟨Nat.le_trans hl h.1, h.2⟩
theorem greedy_apart (L : List Bool) : ∀ (f i t : Nat), Apart L i (greedyL L f i t) := by
  intro f
  induction f using Nat.strongRecOn with
  | _ f ih =>
    intro i t
    cases f with
    | zero => trivial
    | succ f =>
      rw [greedyL]
      split
      · trivial
      · split
        · exact (ih f (by omega) (i + 1) t).up (by omega)
        · rename_i h1 h2
          have hr := run_le L i
          refine ⟨Nat.le_refl _, by show 1 ≤ min (runL L i) t; omega, by show i + min (runL L i) t ≤ _; omega, fun j hj => run_free (L := L) (i := i) (j := j) (by have : j < min (runL L i) t := hj; omega), ?_⟩
          show Apart L (i + min (runL L i) t + 1) _
          cases f with
          | zero => trivial
          | succ f =>
            rw [greedyL]
            split
            · trivial
            · rename_i h3
              have hm : min (runL L i) t = runL L i := by omega
              have h0 : runL L (i + runL L i) = 0 := run_is (fun j hj => by omega) (run_stop L i)
              rw [hm] at h3 ⊢
              rw [if_pos (by omega)]
              exact ih f (by omega) _ _
def freeN (L : List Bool) (i : Nat) : Nat := (L.drop i).countP (!·)
theorem freeN_end {L : List Bool} {i : Nat} (h : L.length ≤ i) : freeN L i = 0 := by
  unfold freeN; rw [List.drop_eq_nil_of_le h]; rfl
theorem freeN_here {L : List Bool} {i : Nat} (h : i < L.length) : freeN L i = (if L[i] then 0 else 1) + freeN L (i + 1) := by
  unfold freeN
  rw [List.drop_eq_getElem_cons h, List.countP_cons]
  cases L[i] <;> simp <;> omega
theorem freeN_run (L : List Bool) (i : Nat) : ∀ k, k ≤ runL L i → freeN L i = k + freeN L (i + k)
  | 0, _ => by simp
  | k + 1, h => by
    rw [freeN_run L i k (by omega)]
    have hf := run_free (L := L) (i := i) (j := k) (by omega)
    obtain ⟨hl, he⟩ := List.getElem?_eq_some_iff.1 hf
    rw [freeN_here hl, he, show i + (k + 1) = i + k + 1 by omega]
    simp; omega
theorem greedy_sum (L : List Bool) : ∀ (f i t : Nat), L.length < f + i → t ≤ freeN L i → sumL (greedyL L f i t) = t
  | 0, i, t, h, ht => by
    rw [freeN_end (by omega)] at ht
    obtain rfl : t = 0 := by omega
    rfl
  | f + 1, i, t, h, ht => by
    rw [greedyL]
    split
    · rename_i h1
      rcases h1 with h1 | h1
      · rw [h1]; rfl
      · rw [freeN_end h1] at ht
        obtain rfl : t = 0 := by omega
        rfl
    · rename_i h1
      split
      · rename_i h2
        have h0 : runL L i = 0 := by omega
        have hs := run_stop L i
        rw [h0, Nat.add_zero, List.getElem?_eq_getElem (by omega)] at hs
        rw [freeN_here (by omega)] at ht
        have : L[i]'(by omega) = true := by
          cases hb : L[i]'(by omega) with
          | false => rw [hb] at hs; exact absurd rfl hs
          | true => rfl
        rw [this] at ht
        exact greedy_sum L f (i + 1) t (by omega) (by simpa using ht)
      · rename_i h2
        show min (runL L i) t + sumL _ = t
        rw [freeN_run L i (min (runL L i) t) (by omega)] at ht
        rw [greedy_sum L f _ _ (by omega) (by omega)]
        omega
theorem freeN_zero (L : List Bool) : freeN L 0 + usedL L = L.length := by
  unfold freeN usedL
  rw [List.drop_zero]
  induction L with
  | nil => rfl
  | cons b L ih =>
    rw [List.countP_cons, List.countP_cons, List.length_cons]
    cases b <;> simp <;> omega
theorem exts_apart {L : List Bool} {n : Nat} (hn : 1 ≤ n) : Apart L 0 (extsL L n) := by
  unfold extsL
  cases h : firstL L n with
  | none => exact greedy_apart L _ _ _
  | some i =>
    obtain ⟨h1, h2, _⟩ := first_in h
    have := run_le L i
    exact ⟨Nat.zero_le _, hn, by show i + n ≤ _; omega, fun j hj => run_free (L := L) (i := i) (j := j) (by have : j < n := hj; omega), trivial⟩
theorem exts_sum {L : List Bool} {n : Nat} (hn : n + usedL L ≤ L.length) : sumL (extsL L n) = n := by
  unfold extsL
  cases h : firstL L n with
  | none =>
    have := freeN_zero L
    exact greedy_sum L _ _ _ (by omega) (by omega)
  | some i => rfl
/-! ### Marks -/
def inL (l : List (Nat × Nat)) (j : Nat) : Bool := l.any (fun x => decide (x.1 ≤ j) && decide (j < x.1 + x.2))
theorem markN_getD' (L : List Bool) (f : Nat) (b : Bool) (k j : Nat) : (markN L f b k).getD j false = if f ≤ j ∧ j < f + k ∧ j < L.length then b else L.getD j false := by
  induction k with
  | zero => rw [if_neg (by omega)]; rfl
  | succ k ih =>
    rw [markN, List.getD_eq_getElem?_getD, List.getElem?_set, markN_length]
    by_cases e : f + k = j
    · subst e
      by_cases hl : f + k < L.length
      · rw [if_pos rfl, if_pos hl, if_pos (by omega)]; rfl
      · rw [if_pos rfl, if_neg hl, if_neg (by omega), List.getD_eq_getElem?_getD, List.getElem?_eq_none (by omega)]
    · rw [if_neg e, ← List.getD_eq_getElem?_getD, ih]
      by_cases h1 : f ≤ j ∧ j < f + k ∧ j < L.length
      · rw [if_pos h1, if_pos (by omega)]
      · rw [if_neg h1, if_neg (by omega)]
theorem markL_getD (b : Bool) : ∀ (l : List (Nat × Nat)) (L : List Bool) (j : Nat), (markL L l b).getD j false = if inL l j = true ∧ j < L.length then b else L.getD j false
  | [], L, j => by simp [markL, inL]
  | x :: l, L, j => by
    show (markL (markN L x.1 b x.2) l b).getD j false = _
    rw [markL_getD b l, markN_length, markN_getD']
    have hin : inL (x :: l) j = ((decide (x.1 ≤ j) && decide (j < x.1 + x.2)) || inL l j) := rfl
    rw [hin]
    by_cases h1 : inL l j = true <;> by_cases h2 : x.1 ≤ j ∧ j < x.1 + x.2 <;> by_cases h3 : j < L.length <;> simp [h1, h2, h3] <;> omega
theorem getD_some {L : List Bool} {j : Nat} {b : Bool} (h : L[j]? = some b) : L.getD j false = b := by rw [List.getD_eq_getElem?_getD, h]; rfl
theorem Apart.free {L : List Bool} : ∀ {l : List (Nat × Nat)} {lo : Nat}, Apart L lo l → ∀ j, inL l j = true → L[j]? = some false ∧ lo ≤ j
  | [], _, _, j, h => by simp [inL] at h
  | x :: r, lo, ⟨h1, h2, h3, h4, h5⟩, j, h => by
    have hin : inL (x :: r) j = ((decide (x.1 ≤ j) && decide (j < x.1 + x.2)) || inL r j) := rfl
    rw [hin, Bool.or_eq_true, Bool.and_eq_true, decide_eq_true_eq, decide_eq_true_eq] at h
    rcases h with ⟨a, b⟩ | h
    · have := h4 (j - x.1) (by omega)
      rw [show x.1 + (j - x.1) = j by omega] at this
      exact ⟨this, by omega⟩
    · obtain ⟨a, b⟩ := h5.free j h
      exact ⟨a, by omega⟩
theorem allB_mark {L : List Bool} {f k : Nat} (h : ∀ j, j < k → L.getD (f + j) false = true) : allB L f k = true := by
  unfold allB
  rw [List.all_eq_true]
  intro j hj
  exact h j (List.mem_range.1 hj)
def toI' (l : List (Nat × Nat)) : List (Int × Int) := l.map fun x => ((x.1 : Int), (x.2 : Int))
/-- What was taken, given back. -/
theorem give_back : ∀ {l : List (Nat × Nat)} {L : List Bool} {lo : Nat}, Apart L lo l → giveL (markL L l true) (toI' l) = some L
  | [], L, _, _ => rfl
  | x :: r, L, lo, h => by
    obtain ⟨h1, h2, h3, h4, h5⟩ := h
    have hall : Apart L lo (x :: r) := ⟨h1, h2, h3, h4, h5⟩
    have hlen : (markL L (x :: r) true).length = L.length := markL_length _ _ _
    have hin : ∀ j, inL (x :: r) j = ((decide (x.1 ≤ j) && decide (j < x.1 + x.2)) || inL r j) := fun _ => rfl
    have hg : giveE (markL L (x :: r) true) ((x.1 : Int), (x.2 : Int)) = some (markL L r true) := by
      unfold giveE
      rw [hlen, if_neg (by show ¬ ((x.2 : Int) < 1 ∨ (L.length : Int) < x.2 ∨ (x.1 : Int) < 0 ∨ (L.length : Int) < x.1); omega)]
      show (if allB (markL L (x :: r) true) (x.1 : Int).toNat (x.2 : Int).toNat = true then _ else _) = _
      rw [Int.toNat_natCast, Int.toNat_natCast, if_pos]
      · congr 1
        refine list_ext_getD (by rw [markN_length, markL_length, markL_length]) fun j => ?_
        rw [markN_getD', markL_getD, markL_getD, hlen, hin]
        by_cases a : x.1 ≤ j ∧ j < x.1 + x.2
        · have hjl : j < L.length := by omega
          have hnr : ¬ inL r j = true := fun e => by have := (h5.free j e).2; omega
          have hf : L.getD j false = false := by
            have := h4 (j - x.1) (by omega)
            rw [show x.1 + (j - x.1) = j by omega] at this
            exact getD_some this
          rw [if_pos ⟨a.1, a.2, hjl⟩, if_neg (fun e => hnr e.1), hf]
        · rw [if_neg (by omega)]
          have : (decide (x.1 ≤ j) && decide (j < x.1 + x.2)) = false := by
            rw [Bool.and_eq_false_iff]
            simp only [decide_eq_false_iff_not]
            omega
          rw [this, Bool.false_or]
      · refine allB_mark fun j hj => ?_
        rw [markL_getD, hin, if_pos]
        refine ⟨?_, by omega⟩
        simp; left; omega
    show giveL (markL L (x :: r) true) (((x.1 : Int), (x.2 : Int)) :: toI' r) = _
    rw [giveL, hg]
    exact give_back h5
theorem give_again {l : List (Nat × Nat)} {L : List Bool} {lo : Nat} (h : Apart L lo l) (hl : l ≠ []) : giveL L (toI' l) = none := by
  cases l with
  | nil => exact absurd rfl hl
  | cons x r =>
    obtain ⟨h1, h2, h3, h4, h5⟩ := h
    show giveL L (((x.1 : Int), (x.2 : Int)) :: toI' r) = _
    rw [giveL]
    have : giveE L ((x.1 : Int), (x.2 : Int)) = none := by
      unfold giveE
      split
      · rfl
      · show (if allB L (x.1 : Int).toNat (x.2 : Int).toNat = true then _ else _) = _
        rw [if_neg]
        intro hall
        rw [Int.toNat_natCast, Int.toNat_natCast] at hall
        unfold allB at hall
        have := List.all_eq_true.1 hall 0 (List.mem_range.2 (by omega))
        rw [getD_some (h4 0 (by omega))] at this
        cases this
    rw [this]
theorem usedL_set : ∀ {L : List Bool} {i : Nat}, L[i]? = some false → usedL (L.set i true) = usedL L + 1
  | [], i, h => by simp at h
  | b :: L, 0, h => by
    have : b = false := by simpa using h
    subst this
    simp [usedL]
  | b :: L, i + 1, h => by
    have ih := usedL_set (L := L) (i := i) (by simpa using h)
    unfold usedL at ih ⊢
    rw [List.set_cons_succ, List.countP_cons, List.countP_cons, ih]
    omega
theorem get_of_getD {L : List Bool} {j : Nat} (hj : j < L.length) (h : L.getD j false = false) : L[j]? = some false := by
  rw [List.getD_eq_getElem?_getD, List.getElem?_eq_getElem hj] at h
  rw [List.getElem?_eq_getElem hj]
  exact congrArg some h
theorem usedL_markN {L : List Bool} {f : Nat} : ∀ k, (∀ j, j < k → L[f + j]? = some false) → usedL (markN L f true k) = usedL L + k
  | 0, _ => rfl
  | k + 1, h => by
    have hk := h k (by omega)
    have hl := lt_of_some hk
    rw [markN, usedL_set (get_of_getD (by rw [markN_length]; exact hl) (by rw [markN_getD', if_neg (by omega)]; exact getD_some hk)), usedL_markN k (fun j hj => h j (by omega))]
    omega
theorem Apart.mark {L : List Bool} {x : Nat × Nat} : ∀ {r : List (Nat × Nat)} {lo : Nat}, x.1 + x.2 ≤ lo → Apart L lo r → Apart (markN L x.1 true x.2) lo r
  | [], _, _, _ => trivial
  | y :: r, lo, hlo, ⟨h1, h2, h3, h4, h5⟩ => by
    refine ⟨h1, h2, by rw [markN_length]; exact h3, fun j hj => ?_, h5.mark (by omega)⟩
    have hk := h4 j hj
    exact get_of_getD (by rw [markN_length]; exact lt_of_some hk) (by rw [markN_getD', if_neg (by omega)]; exact getD_some hk)
theorem usedL_markL : ∀ {l : List (Nat × Nat)} {L : List Bool} {lo : Nat}, Apart L lo l → usedL (markL L l true) = usedL L + sumL l
  | [], L, _, _ => rfl
  | x :: r, L, lo, ⟨h1, h2, h3, h4, h5⟩ => by
    show usedL (markL (markN L x.1 true x.2) r true) = _
    rw [usedL_markL (h5.mark (by omega)), usedL_markN _ h4]
    show _ = usedL L + (x.2 + sumL r)
    omega
/-- What Take tells. -/
theorem take_yes {L : List Bool} {n : Nat} {l : List (Nat × Nat)} {M : List Bool} (hn : 1 ≤ n) (h : takeL L n = (l, true, M)) :
    Apart L 0 l ∧ sumL l = n ∧ l.length ≤ 8 ∧ l ≠ [] ∧ M = markL L l true ∧ usedL M = usedL L + n ∧ giveR M (toI' l) = (true, L) ∧ giveR L (toI' l) = (false, L) := by
  unfold takeL at h
  split at h
  · simp at h
  · rename_i h0
    split at h
    · simp at h
    · rename_i h8
      rw [Int.toNat_natCast] at h h8
      simp only [Prod.mk.injEq, true_and] at h
      obtain ⟨rfl, rfl⟩ := h
      have hu := usedL_le L
      have ha := exts_apart (L := L) hn
      have hs := exts_sum (L := L) (n := n) (by omega)
      have hne : extsL L n ≠ [] := fun e => by rw [e] at hs; simp [sumL] at hs; omega
      refine ⟨ha, hs, by omega, hne, rfl, by rw [usedL_markL ha, hs], ?_, ?_⟩
      · unfold giveR; rw [give_back ha]
      · unfold giveR; rw [give_again ha hne]
theorem take_no {L : List Bool} {n : Int} {l : List (Nat × Nat)} {M : List Bool} (h : takeL L n = (l, false, M)) : l = [] ∧ M = L := by
  unfold takeL at h
  split at h
  · simp only [Prod.mk.injEq, true_and] at h
    exact ⟨h.1.symm, h.2.symm⟩
  · split at h
    · simp only [Prod.mk.injEq, true_and] at h
      exact ⟨h.1.symm, h.2.symm⟩
    · simp at h
end Go.Proofs.Ytdngkpdiaeicmaa
