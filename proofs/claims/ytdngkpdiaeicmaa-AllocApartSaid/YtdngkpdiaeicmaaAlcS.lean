/- Layer 8: AllocFirst: the first blocks that stand together, and every second one: plain lemmas. -/
import Derived.Test.YtdngkpdiaeicmaaAlcR
namespace Go.Proofs.Ytdngkpdiaeicmaa

theorem firstL_is {L : List Bool} {m k : Nat} (hk : k < L.length) (h : ∀ j, j < k → runL L j < m) (hm : m ≤ runL L k) : firstL L m = some k := by
  unfold firstL
  rw [List.find?_range_eq_some]
  refine ⟨by simpa using hm, List.mem_range.2 hk, fun j hj => ?_⟩
  have := h j hj
  simpa using this
theorem take_first {L : List Bool} {n i : Nat} (h1 : 1 ≤ n) (h2 : n + usedL L ≤ L.length) (h : firstL L n = some i) : takeL L n = ([(i, n)], true, markN L i true n) := by
  have he : extsL L n = [(i, n)] := by unfold extsL; rw [h]
  unfold takeL
  rw [if_neg (by omega), Int.toNat_natCast, he, if_neg (by simp)]
  rfl
theorem used_none (n : Nat) : usedL (List.replicate n false) = 0 := by simp [usedL, List.countP_replicate]
theorem used_all (n : Nat) : usedL (List.replicate n true) = n := by simp [usedL, List.countP_replicate]
theorem getD_rep (n j : Nat) (b : Bool) : (List.replicate n b).getD j false = (decide (j < n) && b) := by
  rw [List.getD_eq_getElem?_getD, List.getElem?_replicate]
  by_cases h : j < n <;> simp [h]
theorem run_of {L : List Bool} {i k : Nat} (hl : i + k ≤ L.length) (h1 : ∀ j, j < k → L.getD (i + j) false = false) (h2 : i + k < L.length → L.getD (i + k) false = true) : runL L i = k := by
  refine run_is (fun j hj => get_of_getD (by omega) (h1 j hj)) (fun e => ?_)
  have hlt := lt_of_some e
  have := h2 hlt
  rw [getD_some e] at this
  cases this
/-- The first k of so many. -/
def fst1 (n k : Nat) : List Bool := markN (List.replicate n false) 0 true k
theorem fst1_len (n k : Nat) : (fst1 n k).length = n := by unfold fst1; rw [markN_length, List.length_replicate]
theorem fst1_getD (n k j : Nat) : (fst1 n k).getD j false = decide (j < k ∧ j < n) := by
  unfold fst1
  rw [markN_getD', List.length_replicate, getD_rep]
  by_cases h : j < k ∧ j < n
  · rw [if_pos (by omega)]; simp [h]
  · rw [if_neg (by omega)]; simp [h]
theorem take_1 {n k : Nat} (h1 : 1 ≤ k) (h2 : k ≤ n) : takeL (List.replicate n false) k = ([(0, k)], true, fst1 n k) := by
  refine take_first h1 (by rw [used_none, List.length_replicate]; omega) (firstL_is (by rw [List.length_replicate]; omega) (fun j hj => by omega) ?_)
  rw [run_of (k := n) (by simp) (fun j hj => by rw [getD_rep]; simp) (fun h => by simp at h)]
  exact h2
theorem used_1 {n k : Nat} (h2 : k ≤ n) : usedL (fst1 n k) = k := by
  unfold fst1
  rw [usedL_markN k (fun j hj => by rw [List.getElem?_replicate, if_pos (by omega)]), used_none, Nat.zero_add]
theorem all_2 {n k : Nat} (h : k ≤ n) : markN (fst1 n k) k true (n - k) = List.replicate n true := by
  refine list_ext_getD (by rw [markN_length, fst1_len, List.length_replicate]) fun j => ?_
  rw [markN_getD', fst1_len, fst1_getD, getD_rep]
  by_cases a : k ≤ j ∧ j < k + (n - k) ∧ j < n
  · rw [if_pos a]; simp; omega
  · rw [if_neg a]; simp; omega
theorem take_2 {n k : Nat} (h2 : k < n) : takeL (fst1 n k) ((n : Int) - (k : Int)) = ([(k, n - k)], true, List.replicate n true) := by
  have e : (n : Int) - (k : Int) = ((n - k : Nat) : Int) := by omega
  rw [e, take_first (i := k) (by omega) (by rw [used_1 (by omega), fst1_len]; omega) (firstL_is (by rw [fst1_len]; exact h2) (fun j hj => ?_) ?_), all_2 (by omega)]
  · rw [run_of (k := n - k) (by rw [fst1_len]; omega) (fun i hi => by rw [fst1_getD]; simp; omega) (fun h => by rw [fst1_len] at h; omega)]
    exact Nat.le_refl _
  · rw [run_of (k := 0) (by rw [fst1_len]; omega) (fun i hi => by omega) (fun _ => by rw [fst1_getD]; simp; omega)]
    omega
theorem take_2' (n : Nat) : takeL (fst1 n n) 0 = ([], false, List.replicate n true) := by
  unfold takeL
  rw [if_pos (.inl (by decide))]
  have : fst1 n n = List.replicate n true := by
    have := all_2 (n := n) (k := n) (Nat.le_refl _)
    rw [Nat.sub_self] at this
    exact this
  rw [this]
/-- Every second one is in use, and all from a on. -/
def altL (n a : Nat) : List Bool := (List.range n).map (fun j => decide (a ≤ j) || decide (j % 2 = 1))
theorem altL_len (n a : Nat) : (altL n a).length = n := by simp [altL]
theorem altL_getD (n a j : Nat) : (altL n a).getD j false = (decide (j < n) && (decide (a ≤ j) || decide (j % 2 = 1))) := by
  unfold altL
  rw [List.getD_eq_getElem?_getD, List.getElem?_map]
  by_cases h : j < n
  · rw [List.getElem?_range h]; simp [h]
  · rw [List.getElem?_eq_none (by simpa using h)]; simp [h]
theorem altL_zero (n : Nat) : List.replicate n true = altL n 0 := by
  refine list_ext_getD (by rw [altL_len, List.length_replicate]) fun j => ?_
  rw [getD_rep, altL_getD]; simp
theorem altL_end (n a : Nat) (h : n ≤ a) : altL n a = altL n n := by
  refine list_ext_getD (by rw [altL_len, altL_len]) fun j => ?_
  rw [altL_getD, altL_getD]
  by_cases hj : j < n
  · have h1 : ¬ a ≤ j := by omega
    have h2 : ¬ n ≤ j := by omega
    simp [hj, h1, h2]
  · simp [hj]
theorem give_alt {n a : Nat} (h : a < n) (ha : a % 2 = 0) : giveR (altL n a) [((a : Int), 1)] = (true, altL n (a + 2)) := by
  have hg : giveE (altL n a) ((a : Int), 1) = some (altL n (a + 2)) := by
    unfold giveE
    rw [altL_len, if_neg (by show ¬ ((1 : Int) < 1 ∨ (n : Int) < 1 ∨ (a : Int) < 0 ∨ (n : Int) < (a : Int)); omega)]
    show (if allB (altL n a) (a : Int).toNat (1 : Int).toNat = true then some (markN (altL n a) (a : Int).toNat false (1 : Int).toNat) else none) = _
    rw [Int.toNat_natCast, show (1 : Int).toNat = 1 from rfl, if_pos (allB_mark fun j hj => by rw [altL_getD]; simp; omega)]
    congr 1
    refine list_ext_getD (by rw [markN_length, altL_len, altL_len]) fun j => ?_
    rw [markN_getD', altL_len, altL_getD, altL_getD]
    by_cases e : a ≤ j ∧ j < a + 1 ∧ j < n
    · obtain rfl : j = a := by omega
      rw [if_pos e]
      simp; omega
    · rw [if_neg e]
      by_cases hj : j < n
      · by_cases h3 : a + 2 ≤ j
        · have h4 : a ≤ j := by omega
          simp [hj, h3, h4]
        · by_cases h5 : a ≤ j
          · have h6 : j % 2 = 1 := by omega
            simp [hj, h6]
          · simp [hj, h3, h5]
      · simp [hj]
  unfold giveR
  rw [giveL, hg]
  rfl
def eight : List (Nat × Nat) := [(0, 1), (2, 1), (4, 1), (6, 1), (8, 1), (10, 1), (12, 1), (14, 1)]
set_option maxRecDepth 100000 in
theorem take_98 : ∀ n, n < 101 → 20 ≤ n → (takeL (altL n n) 9).1 = [] ∧ (takeL (altL n n) 9).2.1 = false ∧ (takeL (altL n n) 8).1 = eight ∧ (takeL (altL n n) 8).2.1 = true := by decide +kernel
end Go.Proofs.Ytdngkpdiaeicmaa
