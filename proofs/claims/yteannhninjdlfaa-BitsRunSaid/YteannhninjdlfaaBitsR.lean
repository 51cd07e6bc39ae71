/- What a run that is set leaves: plain lemmas on texts. -/
import Derived.Test.YteannhninjdlfaaBitsP
namespace Go.Proofs.Yteannhninjdlfaa
open Go.RowKit

/-- A text with so many bits set, from one on. -/
def setAll (s : ByteArray) (a : Nat) : Nat → ByteArray
  | 0 => s
  | m + 1 => withV (setAll s a m) ((a + m : Nat) : Int) true
theorem setAll_size (s : ByteArray) (a : Nat) : ∀ m, (setAll s a m).size = s.size
  | 0 => rfl
  | m + 1 => by rw [setAll, withV_size, setAll_size s a m]
theorem inT_nat {s : ByteArray} {k : Nat} (h : k < 8 * s.size) : inT s (k : Int) = true := inT_iff.2 ⟨by omega, by omega⟩
theorem bitN_setAll {s : ByteArray} {a : Nat} (x : Nat) : ∀ m, a + m ≤ 8 * s.size → bitN (setAll s a m).data.toList x = (decide (a ≤ x ∧ x < a + m) || bitN s.data.toList x)
  | 0, _ => by
    have : ¬ (a ≤ x ∧ x < a + 0) := by omega
    rw [decide_eq_false this, Bool.false_or]
    rfl
  | m + 1, h => by
    have ih := bitN_setAll (s := s) (a := a) x m (by omega)
    have hin : inT (setAll s a m) ((a + m : Nat) : Int) = true := inT_nat (by rw [setAll_size]; omega)
    have e := hasV_withV (j := (x : Int)) true hin (by omega)
    rw [hasV_nat, hasV_nat] at e
    rw [setAll, e, ih]
    by_cases h1 : x = a + m
    · subst h1
      simp
    · rw [if_neg (by omega)]
      have : (a ≤ x ∧ x < a + (m + 1)) ↔ (a ≤ x ∧ x < a + m) := by omega
      simp [this]
theorem count_true {s : ByteArray} {k : Nat} (h : k < 8 * s.size) (hb : bitN s.data.toList k = false) : countN (withV s (k : Int) true).data.toList = countN s.data.toList + 1 := by
  have hin := inT_nat h
  have e := withV_same true hin
  have hc := count_withV hin
  have e2 : withV s (k : Int) false = s := by
    have hf : hasV s (k : Int) = false := by rw [hasV_nat]; exact hb
    have hl : s.data.toList.length = s.size := by simp
    rw [hf] at e
    rw [withV_in _ (by rw [inT_withV]; exact hin), withV_in _ hin, str_data, putB_again _ _ _ _ (by rw [Int.toNat_natCast]; omega)] at e
    rw [withV_in _ hin]; exact e
  rw [hc, e2]
theorem count_setAll {s : ByteArray} {a : Nat} : ∀ m, a + m ≤ 8 * s.size → (∀ i, a ≤ i → i < a + m → bitN s.data.toList i = false) → countN (setAll s a m).data.toList = countN s.data.toList + m
  | 0, _, _ => rfl
  | m + 1, h, hc => by
    have ih := count_setAll (s := s) (a := a) m (by omega) (fun i h1 h2 => hc i h1 (by omega))
    rw [setAll, count_true (by rw [setAll_size]; omega), ih]
    · omega
    · rw [bitN_setAll _ m (by omega), hc (a + m) (by omega) (by omega)]
      simp

theorem count_pos {l : List UInt8} {i : Nat} (h : bitN l i = true) : 0 < countN l := by
  have hi : i < 8 * l.length := by
    by_cases h' : i < 8 * l.length
    · exact h'
    · rw [bitN_beyond l i (by omega)] at h; cases h
  unfold countN
  exact List.countP_pos_iff.2 ⟨i, List.mem_range.2 hi, h⟩
/-- Where no run is found there is no room for one, or a bit is set. -/
theorem run_none_why {l : List UInt8} {f m : Nat} (h : IsRun l f m (-1)) (hr : f + m ≤ 8 * l.length) : 0 < countN l := by
  rcases h with ⟨p, h, _⟩ | ⟨_, h⟩
  · omega
  · have hc := h f (Nat.le_refl _) hr
    have : ¬ ∀ i, f ≤ i → i < f + m → bitN l i = false := fun h' => by rw [clearB_iff.2 h'] at hc; cases hc
    have ⟨i, hi⟩ : ∃ i, bitN l i = true := Classical.byContradiction fun hn => this fun i _ _ => by
      cases hb : bitN l i
      · rfl
      · exact absurd ⟨i, hb⟩ hn
    exact count_pos hi
/-- Ahead of the first run there is nothing, or a bit that is set. -/
theorem run_first {l : List UInt8} {f m p : Nat} (h : IsRun l f m p) (hne : p ≠ f) : f < p ∧ bitN l (p - 1) = true := by
  rcases h with ⟨q, hq, h1, h2, h3, h4⟩ | ⟨h, _⟩
  · obtain rfl : p = q := by omega
    refine ⟨by omega, ?_⟩
    cases hb : bitN l (p - 1)
    · have h5 := h4 (p - 1) (by omega) (by omega)
      have h6 : clearB l (p - 1) m = true := clearB_iff.2 fun i a b => by
        by_cases e : i = p - 1
        · rw [e]; exact hb
        · exact clearB_iff.1 h3 i (by omega) (by omega)
      rw [h6] at h5; cases h5
    · rfl
  · omega
/-- A run that is set is found no more. -/
theorem run_next {s : ByteArray} {f m p : Nat} {r : Int} (hm : 1 ≤ m) (h : IsRun s.data.toList f m p) (hp : p + m ≤ 8 * s.size) (hn : IsRun (setAll s p m).data.toList f m r) : r = -1 ∨ (p : Int) + m ≤ r := by
  rcases hn with ⟨q, rfl, h1, h2, h3, h4⟩ | ⟨h, _⟩
  · right
    have hc := clearB_iff.1 h3
    have hl : (setAll s p m).data.toList.length = s.data.toList.length := by
      have : ∀ t : ByteArray, t.data.toList.length = t.size := fun t => by simp
      rw [this, this, setAll_size]
    have hcs : clearB s.data.toList q m = true := clearB_iff.2 fun i a b => by
      have := hc i a b
      rw [bitN_setAll i m hp] at this
      simp at this
      exact this.2
    have hq : p ≤ q := by
      rcases h with ⟨p', hp', _, _, _, g4⟩ | ⟨h, _⟩
      · obtain rfl : p = p' := by omega
        by_cases e : p ≤ q
        · exact e
        · rw [g4 q h1 (by omega)] at hcs; cases hcs
      · omega
    have := hc q (Nat.le_refl _) (by omega)
    rw [bitN_setAll q m hp] at this
    simp at this
    have := this.1 hq
    omega
  · exact Or.inl h
end Go.Proofs.Yteannhninjdlfaa
