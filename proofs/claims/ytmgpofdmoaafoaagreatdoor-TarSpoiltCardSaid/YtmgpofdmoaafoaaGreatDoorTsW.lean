/- Layer 15, plainly: a head and its blocks as the document's reader takes them. -/
import Derived.Test.YtmgpofdmoaafoaaGreatDoorTsV
namespace Go.Proofs.YtmgpofdmoaafoaaGreatDoor

/-- By what a head is none. -/
def badH (h : Bs) : Bool := (numF (sl h 100 108)).isNone || (numF (sl h 124 136)).isNone || !decide (numF (sl h 148 156) = some (sumH h)) || !decide (sl h 257 265 = magicL)
theorem head_bad {h : Bs} (hb : badH h = true) : headR h = none := by
  unfold headR
  by_cases hc : numF (sl h 148 156) = some (sumH h) ∧ sl h 257 265 = magicL
  · rw [if_pos hc]
    unfold badH at hb
    rw [decide_eq_true hc.1, decide_eq_true hc.2] at hb
    cases h1 : numF (sl h 100 108) with
    | none => rfl
    | some m =>
      cases h2 : numF (sl h 124 136) with
      | none => rfl
      | some n =>
        rw [h1, h2] at hb
        cases hb
  · rw [if_neg hc]
theorem head_good {h : Bs} (hb : badH h = false) : ∃ m n, numF (sl h 100 108) = some m ∧ numF (sl h 124 136) = some n ∧ numF (sl h 148 156) = some (sumH h) ∧ sl h 257 265 = magicL ∧ headR h = some ⟨nameR h, cut0 (sl h 157 257), m, n, h.getD 156 0⟩ := by
  unfold badH at hb
  simp only [Bool.or_eq_false_iff, Bool.not_eq_false', decide_eq_true_eq] at hb
  obtain ⟨⟨⟨h1, h2⟩, h3⟩, h4⟩ := hb
  cases e1 : numF (sl h 100 108) with
  | none => rw [e1] at h1; cases h1
  | some m =>
    cases e2 : numF (sl h 124 136) with
    | none => rw [e2] at h2; cases h2
    | some n =>
      refine ⟨m, n, rfl, rfl, h3, h4, ?_⟩
      unfold headR
      rw [if_pos ⟨h3, h4⟩, e1, e2]
theorem numI_neg {o : Option Nat} : numI o < 0 ↔ o = none := by
  cases o with
  | none => simp [numI]
  | some n =>
    simp only [numI, reduceCtorEq, iff_false]
    omega
theorem blocks_doc (n : Nat) : (n + 511) / 512 * 512 = 512 * blocksN n := by
  unfold blocksN
  omega
end Go.Proofs.YtmgpofdmoaafoaaGreatDoor
#print axioms Go.Proofs.YtmgpofdmoaafoaaGreatDoor.head_good
