/- Layer 14's generics, where the document's paths are not in the cut. -/
import Derived.Test.YtokeiagcdahmaaaDoorPtA
namespace Go.Proofs.YtokeiagcdahmaaaDoor
open Go.RowKit

theorem retB {a b : Bool} (h : a = b) : Ending.returned (.bool a) = .returned (.bool b) := by rw [h]
theorem join_take (l : List (List UInt8)) {k : Nat} (h : k < l.length) : joinL (l.take (k + 1)) = (if k = 0 then joinL (l.take k) else joinL (l.take k) ++ [47]) ++ l.getD k [] := by
  rw [List.take_succ_eq_append_getElem h, List.getD_eq_getElem?_getD, List.getElem?_eq_getElem h, Option.getD_some]
  by_cases h0 : k = 0
  · subst h0
    rw [if_pos rfl, List.take_zero, List.nil_append, joinL_one]
    rfl
  · rw [if_neg h0, joinL_snoc (by intro e; have := congrArg List.length e; rw [List.length_take, List.length_nil] at this; omega), List.append_assoc]
    rfl
theorem join_len_take (l : List (List UInt8)) (k : Nat) : (joinL (l.take k)).length ≤ (joinL l).length := by
  by_cases hk : k < l.length
  · by_cases h0 : l.take k = []
    · rw [h0]; exact Nat.zero_le _
    · have h1 : l.drop k ≠ [] := by
        intro e
        have := congrArg List.length e
        rw [List.length_drop] at this
        simp at this
        omega
      have := joinL_append h0 h1
      rw [List.take_append_drop] at this
      rw [this, List.length_append]
      omega
  · rw [List.take_of_length_le (by omega)]
    exact Nat.le_refl _

end Go.Proofs.YtokeiagcdahmaaaDoor
#print axioms Go.Proofs.YtokeiagcdahmaaaDoor.retB
