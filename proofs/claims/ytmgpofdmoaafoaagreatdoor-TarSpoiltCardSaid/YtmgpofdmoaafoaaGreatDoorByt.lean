/- Slices of bytes as texts (wants the type []uint8 of the cut). -/
import Derived.Test.YtmgpofdmoaafoaaGreatDoorRow
namespace Go.Proofs.YtmgpofdmoaafoaaGreatDoor
open Go.RowKit
/-- 'string(b)' of a slice of the call's own. -/
theorem conv_own {w : World} {base : Nat} {v : Value} {n : Nat} {l : List UInt8} (h : w.ownsRow base 5 1 v n (l.map byteV)) (hn : l.length = n) :
    ∃ a cap, v = .slice a n cap ∧ (convert 30 9 (.slice a n cap)).run Tryz.prog w = .ok (.string (str l)) w := by
  subst hn
  have hh := h
  obtain ⟨_, h⟩ := h
  rcases h with ⟨rfl, h0⟩ | ⟨g, cap, cur, rfl, _, _, _, _, _, _⟩
  · have : l = [] := List.eq_nil_of_length_eq_zero h0
    subst this
    exact ⟨none, 0, rfl, run_convert_bytes_nil w 30 5 Tryz.underlying30 Tryz.underlying5 0 0 9 Tryz.underlying9⟩
  · refine ⟨_, cap, rfl, ?_⟩
    rw [run_convert_bytes_arg w 30 5 Tryz.underlying30 Tryz.underlying5 g 0 l.length cap (l.map fun b => (b.toNat : Int)) (by simp) (fun i hi => ?_) 9 Tryz.underlying9, str_nums]
    rw [Nat.zero_add, hh.cellAt i (by omega), List.getElem?_map, List.getElem?_eq_getElem hi]
    simp [List.getD, List.getElem?_eq_getElem hi, byteV]
end Go.Proofs.YtmgpofdmoaafoaaGreatDoor
