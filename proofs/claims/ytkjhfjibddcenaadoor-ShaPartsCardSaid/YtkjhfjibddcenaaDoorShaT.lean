/- Layer 4: ShaParts, over a slice of strings as it came in. -/
import Derived.Test.YtkjhfjibddcenaaDoorShaS
namespace Go.Proofs.YtkjhfjibddcenaaDoor
open Go.RowKit

/-- A slice of strings that came in: nil, or a row of 'cap' strings. -/
def IsStrs (w : World) (a : Option Addr) (len cap : Nat) (zs : List ByteArray) : Prop :=
  (a = none ∧ len = 0 ∧ cap = 0 ∧ zs = []) ∨
  ∃ x, a = some x ∧ len ≤ cap ∧ cap ≤ maxLen ∧ zs.length = cap ∧ (∀ i, i < zs.length → w.cell? (x.add i) = some (.string (zs.getD i ByteArray.empty))) ∧ ∀ s ∈ zs, s.size ≤ maxLen
theorem strs_at {w : World} {a : Addr} {zs : List ByteArray} (h : ∀ i, i < zs.length → w.cell? (a.add i) = some (.string (zs.getD i ByteArray.empty))) (hp : 0 < zs.length) :
    ∃ b off, a = ⟨b, off, none⟩ ∧ ∀ i, i < zs.length → w.cell? ⟨b, off + i, none⟩ = some (.string (zs.getD i ByteArray.empty)) := by
  obtain ⟨b, off, spot⟩ := a
  have hspot : spot = none := by simpa [Addr.add] using World.cell?_spot (h 0 hp)
  subst hspot
  exact ⟨b, off, rfl, fun j hj => by rw [← Go.WideShapes.add_plain]; exact h j hj⟩
theorem row_strs {w : World} {a : Option Addr} {len cap : Nat} {zs : List ByteArray} (h : IsStrs w a len cap zs) : (zs.take len).length = len ∧ StrRow w a (zs.take len) := by
  rcases h with ⟨rfl, rfl, rfl, rfl⟩ | ⟨x, rfl, hl, hm, hz, hc, _⟩
  · exact ⟨rfl, Or.inl rfl⟩
  · have hlen : (zs.take len).length = len := by rw [List.length_take]; omega
    refine ⟨hlen, ?_⟩
    by_cases h0 : len = 0
    · subst h0; exact Or.inl (by simp)
    · obtain ⟨b, off, rfl, hc'⟩ := strs_at hc (by omega)
      refine Or.inr ⟨b, off, rfl, fun k hk => ?_⟩
      rw [hlen] at hk
      rw [hc' k (by omega)]
      have : (zs.take len).getD k ByteArray.empty = zs.getD k ByteArray.empty := by
        simp only [List.getD, List.getElem?_take]
        rw [if_pos hk]
      rw [this]
theorem shaParts_strs (a : Option Addr) (len cap : Nat) (zs : List ByteArray) (w : World) (h : IsStrs w a len cap zs) (L : Laid w) :
    Calls Tryd.prog 4 #[.slice a len cap] w fun e w' => e = .returned (.bool true) ∧ Below w.heap.size w w' :=
  shaParts_walk a len cap (zs.take len) w (row_strs h).1 (row_strs h).2 L
end Go.Proofs.YtkjhfjibddcenaaDoor
