/- Layer 6: the program's disk is the document's. -/
import Derived.Test.YtikeobmcnpncjaaSecZ
import Derived.Test.YtikeobmcnpncjaaSedA
namespace Go.Proofs.Ytikeobmcnpncjaa
open Go.RowKit

theorem imp_lt {w : World} {q : Nat} {d : RD} {o : Nat → Prop} (h : ImpInv w q d o) : ∀ k, o k → k < w.heap.size := by
  obtain ⟨r, vS, vL, vK, h, rfl⟩ := h
  exact h.lt
theorem imp_chg {w w' : World} {q : Nat} {d : RD} {o s : Nat → Prop} (h : ImpInv w q d o) (hc : Chg s w w') (hs : ∀ k, o k → ¬ s k) : ImpInv w' q d o := by
  obtain ⟨r, vS, vL, vK, h, rfl⟩ := h
  exact ⟨r, vS, vL, vK, h.chg hc hs, rfl⟩
def imp : Impl where
  Inv := ImpInv
  lt := imp_lt
  chg := imp_chg
  new := new_any
  newNo := new_no
  write := fun i s h hok hf _ => write_any i s h hok hf
  flush := fun h hok hf => flush_any h hok hf
  crash := fun h hok hf hk _ hv => crash_any h hok hf hk hv
  start := fun h _ hf => start_any h hf
  fail := fun n h _ _ hk hl _ _ => fail_any n h hk (by omega)
  read := fun i h hok hf => read_any i h hok hf
  size := fun h _ => size_any h
  loose := fun h _ => loose_any h
  up := fun h _ => up_any h
  starts := fun h _ => starts_any h
end Go.Proofs.Ytikeobmcnpncjaa
