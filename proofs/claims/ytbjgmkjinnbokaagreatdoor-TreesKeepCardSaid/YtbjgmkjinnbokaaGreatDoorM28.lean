/- Merged: UvE, UvF. -/
import Derived.Test.YtbjgmkjinnbokaaGreatDoorM27
import Derived.Test.YtbjgmkjinnbokaaGreatDoorM24
import Derived.ChangeKeysEq
import Derived.Test.YtbjgmkjinnbokaaGreatDoorM19
/- Layer 16: the document's Same and Bytes, the program's Bytes; the law's Doc and great. -/
namespace Go.Proofs.YtbjgmkjinnbokaaGreatDoor
open Go.RowKit
attribute [local go_sem] wide_fn round_fn

def eqNB (a b : Nd) : Bool := decide (a.path = b.path) && (decide (a.kind = b.kind) && (decide (a.mode = b.mode) && decide (a.data = b.data)))
theorem eqNB_iff (a b : Nd) : eqNB a b = true ↔ a = b := by
  unfold eqNB
  rw [Bool.and_eq_true, Bool.and_eq_true, Bool.and_eq_true, decide_eq_true_eq, decide_eq_true_eq, decide_eq_true_eq, decide_eq_true_eq]
  obtain ⟨a1, a2, a3, a4⟩ := a
  obtain ⟨b1, b2, b3, b4⟩ := b
  simp only [Nd.mk.injEq]
theorem take_snoc_eq {α : Type} {A B : List α} {j : Nat} {a : α} (ha : A[j]? = some a) (hb : B[j]? = some a) (h : A.take j = B.take j) : A.take (j + 1) = B.take (j + 1) := by
  rw [List.take_add_one, List.take_add_one, ha, hb, h]
theorem ne_atN {α : Type} {A B : List α} {j : Nat} {a b : α} (ha : A[j]? = some a) (hb : B[j]? = some b) (h : a ≠ b) : A ≠ B := fun e => by
  rw [e, hb] at ha
  exact h (Option.some.inj ha).symm
end Go.Proofs.YtbjgmkjinnbokaaGreatDoor

/- Layer 16: the program's Bytes; the law's Doc and great. -/
namespace Go.Proofs.YtbjgmkjinnbokaaGreatDoor
open Go.RowKit
attribute [local go_sem] wide_fn round_fn

/-! ### More than is gone through -/
end Go.Proofs.YtbjgmkjinnbokaaGreatDoor

