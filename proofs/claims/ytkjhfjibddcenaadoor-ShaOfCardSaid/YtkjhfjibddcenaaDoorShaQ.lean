/- Layer 4: the walk of ShaOf. -/
import Derived.Test.YtkjhfjibddcenaaDoorShaP
namespace Go.Proofs.YtkjhfjibddcenaaDoor
open Go.RowKit

set_option maxRecDepth 100000 in
set_option maxHeartbeats 1000000 in
theorem shaOf_walk (s : ByteArray) (w : World) (L : Laid w) :
    Calls Tryd.prog 3 #[.string s] w fun e w' => e = .returned (.bool true) ∧ Below w.heap.size w w' := by
  have hw2 := L.lt
  have HL := Lib.hid L
  clear L
  by_cases hs : 3000 < s.size
  · have hs' : (3000 : Int) < (s.size : Int) := by omega
    go_enter Tryd.func3, Tryd.ntmps3
    go_wp2_with (go_at_call 7; ((with_reducible refine (hashed_any _ HL.out).mono ?_); rintro e w1 ⟨rfl, hb1⟩))
    go_ret
    exact ⟨rfl, hb1⟩
  · have hs' : ¬ (3000 : Int) < (s.size : Int) := by omega
    obtain ⟨D, hD⟩ : ∃ D, D = hashL s.data.toList := ⟨_, rfl⟩
    have hDl : D.length = 32 := by rw [hD, hashL_length]
    have CO : ∀ w', Laid w' → Calls Tryd.prog 8 #[.string s] w' fun e w'' => e = .returned (.agg (cells8 D)) ∧ Below w'.heap.size w' w'' := fun w' l => by rw [hD]; exact of_any w' s l (by omega)
    have CR : ∀ w', Calls Tryd.prog 9 #[.string s] w' fun e w'' => e = .returned (.agg (cells8 D)) ∧ Below w'.heap.size w' w'' := fun w' => by rw [hD]; exact rof_any s w' (by omega)
    have q : ∀ w, (Op.equalIn 10000 24 (.agg (cells8 D)) (.agg (cells8 D))).run Tryd.prog w = .ok true w := fun w => by
      rw [eq_digest w 9998 hDl hDl]; simp
    have gd := guard_digest
    clear hD hDl
    generalize cells8 D = A at *
    go_enter Tryd.func3, Tryd.ntmps3
    go_wp2_with (first
      | (go_at_call 8; ((with_reducible refine (CO _ HL.out).mono ?_); rintro e w1 ⟨rfl, hb1⟩; have l1 : Laid w1 := HL.out.below hb1 hw2))
      | (go_at_call 9; ((with_reducible refine (CR _).mono ?_); rintro e w2 ⟨rfl, hb2⟩; have l2 : Laid w2 := l1.below hb2 l1.lt))
      | (go_at_call 7; ((with_reducible refine (hashed_any _ l2).mono ?_); rintro e w3 ⟨rfl, hb3⟩)))
    go_ret
    exact ⟨rfl, (hb1.trans (hb2.mono hb1.size)).trans (hb3.mono (Nat.le_trans hb1.size hb2.size))⟩
end Go.Proofs.YtkjhfjibddcenaaDoor
