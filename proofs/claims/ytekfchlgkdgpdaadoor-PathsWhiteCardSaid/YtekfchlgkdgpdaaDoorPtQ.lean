/- Layer 14: the chapter's paths. -/
import Derived.Test.YtekfchlgkdgpdaaDoorPtP
namespace Go.Proofs.YtekfchlgkdgpdaaDoor
open Go.RowKit

set_option maxRecDepth 100000 in
set_option maxHeartbeats 4000000 in
theorem cleaned_any (w : World) :
    Calls Tryd.prog 8 #[] w fun e w' => e = .returned (.bool true) ∧ Below w.heap.size w w' := by
  have C1 := fun w => clean_any [47, 97, 47, 46, 47, 98, 47, 47, 46, 46, 47, 99, 47] (by decide) w
  rw [show cleanL [47, 97, 47, 46, 47, 98, 47, 47, 46, 46, 47, 99, 47] = ([97, 47, 99], 0) by decide +kernel] at C1
  have C2 := fun w => clean_any [97, 47, 46, 46, 47, 46, 46] (by decide) w
  rw [show cleanL [97, 47, 46, 46, 47, 46, 46] = ([], 71) by decide +kernel] at C2
  have C3 := fun w => clean_any [] (by decide) w
  rw [show cleanL [] = ([], 0) by decide +kernel] at C3
  have W1 := fun w => white_any [46, 119, 104, 46, 120] (by decide) w
  rw [show whiteL [46, 119, 104, 46, 120] = ([120], false, true) by decide +kernel] at W1
  have W2 := fun w => white_any [46, 119, 104, 46, 46, 119, 104, 46, 46, 111, 112, 113] (by decide) w
  rw [show whiteL [46, 119, 104, 46, 46, 119, 104, 46, 46, 111, 112, 113] = ([], true, true) by decide +kernel] at W2
  have W3 := fun w => white_any [46, 119, 104, 46] (by decide) w
  rw [show whiteL [46, 119, 104, 46] = ([], false, false) by decide +kernel] at W3
  have P1 := fun w => parent_any [97, 47, 98] (by decide) w
  rw [show parentL [97, 47, 98] = [97] by decide +kernel] at P1
  have B1 := fun w => base_any [97, 47, 98] (by decide) w
  rw [show baseL [97, 47, 98] = [98] by decide +kernel] at B1
  have I1 := fun w => inside_any [97] [97, 98] w
  rw [show insideB [97] [97, 98] = false by decide +kernel] at I1
  have I2 := fun w => inside_any [97] [97, 47, 98] w
  rw [show insideB [97] [97, 47, 98] = true by decide +kernel] at I2
  simp only [str] at C1 C2 C3 W1 W2 W3 P1 B1 I1 I2
  go_enter Tryd.func8, Tryd.ntmps8
  go_wp2_with (first
    | (go_at_call 9; with_reducible refine (C1 _).mono ?_; rintro e w1 ⟨rfl, b1⟩)
    | (go_at_call 9; with_reducible refine (C2 _).mono ?_; rintro e w2 ⟨rfl, b2⟩)
    | (go_at_call 9; with_reducible refine (C3 _).mono ?_; rintro e w3 ⟨rfl, b3⟩)
    | (go_at_call 11; with_reducible refine (W1 _).mono ?_; rintro e w4 ⟨rfl, b4⟩)
    | (go_at_call 11; with_reducible refine (W2 _).mono ?_; rintro e w5 ⟨rfl, b5⟩)
    | (go_at_call 11; with_reducible refine (W3 _).mono ?_; rintro e w6 ⟨rfl, b6⟩)
    | (go_at_call 13; with_reducible refine (P1 _).mono ?_; rintro e w7 ⟨rfl, b7⟩)
    | (go_at_call 15; with_reducible refine (B1 _).mono ?_; rintro e w8 ⟨rfl, b8⟩)
    | (go_at_call 19; with_reducible refine (I1 _).mono ?_; rintro e w9 ⟨rfl, rfl⟩)
    | (go_at_call 19; with_reducible refine (I2 _).mono ?_; rintro e w10 ⟨rfl, rfl⟩))
  go_ret
  refine ⟨rfl, ?_⟩
  have c2 := b1.trans (b2.mono b1.size)
  have c3 := c2.trans (b3.mono c2.size)
  have c4 := c3.trans (b4.mono c3.size)
  have c5 := c4.trans (b5.mono c4.size)
  have c6 := c5.trans (b6.mono c5.size)
  have c7 := c6.trans (b7.mono c6.size)
  exact c7.trans (b8.mono c7.size)
end Go.Proofs.YtekfchlgkdgpdaaDoor
