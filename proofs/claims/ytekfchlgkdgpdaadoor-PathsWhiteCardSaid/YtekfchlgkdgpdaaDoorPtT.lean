/- Layer 14: PathsTell. -/
import Derived.Test.YtekfchlgkdgpdaaDoorPtQ
namespace Go.Proofs.YtekfchlgkdgpdaaDoor
open Go.RowKit

theorem is_str (a : ByteArray) : ∃ p, a = str p ∧ p.length = a.size := ⟨a.data.toList, (str_list a).symm, by simp⟩
theorem long_cleaned {P : Prop} (h : P) : P := h
set_option maxRecDepth 100000 in
set_option maxHeartbeats 4000000 in
theorem tell_walk (a0 a1 : ByteArray) (W : World) : Calls Tryd.prog 3 #[.string a0, .string a1] W fun e w' => e = .returned (.bool true) ∧ Below W.heap.size W w' := by
  obtain ⟨p, rfl, hp⟩ := is_str a0
  obtain ⟨q, rfl, hq⟩ := is_str a1
  clear hp hq
  have zp := str_size p
  have zq := str_size q
  have CX := fun w => cleaned_any w
  by_cases h1 : 400 < p.length
  · have g1 : (400 : Int) < (p.length : Int) := by omega
    go_enter Tryd.func3, Tryd.ntmps3
    go_wp2_with (go_at_call 8; with_reducible refine (CX _).mono ?_; rintro e w1 ⟨rfl, b1⟩)
    go_ret
    exact ⟨rfl, b1⟩
  have g1 : ¬ (400 : Int) < (p.length : Int) := by omega
  by_cases h2 : 400 < q.length
  · have g2 : (400 : Int) < (q.length : Int) := by omega
    go_enter Tryd.func3, Tryd.ntmps3
    go_wp2_with (go_at_call 8; with_reducible refine (CX _).mono ?_; rintro e w1 ⟨rfl, b1⟩)
    go_ret
    exact ⟨rfl, b1⟩
  have g2 : ¬ (400 : Int) < (q.length : Int) := by omega
  have C1 := fun w => clean_any p (by omega) w
  have C2 := fun w => rclean_any p (by omega) w
  have W1 := fun w => white_any p (by omega) w
  have W2 := fun w => rwhite_any p (by omega) w
  have P1 := fun w => parent_any p (by omega) w
  have P2 := fun w => rparent_any p (by omega) w
  have B1 := fun w => base_any p (by omega) w
  have B2 := fun w => rbase_any p (by omega) w
  have J1 := fun w => join_any p q (by omega) (by omega) w
  have J2 := fun w => rjoin_any p q (by omega) (by omega) w
  have I1 := fun w => inside_any p q w
  have I2 := fun w => rinside_any p q (by omega) w
  have I3 := fun w => inside_any p (p ++ 47 :: q) w
  rw [inside_under, show str (p ++ 47 :: q) = str p ++ ⟨#[47]⟩ ++ str q by rw [show p ++ 47 :: q = p ++ [47] ++ q by simp, ← str_append, ← str_append]; rfl] at I3
  have zx : (str p ++ ⟨#[47]⟩ : ByteArray).size = p.length + 1 := by rw [ByteArray.size_append, zp]; rfl
  generalize (cleanL p).1 = c1 at *
  generalize (cleanL p).2 = c2 at *
  generalize (whiteL p).1 = c3 at *
  generalize (whiteL p).2.1 = c4 at *
  generalize (whiteL p).2.2 = c5 at *
  generalize parentL p = c6 at *
  generalize baseL p = c7 at *
  generalize join2 p q = c8 at *
  generalize insideB p q = c9 at *
  have hpl : (p.length : Int) ≤ 400 := by omega
  have hql : (q.length : Int) ≤ 400 := by omega
  clear h1 h2
  go_enter Tryd.func3, Tryd.ntmps3
  go_wp2_with (first
    | (go_at_call 9; with_reducible refine (C1 _).mono ?_; rintro e w1 ⟨rfl, b1⟩)
    | (go_at_call 10; with_reducible refine (C2 _).mono ?_; rintro e w2 ⟨rfl, b2⟩)
    | (go_at_call 11; with_reducible refine (W1 _).mono ?_; rintro e w3 ⟨rfl, b3⟩)
    | (go_at_call 12; with_reducible refine (W2 _).mono ?_; rintro e w4 ⟨rfl, k4, rfl⟩)
    | (go_at_call 13; with_reducible refine (P1 _).mono ?_; rintro e w5 ⟨rfl, b5⟩)
    | (go_at_call 14; with_reducible refine (P2 _).mono ?_; rintro e w6 ⟨rfl, b6⟩)
    | (go_at_call 15; with_reducible refine (B1 _).mono ?_; rintro e w7 ⟨rfl, b7⟩)
    | (go_at_call 16; with_reducible refine (B2 _).mono ?_; rintro e w8 ⟨rfl, b8⟩)
    | (go_at_call 17; with_reducible refine (J1 _).mono ?_; rintro e w9 ⟨rfl, b9⟩)
    | (go_at_call 18; with_reducible refine (J2 _).mono ?_; rintro e w10 ⟨rfl, rfl⟩)
    | (go_at_call 19; with_reducible refine (I1 _).mono ?_; rintro e w11 ⟨rfl, rfl⟩)
    | (go_at_call 20; with_reducible refine (I2 _).mono ?_; rintro e w12 ⟨rfl, rfl⟩)
    | (go_at_call 19; with_reducible refine (I3 _).mono ?_; rintro e w13 ⟨rfl, rfl⟩)
    | (go_at_call 8; with_reducible refine (CX _).mono ?_; rintro e w14 ⟨rfl, b14⟩))
  go_ret
  refine ⟨rfl, ?_⟩
  have c2 := b1.trans (b2.mono b1.size)
  have c3 := c2.trans (b3.mono c2.size)
  have c4 := below_drewN c3 k4
  have c5 := c4.trans (b5.mono c4.size)
  have c6 := c5.trans (b6.mono c5.size)
  have c7 := c6.trans (b7.mono c6.size)
  have c8 := c7.trans (b8.mono c7.size)
  have c9 := c8.trans (b9.mono c8.size)
  exact c9.trans (b14.mono c9.size)
end Go.Proofs.YtekfchlgkdgpdaaDoor
