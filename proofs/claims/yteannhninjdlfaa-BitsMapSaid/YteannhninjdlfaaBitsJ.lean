/- The contracts of layer 2, as the laws meet them; and that the chapter's examples come out true. -/
import Derived.Test.YteannhninjdlfaaBitsF
import Derived.Test.YteannhninjdlfaaBitsI
namespace Go.Proofs.Yteannhninjdlfaa
open Go.RowKit

/-- Two calls, one behind the other. -/
theorem below_then {a b c : World} (h : Below a.heap.size a b) (k : Below b.heap.size b c) : Below a.heap.size a c := h.trans (k.mono h.size)
theorem has_b (s : ByteArray) (i : Int) (w : World) (hi : i ≤ 9223372036854775807) :
    Calls Try.prog 12 #[.string s, .int .i64 i] w fun e w' => e = .returned (.bool (hasV s i)) ∧ Below w.heap.size w w' :=
  (has_any s i w hi).mono fun _ _ ⟨he, _, hw⟩ => ⟨he, by rw [hw]; exact below_drewN (Below.refl _ _) _⟩

theorem runV_is {s : ByteArray} {f n : Int} {r : Int} (hn : 1 ≤ n) (h : IsRun s.data.toList f.toNat n.toNat r) : runV s f n = r := by
  unfold runV
  rw [if_neg (by omega)]
  exact runN_eq h
theorem shown_put : putV (258 : Int).toNat 3 = ⟨#[2, 1, 0]⟩ := by rfl
theorem shown_get : getN [1, 2] = 513 := by decide
theorem shown_has : hasV ⟨#[4]⟩ 2 = true := by decide
theorem shown_with : withV ⟨#[0]⟩ 9 true = ⟨#[0]⟩ := by decide
theorem shown_count : countN [255, 1] = 9 := by decide
theorem shown_run1 : runV ⟨#[3]⟩ 0 2 = 2 := by decide
theorem shown_run2 : runV ⟨#[3]⟩ 0 7 = -1 := by decide
theorem shown_run3 : runV ⟨#[3]⟩ 7 1 = 7 := by decide

set_option maxHeartbeats 1000000 in
theorem shown_any (w : World) :
    Calls Try.prog 7 #[] w fun e w' => e = .returned (.bool true) ∧ Below w.heap.size w w' := by
  have P := fun w => put_any 258 3 w (by omega) (by omega) (by omega)
  have G := fun w => get_any ⟨#[1, 2]⟩ w (by decide)
  have H := fun w => has_b ⟨#[4]⟩ 2 w (by omega)
  have T := fun w => with_any ⟨#[0]⟩ 9 true w (by decide) (by omega)
  have C := fun w => count_any ⟨#[255, 1]⟩ w (by decide)
  have R1 := fun w => run_any ⟨#[3]⟩ 0 2 w (by decide) (by omega) (by omega)
  have R2 := fun w => run_any ⟨#[3]⟩ 0 7 w (by decide) (by omega) (by omega)
  have R3 := fun w => run_any ⟨#[3]⟩ 7 1 w (by decide) (by omega) (by omega)
  rw [shown_put] at P
  rw [show (ByteArray.mk #[1, 2]).data.toList = [1, 2] from rfl, shown_get] at G
  rw [shown_has] at H
  rw [shown_with] at T
  rw [show (ByteArray.mk #[255, 1]).data.toList = [255, 1] from rfl, shown_count] at C
  rw [shown_run1] at R1
  rw [shown_run2] at R2
  rw [shown_run3] at R3
  have hb := Below.refl w.heap.size w
  go_enter Try.func7, Try.ntmps7
  go_wp2_with (first
    | (go_at_call 8; ((with_reducible refine (P _).mono ?_); rintro e w1 ⟨rfl, hb1⟩; replace hb := below_then hb hb1; clear hb1))
    | (go_at_call 10; ((with_reducible refine (G _).mono ?_); rintro e w1 ⟨rfl, rfl⟩))
    | (go_at_call 12; ((with_reducible refine (H _).mono ?_); rintro e w1 ⟨rfl, hb1⟩; replace hb := below_then hb hb1; clear hb1))
    | (go_at_call 14; ((with_reducible refine (T _).mono ?_); rintro e w1 ⟨rfl, hb1⟩; replace hb := below_then hb hb1; clear hb1))
    | (go_at_call 18; ((with_reducible refine (C _).mono ?_); rintro e w1 ⟨rfl, hb1⟩; replace hb := below_then hb hb1; clear hb1))
    | (go_at_call 16; ((with_reducible refine (R1 _).mono ?_); rintro e w1 ⟨rfl, hb1⟩; replace hb := below_then hb hb1; clear hb1))
    | (go_at_call 16; ((with_reducible refine (R2 _).mono ?_); rintro e w1 ⟨rfl, hb1⟩; replace hb := below_then hb hb1; clear hb1))
    | (go_at_call 16; ((with_reducible refine (R3 _).mono ?_); rintro e w1 ⟨rfl, hb1⟩; replace hb := below_then hb hb1; clear hb1)))
  go_ret
  exact ⟨rfl, hb⟩
end Go.Proofs.Yteannhninjdlfaa
