/- The contract of layer 1's Share, for every part and whole; and that the chapter's examples come out true. -/
import Derived.Test.YtckjloojbhomlaaNumsE
namespace Go.Proofs.Ytckjloojbhomlaa
open Go.RowKit

theorem below_drewN {B : Nat} {a w : World} (h : Below B a w) (n : Nat) : Below B a (w.drewN n) := h.trans ⟨rfl, rfl, rfl, Nat.le_refl _, fun _ _ => rfl⟩
/-- Two calls, one behind the other. -/
theorem below_then {a b c : World} (h : Below a.heap.size a b) (k : Below b.heap.size b c) : Below a.heap.size a c := h.trans (k.mono h.size)

set_option maxHeartbeats 400000 in
theorem share_any (p q : Int) (w : World) (p1 : p ≤ 9223372036854775807) (q1 : q ≤ 9223372036854775807) :
    Calls Try.prog 16 #[.int .i64 p, .int .i64 q] w fun e w' => e = .returned (.int .i64 (shareV p q)) ∧ Below w.heap.size w w' := by
  by_cases hq : q < 1
  · rw [shareV_none (Or.inl hq)]
    go_enter Try.func16, Try.ntmps16
    go_wp2
    go_ret
    exact ⟨rfl, Below.refl _ _⟩
  · by_cases hp : p < 0
    · rw [shareV_none (Or.inr hp)]
      go_enter Try.func16, Try.ntmps16
      go_wp2
      go_ret
      exact ⟨rfl, Below.refl _ _⟩
    · by_cases hpq : q ≤ p
      · rw [shareV_all (by omega) (by omega) hpq]
        go_enter Try.func16, Try.ntmps16
        go_wp2
        go_ret
        exact ⟨rfl, Below.refl _ _⟩
      · have hs := shareV_part (p := p) (q := q) (by omega) (by omega) (by omega)
        have t0 : 0 ≤ 100 * p / q := Int.ediv_nonneg (by omega) (by omega)
        have t1 : 100 * p / q < 100 := Int.ediv_lt_of_lt_mul (by omega) (by omega)
        obtain ⟨x, hx⟩ : ∃ x : Nat, (x : Int) = p := ⟨p.toNat, by omega⟩
        obtain ⟨y, hy⟩ : ∃ y : Nat, (y : Int) = q := ⟨q.toNat, by omega⟩
        have cM : ∀ w, Calls Try.prog 24 #[.int .u64 p, .int .u64 100] w fun e w' => e = .returned (.tuple #[.int .u64 ((x * 100 / 18446744073709551616 : Nat) : Int), .int .u64 ((x * 100 % 18446744073709551616 : Nat) : Int)]) ∧ w = w' := by
          intro w
          rw [← hx]
          exact (Try.bits_Mul64 x 100 (by omega) (by omega) w).mono fun e w' ⟨he, hw⟩ => ⟨he, hw.symm⟩
        have cD := fun w => div64_any (x * 100 / 18446744073709551616) (x * 100 % 18446744073709551616) y w (by omega) (by omega) (by omega) (Nat.mod_lt _ (by omega))
        obtain ⟨H, hH⟩ : ∃ H : Int, H = ((x * 100 / 18446744073709551616 : Nat) : Int) := ⟨_, rfl⟩
        obtain ⟨L, hL⟩ : ∃ L : Int, L = ((x * 100 % 18446744073709551616 : Nat) : Int) := ⟨_, rfl⟩
        have e : (H * 18446744073709551616 + L) = 100 * p := by omega
        rw [← hH, ← hL] at cM cD
        rw [e, hy] at cD
        obtain ⟨t, ht⟩ : ∃ t, t = 100 * p / q := ⟨_, rfl⟩
        rw [← ht] at cD hs t0 t1
        rw [hs]
        clear hs ht e hH hL hx hy
        go_enter Try.func16, Try.ntmps16
        go_wp2_with (first | (go_at_call 24; ((with_reducible refine (cM _).mono ?_); rintro e w' ⟨rfl, rfl⟩)) | (go_at_call 25; ((with_reducible refine (cD _).mono ?_); rintro e w' ⟨⟨r, rfl⟩, n, rfl⟩)))
        go_ret
        exact ⟨rfl, below_drewN (Below.refl _ _) _⟩

set_option maxHeartbeats 1000000 in
theorem added_any (w : World) :
    Calls Try.prog 18 #[] w fun e w' => e = .returned (.bool true) ∧ Below w.heap.size w w' := by
  have A1 : addV 4611686018427387904 0 = 4611686018427387904 := by decide
  have A1' : addB 4611686018427387904 0 = true := by decide
  have A2 : addV 4611686018427387904 1 = 0 := by decide
  have A2' : addB 4611686018427387904 1 = false := by decide
  have A3 : addV (-1) 3 = 0 := by decide
  have A3' : addB (-1) 3 = false := by decide
  have M1 : mulV 2147483648 2147483648 = 4611686018427387904 := by decide
  have M1' : mulB 2147483648 2147483648 = true := by decide
  have M2 : mulV 4294967296 2147483648 = 0 := by decide
  have M2' : mulB 4294967296 2147483648 = false := by decide
  have S1 : shareV 1 3 = 33 := by decide
  have S2 : shareV 5 3 = 100 := by decide
  have S3 : shareV 4611686018427387904 4611686018427387904 = 100 := by decide
  have B0 := fun w => blocks_no 0 w (by omega)
  have B1 : ∀ w, Calls Try.prog 14 #[.int .i64 1] w fun e w' => e = .returned (.int .i64 1) ∧ w = w' := fun w => blocks_yes 1 w (by omega) (by omega)
  have B2 : ∀ w, Calls Try.prog 14 #[.int .i64 512] w fun e w' => e = .returned (.int .i64 1) ∧ w = w' := fun w => blocks_yes 512 w (by omega) (by omega)
  have B3 : ∀ w, Calls Try.prog 14 #[.int .i64 513] w fun e w' => e = .returned (.int .i64 2) ∧ w = w' := fun w => blocks_yes 513 w (by omega) (by omega)
  have hb := Below.refl w.heap.size w
  go_enter Try.func18, Try.ntmps18
  go_wp2_with (first
    | (go_at_call 7; ((with_reducible refine (add_any _ _ _).mono ?_); rintro e w1 ⟨rfl, hb1⟩; replace hb := below_then hb hb1; clear hb1))
    | (go_at_call 11; ((with_reducible refine (mul_any _ _ _).mono ?_); rintro e w1 ⟨rfl, rfl⟩))
    | (go_at_call 13; ((with_reducible refine (is_yes _ _ _).mono ?_); rintro e w1 ⟨rfl, rfl⟩))
    | (go_at_call 14; ((with_reducible refine (B0 _).mono ?_); rintro e w1 ⟨rfl, rfl⟩))
    | (go_at_call 14; ((with_reducible refine (B1 _).mono ?_); rintro e w1 ⟨rfl, rfl⟩))
    | (go_at_call 14; ((with_reducible refine (B2 _).mono ?_); rintro e w1 ⟨rfl, rfl⟩))
    | (go_at_call 14; ((with_reducible refine (B3 _).mono ?_); rintro e w1 ⟨rfl, rfl⟩))
    | (go_at_call 16; ((with_reducible refine (share_any _ _ _ (by omega) (by omega)).mono ?_); rintro e w1 ⟨rfl, hb1⟩; replace hb := below_then hb hb1; clear hb1)))
  go_ret
  exact ⟨rfl, hb⟩

end Go.Proofs.Ytckjloojbhomlaa
