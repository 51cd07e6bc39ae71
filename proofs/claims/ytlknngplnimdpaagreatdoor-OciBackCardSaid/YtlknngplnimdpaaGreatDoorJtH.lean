/- Layer 11: digits to the base 16, units. -/
import Derived.Test.YtlknngplnimdpaaGreatDoorJtG
namespace Go.Proofs.YtlknngplnimdpaaGreatDoor
open Go.RowKit

theorem ret2 {k : IntKind} {a b : Int} {x y : Value} (h : a = b) (g : x = y) : Ending.returned (.tuple #[.int k a, x]) = .returned (.tuple #[.int k b, y]) := by rw [h, g]
set_option maxHeartbeats 1000000 in
theorem valueOf_some {c : UInt8} {n : Nat} (h : hexV c = some n) (w : World) : Calls Tryz.prog 209 #[.int .u8 (c.toNat : Int)] w fun e w' => e = .returned (.tuple #[.int .i32 (n : Int), .bool true]) ∧ w = w' := by
  have hd := fun w => isDigit_any c w
  have hi := isDg_iff c
  have hc := c.toNat_lt
  unfold hexV at h
  generalize isDg c = b at hd hi
  generalize c.toNat = m at hd hi hc h ⊢
  by_cases h1 : 48 ≤ m ∧ m ≤ 57
  · rw [if_pos h1, Option.some.injEq] at h
    obtain rfl : b = true := hi.2 h1
    obtain ⟨a1, a2⟩ := h1
    have HN := Lib.hid h
    clear hi h
    go_enter Tryz.func209, Tryz.ntmps209
    go_wp2_with (go_at_call 181; ((with_reducible refine (hd _).mono ?_); rintro e w' ⟨rfl, rfl⟩))
    go_ret2
    exact ⟨ret2 (by have := HN.out; omega) rfl, rfl⟩
  · obtain rfl : b = false := by cases b; rfl; exact absurd (hi.1 rfl) h1
    rw [if_neg h1] at h
    by_cases h2 : 97 ≤ m ∧ m ≤ 102
    · rw [if_pos h2, Option.some.injEq] at h
      obtain ⟨a1, a2⟩ := h2
      have e1 : decide ((97 : Int) ≤ (m : Int)) = true := by rw [decide_eq_true_eq]; omega
      have e2 : decide ((m : Int) ≤ 102) = true := by rw [decide_eq_true_eq]; omega
      have HN := Lib.hid h
      clear hi h h1
      go_enter Tryz.func209, Tryz.ntmps209
      go_wp2_with (go_at_call 181; ((with_reducible refine (hd _).mono ?_); rintro e w' ⟨rfl, rfl⟩))
      go_ret2
      exact ⟨ret2 (by have := HN.out; omega) rfl, rfl⟩
    · rw [if_neg h2] at h
      by_cases h3 : 65 ≤ m ∧ m ≤ 70
      · rw [if_pos h3, Option.some.injEq] at h
        obtain ⟨a1, a2⟩ := h3
        have e0 : decide ((97 : Int) ≤ (m : Int)) = false := by rw [decide_eq_false_iff_not]; omega
        have e1 : decide ((65 : Int) ≤ (m : Int)) = true := by rw [decide_eq_true_eq]; omega
        have e2 : decide ((m : Int) ≤ 70) = true := by rw [decide_eq_true_eq]; omega
        have HN := Lib.hid h
        clear hi h h1 h2
        go_enter Tryz.func209, Tryz.ntmps209
        go_wp2_with (go_at_call 181; ((with_reducible refine (hd _).mono ?_); rintro e w' ⟨rfl, rfl⟩))
        go_ret2
        exact ⟨ret2 (by have := HN.out; omega) rfl, rfl⟩
      · rw [if_neg h3] at h; cases h
set_option maxHeartbeats 1000000 in
theorem valueOf_none {c : UInt8} (h : hexV c = none) (w : World) : Calls Tryz.prog 209 #[.int .u8 (c.toNat : Int)] w fun e w' => e = .returned (.tuple #[.int .i32 0, .bool false]) ∧ w = w' := by
  have hd := fun w => isDigit_any c w
  have hi := isDg_iff c
  unfold hexV at h
  generalize isDg c = b at hd hi
  generalize c.toNat = m at hd hi h ⊢
  by_cases h1 : 48 ≤ m ∧ m ≤ 57
  · rw [if_pos h1] at h; cases h
  rw [if_neg h1] at h
  by_cases h2 : 97 ≤ m ∧ m ≤ 102
  · rw [if_pos h2] at h; cases h
  rw [if_neg h2] at h
  by_cases h3 : 65 ≤ m ∧ m ≤ 70
  · rw [if_pos h3] at h; cases h
  obtain rfl : b = false := by cases b; rfl; exact absurd (hi.1 rfl) h1
  clear h hi h1
  by_cases k1 : 97 ≤ m
  · have e1 : decide ((97 : Int) ≤ (m : Int)) = true := by rw [decide_eq_true_eq]; omega
    have e2 : decide ((m : Int) ≤ 102) = false := by rw [decide_eq_false_iff_not]; omega
    have e3 : decide ((65 : Int) ≤ (m : Int)) = true := by rw [decide_eq_true_eq]; omega
    have e4 : decide ((m : Int) ≤ 70) = false := by rw [decide_eq_false_iff_not]; omega
    clear h2 h3 k1
    go_enter Tryz.func209, Tryz.ntmps209
    go_wp2_with (go_at_call 181; ((with_reducible refine (hd _).mono ?_); rintro e w' ⟨rfl, rfl⟩))
    go_ret2
    exact ⟨rfl, rfl⟩
  · have e1 : decide ((97 : Int) ≤ (m : Int)) = false := by rw [decide_eq_false_iff_not]; omega
    by_cases k2 : 65 ≤ m
    · have e3 : decide ((65 : Int) ≤ (m : Int)) = true := by rw [decide_eq_true_eq]; omega
      have e4 : decide ((m : Int) ≤ 70) = false := by rw [decide_eq_false_iff_not]; omega
      clear h2 h3 k1 k2
      go_enter Tryz.func209, Tryz.ntmps209
      go_wp2_with (go_at_call 181; ((with_reducible refine (hd _).mono ?_); rintro e w' ⟨rfl, rfl⟩))
      go_ret2
      exact ⟨rfl, rfl⟩
    · have e3 : decide ((65 : Int) ≤ (m : Int)) = false := by rw [decide_eq_false_iff_not]; omega
      clear h2 h3 k1 k2
      go_enter Tryz.func209, Tryz.ntmps209
      go_wp2_with (go_at_call 181; ((with_reducible refine (hd _).mono ?_); rintro e w' ⟨rfl, rfl⟩))
      go_ret2
      exact ⟨rfl, rfl⟩
set_option maxHeartbeats 1000000 in
theorem isLow_any (n : Nat) (w : World) : Calls Tryz.prog 205 #[.int .i32 (n : Int)] w fun e w' => e = .returned (.bool (isLo n)) ∧ w = w' := by
  have hi := isLo_iff n
  generalize isLo n = b at hi ⊢
  by_cases h1 : 56320 ≤ n
  · have e1 : decide ((56320 : Int) ≤ (n : Int)) = true := by rw [decide_eq_true_eq]; omega
    by_cases h2 : n < 57344
    · obtain rfl : b = true := hi.2 ⟨h1, h2⟩
      have e2 : decide ((n : Int) < 57344) = true := by rw [decide_eq_true_eq]; omega
      clear hi h1 h2
      go_enter Tryz.func205, Tryz.ntmps205
      go_wp2
      go_ret
      exact ⟨rfl, rfl⟩
    · obtain rfl : b = false := by cases b; rfl; exact absurd (hi.1 rfl).2 h2
      have e2 : decide ((n : Int) < 57344) = false := by rw [decide_eq_false_iff_not]; omega
      clear hi h1 h2
      go_enter Tryz.func205, Tryz.ntmps205
      go_wp2
      go_ret
      exact ⟨rfl, rfl⟩
  · obtain rfl : b = false := by cases b; rfl; exact absurd (hi.1 rfl).1 h1
    have e1 : decide ((56320 : Int) ≤ (n : Int)) = false := by rw [decide_eq_false_iff_not]; omega
    clear hi h1
    go_enter Tryz.func205, Tryz.ntmps205
    go_wp2
    go_ret
    exact ⟨rfl, rfl⟩
set_option maxHeartbeats 1000000 in
theorem isHigh_any (n : Nat) (w : World) : Calls Tryz.prog 206 #[.int .i32 (n : Int)] w fun e w' => e = .returned (.bool (isHi n)) ∧ w = w' := by
  have hi := isHi_iff n
  generalize isHi n = b at hi ⊢
  by_cases h1 : 55296 ≤ n
  · have e1 : decide ((55296 : Int) ≤ (n : Int)) = true := by rw [decide_eq_true_eq]; omega
    by_cases h2 : n < 56320
    · obtain rfl : b = true := hi.2 ⟨h1, h2⟩
      have e2 : decide ((n : Int) < 56320) = true := by rw [decide_eq_true_eq]; omega
      clear hi h1 h2
      go_enter Tryz.func206, Tryz.ntmps206
      go_wp2
      go_ret
      exact ⟨rfl, rfl⟩
    · obtain rfl : b = false := by cases b; rfl; exact absurd (hi.1 rfl).2 h2
      have e2 : decide ((n : Int) < 56320) = false := by rw [decide_eq_false_iff_not]; omega
      clear hi h1 h2
      go_enter Tryz.func206, Tryz.ntmps206
      go_wp2
      go_ret
      exact ⟨rfl, rfl⟩
  · obtain rfl : b = false := by cases b; rfl; exact absurd (hi.1 rfl).1 h1
    have e1 : decide ((55296 : Int) ≤ (n : Int)) = false := by rw [decide_eq_false_iff_not]; omega
    clear hi h1
    go_enter Tryz.func206, Tryz.ntmps206
    go_wp2
    go_ret
    exact ⟨rfl, rfl⟩
end Go.Proofs.YtlknngplnimdpaaGreatDoor
