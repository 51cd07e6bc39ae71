/- The walk of BitsMap. -/
import Derived.Test.YteannhninjdlfaaBitsJ
namespace Go.Proofs.Yteannhninjdlfaa
open Go.RowKit

theorem i64_mask (n : Int) (j : Nat) (hj : j ≤ 60) (m : Int) (hm : (BitVec.ofInt 64 m).toNat = 2 ^ j - 1) : bits .and .i64 n m = n % ((2 ^ j : Nat) : Int) := by
  have key : (BitVec.ofInt 64 n &&& BitVec.ofInt 64 m).toNat = (n % ((2 ^ 64 : Nat) : Int)).toNat % 2 ^ j := by
    rw [BitVec.toNat_and, BitVec.toNat_ofInt, hm, Nat.and_two_pow_sub_one_eq_mod]
  show IntKind.i64.wrap ((BitVec.ofInt 64 n &&& BitVec.ofInt 64 m).toNat : Nat) = n % ((2 ^ j : Nat) : Int)
  rw [key, IntKind.wrap_i64]
  have hp : (2 ^ j) ∣ 18446744073709551616 := by
    have : (2 : Nat) ^ j ∣ 2 ^ 64 := Nat.pow_dvd_pow 2 (by omega)
    simpa using this
  have hle : 2 ^ j ≤ 1152921504606846976 := Nat.le_trans (Nat.pow_le_pow_right (n := 2) (by omega) hj) (by decide)
  have hpos : 0 < 2 ^ j := Nat.two_pow_pos j
  generalize 2 ^ j = p at *
  obtain ⟨q, hq⟩ := hp
  have h1 : (n % ((2 ^ 64 : Nat) : Int)).toNat % p < p := Nat.mod_lt _ hpos
  have h2 : (((n % ((2 ^ 64 : Nat) : Int)).toNat % p : Nat) : Int) = n % (p : Int) := by
    rw [Int.natCast_emod, Int.toNat_of_nonneg (Int.emod_nonneg _ (by decide))]
    exact Int.emod_emod_of_dvd _ ⟨(q : Int), by rw [← Int.natCast_mul, ← hq]⟩
  rw [h2]
  have h3 : n % (p : Int) < p := Int.emod_lt_of_pos _ (by omega)
  have h4 : 0 ≤ n % (p : Int) := Int.emod_nonneg _ (by omega)
  omega
theorem i64_and255 (n : Int) : bits .and .i64 n 255 = n % 256 := i64_mask n 8 (by decide) 255 (by decide)
theorem i64_and15 (n : Int) : bits .and .i64 n 15 = n % 16 := i64_mask n 4 (by decide) 15 (by decide)

set_option maxHeartbeats 2000000 in
theorem map_any (s : ByteArray) (i n : Int) (w : World) (hs : s.size ≤ 9223372036854775807) (hi : i ≤ 9223372036854775807) (hn : n ≤ 9223372036854775807) :
    Calls Try.prog 4 #[.string s, .int .i64 i, .int .i64 n] w fun e w' => e = .returned (.bool true) ∧ Below w.heap.size w w' := by
  have hb := Below.refl w.heap.size w
  by_cases hbig : 30 < s.size
  · go_enter Try.func4, Try.ntmps4
    go_wp2_with (go_at_call 7; ((with_reducible refine (shown_any _).mono ?_); rintro e w1 ⟨rfl, hb1⟩; replace hb := below_then hb hb1; clear hb1))
    go_ret
    exact ⟨rfl, hb⟩
  have hs1 : s.size ≤ 1000000 := by omega
  have C := fun w => count_any s w hs1
  have D := fun w => rcount_any s w hs1
  obtain ⟨c, hc⟩ : ∃ c : Nat, c = countN s.data.toList := ⟨_, rfl⟩
  rw [← hc] at C D
  clear hc hs
  have e1 := i64_and255 i
  have e2 := i64_and15 n
  have g0 := Int.emod_nonneg i (show (256 : Int) ≠ 0 by omega)
  have g1 := Int.emod_lt_of_pos i (show (0 : Int) < 256 by omega)
  have g2 := Int.emod_nonneg n (show (16 : Int) ≠ 0 by omega)
  have g3 := Int.emod_lt_of_pos n (show (0 : Int) < 16 by omega)
  go_enter Try.func4, Try.ntmps4
  go_wp2
  go_loopw [7] (fun i wr => ∃ k : Int, 0 ≤ k ∧ k ≤ 4 ∧ i = .int .i64 k ∧ Below w.heap.size w wr) (fun i _ => (4 - intOf i).toNat)
  case atStart => exact ⟨0, by omega, by omega, rfl, hb⟩
  case round =>
    obtain ⟨k, hk0, hk1, rfl, hb⟩ := hrel
    by_cases hlt : k < 4
    · rcases (show k = 0 ∨ k = 1 ∨ k = 2 ∨ k = 3 by omega) with rfl | rfl | rfl | rfl
      all_goals
        go_wp2_with (first
          | (go_at_call 12; ((with_reducible refine (has_b _ _ _ (by omega)).mono ?_); rintro e w1 ⟨rfl, hb1⟩; replace hb := hb.trans (hb1.mono hb.size); clear hb1))
          | (go_at_call 13; ((with_reducible refine (rhas_any _ _ _ hs1 (by omega)).mono ?_); rintro e w1 ⟨rfl, rfl⟩))
          | (go_at_call 14; ((with_reducible refine (with_any _ _ _ _ hs1 (by omega)).mono ?_); rintro e w1 ⟨rfl, hb1⟩; replace hb := hb.trans (hb1.mono hb.size); clear hb1))
          | (go_at_call 15; ((with_reducible refine (rwith_any _ _ _ _ hs1).mono ?_); rintro e w1 ⟨rfl, hb1⟩; replace hb := hb.trans (hb1.mono hb.size); clear hb1))
          | (go_at_call 16; ((with_reducible refine (run_any _ _ _ _ hs1 (by omega) (by omega)).mono ?_); rintro e w1 ⟨rfl, hb1⟩; replace hb := hb.trans (hb1.mono hb.size); clear hb1))
          | (go_at_call 17; ((with_reducible refine (rrun_any _ _ _ _ hs1 (by omega) (by omega)).mono ?_); rintro e w1 ⟨rfl, rfl⟩)))
        go_roundw
        case rel => exact ⟨_, by omega, by omega, rfl, hb⟩
        case measure => simp [intOf]
    · go_wp2_with (first
        | (go_at_call 18; ((with_reducible refine (C _).mono ?_); rintro e w1 ⟨rfl, hb1⟩; replace hb := hb.trans (hb1.mono hb.size); clear hb1))
        | (go_at_call 19; ((with_reducible refine (D _).mono ?_); rintro e w1 ⟨rfl, rfl⟩))
        | (go_at_call 7; ((with_reducible refine (shown_any _).mono ?_); rintro e w1 ⟨rfl, hb1⟩; replace hb := hb.trans (hb1.mono hb.size); clear hb1)))
      go_ret
      exact ⟨rfl, hb⟩
end Go.Proofs.Yteannhninjdlfaa
