/- The walk of BitsBack. -/
import Derived.Test.YteannhninjdlfaaBitsJ
namespace Go.Proofs.Yteannhninjdlfaa
open Go.RowKit

theorem withV_in {s : ByteArray} {k : Int} (on : Bool) (h : inT s k = true) : withV s k on = str (putB s.data.toList k.toNat on) := by unfold withV; rw [if_pos h]
theorem withV_out {s : ByteArray} {k : Int} (on : Bool) (h : inT s k = false) : withV s k on = s := by unfold withV; rw [if_neg (by simp [h])]
theorem str_data (l : List UInt8) : (str l).data.toList = l := rfl
theorem str_size (l : List UInt8) : (str l).size = l.length := rfl
theorem withV_size (s : ByteArray) (k : Int) (on : Bool) : (withV s k on).size = s.size := by
  unfold withV
  split
  · rw [str_size, putB_length]; simp
  · rfl
theorem inT_withV (s : ByteArray) (k : Int) (on : Bool) (j : Int) : inT (withV s k on) j = inT s j := by
  unfold inT; rw [withV_size]
theorem hasV_withV {s : ByteArray} {k j : Int} (on : Bool) (h : inT s k = true) (hj : 0 ≤ j) : hasV (withV s k on) j = if j = k then on else hasV s j := by
  have hl : s.data.toList.length = s.size := by simp
  obtain ⟨h0, h1⟩ := inT_iff.1 h
  obtain ⟨x, rfl⟩ : ∃ x : Nat, j = x := ⟨j.toNat, by omega⟩
  obtain ⟨y, rfl⟩ : ∃ y : Nat, k = y := ⟨k.toNat, by omega⟩
  rw [hasV_nat, hasV_nat, withV_in on h, str_data, Int.toNat_natCast, bitN_putB _ _ _ _ (by omega)]
  by_cases e : x = y
  · subst e; simp
  · rw [if_neg e, if_neg (by omega)]
theorem count_withV {s : ByteArray} {k : Int} (h : inT s k = true) : countN (withV s k true).data.toList = countN (withV s k false).data.toList + 1 := by
  have hl : s.data.toList.length = s.size := by simp
  obtain ⟨h0, h1⟩ := inT_iff.1 h
  rw [withV_in _ h, withV_in _ h, str_data, str_data]
  exact countN_set _ _ (by omega)
theorem withV_same {s : ByteArray} {k : Int} (b : Bool) (h : inT s k = true) : withV (withV s k b) k (hasV s k) = s := by
  have hl : s.data.toList.length = s.size := by simp
  obtain ⟨h0, h1⟩ := inT_iff.1 h
  rw [withV_in _ (by rw [inT_withV]; exact h), withV_in _ h, str_data]
  obtain ⟨y, rfl⟩ : ∃ y : Nat, k = y := ⟨k.toNat, by omega⟩
  rw [hasV_nat, Int.toNat_natCast, putB_same _ _ _ (by omega), str_list]

theorem getK_putL (n m : Nat) : ∀ k, k ≤ m → getK (putL n m) k = n % 256 ^ k
  | 0, _ => by simp [getK, Nat.mod_one]
  | k + 1, h => by
    have hk : k < (putL n m).length := by rw [putL_length]; omega
    rw [getK, getK_putL n m k (by omega), List.getD, List.getElem?_eq_getElem hk, Option.getD_some]
    have e : (putL n m)[k] = UInt8.ofNat (n / 256 ^ k) := by simp [putL]
    rw [e, Nat.pow_succ, Nat.mod_mul]
    simp
theorem get_put (n m : Nat) (h : m ≤ 8) : getN (putL n m) = n % 256 ^ m := by
  unfold getN
  rw [putL_length, show min m 8 = m by omega, getK_putL n m m (Nat.le_refl _)]
theorem put8 (n : Int) (h0 : 0 ≤ n) (h1 : n < 18446744073709551616) : ((getN (putV n.toNat 8).data.toList : Nat) : Int) = n := by
  unfold putV
  rw [if_pos (by decide), str_data, show (8 : Int).toNat = 8 from rfl, get_put _ _ (by decide), Nat.mod_eq_of_lt (by show n.toNat < 18446744073709551616; omega)]
  omega
theorem put3 (n : Int) (h0 : 0 ≤ n) (h1 : n < 18446744073709551616) : ((getN (putV n.toNat 3).data.toList : Nat) : Int) = bits .and .u64 n 16777215 := by
  unfold putV
  rw [if_pos (by decide), str_data, show (3 : Int).toNat = 3 from rfl, get_put _ _ (by decide)]
  rw [u64_and n 16777215 h0 h1 (by decide) (by decide), show (16777215 : Int).toNat = 2 ^ 24 - 1 from rfl, Nat.and_two_pow_sub_one_eq_mod]
theorem putV_size (n : Nat) (k : Int) : (putV n k).size ≤ 1000000 := by
  unfold putV
  rw [str_size]
  split
  · rw [putL_length]; omega
  · simp
end Go.Proofs.Yteannhninjdlfaa
