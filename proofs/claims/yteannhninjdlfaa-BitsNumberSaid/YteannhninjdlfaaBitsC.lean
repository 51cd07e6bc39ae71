/- The contracts of layer 2's Get, and of the document's own. -/
import Derived.Test.YteannhninjdlfaaBitsB
namespace Go.Proofs.Yteannhninjdlfaa
open Go.RowKit

/-- The number of the first k bytes, the lowest first. -/
def getK (l : List UInt8) : Nat → Nat
  | 0 => 0
  | k + 1 => getK l k + 256 ^ k * (l.getD k 0).toNat
theorem getK_lt (l : List UInt8) : ∀ k, getK l k < 256 ^ k
  | 0 => by simp [getK]
  | k + 1 => by
    have h := getK_lt l k
    have hb := UInt8.toNat_lt (l.getD k 0)
    have h2 : 256 ^ k * (l.getD k 0).toNat ≤ 256 ^ k * 255 := Nat.mul_le_mul_left _ (by omega)
    rw [getK, Nat.pow_succ]
    omega
/-- The number of a text's bytes. -/
def getN (l : List UInt8) : Nat := getK l (min l.length 8)
theorem getN_lt (l : List UInt8) : getN l < 18446744073709551616 := by
  have h := getK_lt l (min l.length 8)
  have h2 : 256 ^ (min l.length 8) ≤ 256 ^ 8 := Nat.pow_le_pow_right (by omega) (by omega)
  unfold getN
  exact Nat.lt_of_lt_of_le h (by simpa using h2)

theorem getK_step {s : ByteArray} {k : Nat} (h : k < s.size) : getK s.data.toList (k + 1) = getK s.data.toList k + 256 ^ k * (s[k]).toNat := by
  have h' : k < s.data.toList.length := by simpa using h
  rw [getK, List.getD, List.getElem?_eq_getElem h', Option.getD_some]
  rfl
theorem wrap_u64_nat {n : Nat} (h : n < 18446744073709551616) : IntKind.u64.wrap (n : Int) = n := by
  rw [IntKind.wrap_u64]; omega
theorem wrap_u64_mod (n : Nat) : IntKind.u64.wrap (n : Int) = (n % 18446744073709551616 : Nat) := by
  rw [IntKind.wrap_u64]; omega
theorem pow8 {k : Nat} (h : k ≤ 8) : 256 ^ k ≤ 18446744073709551616 := by
  have h2 : 256 ^ k ≤ 256 ^ 8 := Nat.pow_le_pow_right (by omega) h
  simpa using h2
theorem get_or {s : ByteArray} {k : Nat} (h : k < s.size) (h8 : k < 8) (n : Nat) (hn : n = getK s.data.toList k) :
    bits BinOp.or IntKind.u64 (n : Int) (IntKind.u64.wrap (IntKind.u64.wrap ((s[k]).toNat : Int) * 2 ^ (8 * k))) = (getK s.data.toList (k + 1) : Nat) := by
  have hlt := getK_lt s.data.toList (k + 1)
  rw [getK_step h] at hlt ⊢
  have hlt2 := getK_lt s.data.toList k
  rw [← hn] at hlt hlt2 ⊢
  have hb := UInt8.toNat_lt s[k]
  generalize (s[k]).toNat = b at *
  have h1 := pow8 (show k + 1 ≤ 8 by omega)
  have h2 : (2 : Int) ^ (8 * k) = ((256 ^ k : Nat) : Int) := by rw [Int.pow_mul]; simp
  have h3 : 256 ^ k = 2 ^ (8 * k) := by rw [Nat.pow_mul]
  rw [h2, wrap_u64_nat (by omega), ← Int.natCast_mul, Nat.mul_comm b, wrap_u64_nat (by omega), u64_or_nat _ _ (by omega) (by omega), Nat.or_comm, nat_join (8 * k), Nat.add_comm]
  · rw [← h3]; simp
  · rw [← h3]; exact hlt2
theorem get_sum {s : ByteArray} {k : Nat} (h : k < s.size) (h8 : k < 8) (n x : Nat) (hn : n = getK s.data.toList k) (hx : x = 256 ^ k % 18446744073709551616) :
    IntKind.u64.wrap ((n : Int) + IntKind.u64.wrap ((x : Int) * IntKind.u64.wrap ((s[k]).toNat : Int))) = (getK s.data.toList (k + 1) : Nat) := by
  have hlt := getK_lt s.data.toList (k + 1)
  rw [getK_step h] at hlt ⊢
  rw [← hn] at hlt ⊢
  have hb := UInt8.toNat_lt s[k]
  generalize (s[k]).toNat = b at *
  have h1 := pow8 (show k + 1 ≤ 8 by omega)
  have h0 : 256 ^ k < 256 ^ (k + 1) := Nat.pow_lt_pow_right (by omega) (by omega)
  rw [Nat.mod_eq_of_lt (by omega)] at hx
  subst hx
  rw [wrap_u64_nat (n := b) (by omega), ← Int.natCast_mul, wrap_u64_nat (by omega), ← Int.natCast_add, wrap_u64_nat (by omega)]
theorem get_wei (k x : Nat) (hx : x = 256 ^ k % 18446744073709551616) : IntKind.u64.wrap ((x : Int) * 256) = (256 ^ (k + 1) % 18446744073709551616 : Nat) := by
  have : ((x : Int) * 256) = ((x * 256 : Nat) : Int) := by simp
  rw [this, wrap_u64_mod, Nat.pow_succ, hx]
  omega

set_option maxHeartbeats 400000 in
theorem get_any (s : ByteArray) (w : World) (hs : s.size ≤ 1000000) :
    Calls Try.prog 10 #[.string s] w fun e w' => e = .returned (.int .u64 (getN s.data.toList : Nat)) ∧ w = w' := by
  obtain ⟨t, ht⟩ : ∃ t, t = min s.size 8 := ⟨_, rfl⟩
  have hend := Lib.hid (show getK s.data.toList t = getN s.data.toList by unfold getN; rw [show s.data.toList.length = s.size by simp, ht])
  have ht8 : t ≤ 8 := by omega
  have hts : t ≤ s.size := by omega
  have hte : (t = s.size ∧ s.size ≤ 8) ∨ (t = 8 ∧ 8 < s.size) := by omega
  clear ht
  by_cases h8 : (s.size : Int) ≤ 8
  · obtain rfl : t = s.size := by omega
    go_enter Try.func10, Try.ntmps10
    go_wp2
    go_loop [3, 8] (fun n i => ∃ k : Nat, k ≤ s.size ∧ i = .int .i64 k ∧ n = .int .u64 (getK s.data.toList k : Nat)) (fun _ i => s.size - (intOf i).toNat)
    case atStart => exact ⟨0, Nat.zero_le _, rfl, rfl⟩
    case round =>
      obtain ⟨k, hk, rfl, rfl⟩ := hrel
      by_cases hlt : k < s.size
      · have hks : k < s.size := by omega
        have hg := fun n => get_or hks (show k < 8 by omega) n
        obtain ⟨n, hn⟩ : ∃ n : Nat, n = getK s.data.toList k := ⟨_, rfl⟩
        rw [← hn]
        have hg' := Lib.hid (hg n hn)
        clear hg hn
        go_wp2
        go_round
        case rel => exact ⟨k + 1, by omega, by go_num, by rw [hg'.out]⟩
        case measure => simp [intOf]; omega
      · have hend' := Lib.hid (show getK s.data.toList k = getN s.data.toList by rw [← hend.out, show k = s.size by omega])
        go_wp2
        go_ret
        exact ⟨retInt (by rw [hend'.out]), rfl⟩
  · obtain rfl : t = 8 := by omega
    go_enter Try.func10, Try.ntmps10
    go_wp2
    go_loop [3, 8] (fun n i => ∃ k : Nat, k ≤ 8 ∧ i = .int .i64 k ∧ n = .int .u64 (getK s.data.toList k : Nat)) (fun _ i => 8 - (intOf i).toNat)
    case atStart => exact ⟨0, Nat.zero_le _, rfl, rfl⟩
    case round =>
      obtain ⟨k, hk, rfl, rfl⟩ := hrel
      by_cases hlt : k < 8
      · have hks : k < s.size := by omega
        have hg := fun n => get_or hks (show k < 8 by omega) n
        obtain ⟨n, hn⟩ : ∃ n : Nat, n = getK s.data.toList k := ⟨_, rfl⟩
        rw [← hn]
        have hg' := Lib.hid (hg n hn)
        clear hg hn
        go_wp2
        go_round
        case rel => exact ⟨k + 1, by omega, by go_num, by rw [hg'.out]⟩
        case measure => simp [intOf]; omega
      · have hend' := Lib.hid (show getK s.data.toList k = getN s.data.toList by rw [← hend.out, show k = 8 by omega])
        go_wp2
        go_ret
        exact ⟨retInt (by rw [hend'.out]), rfl⟩
set_option maxHeartbeats 400000 in
theorem rget_any (s : ByteArray) (w : World) (hs : s.size ≤ 1000000) :
    Calls Try.prog 11 #[.string s] w fun e w' => e = .returned (.int .u64 (getN s.data.toList : Nat)) ∧ w = w' := by
  obtain ⟨t, ht⟩ : ∃ t, t = min s.size 8 := ⟨_, rfl⟩
  have hend := Lib.hid (show getK s.data.toList t = getN s.data.toList by unfold getN; rw [show s.data.toList.length = s.size by simp, ht])
  have ht8 : t ≤ 8 := by omega
  have hts : t ≤ s.size := by omega
  have hte : t < 8 → s.size ≤ t := by omega
  clear ht
  go_enter Try.func11, Try.ntmps11
  go_wp2
  go_loop [3, 4, 5] (fun n x i => ∃ k : Nat, k ≤ t ∧ i = .int .i64 k ∧ n = .int .u64 (getK s.data.toList k : Nat) ∧ x = .int .u64 ((256 ^ k % 18446744073709551616 : Nat) : Int)) (fun _ _ i => t - (intOf i).toNat)
  case atStart => exact ⟨0, Nat.zero_le _, rfl, rfl, rfl⟩
  case round =>
    obtain ⟨k, hk, rfl, rfl, rfl⟩ := hrel
    by_cases hlt : k < t
    · have hks : k < s.size := by omega
      have hk8 : k < 8 := by omega
      have hg := fun n x => get_sum hks hk8 n x
      have hv := fun x => get_wei k x
      obtain ⟨n, hn⟩ : ∃ n : Nat, n = getK s.data.toList k := ⟨_, rfl⟩
      obtain ⟨x, hx⟩ : ∃ x : Nat, x = 256 ^ k % 18446744073709551616 := ⟨_, rfl⟩
      rw [← hn, ← hx]
      have hg' := Lib.hid (hg n x hn hx)
      have hv' := Lib.hid (hv x hx)
      clear hg hv hn hx
      go_wp2
      go_round
      case rel => exact ⟨k + 1, by omega, by go_num, by rw [hg'.out], by rw [hv'.out]⟩
      case measure => simp [intOf]; omega
    · obtain rfl : k = t := by omega
      by_cases h8 : k < 8
      · have := hte h8
        go_wp2
        go_ret
        exact ⟨retInt (by rw [hend.out]), rfl⟩
      · by_cases hks : k < s.size
        · go_wp2
          go_ret
          exact ⟨retInt (by rw [hend.out]), rfl⟩
        · go_wp2
          go_ret
          exact ⟨retInt (by rw [hend.out]), rfl⟩
end Go.Proofs.Yteannhninjdlfaa
