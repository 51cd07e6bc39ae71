/- The contract of the document's own Share, by tenths, for every part and whole. -/
import Derived.Test.YtckjloojbhomlaaNumsC
namespace Go.Proofs.Ytckjloojbhomlaa
open Go.RowKit

/-- How many hundredths of the whole the part is. -/
def shareV (p q : Int) : Int := if q < 1 ∨ p < 0 then 0 else if q ≤ p then 100 else 100 * p / q

theorem retII {k l : IntKind} {a b c d : Int} (h : a = b) (h' : c = d) : Ending.returned (.tuple #[.int k a, .int l c]) = .returned (.tuple #[.int k b, .int l d]) := by rw [h, h']
theorem div_of_mul {a b n r : Int} (h : a = n * b + r) (r0 : 0 ≤ r) (r1 : r < b) : a / b = n ∧ a % b = r := by
  have hb : 0 < b := by omega
  constructor
  · rw [h, Int.add_comm, Int.add_mul_ediv_right _ _ (by omega), Int.ediv_eq_zero_of_lt r0 r1]; omega
  · rw [h, Int.add_comm, Int.add_mul_emod_self_right, Int.emod_eq_of_lt r0 r1]

theorem hundred (p q : Int) (hq : 0 < q) : 10 * (10 * p / q) + 10 * (10 * p % q) / q = 100 * p / q := by
  have h1 := Int.mul_ediv_add_emod (10 * p) q
  have h2 := Int.mul_ediv_add_emod (10 * (10 * p % q)) q
  obtain ⟨a, ha⟩ : ∃ a, a = 10 * p / q := ⟨_, rfl⟩
  obtain ⟨r, hr⟩ : ∃ r, r = 10 * p % q := ⟨_, rfl⟩
  rw [← ha, ← hr] at h1
  rw [← hr] at h2
  obtain ⟨b, hb⟩ : ∃ b, b = 10 * r / q := ⟨_, rfl⟩
  rw [← ha, ← hr, ← hb]
  rw [← hb] at h2
  refine (div_of_mul (r := 10 * r % q) ?_ (Int.emod_nonneg _ (by omega)) (Int.emod_lt_of_pos _ hq)).1.symm
  rw [Int.add_mul, Int.mul_comm b q, Int.mul_assoc, Int.mul_comm a q]
  omega

set_option maxHeartbeats 400000 in
theorem tenth_any (p q : Int) (w : World) (p0 : 0 ≤ p) (pq : p < q) (q1 : q ≤ 9223372036854775807) :
    Calls Try.prog 26 #[.int .i64 p, .int .i64 q] w fun e w' => e = .returned (.tuple #[.int .i64 (10 * p / q), .int .i64 (10 * p % q)]) ∧ w = w' := by
  go_enter Try.func26, Try.ntmps26
  go_wp2
  go_loop [6, 7, 8] (fun n r i => ∃ (k n' : Nat) (r' : Int), k ≤ 10 ∧ n' ≤ k ∧ (k : Int) * p = n' * q + r' ∧ 0 ≤ r' ∧ r' < q ∧ n = .int .i64 n' ∧ r = .int .u64 r' ∧ i = .int .i64 k) (fun _ _ i => 10 - (intOf i).toNat)
  case atStart => exact ⟨0, 0, 0, by omega, by omega, by simp, by omega, by omega, rfl, rfl, rfl⟩
  case round =>
    obtain ⟨k, n, r, hk, hn, he, r0, r1, rfl, rfl, rfl⟩ := hrel
    have he' := Lib.hid he
    clear he
    by_cases hlt : k < 10
    · by_cases hc : q ≤ r + p
      · go_wp2
        go_round
        case rel => exact ⟨k + 1, n + 1, r + p - q, by omega, by omega, by have := he'.out; simp only [Int.natCast_add, Int.add_mul]; omega, by omega, by omega, by go_num, by go_num, by go_num⟩
        case measure => simp [intOf]; omega
      · go_wp2
        go_round
        case rel => exact ⟨k + 1, n, r + p, by omega, by omega, by have := he'.out; simp only [Int.natCast_add, Int.add_mul]; omega, by omega, by omega, by go_num, by go_num, by go_num⟩
        case measure => simp [intOf]; omega
    · obtain rfl : k = 10 := by omega
      have hd := Lib.hid (div_of_mul (a := 10 * p) he'.out r0 r1)
      go_wp2
      go_ret2
      exact ⟨retII hd.out.1.symm hd.out.2.symm, rfl⟩

theorem shareV_none {p q : Int} (h : q < 1 ∨ p < 0) : shareV p q = 0 := by unfold shareV; rw [if_pos h]
theorem shareV_all {p q : Int} (h0 : 1 ≤ q) (h1 : 0 ≤ p) (h : q ≤ p) : shareV p q = 100 := by
  unfold shareV; rw [if_neg (by omega), if_pos h]
theorem shareV_part {p q : Int} (h0 : 1 ≤ q) (h1 : 0 ≤ p) (h : p < q) : shareV p q = 100 * p / q := by
  unfold shareV; rw [if_neg (by omega), if_neg (by omega)]

set_option maxHeartbeats 400000 in
theorem rshare_any (p q : Int) (w : World) (q1 : q ≤ 9223372036854775807) :
    Calls Try.prog 17 #[.int .i64 p, .int .i64 q] w fun e w' => e = .returned (.int .i64 (shareV p q)) ∧ w = w' := by
  by_cases hq : q < 1
  · rw [shareV_none (Or.inl hq)]
    go_enter Try.func17, Try.ntmps17
    go_wp2
    go_ret
    exact ⟨rfl, rfl⟩
  · by_cases hp : p < 0
    · rw [shareV_none (Or.inr hp)]
      go_enter Try.func17, Try.ntmps17
      go_wp2
      go_ret
      exact ⟨rfl, rfl⟩
    · by_cases hpq : q ≤ p
      · rw [shareV_all (by omega) (by omega) hpq]
        go_enter Try.func17, Try.ntmps17
        go_wp2
        go_ret
        exact ⟨rfl, rfl⟩
      · have hs := shareV_part (p := p) (q := q) (by omega) (by omega) (by omega)
        have hh := hundred p q (by omega)
        have c1 := fun w => tenth_any p q w (by omega) (by omega) q1
        have r0 : 0 ≤ 10 * p % q := Int.emod_nonneg _ (by omega)
        have r1 : 10 * p % q < q := Int.emod_lt_of_pos _ (by omega)
        have t0 : 0 ≤ 10 * p / q := Int.ediv_nonneg (by omega) (by omega)
        have t1 : 10 * p / q < 10 := Int.ediv_lt_of_lt_mul (by omega) (by omega)
        obtain ⟨r, hr⟩ : ∃ r, r = 10 * p % q := ⟨_, rfl⟩
        obtain ⟨t, ht⟩ : ∃ t, t = 10 * p / q := ⟨_, rfl⟩
        rw [← hr] at hh c1 r0 r1
        rw [← ht] at hh c1 t0 t1
        have c2 := fun w => tenth_any r q w (by omega) (by omega) q1
        have o0 : 0 ≤ 10 * r / q := Int.ediv_nonneg (by omega) (by omega)
        have o1 : 10 * r / q < 10 := Int.ediv_lt_of_lt_mul (by omega) (by omega)
        obtain ⟨o, ho⟩ : ∃ o, o = 10 * r / q := ⟨_, rfl⟩
        rw [← ho] at hh c2 o0 o1
        rw [hs, ← hh]
        clear hr ht ho hs hh
        go_enter Try.func17, Try.ntmps17
        go_wp2_with (first | (go_at_call 26; ((with_reducible refine (c1 _).mono ?_); rintro e w' ⟨rfl, rfl⟩)) | (go_at_call 26; ((with_reducible refine (c2 _).mono ?_); rintro e w' ⟨rfl, rfl⟩)))
        go_ret
        exact ⟨rfl, rfl⟩

end Go.Proofs.Ytckjloojbhomlaa
