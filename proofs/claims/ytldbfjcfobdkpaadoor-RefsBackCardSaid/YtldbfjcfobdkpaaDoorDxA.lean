/- Layer 5, for whoever stands on it: a digit, as the document has it. (Out of DigA: it names nothing of the program.) -/
import Derived.Test.YtldbfjcfobdkpaaDoorMem
import Derived.Test.YtldbfjcfobdkpaaDoorDigM
namespace Go.Proofs.YtldbfjcfobdkpaaDoor
open Go.RowKit

theorem digit_text : ∀ n, n < 16 → ((⟨#[48, 49, 50, 51, 52, 53, 54, 55, 56, 57, 97, 98, 99, 100, 101, 102]⟩ : ByteArray).extract n (n + 1)) = str [hexB n] := by decide
set_option maxHeartbeats 400000 in
theorem digit_any (n : Nat) (w : World) (h : n < 16) :
    Calls Tryd.prog 59 #[.int .u8 (n : Int)] w fun e w' => e = .returned (.string (str [hexB n])) ∧ w = w' := by
  have HT := Lib.hid (digit_text n h)
  have h1 : (n : Int) < 16 := by omega
  have h2 : ((n : Int) + 1).toNat = n + 1 := by omega
  go_enter Tryd.func59, Tryd.ntmps59
  go_wp2
  go_ret
  exact ⟨retStr HT.out, rfl⟩
theorem str_one (b : UInt8) (h : 0 < (str [b]).size) : (str [b])[0] = b := rfl
theorem beq_u8x (a b : UInt8) : (((a.toNat : Int)) == (b.toNat : Int)) = decide (a = b) := by
  rw [Bool.eq_iff_iff, beq_iff_eq, decide_eq_true_eq]
  constructor
  · intro h; exact UInt8.toNat_inj.1 (by omega)
  · intro h; rw [h]
set_option maxHeartbeats 400000 in
theorem value_any (c : UInt8) (w : World) :
    Calls Tryd.prog 42 #[byteV c] w fun e w' => e = .returned (.int .u8 (valN c : Nat)) ∧ w = w' := by
  unfold byteV
  go_enter Tryd.func42, Tryd.ntmps42
  go_wp2
  go_loop [3] (fun i => ∃ k : Nat, k ≤ 16 ∧ i = .int .u8 k ∧ ∀ j, j < k → hexB j ≠ c) (fun i => 16 - (intOf i).toNat)
  case atStart => exact ⟨0, by omega, rfl, fun j hj => by omega⟩
  case round =>
    obtain ⟨k, hk, rfl, hn⟩ := hrel
    have HN := Lib.hid hn
    clear hn
    by_cases hlt : k < 16
    · have hsz : (str [hexB k]).size = 1 := rfl
      have hix := idx_str (str [hexB k]) 0 0 rfl (by rw [hsz]; omega)
      have e : (str [hexB k]).data.toList.getD 0 0 = hexB k := rfl
      rw [e] at hix
      have hb := beq_u8x (hexB k) c
      by_cases he : hexB k = c
      · have HR := Lib.hid (isD_of_hexB hlt he).2
        rw [decide_eq_true he] at hb
        clear e he
        go_wp2_with (go_at_call 59; ((with_reducible refine (digit_any k _ hlt).mono ?_); rintro e w' ⟨rfl, rfl⟩))
        go_ret
        exact ⟨retInt (by rw [HR.out]), rfl⟩
      · rw [decide_eq_false he] at hb
        clear e
        go_wp2_with (go_at_call 59; ((with_reducible refine (digit_any k _ hlt).mono ?_); rintro e w' ⟨rfl, rfl⟩))
        go_round
        case rel => exact ⟨k + 1, by omega, by go_num, fun j hj => by
          by_cases hjk : j = k
          · subst hjk; exact he
          · exact HN.out j (by omega)⟩
        case measure => simp [intOf]; omega
    · obtain rfl : k = 16 := by omega
      have HR := Lib.hid (valN_none (not_digit HN.out))
      go_wp2
      go_ret
      exact ⟨retInt (by rw [HR.out]; rfl), rfl⟩
end Go.Proofs.YtldbfjcfobdkpaaDoor
