/- Layer 5: a digit, as the document has it and as the program does; which one stands ahead. -/
import Derived.Test.YtndpdbfkpbflgaaMem
import Derived.Test.YtndpdbfkpbflgaaDigM
namespace Go.Proofs.Ytndpdbfkpbflgaa
open Go.RowKit

theorem digit_text : ∀ n, n < 16 → ((⟨#[48, 49, 50, 51, 52, 53, 54, 55, 56, 57, 97, 98, 99, 100, 101, 102]⟩ : ByteArray).extract n (n + 1)) = str [hexB n] := by decide
set_option maxHeartbeats 400000 in
theorem digit_any (n : Nat) (w : World) (h : n < 16) :
    Calls Try.prog 19 #[.int .u8 (n : Int)] w fun e w' => e = .returned (.string (str [hexB n])) ∧ w = w' := by
  have HT := Lib.hid (digit_text n h)
  have h1 : (n : Int) < 16 := by omega
  have h2 : ((n : Int) + 1).toNat = n + 1 := by omega
  go_enter Try.func19, Try.ntmps19
  go_wp2
  go_ret
  exact ⟨retStr HT.out, rfl⟩
theorem str_one (b : UInt8) (h : 0 < (str [b]).size) : (str [b])[0] = b := rfl
theorem beq_u8 (a b : UInt8) : (((a.toNat : Int)) == (b.toNat : Int)) = decide (a = b) := by
  rw [Bool.eq_iff_iff, beq_iff_eq, decide_eq_true_eq]
  constructor
  · intro h; exact UInt8.toNat_inj.1 (by omega)
  · intro h; rw [h]
set_option maxHeartbeats 400000 in
theorem value_any (c : UInt8) (w : World) :
    Calls Try.prog 17 #[byteV c] w fun e w' => e = .returned (.int .u8 (valN c : Nat)) ∧ w = w' := by
  unfold byteV
  go_enter Try.func17, Try.ntmps17
  go_wp2
  go_loop [3] (fun i => ∃ k : Nat, k ≤ 16 ∧ i = .int .u8 k ∧ ∀ j, j < k → hexB j ≠ c) (fun i => 16 - (intOf i).toNat)
  case atStart => exact ⟨0, by omega, rfl, fun j hj => by omega⟩
  case round =>
    obtain ⟨k, hk, rfl, hn⟩ := hrel
    have HN := Lib.hid hn
    clear hn
    by_cases hlt : k < 16
    · have hsz : (str [hexB k]).size = 1 := rfl
      have hix := idx_str (str [hexB k]) 0 0 rfl (by rw [hsz]; omega)
      have e : (str [hexB k]).data.toList.getD 0 0 = hexB k := rfl
      rw [e] at hix
      have hb := beq_u8 (hexB k) c
      by_cases he : hexB k = c
      · have HR := Lib.hid (isD_of_hexB hlt he).2
        rw [decide_eq_true he] at hb
        clear e he
        go_wp2_with (go_at_call 19; ((with_reducible refine (digit_any k _ hlt).mono ?_); rintro e w' ⟨rfl, rfl⟩))
        go_ret
        exact ⟨retInt (by rw [HR.out]), rfl⟩
      · rw [decide_eq_false he] at hb
        clear e
        go_wp2_with (go_at_call 19; ((with_reducible refine (digit_any k _ hlt).mono ?_); rintro e w' ⟨rfl, rfl⟩))
        go_round
        case rel => exact ⟨k + 1, by omega, by go_num, fun j hj => by
          by_cases hjk : j = k
          · subst hjk; exact he
          · exact HN.out j (by omega)⟩
        case measure => simp [intOf]; omega
    · obtain rfl : k = 16 := by omega
      have HR := Lib.hid (valN_none (not_digit HN.out))
      go_wp2
      go_ret
      exact ⟨retInt (by rw [HR.out]; rfl), rfl⟩
/-- What the program's digit is of a rune. -/
def valR (r : Nat) : Nat := if 48 ≤ r ∧ r ≤ 57 then r - 48 else if 97 ≤ r ∧ r ≤ 102 then r - 87 else 0
def isR (r : Nat) : Bool := decide (48 ≤ r ∧ r ≤ 57) || decide (97 ≤ r ∧ r ≤ 102)
theorem ret2 {a b : Int} {c d : Bool} (h : a = b) (h' : c = d) : Ending.returned (.tuple #[.int .u8 a, .bool c]) = .returned (.tuple #[.int .u8 b, .bool d]) := by rw [h, h']
set_option maxHeartbeats 400000 in
theorem valueOf_any (r : Nat) (w : World) (hr : r ≤ 2147483647) :
    Calls Try.prog 21 #[.int .i32 (r : Int)] w fun e w' => e = .returned (.tuple #[.int .u8 (valR r : Nat), .bool (isR r)]) ∧ w = w' := by
  by_cases h1 : 48 ≤ r ∧ r ≤ 57
  · have HV := Lib.hid (show ((valR r : Nat) : Int) = (r : Int) - 48 ∧ isR r = true by unfold valR isR; rw [if_pos h1, decide_eq_true h1]; exact ⟨by omega, rfl⟩)
    obtain ⟨a1, a2⟩ := h1
    have b1 : (48 : Int) ≤ r := by omega
    have b2 : (r : Int) ≤ 57 := by omega
    go_enter Try.func21, Try.ntmps21
    go_wp2
    go_ret2
    exact ⟨ret2 (by rw [HV.out.1]; try omega) HV.out.2.symm, rfl⟩
  · by_cases h2 : 97 ≤ r ∧ r ≤ 102
    · have HV := Lib.hid (show ((valR r : Nat) : Int) = (r : Int) - 97 + 10 ∧ isR r = true by unfold valR isR; rw [if_neg h1, if_pos h2, decide_eq_true h2]; exact ⟨by omega, by simp⟩)
      obtain ⟨a1, a2⟩ := h2
      have b1 : (97 : Int) ≤ r := by omega
      have b2 : (r : Int) ≤ 102 := by omega
      clear h1
      go_enter Try.func21, Try.ntmps21
      go_wp2
      go_ret2
      exact ⟨ret2 (by rw [HV.out.1]; try omega) HV.out.2.symm, rfl⟩
    · have HV := Lib.hid (show ((valR r : Nat) : Int) = 0 ∧ isR r = false by unfold valR isR; rw [if_neg h1, if_neg h2, decide_eq_false h1, decide_eq_false h2]; exact ⟨rfl, rfl⟩)
      have h3 : r < 48 ∨ (58 ≤ r ∧ r < 97) ∨ 103 ≤ r := by omega
      clear h1 h2
      rcases h3 with h3 | ⟨h3, h4⟩ | h3
      · have b1 : (r : Int) < 48 := by omega
        go_enter Try.func21, Try.ntmps21
        go_wp2
        go_ret2
        exact ⟨ret2 (by rw [HV.out.1]) HV.out.2.symm, rfl⟩
      · have b1 : (58 : Int) ≤ r := by omega
        have b2 : (r : Int) < 97 := by omega
        go_enter Try.func21, Try.ntmps21
        go_wp2
        go_ret2
        exact ⟨ret2 (by rw [HV.out.1]) HV.out.2.symm, rfl⟩
      · have b1 : (103 : Int) ≤ r := by omega
        go_enter Try.func21, Try.ntmps21
        go_wp2
        go_ret2
        exact ⟨ret2 (by rw [HV.out.1]) HV.out.2.symm, rfl⟩
end Go.Proofs.Ytndpdbfkpbflgaa
