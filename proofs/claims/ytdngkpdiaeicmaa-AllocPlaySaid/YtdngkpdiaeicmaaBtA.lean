/- Layer 2's within, weight, Has, for whoever stands on it (out of BitsA, beside Row). -/
import Derived.Test.YtdngkpdiaeicmaaByt
import Derived.Test.YtdngkpdiaeicmaaBitsO
import Derived.Laws.BitsAllLaws
namespace Go.Proofs.Ytdngkpdiaeicmaa
open Go.RowKit

/-- Has a text a bit there? -/
def inT (s : ByteArray) (i : Int) : Bool := decide (0 ≤ i ∧ i / 8 < s.size)
theorem inT_yes {s : ByteArray} {i : Int} (h : 0 ≤ i) (h' : i / 8 < s.size) : inT s i = true := by unfold inT; simp [h, h']
theorem inT_no {s : ByteArray} {i : Int} (h : ¬ (0 ≤ i ∧ i / 8 < s.size)) : inT s i = false := by unfold inT; simpa using h

theorem inT_iff {s : ByteArray} {i : Int} : inT s i = true ↔ 0 ≤ i ∧ i / 8 < s.size := by unfold inT; simp
/-- Is that bit of a text set? -/
def hasV (s : ByteArray) (i : Int) : Bool := inT s i && bitN s.data.toList i.toNat
/-- The weight of a bit. -/
def wei (i : Int) : Int := 2 ^ (i % 8).toNat % 256
theorem odd_eq (c : Nat) : ((c : Int) % 2 == 1) = (c % 2 == 1) := by
  rw [Bool.eq_iff_iff, beq_iff_eq, beq_iff_eq]; omega
theorem hasV_in {s : ByteArray} {j : Nat} (h : j / 8 < s.size) : hasV s (j : Int) = (s[j / 8]).toNat.testBit (j % 8) := by
  unfold hasV
  rw [inT_yes (by omega) (by omega)]
  have h' : j / 8 < s.data.toList.length := by simpa using h
  simp only [Bool.true_and, Int.toNat_natCast, bitN, List.getD, List.getElem?_eq_getElem h', Option.getD_some]
  rfl
theorem hasV_out {s : ByteArray} {i : Int} (h : inT s i = false) : hasV s i = false := by unfold hasV; rw [h]; rfl
theorem and_wei (b : UInt8) (j : Nat) : (bits BinOp.and IntKind.u8 (b.toNat : Int) (wei (j : Int)) != 0) = b.toNat.testBit (j % 8) := by
  have h8 : j % 8 < 8 := by omega
  have hw : wei (j : Int) = ((2 ^ (j % 8) : Nat) : Int) := by
    unfold wei
    rw [show ((j : Int) % 8).toNat = j % 8 by omega]
    have : 2 ^ (j % 8) < 2 ^ 8 := Nat.pow_lt_pow_right (by omega) h8
    have h2 : ((2 : Int) ^ (j % 8)) = ((2 ^ (j % 8) : Nat) : Int) := by simp
    rw [h2]
    generalize 2 ^ (j % 8) = p at *
    omega
  have h3 : 2 ^ (j % 8) < 256 := by
    have : 2 ^ (j % 8) < 2 ^ 8 := Nat.pow_lt_pow_right (by omega) h8
    simpa using this
  rw [hw, u8_and_nat _ _ (UInt8.toNat_lt _) h3, nat_bit, Nat.testBit_eq_decide_div_mod_eq]
  have h4 : 0 < 2 ^ (j % 8) := Nat.two_pow_pos _
  clear hw h3
  generalize 2 ^ (j % 8) = p at *
  by_cases h : b.toNat / p % 2 = 1
  · rw [h]; simp; omega
  · rw [show b.toNat / p % 2 = 0 by omega]; simp

set_option maxHeartbeats 400000 in
theorem within_any (s : ByteArray) (i : Int) (w : World) (hi : i ≤ 9223372036854775807) :
    Calls Try.prog 48 #[.string s, .int .i64 i] w fun e w' => e = .returned (.bool (inT s i)) ∧ w = w' := by
  by_cases h : 0 ≤ i
  · have h2 : decide (0 ≤ i) = true := by simpa using h
    by_cases h3 : i / 8 < s.size
    · rw [inT_yes h h3]
      go_enter Try.func48, Try.ntmps48
      go_wp2
      go_ret
      exact ⟨rfl, rfl⟩
    · rw [inT_no (fun h' => h3 h'.2)]
      go_enter Try.func48, Try.ntmps48
      go_wp2
      go_ret
      exact ⟨rfl, rfl⟩
  · rw [inT_no (fun h' => h h'.1)]
    go_enter Try.func48, Try.ntmps48
    go_wp2
    go_ret
    exact ⟨rfl, rfl⟩

set_option maxHeartbeats 400000 in
theorem weight_any (i : Int) (w : World) (h : 0 ≤ i) (hi : i ≤ 9223372036854775807) :
    Calls Try.prog 49 #[.int .i64 i] w fun e w' => e = .returned (.int .u8 (wei i)) ∧ w = w' := by
  have h1 : 0 ≤ i % 8 := by omega
  have h2 : i % 8 < 8 := by omega
  go_enter Try.func49, Try.ntmps49
  go_wp2
  go_ret
  exact ⟨rfl, rfl⟩

set_option maxHeartbeats 400000 in
theorem has_any (s : ByteArray) (i : Int) (w : World) (hi : i ≤ 9223372036854775807) :
    Calls Try.prog 32 #[.string s, .int .i64 i] w fun e w' => e = .returned (.bool (hasV s i)) ∧ ∃ n, w' = w.drewN n := by
  have cw := fun w => within_any s i w hi
  by_cases h : inT s i = true
  · obtain ⟨h0, h1⟩ := inT_iff.1 h
    rw [h] at cw
    clear h
    obtain ⟨j, rfl⟩ : ∃ j : Nat, i = j := ⟨i.toNat, by omega⟩
    have cg := fun w => weight_any j w (by omega) hi
    have h2 : j / 8 < s.size := by omega
    have h3 : IntKind.i64.wrap ((j : Int) / 8) = (j : Int) / 8 := IntWalk.i64_in _ (by omega)
    have h4 : 0 ≤ (j : Int) / 8 := by omega
    have h5 : ((j : Int) / 8).toNat = j / 8 := by omega
    go_enter Try.func32, Try.ntmps32
    go_wp2_with fail
    go_quiet ((first | (go_at_call 48; exact qs (cw _)) | (go_at_call 49; exact qs (cg _))))
    go_wp2
    go_ret
    exact ⟨retBool ((and_wei _ _).trans (hasV_in h2).symm), _, rfl⟩
  · have h' : inT s i = false := by simpa using h
    rw [h'] at cw
    clear h
    go_enter Try.func32, Try.ntmps32
    go_wp2_with fail
    go_quiet ((go_at_call 48; exact qs (cw _)))
    go_wp2
    go_ret
    exact ⟨retBool (hasV_out h').symm, _, rfl⟩
end Go.Proofs.Ytdngkpdiaeicmaa
