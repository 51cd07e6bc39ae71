/- The contracts of layer 2's small functions (within, weight, Has), each for every argument. -/
import Derived.Test.YteannhninjdlfaaRows
import Derived.Test.YteannhninjdlfaaBitsM
import Derived.Laws.BitsAllLaws
import Derived.WalkKit
import Derived.WalkSpells
import Derived.WalkLawsBesides
import Derived.Lib.Hide
import Derived.Deep.QuietTactic
import Derived.BigQuiet
import Derived.IntWalk
namespace Go.Proofs.Yteannhninjdlfaa
open Go.RowKit

theorem retBool {a b : Bool} (h : a = b) : Ending.returned (.bool a) = .returned (.bool b) := by rw [h]
theorem qs {P : Program} {f : FuncId} {args : Array Value} {w : World} {n : Nat} {v : Value} (h : Calls P f args (w.drewN n) fun e w' => e = .returned v ∧ w.drewN n = w') :
    Calls P f args (w.drewN n) fun e w'' => e = .returned v ∧ ∃ m, w'' = w.drewN m := h.mono fun _ _ ⟨he, hm⟩ => ⟨he, n, hm.symm⟩
/-- Has a text a bit there? -/
def inT (s : ByteArray) (i : Int) : Bool := decide (0 ≤ i ∧ i / 8 < s.size)
theorem inT_yes {s : ByteArray} {i : Int} (h : 0 ≤ i) (h' : i / 8 < s.size) : inT s i = true := by unfold inT; simp [h, h']
theorem inT_no {s : ByteArray} {i : Int} (h : ¬ (0 ≤ i ∧ i / 8 < s.size)) : inT s i = false := by unfold inT; simpa using h

theorem inT_iff {s : ByteArray} {i : Int} : inT s i = true ↔ 0 ≤ i ∧ i / 8 < s.size := by unfold inT; simp
/-- Is that bit of a text set? -/
def hasV (s : ByteArray) (i : Int) : Bool := inT s i && bitN s.data.toList i.toNat
/-- The weight of a bit. -/
def wei (i : Int) : Int := 2 ^ (i % 8).toNat % 256
theorem odd_eq (c : Nat) : ((c : Int) % 2 == 1) = (c % 2 == 1) := by
  rw [Bool.eq_iff_iff, beq_iff_eq, beq_iff_eq]; omega
theorem hasV_in {s : ByteArray} {j : Nat} (h : j / 8 < s.size) : hasV s (j : Int) = (s[j / 8]).toNat.testBit (j % 8) := by
  unfold hasV
  rw [inT_yes (by omega) (by omega)]
  have h' : j / 8 < s.data.toList.length := by simpa using h
  simp only [Bool.true_and, Int.toNat_natCast, bitN, List.getD, List.getElem?_eq_getElem h', Option.getD_some]
  rfl
theorem hasV_out {s : ByteArray} {i : Int} (h : inT s i = false) : hasV s i = false := by unfold hasV; rw [h]; rfl
theorem and_wei (b : UInt8) (j : Nat) : (bits BinOp.and IntKind.u8 (b.toNat : Int) (wei (j : Int)) != 0) = b.toNat.testBit (j % 8) := by
  have h8 : j % 8 < 8 := by omega
  have hw : wei (j : Int) = ((2 ^ (j % 8) : Nat) : Int) := by
    unfold wei
    rw [show ((j : Int) % 8).toNat = j % 8 by omega]
    have : 2 ^ (j % 8) < 2 ^ 8 := Nat.pow_lt_pow_right (by omega) h8
    have h2 : ((2 : Int) ^ (j % 8)) = ((2 ^ (j % 8) : Nat) : Int) := by simp
    rw [h2]
    generalize 2 ^ (j % 8) = p at *
    omega
  have h3 : 2 ^ (j % 8) < 256 := by
    have : 2 ^ (j % 8) < 2 ^ 8 := Nat.pow_lt_pow_right (by omega) h8
    simpa using this
  rw [hw, u8_and_nat _ _ (UInt8.toNat_lt _) h3, nat_bit, Nat.testBit_eq_decide_div_mod_eq]
  have h4 : 0 < 2 ^ (j % 8) := Nat.two_pow_pos _
  clear hw h3
  generalize 2 ^ (j % 8) = p at *
  by_cases h : b.toNat / p % 2 = 1
  · rw [h]; simp; omega
  · rw [show b.toNat / p % 2 = 0 by omega]; simp

set_option maxHeartbeats 400000 in
theorem within_any (s : ByteArray) (i : Int) (w : World) (hi : i ≤ 9223372036854775807) :
    Calls Try.prog 20 #[.string s, .int .i64 i] w fun e w' => e = .returned (.bool (inT s i)) ∧ w = w' := by
  by_cases h : 0 ≤ i
  · have h2 : decide (0 ≤ i) = true := by simpa using h
    by_cases h3 : i / 8 < s.size
    · rw [inT_yes h h3]
      go_enter Try.func20, Try.ntmps20
      go_wp2
      go_ret
      exact ⟨rfl, rfl⟩
    · rw [inT_no (fun h' => h3 h'.2)]
      go_enter Try.func20, Try.ntmps20
      go_wp2
      go_ret
      exact ⟨rfl, rfl⟩
  · rw [inT_no (fun h' => h h'.1)]
    go_enter Try.func20, Try.ntmps20
    go_wp2
    go_ret
    exact ⟨rfl, rfl⟩

set_option maxHeartbeats 400000 in
theorem weight_any (i : Int) (w : World) (h : 0 ≤ i) (hi : i ≤ 9223372036854775807) :
    Calls Try.prog 21 #[.int .i64 i] w fun e w' => e = .returned (.int .u8 (wei i)) ∧ w = w' := by
  have h1 : 0 ≤ i % 8 := by omega
  have h2 : i % 8 < 8 := by omega
  go_enter Try.func21, Try.ntmps21
  go_wp2
  go_ret
  exact ⟨rfl, rfl⟩

set_option maxHeartbeats 400000 in
theorem has_any (s : ByteArray) (i : Int) (w : World) (hi : i ≤ 9223372036854775807) :
    Calls Try.prog 12 #[.string s, .int .i64 i] w fun e w' => e = .returned (.bool (hasV s i)) ∧ ∃ n, w' = w.drewN n := by
  have cw := fun w => within_any s i w hi
  by_cases h : inT s i = true
  · obtain ⟨h0, h1⟩ := inT_iff.1 h
    rw [h] at cw
    clear h
    obtain ⟨j, rfl⟩ : ∃ j : Nat, i = j := ⟨i.toNat, by omega⟩
    have cg := fun w => weight_any j w (by omega) hi
    have h2 : j / 8 < s.size := by omega
    have h3 : IntKind.i64.wrap ((j : Int) / 8) = (j : Int) / 8 := IntWalk.i64_in _ (by omega)
    have h4 : 0 ≤ (j : Int) / 8 := by omega
    have h5 : ((j : Int) / 8).toNat = j / 8 := by omega
    go_enter Try.func12, Try.ntmps12
    go_wp2_with fail
    go_quiet ((first | (go_at_call 20; exact qs (cw _)) | (go_at_call 21; exact qs (cg _))))
    go_wp2
    go_ret
    exact ⟨retBool ((and_wei _ _).trans (hasV_in h2).symm), _, rfl⟩
  · have h' : inT s i = false := by simpa using h
    rw [h'] at cw
    clear h
    go_enter Try.func12, Try.ntmps12
    go_wp2_with fail
    go_quiet ((go_at_call 20; exact qs (cw _)))
    go_wp2
    go_ret
    exact ⟨retBool (hasV_out h').symm, _, rfl⟩
set_option maxHeartbeats 400000 in
theorem rhas_any (s : ByteArray) (i : Int) (w : World) (hs : s.size ≤ 1000000) (hi : i ≤ 9223372036854775807) :
    Calls Try.prog 13 #[.string s, .int .i64 i] w fun e w' => e = .returned (.bool (hasV s i)) ∧ w = w' := by
  by_cases h : inT s i = true
  · obtain ⟨h0, h1⟩ := inT_iff.1 h
    clear h
    obtain ⟨j, rfl⟩ : ∃ j : Nat, i = j := ⟨i.toNat, by omega⟩
    have h2 : j / 8 < s.size := by omega
    have H := Lib.hid (hasV_in h2)
    have hb := UInt8.toNat_lt s[j / 8]
    have h5 : ¬ (s.size : Int) ≤ (j : Int) / 8 := by omega
    go_enter Try.func13, Try.ntmps13
    go_wp2
    obtain ⟨b, hbe⟩ : ∃ b : Nat, b = (s[j / 8]).toNat := ⟨_, rfl⟩
    rw [← hbe] at H hb ⊢
    clear hbe
    go_loop [5, 6] (fun c x => ∃ k : Nat, k ≤ j % 8 ∧ x = .int .i64 k ∧ c = .int .u8 ((b / 2 ^ k : Nat) : Int)) (fun _ x => j % 8 - (intOf x).toNat)
    case atStart => exact ⟨0, Nat.zero_le _, rfl, by simp⟩
    case round =>
      obtain ⟨k, hk, rfl, rfl⟩ := hrel
      have hc1 : b / 2 ^ k ≤ b := Nat.div_le_self _ _
      have hc2 := Lib.hid (show b / 2 ^ k / 2 = b / 2 ^ (k + 1) by rw [Nat.div_div_eq_div_mul, Nat.pow_succ])
      have hc3 := Lib.hid (show k = j % 8 → (b / 2 ^ k % 2 == 1) = b.testBit (j % 8) from fun e => by rw [Nat.testBit_eq_decide_div_mod_eq, e]; rfl)
      obtain ⟨c, hce⟩ : ∃ c : Nat, c = b / 2 ^ k := ⟨_, rfl⟩
      rw [← hce] at hc1 hc2 hc3 ⊢
      clear hce
      by_cases hlt : k < j % 8
      · go_wp2
        go_round
        case rel => exact ⟨k + 1, by omega, by go_num, by rw [← hc2.out]; simp⟩
        case measure => simp [intOf]; omega
      · go_wp2
        go_ret
        exact ⟨retBool (by rw [H.out, ← hc3.out (by omega)]; exact odd_eq c), rfl⟩
  · have h' : inT s i = false := by simpa using h
    have H := Lib.hid (hasV_out h')
    by_cases h0 : i < 0
    · clear h h'
      go_enter Try.func13, Try.ntmps13
      go_wp2
      go_ret
      exact ⟨retBool H.out.symm, rfl⟩
    · have h1 : (s.size : Int) ≤ i / 8 := by have := mt inT_iff.2 h; omega
      clear h h'
      go_enter Try.func13, Try.ntmps13
      go_wp2
      go_ret
      exact ⟨retBool H.out.symm, rfl⟩
end Go.Proofs.Yteannhninjdlfaa
