/- Layer 4: turning a number of 32 bits down, as the document has it and as the program does. -/
import Derived.Test.YtemnfnmkhfgopaaDoorProg
import Derived.Test.YtemnfnmkhfgopaaDoorSbM
import Derived.WalkKit
import Derived.Lib.Hide
import Derived.WalkLawsBesides
import Derived.WalkSpells
import Derived.Deep.QuietTactic
import Derived.BigQuiet
import Derived.Laws.Bits64b
namespace Go.Proofs.YtemnfnmkhfgopaaDoor
open Go.RowKit

theorem ret_u32 {a b : Int} (h : a = b) : Ending.returned (.int .u32 a) = .returned (.int .u32 b) := by rw [h]
theorem rotI {n k : Nat} (hn : n < 4294967296) (k1 : 1 ≤ k) (k2 : k ≤ 31) : ((n : Int) / 2 ^ k + (n : Int) * 2 ^ (32 - k) % 4294967296) % 4294967296 = (rotN n k : Nat) := by
  have h := rotN_parts hn k1 k2
  have hl := rotN_lt n k
  have e : ((n / 2 ^ k + n * 2 ^ (32 - k) % 4294967296 : Nat) : Int) = (n : Int) / 2 ^ k + (n : Int) * 2 ^ (32 - k) % 4294967296 := by simp
  rw [← e, h]
  omega

set_option maxHeartbeats 400000 in
theorem rr_any (n k : Nat) (w : World) (hn : n < 4294967296) (k1 : 1 ≤ k) (k2 : k ≤ 31) :
    Calls Tryd.prog 32 #[.int .u32 (n : Int), .int .u32 (k : Int)] w fun e w' => e = .returned (.int .u32 (rotN n k : Nat)) ∧ w = w' := by
  have hI := Lib.hid (rotI hn k1 k2)
  go_enter Tryd.func32, Tryd.ntmps32
  go_wp2
  go_ret
  exact ⟨ret_u32 hI.out, rfl⟩

theorem wrap_neg {k : Nat} (k1 : 1 ≤ k) (k2 : k ≤ 31) : bits .and .u64 (IntKind.u64.wrap (-(k : Int))) 31 = ((32 - k : Nat) : Int) := by
  have e : IntKind.u64.wrap (-(k : Int)) = ((18446744073709551616 - k : Nat) : Int) := by rw [IntKind.wrap_u64]; omega
  rw [e, show (31 : Int) = ((31 : Nat) : Int) from rfl, bits_and_u64_nat _ _ (by omega) (by omega), show (31 : Nat) = 2 ^ 5 - 1 from rfl, Nat.and_two_pow_sub_one_eq_mod]
  omega
set_option maxHeartbeats 400000 in
theorem rol_any (n k : Nat) (w : World) (hn : n < 4294967296) (k1 : 1 ≤ k) (k2 : k ≤ 31) :
    Calls Tryd.prog 33 #[.int .u32 (n : Int), .int .i64 (-(k : Int))] w fun e w' => e = .returned (.int .u32 (rotN n k : Nat)) ∧ w = w' := by
  have hI := Lib.hid (rotN_or hn k1 k2)
  have hw := wrap_neg k1 k2
  obtain ⟨j, hj⟩ : ∃ j : Nat, j = 32 - k := ⟨_, rfl⟩
  rw [← hj] at hw hI
  have hk := Lib.hid (show k = 32 - j by omega)
  have j1 : 1 ≤ j := by omega
  have j2 : j ≤ 31 := by omega
  clear hj
  go_enter Tryd.func33, Tryd.ntmps33
  go_wp2
  go_ret
  refine ⟨ret_u32 ?_, rfl⟩
  have h1 : n * 2 ^ j % 4294967296 < 4294967296 := Nat.mod_lt _ (by decide)
  have h2 : n / 2 ^ (32 - j) < 4294967296 := Nat.lt_of_le_of_lt (Nat.div_le_self _ _) hn
  have e := u32_or_nat _ _ h1 h2
  rw [← hk.out, hI.out] at e
  rw [← e, hk.out]
  simp

set_option maxHeartbeats 400000 in
theorem right_any (n k : Nat) (w : World) (hn : n < 4294967296) (k1 : 1 ≤ k) (k2 : k ≤ 31) :
    Calls Tryd.prog 30 #[.int .u32 (n : Int), .int .i64 (k : Int)] w fun e w' => e = .returned (.int .u32 (rotN n k : Nat)) ∧ w = w' := by
  go_enter Tryd.func30, Tryd.ntmps30
  go_wp2_with (go_at_call 33; ((with_reducible refine (rol_any _ _ _ hn k1 k2).mono ?_); rintro e w' ⟨rfl, rfl⟩))
  go_ret
  exact ⟨rfl, rfl⟩

/-- A number turned down by so many places as a literal has. -/
def rotZ (n : Nat) (k : Int) : Nat := rotN n k.toNat
theorem rotZ_lt (n : Nat) (k : Int) : rotZ n k < 4294967296 := rotN_lt _ _
theorem right_z (n : Nat) (k : Int) (w : World) (hn : n < 4294967296) (k1 : 1 ≤ k) (k2 : k ≤ 31) :
    Calls Tryd.prog 30 #[.int .u32 (n : Int), .int .i64 k] w fun e w' => e = .returned (.int .u32 (rotZ n k : Nat)) ∧ w = w' := by
  obtain ⟨j, rfl⟩ : ∃ j : Nat, k = j := ⟨k.toNat, by omega⟩
  exact right_any n j w hn (by omega) (by omega)
theorem rr_z (n : Nat) (k : Int) (w : World) (hn : n < 4294967296) (k1 : 1 ≤ k) (k2 : k ≤ 31) :
    Calls Tryd.prog 32 #[.int .u32 (n : Int), .int .u32 k] w fun e w' => e = .returned (.int .u32 (rotZ n k : Nat)) ∧ w = w' := by
  obtain ⟨j, rfl⟩ : ∃ j : Nat, k = j := ⟨k.toNat, by omega⟩
  exact rr_any n j w hn (by omega) (by omega)

/-! What the bits come to, in the walk's own spelling. -/
theorem xorI {a b : Nat} (ha : a < 4294967296) (hb : b < 4294967296) : bits .xor .u32 (a : Int) (b : Int) = ((a ^^^ b : Nat) : Int) := u32_xor_nat a b ha hb
theorem andI {a b : Nat} (ha : a < 4294967296) (hb : b < 4294967296) : bits .and .u32 (a : Int) (b : Int) = ((a &&& b : Nat) : Int) := u32_and_nat a b ha hb

theorem lowI {n : Nat} (hn : n < 4294967296) : bits .xor .u32 (bits .xor .u32 (rotZ n 7 : Nat) (rotZ n 18 : Nat)) ((n : Int) / 8) = (lowN n : Nat) := by
  rw [xorI (rotZ_lt _ _) (rotZ_lt _ _), show (n : Int) / 8 = ((n / 8 : Nat) : Int) by omega, xorI (xor_lt32 (rotZ_lt _ _) (rotZ_lt _ _)) (by omega)]
  rfl
theorem highI {n : Nat} (hn : n < 4294967296) : bits .xor .u32 (bits .xor .u32 (rotZ n 17 : Nat) (rotZ n 19 : Nat)) ((n : Int) / 1024) = (highN n : Nat) := by
  rw [xorI (rotZ_lt _ _) (rotZ_lt _ _), show (n : Int) / 1024 = ((n / 1024 : Nat) : Int) by omega, xorI (xor_lt32 (rotZ_lt _ _) (rotZ_lt _ _)) (by omega)]
  rfl
theorem s1I (n : Nat) : bits .xor .u32 (bits .xor .u32 (rotZ n 6 : Nat) (rotZ n 11 : Nat)) (rotZ n 25 : Nat) = (s1N n : Nat) := by
  rw [xorI (rotZ_lt _ _) (rotZ_lt _ _), xorI (xor_lt32 (rotZ_lt _ _) (rotZ_lt _ _)) (rotZ_lt _ _)]
  rfl
theorem s0I (n : Nat) : bits .xor .u32 (bits .xor .u32 (rotZ n 2 : Nat) (rotZ n 13 : Nat)) (rotZ n 22 : Nat) = (s0N n : Nat) := by
  rw [xorI (rotZ_lt _ _) (rotZ_lt _ _), xorI (xor_lt32 (rotZ_lt _ _) (rotZ_lt _ _)) (rotZ_lt _ _)]
  rfl
theorem chI {e f g : Nat} (he : e < 4294967296) (hf : f < 4294967296) (hg : g < 4294967296) :
    bits .xor .u32 (bits .and .u32 (e : Int) (f : Int)) (bits .and .u32 (bits .xor .u32 IntKind.u32.max (e : Int)) (g : Int)) = (chN e f g : Nat) := by
  rw [show IntKind.u32.max = ((4294967295 : Nat) : Int) from rfl, andI he hf, xorI (by decide) he, andI (xor_lt32 (by decide) he) hg, xorI (and_lt32 he) (and_lt32 (xor_lt32 (by decide) he))]
  rfl
theorem majI {a b c : Nat} (ha : a < 4294967296) (hb : b < 4294967296) (hc : c < 4294967296) :
    bits .xor .u32 (bits .xor .u32 (bits .and .u32 (a : Int) (b : Int)) (bits .and .u32 (a : Int) (c : Int))) (bits .and .u32 (b : Int) (c : Int)) = (majN a b c : Nat) := by
  rw [andI ha hb, andI ha hc, andI hb hc, xorI (and_lt32 ha) (and_lt32 ha), xorI (xor_lt32 (and_lt32 ha) (and_lt32 ha)) (and_lt32 hb)]
  rfl

set_option maxHeartbeats 400000 in
theorem low_any (n : Nat) (w : World) (hn : n < 4294967296) :
    Calls Tryd.prog 28 #[.int .u32 (n : Int)] w fun e w' => e = .returned (.int .u32 (lowN n : Nat)) ∧ w = w' := by
  have hI := Lib.hid (lowI hn)
  go_enter Tryd.func28, Tryd.ntmps28
  go_wp2_with (go_at_call 30; ((with_reducible refine (right_z _ _ _ hn (by omega) (by omega)).mono ?_); rintro e w' ⟨rfl, rfl⟩))
  go_ret
  exact ⟨ret_u32 hI.out, rfl⟩
set_option maxHeartbeats 400000 in
theorem high_any (n : Nat) (w : World) (hn : n < 4294967296) :
    Calls Tryd.prog 29 #[.int .u32 (n : Int)] w fun e w' => e = .returned (.int .u32 (highN n : Nat)) ∧ w = w' := by
  have hI := Lib.hid (highI hn)
  go_enter Tryd.func29, Tryd.ntmps29
  go_wp2_with (go_at_call 30; ((with_reducible refine (right_z _ _ _ hn (by omega) (by omega)).mono ?_); rintro e w' ⟨rfl, rfl⟩))
  go_ret
  exact ⟨ret_u32 hI.out, rfl⟩
end Go.Proofs.YtemnfnmkhfgopaaDoor
