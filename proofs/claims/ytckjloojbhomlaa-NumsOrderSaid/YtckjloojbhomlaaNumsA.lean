/- The contracts of layer 1's small functions (within, is, Blocks; the document's own Add, Sub), each for every argument. -/
import Derived.Test.YtckjloojbhomlaaRows
import Derived.WalkKit
import Derived.WalkSpells
import Derived.WalkLawsBesides
import Derived.Lib.Hide
namespace Go.Proofs.Ytckjloojbhomlaa
open Go.RowKit

/-- The greatest number that is within. -/
abbrev most : Int := 4611686018427387904
theorem retInt {k : IntKind} {a b : Int} (h : a = b) : Ending.returned (.int k a) = .returned (.int k b) := by rw [h]
/-- Is a number within? -/
def inB (n : Int) : Bool := decide (0 ≤ n ∧ n ≤ 4611686018427387904)
theorem inB_iff (n : Int) : inB n = true ↔ 0 ≤ n ∧ n ≤ 4611686018427387904 := by unfold inB; simp
theorem inB_not (n : Int) : inB n = false ↔ ¬ (0 ≤ n ∧ n ≤ 4611686018427387904) := by unfold inB; simp

set_option maxHeartbeats 400000 in
theorem within_yes (n : Int) (w : World) (h0 : 0 ≤ n) (h1 : n ≤ 4611686018427387904) :
    Calls Try.prog 23 #[.int .i64 n] w fun e w' => e = .returned (.bool true) ∧ w = w' := by
  go_enter Try.func23, Try.ntmps23
  go_wp2
  go_ret
  exact ⟨rfl, rfl⟩

set_option maxHeartbeats 400000 in
theorem within_no (n : Int) (w : World) (h : ¬ (0 ≤ n ∧ n ≤ 4611686018427387904)) :
    Calls Try.prog 23 #[.int .i64 n] w fun e w' => e = .returned (.bool false) ∧ w = w' := by
  by_cases h0 : 0 ≤ n
  · have h1 : ¬ n ≤ 4611686018427387904 := fun h1 => h ⟨h0, h1⟩
    clear h
    go_enter Try.func23, Try.ntmps23
    go_wp2
    go_ret
    exact ⟨rfl, rfl⟩
  · clear h
    go_enter Try.func23, Try.ntmps23
    go_wp2
    go_ret
    exact ⟨rfl, rfl⟩

set_option maxHeartbeats 400000 in
theorem rwithin_yes (n : Int) (w : World) (h0 : 0 ≤ n) (h1 : n ≤ 4611686018427387904) :
    Calls Try.prog 22 #[.int .i64 n] w fun e w' => e = .returned (.bool true) ∧ w = w' := by
  go_enter Try.func22, Try.ntmps22
  go_wp2
  go_ret
  exact ⟨rfl, rfl⟩

set_option maxHeartbeats 400000 in
theorem rwithin_no (n : Int) (w : World) (h : ¬ (0 ≤ n ∧ n ≤ 4611686018427387904)) :
    Calls Try.prog 22 #[.int .i64 n] w fun e w' => e = .returned (.bool false) ∧ w = w' := by
  by_cases h0 : 0 ≤ n
  · have h1 : ¬ n ≤ 4611686018427387904 := fun h1 => h ⟨h0, h1⟩
    clear h
    go_enter Try.func22, Try.ntmps22
    go_wp2
    go_ret
    exact ⟨rfl, rfl⟩
  · clear h
    go_enter Try.func22, Try.ntmps22
    go_wp2
    go_ret
    exact ⟨rfl, rfl⟩

set_option maxHeartbeats 400000 in
theorem is_yes (n : Int) (b : Bool) (w : World) :
    Calls Try.prog 13 #[.int .i64 n, .bool b, .int .i64 n, .bool b] w fun e w' => e = .returned (.bool true) ∧ w = w' := by
  go_enter Try.func13, Try.ntmps13
  go_wp2
  go_ret
  exact ⟨by simp, rfl⟩

set_option maxHeartbeats 400000 in
theorem blocks_no (n : Int) (w : World) (h : n < 1) :
    Calls Try.prog 14 #[.int .i64 n] w fun e w' => e = .returned (.int .i64 0) ∧ w = w' := by
  go_enter Try.func14, Try.ntmps14
  go_wp2
  go_ret
  exact ⟨rfl, rfl⟩
set_option maxHeartbeats 400000 in
theorem blocks_yes (n : Int) (w : World) (h : 1 ≤ n) (hn : n ≤ 9223372036854775807) :
    Calls Try.prog 14 #[.int .i64 n] w fun e w' => e = .returned (.int .i64 ((n - 1) / 512 + 1)) ∧ w = w' := by
  go_enter Try.func14, Try.ntmps14
  go_wp2
  go_ret
  exact ⟨rfl, rfl⟩
set_option maxHeartbeats 400000 in
theorem rblocks_no (n : Int) (w : World) (h : n < 1) :
    Calls Try.prog 15 #[.int .i64 n] w fun e w' => e = .returned (.int .i64 0) ∧ w = w' := by
  go_enter Try.func15, Try.ntmps15
  go_wp2
  go_ret
  exact ⟨rfl, rfl⟩
set_option maxHeartbeats 400000 in
theorem rblocks_yes (n : Int) (w : World) (h : 1 ≤ n) (hn : n ≤ 9223372036854775807) :
    Calls Try.prog 15 #[.int .i64 n] w fun e w' => e = .returned (.int .i64 ((n - 1) / 512 + 1)) ∧ w = w' := by
  by_cases hm : 0 < n % 512
  · have e : n / 512 + 1 = (n - 1) / 512 + 1 := by omega
    have e' := Lib.hid e
    clear e
    go_enter Try.func15, Try.ntmps15
    go_wp2
    go_ret
    exact ⟨retInt e'.out, rfl⟩
  · have e : n / 512 = (n - 1) / 512 + 1 := by omega
    have e' := Lib.hid e
    clear e
    go_enter Try.func15, Try.ntmps15
    go_wp2
    go_ret
    exact ⟨retInt e'.out, rfl⟩

/-- The document's sum, difference and product. -/
def addS (a b : Int) : Int × Bool := if 0 ≤ a ∧ a ≤ 4611686018427387904 ∧ 0 ≤ b ∧ b ≤ 4611686018427387904 ∧ a + b ≤ 4611686018427387904 then (a + b, true) else (0, false)

set_option maxHeartbeats 400000 in
theorem within_any (n : Int) (w : World) :
    Calls Try.prog 23 #[.int .i64 n] w fun e w' => e = .returned (.bool (inB n)) ∧ w = w' := by
  by_cases h : 0 ≤ n ∧ n ≤ 4611686018427387904
  · rw [(inB_iff n).2 h]; exact within_yes n w h.1 h.2
  · rw [(inB_not n).2 h]; exact within_no n w h
theorem rwithin_any (n : Int) (w : World) :
    Calls Try.prog 22 #[.int .i64 n] w fun e w' => e = .returned (.bool (inB n)) ∧ w = w' := by
  by_cases h : 0 ≤ n ∧ n ≤ 4611686018427387904
  · rw [(inB_iff n).2 h]; exact rwithin_yes n w h.1 h.2
  · rw [(inB_not n).2 h]; exact rwithin_no n w h

set_option maxHeartbeats 400000 in
theorem radd_yes (a b : Int) (w : World) (a0 : 0 ≤ a) (b0 : 0 ≤ b) (h : a + b ≤ 4611686018427387904) :
    Calls Try.prog 8 #[.int .i64 a, .int .i64 b] w fun e w' => e = .returned (.tuple #[.int .i64 (a + b), .bool true]) ∧ w = w' := by
  have ha : inB a = true := (inB_iff a).2 ⟨a0, by omega⟩
  have hb : inB b = true := (inB_iff b).2 ⟨b0, by omega⟩
  go_enter Try.func8, Try.ntmps8
  go_wp2_with (go_at_call 22; ((with_reducible refine (rwithin_any _ _).mono ?_); rintro e w' ⟨rfl, rfl⟩))
  go_ret2
  exact ⟨rfl, rfl⟩
set_option maxHeartbeats 400000 in
theorem radd_no (a b : Int) (w : World) (h : ¬ (0 ≤ a ∧ 0 ≤ b ∧ a + b ≤ 4611686018427387904)) :
    Calls Try.prog 8 #[.int .i64 a, .int .i64 b] w fun e w' => e = .returned (.tuple #[.int .i64 0, .bool false]) ∧ w = w' := by
  by_cases ha : inB a = true
  · by_cases hb : inB b = true
    · obtain ⟨a0, a1⟩ := (inB_iff a).1 ha
      obtain ⟨b0, b1⟩ := (inB_iff b).1 hb
      have h2 : 4611686018427387904 < a + b := by omega
      clear h
      go_enter Try.func8, Try.ntmps8
      go_wp2_with (go_at_call 22; ((with_reducible refine (rwithin_any _ _).mono ?_); rintro e w' ⟨rfl, rfl⟩))
      go_ret2
      exact ⟨rfl, rfl⟩
    · have hb : inB b = false := by simpa using hb
      clear h
      go_enter Try.func8, Try.ntmps8
      go_wp2_with (go_at_call 22; ((with_reducible refine (rwithin_any _ _).mono ?_); rintro e w' ⟨rfl, rfl⟩))
      go_ret2
      exact ⟨rfl, rfl⟩
  · have ha : inB a = false := by simpa using ha
    clear h
    go_enter Try.func8, Try.ntmps8
    go_wp2_with (go_at_call 22; ((with_reducible refine (rwithin_any _ _).mono ?_); rintro e w' ⟨rfl, rfl⟩))
    go_ret2
    exact ⟨rfl, rfl⟩

/-- Is the sum of two numbers told? Which one? -/
def addB (a b : Int) : Bool := decide (0 ≤ a ∧ 0 ≤ b ∧ a + b ≤ 4611686018427387904)
def addV (a b : Int) : Int := if 0 ≤ a ∧ 0 ≤ b ∧ a + b ≤ 4611686018427387904 then a + b else 0
theorem addB_yes {a b : Int} (h : 0 ≤ a ∧ 0 ≤ b ∧ a + b ≤ 4611686018427387904) : addB a b = true := by unfold addB; simp [h]
theorem addB_no {a b : Int} (h : ¬ (0 ≤ a ∧ 0 ≤ b ∧ a + b ≤ 4611686018427387904)) : addB a b = false := by unfold addB; simpa using h
theorem addV_yes {a b : Int} (h : 0 ≤ a ∧ 0 ≤ b ∧ a + b ≤ 4611686018427387904) : addV a b = a + b := by unfold addV; rw [if_pos h]
theorem addV_no {a b : Int} (h : ¬ (0 ≤ a ∧ 0 ≤ b ∧ a + b ≤ 4611686018427387904)) : addV a b = 0 := by unfold addV; rw [if_neg h]
theorem radd_any (a b : Int) (w : World) :
    Calls Try.prog 8 #[.int .i64 a, .int .i64 b] w fun e w' => e = .returned (.tuple #[.int .i64 (addV a b), .bool (addB a b)]) ∧ w = w' := by
  by_cases h : 0 ≤ a ∧ 0 ≤ b ∧ a + b ≤ 4611686018427387904
  · rw [addB_yes h, addV_yes h]; exact radd_yes a b w h.1 h.2.1 h.2.2
  · rw [addB_no h, addV_no h]; exact radd_no a b w h

end Go.Proofs.Ytckjloojbhomlaa
