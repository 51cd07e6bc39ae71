/- The contracts of layer 1's Sub and Mul, and of the document's own Sub and Mul, each for every argument. -/
import Derived.Test.YtckjloojbhomlaaNumsA
namespace Go.Proofs.Ytckjloojbhomlaa
open Go.RowKit

set_option maxHeartbeats 400000 in
theorem sub_yes (a b : Int) (w : World) (b0 : 0 ≤ b) (h : b ≤ a) (a1 : a ≤ 4611686018427387904) :
    Calls Try.prog 9 #[.int .i64 a, .int .i64 b] w fun e w' => e = .returned (.tuple #[.int .i64 (a - b), .bool true]) ∧ w = w' := by
  have ha : inB a = true := (inB_iff a).2 ⟨by omega, by omega⟩
  have hb : inB b = true := (inB_iff b).2 ⟨b0, by omega⟩
  have h' : ¬ a < b := by omega
  go_enter Try.func9, Try.ntmps9
  go_wp2_with (go_at_call 23; ((with_reducible refine (within_any _ _).mono ?_); rintro e w' ⟨rfl, rfl⟩))
  go_ret2
  exact ⟨rfl, rfl⟩
set_option maxHeartbeats 400000 in
theorem sub_no (a b : Int) (w : World) (h : ¬ (0 ≤ b ∧ b ≤ a ∧ a ≤ 4611686018427387904)) :
    Calls Try.prog 9 #[.int .i64 a, .int .i64 b] w fun e w' => e = .returned (.tuple #[.int .i64 0, .bool false]) ∧ w = w' := by
  by_cases ha : inB a = true
  · by_cases hb : inB b = true
    · obtain ⟨a0, a1⟩ := (inB_iff a).1 ha
      obtain ⟨b0, b1⟩ := (inB_iff b).1 hb
      have h2 : a < b := by omega
      clear h
      go_enter Try.func9, Try.ntmps9
      go_wp2_with (go_at_call 23; ((with_reducible refine (within_any _ _).mono ?_); rintro e w' ⟨rfl, rfl⟩))
      go_ret2
      exact ⟨rfl, rfl⟩
    · have hb : inB b = false := by simpa using hb
      clear h
      go_enter Try.func9, Try.ntmps9
      go_wp2_with (go_at_call 23; ((with_reducible refine (within_any _ _).mono ?_); rintro e w' ⟨rfl, rfl⟩))
      go_ret2
      exact ⟨rfl, rfl⟩
  · have ha : inB a = false := by simpa using ha
    clear h
    go_enter Try.func9, Try.ntmps9
    go_wp2_with (go_at_call 23; ((with_reducible refine (within_any _ _).mono ?_); rintro e w' ⟨rfl, rfl⟩))
    go_ret2
    exact ⟨rfl, rfl⟩

set_option maxHeartbeats 400000 in
theorem rsub_yes (a b : Int) (w : World) (b0 : 0 ≤ b) (h : b ≤ a) (a1 : a ≤ 4611686018427387904) :
    Calls Try.prog 10 #[.int .i64 a, .int .i64 b] w fun e w' => e = .returned (.tuple #[.int .i64 (a - b), .bool true]) ∧ w = w' := by
  have ha : inB a = true := (inB_iff a).2 ⟨by omega, by omega⟩
  have hb : inB b = true := (inB_iff b).2 ⟨b0, by omega⟩
  have h' : ¬ a < b := by omega
  go_enter Try.func10, Try.ntmps10
  go_wp2_with (go_at_call 22; ((with_reducible refine (rwithin_any _ _).mono ?_); rintro e w' ⟨rfl, rfl⟩))
  go_ret2
  exact ⟨rfl, rfl⟩
set_option maxHeartbeats 400000 in
theorem rsub_no (a b : Int) (w : World) (h : ¬ (0 ≤ b ∧ b ≤ a ∧ a ≤ 4611686018427387904)) :
    Calls Try.prog 10 #[.int .i64 a, .int .i64 b] w fun e w' => e = .returned (.tuple #[.int .i64 0, .bool false]) ∧ w = w' := by
  by_cases ha : inB a = true
  · by_cases hb : inB b = true
    · obtain ⟨a0, a1⟩ := (inB_iff a).1 ha
      obtain ⟨b0, b1⟩ := (inB_iff b).1 hb
      have h2 : a < b := by omega
      clear h
      go_enter Try.func10, Try.ntmps10
      go_wp2_with (go_at_call 22; ((with_reducible refine (rwithin_any _ _).mono ?_); rintro e w' ⟨rfl, rfl⟩))
      go_ret2
      exact ⟨rfl, rfl⟩
    · have hb : inB b = false := by simpa using hb
      clear h
      go_enter Try.func10, Try.ntmps10
      go_wp2_with (go_at_call 22; ((with_reducible refine (rwithin_any _ _).mono ?_); rintro e w' ⟨rfl, rfl⟩))
      go_ret2
      exact ⟨rfl, rfl⟩
  · have ha : inB a = false := by simpa using ha
    clear h
    go_enter Try.func10, Try.ntmps10
    go_wp2_with (go_at_call 22; ((with_reducible refine (rwithin_any _ _).mono ?_); rintro e w' ⟨rfl, rfl⟩))
    go_ret2
    exact ⟨rfl, rfl⟩

/-- A product of numbers from 0 on is within just if the one is at most what the other one leaves. -/
theorem mul_le_iff (a b : Int) (a0 : 0 < a) : a * b ≤ 4611686018427387904 ↔ b ≤ 4611686018427387904 / a := by
  rw [Int.le_ediv_iff_mul_le a0, Int.mul_comm]

set_option maxHeartbeats 400000 in
theorem mul_yes (a b : Int) (w : World) (a0 : 0 ≤ a) (b0 : 0 ≤ b) (a1 : a ≤ 4611686018427387904) (b1 : b ≤ 4611686018427387904) (h : a * b ≤ 4611686018427387904) :
    Calls Try.prog 11 #[.int .i64 a, .int .i64 b] w fun e w' => e = .returned (.tuple #[.int .i64 (a * b), .bool true]) ∧ w = w' := by
  have ha : inB a = true := (inB_iff a).2 ⟨a0, a1⟩
  have hb : inB b = true := (inB_iff b).2 ⟨b0, b1⟩
  have p0 : 0 ≤ a * b := Int.mul_nonneg a0 b0
  by_cases hz : 0 < a
  · have hq := (mul_le_iff a b hz).1 h
    have hq' : ¬ 4611686018427387904 / a < b := by omega
    go_enter Try.func11, Try.ntmps11
    go_wp2_with (go_at_call 23; ((with_reducible refine (within_any _ _).mono ?_); rintro e w' ⟨rfl, rfl⟩))
    go_ret2
    exact ⟨rfl, rfl⟩
  · go_enter Try.func11, Try.ntmps11
    go_wp2_with (go_at_call 23; ((with_reducible refine (within_any _ _).mono ?_); rintro e w' ⟨rfl, rfl⟩))
    go_ret2
    exact ⟨rfl, rfl⟩

set_option maxHeartbeats 400000 in
theorem mul_no (a b : Int) (w : World) (h : ¬ (0 ≤ a ∧ a ≤ 4611686018427387904 ∧ 0 ≤ b ∧ b ≤ 4611686018427387904 ∧ a * b ≤ 4611686018427387904)) :
    Calls Try.prog 11 #[.int .i64 a, .int .i64 b] w fun e w' => e = .returned (.tuple #[.int .i64 0, .bool false]) ∧ w = w' := by
  by_cases ha : inB a = true
  · by_cases hb : inB b = true
    · obtain ⟨a0, a1⟩ := (inB_iff a).1 ha
      obtain ⟨b0, b1⟩ := (inB_iff b).1 hb
      have h2 : ¬ a * b ≤ 4611686018427387904 := fun h3 => h ⟨a0, a1, b0, b1, h3⟩
      have hz : 0 < a := by
        by_cases e : a = 0
        · subst e; exact absurd (by simp) h2
        · omega
      have hq : 4611686018427387904 / a < b := by
        have := mul_le_iff a b hz
        by_cases e : b ≤ 4611686018427387904 / a
        · exact absurd (this.2 e) h2
        · omega
      clear h h2
      go_enter Try.func11, Try.ntmps11
      go_wp2_with (go_at_call 23; ((with_reducible refine (within_any _ _).mono ?_); rintro e w' ⟨rfl, rfl⟩))
      go_ret2
      exact ⟨rfl, rfl⟩
    · have hb : inB b = false := by simpa using hb
      clear h
      go_enter Try.func11, Try.ntmps11
      go_wp2_with (go_at_call 23; ((with_reducible refine (within_any _ _).mono ?_); rintro e w' ⟨rfl, rfl⟩))
      go_ret2
      exact ⟨rfl, rfl⟩
  · have ha : inB a = false := by simpa using ha
    clear h
    go_enter Try.func11, Try.ntmps11
    go_wp2_with (go_at_call 23; ((with_reducible refine (within_any _ _).mono ?_); rintro e w' ⟨rfl, rfl⟩))
    go_ret2
    exact ⟨rfl, rfl⟩

/-- Is the product of two numbers told? Which one? -/
def MulP (a b : Int) : Prop := 0 ≤ a ∧ a ≤ 4611686018427387904 ∧ 0 ≤ b ∧ b ≤ 4611686018427387904 ∧ a * b ≤ 4611686018427387904
instance (a b : Int) : Decidable (MulP a b) := by unfold MulP; infer_instance
def mulB (a b : Int) : Bool := decide (MulP a b)
def mulV (a b : Int) : Int := if MulP a b then a * b else 0
theorem mulB_yes {a b : Int} (h : MulP a b) : mulB a b = true := by unfold mulB; simp [h]
theorem mulB_no {a b : Int} (h : ¬ MulP a b) : mulB a b = false := by unfold mulB; simp [h]
theorem mulV_yes {a b : Int} (h : MulP a b) : mulV a b = a * b := by unfold mulV; rw [if_pos h]
theorem mulV_no {a b : Int} (h : ¬ MulP a b) : mulV a b = 0 := by unfold mulV; rw [if_neg h]
theorem mul_any (a b : Int) (w : World) :
    Calls Try.prog 11 #[.int .i64 a, .int .i64 b] w fun e w' => e = .returned (.tuple #[.int .i64 (mulV a b), .bool (mulB a b)]) ∧ w = w' := by
  by_cases h : MulP a b
  · rw [mulB_yes h, mulV_yes h]; obtain ⟨h1, h2, h3, h4, h5⟩ := h; exact mul_yes a b w h1 h3 h2 h4 h5
  · rw [mulB_no h, mulV_no h]; exact mul_no a b w h

def SubP (a b : Int) : Prop := 0 ≤ b ∧ b ≤ a ∧ a ≤ 4611686018427387904
instance (a b : Int) : Decidable (SubP a b) := by unfold SubP; infer_instance
def subB (a b : Int) : Bool := decide (SubP a b)
def subV (a b : Int) : Int := if SubP a b then a - b else 0
theorem subB_yes {a b : Int} (h : SubP a b) : subB a b = true := by unfold subB; simp [h]
theorem subB_no {a b : Int} (h : ¬ SubP a b) : subB a b = false := by unfold subB; simp [h]
theorem subV_yes {a b : Int} (h : SubP a b) : subV a b = a - b := by unfold subV; rw [if_pos h]
theorem subV_no {a b : Int} (h : ¬ SubP a b) : subV a b = 0 := by unfold subV; rw [if_neg h]
theorem sub_any (a b : Int) (w : World) :
    Calls Try.prog 9 #[.int .i64 a, .int .i64 b] w fun e w' => e = .returned (.tuple #[.int .i64 (subV a b), .bool (subB a b)]) ∧ w = w' := by
  by_cases h : SubP a b
  · rw [subB_yes h, subV_yes h]; obtain ⟨h1, h2, h3⟩ := h; exact sub_yes a b w h1 h2 h3
  · rw [subB_no h, subV_no h]; exact sub_no a b w h
theorem rsub_any (a b : Int) (w : World) :
    Calls Try.prog 10 #[.int .i64 a, .int .i64 b] w fun e w' => e = .returned (.tuple #[.int .i64 (subV a b), .bool (subB a b)]) ∧ w = w' := by
  by_cases h : SubP a b
  · rw [subB_yes h, subV_yes h]; obtain ⟨h1, h2, h3⟩ := h; exact rsub_yes a b w h1 h2 h3
  · rw [subB_no h, subV_no h]; exact rsub_no a b w h

/-- What holds of the halves of the document's product. -/
theorem half_mul (a b : Int) : a * b = a * (b / 2) + a * (b / 2) + (if b % 2 = 0 then 0 else a) := by
  have e : b = 2 * (b / 2) + b % 2 := by omega
  split
  · rename_i h; rw [h] at e; conv => lhs; rw [e]
    rw [Int.add_zero, Int.mul_left_comm]; omega
  · have h1 : b % 2 = 1 := by omega
    rw [h1] at e; conv => lhs; rw [e]
    rw [Int.mul_add, Int.mul_left_comm]; omega

set_option maxHeartbeats 400000 in
theorem rmul_out (a b : Int) (w : World) (h : ¬ (inB a = true ∧ inB b = true)) :
    Calls Try.prog 12 #[.int .i64 a, .int .i64 b] w fun e w' => e = .returned (.tuple #[.int .i64 0, .bool false]) ∧ w = w' := by
  by_cases ha : inB a = true
  · have hb : inB b = false := by
      cases hb : inB b
      · rfl
      · exact absurd ⟨ha, hb⟩ h
    clear h
    go_enter Try.func12, Try.ntmps12
    go_wp2_with (go_at_call 22; ((with_reducible refine (rwithin_any _ _).mono ?_); rintro e w' ⟨rfl, rfl⟩))
    go_ret2
    exact ⟨rfl, rfl⟩
  · have ha : inB a = false := by simpa using ha
    clear h
    go_enter Try.func12, Try.ntmps12
    go_wp2_with (go_at_call 22; ((with_reducible refine (rwithin_any _ _).mono ?_); rintro e w' ⟨rfl, rfl⟩))
    go_ret2
    exact ⟨rfl, rfl⟩
set_option maxHeartbeats 400000 in
theorem rmul_zero (a b : Int) (w : World) (ha : inB a = true) (hb : inB b = true) (h : a = 0 ∨ b = 0) :
    Calls Try.prog 12 #[.int .i64 a, .int .i64 b] w fun e w' => e = .returned (.tuple #[.int .i64 0, .bool true]) ∧ w = w' := by
  by_cases hz : a = 0
  · go_enter Try.func12, Try.ntmps12
    go_wp2_with (go_at_call 22; ((with_reducible refine (rwithin_any _ _).mono ?_); rintro e w' ⟨rfl, rfl⟩))
    go_ret2
    exact ⟨rfl, rfl⟩
  · have hz2 : b = 0 := by omega
    clear h
    go_enter Try.func12, Try.ntmps12
    go_wp2_with (go_at_call 22; ((with_reducible refine (rwithin_any _ _).mono ?_); rintro e w' ⟨rfl, rfl⟩))
    go_ret2
    exact ⟨rfl, rfl⟩
set_option maxHeartbeats 400000 in
theorem rmul_one (a : Int) (w : World) (ha : inB a = true) (hz : ¬ a = 0) :
    Calls Try.prog 12 #[.int .i64 a, .int .i64 1] w fun e w' => e = .returned (.tuple #[.int .i64 a, .bool true]) ∧ w = w' := by
  have hb : inB 1 = true := by decide
  go_enter Try.func12, Try.ntmps12
  go_wp2_with (go_at_call 22; ((with_reducible refine (rwithin_any _ _).mono ?_); rintro e w' ⟨rfl, rfl⟩))
  go_ret2
  exact ⟨rfl, rfl⟩
set_option maxHeartbeats 1000000 in
theorem rmul_broke (a b h : Int) (ok : Bool) (w : World) (ha : inB a = true) (hb : inB b = true) (hz : ¬ a = 0) (h2 : 2 ≤ b) (hok : ok = false)
    (ih : ∀ w, Calls Try.prog 12 #[.int .i64 a, .int .i64 (b / 2)] w fun e w' => e = .returned (.tuple #[.int .i64 h, .bool ok]) ∧ w = w') :
    Calls Try.prog 12 #[.int .i64 a, .int .i64 b] w fun e w' => e = .returned (.tuple #[.int .i64 0, .bool false]) ∧ w = w' := by
  obtain ⟨b0, b1⟩ := (inB_iff b).1 hb
  have n0 : (b == 0) = false := by simp; omega
  have n1 : (b == 1) = false := by simp; omega
  have nz : (a == 0) = false := by simpa using hz
  clear hz
  go_enter Try.func12, Try.ntmps12
  go_wp2_with (first | (go_at_call 22; ((with_reducible refine (rwithin_any _ _).mono ?_); rintro e w' ⟨rfl, rfl⟩)) | (go_at_call 12; ((with_reducible refine (ih _).mono ?_); rintro e w' ⟨rfl, rfl⟩)) | (go_at_call 8; ((with_reducible refine (radd_any _ _ _).mono ?_); rintro e w' ⟨rfl, rfl⟩)))
  go_ret2
  exact ⟨rfl, rfl⟩
set_option maxHeartbeats 1000000 in
theorem rmul_over (a b h : Int) (ok : Bool) (w : World) (ha : inB a = true) (hb : inB b = true) (hz : ¬ a = 0) (h2 : 2 ≤ b) (hok : ok = true) (hs : addB h h = false)
    (ih : ∀ w, Calls Try.prog 12 #[.int .i64 a, .int .i64 (b / 2)] w fun e w' => e = .returned (.tuple #[.int .i64 h, .bool ok]) ∧ w = w') :
    Calls Try.prog 12 #[.int .i64 a, .int .i64 b] w fun e w' => e = .returned (.tuple #[.int .i64 0, .bool false]) ∧ w = w' := by
  obtain ⟨b0, b1⟩ := (inB_iff b).1 hb
  have n0 : (b == 0) = false := by simp; omega
  have n1 : (b == 1) = false := by simp; omega
  have nz : (a == 0) = false := by simpa using hz
  clear hz
  go_enter Try.func12, Try.ntmps12
  go_wp2_with (first | (go_at_call 22; ((with_reducible refine (rwithin_any _ _).mono ?_); rintro e w' ⟨rfl, rfl⟩)) | (go_at_call 12; ((with_reducible refine (ih _).mono ?_); rintro e w' ⟨rfl, rfl⟩)) | (go_at_call 8; ((with_reducible refine (radd_any _ _ _).mono ?_); rintro e w' ⟨rfl, rfl⟩)))
  go_ret2
  exact ⟨rfl, rfl⟩
set_option maxHeartbeats 1000000 in
theorem rmul_even (a b h : Int) (ok : Bool) (w : World) (ha : inB a = true) (hb : inB b = true) (hz : ¬ a = 0) (h2 : 2 ≤ b) (hok : ok = true) (hs : addB h h = true) (hv : addV h h = h + h) (he : b % 2 = 0)
    (ih : ∀ w, Calls Try.prog 12 #[.int .i64 a, .int .i64 (b / 2)] w fun e w' => e = .returned (.tuple #[.int .i64 h, .bool ok]) ∧ w = w') :
    Calls Try.prog 12 #[.int .i64 a, .int .i64 b] w fun e w' => e = .returned (.tuple #[.int .i64 (h + h), .bool true]) ∧ w = w' := by
  obtain ⟨b0, b1⟩ := (inB_iff b).1 hb
  have n0 : (b == 0) = false := by simp; omega
  have n1 : (b == 1) = false := by simp; omega
  have nz : (a == 0) = false := by simpa using hz
  clear hz
  go_enter Try.func12, Try.ntmps12
  go_wp2_with (first | (go_at_call 22; ((with_reducible refine (rwithin_any _ _).mono ?_); rintro e w' ⟨rfl, rfl⟩)) | (go_at_call 12; ((with_reducible refine (ih _).mono ?_); rintro e w' ⟨rfl, rfl⟩)) | (go_at_call 8; ((with_reducible refine (radd_any _ _ _).mono ?_); rintro e w' ⟨rfl, rfl⟩)))
  go_ret2
  exact ⟨rfl, rfl⟩
set_option maxHeartbeats 1000000 in
theorem rmul_odd (a b h : Int) (ok : Bool) (w : World) (ha : inB a = true) (hb : inB b = true) (hz : ¬ a = 0) (h2 : 2 ≤ b) (hok : ok = true) (hs : addB h h = true) (hv : addV h h = h + h) (he : b % 2 = 1)
    (ih : ∀ w, Calls Try.prog 12 #[.int .i64 a, .int .i64 (b / 2)] w fun e w' => e = .returned (.tuple #[.int .i64 h, .bool ok]) ∧ w = w') :
    Calls Try.prog 12 #[.int .i64 a, .int .i64 b] w fun e w' => e = .returned (.tuple #[.int .i64 (addV (h + h) a), .bool (addB (h + h) a)]) ∧ w = w' := by
  obtain ⟨b0, b1⟩ := (inB_iff b).1 hb
  have n0 : (b == 0) = false := by simp; omega
  have n1 : (b == 1) = false := by simp; omega
  have nz : (a == 0) = false := by simpa using hz
  clear hz
  go_enter Try.func12, Try.ntmps12
  go_wp2_with (first | (go_at_call 22; ((with_reducible refine (rwithin_any _ _).mono ?_); rintro e w' ⟨rfl, rfl⟩)) | (go_at_call 12; ((with_reducible refine (ih _).mono ?_); rintro e w' ⟨rfl, rfl⟩)) | (go_at_call 8; ((with_reducible refine (radd_any _ _ _).mono ?_); rintro e w' ⟨rfl, rfl⟩)))
  go_ret2
  exact ⟨rfl, rfl⟩

theorem rmul_upto (k : Nat) : ∀ (a b : Int) (w : World), b ≤ k →
    Calls Try.prog 12 #[.int .i64 a, .int .i64 b] w fun e w' => e = .returned (.tuple #[.int .i64 (mulV a b), .bool (mulB a b)]) ∧ w = w' := by
  induction k with
  | zero =>
    intro a b w hk
    by_cases hab : inB a = true ∧ inB b = true
    · obtain ⟨a0, a1⟩ := (inB_iff a).1 hab.1
      obtain ⟨b0, b1⟩ := (inB_iff b).1 hab.2
      obtain rfl : b = 0 := by omega
      have hm : MulP a 0 := ⟨a0, a1, by omega, by omega, by simp⟩
      rw [mulB_yes hm, mulV_yes hm, Int.mul_zero]
      exact rmul_zero a 0 w hab.1 hab.2 (Or.inr rfl)
    · have hm : ¬ MulP a b := fun ⟨h1, h2, h3, h4, _⟩ => hab ⟨(inB_iff a).2 ⟨h1, h2⟩, (inB_iff b).2 ⟨h3, h4⟩⟩
      rw [mulB_no hm, mulV_no hm]
      exact rmul_out a b w hab
  | succ k ih =>
    intro a b w hk
    by_cases hab : inB a = true ∧ inB b = true
    · obtain ⟨a0, a1⟩ := (inB_iff a).1 hab.1
      obtain ⟨b0, b1⟩ := (inB_iff b).1 hab.2
      by_cases hz : a = 0 ∨ b = 0
      · have e : a * b = 0 := by rcases hz with h | h <;> simp [h]
        have hm : MulP a b := ⟨a0, a1, b0, b1, by omega⟩
        rw [mulB_yes hm, mulV_yes hm, e]
        exact rmul_zero a b w hab.1 hab.2 hz
      · by_cases h1 : b = 1
        · subst h1
          have hm : MulP a 1 := ⟨a0, a1, b0, b1, by omega⟩
          rw [mulB_yes hm, mulV_yes hm, Int.mul_one]
          exact rmul_one a w hab.1 (by omega)
        · have h2 : 2 ≤ b := by omega
          have e := half_mul a b
          have IH := fun w => ih a (b / 2) w (by omega)
          have hp0 : 0 ≤ a * (b / 2) := Int.mul_nonneg a0 (by omega)
          by_cases hp : MulP a (b / 2)
          · rw [mulB_yes hp, mulV_yes hp] at IH
            obtain ⟨h, hh⟩ : ∃ h, h = a * (b / 2) := ⟨_, rfl⟩
            rw [← hh] at IH e hp0
            by_cases hs : h + h ≤ 4611686018427387904
            · have hs' : 0 ≤ h ∧ 0 ≤ h ∧ h + h ≤ 4611686018427387904 := ⟨by omega, by omega, hs⟩
              by_cases he : b % 2 = 0
              · rw [if_pos he] at e
                have hm : MulP a b := ⟨a0, a1, b0, b1, by omega⟩
                rw [mulB_yes hm, mulV_yes hm, e, Int.add_zero]
                exact rmul_even a b h true w hab.1 hab.2 (by omega) h2 rfl (addB_yes hs') (addV_yes hs') he IH
              · rw [if_neg he] at e
                have ho := rmul_odd a b h true w hab.1 hab.2 (by omega) h2 rfl (addB_yes hs') (addV_yes hs') (by omega) IH
                by_cases hf : h + h + a ≤ 4611686018427387904
                · have hm : MulP a b := ⟨a0, a1, b0, b1, by omega⟩
                  rw [mulB_yes hm, mulV_yes hm, e]
                  rw [addB_yes ⟨by omega, a0, hf⟩, addV_yes ⟨by omega, a0, hf⟩] at ho
                  exact ho
                · have hm : ¬ MulP a b := fun ⟨_, _, _, _, h5⟩ => hf (by omega)
                  rw [mulB_no hm, mulV_no hm]
                  have hn : ¬ (0 ≤ h + h ∧ 0 ≤ a ∧ h + h + a ≤ 4611686018427387904) := fun ⟨_, _, h5⟩ => hf h5
                  rw [addB_no hn, addV_no hn] at ho
                  exact ho
            · have hm : ¬ MulP a b := fun ⟨_, _, _, _, h5⟩ => hs (by split at e <;> omega)
              rw [mulB_no hm, mulV_no hm]
              exact rmul_over a b h true w hab.1 hab.2 (by omega) h2 rfl (addB_no fun ⟨_, _, h5⟩ => hs h5) IH
          · have hb : 4611686018427387904 < a * (b / 2) := by
              by_cases hc : a * (b / 2) ≤ 4611686018427387904
              · exact absurd ⟨a0, a1, by omega, by omega, hc⟩ hp
              · omega
            rw [mulB_no hp, mulV_no hp] at IH
            have hm : ¬ MulP a b := fun ⟨_, _, _, _, h5⟩ => by split at e <;> omega
            rw [mulB_no hm, mulV_no hm]
            exact rmul_broke a b 0 false w hab.1 hab.2 (by omega) h2 rfl IH
    · have hm : ¬ MulP a b := fun ⟨h1, h2, h3, h4, _⟩ => hab ⟨(inB_iff a).2 ⟨h1, h2⟩, (inB_iff b).2 ⟨h3, h4⟩⟩
      rw [mulB_no hm, mulV_no hm]
      exact rmul_out a b w hab
theorem rmul_any (a b : Int) (w : World) :
    Calls Try.prog 12 #[.int .i64 a, .int .i64 b] w fun e w' => e = .returned (.tuple #[.int .i64 (mulV a b), .bool (mulB a b)]) ∧ w = w' :=
  rmul_upto b.toNat a b w (by omega)

end Go.Proofs.Ytckjloojbhomlaa
