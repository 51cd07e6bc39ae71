/- The arithmetic under math/bits.Div64: how its three numbers are brought to a divisor of 64 bits, and that each digit of the quotient is found. No program in this text. -/
import Derived.WalkKit
import Derived.Lib.ItoaNum
import Derived.Laws.Bits64b
namespace Go.Proofs.Ytckjloojbhomlaa
open Go.RowKit Go.Lib

theorem or_add (a b P n : Nat) (hP : P = 2 ^ n) (hb : b < P) : (a * P) ||| b = a * P + b := by
  subst hP
  rw [Nat.mul_comm, Nat.two_pow_add_eq_or_of_lt hb]

/-- How far a number is shifted so that its topmost bit is set, and what the two parts of the other one come to. -/
theorem norm (hi lo y : Nat) (y0 : 0 < y) (y1 : y < 18446744073709551616) (h : hi < y) (l1 : lo < 18446744073709551616) :
    ∃ n Y U L : Nat, n ≤ 63 ∧ (64 - (Lib.bitLen y : Int)) = (n : Int) ∧ y * 2 ^ n = Y ∧ 9223372036854775808 ≤ Y ∧ Y < 18446744073709551616 ∧
      (hi * 2 ^ n) ||| (lo / 2 ^ (64 - n)) = U ∧ (lo * 2 ^ n) % 18446744073709551616 = L ∧ hi * 2 ^ n < 18446744073709551616 ∧ U < Y ∧
      U * 18446744073709551616 + L = (hi * 18446744073709551616 + lo) * 2 ^ n := by
  obtain ⟨b1, b2, b3⟩ := bitLenAux_bounds 64 y (by simpa using y1) (by omega)
  have b4 := bitLen_le y 64 (by omega) (by simpa using y1)
  have e : bitLenAux 64 y = Lib.bitLen y := rfl
  rw [e] at b1 b2 b3
  obtain ⟨bl, hbl⟩ : ∃ bl, bl = Lib.bitLen y := ⟨_, rfl⟩
  rw [← hbl] at b1 b2 b3 b4 ⊢
  obtain ⟨n, hn⟩ : ∃ n, n = 64 - bl := ⟨_, rfl⟩
  have e2 : 64 - n = bl := by omega
  have pq : 2 ^ n * 2 ^ bl = 18446744073709551616 := by rw [← Nat.pow_add, show n + bl = 64 by omega]
  have pq' : 2 ^ n * 2 ^ (bl - 1) = 9223372036854775808 := by rw [← Nat.pow_add, show n + (bl - 1) = 63 by omega]
  obtain ⟨P, hP⟩ : ∃ P, P = 2 ^ n := ⟨_, rfl⟩
  obtain ⟨Q, hQ⟩ : ∃ Q, Q = 2 ^ bl := ⟨_, rfl⟩
  have P0 : 0 < P := by rw [hP]; exact Nat.two_pow_pos n
  have Q0 : 0 < Q := by rw [hQ]; exact Nat.two_pow_pos bl
  have u2 : lo / Q < P := Nat.div_lt_of_lt_mul (by rw [Nat.mul_comm, hP, hQ, pq]; exact l1)
  have c1 : 9223372036854775808 ≤ y * P := by
    rw [← pq', ← hP, Nat.mul_comm]; exact Nat.mul_le_mul_right _ b2
  have c2 : y * P < 18446744073709551616 := by
    rw [← pq, ← hP, Nat.mul_comm P]; exact Nat.mul_lt_mul_of_pos_right b3 P0
  have c3 : hi * P + P ≤ y * P := by
    have := Nat.mul_le_mul_right P (show hi + 1 ≤ y by omega)
    rw [Nat.add_mul, Nat.one_mul] at this; exact this
  have d := Nat.div_add_mod lo Q
  have m0 : lo % Q < Q := Nat.mod_lt _ Q0
  rw [← hP, ← hQ] at pq
  have hl : lo * P = 18446744073709551616 * (lo / Q) + (lo % Q) * P := by
    conv => lhs; rw [← d]
    rw [Nat.add_mul, Nat.mul_right_comm, Nat.mul_comm Q P, pq]
  have hl2 : (lo % Q) * P < 18446744073709551616 := by
    rw [← pq, Nat.mul_comm P Q]; exact Nat.mul_lt_mul_of_pos_right m0 P0
  refine ⟨n, y * P, hi * P + lo / Q, (lo % Q) * P, by omega, by omega, by rw [hP], c1, c2, ?_, ?_, by rw [← hP]; omega, by omega, ?_⟩
  · rw [e2, ← hP, ← hQ]; exact or_add _ _ P n hP u2
  · rw [← hP, hl, Nat.mul_add_mod, Nat.mod_eq_of_lt hl2]
  · rw [← hP, Nat.add_mul (hi * 18446744073709551616), hl, Nat.mul_right_comm hi 18446744073709551616 P]
    omega

/-- A digit's step: a guess that is too great is made less. -/
theorem dig_over {q r u n Y1 Y0 : Int} (h : q * Y1 + r = u) (hc : 4294967296 * r + n < q * Y0) :
    u * 4294967296 + n < q * (4294967296 * Y1 + Y0) := by
  have e : q * (4294967296 * Y1 + Y0) = 4294967296 * (q * Y1) + q * Y0 := by rw [Int.mul_add, Int.mul_left_comm]
  omega
theorem dig_not {q r u n Y1 Y0 : Int} (h : q * Y1 + r = u) (hc : q * Y0 ≤ 4294967296 * r + n) :
    q * (4294967296 * Y1 + Y0) ≤ u * 4294967296 + n := by
  have e : q * (4294967296 * Y1 + Y0) = 4294967296 * (q * Y1) + q * Y0 := by rw [Int.mul_add, Int.mul_left_comm]
  omega
theorem dig_big {q u n Y : Int} (hq : 4294967296 ≤ q) (hu : u < Y) (hn : n < 4294967296) (hY : 0 < Y) : u * 4294967296 + n < q * Y := by
  have := Int.mul_le_mul_of_nonneg_right hq (Int.le_of_lt hY)
  omega
theorem dig_start {u n Y1 Y0 : Int} (hY1 : 0 < Y1) (hY0 : 0 ≤ Y0) (hu0 : 0 ≤ u) (hn : n < 4294967296) :
    u * 4294967296 + n < (u / Y1 + 1) * (4294967296 * Y1 + Y0) := by
  have h1 := Int.lt_ediv_add_one_mul_self u hY1
  have h0 : 0 ≤ u / Y1 := Int.ediv_nonneg hu0 (by omega)
  have e : (u / Y1 + 1) * (4294967296 * Y1 + Y0) = 4294967296 * ((u / Y1 + 1) * Y1) + (u / Y1 + 1) * Y0 := by rw [Int.mul_add, Int.mul_left_comm]
  have := Int.mul_nonneg (show 0 ≤ u / Y1 + 1 by omega) hY0
  omega
theorem dig_most {u Y1 Y0 : Int} (hY1 : 2147483648 ≤ Y1) (hY0 : Y0 < 4294967296) (hu : u < 4294967296 * Y1 + Y0) : u / Y1 ≤ 4294967297 := by
  have : u / Y1 < 4294967298 := Int.ediv_lt_of_lt_mul (by omega) (by omega)
  omega

/-- What is known of the two numbers: the divisor's halves, the next digit. -/
structure DigK (u n Y1 Y0 Y : Int) : Prop where
  eY : Y = 4294967296 * Y1 + Y0
  a1 : 2147483648 ≤ Y1
  a2 : Y1 < 4294967296
  b1 : 0 ≤ Y0
  b2 : Y0 < 4294967296
  c1 : 0 ≤ n
  c2 : n < 4294967296
  d1 : 0 ≤ u
  d2 : u < Y
/-- A digit of the quotient. -/
def Dig (u n Y q : Int) : Prop := 0 ≤ q ∧ q < 4294967296 ∧ q * Y ≤ u * 4294967296 + n ∧ u * 4294967296 + n < q * Y + Y
/-- A guess of it: not too small. -/
def Gue (u n Y1 Y q r : Int) : Prop := 0 ≤ q ∧ q ≤ 4294967297 ∧ q * Y1 + r = u ∧ 0 ≤ r ∧ r < 4294967296 ∧ u * 4294967296 + n < q * Y + Y

theorem dig_mk {u n Y1 Y0 Y q : Int} (k : DigK u n Y1 Y0 Y) (q0 : 0 ≤ q) (h : q * Y ≤ u * 4294967296 + n) (h' : u * 4294967296 + n < q * Y + Y) : Dig u n Y q := by
  refine ⟨q0, ?_, h, h'⟩
  obtain ⟨e, a1, a2, b1, b2, c1, c2, d1, d2⟩ := k
  by_cases hq : q < 4294967296
  · exact hq
  · have := dig_big (q := q) (u := u) (n := n) (Y := Y) (by omega) d2 c2 (by omega)
    omega
theorem gue_start {u n Y1 Y0 Y : Int} (k : DigK u n Y1 Y0 Y) : Gue u n Y1 Y (u / Y1) (u - u / Y1 * Y1) := by
  obtain ⟨e, a1, a2, b1, b2, c1, c2, d1, d2⟩ := k
  have h1 := dig_start (u := u) (n := n) (Y1 := Y1) (Y0 := Y0) (by omega) b1 d1 c2
  have h2 := dig_most (u := u) (Y1 := Y1) (Y0 := Y0) a1 b2 (by omega)
  have h3 : 0 ≤ u / Y1 := Int.ediv_nonneg d1 (by omega)
  have h4 := Int.mul_ediv_add_emod u Y1
  have h5 := Int.emod_nonneg u (show Y1 ≠ 0 by omega)
  have h6 := Int.emod_lt_of_pos u (show 0 < Y1 by omega)
  rw [Int.mul_comm] at h4
  rw [← e, Int.add_mul, Int.one_mul] at h1
  exact ⟨h3, h2, by omega, by omega, by omega, h1⟩
/-- Is a guess too great? -/
def Over (n Y0 q r : Int) : Prop := 4294967296 ≤ q ∨ 4294967296 * r + n < q * Y0
theorem over_lt {u n Y1 Y0 Y q r : Int} (k : DigK u n Y1 Y0 Y) (g : Gue u n Y1 Y q r) (h : Over n Y0 q r) : 1 ≤ q ∧ u * 4294967296 + n < q * Y := by
  obtain ⟨e, a1, a2, b1, b2, c1, c2, d1, d2⟩ := k
  obtain ⟨g1, g2, g3, g4, g5, g6⟩ := g
  rcases h with h | h
  · exact ⟨by omega, dig_big h d2 c2 (by omega)⟩
  · have hl := dig_over g3 h
    rw [← e] at hl
    refine ⟨?_, hl⟩
    by_cases hq : 1 ≤ q
    · exact hq
    · obtain rfl : q = 0 := by omega
      rw [Int.zero_mul] at h; omega
theorem gue_step {u n Y1 Y0 Y q r : Int} (k : DigK u n Y1 Y0 Y) (g : Gue u n Y1 Y q r) (h : Over n Y0 q r) (hr : r + Y1 < 4294967296) : Gue u n Y1 Y (q - 1) (r + Y1) := by
  obtain ⟨o1, o2⟩ := over_lt k g h
  obtain ⟨g1, g2, g3, g4, g5, g6⟩ := g
  have := k.a1
  exact ⟨by omega, by omega, by rw [Int.sub_mul, Int.one_mul]; omega, by omega, hr, by rw [Int.sub_mul, Int.one_mul]; omega⟩
theorem gue_left {u n Y1 Y0 Y q r : Int} (k : DigK u n Y1 Y0 Y) (g : Gue u n Y1 Y q r) (h : Over n Y0 q r) (hr : 4294967296 ≤ r + Y1) : Dig u n Y (q - 1) := by
  obtain ⟨o1, o2⟩ := over_lt k g h
  obtain ⟨g1, g2, g3, g4, g5, g6⟩ := g
  refine dig_mk k (by omega) ?_ (by rw [Int.sub_mul, Int.one_mul]; omega)
  obtain ⟨e, a1, a2, b1, b2, c1, c2, d1, d2⟩ := k
  have h1 : (q - 1) * Y1 + (r + Y1) = u := by rw [Int.sub_mul, Int.one_mul]; omega
  have h2 := Int.mul_le_mul (show q - 1 ≤ 4294967296 by omega) (show Y0 ≤ 4294967295 by omega) b1 (by omega)
  rw [e]
  exact dig_not h1 (by omega)
theorem gue_done {u n Y1 Y0 Y q r : Int} (k : DigK u n Y1 Y0 Y) (g : Gue u n Y1 Y q r) (h : ¬ Over n Y0 q r) : Dig u n Y q := by
  obtain ⟨g1, g2, g3, g4, g5, g6⟩ := g
  refine dig_mk k g1 ?_ g6
  rw [k.eY]
  refine dig_not g3 ?_
  by_cases hc : q * Y0 ≤ 4294967296 * r + n
  · exact hc
  · exact absurd (Or.inr (by omega)) h
theorem gue_prod {u n Y1 Y0 Y q r : Int} (k : DigK u n Y1 Y0 Y) (g : Gue u n Y1 Y q r) (h : q < 4294967296) : 0 ≤ q * Y0 ∧ q * Y0 ≤ 18446744065119617025 := by
  have := k.b1; have := k.b2
  exact ⟨Int.mul_nonneg g.1 k.b1, Int.mul_le_mul (show q ≤ 4294967295 by omega) (show Y0 ≤ 4294967295 by omega) k.b1 (by omega)⟩

/-- What is left behind a digit, as it is reckoned with wrap-round. -/
theorem dig_rest {u n Y q : Int} (d : Dig u n Y q) (hY : Y ≤ 18446744073709551615) :
    IntKind.u64.wrap (IntKind.u64.wrap (IntKind.u64.wrap (u * 4294967296) + n) - IntKind.u64.wrap (q * Y)) = u * 4294967296 + n - q * Y := by
  obtain ⟨_, _, h3, h4⟩ := d
  simp only [IntKind.wrap_u64]
  omega

/-- Two digits make the quotient. -/
theorem two_digits {M y P U L1 L0 L Y q1 q0 : Int} (hP : 0 < P) (hy : 0 < y) (hY : Y = y * P) (hL : L = L1 * 4294967296 + L0) (hN : U * 18446744073709551616 + L = M * P)
    (d1 : Dig U L1 Y q1) (d0 : Dig (U * 4294967296 + L1 - q1 * Y) L0 Y q0) : q1 * 4294967296 + q0 = M / y := by
  obtain ⟨_, _, e1, e2⟩ := d1
  obtain ⟨_, _, f1, f2⟩ := d0
  obtain ⟨t, ht⟩ : ∃ t, t = q1 * 4294967296 + q0 := ⟨_, rfl⟩
  have hm : t * Y = q1 * Y * 4294967296 + q0 * Y := by rw [ht, Int.add_mul, Int.mul_right_comm]
  have g1 : t * y * P ≤ M * P := by rw [Int.mul_assoc, ← hY, hm, ← hN]; omega
  have g2 : M * P < (t * y + y) * P := by rw [Int.add_mul, Int.mul_assoc t y P, ← hY, hm, ← hN]; omega
  have h1 := Int.le_of_mul_le_mul_right g1 hP
  have h2 := Int.lt_of_mul_lt_mul_right g2 (Int.le_of_lt hP)
  rw [← ht]
  have h3 : t ≤ M / y := (Int.le_ediv_iff_mul_le hy).2 h1
  have h4 : M / y < t + 1 := by rw [Int.ediv_lt_iff_lt_mul hy, Int.add_mul, Int.one_mul]; exact h2
  omega

/-- All that the walk of Div64 wants of its three numbers. -/
theorem norm_int (hi lo y : Nat) (y0 : 0 < y) (y1 : y < 18446744073709551616) (h : hi < y) (l1 : lo < 18446744073709551616) :
    ∃ s Y U L Y0 Y1 L0 L1 P : Int, 0 ≤ s ∧ s ≤ 63 ∧ (64 - (Lib.bitLen y : Int)) = s ∧ IntKind.u64.wrap ((y : Int) * 2 ^ s.toNat) = Y ∧
      bits .or .u64 (IntKind.u64.wrap ((hi : Int) * 2 ^ s.toNat)) ((lo : Int) / 2 ^ (64 - s).toNat) = U ∧ IntKind.u64.wrap ((lo : Int) * 2 ^ s.toNat) = L ∧
      Y / 4294967296 = Y1 ∧ bits .and .u64 Y 4294967295 = Y0 ∧ L / 4294967296 = L1 ∧ bits .and .u64 L 4294967295 = L0 ∧
      (0 ≤ Y ∧ Y ≤ 18446744073709551615) ∧ (0 ≤ L0 ∧ L0 < 4294967296) ∧ (0 ≤ U ∧ U ≤ 18446744073709551615) ∧ DigK U L1 Y1 Y0 Y ∧
      0 < P ∧ Y = y * P ∧ L = L1 * 4294967296 + L0 ∧ U * 18446744073709551616 + L = ((hi : Int) * 18446744073709551616 + lo) * P := by
  obtain ⟨n, Y, U, L, n1, hs, hY, Y1, Y2, hU, hL, hh, lt, hN⟩ := norm hi lo y y0 y1 h l1
  have L2 : L < 18446744073709551616 := by rw [← hL]; exact Nat.mod_lt _ (by omega)
  have U2 : U < 18446744073709551616 := by omega
  have hlo : lo / 2 ^ (64 - n) < 18446744073709551616 := Nat.lt_of_le_of_lt (Nat.div_le_self _ _) l1
  have et : ((n : Int)).toNat = n := by omega
  have et' : (64 - (n : Int)).toNat = 64 - n := by omega
  have mask : ∀ a : Nat, a < 18446744073709551616 → bits .and .u64 (a : Int) 4294967295 = ((a % 4294967296 : Nat) : Int) := by
    intro a ha
    have h := bits_and_u64_nat a 4294967295 ha (by omega)
    have e : a &&& 4294967295 = a % 4294967296 := Nat.and_two_pow_sub_one_eq_mod a 32
    rw [e] at h
    exact h
  refine ⟨n, Y, U, L, ((Y % 4294967296 : Nat) : Int), ((Y / 4294967296 : Nat) : Int), ((L % 4294967296 : Nat) : Int), ((L / 4294967296 : Nat) : Int), ((2 ^ n : Nat) : Int),
    by omega, by omega, hs, ?_, ?_, ?_, by omega, mask Y Y2, by omega, mask L L2, by omega, by omega, by omega, ⟨by omega, by omega, by omega, by omega, by omega, by omega, by omega, by omega, by omega⟩, ?_, ?_, by omega, ?_⟩
  · rw [et, IntKind.wrap_u64]
    have : ((y : Int) * 2 ^ n) = ((y * 2 ^ n : Nat) : Int) := by push_cast; rfl
    rw [this, hY]; omega
  · rw [et, et', IntKind.wrap_u64]
    have e1 : ((hi : Int) * 2 ^ n) = ((hi * 2 ^ n : Nat) : Int) := by push_cast; rfl
    have e2 : ((lo : Int) / 2 ^ (64 - n)) = ((lo / 2 ^ (64 - n) : Nat) : Int) := by push_cast; rfl
    have e3 : ((hi * 2 ^ n : Nat) : Int) % 18446744073709551616 = ((hi * 2 ^ n : Nat) : Int) := by omega
    rw [e1, e2, e3, bits_or_u64_nat _ _ hh hlo, hU]
  · rw [et, IntKind.wrap_u64]
    have : ((lo : Int) * 2 ^ n) = ((lo * 2 ^ n : Nat) : Int) := by push_cast; rfl
    rw [this, ← hL]; omega
  · exact Int.natCast_pos.2 (Nat.two_pow_pos n)
  · rw [← Int.natCast_mul, hY]
  · rw [show ((hi : Int) * 18446744073709551616 + lo) = ((hi * 18446744073709551616 + lo : Nat) : Int) by omega, ← Int.natCast_mul, ← hN]; omega

end Go.Proofs.Ytckjloojbhomlaa
