/- Bits of bytes: plain lemmas on numbers and lists. -/
import Derived.Lib.BitFns
namespace Go.Proofs.Ytdngkpdiaeicmaa

/-- Bit i of a list of bytes. -/
def bitN (l : List UInt8) (i : Nat) : Bool := (l.getD (i / 8) 0).toNat.testBit (i % 8)
/-- A byte of which one bit is set, or clear. -/
def setN (b k : Nat) (on : Bool) : Nat := if on then (b &&& (255 - 2 ^ k)) ||| 2 ^ k else b &&& (255 - 2 ^ k)
theorem and_le {a b : Nat} : a &&& b ≤ a := Nat.and_le_left
theorem setN_lt {b k : Nat} (on : Bool) (hb : b < 256) (hk : k < 8) : setN b k on < 256 := by
  have h1 : b &&& (255 - 2 ^ k) < 2 ^ 8 := Nat.lt_of_le_of_lt Nat.and_le_left hb
  have h2 : 2 ^ k < 2 ^ 8 := Nat.pow_lt_pow_right (by omega) hk
  unfold setN
  split
  · exact Nat.or_lt_two_pow h1 h2
  · exact h1
theorem setN_bit (b k m : Nat) (on : Bool) (hk : k < 8) (hm : m < 8) : (setN b k on).testBit m = if m = k then on else b.testBit m := by
  have h : (255 - 2 ^ k).testBit m = decide (m ≠ k) := by
    have : ∀ k < 8, ∀ m < 8, (255 - 2 ^ k).testBit m = decide (m ≠ k) := by decide +kernel
    exact this k hk m hm
  unfold setN
  cases on <;> simp [Nat.testBit_and, Nat.testBit_or, Nat.testBit_two_pow, h]
  · by_cases e : m = k <;> simp [e]
  · by_cases e : m = k
    · simp [e]
    · have : ¬ k = m := fun h => e h.symm
      simp [e, this]
/-- A number below 256 is its bits. -/
theorem bits_ext {a b : Nat} (ha : a < 256) (hb : b < 256) (h : ∀ m < 8, a.testBit m = b.testBit m) : a = b := by
  refine Nat.eq_of_testBit_eq fun i => ?_
  by_cases hi : i < 8
  · exact h i hi
  · rw [Nat.testBit_lt_two_pow (Nat.lt_of_lt_of_le ha (Nat.pow_le_pow_right (n := 2) (by omega) (by omega : 8 ≤ i))), Nat.testBit_lt_two_pow (Nat.lt_of_lt_of_le hb (Nat.pow_le_pow_right (n := 2) (by omega) (by omega : 8 ≤ i)))]
/-- A list with one bit set, or clear. -/
def putB (l : List UInt8) (i : Nat) (on : Bool) : List UInt8 := l.set (i / 8) (UInt8.ofNat (setN (l.getD (i / 8) 0).toNat (i % 8) on))
theorem putB_length (l : List UInt8) (i : Nat) (on : Bool) : (putB l i on).length = l.length := by simp [putB]
theorem bitN_putB (l : List UInt8) (i j : Nat) (on : Bool) (hi : i / 8 < l.length) : bitN (putB l i on) j = if j = i then on else bitN l j := by
  have hb : (l.getD (i / 8) 0).toNat < 256 := UInt8.toNat_lt _
  have hlt := setN_lt on hb (by omega : i % 8 < 8)
  unfold bitN putB
  by_cases e : j / 8 = i / 8
  · have : (l.set (i / 8) (UInt8.ofNat (setN (l.getD (i / 8) 0).toNat (i % 8) on))).getD (j / 8) 0 = UInt8.ofNat (setN (l.getD (i / 8) 0).toNat (i % 8) on) := by
      rw [e]; simp [List.getD, hi]
    rw [this, UInt8.toNat_ofNat_of_lt' (by simpa using hlt), setN_bit _ _ _ _ (by omega) (by omega), e]
    by_cases e2 : j = i
    · simp [e2]
    · rw [if_neg (by omega), if_neg e2]
  · have : (l.set (i / 8) (UInt8.ofNat (setN (l.getD (i / 8) 0).toNat (i % 8) on))).getD (j / 8) 0 = l.getD (j / 8) 0 := by
      simp only [List.getD]; rw [List.getElem?_set_ne (by omega)]
    rw [this, if_neg (by omega)]
theorem bitN_beyond (l : List UInt8) (j : Nat) (h : 8 * l.length ≤ j) : bitN l j = false := by
  unfold bitN
  rw [List.getD_eq_getElem?_getD, List.getElem?_eq_none (by omega)]
  simp
theorem bytes_ext {l r : List UInt8} (hl : l.length = r.length) (h : ∀ j, j < 8 * l.length → bitN l j = bitN r j) : l = r := by
  refine List.ext_getElem hl fun k h1 h2 => ?_
  refine UInt8.toNat_inj.1 (bits_ext (UInt8.toNat_lt _) (UInt8.toNat_lt _) fun m hm => ?_)
  have := h (8 * k + m) (by omega)
  unfold bitN at this
  rw [show (8 * k + m) / 8 = k by omega, show (8 * k + m) % 8 = m by omega] at this
  simpa [List.getD, List.getElem?_eq_getElem h1, List.getElem?_eq_getElem h2] using this

/-- How many bits are set. -/
def countN (l : List UInt8) : Nat := (List.range (8 * l.length)).countP (bitN l)
theorem countN_le (l : List UInt8) : countN l ≤ 8 * l.length := by
  unfold countN; exact Nat.le_trans List.countP_le_length (by simp)
/-- One bit more. -/
theorem countP_one (n i : Nat) (p q : Nat → Bool) (hi : i < n) (h : ∀ j, j ≠ i → p j = q j) (hp : p i = true) (hq : q i = false) :
    (List.range n).countP p = (List.range n).countP q + 1 := by
  induction n with
  | zero => omega
  | succ n ih =>
    rw [List.range_succ, List.countP_append, List.countP_append]
    by_cases e : i = n
    · subst e
      have : (List.range i).countP p = (List.range i).countP q := List.countP_congr fun x hx => by rw [h x (by have := List.mem_range.1 hx; omega)]
      simp [this, hp, hq]
    · have := ih (by omega)
      have e2 := h n (fun h => e h.symm)
      simp [this, List.countP_cons, e2]
      omega
theorem countN_set (l : List UInt8) (i : Nat) (hi : i / 8 < l.length) : countN (putB l i true) = countN (putB l i false) + 1 := by
  unfold countN
  rw [putB_length, putB_length]
  refine countP_one _ i _ _ (by omega) (fun j hj => ?_) ?_ ?_
  · rw [bitN_putB _ _ _ _ hi, bitN_putB _ _ _ _ hi, if_neg hj, if_neg hj]
  · rw [bitN_putB _ _ _ _ hi, if_pos rfl]
  · rw [bitN_putB _ _ _ _ hi, if_pos rfl]
theorem putB_same (l : List UInt8) (i : Nat) (b : Bool) (hi : i / 8 < l.length) : putB (putB l i b) i (bitN l i) = l := by
  refine bytes_ext (by rw [putB_length, putB_length]) fun j hj => ?_
  rw [bitN_putB _ _ _ _ (by rw [putB_length]; exact hi)]
  split
  · rename_i e; rw [e]
  · rw [bitN_putB _ _ _ _ hi, if_neg ‹_›]
theorem putB_again (l : List UInt8) (i : Nat) (b c : Bool) (hi : i / 8 < l.length) : putB (putB l i b) i c = putB l i c := by
  refine bytes_ext (by simp [putB_length]) fun j hj => ?_
  rw [bitN_putB _ _ _ _ (by rw [putB_length]; exact hi), bitN_putB _ _ _ _ hi, bitN_putB _ _ _ _ hi]
  split <;> rfl
end Go.Proofs.Ytdngkpdiaeicmaa
