/- The places of the bits that are set, in their order; runs of clear ones; numbers as bytes: plain lemmas. -/
import Derived.Test.YtdngkpdiaeicmaaBitsM
namespace Go.Proofs.Ytdngkpdiaeicmaa

/-- The places of the bits that are set in a byte, in one that is masked, and in all bytes from one on. -/
def inByte (b : Nat) : List Nat := (List.range 8).filter b.testBit
theorem inByte_next : ∀ b < 256, b ≠ 0 → inByte b = Lib.trailingZeros8 b :: inByte (b &&& (b - 1)) := by decide +kernel
theorem inByte_none : inByte 0 = [] := by decide +kernel
theorem ntz_lt : ∀ b < 256, b ≠ 0 → Lib.trailingZeros8 b < 8 := by decide +kernel
theorem inByte_mask : ∀ b < 256, ∀ r < 8, inByte (b &&& (255 * 2 ^ r % 256)) = (List.range' r (8 - r)).filter b.testBit := by decide +kernel
/-- All places from one on. -/
def places (l : List UInt8) (f : Nat) : List Nat := (List.range' f (8 * l.length - f)).filter (bitN l)
theorem places_end {l : List UInt8} {f : Nat} (h : 8 * l.length ≤ f) : places l f = [] := by
  unfold places; rw [show 8 * l.length - f = 0 by omega]; rfl
theorem map_range' (f n a : Nat) : (List.range' f n).map (a + ·) = List.range' (a + f) n := by
  simp [List.map_add_range']
theorem places_step {l : List UInt8} {a r : Nat} (ha : a < l.length) (hr : r < 8) :
    places l (8 * a + r) = ((List.range' r (8 - r)).filter (l.getD a 0).toNat.testBit).map (8 * a + ·) ++ places l (8 * (a + 1)) := by
  unfold places
  rw [show 8 * l.length - (8 * a + r) = (8 - r) + (8 * l.length - 8 * (a + 1)) by omega, ← List.range'_append_1, List.filter_append]
  rw [show 8 * a + r + (8 - r) = 8 * (a + 1) by omega]
  congr 1
  rw [← map_range', List.filter_map]
  congr 1
  refine List.filter_congr fun x hx => ?_
  have := List.mem_range'_1.1 hx
  simp only [Function.comp, bitN]
  rw [show (8 * a + x) / 8 = a by omega, show (8 * a + x) % 8 = x by omega]
theorem places_count (l : List UInt8) : (places l 0).length = countN l := by
  unfold places countN
  rw [← List.countP_eq_length_filter, List.range_eq_range']
  rfl

/-- Are n bits clear from a place on? -/
def clearB (l : List UInt8) (p n : Nat) : Bool := (List.range' p n).all (fun i => !bitN l i)
theorem clearB_iff {l : List UInt8} {p n : Nat} : clearB l p n = true ↔ ∀ i, p ≤ i → i < p + n → bitN l i = false := by
  unfold clearB
  rw [List.all_eq_true]
  constructor
  · intro h i h1 h2
    have := h i (List.mem_range'_1.2 ⟨h1, h2⟩)
    simpa using this
  · intro h i hi
    have := List.mem_range'_1.1 hi
    simpa using h i this.1 this.2
/-- What a run is: the first place from one on from which so many are clear, or none. -/
def IsRun (l : List UInt8) (f n : Nat) (r : Int) : Prop :=
  (∃ p : Nat, r = p ∧ f ≤ p ∧ p + n ≤ 8 * l.length ∧ clearB l p n = true ∧ ∀ q, f ≤ q → q < p → clearB l q n = false) ∨
  (r = -1 ∧ ∀ q, f ≤ q → q + n ≤ 8 * l.length → clearB l q n = false)
theorem IsRun.unique {l : List UInt8} {f n : Nat} {r r' : Int} (h : IsRun l f n r) (h' : IsRun l f n r') : r = r' := by
  rcases h with ⟨p, rfl, h1, h2, h3, h4⟩ | ⟨rfl, h4⟩
  · rcases h' with ⟨p', rfl, h1', h2', h3', h4'⟩ | ⟨rfl, h4'⟩
    · rcases Nat.lt_trichotomy p p' with h | h | h
      · rw [h4' p h1 h] at h3; cases h3
      · rw [h]
      · rw [h4 p' h1' h] at h3'; cases h3'
    · rw [h4' p h1 h2] at h3; cases h3
  · rcases h' with ⟨p', rfl, h1', h2', h3', h4'⟩ | ⟨rfl, h4'⟩
    · rw [h4 p' h1' h2'] at h3'; cases h3'
    · rfl
/-- The run that is told. -/
def runN (l : List UInt8) (f n : Nat) : Int :=
  match (List.range' f (8 * l.length + 1 - n - f)).find? (fun p => clearB l p n) with
  | some p => (p : Int)
  | none => -1
theorem runN_is (l : List UInt8) (f n : Nat) : IsRun l f n (runN l f n) := by
  unfold runN
  cases h : (List.range' f (8 * l.length + 1 - n - f)).find? (fun p => clearB l p n) with
  | none =>
    refine Or.inr ⟨rfl, fun q h1 h2 => ?_⟩
    have := List.find?_eq_none.1 h q (List.mem_range'_1.2 ⟨h1, by omega⟩)
    simpa using this
  | some p =>
    obtain ⟨hp, as, bs, hs, hno⟩ := List.find?_eq_some_iff_append.1 h
    have hm : p ∈ List.range' f (8 * l.length + 1 - n - f) := by rw [hs]; simp
    have hm' := List.mem_range'_1.1 hm
    refine Or.inl ⟨p, rfl, hm'.1, by omega, hp, fun q h1 h2 => ?_⟩
    have hq : q ∈ List.range' f (8 * l.length + 1 - n - f) := List.mem_range'_1.2 ⟨h1, by omega⟩
    rw [hs] at hq
    rcases List.mem_append.1 hq with hq | hq
    · simpa using hno q hq
    · have hp := List.pairwise_lt_range' (s := f) (n := 8 * l.length + 1 - n - f)
      rw [hs] at hp
      have := (List.pairwise_append.1 hp).2.1
      rcases List.mem_cons.1 hq with rfl | hq
      · omega
      · have := (List.pairwise_cons.1 this).1 q hq; omega
theorem runN_eq {l : List UInt8} {f n : Nat} {r : Int} (h : IsRun l f n r) : runN l f n = r := (runN_is l f n).unique h
end Go.Proofs.Ytdngkpdiaeicmaa
