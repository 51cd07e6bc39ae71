/- How the places of the bits that are set are gone through, byte by byte; and what their gaps say of runs: plain lemmas. -/
import Derived.Test.YtdngkpdiaeicmaaBitsN
namespace Go.Proofs.Ytdngkpdiaeicmaa

theorem inByte_all : ∀ b < 256, inByte (b &&& 255) = (List.range' 0 8).filter b.testBit := by decide +kernel
theorem ntz_places : ∀ b < 256, b ≠ 0 → b &&& (b - 1) < b := by decide +kernel
/-- What is left: the bits of a masked byte, and of all bytes behind it. -/
def left (l : List UInt8) (a m : Nat) : List Nat :=
  if a < l.length then (inByte ((l.getD a 0).toNat &&& m)).map (8 * a + ·) ++ places l (8 * (a + 1)) else []
theorem left_start (l : List UInt8) (f : Nat) : places l f = left l (f / 8) (255 * 2 ^ (f % 8) % 256) := by
  unfold left
  by_cases h : f / 8 < l.length
  · rw [if_pos h, inByte_mask _ (UInt8.toNat_lt _) _ (by omega)]
    have := places_step (l := l) (a := f / 8) (r := f % 8) h (by omega)
    rwa [show 8 * (f / 8) + f % 8 = f by omega] at this
  · rw [if_neg h, places_end (by omega)]
theorem left_next (l : List UInt8) (a : Nat) : places l (8 * (a + 1)) = left l (a + 1) 255 := by
  unfold left
  by_cases h : a + 1 < l.length
  · rw [if_pos h, inByte_all _ (UInt8.toNat_lt _)]
    have := places_step (l := l) (a := a + 1) (r := 0) h (by omega)
    rwa [Nat.add_zero] at this
  · rw [if_neg h, places_end (by omega)]

theorem places_here {l : List UInt8} {f : Nat} (h : f < 8 * l.length) : places l f = if bitN l f then f :: places l (f + 1) else places l (f + 1) := by
  unfold places
  rw [show 8 * l.length - f = (8 * l.length - (f + 1)) + 1 by omega, List.range'_succ, List.filter_cons]
theorem places_cons {l : List UInt8} {x : Nat} {r : List Nat} : ∀ (k f : Nat), 8 * l.length - f ≤ k → places l f = x :: r →
    f ≤ x ∧ x < 8 * l.length ∧ bitN l x = true ∧ (∀ i, f ≤ i → i < x → bitN l i = false) ∧ r = places l (x + 1)
  | 0, f, hk, h => by rw [places_end (by omega)] at h; cases h
  | k + 1, f, hk, h => by
    by_cases hf : f < 8 * l.length
    · rw [places_here hf] at h
      cases hb : bitN l f
      · rw [hb] at h
        obtain ⟨h1, h2, h3, h4, h5⟩ := places_cons (l := l) k (f + 1) (by omega) (by simpa using h)
        exact ⟨by omega, h2, h3, fun i a b => if e : i = f then (by rw [e]; exact hb) else h4 i (by omega) b, h5⟩
      · rw [hb] at h
        simp only [if_true, List.cons.injEq] at h
        obtain ⟨rfl, h⟩ := h
        exact ⟨Nat.le_refl _, hf, hb, fun i a b => by omega, h.symm⟩
    · rw [places_end (by omega)] at h; cases h
theorem places_nil {l : List UInt8} : ∀ (k f : Nat), 8 * l.length - f ≤ k → places l f = [] → ∀ i, f ≤ i → bitN l i = false
  | 0, f, hk, _, i, hi => bitN_beyond l i (by omega)
  | k + 1, f, hk, h, i, hi => by
    by_cases hf : f < 8 * l.length
    · rw [places_here hf] at h
      cases hb : bitN l f
      · rw [hb] at h
        by_cases e : i = f
        · rw [e]; exact hb
        · exact places_nil (l := l) k (f + 1) (by omega) (by simpa using h) i (by omega)
      · rw [hb] at h; simp at h
    · exact bitN_beyond l i (by omega)
theorem places_lt {l : List UInt8} {f x : Nat} (h : x ∈ places l f) : x < 8 * l.length := by
  unfold places at h
  have := List.mem_range'_1.1 (List.mem_filter.1 h).1
  omega

/-- The first place behind those that were gone through. -/
def firstOf : Nat → List Nat → Nat
  | f, [] => f
  | _, x :: r => firstOf (x + 1) r
theorem firstOf_snoc : ∀ (f x : Nat) (p : List Nat), firstOf f (p ++ [x]) = x + 1
  | _, _, [] => rfl
  | _, x, y :: r => firstOf_snoc (y + 1) x r
/-- No gap among them has n places. -/
def gapsOk (n : Int) : Nat → List Nat → Prop
  | _, [] => True
  | f, x :: r => (x : Int) - f < n ∧ gapsOk n (x + 1) r
theorem gapsOk_snoc (n : Int) (x : Nat) : ∀ (f : Nat) (p : List Nat), gapsOk n f p → (x : Int) - firstOf f p < n → gapsOk n f (p ++ [x])
  | _, [], _, h => ⟨h, trivial⟩
  | _, y :: r, ⟨h1, h2⟩, h => ⟨h1, gapsOk_snoc n x (y + 1) r h2 h⟩
/-- What has been gone through, and what is left of it. -/
theorem gaps_runs {l : List UInt8} {n : Nat} : ∀ (p r : List Nat) (f : Nat), places l f = p ++ r → gapsOk n f p →
    r = places l (firstOf f p) ∧ f ≤ firstOf f p ∧ ∀ q, f ≤ q → q < firstOf f p → clearB l q n = false
  | [], r, f, h, _ => ⟨by simpa [firstOf] using h.symm, Nat.le_refl _, fun q a b => by simp only [firstOf] at b; omega⟩
  | x :: p, r, f, h, ⟨h1, h2⟩ => by
    obtain ⟨a1, a2, a3, a4, a5⟩ := places_cons _ f (Nat.le_refl _) h
    obtain ⟨b1, b2, b3⟩ := gaps_runs p r (x + 1) a5.symm h2
    refine ⟨b1, by simp only [firstOf]; omega, fun q c1 c2 => ?_⟩
    by_cases e : q ≤ x
    · have : ¬ clearB l q n = true := fun hc => by
        have := clearB_iff.1 hc x e (by omega)
        rw [a3] at this; cases this
      simpa using this
    · exact b3 q (by omega) c2
/-- The run is found ahead of a bit that is set. -/
theorem run_ahead {l : List UInt8} {n f x : Nat} {p : List Nat} (h : p ++ [x] <+: places l f) (hg : gapsOk n f p) (hx : (n : Int) ≤ (x : Int) - firstOf f p) : IsRun l f n (firstOf f p) := by
  obtain ⟨r, hr⟩ := h
  rw [List.append_assoc] at hr
  obtain ⟨b1, b2, b3⟩ := gaps_runs p ([x] ++ r) f hr.symm hg
  obtain ⟨a1, a2, a3, a4, a5⟩ := places_cons _ _ (Nat.le_refl _) b1.symm
  exact Or.inl ⟨_, rfl, b2, by omega, clearB_iff.2 fun i c1 c2 => a4 i c1 (by omega), b3⟩
/-- The run behind all of them, or none. -/
theorem run_behind {l : List UInt8} {n f : Nat} (hg : gapsOk n f (places l f)) :
    IsRun l f n (if (n : Int) ≤ 8 * (l.length : Int) - firstOf f (places l f) then (firstOf f (places l f) : Int) else -1) := by
  obtain ⟨b1, b2, b3⟩ := gaps_runs (l := l) (places l f) [] f (by simp) hg
  have hc := places_nil (l := l) _ _ (Nat.le_refl _) b1.symm
  split
  · exact Or.inl ⟨_, rfl, b2, by omega, clearB_iff.2 fun i c1 _ => hc i c1, b3⟩
  · exact Or.inr ⟨rfl, fun q c1 c2 => b3 q c1 (by omega)⟩
end Go.Proofs.Ytdngkpdiaeicmaa
