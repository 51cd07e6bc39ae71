/- Layer 8: the map's bits, and what layer 2 says of them: plain lemmas. -/
import Derived.Test.YtdngkpdiaeicmaaBtE
import Derived.Test.YtdngkpdiaeicmaaBtB
import Derived.Test.YtdngkpdiaeicmaaAlcS
namespace Go.Proofs.Ytdngkpdiaeicmaa

theorem pack_size (L : List Bool) : (str (packL L)).size = (L.length + 7) / 8 := by rw [str_size, packL_length]
/-- Has of a block. -/
theorem pack_has (L : List Bool) (i : Nat) : hasV (str (packL L)) (i : Int) = L.getD i false := by
  rw [hasV_nat, str_toList, bitN_pack]
/-- With of a block. -/
theorem pack_with (L : List Bool) (i : Nat) (b : Bool) (hi : i < L.length) : withV (str (packL L)) (i : Int) b = str (packL (L.set i b)) := by
  unfold withV
  rw [inT_yes (by omega) (by rw [pack_size]; omega), if_pos rfl, str_toList, Int.toNat_natCast, pack_set _ _ _ hi]
theorem countP_range_getD : ∀ (L : List Bool) (n : Nat), L.length ≤ n → (List.range n).countP (fun i => L.getD i false) = usedL L
  | [], n, _ => by
    have : (List.range n).countP (fun i => ([] : List Bool).getD i false) = 0 := List.countP_eq_zero.2 (fun i _ => by simp)
    rw [this]; rfl
  | b :: L, 0, h => by simp at h
  | b :: L, n + 1, h => by
    have ih := countP_range_getD L n (by simpa using h)
    rw [List.range_succ_eq_map, List.countP_cons, List.countP_map]
    have e : (fun i => (b :: L).getD i false) ∘ Nat.succ = fun i => L.getD i false := by funext i; simp
    rw [e, ih]
    unfold usedL
    rw [List.countP_cons]
    cases b <;> simp
/-- Count of its bits. -/
theorem pack_count (L : List Bool) : countN (packL L) = usedL L := by
  unfold countN
  rw [packL_length, ← countP_range_getD L (8 * ((L.length + 7) / 8)) (by omega)]
  refine List.countP_congr fun i _ => ?_
  rw [bitN_pack]
theorem clear_pack (L : List Bool) (p n : Nat) : clearB (packL L) p n = true ↔ ∀ i, p ≤ i → i < p + n → L.getD i false = false := by
  rw [clearB_iff]
  constructor
  · intro h i h1 h2; rw [← bitN_pack]; exact h i h1 h2
  · intro h i h1 h2; rw [bitN_pack]; exact h i h1 h2
/-- So many blocks stand together from there on. -/
theorem run_ge {L : List Bool} {p n : Nat} (hn : p + n ≤ L.length) : n ≤ runL L p ↔ clearB (packL L) p n = true := by
  rw [clear_pack]
  constructor
  · intro h i h1 h2
    have := run_free (L := L) (i := p) (j := i - p) (by omega)
    rw [show p + (i - p) = i by omega] at this
    exact getD_some this
  · intro h
    by_cases hr : n ≤ runL L p
    · exact hr
    · have hs := run_stop L p
      exact absurd (get_of_getD (by omega) (h (p + runL L p) (by omega) (by omega))) hs
/-- Run of its bits, where so many stand together. -/
theorem pack_run_some {L : List Bool} {n i : Nat} (hn : 1 ≤ n) (h : firstL L n = some i) : runN (packL L) 0 n = (i : Int) := by
  obtain ⟨h1, h2, h3⟩ := first_in h
  have hr := run_le L i
  refine runN_eq (.inl ⟨i, rfl, Nat.zero_le _, by rw [packL_length]; omega, (run_ge (by omega)).1 h2, fun q _ hq => ?_⟩)
  have := h3 q hq
  have hb : ¬ clearB (packL L) q n = true := fun hc => by
    have := (run_ge (L := L) (p := q) (n := n) (by omega)).2 hc
    omega
  simpa using hb
/-- .. and where they stand together nowhere. -/
theorem pack_run_none {L : List Bool} {n : Nat} (hn : 1 ≤ n) (h : firstL L n = none) : runN (packL L) 0 n = -1 ∨ ((L.length : Int) < runN (packL L) 0 n + n ∧ 0 ≤ runN (packL L) 0 n) := by
  rcases runN_is (packL L) 0 n with ⟨p, hp, _, _, h3, _⟩ | ⟨hp, _⟩
  · refine .inr ?_
    rw [hp]
    by_cases hl : p + n ≤ L.length
    · have := (run_ge hl).2 h3
      unfold firstL at h
      rw [List.find?_eq_none] at h
      have := h p (List.mem_range.2 (by omega))
      simp at this
      omega
    · omega
  · exact .inl hp
end Go.Proofs.Ytdngkpdiaeicmaa
