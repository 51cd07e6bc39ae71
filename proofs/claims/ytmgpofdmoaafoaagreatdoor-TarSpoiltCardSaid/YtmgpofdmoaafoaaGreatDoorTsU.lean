/- Layer 15, plainly: a record as the document reads it. -/
import Derived.Test.YtmgpofdmoaafoaaGreatDoorTsS
namespace Go.Proofs.YtmgpofdmoaafoaaGreatDoor

theorem while_at {s : Bs} {k : Nat} (hk : k < s.length) (ha : (s.take k).all (isDig 10) = true) (h : s.getD k 0 = 32) : s.takeWhile (· != 32) = s.take k := by
  conv => lhs; rw [← List.take_append_drop k s]
  rw [List.takeWhile_append_of_pos, List.drop_eq_getElem_cons hk, List.takeWhile_cons_of_neg, List.append_nil]
  · rw [← getD_in8 hk, h]; decide
  · intro a hm
    have := (dig_notpad (List.all_eq_true.1 ha a hm)).2
    rw [bne, this]; rfl
theorem while_past {s : Bs} {k : Nat} (hk : k < s.length) (ha : (s.take k).all (isDig 10) = true) (h : s.getD k 0 ≠ 32) : s.getD k 0 ∈ s.takeWhile (· != 32) := by
  have e : s.takeWhile (· != 32) = s.take k ++ (s[k] :: (s.drop (k + 1)).takeWhile (· != 32)) := by
    conv => lhs; rw [← List.take_append_drop k s]
    rw [List.takeWhile_append_of_pos, List.drop_eq_getElem_cons hk, List.takeWhile_cons_of_pos]
    · rw [← getD_in8 hk, bne_iff_ne]; exact h
    · intro a hm
      have := (dig_notpad (List.all_eq_true.1 ha a hm)).2
      rw [bne, this]; rfl
  rw [e, getD_in8 hk]
  simp
theorem while_all {s : Bs} (ha : s.all (isDig 10) = true) : s.takeWhile (· != 32) = s := by
  have := List.takeWhile_append_of_pos (p := fun x : UInt8 => x != 32) (l₁ := s) (l₂ := []) (fun a hm => by
    have := (dig_notpad (List.all_eq_true.1 ha a hm)).2
    rw [bne, this]; rfl)
  rw [List.append_nil] at this
  rw [this]; simp
theorem numP_some {t : Bs} {n : Nat} (h : numP 10 t = some n) : t ≠ [] ∧ t.all (isDig 10) = true ∧ valD 10 t = n := by
  unfold numP at h
  split at h
  · rename_i hh
    exact ⟨hh.1, hh.2.1, Option.some.inj h⟩
  · cases h
theorem numP_bad {t : Bs} {x : UInt8} (hm : x ∈ t) (hx : isDig 10 x = false) : numP 10 t = none := by
  unfold numP
  rw [if_neg]
  rintro ⟨_, hh, _⟩
  rw [List.all_eq_true.1 hh x hm] at hx
  cases hx
theorem last_at {s : Bs} {a n : Nat} (h1 : a < n) (h2 : n ≤ s.length) : ((s.take n).drop a).getLast? = some (s.getD (n - 1) 0) ∧ ((s.take n).drop a).dropLast = (s.take (n - 1)).drop a := by
  obtain ⟨m, rfl⟩ : ∃ m, n = m + 1 := ⟨n - 1, by omega⟩
  rw [List.take_succ_eq_append_getElem (by omega), List.drop_append_of_le_length (by rw [List.length_take]; omega), Nat.add_sub_cancel, getD_in8 (by omega)]
  constructor
  · simp
  · simp
/-- The text of a record that the document takes apart. -/
def badR (s : Bs) (k n : Nat) : Bool := !decide (decD n = s.take k) || decide (n < k + 2) || decide (s.length < n) || !decide (s.getD k 0 = 32) || !decide (s.getD (n - 1) 0 = 10)
theorem one_none {s : Bs} {k : Nat} (hk : k ≤ s.length) (ha : (s.take k).all (isDig 10) = true) (hx : k < s.length → isDig 10 (s.getD k 0) = false) (hn : numP 10 (s.take k) = none) : oneR s = none := by
  unfold oneR
  by_cases hl : k < s.length
  · by_cases h32 : s.getD k 0 = 32
    · rw [while_at hl ha h32, hn]
    · rw [numP_bad (while_past hl ha h32) (hx hl)]
  · rw [List.take_of_length_le (by omega)] at ha hn
    rw [while_all ha, hn]
theorem head_take {s : Bs} {k : Nat} (h : s.take k ≠ []) : (s.take k).headD 0 = s.headD 0 := by
  cases s with
  | nil => simp
  | cons y r => cases k with
    | zero => simp at h
    | succ k => rfl
theorem one_bad {s : Bs} {k n : Nat} (hk : k ≤ s.length) (ha : (s.take k).all (isDig 10) = true) (hx : k < s.length → isDig 10 (s.getD k 0) = false) (hn : numP 10 (s.take k) = some n) (hb : badR s k n = true) : oneR s = none := by
  obtain ⟨h1, _, h3⟩ := numP_some hn
  unfold oneR
  by_cases hl : k < s.length
  · by_cases h32 : s.getD k 0 = 32
    · rw [while_at hl ha h32, hn]
      simp only
      by_cases h48 : s.headD 0 = 48 ∨ s.length < n
      · rw [if_pos h48]
      · rw [if_neg h48, if_neg]
        rintro ⟨hg, _⟩
        have hlk : (s.take k).length = k := by rw [List.length_take]; omega
        rw [hlk] at hg
        have hd : decD n = s.take k := by
          rw [← h3]
          exact decD_back _ _ rfl ha h1 (.inl (by rw [head_take h1]; exact fun e => h48 (.inl e)))
        by_cases hn2 : n < k + 2
        · rw [List.drop_eq_nil_of_le (by rw [List.length_take]; omega)] at hg
          cases hg
        · have hln : n ≤ s.length := Nat.not_lt.1 fun e => h48 (.inr e)
          obtain ⟨e1, _⟩ := last_at (s := s) (a := k + 1) (n := n) (by omega) hln
          rw [e1] at hg
          unfold badR at hb
          rw [decide_eq_true hd, decide_eq_false hn2, decide_eq_false (by omega), decide_eq_true h32, decide_eq_true (Option.some.inj hg)] at hb
          cases hb
    · rw [numP_bad (while_past hl ha h32) (hx hl)]
  · have e : s.take k = s := List.take_of_length_le (by omega)
    rw [e] at ha hn
    rw [while_all ha, hn]
    simp only
    by_cases h48 : s.headD 0 = 48 ∨ s.length < n
    · rw [if_pos h48]
    · rw [if_neg h48, if_neg]
      rintro ⟨hg, _⟩
      rw [List.drop_eq_nil_of_le (by rw [List.length_take]; omega)] at hg
      cases hg
theorem one_good {s : Bs} {k n : Nat} (hk : k ≤ s.length) (ha : (s.take k).all (isDig 10) = true) (hn : numP 10 (s.take k) = some n) (hb : badR s k n = false) :
    k < s.length ∧ k + 2 ≤ n ∧ n ≤ s.length ∧ oneR s = if (61 : UInt8) ∈ sl s (k + 1) (n - 1) then some ((sl s (k + 1) (n - 1)).takeWhile (· != 61), ((sl s (k + 1) (n - 1)).dropWhile (· != 61)).drop 1, s.drop n) else none := by
  obtain ⟨h1, _, h3⟩ := numP_some hn
  unfold badR at hb
  simp only [Bool.or_eq_false_iff, Bool.not_eq_false', decide_eq_true_eq, decide_eq_false_iff_not] at hb
  obtain ⟨⟨⟨⟨b1, b2⟩, b3⟩, b4⟩, b5⟩ := hb
  have hl : k < s.length := by omega
  refine ⟨hl, by omega, by omega, ?_⟩
  have hlk : (s.take k).length = k := by rw [List.length_take]; omega
  have h48 : ¬ (s.headD 0 = 48 ∨ s.length < n) := by
    rintro (h | h)
    · rw [← h3] at b1
      rcases (dec_eq ha h1).1 b1 with h4 | h4
      · rw [head_take h1] at h4
        exact h4 h
      · have hz : valD 10 (s.take k) = 0 := by
          obtain ⟨y, hy⟩ := List.length_eq_one_iff.1 h4
          have : y = 48 := by
            have := head_take h1
            rw [hy, h] at this
            exact this
          rw [hy, this]
          rfl
        omega
    · omega
  obtain ⟨e1, e2⟩ := last_at (s := s) (a := k + 1) (n := n) (by omega) (by omega)
  unfold oneR
  rw [while_at hl ha b4, hn]
  simp only
  rw [if_neg h48, hlk, e1, e2, b5]
  unfold sl
  by_cases h61 : (61 : UInt8) ∈ (s.take (n - 1)).drop (k + 1)
  · rw [if_pos ⟨rfl, h61⟩, if_pos h61]
  · rw [if_neg (fun h => h61 h.2), if_neg h61]
end Go.Proofs.YtmgpofdmoaafoaaGreatDoor
#print axioms Go.Proofs.YtmgpofdmoaafoaaGreatDoor.one_good
