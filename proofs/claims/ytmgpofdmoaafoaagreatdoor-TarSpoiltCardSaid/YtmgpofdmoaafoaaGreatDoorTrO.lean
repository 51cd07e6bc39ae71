/- Layer 15, plainly: numbers, digit by digit; texts cut. -/
import Derived.Test.YtmgpofdmoaafoaaGreatDoorTrN
namespace Go.Proofs.YtmgpofdmoaafoaaGreatDoor

theorem valD_app_le (b : Nat) (hb : 1 ≤ b) (s : Bs) : ∀ t : Bs, valD b s ≤ valD b (s ++ t) := by
  intro t
  rcases List.eq_nil_or_concat t with rfl | ⟨r, x, rfl⟩
  · rw [List.append_nil]; exact Nat.le_refl _
  · have ih := valD_app_le b hb s r
    rw [List.concat_eq_append, ← List.append_assoc, valD_snoc]
    have : valD b (s ++ r) ≤ valD b (s ++ r) * b := Nat.le_mul_of_pos_right _ hb
    omega
termination_by t => t.length
decreasing_by rename_i h; rw [h]; simp
theorem take_getD {s : Bs} {k : Nat} (h : k < s.length) : s.take (k + 1) = s.take k ++ [s.getD k 0] := by
  rw [List.take_succ_eq_append_getElem h, List.getD_eq_getElem?_getD, List.getElem?_eq_getElem h]
  rfl
/-- So far all is well. -/
def OkD (b : Nat) (s : Bs) (k : Nat) : Prop := (s.take k).all (isDig b) = true ∧ valD b (s.take k) < 1099511627776
theorem okD_zero (b : Nat) (s : Bs) : OkD b s 0 := ⟨by simp, by show (0 : Nat) < _; omega⟩
theorem okD_bad {b : Nat} {s : Bs} {k : Nat} (h : k < s.length) (hd : isDig b (s.getD k 0) = false) : numP b s = none := by
  unfold numP
  rw [if_neg]
  rintro ⟨_, h2, _⟩
  have : s.getD k 0 ∈ s := by
    rw [List.getD_eq_getElem?_getD, List.getElem?_eq_getElem h]; exact List.getElem_mem h
  rw [List.all_eq_true.1 h2 _ this] at hd
  cases hd
theorem okD_val {b : Nat} {s : Bs} {k : Nat} (h : k < s.length) : valD b (s.take (k + 1)) = valD b (s.take k) * b + ((s.getD k 0).toNat - 48) := by
  rw [take_getD h, valD_snoc]
theorem okD_big {b : Nat} (hb : 1 ≤ b) {s : Bs} {k : Nat} (hv : 1099511627776 ≤ valD b (s.take (k + 1))) : numP b s = none := by
  unfold numP
  rw [if_neg]
  rintro ⟨_, _, h3⟩
  have := valD_app_le b hb (s.take (k + 1)) (s.drop (k + 1))
  rw [List.take_append_drop] at this
  omega
theorem okD_next {b : Nat} {s : Bs} {k : Nat} (h : k < s.length) (ho : OkD b s k) (hd : isDig b (s.getD k 0) = true) (hv : valD b (s.take (k + 1)) < 1099511627776) : OkD b s (k + 1) :=
  ⟨by rw [take_getD h, List.all_append, ho.1]; simpa using hd, hv⟩
theorem okD_end {b : Nat} {s : Bs} (ho : OkD b s s.length) : numP b s = if s = [] then none else some (valD b s) := by
  unfold OkD at ho
  rw [List.take_length] at ho
  unfold numP
  by_cases h : s = []
  · rw [if_pos h, if_neg (fun e => e.1 h)]
  · rw [if_neg h, if_pos ⟨h, ho⟩]
theorem isDig_iff (b : Nat) (c : UInt8) : isDig b c = true ↔ 48 ≤ c.toNat ∧ c.toNat < 48 + b := by simp [isDig]
theorem numP_lt {b : Nat} {s : Bs} {n : Nat} (h : numP b s = some n) : n < 1099511627776 ∧ s ≠ [] := by
  unfold numP at h
  split at h
  · cases h; rename_i h1; exact ⟨h1.2.2, h1.1⟩
  · cases h
/-- A text cut at the first such byte. -/
theorem cut_parts (s : Bs) (c : UInt8) (h : c ∈ s) : ∃ a b, s = a ++ c :: b ∧ c ∉ a ∧ s.takeWhile (· != c) = a ∧ (s.dropWhile (· != c)).drop 1 = b := by
  induction s with
  | nil => cases h
  | cons x r ih =>
    by_cases hx : x = c
    · subst hx
      exact ⟨[], r, rfl, by simp, by simp, by simp⟩
    · obtain ⟨a, b, rfl, h2, h3, h4⟩ := ih (by rcases List.mem_cons.1 h with e | e; exact absurd e.symm hx; exact e)
      refine ⟨x :: a, b, rfl, by simp [h2, Ne.symm hx], ?_, ?_⟩
      · rw [List.takeWhile_cons_of_pos (by simpa using hx), h3]
      · rw [List.dropWhile_cons_of_pos (by simpa using hx), h4]
theorem cut_miss {s : Bs} {c : UInt8} (h : c ∉ s) : s.takeWhile (· != c) = s ∧ s.dropWhile (· != c) = [] := by
  induction s with
  | nil => exact ⟨rfl, rfl⟩
  | cons x r ih =>
    have hx : x ≠ c := fun e => h (by simp [e])
    obtain ⟨h1, h2⟩ := ih (fun e => h (by simp [e]))
    refine ⟨?_, ?_⟩
    · rw [List.takeWhile_cons_of_pos (by simpa using hx), h1]
    · rw [List.dropWhile_cons_of_pos (by simpa using hx), h2]
theorem sumL_take {s : Bs} {k : Nat} (h : k < s.length) : sumL (s.take (k + 1)) = sumL (s.take k) + (s.getD k 0).toNat := by
  rw [take_getD h, sumL_app]
  simp [sumL]
/-- A head's sum as far as it was counted. -/
def sumK (s : Bs) (k : Nat) : Nat := if k ≤ 148 then sumL (s.take k) else if k ≤ 156 then sumL (s.take 148) + 32 * (k - 148) else sumL (s.take 148) + 256 + sumL ((s.take k).drop 156)
theorem sumK_end {s : Bs} (h : s.length = 512) : sumK s 512 = sumH s := by
  unfold sumK sumH
  rw [if_neg (by omega), if_neg (by omega), List.take_of_length_le (i := 512) (by omega)]
theorem sumK_1 (s : Bs) {k : Nat} (h : k ≤ 148) : sumK s k = sumL (s.take k) := by unfold sumK; rw [if_pos h]
theorem sumK_2 (s : Bs) {k : Nat} (h : 148 ≤ k) (h2 : k ≤ 156) : sumK s k = sumL (s.take 148) + 32 * (k - 148) := by
  unfold sumK
  by_cases h1 : k ≤ 148
  · obtain rfl : k = 148 := by omega
    rw [if_pos h1]
    rfl
  · rw [if_neg h1, if_pos h2]
theorem sumK_3 (s : Bs) {k : Nat} (h : 156 ≤ k) : sumK s k = sumL (s.take 148) + 256 + sumL ((s.take k).drop 156) := by
  unfold sumK
  by_cases h1 : k ≤ 156
  · obtain rfl : k = 156 := by omega
    have : (s.take 156).drop 156 = [] := by rw [List.drop_eq_nil_iff, List.length_take]; omega
    rw [if_neg (by omega), if_pos (by omega), this]
    rfl
  · rw [if_neg (by omega), if_neg h1]
theorem sumK_next {s : Bs} (h : s.length = 512) {k : Nat} (hk : k < 512) : sumK s (k + 1) = sumK s k + (if 148 ≤ k ∧ k < 156 then 32 else (s.getD k 0).toNat) := by
  by_cases h1 : k < 148
  · rw [sumK_1 s (k := k + 1) (by omega), sumK_1 s (k := k) (by omega), if_neg (fun e => by omega), sumL_take (by omega)]
  · by_cases h2 : k < 156
    · rw [sumK_2 s (k := k + 1) (by omega) (by omega), sumK_2 s (k := k) (by omega) (by omega), if_pos (And.intro (by omega) h2)]
      omega
    · rw [sumK_3 s (k := k + 1) (by omega), sumK_3 s (k := k) (by omega), if_neg (fun e => by omega)]
      have e : (s.take (k + 1)).drop 156 = (s.take k).drop 156 ++ [s.getD k 0] := by
        rw [take_getD (by omega), List.drop_append_of_le_length (by rw [List.length_take]; omega)]
      have e1 : sumL [s.getD k 0] = (s.getD k 0).toNat := by simp [sumL]
      rw [e, sumL_app, e1]
      omega
theorem sumK_le (s : Bs) (k : Nat) (hk : k ≤ 512) : sumK s k ≤ 255 * 1024 := by
  unfold sumK
  have h1 := sumL_le (s.take k)
  have h2 := sumL_le (s.take 148)
  have h3 := sumL_le ((s.take k).drop 156)
  rw [List.length_take] at h1 h2
  rw [List.length_drop, List.length_take] at h3
  split
  · omega
  · split <;> omega
end Go.Proofs.YtmgpofdmoaafoaaGreatDoor
