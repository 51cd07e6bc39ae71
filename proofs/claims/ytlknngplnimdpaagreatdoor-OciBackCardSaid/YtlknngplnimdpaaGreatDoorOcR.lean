/- Layer 11, plain: a text that is wrong is told so by 10 or 11. -/
import Derived.Test.YtlknngplnimdpaaGreatDoorJsB
namespace Go.Proofs.YtlknngplnimdpaaGreatDoor

def is10 {α : Type} (R : Res α) : Prop := match R with | .ok _ _ => True | .bad c _ => c = 10
def is1x {α : Type} (R : Res α) : Prop := match R with | .ok _ _ => True | .bad c _ => c = 10 ∨ c = 11
theorem is10.up {α : Type} {R : Res α} (h : is10 R) : is1x R := by
  cases R with
  | ok _ _ => trivial
  | bad c r => exact .inl h
theorem is1x.map {α β : Type} {R : Res α} (h : is1x R) (f : α → β) : is1x (R.map f) := by
  cases R with
  | ok _ _ => trivial
  | bad c r => exact h
theorem word_10 : ∀ (w l : Bs), is10 (wordP w l)
  | [], _ => trivial
  | c :: w, l => by
    rw [wordP]
    split
    · exact word_10 w _
    · rfl
theorem dig_10 (l : Bs) : is10 (digP l) := by
  unfold digP
  split
  · rfl
  · trivial
theorem exp_10 (l : Bs) : is10 (expP l) := by
  unfold expP
  split
  · split
    · exact dig_10 _
    · exact dig_10 _
  · trivial
theorem frac_10 (l : Bs) : is10 (fracP l) := by
  unfold fracP
  split
  · have := dig_10 l.tail
    split
    · rename_i h
      rw [h] at this
      exact this
    · exact exp_10 _
  · exact exp_10 _
theorem int_10 (l : Bs) : is10 (intP l) := by
  unfold intP
  split
  · exact frac_10 _
  · have := dig_10 l
    split
    · rename_i h
      rw [h] at this
      exact this
    · exact frac_10 _
theorem num_10 (l : Bs) : is10 (numP l) := by
  unfold numP
  split
  · exact int_10 _
  · exact int_10 _
theorem unit_10 : ∀ (k c : Nat) (l : Bs), is10 (unitP k c l)
  | 0, _, _ => trivial
  | k + 1, c, l => by
    rw [unitP]
    split
    · exact unit_10 k _ _
    · rfl
theorem low_10 (fr : Bs) (c : Nat) (r : Bs) : is10 (lowP fr c r) := by
  unfold lowP
  split
  · rfl
  · split
    · have := unit_10 4 0 r.tail.tail
      split
      · rename_i h
        rw [h] at this
        exact this
      · split
        · trivial
        · rfl
    · rfl
theorem units_10 (fr l : Bs) : is10 (unitsP fr l) := by
  unfold unitsP
  have := unit_10 4 0 l
  split
  · rename_i h
    rw [h] at this
    exact this
  · split
    · rfl
    · split
      · exact low_10 _ _ _
      · trivial
theorem esc_10 (fr l : Bs) : is10 (escP fr l) := by
  unfold escP
  split
  · exact units_10 _ _
  · split
    · trivial
    · split
      · trivial
      · rfl
theorem one_10 (l : Bs) : is10 (oneP l) := by
  unfold oneP
  split
  · exact esc_10 _ _
  · split
    · rfl
    · trivial
theorem str_10 : ∀ (n : Nat) (l acc : Bs) (R : Res Bs), strP n l acc = some R → is10 R
  | 0, _, _, _, h => by rw [strP] at h; cases h
  | n + 1, l, acc, R, h => by
    rw [strP] at h
    split at h
    · injection h with h
      subst h
      trivial
    · have := one_10 l
      split at h
      · rename_i h1
        injection h with h
        subst h
        rw [h1] at this
        exact this
      · exact str_10 n _ _ _ h
theorem quo_10 (n : Nat) (l : Bs) (R : Res Bs) (h : quoP n l = some R) : is10 R := by
  unfold quoP at h
  split at h
  · exact str_10 _ _ _ _ h
  · injection h with h
    subst h
    rfl
theorem key_10 (n : Nat) (seen : List Bs) (l : Bs) (R : Res Bs) (h : keyP n seen l = some R) : is10 R := by
  unfold keyP at h
  split at h
  · cases h
  · rename_i h1
    injection h with h
    subst h
    exact quo_10 _ _ _ h1
  · split at h
    · injection h with h
      subst h
      rfl
    · split at h
      · injection h with h
        subst h
        trivial
      · injection h with h
        subst h
        rfl
theorem parts_1x {α : Type} (e : UInt8) (step : α → Bs → Option (Res α)) (hs : ∀ a l R, step a l = some R → is1x R) : ∀ (n : Nat) (first : Bool) (acc : α) (l : Bs) (R : Res α), partsP e step n first acc l = some R → is1x R
  | 0, _, _, _, _, h => by rw [partsP] at h; cases h
  | n + 1, first, acc, l, R, h => by
    rw [partsP] at h
    split at h
    · injection h with h
      subst h
      trivial
    · split at h
      · split at h
        · cases h
        · rename_i h1
          injection h with h
          subst h
          exact hs _ _ _ h1
        · exact parts_1x e step hs n _ _ _ _ h
      · split at h
        · split at h
          · cases h
          · rename_i h1
            injection h with h
            subst h
            exact hs _ _ _ h1
          · exact parts_1x e step hs n _ _ _ _ h
        · injection h with h
          subst h
          exact .inl rfl
theorem val_1x : ∀ (n lev : Nat) (l : Bs) (R : Res JV), valP n lev l = some R → is1x R
  | 0, _, _, _, h => by rw [valP] at h; cases h
  | n + 1, lev, l, R, h => by
    rw [valP] at h
    have ih := fun l R => val_1x n (lev + 1) l R
    have hsL : ∀ a l R, stepL (valP n (lev + 1)) a l = some R → is1x R := by
      intro a l R h
      unfold stepL at h
      split at h
      · cases h
      · rename_i h1
        injection h with h
        subst h
        have := ih _ _ h1
        exact this
      · injection h with h
        subst h
        trivial
    have hsO : ∀ a l R, stepO n (valP n (lev + 1)) a l = some R → is1x R := by
      intro a l R h
      unfold stepO at h
      split at h
      · cases h
      · rename_i h1
        injection h with h
        subst h
        have := (key_10 _ _ _ _ h1).up
        exact this
      · split at h
        · cases h
        · rename_i h1
          injection h with h
          subst h
          have := ih _ _ h1
          exact this
        · injection h with h
          subst h
          trivial
    unfold valB at h
    split at h
    · injection h with h
      subst h
      exact (word_10 _ _).up.map _
    split at h
    · injection h with h
      subst h
      exact (word_10 _ _).up.map _
    split at h
    · injection h with h
      subst h
      exact (word_10 _ _).up.map _
    split at h
    · rw [Option.map_eq_some_iff] at h
      obtain ⟨Q, h1, rfl⟩ := h
      exact (quo_10 _ _ _ h1).up.map _
    split at h
    · split at h
      · injection h with h
        subst h
        exact .inr rfl
      · rw [Option.map_eq_some_iff] at h
        obtain ⟨Q, h1, rfl⟩ := h
        exact (parts_1x _ _ hsL _ _ _ _ _ h1).map _
    split at h
    · split at h
      · injection h with h
        subst h
        exact .inr rfl
      · rw [Option.map_eq_some_iff] at h
        obtain ⟨Q, h1, rfl⟩ := h
        exact (parts_1x _ _ hsO _ _ _ _ _ h1).map _
    · injection h with h
      subst h
      unfold mkN
      have := num_10 (dropB l)
      split
      · rename_i h1
        rw [h1] at this
        exact .inl this
      · trivial
/-- What is wrong with a text is told by 10 or by 11. -/
theorem all_1x (n : Nat) (l : Bs) (c : Nat) (r : Bs) (h : allP n l = some (.bad c r)) : c = 10 ∨ c = 11 := by
  unfold allP at h
  split at h
  · cases h
  · rename_i h1
    injection h with h
    injection h with h _
    subst h
    exact val_1x _ _ _ _ h1
  · split at h
    · cases h
    · injection h with h
      injection h with h _
      exact .inl h.symm
end Go.Proofs.YtlknngplnimdpaaGreatDoor
