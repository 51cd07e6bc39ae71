/- Merged: JsD, JsE, JsF. -/
import Derived.Test.YtnkencdibniagaaGreatDoorM01
/- Layer 11, plain: what is read may be; whatever a text is, it is read, or wrong somewhere. -/
namespace Go.Proofs.YtnkencdibniagaaGreatDoor
open Go.Lib

/-! ### Each way ahead goes on -/
theorem dig_lt {t x : Bs} (h : digP t = .ok () x) : x.length < t.length := by
  unfold digP at h
  have := dropD_le t
  split at h
  · cases h
  · rw [Res.ok.injEq] at h
    rw [← h.2]; omega
theorem tail_le (l : Bs) : l.tail.length ≤ l.length := by simp
theorem tail_lt {l : Bs} (h : l ≠ []) : l.tail.length < l.length := by
  have := List.length_pos_iff.2 h
  simp; omega
theorem exp_le {t x : Bs} (h : expP t = .ok () x) : x.length ≤ t.length := by
  unfold expP at h
  split at h
  · split at h
    · have := dig_lt h; have := tail_le t; have := tail_le t.tail; omega
    · have := dig_lt h; have := tail_le t; omega
  · rw [Res.ok.injEq] at h; rw [h.2]; exact Nat.le_refl _
theorem frac_le {t x : Bs} (h : fracP t = .ok () x) : x.length ≤ t.length := by
  unfold fracP at h
  split at h
  · cases hd2 : digP t.tail with
    | bad k q => rw [hd2] at h; cases h
    | ok a q => rw [hd2] at h; have := dig_lt hd2; have := exp_le h; have := tail_le t; omega
  · exact exp_le h
theorem int_lt {t x : Bs} (h : intP t = .ok () x) : x.length < t.length := by
  have hne := int_ne h
  unfold intP at h
  split at h
  · have := frac_le h; have := tail_lt hne; omega
  · cases hd2 : digP t with
    | bad k q => rw [hd2] at h; cases h
    | ok a q => rw [hd2] at h; have := dig_lt hd2; have := frac_le h; omega
theorem num_lt {t x : Bs} (h : numP t = .ok () x) : x.length < t.length := by
  unfold numP at h
  split at h
  · have := int_lt h; have := tail_le t; omega
  · exact int_lt h
theorem word_le : ∀ (w : Bs) {l r : Bs} {u : Unit}, wordP w l = .ok u r → r.length ≤ l.length
  | [], l, r, u, h => by rw [wordP, Res.ok.injEq] at h; rw [h.2]; exact Nat.le_refl _
  | c :: w, l, r, u, h => by
    rw [wordP] at h
    split at h
    · have := word_le w h; have := tail_le l; omega
    · cases h
theorem unit_le : ∀ (k c : Nat) {l r : Bs} {n : Nat}, unitP k c l = .ok n r → r.length ≤ l.length
  | 0, c, l, r, n, h => by rw [unitP, Res.ok.injEq] at h; rw [h.2]; exact Nat.le_refl _
  | k + 1, c, l, r, n, h => by
    rw [unitP] at h
    cases hx : hexV (hd l) with
    | none => rw [hx] at h; cases h
    | some m => rw [hx] at h; have := unit_le k _ h; have := tail_le l; omega
theorem hexV_lt {b : UInt8} {n : Nat} (h : hexV b = some n) : n < 16 := by
  unfold hexV at h
  repeat' split at h
  all_goals first | (rw [Option.some.injEq] at h; omega) | cases h
theorem unit_lt : ∀ (k c : Nat) {l r : Bs} {n : Nat}, unitP k c l = .ok n r → n < (c + 1) * 16 ^ k
  | 0, c, l, r, n, h => by rw [unitP, Res.ok.injEq] at h; omega
  | k + 1, c, l, r, n, h => by
    rw [unitP] at h
    cases hx : hexV (hd l) with
    | none => rw [hx] at h; cases h
    | some m =>
      rw [hx] at h
      have h1 := unit_lt k _ h
      have h2 := hexV_lt hx
      have h3 : (c * 16 + m + 1) * 16 ^ k ≤ ((c + 1) * 16) * 16 ^ k := Nat.mul_le_mul_right _ (by omega)
      rw [Nat.pow_succ, Nat.mul_comm (16 ^ k) 16, ← Nat.mul_assoc]
      omega
theorem isLo_iff (c : Nat) : isLo c = true ↔ 56320 ≤ c ∧ c < 57344 := by unfold isLo; simp
theorem isHi_iff (c : Nat) : isHi c = true ↔ 55296 ≤ c ∧ c < 56320 := by unfold isHi; simp
theorem low_ok {fr r q : Bs} {c d : Nat} (hc : isHi c = true) (h : lowP fr c r = .ok d q) : scal d ∧ q.length ≤ r.length := by
  unfold lowP at h
  split at h
  · cases h
  split at h
  · cases hu : unitP 4 0 r.tail.tail with
    | bad k x => rw [hu] at h; cases h
    | ok lo x =>
      rw [hu] at h
      have h1 := unit_le 4 0 hu
      have h2 := tail_le r.tail
      have h3 := tail_le r
      simp only at h
      split at h
      · rename_i hl
        rw [Res.ok.injEq] at h
        rw [isLo_iff] at hl
        rw [isHi_iff] at hc
        refine ⟨?_, by rw [← h.2]; omega⟩
        unfold scal
        omega
      · cases h
  · cases h
theorem units_ok {fr l q : Bs} {d : Nat} (h : unitsP fr l = .ok d q) : scal d ∧ q.length ≤ l.length := by
  unfold unitsP at h
  cases hu : unitP 4 0 l with
  | bad k x => rw [hu] at h; cases h
  | ok c x =>
    rw [hu] at h
    have h1 := unit_le 4 0 hu
    have h2 := unit_lt 4 0 hu
    simp only at h
    split at h
    · cases h
    split at h
    · rename_i hh
      have := low_ok hh h
      exact ⟨this.1, by omega⟩
    · rename_i ha hb
      rw [Res.ok.injEq] at h
      rw [isLo_iff] at ha
      rw [isHi_iff] at hb
      refine ⟨?_, by rw [← h.2]; omega⟩
      unfold scal
      omega
theorem unesc_lt {b : UInt8} {c : Nat} (h : unesc b = some c) : c < 128 := by
  unfold unesc at h
  repeat' split at h
  all_goals first | (rw [Option.some.injEq] at h; omega) | cases h
theorem esc_ok {fr l q : Bs} {d : Nat} (h : escP fr l = .ok d q) : scal d ∧ q.length ≤ l.length := by
  unfold escP at h
  split at h
  · have := units_ok h
    exact ⟨this.1, by have := tail_le l; omega⟩
  split at h
  · rw [Res.ok.injEq] at h
    refine ⟨by rw [← h.1]; decide, by rw [← h.2]; exact tail_le l⟩
  · cases hu : unesc (hd l) with
    | none => rw [hu] at h; cases h
    | some c =>
      rw [hu] at h
      rw [Res.ok.injEq] at h
      refine ⟨?_, by rw [← h.2]; exact tail_le l⟩
      have := unesc_lt hu
      unfold scal
      omega
/-- A rune that is read is one, and takes a byte at least. -/
theorem one_ok {l q : Bs} {d : Nat} (h : oneP l = .ok d q) : scal d ∧ q.length < l.length := by
  unfold oneP at h
  split at h
  · rename_i h92
    have := esc_ok h
    exact ⟨this.1, by have := tail_lt (ne_hd h92 (by decide)); omega⟩
  · split at h
    · cases h
    · rename_i hn
      rw [Res.ok.injEq] at h
      have hne : l ≠ [] := fun e => hn (.inl e)
      have hw := decodeL_width l
      have hl := List.length_pos_iff.2 hne
      refine ⟨by rw [← h.1]; exact scal_dec l, ?_⟩
      rw [← h.2, List.length_drop]; omega
theorem str_ok : ∀ (n : Nat) {l acc t q : Bs}, strP n l acc = some (.ok t q) → (∃ cs, (∀ c ∈ cs, scal c) ∧ acc = utfB cs) → validD t = true ∧ q.length < l.length
  | 0, l, acc, t, q, h, _ => by cases h
  | n + 1, l, acc, t, q, h, ⟨cs, h1, h2⟩ => by
    rw [strP] at h
    split at h
    · rename_i h34
      rw [Option.some.injEq, Res.ok.injEq] at h
      refine ⟨by rw [← h.1, h2]; exact utf_valid cs h1, by rw [← h.2]; exact tail_lt (ne_hd h34 (by decide))⟩
    · cases ho : oneP l with
      | bad k r => rw [ho] at h; cases h
      | ok c r =>
        rw [ho] at h
        have hc := one_ok ho
        have := str_ok n h ⟨cs ++ [c], by
          intro d hd
          rcases List.mem_append.1 hd with hd | hd
          · exact h1 d hd
          · rw [List.mem_singleton.1 hd]; exact hc.1, by rw [utfB_append, h2]; simp [utfB]⟩
        exact ⟨this.1, by omega⟩
theorem quo_ok {n : Nat} {l t q : Bs} (h : quoP n l = some (.ok t q)) : validD t = true ∧ q.length < l.length := by
  unfold quoP at h
  split at h
  · have := str_ok n h ⟨[], by simp, rfl⟩
    exact ⟨this.1, by have := tail_le l; omega⟩
  · cases h
theorem key_ok {n : Nat} {seen : List Bs} {l t q : Bs} (h : keyP n seen l = some (.ok t q)) : validD t = true ∧ t ∉ seen ∧ q.length < l.length := by
  unfold keyP at h
  cases hq : quoP n (dropB l) with
  | none => rw [hq] at h; cases h
  | some x =>
    rw [hq] at h
    cases x with
    | bad k r => cases h
    | ok key r =>
      simp only at h
      have h1 := quo_ok hq
      have h2 := dropB_le l
      split at h
      · cases h
      rename_i hs
      split at h
      · rw [Option.some.injEq, Res.ok.injEq] at h
        refine ⟨by rw [← h.1]; exact h1.1, by rw [← h.1]; exact hs, ?_⟩
        have h3 := dropB_le r
        have h4 := tail_le (dropB r)
        rw [← h.2]; omega
      · cases h
/-- A step that goes on. -/
theorem parts_ok {α : Type} {e : UInt8} (he : e ≠ 0) {step : α → Bs → Option (Res α)} {good : α → Prop} (hs : ∀ a l b q, good a → step a l = some (.ok b q) → good b ∧ q.length ≤ l.length) :
    ∀ (n : Nat) (first : Bool) (a : α) (l : Bs) (b : α) (q : Bs), good a → partsP e step n first a l = some (.ok b q) → good b ∧ q.length < l.length
  | 0, _, _, _, _, _, _, h => by cases h
  | n + 1, first, a, l, b, q, hg, h => by
    have hb := dropB_le l
    rw [partsP] at h
    split at h
    · rename_i h1
      rw [Option.some.injEq, Res.ok.injEq] at h
      refine ⟨by rw [← h.1]; exact hg, ?_⟩
      have := tail_lt (ne_hd h1 he)
      rw [← h.2]; omega
    split at h
    · cases hx : step a (dropB l) with
      | none => rw [hx] at h; cases h
      | some x =>
        rw [hx] at h
        cases x with
        | bad k r => cases h
        | ok a' r =>
          have h1 := hs _ _ _ _ hg hx
          have h2 := parts_ok he hs n false a' r b q h1.1 h
          exact ⟨h2.1, by omega⟩
    split at h
    · cases hx : step a (dropB l).tail with
      | none => rw [hx] at h; cases h
      | some x =>
        rw [hx] at h
        cases x with
        | bad k r => cases h
        | ok a' r =>
          have h1 := hs _ _ _ _ hg hx
          have h2 := parts_ok he hs n false a' r b q h1.1 h
          have := tail_le (dropB l)
          exact ⟨h2.1, by omega⟩
    · cases h
theorem mayL_of : ∀ {l : List JV}, (∀ x ∈ l, may x) → mayL l
  | [], _ => by rw [mayL]; trivial
  | x :: l, h => by rw [mayL]; exact ⟨h x (by simp), mayL_of fun y hy => h y (by simp [hy])⟩
theorem deepL_of {n : Nat} : ∀ {l : List JV}, (∀ x ∈ l, deep x ≤ n) → deepL l ≤ n
  | [], _ => by rw [deepL]; omega
  | x :: l, h => by
    rw [deepL]
    have h1 := h x (by simp)
    have h2 := deepL_of (l := l) fun y hy => h y (by simp [hy])
    omega
theorem dropD_pre : ∀ l : Bs, ∃ t, l = t ++ dropD l ∧ dropD t = []
  | [] => ⟨[], rfl, rfl⟩
  | c :: l => by
    rw [dropD]
    split
    · rename_i h
      obtain ⟨t, h1, h2⟩ := dropD_pre l
      refine ⟨c :: t, ?_, ?_⟩
      · rw [List.cons_append, ← h1]
      · rw [dropD, if_pos h]; exact h2
    · exact ⟨[], rfl, rfl⟩
theorem dropD_stop : ∀ l : Bs, isDg (hd (dropD l)) = false
  | [] => rfl
  | c :: l => by
    rw [dropD]
    split
    · exact dropD_stop l
    · rename_i h
      rw [hd_cons]
      simpa using h
theorem dig_all {t : Bs} (h : dropD t = []) (hne : t ≠ []) : digP t = .ok () [] := by
  unfold digP
  have := List.length_pos_iff.2 hne
  rw [h, if_neg (by simp only [List.length_nil]; omega)]
theorem dig_pre {l r : Bs} (h : digP l = .ok () r) : ∃ t, l = t ++ r ∧ dropD t = [] ∧ t ≠ [] ∧ isDg (hd r) = false := by
  unfold digP at h
  split at h
  · cases h
  · rename_i hn
    rw [Res.ok.injEq] at h
    obtain ⟨t, h1, h2⟩ := dropD_pre l
    rw [← h.2]
    refine ⟨t, h1, h2, ?_, dropD_stop l⟩
    rintro rfl
    rw [List.nil_append] at h1
    exact hn (by rw [← h1])
theorem cons_of_hd {l : Bs} {c : UInt8} (h : hd l = c) (hc : c ≠ 0) : l = c :: l.tail := by
  cases l with
  | nil => exact absurd h.symm hc
  | cons d l => rw [hd_cons] at h; rw [h]; rfl
theorem exp_pre {l r : Bs} (h : expP l = .ok () r) : ∃ t, l = t ++ r ∧ expP t = .ok () [] ∧ isDg (hd t) = false := by
  unfold expP at h
  split at h
  · rename_i he
    have hc : ∃ c, l = c :: l.tail ∧ (c = 101 ∨ c = 69) := by
      rcases he with he | he
      · exact ⟨101, cons_of_hd he (by decide), .inl rfl⟩
      · exact ⟨69, cons_of_hd he (by decide), .inr rfl⟩
    obtain ⟨c, hl, hc⟩ := hc
    split at h
    · rename_i hs
      have hc2 : ∃ c, l.tail = c :: l.tail.tail ∧ (c = 43 ∨ c = 45) := by
        rcases hs with hs | hs
        · exact ⟨43, cons_of_hd hs (by decide), .inl rfl⟩
        · exact ⟨45, cons_of_hd hs (by decide), .inr rfl⟩
      obtain ⟨s, hl2, hs2⟩ := hc2
      obtain ⟨t, h1, h2, h3, _⟩ := dig_pre h
      refine ⟨c :: s :: t, ?_, ?_, ?_⟩
      · rw [List.cons_append, List.cons_append, ← h1, ← hl2, ← hl]
      · unfold expP
        rw [hd_cons, if_pos hc, List.tail_cons, hd_cons, if_pos hs2, List.tail_cons]
        exact dig_all h2 h3
      · rw [hd_cons]; rcases hc with rfl | rfl <;> decide
    · rename_i hs
      obtain ⟨t, h1, h2, h3, _⟩ := dig_pre h
      refine ⟨c :: t, ?_, ?_, ?_⟩
      · rw [List.cons_append, ← h1, ← hl]
      · unfold expP
        rw [hd_cons, if_pos hc, List.tail_cons]
        have e : hd t = hd l.tail := by rw [h1, hd_app h3]
        rw [e, if_neg hs]
        exact dig_all h2 h3
      · rw [hd_cons]; rcases hc with rfl | rfl <;> decide
  · rw [Res.ok.injEq] at h
    exact ⟨[], h.2, rfl, rfl⟩
theorem frac_pre {l r : Bs} (h : fracP l = .ok () r) : ∃ t, l = t ++ r ∧ fracP t = .ok () [] ∧ isDg (hd t) = false := by
  unfold fracP at h
  split at h
  · rename_i he
    have hl := cons_of_hd he (by decide)
    cases hx : digP l.tail with
    | bad k q => rw [hx] at h; cases h
    | ok u q =>
      rw [hx] at h
      obtain ⟨t1, h1, h2, h3, h4⟩ := dig_pre hx
      obtain ⟨t2, h5, h6, h7⟩ := exp_pre (l := q) (r := r) h
      refine ⟨46 :: (t1 ++ t2), ?_, ?_, ?_⟩
      · rw [List.cons_append, List.append_assoc, ← h5, ← h1, ← hl]
      · unfold fracP
        rw [hd_cons, if_pos rfl, List.tail_cons, dig_app (r := t2) h7 (dig_all h2 h3)]
        exact h6
      · rw [hd_cons]; decide
  · rename_i he
    obtain ⟨t, h5, h6, h7⟩ := exp_pre (l := l) (r := r) h
    refine ⟨t, h5, ?_, h7⟩
    unfold fracP
    rw [if_neg]
    · exact h6
    · by_cases hne : t = []
      · subst hne; decide
      · have : hd l = hd t := by rw [h5, hd_app hne]
        rw [← this]; exact he
theorem int_pre {l r : Bs} (h : intP l = .ok () r) : ∃ t, l = t ++ r ∧ intP t = .ok () [] := by
  unfold intP at h
  split at h
  · rename_i he
    have hl := cons_of_hd he (by decide)
    obtain ⟨t, h5, h6, _⟩ := frac_pre h
    refine ⟨48 :: t, ?_, ?_⟩
    · rw [List.cons_append, ← h5, ← hl]
    · unfold intP
      rw [hd_cons, if_pos rfl]
      exact h6
  · rename_i he
    cases hx : digP l with
    | bad k q => rw [hx] at h; cases h
    | ok u q =>
      rw [hx] at h
      obtain ⟨t1, h1, h2, h3, h4⟩ := dig_pre hx
      obtain ⟨t2, h5, h6, h7⟩ := frac_pre (l := q) (r := r) h
      refine ⟨t1 ++ t2, ?_, ?_⟩
      · rw [List.append_assoc, ← h5, ← h1]
      · unfold intP
        have e : hd (t1 ++ t2) = hd l := by rw [h1, hd_app h3, hd_app h3]
        rw [e, if_neg he, dig_app (r := t2) h7 (dig_all h2 h3)]
        exact h6
theorem num_pre {l r : Bs} (h : numP l = .ok () r) : ∃ t, l = t ++ r ∧ numP t = .ok () [] := by
  unfold numP at h
  split at h
  · rename_i he
    have hl := cons_of_hd he (by decide)
    obtain ⟨t, h1, h2⟩ := int_pre h
    refine ⟨45 :: t, by rw [List.cons_append, ← h1, ← hl], ?_⟩
    unfold numP
    rw [hd_cons, if_pos rfl]
    exact h2
  · rename_i he
    obtain ⟨t, h1, h2⟩ := int_pre h
    refine ⟨t, h1, ?_⟩
    unfold numP
    have e : hd t = hd l := by rw [h1, hd_app (int_ne h2)]
    rw [e, if_neg he]
    exact h2
theorem num_take {l r : Bs} (h : numP l = .ok () r) : numP (l.take (l.length - r.length)) = .ok () [] := by
  obtain ⟨t, h1, h2⟩ := num_pre h
  have : l.take (l.length - r.length) = t := by
    rw [h1, List.length_append, Nat.add_sub_cancel, List.take_left]
  rw [this]
  exact h2
/-- WHAT IS READ MAY BE, and is no deeper than may be. -/
theorem val_ok : ∀ (n lev : Nat) (l : Bs) (v : JV) (q : Bs), lev ≤ 16 → valP n lev l = some (.ok v q) → may v ∧ lev + deep v ≤ 16 ∧ q.length < l.length
  | 0, lev, l, v, q, _, h => by cases h
  | n + 1, lev, l, v, q, hlev, h => by
    rw [valP] at h
    have hb := dropB_le l
    generalize dropB l = m at h hb
    unfold valB at h
    have word : ∀ k w, (k = 0 ∨ k = 1 ∨ k = 2) → hd w ≠ 0 → some (mkW k w m) = some (.ok v q) → may v ∧ lev + deep v ≤ 16 ∧ q.length < l.length := by
      intro k w hk hw h
      unfold mkW at h
      cases w with
      | nil => exact absurd rfl hw
      | cons c w =>
        rw [hd_cons] at hw
        rw [wordP] at h
        split at h
        · rename_i hc
          cases hx : wordP w m.tail with
          | bad k r => rw [hx] at h; cases h
          | ok u r =>
            rw [hx] at h
            simp only [Res.map, Option.some.injEq, Res.ok.injEq] at h
            have h1 := word_le w hx
            obtain ⟨rfl, rfl⟩ := h
            refine ⟨?_, ?_, ?_⟩
            · rw [may]; exact ⟨by rw [mayL]; trivial, .inl ⟨hk, rfl, rfl, rfl⟩⟩
            · rw [deep, if_neg (by omega), deepL]; omega
            · have := tail_lt (ne_hd hc hw); omega
        · cases h
    split at h
    · exact word 0 nullT (by simp) (by decide) h
    split at h
    · exact word 1 falseT (by simp) (by decide) h
    split at h
    · exact word 2 trueT (by simp) (by decide) h
    split at h
    · cases hx : quoP n m with
      | none => rw [hx] at h; cases h
      | some x =>
        rw [hx] at h
        cases x with
        | bad k r => cases h
        | ok t r =>
          simp only [Option.map_some, Res.map, Option.some.injEq, Res.ok.injEq] at h
          obtain ⟨rfl, rfl⟩ := h
          have h1 := quo_ok hx
          refine ⟨?_, ?_, by omega⟩
          · rw [may]; exact ⟨by rw [mayL]; trivial, .inr (.inr (.inl ⟨rfl, h1.1, rfl, rfl⟩))⟩
          · rw [deep, if_neg (by omega), deepL]; omega
    split at h
    · split at h
      · cases h
      · rename_i h91 h16
        cases hx : partsP 93 (stepL (valP n (lev + 1))) n true [] m.tail with
        | none => rw [hx] at h; cases h
        | some x =>
          rw [hx] at h
          cases x with
          | bad k r => cases h
          | ok acc r =>
            simp only [Option.map_some, Res.map, Option.some.injEq, Res.ok.injEq] at h
            obtain ⟨rfl, rfl⟩ := h
            have hp := parts_ok (e := 93) (by decide) (step := stepL (valP n (lev + 1))) (good := fun acc : List JV => ∀ x ∈ acc, may x ∧ lev + 1 + deep x ≤ 16) (by
              intro a l b q ha hs
              unfold stepL at hs
              cases hv : valP n (lev + 1) l with
              | none => rw [hv] at hs; cases hs
              | some y =>
                rw [hv] at hs
                cases y with
                | bad k r => cases hs
                | ok y r =>
                  rw [Option.some.injEq, Res.ok.injEq] at hs
                  obtain ⟨rfl, rfl⟩ := hs
                  have := val_ok n (lev + 1) l y _ (by omega) hv
                  refine ⟨fun z hz => ?_, by omega⟩
                  rcases List.mem_append.1 hz with hz | hz
                  · exact ha z hz
                  · rw [List.mem_singleton.1 hz]; exact ⟨this.1, this.2.1⟩) n true [] m.tail acc _ (by simp) hx
            refine ⟨?_, ?_, by have := tail_le m; omega⟩
            · unfold mkL; rw [may]; exact ⟨mayL_of fun x hx => (hp.1 x hx).1, .inr (.inr (.inr (.inl ⟨rfl, rfl, rfl⟩)))⟩
            · unfold mkL; rw [deep, if_pos (.inl rfl)]
              have := deepL_of (n := 16 - lev - 1) (l := acc) fun x hx => by have := (hp.1 x hx).2; omega
              omega
    split at h
    · split at h
      · cases h
      · rename_i h91 h16
        cases hx : partsP 125 (stepO n (valP n (lev + 1))) n true [] m.tail with
        | none => rw [hx] at h; cases h
        | some x =>
          rw [hx] at h
          cases x with
          | bad k r => cases h
          | ok acc r =>
            simp only [Option.map_some, Res.map, Option.some.injEq, Res.ok.injEq] at h
            obtain ⟨rfl, rfl⟩ := h
            have hp := parts_ok (e := 125) (by decide) (step := stepO n (valP n (lev + 1))) (good := fun acc : List (Bs × JV) => (∀ x ∈ acc, (may x.2 ∧ lev + 1 + deep x.2 ≤ 16) ∧ validD x.1 = true) ∧ (acc.map (·.1)).Nodup) (by
              intro a l b q ha hs
              unfold stepO at hs
              cases hk : keyP n (a.map (·.1)) l with
              | none => rw [hk] at hs; cases hs
              | some y =>
                rw [hk] at hs
                cases y with
                | bad k r => cases hs
                | ok key r0 =>
                  have hkk := key_ok hk
                  simp only at hs
                  cases hv : valP n (lev + 1) r0 with
                  | none => rw [hv] at hs; cases hs
                  | some y =>
                    rw [hv] at hs
                    cases y with
                    | bad k r => cases hs
                    | ok y r =>
                      rw [Option.some.injEq, Res.ok.injEq] at hs
                      obtain ⟨rfl, rfl⟩ := hs
                      have := val_ok n (lev + 1) r0 y _ (by omega) hv
                      refine ⟨⟨fun z hz => ?_, ?_⟩, by omega⟩
                      · rcases List.mem_append.1 hz with hz | hz
                        · exact ha.1 z hz
                        · rw [List.mem_singleton.1 hz]; exact ⟨⟨this.1, this.2.1⟩, hkk.1⟩
                      · rw [List.map_append, List.nodup_append]
                        refine ⟨ha.2, by simp, ?_⟩
                        intro x hx y hy
                        simp at hy
                        rintro rfl
                        subst hy
                        exact hkk.2.1 hx) n true [] m.tail acc _ ⟨by simp, by simp⟩ hx
            refine ⟨?_, ?_, by have := tail_le m; omega⟩
            · unfold mkO; rw [may]
              refine ⟨mayL_of fun x hx => ?_, .inr (.inr (.inr (.inr ⟨rfl, rfl, by simp, ?_, hp.1.2⟩)))⟩
              · obtain ⟨p, hp1, rfl⟩ := List.mem_map.1 hx
                exact (hp.1.1 p hp1).1.1
              · intro x hx
                obtain ⟨p, hp1, rfl⟩ := List.mem_map.1 hx
                exact (hp.1.1 p hp1).2
            · unfold mkO; rw [deep, if_pos (.inr rfl)]
              have := deepL_of (n := 16 - lev - 1) (l := acc.map (·.2)) fun x hx => by
                obtain ⟨p, hp1, rfl⟩ := List.mem_map.1 hx
                have := (hp.1.1 p hp1).1.2
                omega
              omega
    · rw [Option.some.injEq] at h
      unfold mkN at h
      cases hx : numP m with
      | bad k r => rw [hx] at h; cases h
      | ok u r =>
        rw [hx] at h
        rw [Res.ok.injEq] at h
        obtain ⟨rfl, rfl⟩ := h
        have := num_lt hx
        refine ⟨?_, ?_, by omega⟩
        · rw [may]; exact ⟨by rw [mayL]; trivial, .inr (.inl ⟨rfl, num_take hx, rfl, rfl⟩)⟩
        · rw [deep, if_neg (by omega), deepL]; omega
end Go.Proofs.YtnkencdibniagaaGreatDoor

/- Layer 11, plain: of what is cut off nothing is read, but of a number; whatever a text is, it is read, or wrong somewhere; what is too deep is wrong at the bracket that is. -/
namespace Go.Proofs.YtnkencdibniagaaGreatDoor
open Go.Lib

/-- Wrong, or at the end. -/
def halt {α : Type} (x : Res α) : Prop := (∃ r, x = .bad 10 r) ∨ ∃ a, x = .ok a []
/-! ### Strings -/
/-! ### Values -/
theorem pr_ne {v : JV} (h : may v) : prG [] v ≠ [] := by
  obtain ⟨k, t, items, keys⟩ := v
  rw [prG]
  by_cases h3 : k = 3
  · subst h3
    rw [if_pos rfl]
    exact num_ne (may_num h).1
  by_cases h4 : k = 4
  · subst h4
    rw [if_neg (by decide), if_pos rfl]
    exact fun h => by cases h
  by_cases h5 : k = 5
  · subst h5
    rw [if_neg (by decide), if_neg (by decide), if_pos rfl]
    exact fun h => by cases h
  by_cases h6 : k = 6
  · subst h6
    rw [if_neg (by decide), if_neg (by decide), if_neg (by decide), if_pos rfl]
    exact fun h => by cases h
  · rw [if_neg h3, if_neg h4, if_neg h5, if_neg h6]
    rcases (may_word h h3 h4 h5 h6).1 with rfl | rfl | rfl <;> exact fun h => by cases h
end Go.Proofs.YtnkencdibniagaaGreatDoor

/- Layer 11, plain: every text is read, or wrong somewhere; values that are too deep; what Print writes, piece by piece; how deep a value is, as it is asked. -/
namespace Go.Proofs.YtnkencdibniagaaGreatDoor
open Go.Lib

/-! ### Every text comes to an end -/
theorem all_ok {n : Nat} {l : Bs} {v : JV} {r : Bs} (h : allP n l = some (.ok v r)) : may v ∧ deep v ≤ 16 := by
  unfold allP at h
  cases hv : valP n 0 l with
  | none => rw [hv] at h; cases h
  | some x =>
    rw [hv] at h
    cases x with
    | bad k r => cases h
    | ok w q =>
      have := val_ok n 0 l w q (by omega) hv
      dsimp only at h
      split at h
      · rw [Option.some.injEq, Res.ok.injEq] at h
        rw [← h.1]
        exact ⟨this.1, by omega⟩
      · cases h
/-! ### Too deep -/
end Go.Proofs.YtnkencdibniagaaGreatDoor

