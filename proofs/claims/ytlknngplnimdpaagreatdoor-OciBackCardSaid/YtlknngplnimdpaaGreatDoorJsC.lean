/- Layer 11, plain: what is written is read as it was, with whatever blanks between its parts. -/
import Derived.Test.YtlknngplnimdpaaGreatDoorJsB
namespace Go.Proofs.YtlknngplnimdpaaGreatDoor
open Go.Lib

/-- From some number on. -/
def Ev {α : Type} (f : Nat → Option (Res α)) (x : Res α) : Prop := ∃ n0, ∀ n, n0 ≤ n → f n = some x
def Ev2 {α : Type} (f : Nat → Nat → Option (Res α)) (x : Res α) : Prop := ∃ n0, ∀ n m, n0 ≤ n → n0 ≤ m → f n m = some x
theorem Ev.unique {α : Type} {f : Nat → Option (Res α)} {x y : Res α} (h : Ev f x) (g : Ev f y) : x = y := by
  obtain ⟨a, ha⟩ := h
  obtain ⟨b, hb⟩ := g
  have h1 := ha (max a b) (Nat.le_max_left ..)
  have h2 := hb (max a b) (Nat.le_max_right ..)
  rw [h1] at h2
  exact Option.some.inj h2
def gap (g : Bs) : Prop := ∀ c ∈ g, isBl c = true
/-- No number goes on there. -/
def stopN (r : Bs) : Prop := isDg (hd r) = false ∧ hd r ≠ 46 ∧ hd r ≠ 101 ∧ hd r ≠ 69
instance (r : Bs) : Decidable (stopN r) := by unfold stopN; infer_instance
theorem dropB_gap {g : Bs} (hg : gap g) (l : Bs) : dropB (g ++ l) = dropB l := by
  induction g with
  | nil => rfl
  | cons c g ih =>
    have := hg c (by simp)
    rw [List.cons_append, dropB, if_pos this]
    exact ih (fun d hd => hg d (by simp [hd]))
theorem dropB_hd {l : Bs} (h : isBl (hd l) = false) : dropB l = l := by
  cases l with
  | nil => rfl
  | cons c l => rw [hd_cons] at h; rw [dropB, if_neg (by rw [h]; decide)]
theorem dropB_idem (l : Bs) : dropB (dropB l) = dropB l := by
  induction l with
  | nil => rfl
  | cons c l ih =>
    rw [dropB]
    split
    · exact ih
    · rename_i h
      rw [dropB, if_neg h]
theorem dropB_le (l : Bs) : (dropB l).length ≤ l.length := by
  induction l with
  | nil => exact Nat.le_refl _
  | cons c l ih => rw [dropB]; split <;> simp only [List.length_cons] <;> omega
theorem dropD_le (l : Bs) : (dropD l).length ≤ l.length := by
  induction l with
  | nil => exact Nat.le_refl _
  | cons c l ih => rw [dropD]; split <;> simp only [List.length_cons] <;> omega
theorem dropD_hd {l : Bs} (h : isDg (hd l) = false) : dropD l = l := by
  cases l with
  | nil => rfl
  | cons c l => rw [hd_cons] at h; rw [dropD, if_neg (by rw [h]; decide)]
theorem dropD_app (t : Bs) {r : Bs} (h : isDg (hd r) = false) : dropD (t ++ r) = dropD t ++ r := by
  induction t with
  | nil => exact dropD_hd h
  | cons c t ih =>
    rw [List.cons_append, dropD, dropD]
    split
    · exact ih
    · rfl
theorem dig_app {t x : Bs} {r : Bs} (h : isDg (hd r) = false) (hx : digP t = .ok () x) : digP (t ++ r) = .ok () (x ++ r) := by
  unfold digP at hx ⊢
  rw [dropD_app t h]
  split at hx
  · cases hx
  · rename_i hn
    rw [if_neg (by simp only [List.length_append]; omega)]
    rw [Res.ok.injEq] at hx
    rw [hx.2]
theorem hd_app {t : Bs} (h : t ≠ []) (r : Bs) : hd (t ++ r) = hd t := by
  cases t with
  | nil => exact absurd rfl h
  | cons c t => rfl
theorem tail_app {t : Bs} (h : t ≠ []) (r : Bs) : (t ++ r).tail = t.tail ++ r := by
  cases t with
  | nil => exact absurd rfl h
  | cons c t => rfl
theorem ne_hd {t : Bs} {c : UInt8} (h : hd t = c) (hc : c ≠ 0) : t ≠ [] := by
  rintro rfl
  exact hc h.symm
theorem dig_ne {t x : Bs} (h : digP t = .ok () x) : t ≠ [] := by
  rintro rfl
  cases h
theorem exp_app {t x r : Bs} (hr : stopN r) (hx : expP t = .ok () x) : expP (t ++ r) = .ok () (x ++ r) := by
  unfold expP at hx ⊢
  by_cases he : hd t = 101 ∨ hd t = 69
  · have hne : t ≠ [] := by rcases he with h | h <;> exact ne_hd h (by decide)
    rw [if_pos he] at hx
    rw [hd_app hne, if_pos he, tail_app hne]
    by_cases hs : hd t.tail = 43 ∨ hd t.tail = 45
    · have hne2 : t.tail ≠ [] := by rcases hs with h | h <;> exact ne_hd h (by decide)
      rw [if_pos hs] at hx
      rw [hd_app hne2, if_pos hs, tail_app hne2]
      exact dig_app hr.1 hx
    · rw [if_neg hs] at hx
      rw [hd_app (dig_ne hx), if_neg hs]
      exact dig_app hr.1 hx
  · rw [if_neg he] at hx
    rw [Res.ok.injEq] at hx
    rw [if_neg, hx.2]
    by_cases hne : t = []
    · subst hne
      exact fun h => h.elim hr.2.2.1 hr.2.2.2
    · rw [hd_app hne]; exact he
theorem frac_app {t x r : Bs} (hr : stopN r) (hx : fracP t = .ok () x) : fracP (t ++ r) = .ok () (x ++ r) := by
  unfold fracP at hx ⊢
  by_cases he : hd t = 46
  · have hne : t ≠ [] := ne_hd he (by decide)
    rw [if_pos he] at hx
    rw [hd_app hne, if_pos he, tail_app hne]
    cases hd2 : digP t.tail with
    | bad k q => rw [hd2] at hx; cases hx
    | ok a q =>
      rw [hd2] at hx
      rw [dig_app hr.1 hd2]
      exact exp_app hr hx
  · rw [if_neg he] at hx
    rw [if_neg]
    · exact exp_app hr hx
    · by_cases hne : t = []
      · subst hne; exact hr.2.1
      · rw [hd_app hne]; exact he
theorem int_ne {t x : Bs} (h : intP t = .ok () x) : t ≠ [] := by
  rintro rfl
  cases h
theorem int_app {t x r : Bs} (hr : stopN r) (hx : intP t = .ok () x) : intP (t ++ r) = .ok () (x ++ r) := by
  have hne := int_ne hx
  unfold intP at hx ⊢
  rw [hd_app hne, tail_app hne]
  by_cases he : hd t = 48
  · rw [if_pos he] at hx ⊢
    exact frac_app hr hx
  · rw [if_neg he] at hx ⊢
    cases hd2 : digP t with
    | bad k q => rw [hd2] at hx; cases hx
    | ok a q =>
      rw [hd2] at hx
      rw [dig_app hr.1 hd2]
      exact frac_app hr hx
theorem num_ne {t x : Bs} (h : numP t = .ok () x) : t ≠ [] := by
  rintro rfl
  cases h
theorem num_app {t x r : Bs} (hr : stopN r) (hx : numP t = .ok () x) : numP (t ++ r) = .ok () (x ++ r) := by
  have hne := num_ne hx
  unfold numP at hx ⊢
  rw [hd_app hne, tail_app hne]
  split
  · rename_i he
    rw [if_pos he] at hx
    exact int_app hr hx
  · rename_i he
    rw [if_neg he] at hx
    exact int_app hr hx
/-- What begins a number. -/
theorem dig_hd {t x : Bs} (h : digP t = .ok () x) : isDg (hd t) = true := by
  cases t with
  | nil => cases h
  | cons c t =>
    rw [hd_cons]
    unfold digP at h
    rw [dropD] at h
    by_cases hc : isDg c = true
    · exact hc
    · rw [if_neg hc, if_pos rfl] at h; cases h
theorem int_hd {t x : Bs} (h : intP t = .ok () x) : isDg (hd t) = true := by
  unfold intP at h
  by_cases he : hd t = 48
  · rw [he]; decide
  · rw [if_neg he] at h
    cases hd2 : digP t with
    | bad k q => rw [hd2] at h; cases h
    | ok a q => exact dig_hd hd2
theorem num_hd {t x : Bs} (h : numP t = .ok () x) : hd t = 45 ∨ isDg (hd t) = true := by
  unfold numP at h
  by_cases he : hd t = 45
  · exact .inl he
  · rw [if_neg he] at h
    exact .inr (int_hd h)
theorem word_app (w r : Bs) : wordP w (w ++ r) = .ok () r := by
  induction w with
  | nil => rfl
  | cons c w ih =>
    rw [List.cons_append, wordP, if_pos (hd_cons ..)]
    exact ih
/-! ### Strings -/
theorem hd_enc_ascii {c : Nat} (h : c < 128) (r : Bs) : hd (encodeRune (c : Int) ++ r) = UInt8.ofNat c := by
  rw [enc_ascii h]; rfl
set_option maxHeartbeats 1000000 in
theorem hd_enc_big {c : Nat} (hc : scal c) (h : 128 ≤ c) (r : Bs) : 128 ≤ (hd (encodeRune (c : Int) ++ r)).toNat := by
  unfold scal at hc
  unfold encodeRune
  by_cases h2 : c < 2048
  · rw [encodeRuneZ_two (by omega) (by omega)]
    simp only [List.map_cons, List.cons_append, hd_cons]
    have e0 : ((192 + (c : Int) / 64).toNat.toUInt8).toNat = 192 + c / 64 := by simp; omega
    omega
  by_cases h3 : c < 65536
  · rw [encodeRuneZ_three (by omega)]
    simp only [List.map_cons, List.cons_append, hd_cons]
    have e0 : ((224 + (c : Int) / 4096).toNat.toUInt8).toNat = 224 + c / 4096 := by simp; omega
    omega
  · rw [encodeRuneZ_four (by omega) (by omega)]
    simp only [List.map_cons, List.cons_append, hd_cons]
    have e0 : ((240 + (c : Int) / 262144).toNat.toUInt8).toNat = 240 + c / 262144 := by simp; omega
    omega
theorem hd_enc_ne {c : Nat} (hc : scal c) (k : Nat) (hk : k < 128) (h : c ≠ k) (r : Bs) : hd (encodeRune (c : Int) ++ r) ≠ UInt8.ofNat k := by
  intro e
  by_cases h1 : c < 128
  · rw [hd_enc_ascii h1] at e
    have := congrArg UInt8.toNat e
    simp at this
    omega
  · have := hd_enc_big hc (by omega) r
    rw [e] at this
    simp at this
    omega
theorem hex16 : ∀ k : Fin 16, hexV (hexd k.val) = some k.val := by decide
theorem esc_all : ∀ c : Fin 128, ∀ b, escR c.val = some b → unesc b = some c.val ∧ b ≠ 117 ∧ b ≠ 47 := by decide
theorem escR_lt {c : Nat} {b : UInt8} (h : escR c = some b) : c < 128 := by
  unfold escR at h
  repeat' split at h
  all_goals first | omega | cases h
theorem units_small {fr r : Bs} {a b c d : UInt8} {w x y z : Nat} (ha : hexV a = some w) (hb : hexV b = some x) (hc : hexV c = some y) (hd4 : hexV d = some z) (hs : ((w * 16 + x) * 16 + y) * 16 + z < 55296) :
    unitsP fr (a :: b :: c :: d :: r) = .ok (((w * 16 + x) * 16 + y) * 16 + z) r := by
  unfold unitsP
  simp only [unitP, hd_cons, ha, hb, hc, hd4, List.tail_cons]
  have h1 : isLo (((0 * 16 + w) * 16 + x) * 16 + y * 1) = isLo (((0 * 16 + w) * 16 + x) * 16 + y * 1) := rfl
  have e : (((0 * 16 + w) * 16 + x) * 16 + y) * 16 + z = ((w * 16 + x) * 16 + y) * 16 + z := by omega
  rw [e]
  have l1 : isLo (((w * 16 + x) * 16 + y) * 16 + z) = false := by unfold isLo; simp; omega
  have l2 : isHi (((w * 16 + x) * 16 + y) * 16 + z) = false := by unfold isHi; simp; omega
  rw [l1, l2]
  rfl
/-- A rune that is written is read. -/
theorem one_printed {c : Nat} (hc : scal c) (r : Bs) : oneP (printedR c ++ r) = .ok c r := by
  unfold printedR
  cases he : escR c with
  | some b =>
    have hlt := escR_lt he
    obtain ⟨h1, h2, h3⟩ := esc_all ⟨c, hlt⟩ b he
    show oneP (92 :: b :: r) = _
    unfold oneP
    rw [if_pos (hd_cons ..)]
    show escP _ (b :: r) = _
    unfold escP
    rw [hd_cons, if_neg h2, if_neg h3, h1]
    rfl
  | none =>
    by_cases h16 : c < 16
    · simp only [if_pos h16]
      have hx := hex16 ⟨c, h16⟩
      show oneP (92 :: 117 :: 48 :: 48 :: 48 :: hexd c :: r) = _
      unfold oneP
      rw [if_pos (hd_cons ..)]
      show escP _ (117 :: 48 :: 48 :: 48 :: hexd c :: r) = _
      unfold escP
      rw [if_pos (hd_cons ..)]
      show unitsP _ (48 :: 48 :: 48 :: hexd c :: r) = _
      rw [units_small (w := 0) (x := 0) (y := 0) (z := c) (by decide) (by decide) (by decide) hx (by omega)]
      congr 1; omega
    by_cases h32 : c < 32
    · simp only [if_neg h16, if_pos h32]
      have hx := hex16 ⟨c - 16, by omega⟩
      show oneP (92 :: 117 :: 48 :: 48 :: 49 :: hexd (c - 16) :: r) = _
      unfold oneP
      rw [if_pos (hd_cons ..)]
      show escP _ (117 :: 48 :: 48 :: 49 :: hexd (c - 16) :: r) = _
      unfold escP
      rw [if_pos (hd_cons ..)]
      show unitsP _ (48 :: 48 :: 49 :: hexd (c - 16) :: r) = _
      rw [units_small (w := 0) (x := 0) (y := 1) (z := c - 16) (by decide) (by decide) (by decide) hx (by omega)]
      congr 1; omega
    · simp only [if_neg h16, if_neg h32]
      unfold oneP
      have h92 : c ≠ 92 := by
        rintro rfl
        exact absurd he (by decide)
      rw [if_neg (show ¬ hd _ = 92 from hd_enc_ne hc 92 (by omega) h92 r)]
      have hne : encodeRune (c : Int) ++ r ≠ [] := fun e => enc_ne c (List.append_eq_nil_iff.1 e).1
      have hnr := enc_rune hc r
      rw [if_neg (by rintro (h | h | h); exact hne h; exact hnr h; rw [dec_enc hc] at h; exact h32 h), dec_enc hc, List.drop_left]
theorem printed_hd {c : Nat} (hc : scal c) (r : Bs) : hd (printedR c ++ r) ≠ 34 := by
  unfold printedR
  cases he : escR c with
  | some b => exact fun h => absurd h (show (92 : UInt8) ≠ 34 by decide)
  | none =>
    simp only
    split
    · exact fun h => absurd h (show (92 : UInt8) ≠ 34 by decide)
    split
    · exact fun h => absurd h (show (92 : UInt8) ≠ 34 by decide)
    · refine hd_enc_ne hc 34 (by omega) ?_ r
      rintro rfl
      exact absurd he (by decide)
theorem str_rt : ∀ (cs : List Nat) (n : Nat) (acc r : Bs), (∀ c ∈ cs, scal c) → cs.length < n → strP n (cs.flatMap printedR ++ 34 :: r) acc = some (.ok (acc ++ utfB cs) r)
  | [], n, acc, r, _, hn => by
    obtain ⟨m, rfl⟩ : ∃ m, n = m + 1 := ⟨n - 1, by simp at hn; omega⟩
    show strP (m + 1) (34 :: r) acc = _
    rw [strP, if_pos (hd_cons ..)]
    simp [utfB]
  | c :: cs, n, acc, r, h, hn => by
    obtain ⟨m, rfl⟩ : ∃ m, n = m + 1 := ⟨n - 1, by simp at hn; omega⟩
    have hc := h c (by simp)
    rw [List.flatMap_cons, List.append_assoc, strP, if_neg (printed_hd hc _), one_printed hc]
    show strP m _ _ = _
    rw [str_rt cs m _ r (fun d hd => h d (by simp [hd])) (by simp at hn; omega), utfB, List.append_assoc]
theorem quo_rt {t : Bs} (ht : validD t = true) (r : Bs) : Ev (fun n => quoP n (quoT t ++ r)) (.ok t r) := by
  obtain ⟨cs, h1, rfl⟩ := valid_utf t.length t (Nat.le_refl _) ht
  refine ⟨cs.length + 1, fun n hn => ?_⟩
  unfold quoT quoR
  rw [runesT_utf h1]
  show quoP n (34 :: (cs.flatMap printedR ++ [34] ++ r)) = _
  unfold quoP
  rw [if_pos (hd_cons ..), List.tail_cons, List.append_assoc]
  have := str_rt cs n [] r h1 (by omega)
  simpa using this
theorem quo_hd (t r : Bs) : hd (quoT t ++ r) = 34 := rfl
/-! ### Values -/
theorem stop_gap {g : Bs} (hg : gap g) {r : Bs} (hr : stopN r) : stopN (g ++ r) := by
  cases g with
  | nil => exact hr
  | cons c g =>
    have := hg c (by simp)
    unfold stopN
    rw [List.cons_append, hd_cons]
    unfold isBl at this
    simp only [Bool.or_eq_true, beq_iff_eq] at this
    rcases this with ((h | h) | h) | h <;> subst h <;> decide
theorem stop_cons {c : UInt8} (h : stopN [c]) (r : Bs) : stopN (c :: r) := h
/-- What stands behind a part: another one, or the end. -/
def sepG (g : Bs) (l : List Bs) : Bs := l.flatMap fun x => (g ++ [44] ++ g) ++ x
theorem joinG_cons (g x : Bs) (l : List Bs) : joinG g (x :: l) = x ++ sepG g l := by
  induction l generalizing x with
  | nil => simp [joinG, sepG]
  | cons y l ih =>
    rw [joinG, ih]
    simp [sepG]
theorem dropB_cons {c : UInt8} (h : isBl c = false) (l : Bs) : dropB (c :: l) = c :: l := dropB_hd h
/-- The parts of a list that is written are read. -/
theorem parts_rt {α β : Type} {g : Bs} (hg : gap g) {e : UInt8} (he : e = 93 ∨ e = 125) (step : Nat → α → Bs → Option (Res α)) (tx : β → Bs) (put : α → β → α) (rest : Bs)
    (good : List β → α → Prop) (hgood : ∀ x l a, good (x :: l) a → good l (put a x))
    (hstep : ∀ x l a, good (x :: l) a → ∀ r, stopN r → ∃ q n0, (∀ n U, n0 ≤ n → dropB U = dropB (tx x ++ r) → step n a U = some (.ok (put a x) q)) ∧ dropB q = dropB r) (hhd : ∀ x l a, good (x :: l) a → ∀ r, hd (dropB (tx x ++ r)) ≠ e) :
    ∀ (l : List β) (a : α) (T : Bs) (first : Bool), good l a → (first = false → dropB T = dropB (sepG g (l.map tx) ++ (g ++ [e] ++ g) ++ rest)) →
      (first = true → dropB T = dropB (g ++ joinG g (l.map tx) ++ (g ++ [e] ++ g) ++ rest)) →
      Ev2 (fun n m => partsP e (step n) m first a T) (.ok (l.foldl put a) (g ++ rest)) := by
  have hE : ∀ r, stopN (g ++ [e] ++ r) := by
    intro r
    rw [List.append_assoc]
    refine stop_gap hg (stop_cons ?_ _)
    rcases he with rfl | rfl <;> decide
  have hEb : isBl e = false := by rcases he with rfl | rfl <;> decide
  have hE0 : e ≠ 44 := by rcases he with rfl | rfl <;> decide
  have hS : ∀ (l : List β) (r : Bs), stopN (sepG g (l.map tx) ++ (g ++ [e] ++ g) ++ r) := by
    intro l r
    cases l with
    | nil => rw [List.map_nil]; show stopN ([] ++ (g ++ [e] ++ g) ++ r); rw [List.nil_append, List.append_assoc]; exact hE _
    | cons y l =>
      simp only [sepG, List.map_cons, List.flatMap_cons, List.append_assoc]
      exact stop_gap hg (stop_cons (by decide) _)
  intro l
  induction l with
  | nil =>
    intro a T first _ h1 h2
    have hT : dropB T = e :: (g ++ rest) := by
      have : dropB T = dropB (g ++ ([e] ++ (g ++ rest))) := by
        cases first with
        | false => rw [h1 rfl]; simp [sepG]
        | true => rw [h2 rfl]; simp [joinG, dropB_gap hg]
      rw [this, dropB_gap hg, List.singleton_append, dropB_cons hEb]
    refine ⟨1, fun n m _ hm => ?_⟩
    obtain ⟨k, rfl⟩ : ∃ k, m = k + 1 := ⟨m - 1, by omega⟩
    simp only [partsP]
    rw [hT, hd_cons, if_pos rfl]
    rfl
  | cons x l ih =>
    intro a T first hga h1 h2
    obtain ⟨q, n0, hq1, hq2⟩ := hstep x l a hga (sepG g (l.map tx) ++ (g ++ [e] ++ g) ++ rest) (hS l rest)
    obtain ⟨n1, hn1⟩ := ih (put a x) q false (hgood _ _ _ hga) (fun _ => hq2) (fun h => by cases h)
    refine ⟨n0 + n1 + 1, fun n m hn hm => ?_⟩
    obtain ⟨k, rfl⟩ : ∃ k, m = k + 1 := ⟨m - 1, by omega⟩
    have hs := fun U => hq1 n U (by omega)
    have hrec := hn1 n k (by omega) (by omega)
    simp only [partsP]
    cases first with
    | false =>
      have hT : dropB T = 44 :: (g ++ tx x ++ (sepG g (l.map tx) ++ (g ++ [e] ++ g) ++ rest)) := by
        rw [h1 rfl]
        simp only [sepG, List.map_cons, List.flatMap_cons, List.append_assoc]
        rw [dropB_gap hg, List.cons_append, List.nil_append, dropB_cons (by decide)]
      rw [hT, hd_cons, if_neg (fun h => hE0 h.symm), if_neg (by decide), if_pos rfl, List.tail_cons, hs _ (by rw [List.append_assoc, dropB_gap hg])]
      exact hrec
    | true =>
      have hT : dropB T = dropB (g ++ tx x ++ (sepG g (l.map tx) ++ (g ++ [e] ++ g) ++ rest)) := by
        rw [h2 rfl, List.map_cons, joinG_cons]
        simp only [List.append_assoc]
      have hTe : hd (dropB T) ≠ e := by
        rw [hT, List.append_assoc, dropB_gap hg]
        exact hhd _ _ _ hga _
      rw [if_neg hTe, if_pos rfl, hT, hs _ (by rw [dropB_idem, List.append_assoc, dropB_gap hg])]
      exact hrec

theorem bl_ne {c : UInt8} (h : isBl c = true) : c = 32 ∨ c = 9 ∨ c = 10 ∨ c = 13 := by
  unfold isBl at h
  simp only [Bool.or_eq_true, beq_iff_eq] at h
  rcases h with ((h | h) | h) | h
  · exact .inl h
  · exact .inr (.inl h)
  · exact .inr (.inr (.inl h))
  · exact .inr (.inr (.inr h))
theorem dg_nbl {c : UInt8} (h : isDg c = true) : isBl c = false := by
  cases hb : isBl c with
  | false => rfl
  | true => rcases bl_ne hb with rfl | rfl | rfl | rfl <;> exact absurd h (by decide)
theorem num_start {t x : Bs} (h : numP t = .ok () x) (r : Bs) : isBl (hd (t ++ r)) = false ∧ hd (t ++ r) ≠ 110 ∧ hd (t ++ r) ≠ 102 ∧ hd (t ++ r) ≠ 116 ∧ hd (t ++ r) ≠ 34 ∧ hd (t ++ r) ≠ 91 ∧ hd (t ++ r) ≠ 123 ∧ hd (t ++ r) ≠ 93 ∧ hd (t ++ r) ≠ 125 := by
  rw [hd_app (num_ne h)]
  rcases num_hd h with h | h
  · rw [h]; decide
  · refine ⟨dg_nbl h, ?_, ?_, ?_, ?_, ?_, ?_, ?_, ?_⟩ <;> (intro e; rw [e] at h; exact absurd h (by decide))
theorem may_num {t : Bs} {items : List JV} {keys : List Bs} (h : may (.mk 3 t items keys)) : isNum t ∧ items = [] ∧ keys = [] := by
  rw [may] at h
  rcases h.2 with h | h | h | h | h
  · rcases h.1 with h | h | h <;> exact absurd h (by decide)
  · exact ⟨h.2.1, h.2.2.1, h.2.2.2⟩
  · exact absurd h.1 (by decide)
  · exact absurd h.1 (by decide)
  · exact absurd h.1 (by decide)
theorem may_str {t : Bs} {items : List JV} {keys : List Bs} (h : may (.mk 4 t items keys)) : validD t = true ∧ items = [] ∧ keys = [] := by
  rw [may] at h
  rcases h.2 with h | h | h | h | h
  · rcases h.1 with h | h | h <;> exact absurd h (by decide)
  · exact absurd h.1 (by decide)
  · exact ⟨h.2.1, h.2.2.1, h.2.2.2⟩
  · exact absurd h.1 (by decide)
  · exact absurd h.1 (by decide)
theorem may_list {t : Bs} {items : List JV} {keys : List Bs} (h : may (.mk 5 t items keys)) : mayL items ∧ t = [] ∧ keys = [] := by
  rw [may] at h
  rcases h.2 with h' | h' | h' | h' | h'
  · rcases h'.1 with h | h | h <;> exact absurd h (by decide)
  · exact absurd h'.1 (by decide)
  · exact absurd h'.1 (by decide)
  · exact ⟨h.1, h'.2.1, h'.2.2⟩
  · exact absurd h'.1 (by decide)
theorem may_obj {t : Bs} {items : List JV} {keys : List Bs} (h : may (.mk 6 t items keys)) : mayL items ∧ t = [] ∧ keys.length = items.length ∧ (∀ x ∈ keys, validD x = true) ∧ keys.Nodup := by
  rw [may] at h
  rcases h.2 with h' | h' | h' | h' | h'
  · rcases h'.1 with h | h | h <;> exact absurd h (by decide)
  · exact absurd h'.1 (by decide)
  · exact absurd h'.1 (by decide)
  · exact absurd h'.1 (by decide)
  · exact ⟨h.1, h'.2⟩
theorem may_word {k : Int} {t : Bs} {items : List JV} {keys : List Bs} (h : may (.mk k t items keys)) (h3 : k ≠ 3) (h4 : k ≠ 4) (h5 : k ≠ 5) (h6 : k ≠ 6) : (k = 0 ∨ k = 1 ∨ k = 2) ∧ t = [] ∧ items = [] ∧ keys = [] := by
  rw [may] at h
  rcases h.2 with h' | h' | h' | h' | h'
  · exact h'
  · exact absurd h'.1 h3
  · exact absurd h'.1 h4
  · exact absurd h'.1 h5
  · exact absurd h'.1 h6
theorem mayL_mem : ∀ {l : List JV}, mayL l → ∀ x ∈ l, may x
  | [], _, x, hx => by cases hx
  | y :: l, h, x, hx => by
    rw [mayL] at h
    rcases List.mem_cons.1 hx with rfl | hx
    · exact h.1
    · exact mayL_mem h.2 x hx
theorem deepL_mem : ∀ {l : List JV} {x : JV}, x ∈ l → deep x ≤ deepL l
  | y :: l, x, hx => by
    rw [deepL]
    rcases List.mem_cons.1 hx with rfl | hx
    · exact Nat.le_max_left ..
    · exact Nat.le_trans (deepL_mem hx) (Nat.le_max_right ..)
theorem prL_map (g : Bs) : ∀ l : List JV, prL g l = l.map (prG g)
  | [] => by rw [prL]; rfl
  | x :: l => by rw [prL, prL_map g l]; rfl
/-- What begins a value, behind blanks. -/
theorem pr_start {g : Bs} (hg : gap g) {v : JV} (h : may v) (r : Bs) : hd (dropB (prG g v ++ r)) ≠ 93 ∧ hd (dropB (prG g v ++ r)) ≠ 125 := by
  obtain ⟨k, t, items, keys⟩ := v
  rw [prG]
  by_cases h3 : k = 3
  · subst h3
    obtain ⟨hn, _, _⟩ := may_num h
    obtain ⟨a, _, _, _, _, _, _, b, c⟩ := num_start hn r
    rw [if_pos rfl, dropB_hd a]
    exact ⟨b, c⟩
  by_cases h4 : k = 4
  · subst h4
    rw [if_neg (by decide), if_pos rfl, dropB_hd (by rw [quo_hd]; decide), quo_hd]
    decide
  by_cases h5 : k = 5
  · subst h5
    rw [if_neg (by decide), if_neg (by decide), if_pos rfl]
    simp only [List.append_assoc]
    rw [dropB_gap hg, List.singleton_append, dropB_cons (by decide)]
    simp only [hd_cons]; decide
  by_cases h6 : k = 6
  · subst h6
    rw [if_neg (by decide), if_neg (by decide), if_neg (by decide), if_pos rfl]
    simp only [List.append_assoc]
    rw [dropB_gap hg, List.singleton_append, dropB_cons (by decide)]
    simp only [hd_cons]; decide
  · rw [if_neg h3, if_neg h4, if_neg h5, if_neg h6]
    rcases (may_word h h3 h4 h5 h6).1 with rfl | rfl | rfl
    · show hd (dropB (110 :: ([117, 108, 108] ++ r))) ≠ 93 ∧ hd (dropB (110 :: ([117, 108, 108] ++ r))) ≠ 125
      rw [dropB_cons (by decide)]; simp only [hd_cons]; decide
    · show hd (dropB (102 :: ([97, 108, 115, 101] ++ r))) ≠ 93 ∧ hd (dropB (102 :: ([97, 108, 115, 101] ++ r))) ≠ 125
      rw [dropB_cons (by decide)]; simp only [hd_cons]; decide
    · show hd (dropB (116 :: ([114, 117, 101] ++ r))) ≠ 93 ∧ hd (dropB (116 :: ([114, 117, 101] ++ r))) ≠ 125
      rw [dropB_cons (by decide)]; simp only [hd_cons]; decide
theorem nd_snoc : ∀ {l : List Bs} {x : Bs} {r : List Bs}, (l ++ x :: r).Nodup → x ∉ l := by
  intro l x r h hx
  rw [List.nodup_append] at h
  exact h.2.2 x hx x (by simp) rfl
/-- A key and its value, as they are written, are read. -/
theorem key_rt {g : Bs} (hg : gap g) {k : Bs} (hk : validD k = true) : ∃ n0, ∀ n U (r : Bs) (seen : List Bs), n0 ≤ n → dropB U = quoT k ++ (g ++ [58] ++ g) ++ r → k ∉ seen → keyP n seen U = some (.ok k (g ++ r)) := by
  obtain ⟨cs, h1, rfl⟩ := valid_utf k.length k (Nat.le_refl _) hk
  refine ⟨cs.length + 1, fun n U r seen hn hU hs => ?_⟩
  unfold keyP
  rw [hU]
  have hq : quoP n (quoT (utfB cs) ++ (g ++ [58] ++ g) ++ r) = some (.ok (utfB cs) ((g ++ [58] ++ g) ++ r)) := by
    unfold quoT quoR
    rw [runesT_utf h1]
    show quoP n (34 :: (cs.flatMap printedR ++ [34] ++ (g ++ [58] ++ g) ++ r)) = _
    unfold quoP
    rw [if_pos (hd_cons ..), List.tail_cons]
    have := str_rt cs n [] ((g ++ [58] ++ g) ++ r) h1 (by omega)
    simpa using this
  rw [hq]
  show (if utfB cs ∈ seen then _ else _) = _
  have e : dropB ((g ++ [58] ++ g) ++ r) = 58 :: (g ++ r) := by
    simp only [List.append_assoc]
    rw [dropB_gap hg, List.singleton_append, dropB_cons (by decide)]
  rw [if_neg hs, e, hd_cons, if_pos rfl, List.tail_cons]
theorem valP_drop (n lev : Nat) {a b : Bs} (h : dropB a = dropB b) : valP n lev a = valP n lev b := by
  cases n with
  | zero => rfl
  | succ n => rw [valP, valP, h]
theorem ev_map {α β : Type} (f : α → β) {x : Nat → Option (Res α)} {a : α} {r : Bs} (h : Ev x (.ok a r)) : Ev (fun n => (x n).map (Res.map f)) (.ok (f a) r) := by
  obtain ⟨n0, h⟩ := h
  exact ⟨n0, fun n hn => by show (x n).map _ = _; rw [h n hn]; rfl⟩
theorem foldl_snoc {β : Type} (l : List β) (a : List β) : l.foldl (fun a x => a ++ [x]) a = a ++ l := by
  induction l generalizing a with
  | nil => simp
  | cons x l ih => rw [List.foldl_cons, ih]; simp
theorem ev_val {f : Nat → Option (Res JV)} {lev : Nat} {l : Bs} {x : Res JV} (h : ∀ n, valP (n + 1) lev l = f n) (he : Ev f x) : Ev (fun n => valP n lev l) x := by
  obtain ⟨n0, he⟩ := he
  refine ⟨n0 + 1, fun n hn => ?_⟩
  obtain ⟨m, rfl⟩ : ∃ m, n = m + 1 := ⟨n - 1, by omega⟩
  show valP (m + 1) lev l = _
  rw [h, he m (by omega)]
theorem zip_back {g : Bs} : ∀ (keys : List Bs) (items : List JV), keys.length = items.length → List.zipWith (pairG g) keys (prL g items) = (keys.zip items).map fun p => pairG g p.1 (prG g p.2)
  | [], [], _ => by simp
  | k :: keys, x :: items, h => by
    rw [prL, List.zipWith_cons_cons, zip_back keys items (by simpa using h)]
    rfl
/-- THE ROUND TRIP. -/
theorem val_rt {g : Bs} (hg : gap g) : ∀ (d : Nat) (v : JV), SizeOf.sizeOf v ≤ d → may v → ∀ lev, lev + deep v ≤ 16 → ∀ r, stopN r → ∃ q, Ev (fun n => valP n lev (prG g v ++ r)) (.ok v q) ∧ dropB q = dropB r := by
  intro d
  induction d with
  | zero =>
    intro v hd
    obtain ⟨k, t, items, keys⟩ := v
    simp at hd
  | succ d ih =>
    intro v hs hv lev hlev r hr
    obtain ⟨k, t, items, keys⟩ := v
    have hsub : ∀ x ∈ items, SizeOf.sizeOf x ≤ d := by
      intro x hx
      have := List.sizeOf_lt_of_mem hx
      simp at hs
      omega
    rw [prG]
    by_cases h3 : k = 3
    · subst h3
      obtain ⟨hn, rfl, rfl⟩ := may_num hv
      obtain ⟨a, b1, b2, b3, b4, b5, b6, _, _⟩ := num_start hn r
      refine ⟨r, ev_val (f := fun _ => some (.ok (.mk 3 t [] []) r)) (fun n => ?_) ⟨0, fun _ _ => rfl⟩, rfl⟩
      rw [valP, if_pos rfl, dropB_hd a]
      unfold valB
      rw [if_neg b1, if_neg b2, if_neg b3, if_neg b4, if_neg b5, if_neg b6]
      unfold mkN
      rw [num_app hr hn, List.nil_append]
      simp
    by_cases h4 : k = 4
    · subst h4
      obtain ⟨hn, rfl, rfl⟩ := may_str hv
      refine ⟨r, ev_val (fun n => ?_) (ev_map (fun t => JV.mk 4 t [] []) (quo_rt hn r)), rfl⟩
      rw [valP, if_neg (by decide), if_pos rfl, dropB_hd (by rw [quo_hd]; decide)]
      unfold valB
      rw [quo_hd, if_neg (by decide), if_neg (by decide), if_neg (by decide), if_pos rfl]
    by_cases h5 : k = 5
    · subst h5
      obtain ⟨hm, rfl, rfl⟩ := may_list hv
      have hd5 : deep (JV.mk 5 [] items []) = deepL items + 1 := by rw [deep]; rfl
      rw [hd5] at hlev
      have hP := parts_rt (g := g) hg (e := 93) (.inl rfl) (fun n => stepL (valP n (lev + 1))) (prG g) (fun a x => a ++ [x]) r (fun l _ => ∀ x ∈ l, x ∈ items) (fun x l a h y hy => h y (by simp [hy]))
        (fun x l a hx q hq => by
          have hxi := hx x (by simp)
          obtain ⟨q', ⟨n0, h0⟩, hq'⟩ := ih x (hsub x hxi) (mayL_mem hm x hxi) (lev + 1) (by have := deepL_mem hxi; omega) q hq
          refine ⟨q', n0, fun n U hn hU => ?_, hq'⟩
          show stepL _ _ _ = _
          unfold stepL
          rw [valP_drop n (lev + 1) hU, show valP n (lev + 1) (prG g x ++ q) = _ from h0 n hn])
        (fun x l a hx q => (pr_start hg (mayL_mem hm x (hx x (by simp))) q).1)
        items [] (g ++ joinG g (items.map (prG g)) ++ (g ++ [93] ++ g) ++ r) true (fun x hx => hx) (fun h => by cases h) (fun _ => rfl)
      rw [foldl_snoc, List.nil_append] at hP
      obtain ⟨n0, hP⟩ := hP
      refine ⟨g ++ r, ev_val (fun n => ?_) (ev_map mkL ⟨n0, fun n hn => hP n n hn hn⟩), dropB_gap hg r⟩
      rw [valP, if_neg (by decide), if_neg (by decide), if_pos rfl]
      simp only [List.append_assoc]
      rw [dropB_gap hg, List.singleton_append, dropB_cons (by decide)]
      unfold valB
      rw [hd_cons, if_neg (by decide), if_neg (by decide), if_neg (by decide), if_neg (by decide), if_pos rfl, if_neg (by omega), List.tail_cons, prL_map]
    by_cases h6 : k = 6
    · subst h6
      obtain ⟨hm, rfl, hlen, hkv, hnd⟩ := may_obj hv
      have hd5 : deep (JV.mk 6 [] items keys) = deepL items + 1 := by rw [deep]; rfl
      rw [hd5] at hlev
      have hP := parts_rt (g := g) hg (e := 125) (.inr rfl) (fun n => stepO n (valP n (lev + 1))) (fun p : Bs × JV => pairG g p.1 (prG g p.2)) (fun a x => a ++ [x]) r
        (fun l a => a ++ l = keys.zip items)
        (fun x l a h => by rw [List.append_assoc]; exact h)
        (fun x l a hx q hq => by
          have hxz : x ∈ keys.zip items := by rw [← hx]; simp
          have hx1 := (List.of_mem_zip hxz).1
          have hx2 := (List.of_mem_zip hxz).2
          have hk1 : x.1 ∉ a.map (·.1) := by
            have e : keys = a.map (·.1) ++ x.1 :: l.map (·.1) := by
              have := congrArg (List.map Prod.fst) hx
              rw [List.map_fst_zip (by omega)] at this
              rw [← this]; simp
            rw [e] at hnd
            exact nd_snoc hnd
          obtain ⟨n1, h1⟩ := key_rt hg (hkv _ hx1)
          obtain ⟨q', ⟨n0, h0⟩, hq'⟩ := ih x.2 (hsub _ hx2) (mayL_mem hm _ hx2) (lev + 1) (by have := deepL_mem hx2; omega) q hq
          refine ⟨q', n0 + n1, fun n U hn hU => ?_, hq'⟩
          show stepO _ _ _ _ = _
          unfold stepO
          have hU2 : dropB U = quoT x.1 ++ (g ++ [58] ++ g) ++ (prG g x.2 ++ q) := by
            rw [hU]
            unfold pairG
            simp only [List.append_assoc]
            rw [dropB_hd (by rw [quo_hd]; decide)]
          rw [h1 n U _ _ (by omega) hU2 hk1]
          show (match valP n (lev + 1) (g ++ (prG g x.2 ++ q)) with | none => none | some (.bad k r) => _ | some (.ok x r) => _) = _
          rw [valP_drop n (lev + 1) (dropB_gap hg (prG g x.2 ++ q)), show valP n (lev + 1) (prG g x.2 ++ q) = _ from h0 n (by omega)])
        (fun x l a _ q => by
          show hd (dropB (pairG g x.1 (prG g x.2) ++ q)) ≠ 125
          unfold pairG
          simp only [List.append_assoc]
          rw [dropB_hd (by rw [quo_hd]; decide), quo_hd]
          decide)
        (keys.zip items) [] (g ++ joinG g ((keys.zip items).map fun p => pairG g p.1 (prG g p.2)) ++ (g ++ [125] ++ g) ++ r) true rfl (fun h => by cases h) (fun _ => rfl)
      rw [foldl_snoc, List.nil_append] at hP
      obtain ⟨n0, hP⟩ := hP
      refine ⟨g ++ r, ?_, dropB_gap hg r⟩
      have hmk : mkO (keys.zip items) = JV.mk 6 [] items keys := by
        unfold mkO
        rw [List.map_fst_zip (by omega), List.map_snd_zip (by omega)]
      rw [← hmk]
      refine ev_val (fun n => ?_) (ev_map mkO ⟨n0, fun n hn => hP n n hn hn⟩)
      rw [valP, if_neg (by decide), if_neg (by decide), if_neg (by decide), if_pos rfl]
      simp only [List.append_assoc]
      rw [dropB_gap hg, List.singleton_append, dropB_cons (by decide)]
      unfold valB
      rw [hd_cons, if_neg (by decide), if_neg (by decide), if_neg (by decide), if_neg (by decide), if_neg (by decide), if_pos rfl, if_neg (by omega), List.tail_cons, zip_back keys items hlen]
    · rw [if_neg h3, if_neg h4, if_neg h5, if_neg h6]
      obtain ⟨hk, rfl, rfl, rfl⟩ := may_word hv h3 h4 h5 h6
      refine ⟨r, ev_val (f := fun _ => some (.ok (.mk k [] [] []) r)) (fun n => ?_) ⟨0, fun _ _ => rfl⟩, rfl⟩
      rw [valP]
      rcases hk with rfl | rfl | rfl
      · rw [show wordOf 0 = nullT from rfl, dropB_hd (show isBl (hd (nullT ++ r)) = false from rfl)]
        unfold valB mkW
        rw [if_pos (show hd (nullT ++ r) = 110 from rfl), word_app]
        rfl
      · rw [show wordOf 1 = falseT from rfl, dropB_hd (show isBl (hd (falseT ++ r)) = false from rfl)]
        unfold valB mkW
        rw [if_neg (show ¬ hd (falseT ++ r) = 110 from fun h => absurd h (show ¬ (102 : UInt8) = 110 by decide)), if_pos (show hd (falseT ++ r) = 102 from rfl), word_app]
        rfl
      · rw [show wordOf 2 = trueT from rfl, dropB_hd (show isBl (hd (trueT ++ r)) = false from rfl)]
        unfold valB mkW
        rw [if_neg (show ¬ hd (trueT ++ r) = 110 from fun h => absurd h (show ¬ (116 : UInt8) = 110 by decide)), if_neg (show ¬ hd (trueT ++ r) = 102 from fun h => absurd h (show ¬ (116 : UInt8) = 102 by decide)), if_pos (show hd (trueT ++ r) = 116 from rfl), word_app]
        rfl
/-- All of a text with blanks. -/
theorem all_rt {g : Bs} (hg : gap g) {v : JV} (hv : may v) (hd : deep v ≤ 16) : Ev (fun n => allP n (g ++ prG g v ++ g)) (.ok v []) := by
  have hstop : stopN g := by
    have := stop_gap hg (r := []) (by decide)
    rwa [List.append_nil] at this
  obtain ⟨q, ⟨n0, h0⟩, hq⟩ := val_rt hg _ v (Nat.le_refl _) hv 0 (by omega) g hstop
  refine ⟨n0, fun n hn => ?_⟩
  show allP n _ = _
  unfold allP
  rw [List.append_assoc, valP_drop n 0 (dropB_gap hg _), show valP n 0 (prG g v ++ g) = _ from h0 n hn]
  have : dropB q = [] := by
    rw [hq]
    have := dropB_gap hg []
    rw [List.append_nil] at this
    rw [this]; rfl
  simp only [this, if_true]
end Go.Proofs.YtlknngplnimdpaaGreatDoor
