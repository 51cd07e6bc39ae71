/- Layer 11, plain: of what is cut off nothing is read, but of a number; whatever a text is, it is read, or wrong somewhere; what is too deep is wrong at the bracket that is. -/
import Derived.Test.YtlknngplnimdpaaGreatDoorJsD
namespace Go.Proofs.YtlknngplnimdpaaGreatDoor
open Go.Lib

/-- Wrong, or at the end. -/
def halt {α : Type} (x : Res α) : Prop := (∃ r, x = .bad 10 r) ∨ ∃ a, x = .ok a []
theorem dropD_take {t : Bs} (h : dropD t = []) (k : Nat) : dropD (t.take k) = [] := by
  induction t generalizing k with
  | nil => simp [dropD]
  | cons c t ih =>
    rw [dropD] at h
    split at h
    · rename_i hc
      cases k with
      | zero => rfl
      | succ k => rw [List.take_succ_cons, dropD, if_pos hc]; exact ih h k
    · cases h
theorem dig_cut {t : Bs} (h : dropD t = []) (k : Nat) : halt (digP (t.take k)) := by
  by_cases hne : t.take k = []
  · rw [hne]; exact .inl ⟨[], rfl⟩
  · exact .inr ⟨(), dig_all (dropD_take h k) hne⟩
theorem dig_ok_nil {t : Bs} (h : digP t = .ok () []) : dropD t = [] := by
  unfold digP at h
  split at h
  · cases h
  · rw [Res.ok.injEq] at h; exact h.2
theorem hd_take {l : Bs} {k : Nat} (hk : 0 < k) : hd (l.take k) = hd l := by
  cases l with
  | nil => simp
  | cons c l => obtain ⟨j, rfl⟩ : ∃ j, k = j + 1 := ⟨k - 1, by omega⟩; rfl
theorem tail_take {l : Bs} {k : Nat} : (l.take (k + 1)).tail = l.tail.take k := by
  cases l with
  | nil => simp
  | cons c l => rfl
theorem exp_cut {t : Bs} (h : expP t = .ok () []) (k : Nat) : halt (expP (t.take k)) := by
  cases k with
  | zero => exact .inr ⟨(), rfl⟩
  | succ k =>
    unfold expP at h ⊢
    rw [hd_take (by omega), tail_take]
    split at h
    · rename_i he
      rw [if_pos he]
      split at h
      · rename_i hs
        cases k with
        | zero => exact .inl ⟨[], rfl⟩
        | succ k =>
          rw [hd_take (by omega), if_pos hs, tail_take]
          exact dig_cut (dig_ok_nil h) k
      · rename_i hs
        cases k with
        | zero => exact .inl ⟨[], rfl⟩
        | succ k =>
          rw [hd_take (by omega), if_neg hs]
          exact dig_cut (dig_ok_nil h) (k + 1)
    · rename_i he
      rw [if_neg he]
      rw [Res.ok.injEq] at h
      rw [h.2]
      exact .inr ⟨(), rfl⟩
/-- Digits, and what goes on behind them, cut off. -/
theorem then_cut {t q : Bs} {f : Bs → Res Unit} (hx : digP t = .ok () q) (hf : ∀ k, halt (f (q.take k))) (k : Nat) : halt (match digP (t.take k) with | .bad k r => .bad k r | .ok _ r => f r) := by
  obtain ⟨t1, h1, h2, h3, h4⟩ := dig_pre hx
  rw [h1, List.take_append]
  by_cases hk : k ≤ t1.length
  · have e : q.take (k - t1.length) = [] := by rw [show k - t1.length = 0 by omega]; rfl
    rw [e, List.append_nil]
    rcases dig_cut h2 k with ⟨r, h⟩ | ⟨_, h⟩
    · rw [h]; exact .inl ⟨r, rfl⟩
    · rw [h]
      have := hf 0
      rwa [List.take_zero] at this
  · have e : t1.take k = t1 := List.take_of_length_le (by omega)
    rw [e]
    have hs : isDg (hd (q.take (k - t1.length))) = false := by rw [hd_take (by omega)]; exact h4
    rw [dig_app (r := q.take (k - t1.length)) hs (dig_all h2 h3)]
    exact hf _
theorem frac_cut {t : Bs} (h : fracP t = .ok () []) (k : Nat) : halt (fracP (t.take k)) := by
  cases k with
  | zero => exact .inr ⟨(), rfl⟩
  | succ k =>
    unfold fracP at h ⊢
    rw [hd_take (by omega), tail_take]
    split at h
    · rename_i he
      rw [if_pos he]
      cases hx : digP t.tail with
      | bad k q => rw [hx] at h; cases h
      | ok u q =>
        rw [hx] at h
        exact then_cut hx (fun j => exp_cut h j) k
    · rename_i he
      rw [if_neg he]
      exact exp_cut h (k + 1)
theorem int_cut {t : Bs} (h : intP t = .ok () []) (k : Nat) : halt (intP (t.take k)) := by
  cases k with
  | zero => exact .inl ⟨[], rfl⟩
  | succ k =>
    unfold intP at h ⊢
    rw [hd_take (by omega), tail_take]
    split at h
    · rename_i he
      rw [if_pos he]
      exact frac_cut h k
    · rename_i he
      rw [if_neg he]
      cases hx : digP t with
      | bad k q => rw [hx] at h; cases h
      | ok u q =>
        rw [hx] at h
        exact then_cut hx (fun j => frac_cut h j) (k + 1)
theorem num_cut {t : Bs} (h : numP t = .ok () []) (k : Nat) : halt (numP (t.take k)) := by
  cases k with
  | zero => exact .inl ⟨[], rfl⟩
  | succ k =>
    unfold numP at h ⊢
    rw [hd_take (by omega), tail_take]
    split at h
    · rename_i he
      rw [if_pos he]
      exact int_cut h k
    · rename_i he
      rw [if_neg he]
      exact int_cut h (k + 1)
theorem word_cut : ∀ (w : Bs) (k : Nat), (∀ c ∈ w, c ≠ 0) → k < w.length → wordP w (w.take k) = .bad 10 []
  | [], k, _, h => by simp at h
  | c :: w, 0, hw, _ => by
    rw [List.take_zero, wordP, if_neg (fun h => hw c (by simp) h.symm)]
  | c :: w, k + 1, hw, h => by
    rw [List.take_succ_cons, wordP, if_pos (hd_cons ..)]
    exact word_cut w k (fun d hd => hw d (by simp [hd])) (by simpa using h)
/-! ### Strings -/
theorem one_nil : oneP [] = .bad 10 [] := rfl
theorem low_cut : ∀ d : Fin 16, ∀ e : Fin 2, ∀ k : Fin 5, (match escP (92 :: ([117, 48, 48, if e.val = 0 then 48 else 49, hexd d.val] : Bs).take (k.val + 1)) (([117, 48, 48, if e.val = 0 then 48 else 49, hexd d.val] : Bs).take (k.val + 1)) with | .bad c _ => decide (c = 10) | .ok _ _ => decide (k.val = 4)) = true := by decide
theorem one_esc_cut (d : Nat) (hd4 : d < 16) (e : Nat) (he : e < 2) (k : Nat) (h0 : 0 < k) (hk : k < 6) : ∃ r, oneP ((92 :: [117, 48, 48, if e = 0 then 48 else 49, hexd d]).take k) = .bad 10 r := by
  obtain ⟨j, rfl⟩ : ∃ j, k = j + 1 := ⟨k - 1, by omega⟩
  rw [List.take_succ_cons]
  unfold oneP
  rw [if_pos (hd_cons ..), List.tail_cons]
  cases j with
  | zero => exact ⟨_, rfl⟩
  | succ j =>
    have := low_cut ⟨d, hd4⟩ ⟨e, he⟩ ⟨j, by omega⟩
    generalize hx : escP (92 :: ([117, 48, 48, if e = 0 then 48 else 49, hexd d] : Bs).take (j + 1)) (([117, 48, 48, if e = 0 then 48 else 49, hexd d] : Bs).take (j + 1)) = x at this ⊢
    cases x with
    | ok a r => simp at this; omega
    | bad code r =>
      simp only [decide_eq_true_eq] at this
      subst this
      exact ⟨r, rfl⟩
theorem one_cut {c : Nat} (hc : scal c) (k : Nat) (h0 : 0 < k) (hk : k < (printedR c).length) : ∃ r, oneP ((printedR c).take k) = .bad 10 r := by
  unfold printedR at hk ⊢
  cases he : escR c with
  | some b =>
    rw [he] at hk
    obtain rfl : k = 1 := by simp at hk; omega
    exact ⟨[], rfl⟩
  | none =>
    rw [he] at hk
    simp only at hk ⊢
    by_cases h16 : c < 16
    · rw [if_pos h16] at hk ⊢
      exact one_esc_cut c h16 0 (by omega) k h0 (by simpa using hk)
    by_cases h32 : c < 32
    · rw [if_neg h16, if_pos h32] at hk ⊢
      exact one_esc_cut (c - 16) (by omega) 1 (by omega) k h0 (by simpa using hk)
    · rw [if_neg h16, if_neg h32] at hk ⊢
      have h92 : c ≠ 92 := by
        rintro rfl
        exact absurd he (by decide)
      have := hd_enc_ne hc 92 (by omega) h92 []
      rw [List.append_nil] at this
      unfold oneP
      rw [hd_take h0, if_neg (show ¬ hd _ = 92 from this), if_pos (.inr (.inl (dec_cut hc k h0 hk)))]
      exact ⟨_, rfl⟩
theorem str_cut : ∀ (cs : List Nat) (n k : Nat) (acc : Bs), (∀ c ∈ cs, scal c) → cs.length < n → k < (cs.flatMap printedR ++ [34]).length → ∃ r, strP n ((cs.flatMap printedR ++ [34]).take k) acc = some (.bad 10 r)
  | [], n, k, acc, _, hn, hk => by
    obtain ⟨m, rfl⟩ : ∃ m, n = m + 1 := ⟨n - 1, by simp at hn; omega⟩
    obtain rfl : k = 0 := by simp at hk; omega
    exact ⟨[], rfl⟩
  | c :: cs, n, k, acc, h, hn, hk => by
    obtain ⟨m, rfl⟩ : ∃ m, n = m + 1 := ⟨n - 1, by simp at hn; omega⟩
    have hc := h c (by simp)
    rw [List.flatMap_cons, List.append_assoc] at hk ⊢
    by_cases h0 : k = 0
    · subst h0; exact ⟨[], rfl⟩
    by_cases hlt : k < (printedR c).length
    · rw [List.take_append_of_le_length (by omega), strP]
      have h34 := printed_hd hc []
      rw [List.append_nil] at h34
      rw [hd_take (by omega), if_neg h34]
      obtain ⟨r, hr⟩ := one_cut hc k (by omega) hlt
      rw [hr]
      exact ⟨r, rfl⟩
    · rw [List.take_append, List.take_of_length_le (by omega), strP, if_neg (printed_hd hc _), one_printed hc]
      rw [List.length_append] at hk
      exact str_cut cs m (k - (printedR c).length) _ (fun d hd => h d (by simp [hd])) (by simp at hn; omega) (by omega)
theorem quo_cut {t : Bs} (ht : validD t = true) : ∃ n0, ∀ n k, n0 ≤ n → k < (quoT t).length → ∃ r, quoP n ((quoT t).take k) = some (.bad 10 r) := by
  obtain ⟨cs, h1, rfl⟩ := valid_utf t.length t (Nat.le_refl _) ht
  refine ⟨cs.length + 1, fun n k hn hk => ?_⟩
  unfold quoT quoR at hk ⊢
  rw [runesT_utf h1] at hk ⊢
  cases k with
  | zero => exact ⟨[], rfl⟩
  | succ k =>
    rw [List.take_succ_cons]
    unfold quoP
    rw [if_pos (hd_cons ..), List.tail_cons]
    exact str_cut cs n k [] h1 (by omega) (by simpa using hk)

/-! ### Values -/
theorem mkN_nil : mkN [] = .bad 10 [] := rfl
theorem val_nil (n lev : Nat) : valP (n + 1) lev [] = some (.bad 10 []) := rfl
theorem key_nil (n : Nat) (seen : List Bs) : keyP n seen [] = some (.bad 10 []) := rfl
theorem take_len {x r : Bs} {k : Nat} (h : x.length ≤ k) : (x ++ r).take k = x ++ r.take (k - x.length) := by
  rw [List.take_append, List.take_of_length_le h]
/-- The parts of a list that is cut off are none. -/
theorem parts_cut {α β : Type} {e : UInt8} (he : e = 93 ∨ e = 125) (step : Nat → α → Bs → Option (Res α)) (tx : β → Bs) (put : α → β → α)
    (good : List β → α → Prop) (hgood : ∀ x l a, good (x :: l) a → good l (put a x))
    (hstep : ∀ x l a, good (x :: l) a → ∀ r, stopN r → ∃ q n0, (∀ n U, n0 ≤ n → dropB U = dropB (tx x ++ r) → step n a U = some (.ok (put a x) q)) ∧ dropB q = dropB r)
    (hcut : ∀ x l a, good (x :: l) a → ∀ k, k < (tx x).length → ∃ n0, ∀ n, n0 ≤ n → ∃ R, step n a ((tx x).take k) = some R ∧ halt R)
    (hnb : ∀ x l a, good (x :: l) a → ∀ r, dropB (tx x ++ r) = tx x ++ r) (hnt : ∀ x l a, good (x :: l) a → hd (tx x) ≠ e) (hempty : ∀ n a, 0 < n → ∃ r, step n a [] = some (.bad 10 r)) :
    ∀ (l : List β) (a : α) (T : Bs) (first : Bool) (k : Nat), good l a →
      (first = false → k < (sepG [] (l.map tx) ++ [e]).length ∧ dropB T = (sepG [] (l.map tx) ++ [e]).take k) →
      (first = true → k < (joinG [] (l.map tx) ++ [e]).length ∧ T = (joinG [] (l.map tx) ++ [e]).take k) →
      ∃ n0, ∀ n m, n0 ≤ n → n0 ≤ m → ∃ r, partsP e (step n) m first a T = some (.bad 10 r) := by
  have hE0 : e ≠ 44 := by rcases he with rfl | rfl <;> decide
  have hEz : (0 : UInt8) ≠ e := by rcases he with rfl | rfl <;> decide
  have hEb : isBl e = false := by rcases he with rfl | rfl <;> decide
  have hEs : stopN [e] := by rcases he with rfl | rfl <;> decide
  -- nothing is left
  have hend : ∀ (a : α) (T : Bs) (first : Bool), dropB T = [] → ∀ n m, 1 ≤ n → 1 ≤ m → ∃ r, partsP e (step n) m first a T = some (.bad 10 r) := by
    intro a T first hT n m hn hm
    obtain ⟨j, rfl⟩ : ∃ j, m = j + 1 := ⟨m - 1, by omega⟩
    rw [partsP, hT, if_neg (show ¬ hd [] = e from hEz)]
    cases first with
    | true =>
      obtain ⟨r, hr⟩ := hempty n a (by omega)
      rw [if_pos rfl, hr]
      exact ⟨r, rfl⟩
    | false =>
      rw [if_neg (by decide), if_neg (by decide)]
      exact ⟨_, rfl⟩
  have hSk : ∀ (l : List β) (k : Nat), stopN ((sepG [] (l.map tx) ++ [e]).take k) := by
    intro l k
    cases k with
    | zero => rw [List.take_zero]; decide
    | succ k =>
      cases l with
      | nil => exact hEs
      | cons y l => exact stop_cons (c := 44) (by decide) _
  have hSd : ∀ (l : List β) (k : Nat), dropB ((sepG [] (l.map tx) ++ [e]).take k) = (sepG [] (l.map tx) ++ [e]).take k := by
    intro l k
    refine dropB_hd ?_
    cases k with
    | zero => rfl
    | succ k =>
      cases l with
      | nil => exact hEb
      | cons y l => rfl
  intro l
  induction l with
  | nil =>
    intro a T first k _ h1 h2
    refine ⟨1, fun n m hn hm => hend a T first ?_ n m hn hm⟩
    cases first with
    | false =>
      obtain ⟨hk, hT⟩ := h1 rfl
      obtain rfl : k = 0 := by simp [sepG] at hk; omega
      rw [hT]; rfl
    | true =>
      obtain ⟨hk, hT⟩ := h2 rfl
      obtain rfl : k = 0 := by simp [joinG] at hk; omega
      rw [hT]; rfl
  | cons x l ih =>
    intro a T first k hga h1 h2
    -- the part itself, cut off or whole
    have part : ∀ j, j < (tx x ++ (sepG [] (l.map tx) ++ [e])).length → ∃ n0, ∀ n m, n0 ≤ n → n0 ≤ m → ∃ r, (match step n a ((tx x ++ (sepG [] (l.map tx) ++ [e])).take j) with | none => none | some (.bad k r) => some (.bad k r) | some (.ok a r) => partsP e (step n) m false a r) = some (.bad 10 r) := by
      intro j hj
      by_cases hlt : j < (tx x).length
      · obtain ⟨n0, h0⟩ := hcut x l a hga j hlt
        refine ⟨n0 + 1, fun n m hn hm => ?_⟩
        obtain ⟨R, hR, hh⟩ := h0 n (by omega)
        rw [List.take_append_of_le_length (by omega), hR]
        rcases hh with ⟨r, rfl⟩ | ⟨b, rfl⟩
        · exact ⟨r, rfl⟩
        · exact hend b [] false rfl n m (by omega) (by omega)
      · obtain ⟨q, n0, hq1, hq2⟩ := hstep x l a hga ((sepG [] (l.map tx) ++ [e]).take (j - (tx x).length)) (hSk l _)
        obtain ⟨n1, hn1⟩ := ih (put a x) q false (j - (tx x).length) (hgood _ _ _ hga) (fun _ => ⟨by rw [List.length_append] at hj; omega, by rw [hq2, hSd]⟩) (fun h => by cases h)
        refine ⟨n0 + n1, fun n m hn hm => ?_⟩
        rw [take_len (by omega), hq1 n _ (by omega) rfl]
        exact hn1 n m (by omega) (by omega)
    cases first with
    | false =>
      obtain ⟨hk, hT⟩ := h1 rfl
      cases k with
      | zero => exact ⟨1, fun n m hn hm => hend a T false (by rw [hT]; rfl) n m hn hm⟩
      | succ k =>
        have hT2 : dropB T = 44 :: (tx x ++ (sepG [] (l.map tx) ++ [e])).take k := by
          rw [hT]
          simp [sepG]
        obtain ⟨n0, h0⟩ := part k (by simp [sepG] at hk ⊢; omega)
        refine ⟨n0 + 1, fun n m hn hm => ?_⟩
        obtain ⟨j, rfl⟩ : ∃ j, m = j + 1 := ⟨m - 1, by omega⟩
        rw [partsP, hT2, hd_cons, if_neg (fun h => hE0 h.symm), if_neg (by decide), if_pos rfl, List.tail_cons]
        exact h0 n j (by omega) (by omega)
    | true =>
      obtain ⟨hk, hT⟩ := h2 rfl
      rw [List.map_cons, joinG_cons, List.append_assoc] at hk hT
      by_cases hk0 : k = 0
      · subst hk0
        exact ⟨1, fun n m hn hm => hend a T true (by rw [hT]; rfl) n m hn hm⟩
      obtain ⟨n0, h0⟩ := part k hk
      refine ⟨n0 + 1, fun n m hn hm => ?_⟩
      obtain ⟨j, rfl⟩ : ∃ j, m = j + 1 := ⟨m - 1, by omega⟩
      have hTd : dropB T = T := by
        have e0 : isBl (hd (tx x ++ (sepG [] (l.map tx) ++ [e]))) = false := by
          cases hb : isBl (hd (tx x ++ (sepG [] (l.map tx) ++ [e]))) with
          | false => rfl
          | true =>
            have hz := hnb x l a hga (sepG [] (l.map tx) ++ [e])
            generalize tx x ++ (sepG [] (l.map tx) ++ [e]) = z at hb hz
            cases z with
            | nil => exact absurd hb (by decide)
            | cons c z =>
              rw [hd_cons] at hb
              rw [dropB, if_pos hb] at hz
              have := dropB_le z
              rw [hz] at this
              simp at this
              omega
        refine dropB_hd ?_
        rw [hT, hd_take (by omega)]
        exact e0
      have hne : hd T ≠ e := by
        rw [hT, hd_take (by omega)]
        by_cases hx0 : tx x = []
        · obtain ⟨q, n0, hq1, _⟩ := hstep x l a hga [] (by decide)
          obtain ⟨r, hr⟩ := hempty (n0 + 1) a (by omega)
          have := hq1 (n0 + 1) [] (by omega) (by rw [hx0]; rfl)
          rw [hr] at this
          cases this
        · rw [hd_app hx0]; exact hnt x l a hga
      rw [partsP, hTd, if_neg hne, if_pos rfl, hT]
      exact h0 n j (by omega) (by omega)

theorem gap_nil : gap [] := fun _ h => by cases h
theorem ev2_bad {α : Type} {f : Nat → Nat → Option (Res α)} {n0 : Nat} (h : ∀ n m, n0 ≤ n → n0 ≤ m → ∃ r, f n m = some (.bad 10 r)) (n : Nat) (hn : n0 ≤ n) : ∃ r, f n n = some (.bad 10 r) := h n n hn hn
theorem sep_map {α β : Type} (f : α → Bs) (l : List α) (tx : β → Bs) (g : α → β) (h : ∀ a, f a = tx (g a)) : l.map f = (l.map g).map tx := by
  rw [List.map_map]
  exact List.map_congr_left fun a _ => h a
theorem pr_nb {v : JV} (h : may v) (r : Bs) : isBl (hd (prG [] v ++ r)) = false := by
  obtain ⟨k, t, items, keys⟩ := v
  rw [prG]
  by_cases h3 : k = 3
  · subst h3
    rw [if_pos rfl]
    exact (num_start (may_num h).1 r).1
  by_cases h4 : k = 4
  · subst h4
    rw [if_neg (by decide), if_pos rfl, quo_hd]; rfl
  by_cases h5 : k = 5
  · subst h5
    rw [if_neg (by decide), if_neg (by decide), if_pos rfl]; rfl
  by_cases h6 : k = 6
  · subst h6
    rw [if_neg (by decide), if_neg (by decide), if_neg (by decide), if_pos rfl]; rfl
  · rw [if_neg h3, if_neg h4, if_neg h5, if_neg h6]
    rcases (may_word h h3 h4 h5 h6).1 with rfl | rfl | rfl <;> rfl
theorem pr_ne {v : JV} (h : may v) : prG [] v ≠ [] := by
  obtain ⟨k, t, items, keys⟩ := v
  rw [prG]
  by_cases h3 : k = 3
  · subst h3
    rw [if_pos rfl]
    exact num_ne (may_num h).1
  by_cases h4 : k = 4
  · subst h4
    rw [if_neg (by decide), if_pos rfl]
    exact fun h => by cases h
  by_cases h5 : k = 5
  · subst h5
    rw [if_neg (by decide), if_neg (by decide), if_pos rfl]
    exact fun h => by cases h
  by_cases h6 : k = 6
  · subst h6
    rw [if_neg (by decide), if_neg (by decide), if_neg (by decide), if_pos rfl]
    exact fun h => by cases h
  · rw [if_neg h3, if_neg h4, if_neg h5, if_neg h6]
    rcases (may_word h h3 h4 h5 h6).1 with rfl | rfl | rfl <;> exact fun h => by cases h
/-- OF A VALUE'S TEXT THAT IS CUT OFF NOTHING IS READ, but of a number. -/
theorem val_cut : ∀ (d : Nat) (v : JV), SizeOf.sizeOf v ≤ d → may v → ∀ lev, lev + deep v ≤ 16 → ∀ k, k < (prG [] v).length →
    ∃ n0, ∀ n, n0 ≤ n → ∃ R, valP n lev ((prG [] v).take k) = some R ∧ halt R ∧ (v.kind ≠ 3 → ∃ r, R = .bad 10 r) := by
  intro d
  induction d with
  | zero =>
    intro v hd
    obtain ⟨k, t, items, keys⟩ := v
    simp at hd
  | succ d ih =>
    intro v hs hv lev hlev k hk
    have hnb := pr_nb hv []
    rw [List.append_nil] at hnb
    by_cases hk0 : k = 0
    · subst hk0
      refine ⟨1, fun n hn => ⟨.bad 10 [], ?_, .inl ⟨_, rfl⟩, fun _ => ⟨_, rfl⟩⟩⟩
      obtain ⟨m, rfl⟩ : ∃ m, n = m + 1 := ⟨n - 1, by omega⟩
      rfl
    have hdr : dropB ((prG [] v).take k) = (prG [] v).take k := dropB_hd (by rw [hd_take (by omega)]; exact hnb)
    have hhd : hd ((prG [] v).take k) = hd (prG [] v) := hd_take (by omega)
    obtain ⟨kd, t, items, keys⟩ := v
    have hsub : ∀ x ∈ items, SizeOf.sizeOf x ≤ d := by
      intro x hx
      have := List.sizeOf_lt_of_mem hx
      simp at hs
      omega
    by_cases h3 : kd = 3
    · subst h3
      obtain ⟨hn, rfl, rfl⟩ := may_num hv
      have e : prG [] (JV.mk 3 t [] []) = t := by rw [prG, if_pos rfl]
      rw [e] at hk hdr hhd ⊢
      obtain ⟨_, b1, b2, b3, b4, b5, b6, _, _⟩ := num_start hn []
      rw [List.append_nil] at b1 b2 b3 b4 b5 b6
      refine ⟨1, fun n hn' => ⟨mkN (t.take k), ?_, ?_, fun h => absurd rfl h⟩⟩
      · obtain ⟨m, rfl⟩ : ∃ m, n = m + 1 := ⟨n - 1, by omega⟩
        rw [valP, hdr]
        unfold valB
        rw [hhd, if_neg b1, if_neg b2, if_neg b3, if_neg b4, if_neg b5, if_neg b6]
      · unfold mkN
        rcases num_cut hn k with ⟨r, h⟩ | ⟨a, h⟩
        · rw [h]; exact .inl ⟨r, rfl⟩
        · rw [h]; exact .inr ⟨_, rfl⟩
    by_cases h4 : kd = 4
    · subst h4
      obtain ⟨hn, rfl, rfl⟩ := may_str hv
      have e : prG [] (JV.mk 4 t [] []) = quoT t := by rw [prG, if_neg (by decide), if_pos rfl]
      rw [e] at hk hdr hhd ⊢
      obtain ⟨n0, h0⟩ := quo_cut hn
      refine ⟨n0 + 1, fun n hn' => ?_⟩
      obtain ⟨m, rfl⟩ : ∃ m, n = m + 1 := ⟨n - 1, by omega⟩
      obtain ⟨r, hr⟩ := h0 m k (by omega) hk
      refine ⟨.bad 10 r, ?_, .inl ⟨r, rfl⟩, fun _ => ⟨r, rfl⟩⟩
      rw [valP, hdr]
      unfold valB
      rw [hhd, show hd (quoT t) = 34 from rfl, if_neg (by decide), if_neg (by decide), if_neg (by decide), if_pos rfl, hr]
      rfl
    by_cases h5 : kd = 5
    · subst h5
      obtain ⟨hm, rfl, rfl⟩ := may_list hv
      have hd5 : deep (JV.mk 5 [] items []) = deepL items + 1 := by rw [deep]; rfl
      rw [hd5] at hlev
      have e : prG [] (JV.mk 5 [] items []) = 91 :: (joinG [] (items.map (prG [])) ++ [93]) := by
        rw [prG, if_neg (by decide), if_neg (by decide), if_pos rfl, prL_map]; simp
      rw [e] at hk hdr hhd ⊢
      obtain ⟨j, rfl⟩ : ∃ j, k = j + 1 := ⟨k - 1, by omega⟩
      obtain ⟨n0, h0⟩ := parts_cut (e := 93) (.inl rfl) (fun n => stepL (valP n (lev + 1))) (prG []) (fun a x => a ++ [x]) (fun l _ => ∀ x ∈ l, x ∈ items) (fun x l a h y hy => h y (by simp [hy]))
        (fun x l a hx q hq => by
          have hxi := hx x (by simp)
          obtain ⟨q', ⟨n0, h0⟩, hq'⟩ := val_rt gap_nil _ x (Nat.le_refl _) (mayL_mem hm x hxi) (lev + 1) (by have := deepL_mem hxi; omega) q hq
          refine ⟨q', n0, fun n U hn hU => ?_, hq'⟩
          show stepL _ _ _ = _
          unfold stepL
          rw [valP_drop n (lev + 1) hU, show valP n (lev + 1) (prG [] x ++ q) = _ from h0 n hn])
        (fun x l a hx j hj => by
          have hxi := hx x (by simp)
          obtain ⟨n0, h0⟩ := ih x (hsub x hxi) (mayL_mem hm x hxi) (lev + 1) (by have := deepL_mem hxi; omega) j hj
          refine ⟨n0, fun n hn => ?_⟩
          obtain ⟨R, hR, hh, _⟩ := h0 n hn
          show ∃ R, stepL _ _ _ = some R ∧ _
          unfold stepL
          rw [hR]
          rcases hh with ⟨r, rfl⟩ | ⟨b, rfl⟩
          · exact ⟨_, rfl, .inl ⟨r, rfl⟩⟩
          · exact ⟨_, rfl, .inr ⟨_, rfl⟩⟩)
        (fun x l a hx r => dropB_hd (pr_nb (mayL_mem hm x (hx x (by simp))) r))
        (fun x l a hx => by
          have hmx := mayL_mem hm x (hx x (by simp))
          have := (pr_start gap_nil hmx []).1
          rwa [dropB_hd (pr_nb hmx []), List.append_nil] at this)
        (fun n a hn => by
          obtain ⟨m, rfl⟩ : ∃ m, n = m + 1 := ⟨n - 1, by omega⟩
          exact ⟨[], rfl⟩)
        items [] ((joinG [] (items.map (prG [])) ++ [93]).take j) true j (fun x hx => hx) (fun h => by cases h) (fun _ => ⟨by simpa using hk, rfl⟩)
      refine ⟨n0 + 1, fun n hn' => ?_⟩
      obtain ⟨m, rfl⟩ : ∃ m, n = m + 1 := ⟨n - 1, by omega⟩
      obtain ⟨r, hr⟩ := h0 m m (by omega) (by omega)
      refine ⟨.bad 10 r, ?_, .inl ⟨r, rfl⟩, fun _ => ⟨r, rfl⟩⟩
      rw [valP, hdr, List.take_succ_cons]
      unfold valB
      rw [hd_cons, if_neg (by decide), if_neg (by decide), if_neg (by decide), if_neg (by decide), if_pos rfl, if_neg (by omega), List.tail_cons, hr]
      rfl
    by_cases h6 : kd = 6
    · subst h6
      obtain ⟨hm, rfl, hlen, hkv, hnd⟩ := may_obj hv
      have hd5 : deep (JV.mk 6 [] items keys) = deepL items + 1 := by rw [deep]; rfl
      rw [hd5] at hlev
      have e : prG [] (JV.mk 6 [] items keys) = 123 :: (joinG [] ((keys.zip items).map fun p => pairG [] p.1 (prG [] p.2)) ++ [125]) := by
        rw [prG, if_neg (by decide), if_neg (by decide), if_neg (by decide), if_pos rfl, zip_back keys items hlen]; simp
      rw [e] at hk hdr hhd ⊢
      obtain ⟨j, rfl⟩ : ∃ j, k = j + 1 := ⟨k - 1, by omega⟩
      have mem : ∀ (x : Bs × JV) (l a : List (Bs × JV)), a ++ x :: l = keys.zip items → x.1 ∈ keys ∧ x.2 ∈ items ∧ x.1 ∉ a.map (·.1) := by
        intro x l a hx
        have hxz : x ∈ keys.zip items := by rw [← hx]; simp
        refine ⟨(List.of_mem_zip hxz).1, (List.of_mem_zip hxz).2, ?_⟩
        have e : keys = a.map (·.1) ++ x.1 :: l.map (·.1) := by
          have := congrArg (List.map Prod.fst) hx
          rw [List.map_fst_zip (by omega)] at this
          rw [← this]; simp
        rw [e] at hnd
        exact nd_snoc hnd
      have hkey : ∀ (k : Bs) (n : Nat) (r : Bs) (seen : List Bs), k ∈ keys → k ∉ seen → ∃ n0, ∀ n, n0 ≤ n → ∀ U, dropB U = quoT k ++ ([58] ++ r) → keyP n seen U = some (.ok k r) := by
        intro k _ r seen hk hs
        obtain ⟨n1, h1⟩ := key_rt gap_nil (hkv _ hk)
        exact ⟨n1, fun n hn U hU => h1 n U r seen hn (by rw [hU]; simp) hs⟩
      obtain ⟨n0, h0⟩ := parts_cut (e := 125) (.inr rfl) (fun n => stepO n (valP n (lev + 1))) (fun p : Bs × JV => pairG [] p.1 (prG [] p.2)) (fun a x => a ++ [x]) (fun l a => a ++ l = keys.zip items)
        (fun x l a h => by rw [List.append_assoc]; exact h)
        (fun x l a hx q hq => by
          obtain ⟨hx1, hx2, hk1⟩ := mem x l a hx
          obtain ⟨n1, h1⟩ := key_rt gap_nil (hkv _ hx1)
          obtain ⟨q', ⟨n0, h0⟩, hq'⟩ := val_rt gap_nil _ x.2 (Nat.le_refl _) (mayL_mem hm _ hx2) (lev + 1) (by have := deepL_mem hx2; omega) q hq
          refine ⟨q', n0 + n1, fun n U hn hU => ?_, hq'⟩
          show stepO _ _ _ _ = _
          unfold stepO
          have hU2 : dropB U = quoT x.1 ++ ([] ++ [58] ++ []) ++ (prG [] x.2 ++ q) := by
            rw [hU]
            unfold pairG
            simp only [List.append_assoc]
            rw [dropB_hd (by rw [quo_hd]; decide)]
          rw [h1 n U _ _ (by omega) hU2 hk1]
          dsimp only
          rw [List.nil_append, show valP n (lev + 1) (prG [] x.2 ++ q) = _ from h0 n (by omega)])
        (fun x l a hx j hj => by
          obtain ⟨hx1, hx2, hk1⟩ := mem x l a hx
          have ep : pairG [] x.1 (prG [] x.2) = quoT x.1 ++ (58 :: prG [] x.2) := by unfold pairG; simp
          have bad : ∀ n r, keyP n (a.map (·.1)) ((pairG [] x.1 (prG [] x.2)).take j) = some (.bad 10 r) → ∃ R, stepO n (valP n (lev + 1)) a ((pairG [] x.1 (prG [] x.2)).take j) = some R ∧ halt R := by
            intro n r h
            unfold stepO
            rw [h]
            exact ⟨_, rfl, .inl ⟨r, rfl⟩⟩
          by_cases hlt : j < (quoT x.1).length
          · obtain ⟨n0, h0⟩ := quo_cut (hkv _ hx1)
            refine ⟨n0, fun n hn => ?_⟩
            obtain ⟨r, hr⟩ := h0 n j hn hlt
            refine bad n r ?_
            unfold keyP
            rw [ep, List.take_append_of_le_length (by omega)]
            by_cases hj0 : j = 0
            · subst hj0
              rw [List.take_zero] at hr ⊢
              rw [show dropB [] = [] from rfl, hr]
            · rw [dropB_hd (by rw [hd_take (by omega)]; rfl), hr]
          · have hq0 : ∃ n0, ∀ n, n0 ≤ n → ∀ r, quoP n (quoT x.1 ++ r) = some (.ok x.1 r) := by
              obtain ⟨cs, hc1, hc2⟩ := valid_utf x.1.length x.1 (Nat.le_refl _) (hkv _ hx1)
              refine ⟨cs.length + 1, fun n hn r => ?_⟩
              rw [hc2]
              unfold quoT quoR
              rw [runesT_utf hc1]
              show quoP n (34 :: (cs.flatMap printedR ++ [34] ++ r)) = _
              unfold quoP
              rw [if_pos (hd_cons ..), List.tail_cons, List.append_assoc]
              have := str_rt cs n [] r hc1 (by omega)
              simpa using this
            obtain ⟨n0, h0⟩ := hq0
            rw [ep] at hj
            by_cases hj1 : j = (quoT x.1).length
            · refine ⟨n0, fun n hn => bad n [] ?_⟩
              unfold keyP
              rw [ep, hj1, List.take_left]
              have := h0 n hn []
              rw [List.append_nil] at this
              rw [dropB_hd (by rfl), this]
              show (if x.1 ∈ _ then _ else _) = _
              rw [if_neg hk1]
              rfl
            · obtain ⟨i, hi⟩ : ∃ i, j - (quoT x.1).length = i + 1 := ⟨j - (quoT x.1).length - 1, by omega⟩
              have hil : i < (prG [] x.2).length := by simp at hj; omega
              obtain ⟨n1, h1⟩ := ih x.2 (hsub _ hx2) (mayL_mem hm _ hx2) (lev + 1) (by have := deepL_mem hx2; omega) i hil
              refine ⟨n0 + n1, fun n hn => ?_⟩
              obtain ⟨R, hR, hh, _⟩ := h1 n (by omega)
              have hkey2 : keyP n (a.map (·.1)) ((pairG [] x.1 (prG [] x.2)).take j) = some (.ok x.1 ((prG [] x.2).take i)) := by
                unfold keyP
                rw [ep, take_len (by omega), hi, List.take_succ_cons, dropB_hd (by rfl), h0 n (by omega)]
                show (if x.1 ∈ _ then _ else _) = _
                rw [if_neg hk1, dropB_cons (by decide), hd_cons, if_pos rfl, List.tail_cons]
              show ∃ R, stepO _ _ _ _ = some R ∧ _
              unfold stepO
              rw [hkey2]
              dsimp only
              rw [hR]
              rcases hh with ⟨r, rfl⟩ | ⟨b, rfl⟩
              · exact ⟨_, rfl, .inl ⟨r, rfl⟩⟩
              · exact ⟨_, rfl, .inr ⟨_, rfl⟩⟩)
        (fun x l a _ r => by unfold pairG; simp only [List.append_assoc]; exact dropB_hd (by rw [quo_hd]; decide))
        (fun x l a _ => by
          show hd (quoT x.1 ++ ([] ++ [58] ++ []) ++ prG [] x.2) ≠ 125
          rw [List.append_assoc, quo_hd]; decide)
        (fun n a hn => ⟨[], rfl⟩)
        (keys.zip items) [] ((joinG [] ((keys.zip items).map fun p : Bs × JV => pairG [] p.1 (prG [] p.2)) ++ [125]).take j) true j rfl (fun h => by cases h) (fun _ => ⟨by simpa using hk, rfl⟩)
      refine ⟨n0 + 1, fun n hn' => ?_⟩
      obtain ⟨m, rfl⟩ : ∃ m, n = m + 1 := ⟨n - 1, by omega⟩
      obtain ⟨r, hr⟩ := h0 m m (by omega) (by omega)
      refine ⟨.bad 10 r, ?_, .inl ⟨r, rfl⟩, fun _ => ⟨r, rfl⟩⟩
      rw [valP, hdr, List.take_succ_cons]
      unfold valB
      rw [hd_cons, if_neg (by decide), if_neg (by decide), if_neg (by decide), if_neg (by decide), if_neg (by decide), if_pos rfl, if_neg (by omega), List.tail_cons, hr]
      rfl
    · obtain ⟨hkk, rfl, rfl, rfl⟩ := may_word hv h3 h4 h5 h6
      have e : prG [] (JV.mk kd [] [] []) = wordOf kd := by rw [prG, if_neg h3, if_neg h4, if_neg h5, if_neg h6]
      rw [e] at hk hdr hhd ⊢
      refine ⟨1, fun n hn' => ?_⟩
      obtain ⟨m, rfl⟩ : ∃ m, n = m + 1 := ⟨n - 1, by omega⟩
      refine ⟨.bad 10 [], ?_, .inl ⟨_, rfl⟩, fun _ => ⟨_, rfl⟩⟩
      rw [valP, hdr]
      unfold valB mkW
      rw [hhd]
      rcases hkk with rfl | rfl | rfl
      · rw [if_pos (show hd (wordOf 0) = 110 from rfl), show wordOf 0 = nullT from rfl, word_cut nullT k (by decide) hk]; rfl
      · rw [if_neg (show ¬ hd (wordOf 1) = 110 from by decide), if_pos (show hd (wordOf 1) = 102 from rfl), show wordOf 1 = falseT from rfl, word_cut falseT k (by decide) hk]; rfl
      · rw [if_neg (show ¬ hd (wordOf 2) = 110 from by decide), if_neg (show ¬ hd (wordOf 2) = 102 from by decide), if_pos (show hd (wordOf 2) = 116 from rfl), show wordOf 2 = trueT from rfl, word_cut trueT k (by decide) hk]; rfl
theorem all_cut {v : JV} (hv : may v) (hd16 : deep v ≤ 16) {k : Nat} (hk : k < (prG [] v).length) : ∃ n0, ∀ n, n0 ≤ n → v.kind ≠ 3 → ∃ r, allP n ((prG [] v).take k) = some (.bad 10 r) := by
  obtain ⟨n0, h0⟩ := val_cut _ v (Nat.le_refl _) hv 0 (by omega) k hk
  refine ⟨n0, fun n hn h3 => ?_⟩
  obtain ⟨R, hR, _, h⟩ := h0 n hn
  obtain ⟨r, rfl⟩ := h h3
  exact ⟨r, by unfold allP; rw [hR]⟩
end Go.Proofs.YtlknngplnimdpaaGreatDoor
