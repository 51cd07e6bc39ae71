/- Layer 11, plain: every text is read, or wrong somewhere; values that are too deep; what Print writes, piece by piece; how deep a value is, as it is asked. -/
import Derived.Test.YtlknngplnimdpaaGreatDoorJsE
namespace Go.Proofs.YtlknngplnimdpaaGreatDoor
open Go.Lib

/-! ### Every text comes to an end -/
theorem str_total : ∀ (d : Nat) (l acc : Bs), l.length ≤ d → ∃ R, ∀ n, d < n → strP n l acc = some R := by
  intro d
  induction d with
  | zero =>
    intro l acc hl
    obtain rfl := List.eq_nil_of_length_eq_zero (Nat.le_zero.1 hl)
    refine ⟨.bad 10 [], fun n hn => ?_⟩
    obtain ⟨m, rfl⟩ : ∃ m, n = m + 1 := ⟨n - 1, by omega⟩
    rfl
  | succ d ih =>
    intro l acc hl
    by_cases h34 : hd l = 34
    · refine ⟨.ok acc l.tail, fun n hn => ?_⟩
      obtain ⟨m, rfl⟩ : ∃ m, n = m + 1 := ⟨n - 1, by omega⟩
      rw [strP, if_pos h34]
    · cases ho : oneP l with
      | bad k r =>
        refine ⟨.bad k r, fun n hn => ?_⟩
        obtain ⟨m, rfl⟩ : ∃ m, n = m + 1 := ⟨n - 1, by omega⟩
        rw [strP, if_neg h34, ho]
      | ok c r =>
        have := one_ok ho
        obtain ⟨R, hR⟩ := ih r (acc ++ encodeRune (c : Int)) (by omega)
        refine ⟨R, fun n hn => ?_⟩
        obtain ⟨m, rfl⟩ : ∃ m, n = m + 1 := ⟨n - 1, by omega⟩
        rw [strP, if_neg h34, ho]
        exact hR m (by omega)
theorem quo_total (l : Bs) : ∃ R, ∀ n, l.length < n → quoP n l = some R := by
  unfold quoP
  split
  · obtain ⟨R, hR⟩ := str_total l.length l.tail [] (tail_le l)
    exact ⟨R, hR⟩
  · exact ⟨_, fun _ _ => rfl⟩
theorem key_total (seen : List Bs) (l : Bs) : ∃ R, ∀ n, l.length < n → keyP n seen l = some R := by
  obtain ⟨R, hR⟩ := quo_total (dropB l)
  have := dropB_le l
  cases R with
  | bad k r =>
    refine ⟨.bad k r, fun n hn => ?_⟩
    unfold keyP
    rw [hR n (by omega)]
  | ok key r =>
    by_cases hs : key ∈ seen
    · refine ⟨.bad 10 (dropB l), fun n hn => ?_⟩
      unfold keyP
      rw [hR n (by omega)]
      simp only [if_pos hs]
    by_cases h58 : hd (dropB r) = 58
    · refine ⟨.ok key (dropB r).tail, fun n hn => ?_⟩
      unfold keyP
      rw [hR n (by omega)]
      simp only [if_neg hs, if_pos h58]
    · refine ⟨.bad 10 (dropB r), fun n hn => ?_⟩
      unfold keyP
      rw [hR n (by omega)]
      simp only [if_neg hs, if_neg h58]
theorem parts_total {α : Type} (e : UInt8) (step : Nat → α → Bs → Option (Res α)) (d : Nat) (hs : ∀ a l, l.length ≤ d → ∃ R, Ev (fun n => step n a l) R ∧ ∀ b q, R = .ok b q → q.length < l.length) :
    ∀ (k : Nat) (first : Bool) (a : α) (l : Bs), l.length ≤ k → k ≤ d → ∃ R, Ev2 (fun n m => partsP e (step n) m first a l) R := by
  intro k
  induction k with
  | zero =>
    intro first a l hl hk
    obtain rfl := List.eq_nil_of_length_eq_zero (Nat.le_zero.1 hl)
    obtain ⟨R, ⟨n0, h0⟩, hR⟩ := hs a [] (by simp)
    by_cases he : hd (dropB []) = e
    · refine ⟨.ok a (dropB []).tail, 1, fun n m _ hm => ?_⟩
      obtain ⟨j, rfl⟩ : ∃ j, m = j + 1 := ⟨m - 1, by omega⟩
      simp only [partsP, if_pos he]
    cases first with
    | false =>
      refine ⟨.bad 10 [], 1, fun n m _ hm => ?_⟩
      obtain ⟨j, rfl⟩ : ∃ j, m = j + 1 := ⟨m - 1, by omega⟩
      simp only [partsP, if_neg he]
      rw [if_neg (by decide), if_neg (by decide)]
      rfl
    | true =>
      cases R with
      | ok b q => exact absurd (hR b q rfl) (by simp)
      | bad c r =>
        refine ⟨.bad c r, n0 + 1, fun n m hn hm => ?_⟩
        obtain ⟨j, rfl⟩ : ∃ j, m = j + 1 := ⟨m - 1, by omega⟩
        simp only [partsP, if_neg he, if_true]
        rw [show step n a (dropB []) = _ from h0 n (by omega)]
  | succ k ih =>
    intro first a l hl hk
    have hb := dropB_le l
    by_cases he : hd (dropB l) = e
    · refine ⟨.ok a (dropB l).tail, 1, fun n m _ hm => ?_⟩
      obtain ⟨j, rfl⟩ : ∃ j, m = j + 1 := ⟨m - 1, by omega⟩
      simp only [partsP, if_pos he]
    have go : ∀ l', l'.length ≤ (dropB l).length → ∃ R, Ev2 (fun n m => match step n a l' with | none => none | some (.bad k r) => some (.bad k r) | some (.ok a r) => partsP e (step n) m false a r) R := by
      intro l' hl'
      obtain ⟨R, ⟨n0, h0⟩, hR⟩ := hs a l' (by omega)
      cases R with
      | bad c r => exact ⟨.bad c r, n0, fun n m hn hm => by simp only [show step n a l' = _ from h0 n hn]⟩
      | ok b q =>
        have := hR b q rfl
        obtain ⟨R2, n1, h1⟩ := ih false b q (by omega) (by omega)
        refine ⟨R2, n0 + n1, fun n m hn hm => ?_⟩
        simp only [show step n a l' = _ from h0 n (by omega)]
        exact h1 n m (by omega) (by omega)
    cases first with
    | true =>
      obtain ⟨R, n0, h0⟩ := go (dropB l) (Nat.le_refl _)
      refine ⟨R, n0 + 1, fun n m hn hm => ?_⟩
      obtain ⟨j, rfl⟩ : ∃ j, m = j + 1 := ⟨m - 1, by omega⟩
      simp only [partsP, if_neg he, if_true]
      exact h0 n j (by omega) (by omega)
    | false =>
      by_cases h44 : hd (dropB l) = 44
      · obtain ⟨R, n0, h0⟩ := go (dropB l).tail (tail_le _)
        refine ⟨R, n0 + 1, fun n m hn hm => ?_⟩
        obtain ⟨j, rfl⟩ : ∃ j, m = j + 1 := ⟨m - 1, by omega⟩
        simp only [partsP, if_neg he]
        rw [if_neg (by decide), if_pos h44]
        exact h0 n j (by omega) (by omega)
      · refine ⟨.bad 10 (dropB l), 1, fun n m _ hm => ?_⟩
        obtain ⟨j, rfl⟩ : ∃ j, m = j + 1 := ⟨m - 1, by omega⟩
        simp only [partsP, if_neg he]
        rw [if_neg (by decide), if_neg h44]
theorem val_total : ∀ (d : Nat) (l : Bs) (lev : Nat), l.length ≤ d → lev ≤ 16 → ∃ R, Ev (fun n => valP n lev l) R := by
  intro d
  induction d with
  | zero =>
    intro l lev hl _
    obtain rfl := List.eq_nil_of_length_eq_zero (Nat.le_zero.1 hl)
    exact ⟨.bad 10 [], 1, fun n hn => by obtain ⟨m, rfl⟩ : ∃ m, n = m + 1 := ⟨n - 1, by omega⟩; rfl⟩
  | succ d ih =>
    intro l lev hl hlev
    have hb := dropB_le l
    have key : ∃ R, Ev (fun n => valB n lev (valP n (lev + 1)) (dropB l)) R := by
      generalize dropB l = m at hb
      unfold valB
      split
      · exact ⟨_, 0, fun _ _ => rfl⟩
      split
      · exact ⟨_, 0, fun _ _ => rfl⟩
      split
      · exact ⟨_, 0, fun _ _ => rfl⟩
      split
      · obtain ⟨R, hR⟩ := quo_total m
        exact ⟨R.map _, m.length + 1, fun n hn => by simp only [hR n (by omega)]; rfl⟩
      split
      · rename_i h91
        have hlt := tail_lt (ne_hd h91 (by decide))
        split
        · exact ⟨_, 0, fun _ _ => rfl⟩
        · rename_i h16
          obtain ⟨R, n0, h0⟩ := parts_total 93 (fun n => stepL (valP n (lev + 1))) d (by
            intro a l hl
            obtain ⟨R, n0, h0⟩ := ih l (lev + 1) hl (by omega)
            cases R with
            | bad k r => exact ⟨.bad k r, ⟨n0, fun n hn => by show stepL _ _ _ = _; unfold stepL; rw [show valP n (lev + 1) l = _ from h0 n hn]⟩, fun b q h => by cases h⟩
            | ok x r =>
              refine ⟨.ok (a ++ [x]) r, ⟨n0, fun n hn => by show stepL _ _ _ = _; unfold stepL; rw [show valP n (lev + 1) l = _ from h0 n hn]⟩, fun b q h => ?_⟩
              rw [Res.ok.injEq] at h
              rw [← h.2]
              exact (val_ok n0 (lev + 1) l x r (by omega) (h0 n0 (Nat.le_refl _))).2.2) d true [] m.tail (by omega) (Nat.le_refl _)
          exact ⟨R.map mkL, n0, fun n hn => by simp only [show partsP 93 (stepL (valP n (lev + 1))) n true [] m.tail = _ from h0 n n hn hn]; rfl⟩
      split
      · rename_i h91
        have hlt := tail_lt (ne_hd h91 (by decide))
        split
        · exact ⟨_, 0, fun _ _ => rfl⟩
        · rename_i h16
          obtain ⟨R, n0, h0⟩ := parts_total 125 (fun n => stepO n (valP n (lev + 1))) d (by
            intro a l hl
            obtain ⟨K, hK⟩ := key_total (a.map (·.1)) l
            cases K with
            | bad k r => exact ⟨.bad k r, ⟨l.length + 1, fun n hn => by show stepO _ _ _ _ = _; unfold stepO; rw [hK n (by omega)]⟩, fun b q h => by cases h⟩
            | ok key r =>
              have hk := key_ok (hK (l.length + 1) (by omega))
              obtain ⟨R, n0, h0⟩ := ih r (lev + 1) (by omega) (by omega)
              cases R with
              | bad k q => exact ⟨.bad k q, ⟨n0 + l.length + 1, fun n hn => by show stepO _ _ _ _ = _; unfold stepO; rw [hK n (by omega)]; dsimp only; rw [show valP n (lev + 1) r = _ from h0 n (by omega)]⟩, fun b q h => by cases h⟩
              | ok x q =>
                refine ⟨.ok (a ++ [(key, x)]) q, ⟨n0 + l.length + 1, fun n hn => by show stepO _ _ _ _ = _; unfold stepO; rw [hK n (by omega)]; dsimp only; rw [show valP n (lev + 1) r = _ from h0 n (by omega)]⟩, fun b p h => ?_⟩
                rw [Res.ok.injEq] at h
                rw [← h.2]
                have := (val_ok n0 (lev + 1) r x q (by omega) (h0 n0 (Nat.le_refl _))).2.2
                omega) d true [] m.tail (by omega) (Nat.le_refl _)
          exact ⟨R.map mkO, n0, fun n hn => by simp only [show partsP 125 (stepO n (valP n (lev + 1))) n true [] m.tail = _ from h0 n n hn hn]; rfl⟩
      · exact ⟨_, 0, fun _ _ => rfl⟩
    obtain ⟨R, hR⟩ := key
    exact ⟨R, ev_val (fun n => by rw [valP]) hR⟩
theorem all_total (l : Bs) : ∃ R, Ev (fun n => allP n l) R := by
  obtain ⟨R, n0, h0⟩ := val_total l.length l 0 (Nat.le_refl _) (by omega)
  cases R with
  | bad k r => exact ⟨.bad k r, n0, fun n hn => by show allP n l = _; unfold allP; rw [show valP n 0 l = _ from h0 n hn]⟩
  | ok v r =>
    by_cases h : dropB r = []
    · exact ⟨.ok v [], n0, fun n hn => by show allP n l = _; unfold allP; rw [show valP n 0 l = _ from h0 n hn]; dsimp only; rw [if_pos h]⟩
    · exact ⟨.bad 10 (dropB r), n0, fun n hn => by show allP n l = _; unfold allP; rw [show valP n 0 l = _ from h0 n hn]; dsimp only; rw [if_neg h]⟩
theorem all_ok {n : Nat} {l : Bs} {v : JV} {r : Bs} (h : allP n l = some (.ok v r)) : may v ∧ deep v ≤ 16 := by
  unfold allP at h
  cases hv : valP n 0 l with
  | none => rw [hv] at h; cases h
  | some x =>
    rw [hv] at h
    cases x with
    | bad k r => cases h
    | ok w q =>
      have := val_ok n 0 l w q (by omega) hv
      dsimp only at h
      split at h
      · rw [Option.some.injEq, Res.ok.injEq] at h
        rw [← h.1]
        exact ⟨this.1, by omega⟩
      · cases h
/-! ### Too deep -/
def openT (bs : List Bool) : Bs := bs.flatMap fun b => if b = true then [123, 34, 107, 34, 58] else [91]
def closeT : List Bool → Bs
  | [] => []
  | b :: bs => closeT bs ++ [if b = true then 125 else 93]
def nest : List Bool → JV
  | [] => .mk 2 [] [] []
  | b :: bs => if b = true then .mk 6 [] [nest bs] [[107]] else .mk 5 [] [nest bs] []
theorem nest_pr : ∀ bs : List Bool, prG [] (nest bs) = openT bs ++ trueT ++ closeT bs
  | [] => rfl
  | true :: bs => by
    show prG [] (.mk 6 [] [nest bs] [[107]]) = _
    rw [prG, if_neg (by decide), if_neg (by decide), if_neg (by decide), if_pos rfl, prL, prL, nest_pr bs]
    have e : quoT [107] = [34, 107, 34] := by decide
    simp [joinG, pairG, e, openT, closeT]
  | false :: bs => by
    show prG [] (.mk 5 [] [nest bs] []) = _
    rw [prG, if_neg (by decide), if_neg (by decide), if_pos rfl, prL, prL, nest_pr bs]
    simp [joinG, openT, closeT]
theorem nest_may : ∀ bs : List Bool, may (nest bs) ∧ deep (nest bs) = bs.length
  | [] => by
    show may (.mk 2 [] [] []) ∧ deep (.mk 2 [] [] []) = 0
    refine ⟨?_, by rw [deep, deepL]; rfl⟩
    rw [may, mayL]
    exact ⟨trivial, .inl ⟨.inr (.inr rfl), rfl, rfl, rfl⟩⟩
  | true :: bs => by
    obtain ⟨h1, h2⟩ := nest_may bs
    show may (.mk 6 [] [nest bs] [[107]]) ∧ deep (.mk 6 [] [nest bs] [[107]]) = _
    refine ⟨?_, by rw [deep, if_pos (.inr rfl), deepL, deepL, h2]; simp⟩
    rw [may, mayL, mayL]
    exact ⟨⟨h1, trivial⟩, .inr (.inr (.inr (.inr ⟨rfl, rfl, rfl, by decide, by simp⟩)))⟩
  | false :: bs => by
    obtain ⟨h1, h2⟩ := nest_may bs
    show may (.mk 5 [] [nest bs] []) ∧ deep (.mk 5 [] [nest bs] []) = _
    refine ⟨?_, by rw [deep, if_pos (.inl rfl), deepL, deepL, h2]; simp⟩
    rw [may, mayL, mayL]
    exact ⟨⟨h1, trivial⟩, .inr (.inr (.inr (.inl ⟨rfl, rfl, rfl⟩)))⟩
theorem too_deep : ∀ (bs : List Bool) (lev : Nat) (r : Bs), lev ≤ 16 → 16 < lev + bs.length → Ev (fun n => valP n lev (openT bs ++ r)) (.bad 11 (openT (bs.drop (16 - lev)) ++ r))
  | [], lev, r, h1, h2 => by simp at h2; omega
  | b :: bs, lev, r, h1, h2 => by
    have e : ∃ T, openT (b :: bs) ++ r = (if b = true then 123 else 91) :: T ∧ T = (if b = true then [34, 107, 34, 58] else []) ++ (openT bs ++ r) := by
      cases b <;> exact ⟨_, rfl, rfl⟩
    obtain ⟨T, hT, hT2⟩ := e
    by_cases h16 : lev = 16
    · subst h16
      rw [hT]
      refine ⟨1, fun n hn => ?_⟩
      obtain ⟨m, rfl⟩ : ∃ m, n = m + 1 := ⟨n - 1, by omega⟩
      show valP (m + 1) 16 _ = _
      rw [Nat.sub_self, List.drop_zero, hT, valP, dropB_cons (by cases b <;> rfl)]
      unfold valB
      rw [hd_cons]
      cases b <;> rfl
    · obtain ⟨n0, h0⟩ := too_deep bs (lev + 1) r (by omega) (by simp at h2; omega)
      have ed : (b :: bs).drop (16 - lev) = bs.drop (16 - (lev + 1)) := by
        rw [show 16 - lev = (16 - (lev + 1)) + 1 by omega]; rfl
      rw [ed]
      refine ⟨n0 + 4, fun n hn => ?_⟩
      obtain ⟨m, rfl⟩ : ∃ m, n = m + 1 := ⟨n - 1, by omega⟩
      obtain ⟨j, rfl⟩ : ∃ j, m = j + 1 := ⟨m - 1, by omega⟩
      have hv : valP (j + 1) (lev + 1) (openT bs ++ r) = _ := h0 (j + 1) (by omega)
      show valP (j + 1 + 1) lev _ = _
      rw [hT, valP, dropB_cons (by cases b <;> rfl)]
      unfold valB
      rw [hd_cons, List.tail_cons]
      cases b with
      | false =>
        have hne : hd (dropB (openT bs ++ r)) ≠ 93 := by
          cases bs with
          | nil => simp at h2; omega
          | cons c bs =>
            cases c
            · show hd (dropB (91 :: _)) ≠ 93
              rw [dropB_cons (by rfl), hd_cons]; decide
            · show hd (dropB (123 :: _)) ≠ 93
              rw [dropB_cons (by rfl), hd_cons]; decide
        rw [hT2]
        simp only [Bool.false_eq_true, if_false, List.nil_append, if_true]
        rw [if_neg (by decide), if_neg (by decide), if_neg (by decide), if_neg (by decide), if_neg h16, partsP, if_neg hne, if_pos rfl]
        unfold stepL
        rw [valP_drop (j + 1) (lev + 1) (dropB_idem (openT bs ++ r)), hv]
        rfl
      | true =>
        rw [hT2]
        simp only [if_true]
        rw [if_neg (by decide), if_neg (by decide), if_neg (by decide), if_neg (by decide), if_neg (by decide), if_neg h16, partsP]
        have hd0 : dropB ([34, 107, 34, 58] ++ (openT bs ++ r)) = [34, 107, 34, 58] ++ (openT bs ++ r) := dropB_hd rfl
        rw [hd0, if_neg (show ¬ hd ([34, 107, 34, 58] ++ (openT bs ++ r)) = 125 from by show ¬ (34 : UInt8) = 125; decide), if_pos rfl]
        have hk : keyP (j + 1) (([] : List (Bs × JV)).map (·.1)) ([34, 107, 34, 58] ++ (openT bs ++ r)) = some (.ok [107] (openT bs ++ r)) := by
          unfold keyP
          rw [hd0]
          have hq := str_rt [107] (j + 1) [] (58 :: (openT bs ++ r)) (by decide) (by simp; omega)
          have e1 : [107].flatMap printedR ++ 34 :: (58 :: (openT bs ++ r)) = [107, 34, 58] ++ (openT bs ++ r) := rfl
          rw [e1] at hq
          have hq2 : quoP (j + 1) ([34, 107, 34, 58] ++ (openT bs ++ r)) = some (.ok [107] (58 :: (openT bs ++ r))) := by
            show quoP (j + 1) (34 :: ([107, 34, 58] ++ (openT bs ++ r))) = _
            unfold quoP
            rw [if_pos (hd_cons ..), List.tail_cons, hq]
            rfl
          rw [hq2]
          dsimp only
          rw [if_neg (by simp), dropB_cons (by rfl), hd_cons, if_pos rfl, List.tail_cons]
        unfold stepO
        rw [hk]
        dsimp only
        rw [hv]
        rfl
theorem all_deep (bs : List Bool) (r : Bs) (h : 16 < bs.length) : Ev (fun n => allP n (openT bs ++ r)) (.bad 11 (openT (bs.drop 16) ++ r)) := by
  obtain ⟨n0, h0⟩ := too_deep bs 0 r (by omega) (by omega)
  refine ⟨n0, fun n hn => ?_⟩
  show allP n _ = _
  unfold allP
  rw [show valP n 0 (openT bs ++ r) = _ from h0 n hn]
end Go.Proofs.YtlknngplnimdpaaGreatDoor
