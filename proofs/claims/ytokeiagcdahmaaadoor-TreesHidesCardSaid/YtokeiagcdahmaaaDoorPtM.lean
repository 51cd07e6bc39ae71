/- Layer 14: paths, plainly: a text's parts, what is joined, what is cleaned, what lies in what, whiteouts. -/
import Init
namespace Go.Proofs.YtokeiagcdahmaaaDoor

/-- A text's parts: one byte more. -/
def cutS (c : UInt8) (l : List (List UInt8)) (x : UInt8) : List (List UInt8) := if x = c then l ++ [[]] else l.set (l.length - 1) (l.getD (l.length - 1) [] ++ [x])
def cutL (s : List UInt8) (c : UInt8) : List (List UInt8) := s.foldl (cutS c) [[]]
theorem cutL_nil (c : UInt8) : cutL [] c = [[]] := rfl
theorem cutL_snoc (s : List UInt8) (c x : UInt8) : cutL (s ++ [x]) c = cutS c (cutL s c) x := by simp [cutL]
theorem cutS_length (c : UInt8) (l : List (List UInt8)) (x : UInt8) : (cutS c l x).length = l.length + if x = c then 1 else 0 := by
  unfold cutS
  split <;> simp
theorem cutL_pos (s : List UInt8) (c : UInt8) : 0 < (cutL s c).length := by
  rcases List.eq_nil_or_concat s with rfl | ⟨r, x, rfl⟩
  · exact Nat.one_pos
  · rw [List.concat_eq_append, cutL_snoc, cutS_length]
    have := cutL_pos r c
    omega
termination_by s.length
decreasing_by rename_i h; rw [h]; simp
theorem cutL_le (s : List UInt8) (c : UInt8) : (cutL s c).length ≤ s.length + 1 := by
  rcases List.eq_nil_or_concat s with rfl | ⟨r, x, rfl⟩
  · exact Nat.le_refl _
  · rw [List.concat_eq_append, cutL_snoc, cutS_length, List.length_append, List.length_singleton]
    have := cutL_le r c
    split <;> omega
termination_by s.length
decreasing_by rename_i h; rw [h]; simp
theorem cutL_piece (s : List UInt8) (c : UInt8) : ∀ p ∈ cutL s c, p.length ≤ s.length := by
  rcases List.eq_nil_or_concat s with rfl | ⟨r, x, rfl⟩
  · intro p hp
    rw [cutL_nil, List.mem_singleton] at hp
    subst hp
    exact Nat.le_refl _
  · have ih := cutL_piece r c
    intro p hp
    rw [List.concat_eq_append, cutL_snoc] at hp
    rw [List.concat_eq_append, List.length_append, List.length_singleton]
    unfold cutS at hp
    split at hp
    · rcases List.mem_append.1 hp with hp | hp
      · have := ih p hp; omega
      · rw [List.mem_singleton] at hp; subst hp; exact Nat.zero_le _
    · rcases List.mem_or_eq_of_mem_set hp with hp | rfl
      · have := ih p hp; omega
      · rw [List.length_append, List.length_singleton]
        have hpos := cutL_pos r c
        have := ih ((cutL r c).getD ((cutL r c).length - 1) []) (by rw [List.getD_eq_getElem?_getD, List.getElem?_eq_getElem (by omega)]; exact List.getElem_mem _)
        omega
termination_by s.length
decreasing_by rename_i h; rw [h]; simp
theorem cutL_getD_le (s : List UInt8) (c : UInt8) (k : Nat) : ((cutL s c).getD k []).length ≤ s.length := by
  by_cases h : k < (cutL s c).length
  · exact cutL_piece s c _ (by rw [List.getD_eq_getElem?_getD, List.getElem?_eq_getElem h]; exact List.getElem_mem _)
  · rw [List.getD_eq_getElem?_getD, List.getElem?_eq_none (by omega)]
    exact Nat.zero_le _
theorem cut_take (s : List UInt8) (c : UInt8) {k : Nat} (h : k < s.length) : cutL (s.take (k + 1)) c = cutS c (cutL (s.take k) c) (s.getD k 0) := by
  rw [List.take_succ_eq_append_getElem h, cutL_snoc, List.getD_eq_getElem?_getD, List.getElem?_eq_getElem h]
  rfl
theorem cut_rec (P : List UInt8 → Prop) (h0 : P []) (h1 : ∀ l x, P l → P (l ++ [x])) : ∀ l, P l := fun l => by
  rcases List.eq_nil_or_concat l with rfl | ⟨r, x, rfl⟩
  · exact h0
  · rw [List.concat_eq_append]
    exact h1 r x (cut_rec P h0 h1 r)
termination_by l => l.length
decreasing_by rename_i h; rw [h]; simp
theorem cutS_behind (c x : UInt8) (a : List (List UInt8)) {b : List (List UInt8)} (hb : 0 < b.length) : cutS c (a ++ b) x = a ++ cutS c b x := by
  unfold cutS
  split
  · rw [List.append_assoc]
  · have e1 : (a ++ b).length - 1 = a.length + (b.length - 1) := by rw [List.length_append]; omega
    have e2 : (a ++ b).getD ((a ++ b).length - 1) [] = b.getD (b.length - 1) [] := by
      rw [e1, List.getD_eq_getElem?_getD, List.getD_eq_getElem?_getD, List.getElem?_append_right (by omega), Nat.add_sub_cancel_left]
    rw [e2, e1, List.set_append_right _ _ (by omega), Nat.add_sub_cancel_left]
/-- A text in two, at the byte: its parts. -/
theorem cutL_cons (a : List UInt8) (c : UInt8) (b : List UInt8) : cutL (a ++ c :: b) c = cutL a c ++ cutL b c := by
  refine cut_rec (fun b => cutL (a ++ c :: b) c = cutL a c ++ cutL b c) ?_ (fun l x h => ?_) b
  · rw [cutL_snoc, cutL_nil]
    unfold cutS
    rw [if_pos rfl]
  · rw [show a ++ c :: (l ++ [x]) = (a ++ c :: l) ++ [x] by simp, cutL_snoc, h, cutL_snoc, cutS_behind _ _ _ (cutL_pos l c)]
theorem cutL_one (s : List UInt8) (c : UInt8) : c ∉ s → cutL s c = [s] := by
  refine cut_rec (fun s => c ∉ s → cutL s c = [s]) (fun _ => rfl) (fun l x h hn => ?_) s
  rw [List.mem_append, List.mem_singleton, not_or] at hn
  rw [cutL_snoc, h hn.1]
  unfold cutS
  rw [if_neg (Ne.symm hn.2)]
  rfl
theorem cutL_two {a : List UInt8} {c : UInt8} (b : List UInt8) (h : c ∉ a) : cutL (a ++ c :: b) c = a :: cutL b c := by rw [cutL_cons, cutL_one a c h]; rfl
theorem cutL_count (a : List UInt8) (c : UInt8) (b : List UInt8) : 2 ≤ (cutL (a ++ c :: b) c).length := by
  rw [cutL_cons, List.length_append]
  have := cutL_pos a c
  have := cutL_pos b c
  omega
/-- Where a text is cut. -/
theorem cut_first {c : UInt8} : ∀ {s : List UInt8}, c ∈ s → ∃ a b, s = a ++ c :: b ∧ c ∉ a
  | [], h => by cases h
  | x :: s, h => by
    by_cases hx : x = c
    · exact ⟨[], s, by rw [hx]; rfl, by simp⟩
    · have hm : c ∈ s := by
        rcases List.mem_cons.1 h with e | e
        · exact absurd e.symm hx
        · exact e
      obtain ⟨a, b, e, hn⟩ := cut_first hm
      refine ⟨x :: a, b, by rw [e]; rfl, ?_⟩
      intro h2
      rcases List.mem_cons.1 h2 with e2 | e2
      · exact hx e2.symm
      · exact hn e2
/-- No part has the byte. -/
theorem cutL_noc (s : List UInt8) (c : UInt8) : ∀ p ∈ cutL s c, c ∉ p := by
  refine cut_rec (fun s => ∀ p ∈ cutL s c, c ∉ p) ?_ (fun l x h => ?_) s
  · intro p hp
    rw [cutL_nil, List.mem_singleton] at hp
    subst hp
    simp
  · intro p hp
    rw [cutL_snoc] at hp
    unfold cutS at hp
    split at hp
    · rcases List.mem_append.1 hp with hp | hp
      · exact h p hp
      · rw [List.mem_singleton.1 hp]
        simp
    · rename_i hx
      rcases List.mem_or_eq_of_mem_set hp with hp | rfl
      · exact h p hp
      · rw [List.mem_append, List.mem_singleton, not_or]
        refine ⟨?_, Ne.symm hx⟩
        have hpos := cutL_pos l c
        exact h _ (by rw [List.getD_eq_getElem?_getD, List.getElem?_eq_getElem (by omega)]; exact List.getElem_mem _)
/-- Parts with a / between. -/
def tailL (r : List (List UInt8)) : List UInt8 := (r.map fun y => 47 :: y).flatten
def joinL : List (List UInt8) → List UInt8
  | [] => []
  | x :: r => x ++ tailL r
theorem tailL_snoc (r : List (List UInt8)) (y : List UInt8) : tailL (r ++ [y]) = tailL r ++ 47 :: y := by simp [tailL]
theorem tailL_append (r m : List (List UInt8)) : tailL (r ++ m) = tailL r ++ tailL m := by simp [tailL]
theorem joinL_one (x : List UInt8) : joinL [x] = x := by simp [joinL, tailL]
theorem joinL_snoc {l : List (List UInt8)} (h : l ≠ []) (y : List UInt8) : joinL (l ++ [y]) = joinL l ++ 47 :: y := by
  cases l with
  | nil => exact absurd rfl h
  | cons x r => rw [List.cons_append, joinL, joinL, tailL_snoc, List.append_assoc]
theorem joinL_append {l m : List (List UInt8)} (h : l ≠ []) (h' : m ≠ []) : joinL (l ++ m) = joinL l ++ 47 :: joinL m := by
  cases l with
  | nil => exact absurd rfl h
  | cons x r =>
    cases m with
    | nil => exact absurd rfl h'
    | cons y t =>
      rw [List.cons_append, joinL, joinL, joinL, tailL_append, List.append_assoc]
      congr 1
theorem joinL_grow {l : List (List UInt8)} (m y : List UInt8) : joinL (l ++ [m ++ y]) = joinL (l ++ [m]) ++ y := by
  cases l with
  | nil => rw [List.nil_append, List.nil_append, joinL_one, joinL_one]
  | cons x r => rw [joinL_snoc (by simp), joinL_snoc (by simp), List.append_assoc, List.cons_append]
theorem split_end {l : List (List UInt8)} (h : 0 < l.length) : ∃ m x, l = m ++ [x] := by
  rcases List.eq_nil_or_concat l with rfl | ⟨m, x, rfl⟩
  · simp at h
  · exact ⟨m, x, by rw [List.concat_eq_append]⟩
theorem cutS_end (c : UInt8) (m : List (List UInt8)) (x : List UInt8) (b : UInt8) : cutS c (m ++ [x]) b = if b = c then m ++ [x] ++ [[]] else m ++ [x ++ [b]] := by
  unfold cutS
  split
  · rfl
  · have e : (m ++ [x]).length - 1 = m.length := by simp
    rw [e, List.getD_eq_getElem?_getD, List.getElem?_append_right (Nat.le_refl _), Nat.sub_self]
    simp
/-- What is cut is joined. -/
theorem join_cut (s : List UInt8) : joinL (cutL s 47) = s := by
  refine cut_rec (fun s => joinL (cutL s 47) = s) rfl (fun l b h => ?_) s
  obtain ⟨m, x, hm⟩ := split_end (cutL_pos l 47)
  rw [cutL_snoc, hm, cutS_end]
  rw [hm] at h
  split
  · rename_i hb
    rw [joinL_snoc (by simp), h, hb]
  · rw [joinL_grow, h]
/-- What is joined is cut. -/
theorem cut_join : ∀ {l : List (List UInt8)}, l ≠ [] → (∀ x ∈ l, (47 : UInt8) ∉ x) → cutL (joinL l) 47 = l
  | [], h, _ => absurd rfl h
  | [x], _, hn => by rw [joinL_one, cutL_one x 47 (hn x (by simp))]
  | x :: y :: r, _, hn => by
    have e : joinL (x :: y :: r) = x ++ 47 :: joinL (y :: r) := rfl
    rw [e, cutL_two _ (hn x (by simp)), cut_join (by simp) (fun z hz => hn z (by simp [hz]))]
/-- One part: what it does to the parts that stand. -/
def stepP (o : Option (List (List UInt8))) (x : List UInt8) : Option (List (List UInt8)) :=
  match o with
  | none => none
  | some l => if x = [] ∨ x = [46] then some l else if x = [46, 46] then (if l = [] then none else some l.dropLast) else if (0 : UInt8) ∈ x then none else some (l ++ [x])
def foldP (l : List (List UInt8)) : Option (List (List UInt8)) := l.foldl stepP (some [])
theorem fold_none : ∀ l : List (List UInt8), l.foldl stepP none = none
  | [] => rfl
  | _ :: l => fold_none l
theorem foldP_snoc (l : List (List UInt8)) (x : List UInt8) : foldP (l ++ [x]) = stepP (foldP l) x := by simp [foldP]
/-- A path, cleaned: 71 (it leads out, or may not be), 3 (too long), or 0. -/
def cleanR : Option (List (List UInt8)) → List UInt8 × Int
  | none => ([], 71)
  | some l => if 200 < (joinL l).length then ([], 3) else (joinL l, 0)
def cleanL (s : List UInt8) : List UInt8 × Int := cleanR (foldP (cutL s 47))
/-- A part of a clean path. -/
def goodB (x : List UInt8) : Bool := !decide (x = []) && (!decide (x = [46]) && (!decide (x = [46, 46]) && !decide ((0 : UInt8) ∈ x)))
def cleanB (s : List UInt8) : Bool := decide (s = []) || ((cutL s 47).all goodB && decide (s.length ≤ 200))
theorem good_iff (x : List UInt8) : goodB x = true ↔ x ≠ [] ∧ x ≠ [46] ∧ x ≠ [46, 46] ∧ (0 : UInt8) ∉ x := by
  unfold goodB
  simp only [Bool.and_eq_true, Bool.not_eq_true', decide_eq_false_iff_not]
/-- Parts of a clean path. -/
def Good (l : List (List UInt8)) : Prop := ∀ x ∈ l, goodB x = true ∧ (47 : UInt8) ∉ x
theorem good_step {l : List (List UInt8)} {x : List UInt8} (hx : goodB x = true) : stepP (some l) x = some (l ++ [x]) := by
  obtain ⟨h1, h2, h3, h4⟩ := (good_iff x).1 hx
  unfold stepP
  simp only
  rw [if_neg (by rintro (h | h); exact h1 h; exact h2 h), if_neg h3, if_neg h4]
theorem fold_good : ∀ (ps acc : List (List UInt8)), Good ps → ps.foldl stepP (some acc) = some (acc ++ ps)
  | [], acc, _ => by rw [List.append_nil]; rfl
  | x :: ps, acc, h => by
    rw [List.foldl_cons, good_step (h x (by simp)).1, fold_good ps (acc ++ [x]) (fun y hy => h y (by simp [hy])), List.append_assoc]
    rfl
theorem step_keeps {l l' : List (List UInt8)} {x : List UInt8} (hx : (47 : UInt8) ∉ x) (hl : Good l) (h : stepP (some l) x = some l') : Good l' := by
  unfold stepP at h
  simp only at h
  split at h
  · cases h; exact hl
  · rename_i h1
    rw [not_or] at h1
    split at h
    · split at h
      · cases h
      · cases h
        intro y hy
        exact hl y (List.dropLast_subset l hy)
    · rename_i h3
      split at h
      · cases h
      · rename_i h4
        cases h
        intro y hy
        rcases List.mem_append.1 hy with hy | hy
        · exact hl y hy
        · rw [List.mem_singleton.1 hy]
          exact ⟨(good_iff x).2 ⟨h1.1, h1.2, h3, h4⟩, hx⟩
theorem fold_keeps : ∀ (ps : List (List UInt8)) {l l' : List (List UInt8)}, (∀ x ∈ ps, (47 : UInt8) ∉ x) → Good l → ps.foldl stepP (some l) = some l' → Good l'
  | [], _, _, _, hl, h => by cases h; exact hl
  | x :: ps, l, l', hp, hl, h => by
    rw [List.foldl_cons] at h
    cases e : stepP (some l) x with
    | none => rw [e, fold_none] at h; cases h
    | some m =>
      rw [e] at h
      exact fold_keeps ps (fun y hy => hp y (by simp [hy])) (step_keeps (hp x (by simp)) hl e) h
theorem foldP_good {s : List UInt8} {l : List (List UInt8)} (h : foldP (cutL s 47) = some l) : Good l :=
  fold_keeps _ (cutL_noc s 47) (fun x hx => by cases hx) h
/-- Below parts that stand the same is done. -/
theorem step_under (b : List (List UInt8)) {l l' : List (List UInt8)} {x : List UInt8} (h : stepP (some l) x = some l') : stepP (some (b ++ l)) x = some (b ++ l') := by
  unfold stepP at h ⊢
  simp only at h ⊢
  split at h
  · rename_i h1
    rw [if_pos h1]
    cases h
    rfl
  · rename_i h1
    rw [if_neg h1]
    split at h
    · rename_i h2
      rw [if_pos h2]
      split at h
      · cases h
      · rename_i h3
        cases h
        rw [if_neg (by simp [h3]), List.dropLast_append_of_ne_nil h3]
    · rename_i h2
      rw [if_neg h2]
      split at h
      · cases h
      · rename_i h3
        cases h
        rw [if_neg h3, List.append_assoc]
theorem fold_under (b : List (List UInt8)) : ∀ (ps : List (List UInt8)) {l l' : List (List UInt8)}, ps.foldl stepP (some l) = some l' → ps.foldl stepP (some (b ++ l)) = some (b ++ l')
  | [], _, _, h => by cases h; rfl
  | x :: ps, l, l', h => by
    rw [List.foldl_cons] at h ⊢
    cases e : stepP (some l) x with
    | none => rw [e, fold_none] at h; cases h
    | some m =>
      rw [e] at h
      rw [step_under b e]
      exact fold_under b ps h
theorem good_len {l : List (List UInt8)} (h : Good l) : 2 * l.length ≤ (joinL l).length + 1 := by
  cases l with
  | nil => simp [joinL]
  | cons x r =>
    have hx := ((good_iff x).1 (h x (by simp)).1).1
    have h1 : 1 ≤ x.length := by cases x with | nil => exact absurd rfl hx | cons a t => simp
    have ht : ∀ r : List (List UInt8), (∀ y ∈ r, goodB y = true) → 2 * r.length ≤ (tailL r).length := by
      intro r
      induction r with
      | nil => intro _; simp [tailL]
      | cons y r ih =>
        intro hr
        have hy := ((good_iff y).1 (hr y (by simp))).1
        have h2 : 1 ≤ y.length := by cases y with | nil => exact absurd rfl hy | cons a t => simp
        have := ih (fun z hz => hr z (by simp [hz]))
        have e : tailL (y :: r) = 47 :: y ++ tailL r := by simp [tailL]
        rw [e, List.length_append, List.length_cons, List.length_cons]
        omega
    have := ht r (fun y hy => (h y (by simp [hy])).1)
    rw [joinL, List.length_append, List.length_cons]
    omega
theorem join_empty {l : List (List UInt8)} (h : Good l) : joinL l = [] ↔ l = [] := by
  constructor
  · intro e
    have := good_len h
    rw [e] at this
    cases l with
    | nil => rfl
    | cons x r => simp at this; omega
  · rintro rfl; rfl
theorem good_cut {l : List (List UInt8)} (h : Good l) (hne : l ≠ []) : cutL (joinL l) 47 = l := cut_join hne (fun x hx => (h x hx).2)
theorem good_fold {l : List (List UInt8)} (h : Good l) : foldP (cutL (joinL l) 47) = some l := by
  by_cases hne : l = []
  · subst hne; rfl
  · rw [good_cut h hne]
    exact fold_good l [] h
theorem clean_some {s t : List UInt8} (h : cleanL s = (t, 0)) : ∃ l, foldP (cutL s 47) = some l ∧ Good l ∧ t = joinL l ∧ t.length ≤ 200 := by
  unfold cleanL at h
  cases e : foldP (cutL s 47) with
  | none => rw [e] at h; cases h
  | some l =>
    rw [e] at h
    unfold cleanR at h
    simp only at h
    split at h
    · cases h
    · rename_i hlen
      cases h
      exact ⟨l, rfl, foldP_good e, rfl, by omega⟩
theorem clean_join {l : List (List UInt8)} (h : Good l) (hlen : (joinL l).length ≤ 200) : cleanL (joinL l) = (joinL l, 0) := by
  unfold cleanL
  rw [good_fold h]
  unfold cleanR
  simp only
  rw [if_neg (by omega)]
theorem cleanB_join {l : List (List UInt8)} (h : Good l) (hlen : (joinL l).length ≤ 200) : cleanB (joinL l) = true := by
  unfold cleanB
  by_cases hne : l = []
  · subst hne; rfl
  · rw [good_cut h hne, decide_eq_true hlen, Bool.and_true, Bool.or_eq_true]
    right
    rw [List.all_eq_true]
    exact fun x hx => (h x hx).1
theorem cleanB_some {s : List UInt8} (h : cleanB s = true) : ∃ l, Good l ∧ s = joinL l ∧ s.length ≤ 200 := by
  unfold cleanB at h
  rw [Bool.or_eq_true, decide_eq_true_eq, Bool.and_eq_true, decide_eq_true_eq, List.all_eq_true] at h
  rcases h with rfl | ⟨h, hl⟩
  · exact ⟨[], (fun x hx => by cases hx), rfl, by simp⟩
  · exact ⟨cutL s 47, fun x hx => ⟨h x hx, cutL_noc s 47 x hx⟩, (join_cut s).symm, hl⟩
/-- What Clean tells is clean, and Clean tells it of itself; of a clean one it tells itself. -/
theorem clean_clean {s t : List UInt8} (h : cleanL s = (t, 0)) : cleanB t = true ∧ cleanL t = (t, 0) := by
  obtain ⟨l, _, hg, rfl, hl⟩ := clean_some h
  exact ⟨cleanB_join hg hl, clean_join hg hl⟩
theorem clean_self {s : List UInt8} (h : cleanB s = true) : cleanL s = (s, 0) := by
  obtain ⟨l, hg, rfl, hl⟩ := cleanB_some h
  exact clean_join hg hl
theorem clean_codes (s : List UInt8) : (cleanL s).2 = 0 ∨ (cleanL s).2 = 3 ∨ (cleanL s).2 = 71 := by
  unfold cleanL
  cases foldP (cutL s 47) with
  | none => exact .inr (.inr rfl)
  | some l =>
    unfold cleanR
    simp only
    split
    · exact .inr (.inl rfl)
    · exact .inl rfl
theorem clean_none {s : List UInt8} (h : (cleanL s).2 ≠ 0) : (cleanL s).1 = [] := by
  unfold cleanL at h ⊢
  cases e : foldP (cutL s 47) with
  | none => rfl
  | some l =>
    rw [e] at h
    unfold cleanR at h ⊢
    simp only at h ⊢
    split
    · rfl
    · rename_i hl
      rw [if_neg hl] at h
      exact absurd rfl h
theorem clean_len (s : List UInt8) : (cleanL s).1.length ≤ 200 := by
  unfold cleanL cleanR
  split
  · simp
  · split
    · simp
    · simp only; omega
/-- Parent, Base, Join, Inside. -/
def parentL (s : List UInt8) : List UInt8 := joinL (cutL s 47).dropLast
def baseL (s : List UInt8) : List UInt8 := (cutL s 47).getD ((cutL s 47).length - 1) []
def join2 (d p : List UInt8) : List UInt8 := if d = [] then p else if p = [] then d else d ++ 47 :: p
def insideB (d p : List UInt8) : Bool := decide (d = []) || (decide (p = d) || decide (d ++ [47] <+: p))
theorem getD_end (m : List (List UInt8)) (x : List UInt8) : (m ++ [x]).getD ((m ++ [x]).length - 1) [] = x := by
  have e : (m ++ [x]).length - 1 = m.length := by simp
  rw [e, List.getD_eq_getElem?_getD, List.getElem?_append_right (Nat.le_refl _), Nat.sub_self]
  rfl
theorem parent_hit (a : List UInt8) {b : List UInt8} (h : (47 : UInt8) ∉ b) : parentL (a ++ 47 :: b) = a ∧ baseL (a ++ 47 :: b) = b := by
  have e : cutL (a ++ 47 :: b) 47 = cutL a 47 ++ [b] := by rw [cutL_cons, cutL_one b 47 h]
  unfold parentL baseL
  rw [e, getD_end, List.dropLast_concat, join_cut]
  exact ⟨rfl, rfl⟩
theorem parent_miss {b : List UInt8} (h : (47 : UInt8) ∉ b) : parentL b = [] ∧ baseL b = b := by
  unfold parentL baseL
  rw [cutL_one b 47 h]
  exact ⟨rfl, rfl⟩
theorem cut_last : ∀ {s : List UInt8}, (47 : UInt8) ∈ s → ∃ a b, s = a ++ 47 :: b ∧ (47 : UInt8) ∉ b
  | [], h => by cases h
  | x :: s, h => by
    by_cases hm : (47 : UInt8) ∈ s
    · obtain ⟨a, b, e, hn⟩ := cut_last hm
      exact ⟨x :: a, b, by rw [e]; rfl, hn⟩
    · rcases List.mem_cons.1 h with e | e
      · exact ⟨[], s, by rw [← e]; rfl, hm⟩
      · exact absurd e hm
theorem good_parent {m : List (List UInt8)} {x : List UInt8} (h : Good (m ++ [x])) : parentL (joinL (m ++ [x])) = joinL m ∧ baseL (joinL (m ++ [x])) = x := by
  unfold parentL baseL
  rw [good_cut h (by simp), getD_end, List.dropLast_concat]
  exact ⟨rfl, rfl⟩
theorem good_front {m : List (List UInt8)} {x : List UInt8} (h : Good (m ++ [x])) : Good m := fun y hy => h y (by simp [hy])
theorem good_end {m : List (List UInt8)} {x : List UInt8} (h : Good (m ++ [x])) : x ≠ [] := ((good_iff x).1 (h x (by simp)).1).1
/-- Join of Parent and Base. -/
theorem parent_base {l : List (List UInt8)} (h : Good l) : join2 (parentL (joinL l)) (baseL (joinL l)) = joinL l := by
  by_cases hne : l = []
  · subst hne; rfl
  · obtain ⟨m, x, rfl⟩ := split_end (List.length_pos_iff.2 hne)
    rw [(good_parent h).1, (good_parent h).2]
    unfold join2
    by_cases hm : m = []
    · subst hm
      rw [if_pos (show joinL [] = [] from rfl), List.nil_append, joinL_one]
    · rw [if_neg (fun e => hm ((join_empty (good_front h)).1 e)), if_neg (good_end h), joinL_snoc hm]
theorem inside_all {m t : List (List UInt8)} (hm : Good (m ++ t)) : insideB (joinL m) (joinL (m ++ t)) = true := by
  unfold insideB
  by_cases h1 : m = []
  · subst h1; simp [joinL]
  · by_cases h2 : t = []
    · subst h2; simp
    · rw [joinL_append h1 h2]
      simp
theorem shorter {m : List (List UInt8)} {x : List UInt8} (h : Good (m ++ [x])) : (joinL m).length < (joinL (m ++ [x])).length := by
  by_cases hm : m = []
  · subst hm
    rw [List.nil_append, joinL_one]
    have := List.length_pos_iff.2 (good_end h)
    simpa [joinL] using this
  · rw [joinL_snoc hm, List.length_append, List.length_cons]
    omega
theorem inside_under (p q : List UInt8) : insideB p (p ++ 47 :: q) = true := by
  unfold insideB
  rw [show p ++ 47 :: q = (p ++ [47]) ++ q by simp]
  simp
/-- One path, led on by another one. -/
theorem clean_under {d p a b : List UInt8} (h1 : cleanL d = (a, 0)) (h2 : cleanL p = (b, 0)) :
    cleanL (join2 a p) = if 200 < (join2 a b).length then ([], 3) else (join2 a b, 0) := by
  obtain ⟨la, _, ga, rfl, ha⟩ := clean_some h1
  obtain ⟨lb, fb, gb, rfl, hb⟩ := clean_some h2
  by_cases hla : la = []
  · subst hla
    have e : ∀ t, join2 (joinL []) t = t := fun t => rfl
    rw [e, e, h2, if_neg (by omega)]
  · have hja : joinL la ≠ [] := fun e => hla ((join_empty ga).1 e)
    by_cases hp : p = []
    · subst hp
      have hlb : lb = [] := by
        have : foldP (cutL [] 47) = some [] := rfl
        rw [this] at fb
        cases fb
        rfl
      subst hlb
      have e : ∀ t, t = [] → join2 (joinL la) t = joinL la := fun t ht => by unfold join2; rw [if_neg hja, if_pos ht]
      rw [e [] rfl, e (joinL []) rfl, if_neg (by omega)]
      exact clean_join ga ha
    · have e1 : join2 (joinL la) p = joinL la ++ 47 :: p := by unfold join2; rw [if_neg hja, if_neg hp]
      have e2 : join2 (joinL la) (joinL lb) = joinL (la ++ lb) := by
        unfold join2
        rw [if_neg hja]
        by_cases hlb : lb = []
        · subst hlb
          rw [if_pos (show joinL [] = [] from rfl), List.append_nil]
        · rw [if_neg (fun e => hlb ((join_empty gb).1 e)), joinL_append hla hlb]
      have e3 : foldP (cutL (joinL la ++ 47 :: p) 47) = some (la ++ lb) := by
        rw [cutL_cons, good_cut ga hla]
        unfold foldP at fb ⊢
        rw [List.foldl_append, fold_good la [] ga]
        have := fold_under la (cutL p 47) fb
        rwa [List.append_nil] at this
      rw [e1, e2]
      unfold cleanL
      rw [e3]
      rfl
theorem inside_join (a b : List UInt8) : insideB a (join2 a b) = true := by
  unfold join2
  split
  · rename_i h; subst h; simp [insideB]
  · split
    · simp [insideB]
    · exact inside_under a b
theorem inside_back (a b : List UInt8) : insideB (join2 a b) a = (decide (b = []) || decide (join2 a b = [])) := by
  unfold join2
  split
  · rename_i h
    subst h
    unfold insideB
    by_cases hb : b = []
    · subst hb; simp
    · have : ¬ (b ++ [47] <+: ([] : List UInt8)) := by
        rintro ⟨t, ht⟩
        simp at ht
      simp [hb, this, Ne.symm hb]
  · rename_i ha
    split
    · rename_i hb
      simp [hb, insideB]
    · rename_i hb
      have h2 : ¬ (a ++ 47 :: b ++ [47] <+: a) := by
        intro h
        have := h.length_le
        simp at this
        omega
      have h3 : ¬ (a = a ++ 47 :: b) := by
        intro h
        have := congrArg List.length h
        simp at this
      simp only [insideB, decide_eq_false h2, decide_eq_false h3, decide_eq_false hb]
      simp
/-- Whiteouts. -/
def whB : List UInt8 := [46, 119, 104, 46]
def opqB : List UInt8 := [46, 119, 104, 46, 46, 119, 104, 46, 46, 111, 112, 113]
def mayGoB (n : List UInt8) : Bool := !decide (n = []) && (!decide (n = [46]) && (!decide (n = [46, 46]) && !decide (whB <+: n)))
def whiteL (s : List UInt8) : List UInt8 × Bool × Bool := if s = opqB then ([], true, true) else if (decide (whB <+: s) && mayGoB (s.drop 4)) = true then (s.drop 4, false, true) else ([], false, false)
theorem white_cases (s : List UInt8) : (s = opqB ∧ whiteL s = ([], true, true)) ∨ (∃ n, s = whB ++ n ∧ mayGoB n = true ∧ whiteL s = (n, false, true)) ∨ (whiteL s = ([], false, false)) := by
  unfold whiteL
  split
  · rename_i h; exact .inl ⟨h, rfl⟩
  · split
    · rename_i h
      rw [Bool.and_eq_true, decide_eq_true_eq] at h
      obtain ⟨⟨n, rfl⟩, h2⟩ := h
      have e : (whB ++ n).drop 4 = n := rfl
      rw [e] at h2 ⊢
      exact .inr (.inl ⟨n, rfl, h2, rfl⟩)
    · exact .inr (.inr rfl)
/-- Of a whiteout that is one part the name is one part. -/
theorem white_clean {n : List UInt8} (hm : mayGoB n = true) (hc : cleanB (whB ++ n) = true) (hb : baseL (whB ++ n) = whB ++ n) : cleanB n = true := by
  unfold mayGoB at hm
  simp only [Bool.and_eq_true, Bool.not_eq_true', decide_eq_false_iff_not] at hm
  obtain ⟨l, hg, e, hl⟩ := cleanB_some hc
  have hno : (47 : UInt8) ∉ whB ++ n := by
    intro h
    obtain ⟨a, b, e2, hn⟩ := cut_last h
    rw [e2, (parent_hit a hn).2] at hb
    have := congrArg List.length hb
    simp at this
    omega
  have hn : (47 : UInt8) ∉ n := fun h => hno (List.mem_append_right _ h)
  have hz : (0 : UInt8) ∉ n := by
    intro h
    have h2 : (0 : UInt8) ∈ whB ++ n := List.mem_append_right _ h
    rw [e] at h2
    have hne : l ≠ [] := by rintro rfl; simp [joinL] at h2
    have := good_cut hg hne
    rw [← e, cutL_one _ 47 hno] at this
    have := ((good_iff (whB ++ n)).1 (hg _ (by rw [← this]; simp)).1).2.2.2
    exact this (List.mem_append_right _ h)
  have hg2 : goodB n = true := (good_iff n).2 ⟨hm.1, hm.2.1, hm.2.2.1, hz⟩
  unfold cleanB
  rw [cutL_one n 47 hn, Bool.or_eq_true]
  right
  simp only [List.all_cons, List.all_nil, Bool.and_true, Bool.and_eq_true, decide_eq_true_eq]
  refine ⟨hg2, ?_⟩
  rw [List.length_append] at hl
  omega
end Go.Proofs.YtokeiagcdahmaaaDoor
