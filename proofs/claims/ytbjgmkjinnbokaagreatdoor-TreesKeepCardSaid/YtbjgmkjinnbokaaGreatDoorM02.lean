/- Merged: PtM, PtA. -/
import Init
import Derived.BigQuiet
import Derived.StillTailTactics
import Derived.Test.YtbjgmkjinnbokaaGreatDoorM01
import Derived.Maps.AppendAt
/- Layer 14: paths, plainly: a text's parts, what is joined, what is cleaned, what lies in what, whiteouts. -/
namespace Go.Proofs.YtbjgmkjinnbokaaGreatDoor

/-- A text's parts: one byte more. -/
def cutS (c : UInt8) (l : List (List UInt8)) (x : UInt8) : List (List UInt8) := if x = c then l ++ [[]] else l.set (l.length - 1) (l.getD (l.length - 1) [] ++ [x])
def cutL (s : List UInt8) (c : UInt8) : List (List UInt8) := s.foldl (cutS c) [[]]
theorem cutL_nil (c : UInt8) : cutL [] c = [[]] := rfl
theorem cutL_snoc (s : List UInt8) (c x : UInt8) : cutL (s ++ [x]) c = cutS c (cutL s c) x := by simp [cutL]
theorem cutS_length (c : UInt8) (l : List (List UInt8)) (x : UInt8) : (cutS c l x).length = l.length + if x = c then 1 else 0 := by
  unfold cutS
  split <;> simp
theorem cutL_pos (s : List UInt8) (c : UInt8) : 0 < (cutL s c).length := by
  rcases List.eq_nil_or_concat s with rfl | ⟨r, x, rfl⟩
  · exact Nat.one_pos
  · rw [List.concat_eq_append, cutL_snoc, cutS_length]
    have := cutL_pos r c
    omega
termination_by s.length
decreasing_by rename_i h; rw [h]; simp
theorem cutL_le (s : List UInt8) (c : UInt8) : (cutL s c).length ≤ s.length + 1 := by
  rcases List.eq_nil_or_concat s with rfl | ⟨r, x, rfl⟩
  · exact Nat.le_refl _
  · rw [List.concat_eq_append, cutL_snoc, cutS_length, List.length_append, List.length_singleton]
    have := cutL_le r c
    split <;> omega
termination_by s.length
decreasing_by rename_i h; rw [h]; simp
theorem cutL_piece (s : List UInt8) (c : UInt8) : ∀ p ∈ cutL s c, p.length ≤ s.length := by
  rcases List.eq_nil_or_concat s with rfl | ⟨r, x, rfl⟩
  · intro p hp
    rw [cutL_nil, List.mem_singleton] at hp
    subst hp
    exact Nat.le_refl _
  · have ih := cutL_piece r c
    intro p hp
    rw [List.concat_eq_append, cutL_snoc] at hp
    rw [List.concat_eq_append, List.length_append, List.length_singleton]
    unfold cutS at hp
    split at hp
    · rcases List.mem_append.1 hp with hp | hp
      · have := ih p hp; omega
      · rw [List.mem_singleton] at hp; subst hp; exact Nat.zero_le _
    · rcases List.mem_or_eq_of_mem_set hp with hp | rfl
      · have := ih p hp; omega
      · rw [List.length_append, List.length_singleton]
        have hpos := cutL_pos r c
        have := ih ((cutL r c).getD ((cutL r c).length - 1) []) (by rw [List.getD_eq_getElem?_getD, List.getElem?_eq_getElem (by omega)]; exact List.getElem_mem _)
        omega
termination_by s.length
decreasing_by rename_i h; rw [h]; simp
theorem cutL_getD_le (s : List UInt8) (c : UInt8) (k : Nat) : ((cutL s c).getD k []).length ≤ s.length := by
  by_cases h : k < (cutL s c).length
  · exact cutL_piece s c _ (by rw [List.getD_eq_getElem?_getD, List.getElem?_eq_getElem h]; exact List.getElem_mem _)
  · rw [List.getD_eq_getElem?_getD, List.getElem?_eq_none (by omega)]
    exact Nat.zero_le _
theorem cut_rec (P : List UInt8 → Prop) (h0 : P []) (h1 : ∀ l x, P l → P (l ++ [x])) : ∀ l, P l := fun l => by
  rcases List.eq_nil_or_concat l with rfl | ⟨r, x, rfl⟩
  · exact h0
  · rw [List.concat_eq_append]
    exact h1 r x (cut_rec P h0 h1 r)
termination_by l => l.length
decreasing_by rename_i h; rw [h]; simp
theorem cutS_behind (c x : UInt8) (a : List (List UInt8)) {b : List (List UInt8)} (hb : 0 < b.length) : cutS c (a ++ b) x = a ++ cutS c b x := by
  unfold cutS
  split
  · rw [List.append_assoc]
  · have e1 : (a ++ b).length - 1 = a.length + (b.length - 1) := by rw [List.length_append]; omega
    have e2 : (a ++ b).getD ((a ++ b).length - 1) [] = b.getD (b.length - 1) [] := by
      rw [e1, List.getD_eq_getElem?_getD, List.getD_eq_getElem?_getD, List.getElem?_append_right (by omega), Nat.add_sub_cancel_left]
    rw [e2, e1, List.set_append_right _ _ (by omega), Nat.add_sub_cancel_left]
/-- A text in two, at the byte: its parts. -/
theorem cutL_cons (a : List UInt8) (c : UInt8) (b : List UInt8) : cutL (a ++ c :: b) c = cutL a c ++ cutL b c := by
  refine cut_rec (fun b => cutL (a ++ c :: b) c = cutL a c ++ cutL b c) ?_ (fun l x h => ?_) b
  · rw [cutL_snoc, cutL_nil]
    unfold cutS
    rw [if_pos rfl]
  · rw [show a ++ c :: (l ++ [x]) = (a ++ c :: l) ++ [x] by simp, cutL_snoc, h, cutL_snoc, cutS_behind _ _ _ (cutL_pos l c)]
theorem cutL_one (s : List UInt8) (c : UInt8) : c ∉ s → cutL s c = [s] := by
  refine cut_rec (fun s => c ∉ s → cutL s c = [s]) (fun _ => rfl) (fun l x h hn => ?_) s
  rw [List.mem_append, List.mem_singleton, not_or] at hn
  rw [cutL_snoc, h hn.1]
  unfold cutS
  rw [if_neg (Ne.symm hn.2)]
  rfl
theorem cutL_two {a : List UInt8} {c : UInt8} (b : List UInt8) (h : c ∉ a) : cutL (a ++ c :: b) c = a :: cutL b c := by rw [cutL_cons, cutL_one a c h]; rfl
/-- Where a text is cut. -/
theorem cut_first {c : UInt8} : ∀ {s : List UInt8}, c ∈ s → ∃ a b, s = a ++ c :: b ∧ c ∉ a
  | [], h => by cases h
  | x :: s, h => by
    by_cases hx : x = c
    · exact ⟨[], s, by rw [hx]; rfl, by simp⟩
    · have hm : c ∈ s := by
        rcases List.mem_cons.1 h with e | e
        · exact absurd e.symm hx
        · exact e
      obtain ⟨a, b, e, hn⟩ := cut_first hm
      refine ⟨x :: a, b, by rw [e]; rfl, ?_⟩
      intro h2
      rcases List.mem_cons.1 h2 with e2 | e2
      · exact hx e2.symm
      · exact hn e2
/-- No part has the byte. -/
theorem cutL_noc (s : List UInt8) (c : UInt8) : ∀ p ∈ cutL s c, c ∉ p := by
  refine cut_rec (fun s => ∀ p ∈ cutL s c, c ∉ p) ?_ (fun l x h => ?_) s
  · intro p hp
    rw [cutL_nil, List.mem_singleton] at hp
    subst hp
    simp
  · intro p hp
    rw [cutL_snoc] at hp
    unfold cutS at hp
    split at hp
    · rcases List.mem_append.1 hp with hp | hp
      · exact h p hp
      · rw [List.mem_singleton.1 hp]
        simp
    · rename_i hx
      rcases List.mem_or_eq_of_mem_set hp with hp | rfl
      · exact h p hp
      · rw [List.mem_append, List.mem_singleton, not_or]
        refine ⟨?_, Ne.symm hx⟩
        have hpos := cutL_pos l c
        exact h _ (by rw [List.getD_eq_getElem?_getD, List.getElem?_eq_getElem (by omega)]; exact List.getElem_mem _)
/-- Parts with a / between. -/
def tailL (r : List (List UInt8)) : List UInt8 := (r.map fun y => 47 :: y).flatten
def joinL : List (List UInt8) → List UInt8
  | [] => []
  | x :: r => x ++ tailL r
theorem tailL_snoc (r : List (List UInt8)) (y : List UInt8) : tailL (r ++ [y]) = tailL r ++ 47 :: y := by simp [tailL]
theorem tailL_append (r m : List (List UInt8)) : tailL (r ++ m) = tailL r ++ tailL m := by simp [tailL]
theorem joinL_one (x : List UInt8) : joinL [x] = x := by simp [joinL, tailL]
theorem joinL_snoc {l : List (List UInt8)} (h : l ≠ []) (y : List UInt8) : joinL (l ++ [y]) = joinL l ++ 47 :: y := by
  cases l with
  | nil => exact absurd rfl h
  | cons x r => rw [List.cons_append, joinL, joinL, tailL_snoc, List.append_assoc]
theorem joinL_append {l m : List (List UInt8)} (h : l ≠ []) (h' : m ≠ []) : joinL (l ++ m) = joinL l ++ 47 :: joinL m := by
  cases l with
  | nil => exact absurd rfl h
  | cons x r =>
    cases m with
    | nil => exact absurd rfl h'
    | cons y t =>
      rw [List.cons_append, joinL, joinL, joinL, tailL_append, List.append_assoc]
      congr 1
theorem joinL_grow {l : List (List UInt8)} (m y : List UInt8) : joinL (l ++ [m ++ y]) = joinL (l ++ [m]) ++ y := by
  cases l with
  | nil => rw [List.nil_append, List.nil_append, joinL_one, joinL_one]
  | cons x r => rw [joinL_snoc (by simp), joinL_snoc (by simp), List.append_assoc, List.cons_append]
theorem split_end {l : List (List UInt8)} (h : 0 < l.length) : ∃ m x, l = m ++ [x] := by
  rcases List.eq_nil_or_concat l with rfl | ⟨m, x, rfl⟩
  · simp at h
  · exact ⟨m, x, by rw [List.concat_eq_append]⟩
theorem cutS_end (c : UInt8) (m : List (List UInt8)) (x : List UInt8) (b : UInt8) : cutS c (m ++ [x]) b = if b = c then m ++ [x] ++ [[]] else m ++ [x ++ [b]] := by
  unfold cutS
  split
  · rfl
  · have e : (m ++ [x]).length - 1 = m.length := by simp
    rw [e, List.getD_eq_getElem?_getD, List.getElem?_append_right (Nat.le_refl _), Nat.sub_self]
    simp
/-- What is cut is joined. -/
theorem join_cut (s : List UInt8) : joinL (cutL s 47) = s := by
  refine cut_rec (fun s => joinL (cutL s 47) = s) rfl (fun l b h => ?_) s
  obtain ⟨m, x, hm⟩ := split_end (cutL_pos l 47)
  rw [cutL_snoc, hm, cutS_end]
  rw [hm] at h
  split
  · rename_i hb
    rw [joinL_snoc (by simp), h, hb]
  · rw [joinL_grow, h]
/-- What is joined is cut. -/
theorem cut_join : ∀ {l : List (List UInt8)}, l ≠ [] → (∀ x ∈ l, (47 : UInt8) ∉ x) → cutL (joinL l) 47 = l
  | [], h, _ => absurd rfl h
  | [x], _, hn => by rw [joinL_one, cutL_one x 47 (hn x (by simp))]
  | x :: y :: r, _, hn => by
    have e : joinL (x :: y :: r) = x ++ 47 :: joinL (y :: r) := rfl
    rw [e, cutL_two _ (hn x (by simp)), cut_join (by simp) (fun z hz => hn z (by simp [hz]))]
/-- One part: what it does to the parts that stand. -/
def stepP (o : Option (List (List UInt8))) (x : List UInt8) : Option (List (List UInt8)) :=
  match o with
  | none => none
  | some l => if x = [] ∨ x = [46] then some l else if x = [46, 46] then (if l = [] then none else some l.dropLast) else if (0 : UInt8) ∈ x then none else some (l ++ [x])
def foldP (l : List (List UInt8)) : Option (List (List UInt8)) := l.foldl stepP (some [])
theorem fold_none : ∀ l : List (List UInt8), l.foldl stepP none = none
  | [] => rfl
  | _ :: l => fold_none l
theorem foldP_snoc (l : List (List UInt8)) (x : List UInt8) : foldP (l ++ [x]) = stepP (foldP l) x := by simp [foldP]
/-- A path, cleaned: 71 (it leads out, or may not be), 3 (too long), or 0. -/
def cleanR : Option (List (List UInt8)) → List UInt8 × Int
  | none => ([], 71)
  | some l => if 200 < (joinL l).length then ([], 3) else (joinL l, 0)
def cleanL (s : List UInt8) : List UInt8 × Int := cleanR (foldP (cutL s 47))
/-- A part of a clean path. -/
def goodB (x : List UInt8) : Bool := !decide (x = []) && (!decide (x = [46]) && (!decide (x = [46, 46]) && !decide ((0 : UInt8) ∈ x)))
def cleanB (s : List UInt8) : Bool := decide (s = []) || ((cutL s 47).all goodB && decide (s.length ≤ 200))
theorem good_iff (x : List UInt8) : goodB x = true ↔ x ≠ [] ∧ x ≠ [46] ∧ x ≠ [46, 46] ∧ (0 : UInt8) ∉ x := by
  unfold goodB
  simp only [Bool.and_eq_true, Bool.not_eq_true', decide_eq_false_iff_not]
/-- Parts of a clean path. -/
def Good (l : List (List UInt8)) : Prop := ∀ x ∈ l, goodB x = true ∧ (47 : UInt8) ∉ x
theorem good_step {l : List (List UInt8)} {x : List UInt8} (hx : goodB x = true) : stepP (some l) x = some (l ++ [x]) := by
  obtain ⟨h1, h2, h3, h4⟩ := (good_iff x).1 hx
  unfold stepP
  simp only
  rw [if_neg (by rintro (h | h); exact h1 h; exact h2 h), if_neg h3, if_neg h4]
theorem fold_good : ∀ (ps acc : List (List UInt8)), Good ps → ps.foldl stepP (some acc) = some (acc ++ ps)
  | [], acc, _ => by rw [List.append_nil]; rfl
  | x :: ps, acc, h => by
    rw [List.foldl_cons, good_step (h x (by simp)).1, fold_good ps (acc ++ [x]) (fun y hy => h y (by simp [hy])), List.append_assoc]
    rfl
theorem step_keeps {l l' : List (List UInt8)} {x : List UInt8} (hx : (47 : UInt8) ∉ x) (hl : Good l) (h : stepP (some l) x = some l') : Good l' := by
  unfold stepP at h
  simp only at h
  split at h
  · cases h; exact hl
  · rename_i h1
    rw [not_or] at h1
    split at h
    · split at h
      · cases h
      · cases h
        intro y hy
        exact hl y (List.dropLast_subset l hy)
    · rename_i h3
      split at h
      · cases h
      · rename_i h4
        cases h
        intro y hy
        rcases List.mem_append.1 hy with hy | hy
        · exact hl y hy
        · rw [List.mem_singleton.1 hy]
          exact ⟨(good_iff x).2 ⟨h1.1, h1.2, h3, h4⟩, hx⟩
theorem fold_keeps : ∀ (ps : List (List UInt8)) {l l' : List (List UInt8)}, (∀ x ∈ ps, (47 : UInt8) ∉ x) → Good l → ps.foldl stepP (some l) = some l' → Good l'
  | [], _, _, _, hl, h => by cases h; exact hl
  | x :: ps, l, l', hp, hl, h => by
    rw [List.foldl_cons] at h
    cases e : stepP (some l) x with
    | none => rw [e, fold_none] at h; cases h
    | some m =>
      rw [e] at h
      exact fold_keeps ps (fun y hy => hp y (by simp [hy])) (step_keeps (hp x (by simp)) hl e) h
theorem foldP_good {s : List UInt8} {l : List (List UInt8)} (h : foldP (cutL s 47) = some l) : Good l :=
  fold_keeps _ (cutL_noc s 47) (fun x hx => by cases hx) h
theorem good_len {l : List (List UInt8)} (h : Good l) : 2 * l.length ≤ (joinL l).length + 1 := by
  cases l with
  | nil => simp [joinL]
  | cons x r =>
    have hx := ((good_iff x).1 (h x (by simp)).1).1
    have h1 : 1 ≤ x.length := by cases x with | nil => exact absurd rfl hx | cons a t => simp
    have ht : ∀ r : List (List UInt8), (∀ y ∈ r, goodB y = true) → 2 * r.length ≤ (tailL r).length := by
      intro r
      induction r with
      | nil => intro _; simp [tailL]
      | cons y r ih =>
        intro hr
        have hy := ((good_iff y).1 (hr y (by simp))).1
        have h2 : 1 ≤ y.length := by cases y with | nil => exact absurd rfl hy | cons a t => simp
        have := ih (fun z hz => hr z (by simp [hz]))
        have e : tailL (y :: r) = 47 :: y ++ tailL r := by simp [tailL]
        rw [e, List.length_append, List.length_cons, List.length_cons]
        omega
    have := ht r (fun y hy => (h y (by simp [hy])).1)
    rw [joinL, List.length_append, List.length_cons]
    omega
theorem good_cut {l : List (List UInt8)} (h : Good l) (hne : l ≠ []) : cutL (joinL l) 47 = l := cut_join hne (fun x hx => (h x hx).2)
theorem good_fold {l : List (List UInt8)} (h : Good l) : foldP (cutL (joinL l) 47) = some l := by
  by_cases hne : l = []
  · subst hne; rfl
  · rw [good_cut h hne]
    exact fold_good l [] h
theorem clean_some {s t : List UInt8} (h : cleanL s = (t, 0)) : ∃ l, foldP (cutL s 47) = some l ∧ Good l ∧ t = joinL l ∧ t.length ≤ 200 := by
  unfold cleanL at h
  cases e : foldP (cutL s 47) with
  | none => rw [e] at h; cases h
  | some l =>
    rw [e] at h
    unfold cleanR at h
    simp only at h
    split at h
    · cases h
    · rename_i hlen
      cases h
      exact ⟨l, rfl, foldP_good e, rfl, by omega⟩
theorem clean_join {l : List (List UInt8)} (h : Good l) (hlen : (joinL l).length ≤ 200) : cleanL (joinL l) = (joinL l, 0) := by
  unfold cleanL
  rw [good_fold h]
  unfold cleanR
  simp only
  rw [if_neg (by omega)]
theorem cleanB_join {l : List (List UInt8)} (h : Good l) (hlen : (joinL l).length ≤ 200) : cleanB (joinL l) = true := by
  unfold cleanB
  by_cases hne : l = []
  · subst hne; rfl
  · rw [good_cut h hne, decide_eq_true hlen, Bool.and_true, Bool.or_eq_true]
    right
    rw [List.all_eq_true]
    exact fun x hx => (h x hx).1
/-- What Clean tells is clean, and Clean tells it of itself; of a clean one it tells itself. -/
theorem clean_clean {s t : List UInt8} (h : cleanL s = (t, 0)) : cleanB t = true ∧ cleanL t = (t, 0) := by
  obtain ⟨l, _, hg, rfl, hl⟩ := clean_some h
  exact ⟨cleanB_join hg hl, clean_join hg hl⟩
theorem clean_len (s : List UInt8) : (cleanL s).1.length ≤ 200 := by
  unfold cleanL cleanR
  split
  · simp
  · split
    · simp
    · simp only; omega
/-- Parent, Base, Join, Inside. -/
def parentL (s : List UInt8) : List UInt8 := joinL (cutL s 47).dropLast
def baseL (s : List UInt8) : List UInt8 := (cutL s 47).getD ((cutL s 47).length - 1) []
def join2 (d p : List UInt8) : List UInt8 := if d = [] then p else if p = [] then d else d ++ 47 :: p
def insideB (d p : List UInt8) : Bool := decide (d = []) || (decide (p = d) || decide (d ++ [47] <+: p))
theorem getD_end (m : List (List UInt8)) (x : List UInt8) : (m ++ [x]).getD ((m ++ [x]).length - 1) [] = x := by
  have e : (m ++ [x]).length - 1 = m.length := by simp
  rw [e, List.getD_eq_getElem?_getD, List.getElem?_append_right (Nat.le_refl _), Nat.sub_self]
  rfl
theorem parent_hit (a : List UInt8) {b : List UInt8} (h : (47 : UInt8) ∉ b) : parentL (a ++ 47 :: b) = a ∧ baseL (a ++ 47 :: b) = b := by
  have e : cutL (a ++ 47 :: b) 47 = cutL a 47 ++ [b] := by rw [cutL_cons, cutL_one b 47 h]
  unfold parentL baseL
  rw [e, getD_end, List.dropLast_concat, join_cut]
  exact ⟨rfl, rfl⟩
theorem parent_miss {b : List UInt8} (h : (47 : UInt8) ∉ b) : parentL b = [] ∧ baseL b = b := by
  unfold parentL baseL
  rw [cutL_one b 47 h]
  exact ⟨rfl, rfl⟩
theorem cut_last : ∀ {s : List UInt8}, (47 : UInt8) ∈ s → ∃ a b, s = a ++ 47 :: b ∧ (47 : UInt8) ∉ b
  | [], h => by cases h
  | x :: s, h => by
    by_cases hm : (47 : UInt8) ∈ s
    · obtain ⟨a, b, e, hn⟩ := cut_last hm
      exact ⟨x :: a, b, by rw [e]; rfl, hn⟩
    · rcases List.mem_cons.1 h with e | e
      · exact ⟨[], s, by rw [← e]; rfl, hm⟩
      · exact absurd e hm
theorem good_parent {m : List (List UInt8)} {x : List UInt8} (h : Good (m ++ [x])) : parentL (joinL (m ++ [x])) = joinL m ∧ baseL (joinL (m ++ [x])) = x := by
  unfold parentL baseL
  rw [good_cut h (by simp), getD_end, List.dropLast_concat]
  exact ⟨rfl, rfl⟩
theorem good_front {m : List (List UInt8)} {x : List UInt8} (h : Good (m ++ [x])) : Good m := fun y hy => h y (by simp [hy])
theorem good_end {m : List (List UInt8)} {x : List UInt8} (h : Good (m ++ [x])) : x ≠ [] := ((good_iff x).1 (h x (by simp)).1).1
theorem shorter {m : List (List UInt8)} {x : List UInt8} (h : Good (m ++ [x])) : (joinL m).length < (joinL (m ++ [x])).length := by
  by_cases hm : m = []
  · subst hm
    rw [List.nil_append, joinL_one]
    have := List.length_pos_iff.2 (good_end h)
    simpa [joinL] using this
  · rw [joinL_snoc hm, List.length_append, List.length_cons]
    omega
/-- Whiteouts. -/
def whB : List UInt8 := [46, 119, 104, 46]
def opqB : List UInt8 := [46, 119, 104, 46, 46, 119, 104, 46, 46, 111, 112, 113]
def mayGoB (n : List UInt8) : Bool := !decide (n = []) && (!decide (n = [46]) && (!decide (n = [46, 46]) && !decide (whB <+: n)))
def whiteL (s : List UInt8) : List UInt8 × Bool × Bool := if s = opqB then ([], true, true) else if (decide (whB <+: s) && mayGoB (s.drop 4)) = true then (s.drop 4, false, true) else ([], false, false)
theorem white_cases (s : List UInt8) : (s = opqB ∧ whiteL s = ([], true, true)) ∨ (∃ n, s = whB ++ n ∧ mayGoB n = true ∧ whiteL s = (n, false, true)) ∨ (whiteL s = ([], false, false)) := by
  unfold whiteL
  split
  · rename_i h; exact .inl ⟨h, rfl⟩
  · split
    · rename_i h
      rw [Bool.and_eq_true, decide_eq_true_eq] at h
      obtain ⟨⟨n, rfl⟩, h2⟩ := h
      have e : (whB ++ n).drop 4 = n := rfl
      rw [e] at h2 ⊢
      exact .inr (.inl ⟨n, rfl, h2, rfl⟩)
    · exact .inr (.inr rfl)
end Go.Proofs.YtbjgmkjinnbokaaGreatDoor

/- Layer 14: rows of texts in memory, and such as were cut by three indices. -/
namespace Go.Proofs.YtbjgmkjinnbokaaGreatDoor
open Go.RowKit

theorem beq_u8 (a b : UInt8) : (((a.toNat : Int)) == (b.toNat : Int)) = decide (a = b) := by
  rw [Bool.eq_iff_iff, beq_iff_eq, decide_eq_true_eq]
  constructor
  · intro h; exact UInt8.toNat_inj.1 (by omega)
  · intro h; rw [h]
/-- A text's parts as a row of strings. -/
def strsV (l : List (List UInt8)) : List Value := l.map fun p => .string (str p)
def OwnsS (w : World) (base : Nat) (v : Value) (l : List (List UInt8)) : Prop := w.ownsRow base 9 1 v l.length (strsV l)
theorem info_string : (Tryz.prog.info? 9).map (fun i => (i.zero, i.size, i.bytes)) = some (some (.string ⟨#[]⟩), 1, 16) := by kernel_rfl
theorem OwnsS.form {w : World} {base : Nat} {v : Value} {l : List (List UInt8)} (h : OwnsS w base v l) : ∃ a cap, v = .slice a l.length cap := owns_form h
theorem OwnsS.at {w : World} {base : Nat} {a : Option Addr} {n cap : Nat} {l : List (List UInt8)} (h : OwnsS w base (.slice a n cap) l) {k : Nat} (hk : k < l.length) :
    ∃ g, a = some ⟨g, 0, none⟩ ∧ base ≤ g ∧ w.cell? ⟨g, k, none⟩ = some (.string (str (l.getD k []))) := by
  obtain ⟨g, cap', hv⟩ := owns_some h (by omega)
  simp only [Value.slice.injEq] at hv
  obtain ⟨rfl, rfl, rfl⟩ := hv
  refine ⟨g, rfl, (h.lt g rfl).1, ?_⟩
  rw [h.cellAt k (by simpa [strsV] using hk)]
  unfold strsV
  rw [List.getElem?_map, List.getElem?_eq_getElem hk, List.getD_eq_getElem?_getD, List.getElem?_eq_getElem hk]
  rfl
theorem OwnsS.set {w : World} {base g n cap : Nat} {l : List (List UInt8)} (h : OwnsS w base (.slice (some ⟨g, 0, none⟩) n cap) l) (k : Nat) (x : List UInt8) : OwnsS (w.setCell ⟨g, k, none⟩ (.string (str x))) base (.slice (some ⟨g, 0, none⟩) n cap) (l.set k x) := by
  obtain ⟨a, c, hv⟩ := h.form
  simp only [Value.slice.injEq] at hv
  obtain ⟨-, rfl, -⟩ := hv
  have h2 := (World.ownsRow.stored h k (.string (str x))).1
  show World.ownsRow _ _ _ _ _ _ _
  unfold strsV at h2 ⊢
  rw [List.length_set, List.map_set]
  exact h2
/-- A text's parts, as they lie from an address on. -/
def RdS (w : World) (a : Option Addr) (l : List (List UInt8)) : Prop := ∀ k, k < l.length → ∃ g, a = some ⟨g, 0, none⟩ ∧ g < w.heap.size ∧ w.cell? ⟨g, k, none⟩ = some (.string (str (l.getD k [])))
theorem OwnsS.rd {w : World} {base : Nat} {a : Option Addr} {n cap : Nat} {l : List (List UInt8)} (h : OwnsS w base (.slice a n cap) l) : RdS w a l := fun k hk => by
  obtain ⟨g, hg, _, hc⟩ := h.at hk
  exact ⟨g, hg, World.block_lt_of_cell? w ⟨g, k, none⟩ hc, hc⟩
theorem RdS.below {w w' : World} {a : Option Addr} {l : List (List UInt8)} (h : RdS w a l) (hb : Below w.heap.size w w') : RdS w' a l := fun k hk => by
  obtain ⟨g, hg, hlt, hc⟩ := h k hk
  exact ⟨g, hg, Nat.lt_of_lt_of_le hlt hb.size, (World.cell?_of_block (hb.block g hlt)).trans hc⟩
/-- A row of texts of which more may lie behind than its capacity says. -/
def OwnsC (w : World) (base : Nat) (v : Value) (l : List (List UInt8)) : Prop :=
  (v = .slice none 0 0 ∧ l = []) ∨
  ∃ g cap cur, v = .slice (some ⟨g, 0, none⟩) l.length cap ∧ base ≤ g ∧ w.heap[g]? = some (.cells cur 9 (0, 0)) ∧ l.length ≤ cap ∧ cap ≤ maxLen ∧ cap ≤ cur.size ∧ cur.toList.take l.length = strsV l
theorem OwnsC.of {w : World} {base : Nat} {v : Value} {l : List (List UInt8)} (h : OwnsS w base v l) : OwnsC w base v l := by
  obtain ⟨h0, h⟩ := h
  rcases h with ⟨hv, hn⟩ | ⟨g, cap, cur, hv, hb, hg, hn, hm, hs, ht⟩
  · exact .inl ⟨hv, List.eq_nil_of_length_eq_zero hn⟩
  · exact .inr ⟨g, cap, cur, hv, hb, hg, hn, hm, by omega, by rwa [Nat.mul_one] at ht⟩
theorem OwnsC.form {w : World} {base : Nat} {v : Value} {l : List (List UInt8)} (h : OwnsC w base v l) : ∃ a cap, v = .slice a l.length cap ∧ l.length ≤ cap ∧ cap ≤ maxLen := by
  rcases h with ⟨rfl, rfl⟩ | ⟨g, cap, cur, rfl, hb, hg, hn, hm, _, _⟩
  · exact ⟨none, 0, rfl, Nat.le_refl _, by unfold maxLen; omega⟩
  · exact ⟨_, cap, rfl, hn, hm⟩
theorem OwnsC.block {w : World} {base : Nat} {v : Value} {l : List (List UInt8)} (h : OwnsC w base v l) : ∀ g, v.ownBlock = some g → base ≤ g ∧ g < w.heap.size := by
  intro g hg
  rcases h with ⟨rfl, rfl⟩ | ⟨g', cap, cur, rfl, hb, hgg, hn, hm, _, _⟩
  · cases hg
  · simp [Value.ownBlock] at hg
    subst hg
    exact ⟨hb, (Array.getElem?_eq_some_iff.1 hgg).1⟩
theorem OwnsC.kept {w w' : World} {base : Nat} {v : Value} {l : List (List UInt8)} (h : OwnsC w base v l) (hk : ∀ g, base ≤ g → g < w.heap.size → v.ownBlock = some g → w'.heap[g]? = w.heap[g]?) : OwnsC w' base v l := by
  have hb := h.block
  rcases h with hn | ⟨g, cap, cur, rfl, hbg, hg, rest⟩
  · exact .inl hn
  · exact .inr ⟨g, cap, cur, rfl, hbg, (hk g hbg (Array.getElem?_eq_some_iff.1 hg).1 rfl).trans hg, rest⟩
theorem OwnsC.below {w w' : World} {base : Nat} {v : Value} {l : List (List UInt8)} (h : OwnsC w base v l) (hb : Below w.heap.size w w') : OwnsC w' base v l := h.kept fun g _ hg _ => hb.block g hg
theorem OwnsC.rd {w : World} {base : Nat} {a : Option Addr} {n cap : Nat} {l : List (List UInt8)} (h : OwnsC w base (.slice a n cap) l) : RdS w a l := fun k hk => by
  rcases h with ⟨_, rfl⟩ | ⟨g, cap', cur, hv, hb, hg, hn, hm, hs, ht⟩
  · cases hk
  · simp only [Value.slice.injEq] at hv
    obtain ⟨rfl, _, _⟩ := hv
    refine ⟨g, rfl, (Array.getElem?_eq_some_iff.1 hg).1, ?_⟩
    rw [cell_of_row w g k cur _ (0, 0) hg]
    have h1 : (cur.toList.take l.length)[k]? = (strsV l)[k]? := by rw [ht]
    rw [List.getElem?_take, if_pos hk] at h1
    rw [← Array.getElem?_toList, h1]
    unfold strsV
    rw [List.getElem?_map, List.getElem?_eq_getElem hk, List.getD_eq_getElem?_getD, List.getElem?_eq_getElem hk]
    rfl
/-- The last one is cut off, with all that lies behind. -/
theorem OwnsC.cut {w : World} {base : Nat} {a : Option Addr} {n cap : Nat} {l : List (List UInt8)} (h : OwnsC w base (.slice a n cap) l) (hl : l ≠ []) : OwnsC w base (.slice a (l.length - 1) (l.length - 1)) l.dropLast := by
  rcases h with ⟨_, rfl⟩ | ⟨g, cap', cur, hv, hb, hg, hn, hm, hs, ht⟩
  · exact absurd rfl hl
  · simp only [Value.slice.injEq] at hv
    obtain ⟨rfl, _, _⟩ := hv
    have hd : l.dropLast.length = l.length - 1 := List.length_dropLast
    refine .inr ⟨g, l.length - 1, cur, by rw [hd], hb, hg, by omega, by omega, by omega, ?_⟩
    have e : strsV l.dropLast = (strsV l).take (l.length - 1) := by
      unfold strsV
      rw [List.dropLast_eq_take, List.map_take]
    rw [hd, e, ← ht, List.take_take]
    congr 1
    omega
/-- One text more. -/
theorem run_append_c (w : World) (base : Nat) (v : Value) (l : List (List UInt8)) (h : OwnsC w base v l) (ad : Addr) (c : Nat) (x : List UInt8) (hx : w.cell? (ad.add 0) = some (.string (str x)))
    (hl : l.length ≤ 1000000) (hbase : base ≤ w.heap.size) (ty : TypeId) :
    ∃ v' w', (Builtin.append_ #[100, 100] ty #[v, .slice (some ad) 1 c]).run Tryz.prog w = .ok v' w' ∧ OwnsC w' base v' (l ++ [x]) ∧ w.grownBy w' v.ownBlock := by
  obtain ⟨i0, hi, hz0, hz1, hz2⟩ := info_parts info_string
  have hnews : ∀ j u, [Value.string (str x)][j]? = some u → w.cell? (ad.add j) = some u := by
    intro j u hu
    match j, hu with
    | 0, hu =>
      simp at hu
      subst hu
      exact hx
  have h1 : ∀ u ∈ [Value.string (str x)], u.oneCell' = true := by
    intro u hu
    rw [List.mem_singleton] at hu
    subst hu
    rfl
  have hlen : (strsV l).length = l.length := by simp [strsV]
  by_cases hroom : ∃ g cap cur, v = .slice (some ⟨g, 0, none⟩) l.length cap ∧ base ≤ g ∧ w.heap[g]? = some (.cells cur 9 (0, 0)) ∧ l.length + 1 ≤ cap ∧ cap ≤ maxLen ∧ cap ≤ cur.size ∧ cur.toList.take l.length = strsV l
  · obtain ⟨g, cap, cur, rfl, hb, hg, hr, hm, hs, ht⟩ := hroom
    have hfit : l.length * i0.size + [Value.string (str x)].length ≤ cur.size := by rw [hz1, List.length_singleton]; omega
    refine ⟨_, _, run_append_room w 100 ty 9 i0 Tryz.underlying100 hi g l.length cap cur hg ad 1 c [.string (str x)] (by rw [hz1]; rfl) hnews h1 hr hfit, .inr ⟨g, cap, _, by rw [List.length_append]; rfl, hb, setRow_heap w g cur _ _ _ hg, by rw [List.length_append]; exact hr, hm, ?_, ?_⟩, ⟨rfl, rfl, rfl, by simp, fun k _ hk => setRow_other w g k _ (fun e => hk (by simp [Value.ownBlock, e]))⟩⟩
    · simp only [List.size_toArray, List.length_append, List.length_take, List.length_drop, Array.length_toList, List.length_singleton]
      omega
    · rw [hz1, Nat.mul_one, ht]
      have e : strsV (l ++ [x]) = strsV l ++ [.string (str x)] := by unfold strsV; rw [List.map_append]; rfl
      rw [e]
      exact List.take_left' (by simp [hlen])
  · -- a new row
    have hbytes : (l.length + 1) * 16 ≤ 140737488355328 := by omega
    rcases h with ⟨rfl, rfl⟩ | ⟨g, cap, cur, rfl, hb, hg, hn, hm, hs, ht⟩
    · obtain ⟨v', w', hr, h2, h3, _, _⟩ := run_append_own_at (P := Tryz.prog) w base 100 ty 9 i0 (.string ⟨#[]⟩) 1 16 Tryz.underlying100 hi hz0 hz1 hz2 rfl (by decide) (.slice none 0 0) 0 [] (World.ownsRow_nil w base _ 1) ad 1 c [.string (str x)] rfl hnews h1 (by unfold maxLen; omega) (by omega) hbase
      exact ⟨v', w', hr, OwnsC.of h2, h3⟩
    · have hc : cap = l.length := by
        rcases Nat.lt_or_ge l.length cap with hlt | hge
        · exact absurd ⟨g, cap, cur, rfl, hb, hg, hlt, hm, hs, ht⟩ hroom
        · omega
      subst hc
      have hown : w.ownsRow base 9 1 (.slice (some ⟨g, 0, none⟩) l.length l.length) l.length (strsV l) ∨ True := .inr trivial
      have holds : ∀ j u, (strsV l)[j]? = some u → w.cell? ((⟨g, 0, none⟩ : Addr).add j) = some u := by
        intro j u hu
        have hadd : (⟨g, 0, none⟩ : Addr).add j = ⟨g, j, none⟩ := by unfold Addr.add; split <;> simp_all
        rw [hadd, cell_of_row w g j cur _ (0, 0) hg]
        rw [← ht, List.getElem?_take] at hu
        split at hu
        · simpa using hu
        · cases hu
      have hr := run_append_grow (P := Tryz.prog) w 100 ty 9 i0 (.string ⟨#[]⟩) Tryz.underlying100 hi hz0 ⟨g, 0, none⟩ l.length l.length (strsV l) (by rw [hz1, Nat.mul_one]; exact hlen) holds ad 1 c [.string (str x)] (by rw [hz1]; rfl) hnews (by omega) (by omega) (growslice_fits (by omega) (by rw [hz2]; exact hbytes))
      have hge := grownCap_ge w (l.length + 1) l.length 9
      have hcm : grownCap w (l.length + 1) l.length 9 ≤ maxLen := grownCap_le_maxLen w (l.length + 1) l.length _ (by unfold maxLen; omega)
      refine ⟨_, _, hr, .inr ⟨w.heap.size, _, _, by rw [List.length_append]; rfl, hbase, heap_alloc_new w.drew _, by rw [List.length_append]; exact hge, hcm, ?_, ?_⟩, ⟨rfl, rfl, rfl, by simp, fun k hk _ => Below.heap_alloc w.drew _ k hk⟩⟩
      · simp only [Array.size_append, List.size_toArray, size_zeroCells, hlen, List.length_singleton]
        have : (Value.string ⟨#[]⟩).cells.size = 1 := rfl
        rw [this]
        omega
      · have e : strsV (l ++ [x]) = strsV l ++ [.string (str x)] := by unfold strsV; rw [List.map_append]; rfl
        simp only [Array.toList_append, List.append_assoc]
        rw [e, ← List.append_assoc, List.length_append, List.length_singleton, ← hlen]
        exact List.take_left' (by simp)
end Go.Proofs.YtbjgmkjinnbokaaGreatDoor

