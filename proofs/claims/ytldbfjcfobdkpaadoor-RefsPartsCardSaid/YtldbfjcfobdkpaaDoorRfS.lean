/- Layer 12: the text of a name that may be, and its short one, are read as that name. -/
import Derived.Test.YtldbfjcfobdkpaaDoorRfN
namespace Go.Proofs.YtldbfjcfobdkpaaDoor

theorem cutL_sums (s : List UInt8) (c : UInt8) : (cutL s c).length + ((cutL s c).map List.length).sum = s.length + 1 := by
  refine cut_rec (fun s => (cutL s c).length + ((cutL s c).map List.length).sum = s.length + 1) rfl (fun l x h => ?_) s
  have hpos := cutL_pos l c
  rw [cutL_snoc, cutS_length, List.length_append, List.length_singleton]
  unfold cutS
  split
  · rw [List.map_append, List.sum_append]
    simp only [List.map_cons, List.map_nil, List.length_nil, List.sum_cons, List.sum_nil]
    omega
  · have key : ∀ (m : List (List UInt8)), 0 < m.length → ((m.set (m.length - 1) (m.getD (m.length - 1) [] ++ [x])).map List.length).sum = (m.map List.length).sum + 1 := by
      intro m hm
      rcases List.eq_nil_or_concat m with rfl | ⟨r, y, rfl⟩
      · cases hm
      · rw [List.concat_eq_append, List.length_append, List.length_singleton, Nat.add_sub_cancel, List.set_append_right _ _ (Nat.le_refl _), Nat.sub_self, List.getD_eq_getElem?_getD, List.getElem?_append_right (Nat.le_refl _), Nat.sub_self]
        simp only [List.getElem?_cons_zero, Option.getD_some, List.set_cons_zero, List.map_append, List.map_cons, List.map_nil, List.sum_append, List.sum_cons, List.sum_nil, List.length_append, List.length_singleton]
        omega
    rw [key _ hpos]
    omega
structure May (r : RR) : Prop where
  d : domainB r.dom = true
  f : frontR (r.dom ++ [47]) ≠ []
  i : r.dom ≠ indexB
  p : pathB r.path = true
  n : ¬ (r.dom = hubB ∧ (cutL r.path 47).length < 2)
  t : r.tag = [] → r.pin = true
  k : r.tag ≠ [] → tagOk r.tag = true
  z : r.pin = false → r.dig = zero32
  l : (textR r).length ≤ 200
theorem may_parts {r : RR} (h : mayR r = true) : May r := by
  unfold mayR placeOk tagsOk sizeOk at h
  simp only [Bool.and_eq_true, Bool.not_eq_true', decide_eq_false_iff_not, Bool.or_eq_true, decide_eq_true_eq, Bool.and_eq_false_iff] at h
  obtain ⟨⟨h1, h2, h3, h4, h5⟩, h6, h7, h8⟩ := h
  refine ⟨h1, h2, h3, h4, ?_, fun e => ?_, fun e => ?_, fun e => ?_, h8⟩
  · rintro ⟨a, b⟩
    rcases h5 with h5 | h5
    · exact h5 a
    · exact h5 b
  · rw [if_pos e] at h6
    exact h6
  · rw [if_neg e] at h6
    exact h6
  · rcases h7 with h7 | h7
    · rw [h7] at e; cases e
    · exact h7
theorem dom_no47 {r : RR} (h : May r) : (47 : UInt8) ∉ r.dom := domain_not h.d (by decide) (by decide) (by decide) (by decide)
theorem dom_no64 {r : RR} (h : May r) : (64 : UInt8) ∉ r.dom := domain_not h.d (by decide) (by decide) (by decide) (by decide)
theorem path_no64 {r : RR} (h : May r) : (64 : UInt8) ∉ r.path := path_not h.p (by decide) (by decide)
theorem path_no58 {r : RR} (h : May r) : (58 : UInt8) ∉ r.path := path_not h.p (by decide) (by decide)
theorem front_of {D : List UInt8} (P : List UInt8) (h : (47 : UInt8) ∉ D) (hf : frontR (D ++ [47]) ≠ []) : frontR (D ++ 47 :: P) = D ∧ D ≠ [] := by
  have e0 : cutL (D ++ [47]) 47 = [D, []] := cutL_two [] h
  have e1 : cutL (D ++ 47 :: P) 47 = D :: cutL P 47 := cutL_two P h
  have hp := cutL_pos P 47
  unfold frontR at hf ⊢
  rw [e0] at hf
  rw [e1]
  split at hf
  · rename_i hc
    rw [Bool.and_eq_true] at hc
    refine ⟨if_pos ?_, hf⟩
    rw [Bool.and_eq_true, decide_eq_true_eq, List.length_cons]
    exact ⟨by omega, hc.2⟩
  · exact absurd rfl hf
theorem full_dom {r : RR} (h : May r) : domR (r.dom ++ 47 :: r.path) = r.dom := by
  obtain ⟨h1, h2⟩ := front_of r.path (dom_no47 h) h.f
  unfold domR
  rw [h1, if_neg]
  rintro (e | e)
  · exact h2 e
  · exact h.i e
theorem full_rest {r : RR} (h : May r) : restR (r.dom ++ 47 :: r.path) = r.path := by
  obtain ⟨h1, h2⟩ := front_of r.path (dom_no47 h) h.f
  unfold restR
  rw [h1, if_neg h2, List.drop_append, List.drop_of_length_le (by omega), Nat.add_sub_cancel_left]
  rfl
theorem full_path {r : RR} (h : May r) : pathR (r.dom ++ 47 :: r.path) = r.path := by
  unfold pathR
  rw [full_dom h, full_rest h, if_neg]
  rintro ⟨a, b⟩
  exact h.n ⟨a, by omega⟩
/-- Any way of writing a name ahead of its tag that comes to its domain and path. -/
theorem core {r : RR} (hd : r.dig.length = 32) (hm : mayR r = true) {X : List UInt8} (hx : (64 : UInt8) ∉ X) (hg : (lessR r).tag = [] → tagged X = false) (h1 : domR X = r.dom) (h2 : pathR X = r.path)
    {t : List UInt8} (ht : t = (lessR r).tag ∨ t = r.tag) (hl : (X ++ tailT t ++ tailD r.pin r.dig).length ≤ 200) : parseR (X ++ tailT t ++ tailD r.pin r.dig) = (r, 0) := by
  have M := may_parts hm
  have hk : t ≠ [] → tagOk t = true := by
    intro h
    rcases ht with e | e
    · unfold lessR at e
      split at e
      · exact absurd e h
      · rw [e] at h ⊢
        exact M.k h
    · rw [e] at h ⊢
      exact M.k h
  have hno : ∀ x : UInt8, x ∉ allB ++ [95, 46, 45] → x ∉ t := by
    intro x hx hm
    by_cases h : t = []
    · rw [h] at hm
      cases hm
    · exact tag_not (hk h) hx hm
  have hless : t = [] → (lessR r).tag = [] := by
    intro h
    rcases ht with e | e
    · rw [← e]; exact h
    · unfold lessR
      split
      · rfl
      · rw [← e]; exact h
  have htag : (if t = [] then if r.pin = true then [] else latestB else t) = r.tag := by
    rcases ht with e | e
    · unfold lessR at e
      split at e
      · rename_i hc
        rw [e, if_pos rfl, hc.2, if_neg (by decide), hc.1]
      · by_cases h : r.tag = []
        · rw [e, if_pos h, if_pos (M.t h), h]
        · rw [e, if_neg h]
    · by_cases h : r.tag = []
      · rw [e, if_pos h, if_pos (M.t h), h]
      · rw [e, if_neg h]
  refine parse_made hd hx (hno 64 (by decide)) (hno 58 (by decide)) (hno 47 (by decide)) (fun h => hg (hless h)) ?_ hm hl
  rw [h1, h2, htag]
  have hdig : (if r.pin = true then r.dig else zero32) = r.dig := by
    by_cases hp : r.pin = true
    · rw [if_pos hp]
    · rw [if_neg hp, M.z (by simpa using hp)]
  rw [hdig]
theorem full_64 {r : RR} (M : May r) : (64 : UInt8) ∉ r.dom ++ 47 :: r.path := by
  rw [List.mem_append, List.mem_cons]
  rintro (h | h | h)
  · exact dom_no64 M h
  · exact absurd h (by decide)
  · exact path_no64 M h
theorem textR_full (r : RR) : textR r = (r.dom ++ 47 :: r.path) ++ tailT r.tag ++ tailD r.pin r.dig := by rw [textR_tail]; simp
theorem lessR_tail (r : RR) : textR (lessR r) = (r.dom ++ 47 :: r.path) ++ tailT (lessR r).tag ++ tailD r.pin r.dig := by
  rw [textR_full]
  unfold lessR
  split <;> rfl
theorem less_le (r : RR) : (textR (lessR r)).length ≤ (textR r).length := by
  rw [lessR_tail, textR_full]
  unfold lessR
  split
  · simp only [List.length_append]
    unfold tailT
    simp only [if_true, List.length_nil]
    omega
  · exact Nat.le_refl _
theorem text_back {r : RR} (hd : r.dig.length = 32) (hm : mayR r = true) : parseR (textR r) = (r, 0) := by
  have M := may_parts hm
  rw [textR_full]
  exact core hd hm (full_64 M) (fun _ => tagged_slash _ (path_no58 M)) (full_dom M) (full_path M) (.inr rfl) (by rw [← textR_full]; exact M.l)
theorem less_back {r : RR} (hd : r.dig.length = 32) (hm : mayR r = true) : parseR (textR (lessR r)) = (r, 0) := by
  have M := may_parts hm
  have hl := less_le r
  rw [lessR_tail] at hl ⊢
  exact core hd hm (full_64 M) (fun _ => tagged_slash _ (path_no58 M)) (full_dom M) (full_path M) (.inl rfl) (Nat.le_trans hl M.l)
theorem domR_of {X : List UInt8} (h : frontR X = []) : domR X = hubB := by unfold domR; rw [if_pos (.inl h)]
theorem restR_of {X : List UInt8} (h : frontR X = []) : restR X = X := by unfold restR; rw [if_pos h]
theorem short_back {r : RR} (hd : r.dig.length = 32) (hm : mayR r = true) : parseR (shortR r) = (r, 0) ∧ shortR r ≠ [] ∧ (shortR r).length ≤ (textR r).length := by
  have M := may_parts hm
  have hl := less_le r
  have hne : textR (lessR r) ≠ [] := by
    rw [lessR_tail]
    intro e
    have := congrArg List.length e
    simp only [List.length_append, List.length_cons, List.length_nil] at this
    omega
  unfold shortR
  rw [if_pos hm]
  by_cases h1 : r.dom = hubB
  · rw [if_pos h1]
    by_cases h2 : (cutL r.path 47).length = 2 ∧ (cutL r.path 47).getD 0 [] = libraryB
    · rw [if_pos h2]
      obtain ⟨x, hx⟩ : ∃ x, cutL r.path 47 = [libraryB, x] := by
        match hc : cutL r.path 47 with
        | [a, b] => rw [hc] at h2; exact ⟨b, by have := h2.2; simp at this; rw [this]⟩
        | [] | [_] | _ :: _ :: _ :: _ => rw [hc] at h2; simp at h2
      have h47 : (47 : UInt8) ∈ r.path := by
        by_cases h : (47 : UInt8) ∈ r.path
        · exact h
        · rw [cutL_one _ _ h] at hx; simp at hx
      obtain ⟨u, v, hp, hv⟩ := split_last h47
      rw [hp, cutL_cons, cutL_one v 47 hv] at hx
      have hu : cutL u 47 = [libraryB] ∧ v = x := by
        have hpos := cutL_pos u 47
        match hc : cutL u 47 with
        | [a] => rw [hc] at hx; simp at hx; exact ⟨by rw [hx.1], hx.2⟩
        | [] => rw [hc] at hpos; cases hpos
        | _ :: _ :: _ => rw [hc] at hx; simp at hx
      have hu47 : (47 : UInt8) ∉ u := by
        intro h
        obtain ⟨a, b, e, _⟩ := split_last h
        have := cutL_count a 47 b
        rw [← e, hu.1] at this
        simp at this
      rw [cutL_one u 47 hu47] at hu
      have hu1 : u = libraryB := by have := hu.1; simpa using this
      subst hu1
      have hT : (textR (lessR r)).drop 18 = v ++ tailT (lessR r).tag ++ tailD r.pin r.dig := by
        rw [lessR_tail, h1, hp]
        rfl
      rw [hT]
      have hfr : frontR v = [] := by
        unfold frontR
        rw [cutL_one v 47 hv]
        rfl
      have h58 : (58 : UInt8) ∉ v := fun h => path_no58 M (by rw [hp]; exact List.mem_append_right _ (List.mem_cons_of_mem _ h))
      have h64 : (64 : UInt8) ∉ v := fun h => path_no64 M (by rw [hp]; exact List.mem_append_right _ (List.mem_cons_of_mem _ h))
      have hpa : pathR v = r.path := by
        unfold pathR
        rw [domR_of hfr, restR_of hfr, cutL_one v 47 hv, if_pos ⟨rfl, rfl⟩, hp]
        rfl
      have hvne : v ≠ [] := by
        intro e
        have := List.all_eq_true.1 M.p v (by rw [hp, cutL_cons, cutL_one v 47 hv]; simp)
        rw [e] at this
        revert this
        decide
      have hle : (v ++ tailT (lessR r).tag ++ tailD r.pin r.dig).length ≤ (textR r).length := by
        rw [← hT, List.length_drop]
        omega
      refine ⟨core hd hm h64 (fun _ => tagged_not h58) ((domR_of hfr).trans h1.symm) hpa (.inl rfl) (Nat.le_trans hle M.l), ?_, hle⟩
      intro e
      have := congrArg List.length e
      simp only [List.length_append, List.length_nil] at this
      exact hvne (List.eq_nil_of_length_eq_zero (by omega))
    · rw [if_neg h2]
      by_cases h3 : frontR r.path = []
      · rw [if_pos h3]
        have hT : (textR (lessR r)).drop 10 = r.path ++ tailT (lessR r).tag ++ tailD r.pin r.dig := by
          rw [lessR_tail, h1]
          rfl
        rw [hT]
        have hpa : pathR r.path = r.path := by
          unfold pathR
          rw [domR_of h3, restR_of h3, if_neg]
          rintro ⟨_, e⟩
          exact M.n ⟨h1, by omega⟩
        have hpne : r.path ≠ [] := by
          intro e
          have := M.p
          rw [e] at this
          revert this
          decide
        have hle : (r.path ++ tailT (lessR r).tag ++ tailD r.pin r.dig).length ≤ (textR r).length := by
          rw [← hT, List.length_drop]
          omega
        refine ⟨core hd hm (path_no64 M) (fun _ => tagged_not (path_no58 M)) ((domR_of h3).trans h1.symm) hpa (.inl rfl) (Nat.le_trans hle M.l), ?_, hle⟩
        intro e
        have := congrArg List.length e
        simp only [List.length_append, List.length_nil] at this
        exact hpne (List.eq_nil_of_length_eq_zero (by omega))
      · rw [if_neg h3]
        exact ⟨less_back hd hm, hne, hl⟩
  · rw [if_neg h1]
    exact ⟨less_back hd hm, hne, hl⟩
theorem text_ne (r : RR) : textR r ≠ [] := by
  rw [textR_full]
  intro e
  have := congrArg List.length e
  simp only [List.length_append, List.length_cons, List.length_nil] at this
  omega
theorem show_yes {r : RR} (h : mayR r = true) : showR r = textR r := by unfold showR; rw [if_pos h]
theorem show_no {r : RR} (h : mayR r = false) : showR r = [] ∧ shortR r = [] := by
  unfold showR shortR
  rw [if_neg (by rw [h]; decide), if_neg (by rw [h]; decide)]
  exact ⟨rfl, rfl⟩
/-- What is read of a text: a name that may be, or none. -/
theorem parse_kind (s : List UInt8) : (∃ r, parseR s = (r, 0) ∧ mayR r = true) ∨ (parseR s = (zeroR, 10) ∧ s.length ≤ 200) ∨ (parseR s = (zeroR, 3) ∧ 200 < s.length) := by
  unfold parseR
  split
  · exact .inr (.inr ⟨rfl, by assumption⟩)
  · split
    · exact .inr (.inl ⟨rfl, by omega⟩)
    · split
      · exact .inr (.inl ⟨rfl, by omega⟩)
      · split
        · exact .inl ⟨_, rfl, by assumption⟩
        · exact .inr (.inl ⟨rfl, by omega⟩)
end Go.Proofs.YtldbfjcfobdkpaaDoor
