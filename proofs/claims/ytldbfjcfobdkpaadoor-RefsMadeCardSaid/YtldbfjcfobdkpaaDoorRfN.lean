/- Layer 12: the document's names, plainly: what is told is read. -/
import Derived.Test.YtldbfjcfobdkpaaDoorRfM
namespace Go.Proofs.YtldbfjcfobdkpaaDoor

theorem cutS_behind (c x : UInt8) (a : List (List UInt8)) {b : List (List UInt8)} (hb : 0 < b.length) : cutS c (a ++ b) x = a ++ cutS c b x := by
  unfold cutS
  split
  · rw [List.append_assoc]
  · have e1 : (a ++ b).length - 1 = a.length + (b.length - 1) := by rw [List.length_append]; omega
    have e2 : (a ++ b).getD ((a ++ b).length - 1) [] = b.getD (b.length - 1) [] := by
      rw [e1, List.getD_eq_getElem?_getD, List.getD_eq_getElem?_getD, List.getElem?_append_right (by omega), Nat.add_sub_cancel_left]
    rw [e2, e1, List.set_append_right _ _ (by omega), Nat.add_sub_cancel_left]
theorem cut_rec (P : List UInt8 → Prop) (h0 : P []) (h1 : ∀ l x, P l → P (l ++ [x])) : ∀ l, P l := fun l => by
  rcases List.eq_nil_or_concat l with rfl | ⟨r, x, rfl⟩
  · exact h0
  · rw [List.concat_eq_append]
    exact h1 r x (cut_rec P h0 h1 r)
termination_by l => l.length
decreasing_by rename_i h; rw [h]; simp
/-- A text in two, at the byte: its parts. -/
theorem cutL_cons (a : List UInt8) (c : UInt8) (b : List UInt8) : cutL (a ++ c :: b) c = cutL a c ++ cutL b c := by
  refine cut_rec (fun b => cutL (a ++ c :: b) c = cutL a c ++ cutL b c) ?_ (fun l x h => ?_) b
  · rw [cutL_snoc, cutL_nil]
    unfold cutS
    rw [if_pos rfl]
  · rw [show a ++ c :: (l ++ [x]) = (a ++ c :: l) ++ [x] by simp, cutL_snoc, h, cutL_snoc, cutS_behind _ _ _ (cutL_pos l c)]
theorem cutL_one (s : List UInt8) (c : UInt8) : c ∉ s → cutL s c = [s] := by
  refine cut_rec (fun s => c ∉ s → cutL s c = [s]) (fun _ => rfl) (fun l x h hn => ?_) s
  rw [List.mem_append, List.mem_singleton, not_or] at hn
  rw [cutL_snoc, h hn.1]
  unfold cutS
  rw [if_neg (Ne.symm hn.2)]
  rfl
theorem cutL_two {a : List UInt8} {c : UInt8} (b : List UInt8) (h : c ∉ a) : cutL (a ++ c :: b) c = a :: cutL b c := by rw [cutL_cons, cutL_one a c h]; rfl
theorem split_last {c : UInt8} : ∀ {s : List UInt8}, c ∈ s → ∃ u v, s = u ++ c :: v ∧ c ∉ v
  | x :: r, h => by
    by_cases hr : c ∈ r
    · obtain ⟨u, v, rfl, hv⟩ := split_last hr
      exact ⟨x :: u, v, rfl, hv⟩
    · rcases List.mem_cons.1 h with rfl | h
      · exact ⟨[], r, rfl, hr⟩
      · exact absurd h hr
theorem cutL_count (a : List UInt8) (c : UInt8) (b : List UInt8) : 2 ≤ (cutL (a ++ c :: b) c).length := by
  rw [cutL_cons, List.length_append]
  have := cutL_pos a c
  have := cutL_pos b c
  omega
/-- The last part behind the last of these bytes. -/
theorem last_of (u : List UInt8) (c : UInt8) {v : List UInt8} (h : c ∉ v) : (cutL (u ++ c :: v) c).getD ((cutL (u ++ c :: v) c).length - 1) [] = v := by
  rw [cutL_cons, cutL_one v c h, List.length_append, List.length_singleton, Nat.add_sub_cancel, List.getD_eq_getElem?_getD, List.getElem?_append_right (Nat.le_refl _), Nat.sub_self]
  rfl
theorem cutL_mem (s : List UInt8) (c x : UInt8) : x ≠ c → (x ∈ s ↔ ∃ p ∈ cutL s c, x ∈ p) := fun hx => by
  refine cut_rec (fun s => x ∈ s ↔ ∃ p ∈ cutL s c, x ∈ p) ?_ (fun l y h => ?_) s
  · rw [cutL_nil]
    simp
  · have hpos := cutL_pos l c
    rw [cutL_snoc, List.mem_append, List.mem_singleton, h]
    unfold cutS
    split
    · rename_i hy
      constructor
      · rintro (⟨p, hp, hxp⟩ | e)
        · exact ⟨p, List.mem_append_left _ hp, hxp⟩
        · exact absurd (e.trans hy) hx
      · rintro ⟨p, hp, hxp⟩
        rcases List.mem_append.1 hp with hp | hp
        · exact .inl ⟨p, hp, hxp⟩
        · rw [List.mem_singleton.1 hp] at hxp
          cases hxp
    · have hm : (cutL l c).getD ((cutL l c).length - 1) [] ∈ cutL l c := by
        rw [List.getD_eq_getElem?_getD, List.getElem?_eq_getElem (by omega)]
        exact List.getElem_mem _
      have hlt : (cutL l c).length - 1 < (cutL l c).length := by omega
      constructor
      · rintro (⟨p, hp, hxp⟩ | e)
        · obtain ⟨i, hi, rfl⟩ := List.mem_iff_getElem.1 hp
          by_cases e : i = (cutL l c).length - 1
          · refine ⟨_, List.mem_set hlt _, List.mem_append_left _ ?_⟩
            rw [List.getD_eq_getElem?_getD, List.getElem?_eq_getElem hlt]
            subst e
            exact hxp
          · refine ⟨(cutL l c)[i], ?_, hxp⟩
            rw [List.mem_iff_getElem]
            exact ⟨i, by rw [List.length_set]; exact hi, by rw [List.getElem_set_ne (Ne.symm e)]⟩
        · exact ⟨_, List.mem_set hlt _, List.mem_append_right _ (List.mem_singleton.2 e)⟩
      · rintro ⟨p, hp, hxp⟩
        rcases List.mem_or_eq_of_mem_set hp with hp | rfl
        · exact .inl ⟨p, hp, hxp⟩
        · rcases List.mem_append.1 hxp with h1 | h1
          · exact .inl ⟨_, hm, h1⟩
          · exact .inr (List.mem_singleton.1 h1)
/-- Bytes that are some of others are not these. -/
theorem ofB_not {s t : List UInt8} {x : UInt8} (h : ofB s t = true) (hx : x ∉ t) : x ∉ s := fun hm => by
  unfold ofB at h
  have := List.all_eq_true.1 h x hm
  rw [List.any_eq_true] at this
  obtain ⟨y, hy, e⟩ := this
  rw [beq_iff_eq] at e
  exact hx (e ▸ hy)
theorem domain_not {s : List UInt8} {x : UInt8} (h : domainB s = true) (h1 : x ≠ 58) (h2 : x ≠ 46) (h3 : x ∉ allB ++ [45]) (h4 : x ∉ digitB) : x ∉ s := by
  intro hm
  unfold domainB at h
  rw [Bool.and_eq_true] at h
  obtain ⟨p, hp, hxp⟩ := (cutL_mem s 58 x h1).1 hm
  obtain ⟨i, hi, rfl⟩ := List.mem_iff_getElem.1 hp
  have hl2 : (cutL s 58).length ≤ 2 := by
    have := h.1
    unfold portOk at this
    rw [Bool.and_eq_true, decide_eq_true_eq] at this
    exact this.1
  by_cases h0 : i = 0
  · subst h0
    have e : (cutL s 58).getD 0 [] = (cutL s 58)[0] := by rw [List.getD_eq_getElem?_getD, List.getElem?_eq_getElem hi]; rfl
    rw [← e] at hxp
    obtain ⟨q, hq, hxq⟩ := (cutL_mem _ 46 x h2).1 hxp
    have := List.all_eq_true.1 h.2 q hq
    unfold partsOk at this
    simp only [Bool.and_eq_true] at this
    exact ofB_not this.2.1 h3 hxq
  · have e1 : i = 1 := by omega
    subst e1
    have e : (cutL s 58).getD 1 [] = (cutL s 58)[1] := by rw [List.getD_eq_getElem?_getD, List.getElem?_eq_getElem hi]; rfl
    have := h.1
    unfold portOk at this
    rw [Bool.and_eq_true, Bool.or_eq_true] at this
    rcases this.2 with h5 | h5
    · rw [show (cutL s 58).length = 2 by omega] at h5
      simp at h5
    · simp only [Bool.and_eq_true] at h5
      rw [e] at h5
      exact ofB_not h5.2.2 h4 hxp
theorem path_not {s : List UInt8} {x : UInt8} (h : pathB s = true) (h1 : x ≠ 47) (h2 : x ∉ smallB ++ [46, 95, 45]) : x ∉ s := by
  intro hm
  obtain ⟨p, hp, hxp⟩ := (cutL_mem s 47 x h1).1 hm
  have := List.all_eq_true.1 h p hp
  unfold partB at this
  simp only [Bool.and_eq_true] at this
  exact ofB_not this.2.1 h2 hxp
theorem tag_not {t : List UInt8} {x : UInt8} (h : tagOk t = true) (h2 : x ∉ allB ++ [95, 46, 45]) : x ∉ t := by
  unfold tagOk at h
  simp only [Bool.and_eq_true] at h
  exact ofB_not h.2.1 h2
/-- What is said behind a name: its tag, its digest. -/
def tailT (t : List UInt8) : List UInt8 := if t = [] then [] else [58] ++ t
def tailD (pin : Bool) (d : List UInt8) : List UInt8 := if pin = true then [64] ++ textL d else []
theorem textR_tail (r : RR) : textR r = r.dom ++ [47] ++ r.path ++ tailT r.tag ++ tailD r.pin r.dig := rfl
theorem head_name {N : List UInt8} (pin : Bool) (d : List UInt8) (h : (64 : UInt8) ∉ N) : (cutL (N ++ tailD pin d) 64).getD 0 [] = N := by
  unfold tailD
  cases pin
  · simp only [Bool.false_eq_true, if_false, List.append_nil]
    rw [cutL_one N 64 h]
    rfl
  · simp only [if_true, List.singleton_append]
    rw [cutL_two _ h]
    rfl
theorem pinR_tail {N : List UInt8} (pin : Bool) (d : List UInt8) (h : (64 : UInt8) ∉ N) : pinR (N ++ tailD pin d) = pin := by
  unfold pinR
  rw [head_name pin d h, List.length_append]
  cases pin
  · unfold tailD
    simp
  · unfold tailD
    simp
theorem digR_tail {N : List UInt8} (d : List UInt8) (h : (64 : UInt8) ∉ N) : digR (N ++ tailD true d) = textL d := by
  unfold digR
  rw [head_name true d h]
  unfold tailD
  rw [if_pos rfl, List.drop_append, List.drop_of_length_le (by omega)]
  simp
theorem last_tag {X t : List UInt8} (ht : t ≠ []) (h : (58 : UInt8) ∉ t) : lastR (X ++ tailT t) = t := by
  unfold lastR tailT
  rw [if_neg ht, List.singleton_append]
  exact last_of X 58 h
theorem tagged_tag {X t : List UInt8} (ht : t ≠ []) (h : (58 : UInt8) ∉ t) (h2 : (47 : UInt8) ∉ t) : tagged (X ++ tailT t) = true := by
  unfold tagged
  rw [last_tag ht h, cutL_one t 47 h2]
  have : 2 ≤ (cutL (X ++ tailT t) 58).length := by
    unfold tailT
    rw [if_neg ht, List.singleton_append]
    exact cutL_count X 58 t
  rw [Bool.and_eq_true, decide_eq_true_eq, decide_eq_true_eq]
  exact ⟨by omega, rfl⟩
/-- A name ahead of its tag is not read as one that has a tag, if it has no colon, or a slash behind the last one. -/
theorem tagged_not {X : List UInt8} (h : (58 : UInt8) ∉ X) : tagged X = false := by
  unfold tagged
  rw [cutL_one X 58 h]
  rfl
theorem tagged_slash {D : List UInt8} (P : List UInt8) (hp : (58 : UInt8) ∉ P) : tagged (D ++ 47 :: P) = false := by
  by_cases hd : (58 : UInt8) ∈ D
  · obtain ⟨u, v, rfl, hv⟩ := split_last hd
    have e : u ++ 58 :: v ++ 47 :: P = u ++ 58 :: (v ++ 47 :: P) := by simp
    have hn : (58 : UInt8) ∉ v ++ 47 :: P := by
      rw [List.mem_append, List.mem_cons]
      rintro (h | h | h)
      · exact hv h
      · exact absurd h (by decide)
      · exact hp h
    unfold tagged lastR
    rw [e, last_of u 58 hn]
    have := cutL_count v 47 P
    rw [Bool.and_eq_false_iff]
    right
    rw [decide_eq_false_iff_not]
    omega
  · apply tagged_not
    rw [List.mem_append, List.mem_cons]
    rintro (h | h | h)
    · exact hd h
    · exact absurd h (by decide)
    · exact hp h
theorem name_tail {X t : List UInt8} (h : t = [] → tagged X = false) (h58 : (58 : UInt8) ∉ t) (h47 : (47 : UInt8) ∉ t) : nameR (X ++ tailT t) = X := by
  by_cases ht : t = []
  · have e : X ++ tailT t = X := by unfold tailT; rw [if_pos ht, List.append_nil]
    unfold nameR
    rw [e, if_neg (by rw [h ht]; decide)]
  · unfold nameR
    rw [if_pos (tagged_tag ht h58 h47), last_tag ht h58]
    unfold tailT
    rw [if_neg ht, List.length_append, List.length_append, List.length_singleton]
    rw [show X.length + (1 + t.length) - t.length - 1 = X.length by omega, List.take_append_of_le_length (Nat.le_refl _), List.take_length]
theorem tag_tail {X t : List UInt8} (pin : Bool) (h : t = [] → tagged X = false) (h58 : (58 : UInt8) ∉ t) (h47 : (47 : UInt8) ∉ t) : tagR (X ++ tailT t) pin = if t = [] then if pin = true then [] else latestB else t := by
  by_cases ht : t = []
  · have e : X ++ tailT t = X := by unfold tailT; rw [if_pos ht, List.append_nil]
    unfold tagR
    rw [e, if_neg (by rw [h ht]; decide), if_pos ht]
  · unfold tagR
    rw [if_pos (tagged_tag ht h58 h47), last_tag ht h58, if_neg ht]
/-- A text that is made of a name, a tag and a digest is read as these. -/
theorem parse_made {X t d : List UInt8} {pin : Bool} (hd : d.length = 32) (hx : (64 : UInt8) ∉ X) (h64 : (64 : UInt8) ∉ t) (h58 : (58 : UInt8) ∉ t) (h47 : (47 : UInt8) ∉ t) (hg : t = [] → tagged X = false) {r : RR}
    (hr : r = ⟨domR X, pathR X, if t = [] then if pin = true then [] else latestB else t, if pin = true then d else zero32, pin⟩)
    (hm : mayR r = true) (hl : (X ++ tailT t ++ tailD pin d).length ≤ 200) : parseR (X ++ tailT t ++ tailD pin d) = (r, 0) := by
  have hN : (64 : UInt8) ∉ X ++ tailT t := by
    rw [List.mem_append]
    rintro (h | h)
    · exact hx h
    · unfold tailT at h
      split at h
      · cases h
      · rw [List.mem_append, List.mem_singleton] at h
        rcases h with h | h
        · exact absurd h (by decide)
        · exact h64 h
  have h1 : readR (X ++ tailT t ++ tailD pin d) = r := by
    unfold readR
    simp only [head_name pin d hN, pinR_tail pin d hN, name_tail hg h58 h47, tag_tail pin hg h58 h47]
    rw [hr]
    cases pin
    · rfl
    · rw [digR_tail d hN, digL_textL hd]
  unfold parseR
  rw [if_neg (by omega), h1, if_pos hm, head_name pin d hN]
  rw [if_neg, if_neg]
  · rintro ⟨ha, hb⟩
    by_cases ht : t = []
    · have e : X ++ tailT t = X := by unfold tailT; rw [if_pos ht, List.append_nil]
      rw [e, hg ht] at ha
      cases ha
    · rw [last_tag ht h58] at hb
      exact ht hb
  · rintro ⟨ha, hb⟩
    rw [pinR_tail pin d hN] at ha
    subst ha
    rw [digR_tail d hN, isText_textL hd] at hb
    cases hb
end Go.Proofs.YtldbfjcfobdkpaaDoor
