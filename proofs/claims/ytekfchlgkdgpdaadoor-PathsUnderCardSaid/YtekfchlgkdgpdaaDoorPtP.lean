/- Layer 14: whether a path is clean, as the statements ask it; the chapter's paths. -/
import Derived.Test.YtekfchlgkdgpdaaDoorPtO
namespace Go.Proofs.YtekfchlgkdgpdaaDoor
open Go.RowKit

theorem cutL_mem (s : List UInt8) (c x : UInt8) : x ≠ c → (x ∈ s ↔ ∃ p ∈ cutL s c, x ∈ p) := fun hx => by
  refine cut_rec (fun s => x ∈ s ↔ ∃ p ∈ cutL s c, x ∈ p) ?_ (fun l y h => ?_) s
  · rw [cutL_nil]
    simp
  · have hpos := cutL_pos l c
    rw [cutL_snoc, List.mem_append, List.mem_singleton, h]
    unfold cutS
    split
    · rename_i hy
      constructor
      · rintro (⟨p, hp, hxp⟩ | e)
        · exact ⟨p, List.mem_append_left _ hp, hxp⟩
        · exact absurd (e.trans hy) hx
      · rintro ⟨p, hp, hxp⟩
        rcases List.mem_append.1 hp with hp | hp
        · exact .inl ⟨p, hp, hxp⟩
        · rw [List.mem_singleton.1 hp] at hxp
          cases hxp
    · have hm : (cutL l c).getD ((cutL l c).length - 1) [] ∈ cutL l c := by
        rw [List.getD_eq_getElem?_getD, List.getElem?_eq_getElem (by omega)]
        exact List.getElem_mem _
      have hlt : (cutL l c).length - 1 < (cutL l c).length := by omega
      constructor
      · rintro (⟨p, hp, hxp⟩ | e)
        · obtain ⟨i, hi, rfl⟩ := List.mem_iff_getElem.1 hp
          by_cases e : i = (cutL l c).length - 1
          · refine ⟨_, List.mem_set hlt _, List.mem_append_left _ ?_⟩
            rw [List.getD_eq_getElem?_getD, List.getElem?_eq_getElem hlt]
            subst e
            exact hxp
          · refine ⟨(cutL l c)[i], ?_, hxp⟩
            rw [List.mem_iff_getElem]
            exact ⟨i, by rw [List.length_set]; exact hi, by rw [List.getElem_set_ne (Ne.symm e)]⟩
        · exact ⟨_, List.mem_set hlt _, List.mem_append_right _ (List.mem_singleton.2 e)⟩
      · rintro ⟨p, hp, hxp⟩
        rcases List.mem_or_eq_of_mem_set hp with hp | rfl
        · exact .inl ⟨p, hp, hxp⟩
        · rcases List.mem_append.1 hxp with h1 | h1
          · exact .inl ⟨_, hm, h1⟩
          · exact .inr (List.mem_singleton.1 h1)
theorem bad_part {s x : List UInt8} (h0 : s ≠ []) (h : x ∈ cutL s 47) (hb : goodB x = false) : cleanB s = false := by
  unfold cleanB
  rw [decide_eq_false h0, Bool.false_or, Bool.and_eq_false_iff]
  left
  rw [List.all_eq_false]
  exact ⟨x, h, by rw [hb]; decide⟩
theorem zero_bad {s : List UInt8} (h : (0 : UInt8) ∈ s) : cleanB s = false := by
  obtain ⟨p, hp, h0⟩ := (cutL_mem s 47 0 (by decide)).1 h
  refine bad_part (by rintro rfl; cases h) hp ?_
  cases e : goodB p with
  | false => rfl
  | true => exact absurd h0 ((good_iff p).1 e).2.2.2
/-- Where the loop stands. -/
def Mid (s : List UInt8) (f i : Nat) : Prop :=
  if i ≤ s.length then f ≤ i ∧ ∃ D, cutL (s.take i) 47 = D ++ [(s.take i).drop f] ∧ D.all goodB = true ∧ (0 : UInt8) ∉ (s.take i).drop f else (cutL s 47).all goodB = true
theorem mid_start (s : List UInt8) : Mid s 0 0 := by
  unfold Mid
  rw [if_pos (Nat.zero_le _)]
  exact ⟨Nat.le_refl _, [], rfl, rfl, by simp⟩
theorem mid_go {s : List UInt8} {f i : Nat} (h : Mid s f i) (hi : i < s.length) (hx : s.getD i 0 ≠ 47) (h0 : s.getD i 0 ≠ 0) : Mid s f (i + 1) := by
  unfold Mid at h ⊢
  rw [if_pos (by omega)] at h
  rw [if_pos (by omega)]
  obtain ⟨hf, D, hc, hD, hz⟩ := h
  have e1 : s.take (i + 1) = s.take i ++ [s.getD i 0] := by
    rw [List.take_succ_eq_append_getElem hi, List.getD_eq_getElem?_getD, List.getElem?_eq_getElem hi]
    rfl
  have e2 : (s.take (i + 1)).drop f = (s.take i).drop f ++ [s.getD i 0] := by
    rw [e1, List.drop_append_of_le_length (by rw [List.length_take]; omega)]
  refine ⟨by omega, D, ?_, hD, ?_⟩
  · rw [e2, e1, cutL_snoc, hc, cutS_end, if_neg hx]
  · rw [e2, List.mem_append, List.mem_singleton, not_or]
    exact ⟨hz, fun e => h0 e.symm⟩
theorem mid_part {s : List UInt8} {f i : Nat} (h : Mid s f i) (hi : i ≤ s.length) (hx : i < s.length → s.getD i 0 = 47) : (s.take i).drop f ∈ cutL s 47 := by
  unfold Mid at h
  rw [if_pos hi] at h
  obtain ⟨_, D, hc, _, _⟩ := h
  by_cases hlt : i < s.length
  · have e : s = s.take i ++ 47 :: s.drop (i + 1) := by
      conv => lhs; rw [← List.take_append_drop i s, List.drop_eq_getElem_cons hlt]
      have := hx hlt
      rw [List.getD_eq_getElem?_getD, List.getElem?_eq_getElem hlt, Option.getD_some] at this
      rw [this]
    have e2 : cutL s 47 = cutL (s.take i) 47 ++ cutL (s.drop (i + 1)) 47 := by
      conv => lhs; rw [e, cutL_cons]
    rw [e2, hc]
    simp
  · have : s.take i = s := List.take_of_length_le (by omega)
    rw [this] at hc ⊢
    rw [hc]
    simp
theorem mid_next {s : List UInt8} {f i : Nat} (h : Mid s f i) (hi : i ≤ s.length) (hx : i < s.length → s.getD i 0 = 47) (h1 : i ≠ f) (h2 : (s.take i).drop f ≠ [46]) (h3 : (s.take i).drop f ≠ [46, 46]) : Mid s (i + 1) (i + 1) := by
  unfold Mid at h
  rw [if_pos hi] at h
  obtain ⟨hf, D, hc, hD, hz⟩ := h
  have hg : goodB ((s.take i).drop f) = true := by
    refine (good_iff _).2 ⟨fun e => ?_, h2, h3, hz⟩
    have := congrArg List.length e
    rw [List.length_drop, List.length_take, List.length_nil] at this
    omega
  unfold Mid
  by_cases hlt : i < s.length
  · rw [if_pos (by omega)]
    have e1 : s.take (i + 1) = s.take i ++ [47] := by
      rw [← hx hlt, List.take_succ_eq_append_getElem hlt, List.getD_eq_getElem?_getD, List.getElem?_eq_getElem hlt]
      rfl
    have e2 : (s.take (i + 1)).drop (i + 1) = [] := by
      rw [List.drop_eq_nil_iff, List.length_take]
      omega
    refine ⟨Nat.le_refl _, D ++ [(s.take i).drop f], ?_, ?_, ?_⟩
    · rw [e2, e1, cutL_snoc, hc, cutS_end, if_pos rfl]
    · rw [List.all_append, hD, List.all_cons, hg]
      rfl
    · rw [e2]
      simp
  · rw [if_neg (by omega)]
    have : s.take i = s := List.take_of_length_le (by omega)
    rw [this] at hc hg
    rw [hc, List.all_append, hD, List.all_cons, hg]
    rfl
theorem mid_end {s : List UInt8} {f i : Nat} (h : Mid s f i) (hi : s.length < i) (h0 : s ≠ []) : cleanB s = decide (s.length ≤ 200) := by
  unfold Mid at h
  rw [if_neg (by omega)] at h
  unfold cleanB
  rw [h, decide_eq_false h0, Bool.false_or, Bool.true_and]
set_option maxRecDepth 100000 in
set_option maxHeartbeats 4000000 in
theorem isClean_any (s : List UInt8) (hl : s.length ≤ 900000) (w : World) :
    Calls Tryd.prog 21 #[.string (str s)] w fun e w' => e = .returned (.bool (cleanB s)) ∧ w = w' := by
  have q1 : (str s).toList.isEmpty = decide (s = []) := empty_lit s
  have zs := str_size s
  by_cases h0 : s = []
  · rw [decide_eq_true h0] at q1
    have HR := Lib.hid (show cleanB s = true by rw [h0]; rfl)
    clear h0
    go_enter Tryd.func21, Tryd.ntmps21
    go_wp2
    go_ret
    exact ⟨retB HR.out.symm, by trivial⟩
  rw [decide_eq_false h0] at q1
  have H0 := Lib.hid h0
  have HM0 := Lib.hid (mid_start s)
  have IS := Lib.hid (fun (i : Nat) (h : i < s.length) => idx_str (str s) i i rfl (by rw [zs]; exact h))
  obtain ⟨N, hN⟩ : ∃ N, N = s.length := ⟨_, rfl⟩
  have HN := Lib.hid hN
  rw [← hN] at zs hl
  clear h0 hN
  go_enter Tryd.func21, Tryd.ntmps21
  go_wp2
  go_loopw [3, 4] (fun u v wr => ∃ f i : Nat, f ≤ i ∧ i ≤ N + 1 ∧ u = .int .i64 f ∧ v = .int .i64 i ∧ Hid (Mid s f i) ∧ wr = w) (fun _ v _ => N + 1 - (intOf v).toNat)
  case atStart => exact ⟨0, 0, Nat.le_refl _, Nat.zero_le _, rfl, rfl, HM0, rfl⟩
  case round =>
    obtain ⟨f, i, hfi, hi, rfl, rfl, hm, rfl⟩ := hrel
    clear HM0
    by_cases hle : i ≤ N
    · have g1 : (i : Int) ≤ (N : Int) := by omega
      have HP := Lib.hid (fun hx => mid_part hm.out (by have := HN.out; omega) hx)
      have HX := Lib.hid (fun hx h1 h2 h3 => mid_next hm.out (by have := HN.out; omega) hx h1 h2 h3)
      obtain ⟨t, ht⟩ : ∃ t, t = (s.take i).drop f := ⟨_, rfl⟩
      rw [← ht] at HP HX
      have s1 : ∀ W, (Instr.slice 9 (.string (str s)) (some (.int .i64 (f : Int))) (some (.int .i64 (i : Int))) none).run Tryd.prog W = .ok (.string (str t)) W := fun W => by
        have h := run_slice_string W 9 (str s) .i64 .i64 f i Tryd.underlying9 (by omega) (by omega) (by rw [zs]; omega)
        rw [ht, ← extract_str]
        exact h
      have q2 : ((str t).toList == [46]) = decide (t = [46]) := eq_lit t [46]
      have q3 : ((str t).toList == [46, 46]) = decide (t = [46, 46]) := eq_lit t [46, 46]
      have HT := Lib.hid ht
      clear ht
      -- a part ends here
      have part : ∀ (hx : i < s.length → s.getD i 0 = 47), (i = f ∨ t = [46] ∨ t = [46, 46]) → cleanB s = false := by
        intro hx hb
        refine bad_part H0.out (HP.out hx) ?_
        rcases hb with rfl | rfl | rfl
        · have : t = [] := by rw [HT.out, List.drop_eq_nil_iff, List.length_take]; omega
          rw [this]; rfl
        · rfl
        · rfl
      have HPA := Lib.hid part
      clear part
      by_cases hlt : i < N
      · have g2 : (i : Int) < (N : Int) := by omega
        have i1 := IS.out i (by have := HN.out; omega)
        rw [show (str s).data.toList = s from rfl] at i1
        have q4 : (((s.getD i 0).toNat : Int) == 0) = (s.getD i 0 == 0) := beq_u8 _ 0
        have q5 : (((s[i]?.getD 0).toNat : Int) == 0) = (s.getD i 0 == 0) := by rw [← q4, List.getD_eq_getElem?_getD]
        have q6 : (((s.getD i 0).toNat : Int) == 47) = (s.getD i 0 == 47) := beq_u8 _ 47
        have q7 : (((s[i]?.getD 0).toNat : Int) == 47) = (s.getD i 0 == 47) := by rw [← q6, List.getD_eq_getElem?_getD]
        by_cases hz : s.getD i 0 = 0
        · have HR := Lib.hid (show cleanB s = false from zero_bad (by
            have hh : i < s.length := by have := HN.out; omega
            rw [← hz, List.getD_eq_getElem?_getD, List.getElem?_eq_getElem hh, Option.getD_some]
            exact List.getElem_mem hh))
          rw [beq_iff_eq.2 hz] at q4 q5
          clear hz
          generalize (s.getD i 0 == 47) = bb at *
          go_wp2
          go_ret
          exact ⟨retB HR.out.symm, by trivial⟩
        · rw [beq_eq_false_iff_ne.2 hz] at q4 q5
          by_cases h47 : s.getD i 0 = 47
          · rw [beq_iff_eq.2 h47] at q6 q7
            have HX47 := Lib.hid (show i < s.length → s.getD i 0 = 47 from fun _ => h47)
            clear hz h47
            by_cases hif : i = f
            · have HR := Lib.hid (HPA.out HX47.out (.inl hif))
              have q8 : ((i : Int) == (f : Int)) = true := by rw [beq_iff_eq]; omega
              clear hif
              go_wp2
              go_ret
              exact ⟨retB HR.out.symm, by trivial⟩
            have q8 : ((i : Int) == (f : Int)) = false := by rw [beq_eq_false_iff_ne]; omega
            by_cases ht1 : t = [46]
            · have HR := Lib.hid (HPA.out HX47.out (.inr (.inl ht1)))
              rw [decide_eq_true ht1] at q2
              clear hif ht1
              go_wp2
              go_ret
              exact ⟨retB HR.out.symm, by trivial⟩
            rw [decide_eq_false ht1] at q2
            by_cases ht2 : t = [46, 46]
            · have HR := Lib.hid (HPA.out HX47.out (.inr (.inr ht2)))
              rw [decide_eq_true ht2] at q3
              clear hif ht1 ht2
              go_wp2
              go_ret
              exact ⟨retB HR.out.symm, by trivial⟩
            rw [decide_eq_false ht2] at q3
            have HNX := Lib.hid (HX.out HX47.out hif ht1 ht2)
            clear hif ht1 ht2
            go_wp2
            go_roundw
            case rel => exact ⟨i + 1, i + 1, Nat.le_refl _, by omega, by go_num, by go_num, HNX, by trivial⟩
            case measure => simp [intOf]; omega
          · rw [beq_eq_false_iff_ne.2 h47] at q6 q7
            have HNX := Lib.hid (mid_go hm.out (by have := HN.out; omega) h47 hz)
            clear hz h47
            go_wp2
            go_roundw
            case rel => exact ⟨f, i + 1, by omega, by omega, rfl, by go_num, HNX, by trivial⟩
            case measure => simp [intOf]; omega
      · have g2 : ¬ ((i : Int) < (N : Int)) := by omega
        have HX47 := Lib.hid (show i < s.length → s.getD i 0 = 47 from fun h => absurd h (by have := HN.out; omega))
        by_cases hif : i = f
        · have HR := Lib.hid (HPA.out HX47.out (.inl hif))
          have q8 : ((i : Int) == (f : Int)) = true := by rw [beq_iff_eq]; omega
          clear hif hlt
          go_wp2
          go_ret
          exact ⟨retB HR.out.symm, by trivial⟩
        have q8 : ((i : Int) == (f : Int)) = false := by rw [beq_eq_false_iff_ne]; omega
        by_cases ht1 : t = [46]
        · have HR := Lib.hid (HPA.out HX47.out (.inr (.inl ht1)))
          rw [decide_eq_true ht1] at q2
          clear hif ht1 hlt
          go_wp2
          go_ret
          exact ⟨retB HR.out.symm, by trivial⟩
        rw [decide_eq_false ht1] at q2
        by_cases ht2 : t = [46, 46]
        · have HR := Lib.hid (HPA.out HX47.out (.inr (.inr ht2)))
          rw [decide_eq_true ht2] at q3
          clear hif ht1 ht2 hlt
          go_wp2
          go_ret
          exact ⟨retB HR.out.symm, by trivial⟩
        rw [decide_eq_false ht2] at q3
        have HNX := Lib.hid (HX.out HX47.out hif ht1 ht2)
        clear hif ht1 ht2 hlt
        go_wp2
        go_roundw
        case rel => exact ⟨i + 1, i + 1, Nat.le_refl _, by omega, by go_num, by go_num, HNX, by trivial⟩
        case measure => simp [intOf]; omega
    · have HR := Lib.hid (mid_end hm.out (by have := HN.out; omega) H0.out)
      have hN2 : s.length = N := HN.out.symm
      rw [hN2] at HR
      by_cases h2 : N ≤ 200
      · have g3 : (N : Int) ≤ 200 := by omega
        rw [decide_eq_true h2] at HR
        clear hN2 h2
        go_wp2
        go_ret
        exact ⟨retB HR.out.symm, by trivial⟩
      · have g3 : ¬ ((N : Int) ≤ 200) := by omega
        rw [decide_eq_false h2] at HR
        clear hN2 h2
        go_wp2
        go_ret
        exact ⟨retB HR.out.symm, by trivial⟩
end Go.Proofs.YtekfchlgkdgpdaaDoor
