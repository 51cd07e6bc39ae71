/- Layer 14: the document's Clean. -/
import Derived.Test.YtekfchlgkdgpdaaDoorPtI
namespace Go.Proofs.YtekfchlgkdgpdaaDoor
open Go.RowKit

theorem strsV_length (l : List (List UInt8)) : (strsV l).length = l.length := by simp [strsV]
theorem OwnsS.below {w w' : World} {base : Nat} {v : Value} {l : List (List UInt8)} (h : OwnsS w base v l) (hb : Below w.heap.size w w') : OwnsS w' base v l :=
  World.ownsRow.kept h (row := none) ⟨hb.os, hb.tape, hb.output, hb.size, fun k hk _ => hb.block k hk⟩ (by cases hv : v.ownBlock <;> simp)
theorem take_succ_at (L : List (List UInt8)) {k : Nat} (h : k < L.length) : L.take (k + 1) = L.take k ++ [L.getD k []] := by
  rw [List.take_succ_eq_append_getElem h, List.getD_eq_getElem?_getD, List.getElem?_eq_getElem h]
  rfl
theorem fold_take_len (L : List (List UInt8)) : ∀ (k : Nat) {l : List (List UInt8)}, foldP (L.take k) = some l → l.length ≤ k := by
  intro k
  induction k with
  | zero =>
    intro l h
    rw [List.take_zero] at h
    cases h
    exact Nat.le_refl _
  | succ k ih =>
    intro l h
    by_cases hk : k < L.length
    · rw [take_succ_at L hk, foldP_snoc] at h
      cases e : foldP (L.take k) with
      | none => rw [e] at h; cases h
      | some m =>
        rw [e] at h
        have := ih e
        have := step_len h
        omega
    · rw [List.take_of_length_le (by omega)] at h
      have := ih (by rw [List.take_of_length_le (by omega)]; exact h)
      omega
theorem news_rd {w : World} {g : Nat} {l : List (List UInt8)} (h : RdS w (some ⟨g, 0, none⟩) l) : ∀ j u, (strsV l)[j]? = some u → w.cell? ((⟨g, 0, none⟩ : Addr).add j) = some u := by
  intro j u hu
  have hadd : (⟨g, 0, none⟩ : Addr).add j = ⟨g, j, none⟩ := by unfold Addr.add; split <;> simp_all
  unfold strsV at hu
  rw [List.getElem?_map] at hu
  obtain ⟨z, hz, rfl⟩ := Option.map_eq_some_iff.1 hu
  obtain ⟨g', hg', _, hc⟩ := h j (List.getElem?_eq_some_iff.1 hz).1
  cases hg'
  rw [hadd, hc, List.getD_eq_getElem?_getD, hz]
  rfl
theorem strs_one (l : List (List UInt8)) : ∀ u ∈ strsV l, u.oneCell' = true := by
  intro u hu
  obtain ⟨x, _, rfl⟩ := List.mem_map.1 hu
  rfl
set_option maxRecDepth 100000 in
set_option maxHeartbeats 4000000 in
theorem rclean_any (s : List UInt8) (hl : s.length ≤ 900000) (w : World) :
    Calls Tryd.prog 10 #[.string (str s)] w fun e w' => e = .returned (.tuple #[.string (str (cleanL s).1), .int .i64 (cleanL s).2]) ∧ Below w.heap.size w w' := by
  have HV := Lib.hid (show cleanL s = cleanR (foldP (cutL s 47)) from rfl)
  obtain ⟨L, hL⟩ : ∃ L, L = cutL s 47 := ⟨_, rfl⟩
  have HLE := Lib.hid (show L.length ≤ 900001 by have := cutL_le s 47; rw [hL]; omega)
  have HPC := Lib.hid (show ∀ k, (L.getD k []).length ≤ 900000 from fun k => by rw [hL]; exact Nat.le_trans (cutL_getD_le s 47 k) hl)
  have HFL := Lib.hid (show ∀ l, foldP L = some l → (joinL l).length ≤ 900001 from fun l h => by rw [hL] at h; have := foldP_len h; omega)
  have CP := fun w => parts_any (str s) w (by rw [str_size]; omega)
  rw [show (str s).data.toList = s from rfl] at CP
  rw [← hL] at HV CP
  have HPOS := Lib.hid (show 0 < L.length by rw [hL]; exact cutL_pos s 47)
  clear hL
  obtain ⟨i0, hi, hz0, hz1, hz2⟩ := info_parts info_string
  go_enter Tryd.func10, Tryd.ntmps10
  go_wp2_with (go_at_call 26; ((with_reducible refine (CP _).mono ?_); rintro e w1 ⟨v, rfl, hO, hB⟩; obtain ⟨a, cap, rfl⟩ := hO.form))
  have HRD := Lib.hid hO.rd
  have HB := Lib.hid hB
  obtain ⟨N, hN⟩ : ∃ N, N = L.length := ⟨_, rfl⟩
  have HN := Lib.hid hN
  rw [← hN]
  clear hO hB hN
  go_loopw [5, 6] (fun t v wr => ∃ (k : Nat) (l : List (List UInt8)), k ≤ N ∧ v = .int .i64 k ∧ Hid (foldP (L.take k) = some l) ∧ Hid (OwnsS wr w1.heap.size t l) ∧ Hid (Below w1.heap.size w1 wr)) (fun _ v _ => N - (intOf v).toNat)
  case atStart => exact ⟨0, [], Nat.zero_le _, rfl, Lib.hid rfl, Lib.hid (World.ownsRow_nil _ _ _ _), Lib.hid (Below.refl _ _)⟩
  case round =>
    obtain ⟨k, l, hk, rfl, hf, hO, hB1⟩ := hrel
    obtain ⟨a1, cap1, rfl⟩ := hO.out.form
    by_cases hlt : k < N
    · have g1 : (k : Int) < (N : Int) := by omega
      have hN1 : N ≤ 900001 := by have := HLE.out; have := HN.out; omega
      have hll := fold_take_len L k hf.out
      have HT := Lib.hid (show foldP (L.take (k + 1)) = stepP (some l) (L.getD k []) by rw [take_succ_at L (by have := HN.out; omega), foldP_snoc, hf.out])
      obtain ⟨g, rfl, hg, e1⟩ := (HRD.out.below hB1.out) k (by have := HN.out; omega)
      have hx := HPC.out k
      obtain ⟨x, hxx⟩ : ∃ x, x = L.getD k [] := ⟨_, rfl⟩
      rw [← hxx] at e1 HT hx
      have HS : Hid (stepP (some l) x = if x = [] ∨ x = [46] then some l else if x = [46, 46] then (if l = [] then none else some l.dropLast) else if (0 : UInt8) ∈ x then none else some (l ++ [x])) := Lib.hid rfl
      have q1 : (str x).toList.isEmpty = decide (x = []) := empty_lit x
      have q2 : ((str x).toList == [46]) = decide (x = [46]) := eq_lit x [46]
      have q3 : ((str x).toList == [46, 46]) = decide (x = [46, 46]) := eq_lit x [46, 46]
      have CN := fun w => nought_any (str x) w (by rw [str_size]; omega)
      rw [show (str x).data.toList = x from rfl] at CN
      clear hxx
      by_cases h1 : x = []
      · rw [decide_eq_true h1] at q1
        have HV2 := Lib.hid (show foldP (L.take (k + 1)) = some l by rw [HT.out, HS.out, if_pos (.inl h1)])
        clear h1 CN HT HS
        go_wp2
        go_roundw
        case rel => exact ⟨k + 1, l, by omega, by go_num, HV2, hO, hB1⟩
        case measure => simp [intOf]; omega
      rw [decide_eq_false h1] at q1
      by_cases h2 : x = [46]
      · rw [decide_eq_true h2] at q2
        have HV2 := Lib.hid (show foldP (L.take (k + 1)) = some l by rw [HT.out, HS.out, if_pos (.inr h2)])
        clear h1 h2 CN HT HS
        go_wp2
        go_roundw
        case rel => exact ⟨k + 1, l, by omega, by go_num, HV2, hO, hB1⟩
        case measure => simp [intOf]; omega
      rw [decide_eq_false h2] at q2
      have h12 : ¬ (x = [] ∨ x = [46]) := by rintro (h | h); exact h1 h; exact h2 h
      have HNO := Lib.hid (fun (hn : foldP (L.take (k + 1)) = none) => show cleanL s = ([], 71) by rw [HV.out, foldP_pre (List.take_prefix (k + 1) L) hn]; rfl)
      by_cases h4 : (0 : UInt8) ∈ x
      · have h3 : x ≠ [46, 46] := by rintro rfl; revert h4; decide
        have HR := Lib.hid (HNO.out (by rw [HT.out, HS.out, if_neg h12, if_neg h3, if_pos h4]))
        rw [decide_eq_true h4] at CN
        rw [decide_eq_false h3] at q3
        clear h1 h2 h3 h4 h12 HT HS HNO
        go_wp2_with (go_at_call 27; ((with_reducible refine (CN _).mono ?_); rintro e w2 ⟨rfl, rfl⟩))
        go_ret2
        exact ⟨ret2si (by rw [HR.out]; rfl) (by rw [HR.out]), HB.out.trans (hB1.out.mono HB.out.size)⟩
      rw [decide_eq_false h4] at CN
      by_cases h3 : x = [46, 46]
      · rw [decide_eq_true h3] at q3
        by_cases h0 : l = []
        · have HR := Lib.hid (HNO.out (by rw [HT.out, HS.out, if_neg h12, if_pos h3, if_pos h0]))
          subst h0
          clear h1 h2 h3 h4 h12 HT HS HNO
          go_wp2_with (go_at_call 27; ((with_reducible refine (CN _).mono ?_); rintro e w2 ⟨rfl, rfl⟩))
          go_ret2
          exact ⟨ret2si (by rw [HR.out]; rfl) (by rw [HR.out]), HB.out.trans (hB1.out.mono HB.out.size)⟩
        · have HV2 := Lib.hid (show foldP (L.take (k + 1)) = some l.dropLast by rw [HT.out, HS.out, if_neg h12, if_pos h3, if_neg h0])
          obtain ⟨M, hM⟩ : ∃ M, l.length = M + 1 := ⟨l.length - 1, by have := List.length_pos_iff.2 h0; omega⟩
          have HM := Lib.hid hM
          rw [hM] at hO hll ⊢
          obtain ⟨g1', ha1, _, _⟩ := hO.out.at (k := 0) (by have := HM.out; omega)
          subst ha1
          have HN1 := Lib.hid (news_rd hO.out.rd.front)
          have HDL := Lib.hid (show l.dropLast.length = M by rw [List.length_dropLast]; omega)
          have c1 : (M : Int) ≤ (cap1 : Int) := by
            rcases hO.out.2 with ⟨h6, _⟩ | ⟨_, _, _, h6, _, _, h7, _⟩
            · cases h6
            · simp only [Value.slice.injEq] at h6
              obtain ⟨_, h8, h9⟩ := h6
              have := HM.out
              omega
          have hm1 : M ≤ 1000000 := by omega
          clear h0 h1 h2 h3 h4 h12 HT HS HNO hM
          go_wp2_with (first
            | (go_at_call 27; ((with_reducible refine (CN _).mono ?_); rintro e w2 ⟨rfl, rfl⟩))
            | ((with_reducible show wpList _ _ _ (⟨some 55, _, _, _, _, _⟩ :: _) _ _); refine wpList_append_own _ rfl (.const (.slice none 0 0)) (.tmp 54) 35 rfl w1.heap.size 9 i0 (.string ⟨#[]⟩) 1 16 Tryd.underlying35 hi hz0 hz1 hz2 rfl (by decide) (.slice none 0 0) 0 [] rfl (World.ownsRow_nil _ _ _ _) ⟨g1', 0, none⟩ M cap1 (strsV l.dropLast) rfl (by rw [strsV_length, HDL.out, Nat.mul_one]) HN1.out (strs_one _) (by unfold maxLen; omega) (by omega) hB1.out.size ?_; intro v' w6 hown6 hgrow6 _; simp only [Nat.zero_add, List.nil_append] at hown6; obtain ⟨a6, cap6, rfl⟩ := owns_form hown6; have HO6 := Lib.hid hown6; have HB6 := Lib.hid (hB1.out.grown hgrow6 hB1.out.size (fun j hj => (by cases hj))); clear hown6 hgrow6))
          go_roundw
          case rel => exact ⟨k + 1, l.dropLast, by omega, by go_num, HV2, Lib.hid (show World.ownsRow _ _ _ _ _ _ _ by rw [HDL.out]; exact HO6.out), HB6⟩
          case measure => simp [intOf]; omega
      · rw [decide_eq_false h3] at q3
        have HV2 := Lib.hid (show foldP (L.take (k + 1)) = some (l ++ [x]) by rw [HT.out, HS.out, if_neg h12, if_neg h3, if_neg h4])
        obtain ⟨M, hM⟩ : ∃ M, l.length = M := ⟨_, rfl⟩
        have HM := Lib.hid hM
        rw [hM] at hO hll ⊢
        have HO1 := Lib.hid (show World.ownsRow wr w1.heap.size 9 1 (.slice a1 M cap1) M (strsV l) from by have h5 := hO.out; unfold OwnsS at h5; rw [hM] at h5; exact h5)
        have hm1 : M ≤ 1000000 := by omega
        clear h1 h2 h3 h4 h12 HT HS HNO hM
        go_wp2_with (first
          | (go_at_call 27; ((with_reducible refine (CN _).mono ?_); rintro e w2 ⟨rfl, rfl⟩))
          | ((with_reducible show wpList _ _ _ (⟨some 62, _, _, _, _, _⟩ :: _) _ _); refine wpList_append_own _ rfl (.tmp 56) (.tmp 61) 35 rfl w1.heap.size 9 i0 (.string ⟨#[]⟩) 1 16 Tryd.underlying35 hi hz0 hz1 hz2 rfl (by decide) (.slice a1 M cap1) M (strsV l) rfl (World.ownsRow.alloc HO1.out _) _ 1 1 [.string (str x)] rfl rfl (World.news_of_block (heap_alloc_new _ _)) (by intro u hu; simp at hu; subst hu; rfl) (by unfold maxLen; omega) (by omega) (by rw [size_alloc]; have := hB1.out.size; omega) ?_; intro v' w6 hown6 hgrow6 _; obtain ⟨a6, cap6, rfl⟩ := owns_form hown6; have HO6 := Lib.hid hown6; have HB6 := Lib.hid ((hB1.out.alloc hB1.out.size _).grown hgrow6 (by rw [size_alloc]; have := hB1.out.size; omega) (fun j hj => (HO1.out.lt j hj).1)); clear hown6 hgrow6))
        go_roundw
        case rel => exact ⟨k + 1, l ++ [x], by omega, by go_num, HV2, Lib.hid (show World.ownsRow _ _ _ _ _ _ _ by rw [List.length_append, HM.out, strsV, List.map_append]; exact HO6.out), HB6⟩
        case measure => simp [intOf]; omega
    · have HF := Lib.hid (show foldP L = some l by have := hf.out; rwa [List.take_of_length_le (by have := HN.out; omega)] at this)
      have HRR := Lib.hid (show cleanL s = if 200 < (joinL l).length then ([], 3) else (joinL l, 0) by rw [HV.out, HF.out]; rfl)
      have hjl := HFL.out l HF.out
      have hll := fold_take_len L k hf.out
      have hN1 : N ≤ 900001 := by have := HLE.out; have := HN.out; omega
      have CJ := joined_any a1 cap1 l wr hO.out.rd (by omega) (by omega)
      have HBF := Lib.hid (HB.out.trans (hB1.out.mono HB.out.size))
      clear hf hO hB1
      generalize l.length = n at *
      generalize joinL l = r at *
      have zr := str_size r
      by_cases h2 : 200 < r.length
      · have HR := Lib.hid (show cleanL s = ([], 3) by rw [HRR.out, if_pos h2])
        have g2 : (200 : Int) < (r.length : Int) := by omega
        clear h2
        go_wp2_with (go_at_call 28; ((with_reducible refine CJ.mono ?_); rintro e w2 ⟨rfl, rfl⟩))
        go_ret2
        exact ⟨ret2si (by rw [HR.out]; rfl) (by rw [HR.out]), HBF.out⟩
      · have HR := Lib.hid (show cleanL s = (r, 0) by rw [HRR.out, if_neg h2])
        have g2 : ¬ ((200 : Int) < (r.length : Int)) := by omega
        clear h2
        go_wp2_with (go_at_call 28; ((with_reducible refine CJ.mono ?_); rintro e w2 ⟨rfl, rfl⟩))
        go_ret2
        exact ⟨ret2si (by rw [HR.out]) (by rw [HR.out]), HBF.out⟩
end Go.Proofs.YtekfchlgkdgpdaaDoor
