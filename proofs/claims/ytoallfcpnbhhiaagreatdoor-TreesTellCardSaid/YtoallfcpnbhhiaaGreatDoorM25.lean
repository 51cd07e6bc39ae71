/- Merged: PtJ, UvC. -/
import Derived.Test.YtoallfcpnbhhiaaGreatDoorM11
import Derived.Test.YtoallfcpnbhhiaaGreatDoorM24
/- Layer 14: the document's Clean. -/
namespace Go.Proofs.YtoallfcpnbhhiaaGreatDoor
open Go.RowKit

theorem strsV_length (l : List (List UInt8)) : (strsV l).length = l.length := by simp [strsV]
theorem OwnsS.below {w w' : World} {base : Nat} {v : Value} {l : List (List UInt8)} (h : OwnsS w base v l) (hb : Below w.heap.size w w') : OwnsS w' base v l :=
  World.ownsRow.kept h (row := none) ⟨hb.os, hb.tape, hb.output, hb.size, fun k hk _ => hb.block k hk⟩ (by cases hv : v.ownBlock <;> simp)
theorem take_succ_at (L : List (List UInt8)) {k : Nat} (h : k < L.length) : L.take (k + 1) = L.take k ++ [L.getD k []] := by
  rw [List.take_succ_eq_append_getElem h, List.getD_eq_getElem?_getD, List.getElem?_eq_getElem h]
  rfl
theorem fold_take_len (L : List (List UInt8)) : ∀ (k : Nat) {l : List (List UInt8)}, foldP (L.take k) = some l → l.length ≤ k := by
  intro k
  induction k with
  | zero =>
    intro l h
    rw [List.take_zero] at h
    cases h
    exact Nat.le_refl _
  | succ k ih =>
    intro l h
    by_cases hk : k < L.length
    · rw [take_succ_at L hk, foldP_snoc] at h
      cases e : foldP (L.take k) with
      | none => rw [e] at h; cases h
      | some m =>
        rw [e] at h
        have := ih e
        have := step_len h
        omega
    · rw [List.take_of_length_le (by omega)] at h
      have := ih (by rw [List.take_of_length_le (by omega)]; exact h)
      omega
theorem news_rd {w : World} {g : Nat} {l : List (List UInt8)} (h : RdS w (some ⟨g, 0, none⟩) l) : ∀ j u, (strsV l)[j]? = some u → w.cell? ((⟨g, 0, none⟩ : Addr).add j) = some u := by
  intro j u hu
  have hadd : (⟨g, 0, none⟩ : Addr).add j = ⟨g, j, none⟩ := by unfold Addr.add; split <;> simp_all
  unfold strsV at hu
  rw [List.getElem?_map] at hu
  obtain ⟨z, hz, rfl⟩ := Option.map_eq_some_iff.1 hu
  obtain ⟨g', hg', _, hc⟩ := h j (List.getElem?_eq_some_iff.1 hz).1
  cases hg'
  rw [hadd, hc, List.getD_eq_getElem?_getD, hz]
  rfl
theorem strs_one (l : List (List UInt8)) : ∀ u ∈ strsV l, u.oneCell' = true := by
  intro u hu
  obtain ⟨x, _, rfl⟩ := List.mem_map.1 hu
  rfl
set_option maxRecDepth 100000 in
set_option maxHeartbeats 4000000 in
theorem rclean_any (s : List UInt8) (hl : s.length ≤ 900000) (w : World) :
    Calls Tryz.prog 49 #[.string (str s)] w fun e w' => e = .returned (.tuple #[.string (str (cleanL s).1), .int .i64 (cleanL s).2]) ∧ Below w.heap.size w w' := by
  have HV := Lib.hid (show cleanL s = cleanR (foldP (cutL s 47)) from rfl)
  obtain ⟨L, hL⟩ : ∃ L, L = cutL s 47 := ⟨_, rfl⟩
  have HLE := Lib.hid (show L.length ≤ 900001 by have := cutL_le s 47; rw [hL]; omega)
  have HPC := Lib.hid (show ∀ k, (L.getD k []).length ≤ 900000 from fun k => by rw [hL]; exact Nat.le_trans (cutL_getD_le s 47 k) hl)
  have HFL := Lib.hid (show ∀ l, foldP L = some l → (joinL l).length ≤ 900001 from fun l h => by rw [hL] at h; have := foldP_len h; omega)
  have CP := fun w => parts_any (str s) w (by rw [str_size]; omega)
  rw [show (str s).data.toList = s from rfl] at CP
  rw [← hL] at HV CP
  have HPOS := Lib.hid (show 0 < L.length by rw [hL]; exact cutL_pos s 47)
  clear hL
  obtain ⟨i0, hi, hz0, hz1, hz2⟩ := info_parts info_string
  go_enter Tryz.func49, Tryz.ntmps49
  go_wp2_with (go_at_call 50; ((with_reducible refine (CP _).mono ?_); rintro e w1 ⟨v, rfl, hO, hB⟩; obtain ⟨a, cap, rfl⟩ := hO.form))
  have HRD := Lib.hid hO.rd
  have HB := Lib.hid hB
  obtain ⟨N, hN⟩ : ∃ N, N = L.length := ⟨_, rfl⟩
  have HN := Lib.hid hN
  rw [← hN]
  clear hO hB hN
  go_loopw [5, 6] (fun t v wr => ∃ (k : Nat) (l : List (List UInt8)), k ≤ N ∧ v = .int .i64 k ∧ Hid (foldP (L.take k) = some l) ∧ Hid (OwnsS wr w1.heap.size t l) ∧ Hid (Below w1.heap.size w1 wr)) (fun _ v _ => N - (intOf v).toNat)
  case atStart => exact ⟨0, [], Nat.zero_le _, rfl, Lib.hid rfl, Lib.hid (World.ownsRow_nil _ _ _ _), Lib.hid (Below.refl _ _)⟩
  case round =>
    obtain ⟨k, l, hk, rfl, hf, hO, hB1⟩ := hrel
    obtain ⟨a1, cap1, rfl⟩ := hO.out.form
    by_cases hlt : k < N
    · have g1 : (k : Int) < (N : Int) := by omega
      have hN1 : N ≤ 900001 := by have := HLE.out; have := HN.out; omega
      have hll := fold_take_len L k hf.out
      have HT := Lib.hid (show foldP (L.take (k + 1)) = stepP (some l) (L.getD k []) by rw [take_succ_at L (by have := HN.out; omega), foldP_snoc, hf.out])
      obtain ⟨g, rfl, hg, e1⟩ := (HRD.out.below hB1.out) k (by have := HN.out; omega)
      have hx := HPC.out k
      obtain ⟨x, hxx⟩ : ∃ x, x = L.getD k [] := ⟨_, rfl⟩
      rw [← hxx] at e1 HT hx
      have HS : Hid (stepP (some l) x = if x = [] ∨ x = [46] then some l else if x = [46, 46] then (if l = [] then none else some l.dropLast) else if (0 : UInt8) ∈ x then none else some (l ++ [x])) := Lib.hid rfl
      have q1 : (str x).toList.isEmpty = decide (x = []) := empty_lit x
      have q2 : ((str x).toList == [46]) = decide (x = [46]) := eq_lit x [46]
      have q3 : ((str x).toList == [46, 46]) = decide (x = [46, 46]) := eq_lit x [46, 46]
      have CN := fun w => nought_any (str x) w (by rw [str_size]; omega)
      rw [show (str x).data.toList = x from rfl] at CN
      clear hxx
      by_cases h1 : x = []
      · rw [decide_eq_true h1] at q1
        have HV2 := Lib.hid (show foldP (L.take (k + 1)) = some l by rw [HT.out, HS.out, if_pos (.inl h1)])
        clear h1 CN HT HS
        go_wp2
        go_roundw
        case rel => exact ⟨k + 1, l, by omega, by go_num, HV2, hO, hB1⟩
        case measure => simp [intOf]; omega
      rw [decide_eq_false h1] at q1
      by_cases h2 : x = [46]
      · rw [decide_eq_true h2] at q2
        have HV2 := Lib.hid (show foldP (L.take (k + 1)) = some l by rw [HT.out, HS.out, if_pos (.inr h2)])
        clear h1 h2 CN HT HS
        go_wp2
        go_roundw
        case rel => exact ⟨k + 1, l, by omega, by go_num, HV2, hO, hB1⟩
        case measure => simp [intOf]; omega
      rw [decide_eq_false h2] at q2
      have h12 : ¬ (x = [] ∨ x = [46]) := by rintro (h | h); exact h1 h; exact h2 h
      have HNO := Lib.hid (fun (hn : foldP (L.take (k + 1)) = none) => show cleanL s = ([], 71) by rw [HV.out, foldP_pre (List.take_prefix (k + 1) L) hn]; rfl)
      by_cases h4 : (0 : UInt8) ∈ x
      · have h3 : x ≠ [46, 46] := by rintro rfl; revert h4; decide
        have HR := Lib.hid (HNO.out (by rw [HT.out, HS.out, if_neg h12, if_neg h3, if_pos h4]))
        rw [decide_eq_true h4] at CN
        rw [decide_eq_false h3] at q3
        clear h1 h2 h3 h4 h12 HT HS HNO
        go_wp2_with (go_at_call 65; ((with_reducible refine (CN _).mono ?_); rintro e w2 ⟨rfl, rfl⟩))
        go_ret2
        exact ⟨ret2si (by rw [HR.out]; rfl) (by rw [HR.out]), HB.out.trans (hB1.out.mono HB.out.size)⟩
      rw [decide_eq_false h4] at CN
      by_cases h3 : x = [46, 46]
      · rw [decide_eq_true h3] at q3
        by_cases h0 : l = []
        · have HR := Lib.hid (HNO.out (by rw [HT.out, HS.out, if_neg h12, if_pos h3, if_pos h0]))
          subst h0
          clear h1 h2 h3 h4 h12 HT HS HNO
          go_wp2_with (go_at_call 65; ((with_reducible refine (CN _).mono ?_); rintro e w2 ⟨rfl, rfl⟩))
          go_ret2
          exact ⟨ret2si (by rw [HR.out]; rfl) (by rw [HR.out]), HB.out.trans (hB1.out.mono HB.out.size)⟩
        · have HV2 := Lib.hid (show foldP (L.take (k + 1)) = some l.dropLast by rw [HT.out, HS.out, if_neg h12, if_pos h3, if_neg h0])
          obtain ⟨M, hM⟩ : ∃ M, l.length = M + 1 := ⟨l.length - 1, by have := List.length_pos_iff.2 h0; omega⟩
          have HM := Lib.hid hM
          rw [hM] at hO hll ⊢
          obtain ⟨g1', ha1, _, _⟩ := hO.out.at (k := 0) (by have := HM.out; omega)
          subst ha1
          have HN1 := Lib.hid (news_rd hO.out.rd.front)
          have HDL := Lib.hid (show l.dropLast.length = M by rw [List.length_dropLast]; omega)
          have c1 : (M : Int) ≤ (cap1 : Int) := by
            rcases hO.out.2 with ⟨h6, _⟩ | ⟨_, _, _, h6, _, _, h7, _⟩
            · cases h6
            · simp only [Value.slice.injEq] at h6
              obtain ⟨_, h8, h9⟩ := h6
              have := HM.out
              omega
          have hm1 : M ≤ 1000000 := by omega
          clear h0 h1 h2 h3 h4 h12 HT HS HNO hM
          go_wp2_with (first
            | (go_at_call 65; ((with_reducible refine (CN _).mono ?_); rintro e w2 ⟨rfl, rfl⟩))
            | ((with_reducible show wpList _ _ _ (⟨some 55, _, _, _, _, _⟩ :: _) _ _); refine wpList_append_own _ rfl (.const (.slice none 0 0)) (.tmp 54) 92 rfl w1.heap.size 9 i0 (.string ⟨#[]⟩) 1 16 Tryz.underlying92 hi hz0 hz1 hz2 rfl (by decide) (.slice none 0 0) 0 [] rfl (World.ownsRow_nil _ _ _ _) ⟨g1', 0, none⟩ M cap1 (strsV l.dropLast) rfl (by rw [strsV_length, HDL.out, Nat.mul_one]) HN1.out (strs_one _) (by unfold maxLen; omega) (by omega) hB1.out.size ?_; intro v' w6 hown6 hgrow6 _; simp only [Nat.zero_add, List.nil_append] at hown6; obtain ⟨a6, cap6, rfl⟩ := owns_form hown6; have HO6 := Lib.hid hown6; have HB6 := Lib.hid (hB1.out.grown hgrow6 hB1.out.size (fun j hj => (by cases hj))); clear hown6 hgrow6))
          go_roundw
          case rel => exact ⟨k + 1, l.dropLast, by omega, by go_num, HV2, Lib.hid (show World.ownsRow _ _ _ _ _ _ _ by rw [HDL.out]; exact HO6.out), HB6⟩
          case measure => simp [intOf]; omega
      · rw [decide_eq_false h3] at q3
        have HV2 := Lib.hid (show foldP (L.take (k + 1)) = some (l ++ [x]) by rw [HT.out, HS.out, if_neg h12, if_neg h3, if_neg h4])
        obtain ⟨M, hM⟩ : ∃ M, l.length = M := ⟨_, rfl⟩
        have HM := Lib.hid hM
        rw [hM] at hO hll ⊢
        have HO1 := Lib.hid (show World.ownsRow wr w1.heap.size 9 1 (.slice a1 M cap1) M (strsV l) from by have h5 := hO.out; unfold OwnsS at h5; rw [hM] at h5; exact h5)
        have hm1 : M ≤ 1000000 := by omega
        clear h1 h2 h3 h4 h12 HT HS HNO hM
        go_wp2_with (first
          | (go_at_call 65; ((with_reducible refine (CN _).mono ?_); rintro e w2 ⟨rfl, rfl⟩))
          | ((with_reducible show wpList _ _ _ (⟨some 62, _, _, _, _, _⟩ :: _) _ _); refine wpList_append_own _ rfl (.tmp 56) (.tmp 61) 92 rfl w1.heap.size 9 i0 (.string ⟨#[]⟩) 1 16 Tryz.underlying92 hi hz0 hz1 hz2 rfl (by decide) (.slice a1 M cap1) M (strsV l) rfl (World.ownsRow.alloc HO1.out _) _ 1 1 [.string (str x)] rfl rfl (World.news_of_block (heap_alloc_new _ _)) (by intro u hu; simp at hu; subst hu; rfl) (by unfold maxLen; omega) (by omega) (by rw [size_alloc]; have := hB1.out.size; omega) ?_; intro v' w6 hown6 hgrow6 _; obtain ⟨a6, cap6, rfl⟩ := owns_form hown6; have HO6 := Lib.hid hown6; have HB6 := Lib.hid ((hB1.out.alloc hB1.out.size _).grown hgrow6 (by rw [size_alloc]; have := hB1.out.size; omega) (fun j hj => (HO1.out.lt j hj).1)); clear hown6 hgrow6))
        go_roundw
        case rel => exact ⟨k + 1, l ++ [x], by omega, by go_num, HV2, Lib.hid (show World.ownsRow _ _ _ _ _ _ _ by rw [List.length_append, HM.out, strsV, List.map_append]; exact HO6.out), HB6⟩
        case measure => simp [intOf]; omega
    · have HF := Lib.hid (show foldP L = some l by have := hf.out; rwa [List.take_of_length_le (by have := HN.out; omega)] at this)
      have HRR := Lib.hid (show cleanL s = if 200 < (joinL l).length then ([], 3) else (joinL l, 0) by rw [HV.out, HF.out]; rfl)
      have hjl := HFL.out l HF.out
      have hll := fold_take_len L k hf.out
      have hN1 : N ≤ 900001 := by have := HLE.out; have := HN.out; omega
      have CJ := joined_any a1 cap1 l wr hO.out.rd (by omega) (by omega)
      have HBF := Lib.hid (HB.out.trans (hB1.out.mono HB.out.size))
      clear hf hO hB1
      generalize l.length = n at *
      generalize joinL l = r at *
      have zr := str_size r
      by_cases h2 : 200 < r.length
      · have HR := Lib.hid (show cleanL s = ([], 3) by rw [HRR.out, if_pos h2])
        have g2 : (200 : Int) < (r.length : Int) := by omega
        clear h2
        go_wp2_with (go_at_call 51; ((with_reducible refine CJ.mono ?_); rintro e w2 ⟨rfl, rfl⟩))
        go_ret2
        exact ⟨ret2si (by rw [HR.out]; rfl) (by rw [HR.out]), HBF.out⟩
      · have HR := Lib.hid (show cleanL s = (r, 0) by rw [HRR.out, if_neg h2])
        have g2 : ¬ ((200 : Int) < (r.length : Int)) := by omega
        clear h2
        go_wp2_with (go_at_call 51; ((with_reducible refine CJ.mono ?_); rintro e w2 ⟨rfl, rfl⟩))
        go_ret2
        exact ⟨ret2si (by rw [HR.out]) (by rw [HR.out]), HBF.out⟩
end Go.Proofs.YtoallfcpnbhhiaaGreatDoor

/- Layer 16, the document's own side: may. -/
namespace Go.Proofs.YtoallfcpnbhhiaaGreatDoor
open Go.RowKit

set_option maxRecDepth 100000 in
set_option maxHeartbeats 4000000 in
theorem rmay_any (x : Nd) (hp : x.path.length ≤ 900000) (w : World) :
    Calls Tryz.prog 31 #[.agg (ndA x)] w fun e w' => e = .returned (.bool (mayN x)) ∧ Below w.heap.size w w' := by
  have CC := fun w => rclean_any x.path hp w
  obtain ⟨W0, hW0⟩ : ∃ W0, W0 = w.alloc (.cells (ndA x) 35) := ⟨_, rfl⟩
  have R0 : rowC W0 w.heap.size (ndA x) 35 := by rw [hW0]; exact rowC_new _ _ _
  have HB0 : Hid (Below w.heap.size w W0) := Lib.hid (by rw [hW0]; exact (Below.refl _ _).alloc (Nat.le_refl _) _)
  have HR := Lib.hid (fun (w' : World) (hb : Below W0.heap.size W0 w') => show w'.cell? ⟨w.heap.size, 0, none⟩ = some (.string (str x.path)) ∧ w'.cell? ⟨w.heap.size, 1, none⟩ = some (.int .i64 x.kind) ∧ w'.cell? ⟨w.heap.size, 2, none⟩ = some (.int .i64 x.mode) ∧ w'.cell? ⟨w.heap.size, 3, none⟩ = some (.string (str x.data)) from by
    have h := rowC_below R0 hb (rowC_lt R0)
    exact ⟨rowC_cell h 0, rowC_cell h 1, rowC_cell h 2, rowC_cell h 3⟩)
  have HW := Lib.hid (show w.alloc (.cells #[.string (str x.path), .int .i64 x.kind, .int .i64 x.mode, .string (str x.data)] 35) = W0 from hW0.symm)
  obtain ⟨k0, _, _, _⟩ := HR.out W0 (Below.refl _ _)
  obtain ⟨ok, hok⟩ : ∃ b, b = (!decide (x.path = []) && (decide (0 ≤ x.mode) && (decide (x.mode ≤ 4095) && decide (cleanL x.path = (x.path, 0))))) := ⟨_, rfl⟩
  have hm : mayN x = (ok && kindN x) := by rw [hok]; unfold mayN; simp only [Bool.and_assoc]
  rw [hm]
  obtain ⟨K, hKK⟩ : ∃ K, K = kindN x := ⟨_, rfl⟩
  rw [← hKK]
  have HOK := Lib.hid hok
  have HK : Hid (K = if x.kind = 1 then decide (x.data.length ≤ 65536) else if x.kind = 2 then decide (x.data = []) else if x.kind = 4 then !decide (x.data = []) && decide (x.data.length ≤ 200) else false) := Lib.hid hKK
  have q2 := eq_strs (cleanL x.path).1 x.path
  have zc : (str (cleanL x.path).1).size = (cleanL x.path).1.length := str_size _
  have hc200 := clean_len x.path
  have zd : (str x.data).size = x.data.length := str_size _
  have HC : Hid (decide (cleanL x.path = (x.path, 0)) = (decide ((cleanL x.path).1 = x.path) && decide ((cleanL x.path).2 = 0))) := Lib.hid (by
    rw [Bool.eq_iff_iff, decide_eq_true_eq, Bool.and_eq_true, decide_eq_true_eq, decide_eq_true_eq]
    exact ⟨fun h => by rw [h]; exact ⟨rfl, rfl⟩, fun ⟨h1, h2⟩ => Prod.ext h1 h2⟩)
  clear hW0 R0 hok hm hKK
  show Calls _ _ #[.agg #[.string (str x.path), .int .i64 x.kind, .int .i64 x.mode, .string (str x.data)]] _ _
  go_enter Tryz.func31, Tryz.ntmps31
  go_upto_region 1 with (fail)
  rw [HW.out]
  clear HW
  go_upto_region 2 with (go_at_call 49; (with_reducible refine (CC _).mono ?_); rintro e w2 ⟨rfl, b2⟩; obtain ⟨p0, p1, p2, p3⟩ := HR.out _ b2; have HB2 := Lib.hid (HB0.out.trans (b2.mono HB0.out.size)); clear b2)
  clear CC HR k0
  obtain ⟨CP, hCP⟩ : ∃ a, a = (cleanL x.path).1 := ⟨_, rfl⟩
  obtain ⟨CE, hCE⟩ : ∃ a, a = (cleanL x.path).2 := ⟨_, rfl⟩
  rw [← hCP] at q2 zc hc200
  rw [← hCP, ← hCE] at HC
  rw [← hCP, ← hCE]
  clear hCP hCE
  have HCX : Hid (CP = x.path → ((CP.length : Int) = 0 ↔ x.path = [])) := Lib.hid (fun h => by
    rw [h]
    exact ⟨fun h1 => List.eq_nil_of_length_eq_zero (by omega), fun h1 => by rw [h1]; rfl⟩)
  go_cut [5] from 12 to 39 (fun a wx => a = .bool ok ∧ wx = w2)
  case first =>
    by_cases e1 : CE = 0
    rotate_left
    · have f1 : (CE == 0) = false := by rw [beq_eq_false_iff_ne]; exact e1
      have HO : Hid (ok = false) := Lib.hid (by rw [HOK.out, HC.out, decide_eq_false e1]; simp)
      clear HC HCX q2 e1
      go_wp2
      go_meet
      exact ⟨by rw [HO.out], rfl⟩
    have f1 : (CE == 0) = true := by rw [beq_iff_eq]; exact e1
    by_cases e2 : CP = x.path
    rotate_left
    · have HO : Hid (ok = false) := Lib.hid (by rw [HOK.out, HC.out, decide_eq_false e2]; simp)
      rw [decide_eq_false e2] at q2
      subst e1
      clear HC HCX e2
      go_wp2
      go_meet
      exact ⟨by rw [HO.out], rfl⟩
    rw [decide_eq_true e2] at q2
    have hnil := HCX.out e2
    have HO1 : Hid (ok = (!decide (x.path = []) && (decide (0 ≤ x.mode) && decide (x.mode ≤ 4095)))) := Lib.hid (by rw [HOK.out, HC.out, decide_eq_true e2, decide_eq_true e1]; simp)
    subst e1
    clear HC HCX e2
    by_cases e3 : x.path = []
    · have z0 : CP.length = 0 := by have := hnil.2 e3; omega
      have z1 : ¬ (0 : Int) < (CP.length : Int) := by omega
      have HO : Hid (ok = false) := Lib.hid (by rw [HO1.out, decide_eq_true e3]; rfl)
      clear hnil HO1 z0
      clear e3
      go_wp2
      go_meet
      exact ⟨by rw [HO.out], rfl⟩
    have z1 : (0 : Int) < (CP.length : Int) := by
      by_cases h : (CP.length : Int) = 0
      · exact absurd (hnil.1 h) e3
      · omega
    have z2 : (CP.length : Int) ≤ 200 := by omega
    have HO2 : Hid (ok = (decide (0 ≤ x.mode) && decide (x.mode ≤ 4095))) := Lib.hid (by rw [HO1.out, decide_eq_false e3]; rfl)
    clear hnil HO1
    clear e3
    generalize x.mode = m at *
    by_cases e4 : 0 ≤ m
    rotate_left
    · have HO : Hid (ok = false) := Lib.hid (by rw [HO2.out, decide_eq_false e4]; rfl)
      clear HO2
      go_wp2
      go_meet
      exact ⟨by rw [HO.out], rfl⟩
    by_cases e5 : m ≤ 4095
    rotate_left
    · have HO : Hid (ok = false) := Lib.hid (by rw [HO2.out, decide_eq_false e5]; simp)
      clear HO2
      go_wp2
      go_meet
      exact ⟨by rw [HO.out], rfl⟩
    have HO : Hid (ok = true) := Lib.hid (by rw [HO2.out, decide_eq_true e4, decide_eq_true e5]; rfl)
    clear HO2
    go_wp2
    go_meet
    exact ⟨by rw [HO.out], rfl⟩
  case rest =>
    obtain ⟨rfl, rfl⟩ := hcut
    clear HC HCX q2 zc hc200 HOK p0 p2
    have hdn : (x.data = [] ↔ (x.data.length : Int) = 0) := ⟨fun h => by rw [h]; rfl, fun h => List.eq_nil_of_length_eq_zero (by omega)⟩
    have HDN := Lib.hid hdn
    have hbn : decide (x.data = []) = decide ((x.data.length : Int) = 0) := by simp only [hdn]
    rw [hbn] at HK
    clear hbn hdn HDN
    have hle : decide (x.data.length ≤ 65536) = decide ((x.data.length : Int) ≤ 65536) := by
      by_cases h : x.data.length ≤ 65536
      · rw [decide_eq_true h, decide_eq_true (by omega)]
      · rw [decide_eq_false h, decide_eq_false (by omega)]
    have hle2 : decide (x.data.length ≤ 200) = decide ((x.data.length : Int) ≤ 200) := by
      by_cases h : x.data.length ≤ 200
      · rw [decide_eq_true h, decide_eq_true (by omega)]
      · rw [decide_eq_false h, decide_eq_false (by omega)]
    rw [hle, hle2] at HK
    clear hle hle2
    generalize x.kind = kd at *
    generalize x.data.length = dl at *
    generalize str x.data = DT at *
    by_cases k1 : kd = 1
    · subst k1
      have HK1 : Hid (K = decide ((dl : Int) ≤ 65536)) := Lib.hid (by rw [HK.out, if_pos rfl])
      clear HK
      cases ok
      · go_wp2
        go_ret
        exact ⟨rfl, HB2.out⟩
      · go_wp2
        go_ret
        exact ⟨by rw [HK1.out]; rfl, HB2.out⟩
    have f1 : (kd == 1) = false := by rw [beq_eq_false_iff_ne]; exact k1
    by_cases k2 : kd = 2
    · subst k2
      have HK1 : Hid (K = ((dl : Int) == 0)) := Lib.hid (by rw [HK.out, if_neg (by decide), if_pos rfl]; rfl)
      clear HK
      cases ok
      · go_wp2
        go_ret
        exact ⟨rfl, HB2.out⟩
      · go_wp2
        go_ret
        exact ⟨by rw [HK1.out]; rfl, HB2.out⟩
    have f2 : (kd == 2) = false := by rw [beq_eq_false_iff_ne]; exact k2
    by_cases k4 : kd = 4
    · subst k4
      have HK1 : Hid (K = (!decide ((dl : Int) = 0) && decide ((dl : Int) ≤ 200))) := Lib.hid (by rw [HK.out, if_neg (by decide), if_neg (by decide), if_pos rfl])
      clear HK
      cases ok
      · go_wp2
        go_ret
        exact ⟨rfl, HB2.out⟩
      · by_cases d0 : (dl : Int) = 0
        · have g0 : ¬ (0 : Int) < (dl : Int) := by omega
          have HE : Hid (K = false) := Lib.hid (by rw [HK1.out, decide_eq_true d0]; rfl)
          clear HK1 d0
          go_wp2
          go_ret
          exact ⟨by rw [HE.out]; rfl, HB2.out⟩
        · have g0 : (0 : Int) < (dl : Int) := by omega
          have HE : Hid (K = decide ((dl : Int) ≤ 200)) := Lib.hid (by rw [HK1.out, decide_eq_false d0]; rfl)
          clear HK1 d0
          go_wp2
          go_ret
          exact ⟨by rw [HE.out]; rfl, HB2.out⟩
    have f4 : (kd == 4) = false := by rw [beq_eq_false_iff_ne]; exact k4
    have HE : Hid (K = false) := Lib.hid (by rw [HK.out, if_neg k1, if_neg k2, if_neg k4])
    clear HK k1 k2 k4
    go_wp2
    go_ret
    exact ⟨by rw [HE.out, Bool.and_false]; rfl, HB2.out⟩
end Go.Proofs.YtoallfcpnbhhiaaGreatDoor

