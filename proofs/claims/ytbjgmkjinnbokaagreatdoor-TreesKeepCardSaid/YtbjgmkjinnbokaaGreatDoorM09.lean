/- Merged: PtI, PtK. -/
import Derived.Test.YtbjgmkjinnbokaaGreatDoorM08
/- Layer 14: the program's Clean, walked. -/
namespace Go.Proofs.YtbjgmkjinnbokaaGreatDoor
open Go.RowKit Go.Shelf
attribute [local go_sem] Oper.semAt_some

theorem ret2si {a a' : ByteArray} {b b' : Int} (h : a = a') (h' : b = b') : Ending.returned (.tuple #[.string a, .int .i64 b]) = .returned (.tuple #[.string a', .int .i64 b']) := by rw [h, h']
set_option maxRecDepth 100000 in
set_option maxHeartbeats 4000000 in
theorem clean_any (s : List UInt8) (hl : s.length ≤ 900000) (w : World) :
    Calls Tryz.prog 35 #[.string (str s)] w fun e w' => e = .returned (.tuple #[.string (str (cleanL s).1), .int .i64 (cleanL s).2]) ∧ Below w.heap.size w w' := by
  have HV := Lib.hid (show cleanL s = cleanR (foldP (cutL s 47)) from rfl)
  have HLE := Lib.hid (show (cutL s 47).length ≤ 900001 by have := cutL_le s 47; omega)
  have HPC := Lib.hid (fun p (hp : p ∈ cutL s 47) => Nat.le_trans (cutL_piece s 47 p hp) hl)
  refine (callsIn_wide (n := 4)).1 ?_
  refine callsIn_of_wp_marks Tryz.func35 rfl trivial ?_ rfl
  simp only [Tryz.ntmps35, List.size_toArray, List.length_cons, List.length_nil, Nat.reduceAdd, Nat.reduceSub, Array.replicate_succ, Array.replicate_zero, List.push_toArray, List.append_toArray, List.nil_append, List.cons_append]
  have C := fun w => SplitSeq_any s 47 w
  obtain ⟨w0, hw0⟩ : ∃ w0, w0 = ((w.alloc (.cells #[.string (str [])] 9)).alloc (.cells #[.int .i64 0] 27)).alloc (.cells #[.slice none 0 0, .int .i64 0] 102) := ⟨_, rfl⟩
  have hs0 : w0.heap.size = w.heap.size + 3 := by rw [hw0]; simp
  have r0 : ClI w [] 0 (boxW w0 s 47) ∧ StkAt (boxW w0 s 47) (w.heap.size + 6) (w.heap.size + 2) [] := by
    have h0 := new_cell w (.string (str [])) 9
    have h1 := new_cell (w.alloc (.cells #[.string (str [])] 9)) (.int .i64 0) 27
    rw [World.size_alloc] at h1
    have b0 : Below w.heap.size w w0 := by rw [hw0]; exact (((Below.refl _ w).alloc (Nat.le_refl _) _).alloc (by simp) _).alloc (by simp; omega) _
    have b1 := boxW_below w0 s 47
    have k1 : KeepsIn (fun _ => True) w0 (boxW w0 s 47) := KeepsIn.below b1
    have c0 : w0.cell? ⟨w.heap.size, 0, none⟩ = some (.string (str [])) ∧ w0.frozen? ⟨w.heap.size, 0, none⟩ = false := by rw [hw0]; exact cell_alloc _ (cell_alloc _ h0)
    have c1 : w0.cell? ⟨w.heap.size + 1, 0, none⟩ = some (.int .i64 0) ∧ w0.frozen? ⟨w.heap.size + 1, 0, none⟩ = false := by rw [hw0]; exact cell_alloc _ h1
    refine ⟨⟨k1 _ trivial _ c0.1 c0.2, k1 _ trivial _ c1.1 c1.2, b0.trans (b1.mono (by omega)), by rw [boxW_size]; omega⟩, ⟨.slice none 0 0, ?_, .inl ⟨rfl, rfl⟩⟩⟩
    have hr : rowC w0 (w.heap.size + 2) #[.slice none 0 0, .int .i64 0] 102 := by
      rw [hw0]
      have := rowC_new ((w.alloc (.cells #[.string (str [])] 9)).alloc (.cells #[.int .i64 0] 27)) #[.slice none 0 0, .int .i64 0] 102
      simpa [World.size_alloc] using this
    exact rowC_below hr b1 (rowC_lt hr)
  have hit := split_iter 3 (by omega) w0.heap.size s 47 (by omega) (boxW w0 s 47) (boxW_boxes w0 s 47)
  have hs1 := boxW_size w0 s 47
  gi_wp2_with (refine ⟨trivial, ?_⟩; gi_at_call 53; rw [show (⟨#[]⟩ : ByteArray) = str [] from rfl, ← hw0]; refine (callsIn_wide.2 (C _)).mono ?_; rintro e w' ⟨rfl, rfl⟩)
  rw [show (⟨#[]⟩ : ByteArray) = str [] from rfl, ← hw0]
  rw [hs0] at hit hs1
  refine range_own (by omega) (gf := 95) (lb := #[.pointer (some ⟨w.heap.size + 3 + 1, 0, none⟩), .pointer (some ⟨w.heap.size + 3, 0, none⟩), .pointer (some ⟨w.heap.size + 3 + 2, 0, none⟩)]) rfl (enters_of Tryz.func95 (by kernel_rfl) rfl)
    hit rfl (sofarC w) (noMoreC w) (abode_so (by omega)) (abode_no (by omega)) ⟨[], rfl, Nat.zero_le _, r0.1, r0.2⟩
    (fun x => { tmps := #[.string (str s), undef, .pointer (some ⟨w.heap.size, 0, none⟩), .pointer (some ⟨w.heap.size + 1, 0, none⟩), .pointer (some ⟨w.heap.size + 1 + 1, 0, none⟩), .string (str x), .string (str s), .func (.func 95) #[] #[.pointer (some ⟨w.heap.size + 3 + 1, 0, none⟩), .pointer (some ⟨w.heap.size + 3, 0, none⟩), .pointer (some ⟨w.heap.size + 3 + 2, 0, none⟩)], .string (str x), undef, undef, undef, undef, undef, undef, undef, undef, undef, undef, undef, undef, undef, undef, undef, undef], defers := [] }) ?assign ?body ?done ?stop
  case assign =>
    intro l x W K hK
    gi_wp2
    simpa using hK
  case body =>
    rintro j pre x W ⟨l, hp, hlp, hI, hS⟩ hpre
    have hx : x.length ≤ 900000 := HPC.out x (by obtain ⟨t, ht⟩ := hpre; rw [← ht]; simp)
    have hll : l.length ≤ 1000000 := by
      have := hpre.length_le
      have := HLE.out
      rw [List.length_append] at *
      omega
    have CP := step_any (w.heap.size + 6) (w.heap.size + 2) l x hll (by omega) W hI.z hS
    have HP := Lib.hid (foldP_snoc pre x)
    rw [hp] at HP
    have HLP := Lib.hid hlp
    have HB := Lib.hid (fun (W' : World) (hc : StkC (w.heap.size + 6) (w.heap.size + 2) W W') => keeps_boxes (H := w.heap.size) hI.z hc)
    clear hpre hx hll hp hlp hS hit r0
    cases hst : stepP (some l) x with
    | none =>
      rw [hst] at CP
      have HN := Lib.hid (HP.out.trans hst)
      clear hst
      gi_wp2_with (refine ⟨trivial, ?_⟩; gi_at_call 54; refine (CallsIn.inRound j (callsIn_wide.2 CP)).mono ?_; rintro e w' ⟨rfl, _, c1⟩; have hI1 := hI.stk c1; have HK := Lib.hid c1.ko; have hr1 := hI1.r; have he1 := hI1.e)
      exact ⟨(HK.out.trans (KeepsOthers.setCell _ _ _)).trans (KeepsOthers.setCell _ _ _), HN.out, (hI1.setR []).setE 71⟩
    | some l' =>
      rw [hst] at CP
      have HN := Lib.hid (HP.out.trans hst)
      have HLL := Lib.hid (step_len hst)
      clear hst
      gi_wp2_with (refine ⟨trivial, ?_⟩; gi_at_call 54; refine (CallsIn.inRound j (callsIn_wide.2 CP)).mono ?_; rintro e w' ⟨rfl, hs1, c1⟩)
      exact ⟨c1.ko, HB.out _ c1, l', HN.out, by have := HLL.out; have := HLP.out; rw [List.length_append, List.length_singleton]; omega, hI.stk c1, hs1 l' rfl⟩
  case done =>
    rintro D W hD ⟨l, hp, hlp, hI, v, hrow, hown⟩ hK
    have HG := Lib.hid (foldP_good hp)
    have HJ := Lib.hid (foldP_len hp)
    have HVV := Lib.hid (show cleanL s = cleanR (some l) by rw [HV.out, hp])
    have HD := Lib.hid hD
    have HLL := Lib.hid (show l.length ≤ 900001 from Nat.le_trans hlp HLE.out)
    have HTJ := Lib.hid (join_len_take l 100)
    obtain ⟨a, cap, rfl, hcap, _⟩ := hown.form
    have CJ := libJoin_any a cap (l.take 100) W hown.rd (by rw [List.length_take]; omega) hcap (by have := HJ.out; have := HTJ.out; omega)
    obtain ⟨⟨e0, f0⟩, ⟨e1, f1⟩⟩ := row_two hrow
    have e0' : W.cell? ⟨w.heap.size + 1 + 1, 0, none⟩ = some (.slice a (l.take 100).length cap) := e0
    have HROW := Lib.hid hrow
    have HK := Lib.hid hK
    clear e0 f0 e1 f1 hcap hown hrow hit r0 hD hp hlp hK
    obtain ⟨M, hM⟩ : ∃ M, l.length - 100 = M := ⟨_, rfl⟩
    rw [hM] at HROW
    have HM := Lib.hid hM
    clear hM
    obtain ⟨n, hn⟩ : ∃ n, (l.take 100).length = n := ⟨_, rfl⟩
    rw [hn] at CJ e0' HROW
    clear hn
    by_cases h1 : 100 < l.length
    · have HR := Lib.hid (show cleanL s = ([], 3) by rw [HVV.out]; unfold cleanR; simp only; rw [if_pos (by have := good_len HG.out; omega)])
      have g1 : (0 : Int) < (M : Int) := by have := HM.out; omega
      clear h1
      generalize joinL (l.take 100) = r at *
      gi_wp2
      refine ⟨trivial, ?_⟩
      gi_at_call 55
      refine (callsIn_wide.2 CJ).mono ?_
      rintro e w2 ⟨rfl, b2⟩
      have hI2 := hI.below b2
      have hr2 := hI2.r
      have row2 := rowC_other (rowC_below HROW.out b2 (rowC_lt HROW.out)) ⟨w.heap.size, 0, none⟩ (.string (str r)) (by show w.heap.size + 2 ≠ w.heap.size; omega)
      have hK2 := Lib.hid (heap_own (b := w.heap.size) (v := .string (str r)) ((others_below b2).same _ _ HK.out rfl) rfl)
      have e12 : (w2.setCell ⟨w.heap.size, 0, none⟩ (.string (str r))).cell? ⟨w.heap.size + 1 + 1, 1, none⟩ = some (.int .i64 (M : Int)) := (row_two row2).2.1
      have hI3 := hI2.setR r
      have r3 := hI3.r
      have hI4 : ClI w [] 0 ((w2.setCell ⟨w.heap.size, 0, none⟩ (.string (str r))).setCell ⟨w.heap.size, 0, none⟩ (.string ⟨#[]⟩)) := hI3.setR []
      have e4 := hI4.e
      clear row2
      gi_wp2
      have hK3 : Hid _ := Lib.hid (heap_own (b := w.heap.size + 1) (v := .int .i64 3) (heap_own (b := w.heap.size) (v := .string ⟨#[]⟩) hK2.out rfl) rfl)
      have hS := (hI4.setE 3).put (.deferred none) (by have := HD.out; omega) hK3.out rfl
      have hv := hS.r.1
      have hv2 := hS.e.1
      refine ⟨by simp, .inl ⟨_, _, rfl, run_takeDeferred hK3.out, ?_⟩⟩
      exact ⟨.tuple #[.string (str []), .int .i64 3], by simp [results, Tryz.f35, go_sem, hv, hv2], ret2si (by rw [HR.out]) (by rw [HR.out]), hS.b⟩
    · have ht : l.take 100 = l := List.take_of_length_le (by omega)
      have HM0 : M = 0 := by have := HM.out; omega
      subst HM0
      rw [ht] at CJ
      have HRR := Lib.hid (show cleanL s = if 200 < (joinL l).length then ([], 3) else (joinL l, 0) from HVV.out)
      have hlr : (joinL l).length ≤ 900001 := by have := HJ.out; omega
      clear h1 ht HTJ
      generalize joinL l = r at *
      have zr := str_size r
      by_cases h2 : 200 < r.length
      · have HR := Lib.hid (show cleanL s = ([], 3) by rw [HRR.out, if_pos h2])
        have g2 : (200 : Int) < (r.length : Int) := by omega
        gi_wp2
        refine ⟨trivial, ?_⟩
        gi_at_call 55
        refine (callsIn_wide.2 CJ).mono ?_
        rintro e w2 ⟨rfl, b2⟩
        have hI2 := hI.below b2
        have hr2 := hI2.r
        have row2 := rowC_other (rowC_below HROW.out b2 (rowC_lt HROW.out)) ⟨w.heap.size, 0, none⟩ (.string (str r)) (by show w.heap.size + 2 ≠ w.heap.size; omega)
        have hK2 := Lib.hid (heap_own (b := w.heap.size) (v := .string (str r)) ((others_below b2).same _ _ HK.out rfl) rfl)
        have e12 : (w2.setCell ⟨w.heap.size, 0, none⟩ (.string (str r))).cell? ⟨w.heap.size + 1 + 1, 1, none⟩ = some (.int .i64 0) := (row_two row2).2.1
        have hI3 := hI2.setR r
        have r3 := hI3.r
        have hI4 : ClI w [] 0 ((w2.setCell ⟨w.heap.size, 0, none⟩ (.string (str r))).setCell ⟨w.heap.size, 0, none⟩ (.string ⟨#[]⟩)) := hI3.setR []
        have e4 := hI4.e
        clear row2 h2
        gi_wp2
        have hK3 : Hid _ := Lib.hid (heap_own (b := w.heap.size + 1) (v := .int .i64 3) (heap_own (b := w.heap.size) (v := .string ⟨#[]⟩) hK2.out rfl) rfl)
        have hS := (hI4.setE 3).put (.deferred none) (by have := HD.out; omega) hK3.out rfl
        have hv := hS.r.1
        have hv2 := hS.e.1
        refine ⟨by simp, .inl ⟨_, _, rfl, run_takeDeferred hK3.out, ?_⟩⟩
        exact ⟨.tuple #[.string (str []), .int .i64 3], by simp [results, Tryz.f35, go_sem, hv, hv2], ret2si (by rw [HR.out]) (by rw [HR.out]), hS.b⟩
      · have HR := Lib.hid (show cleanL s = (r, 0) by rw [HRR.out, if_neg h2])
        have g2 : ¬ ((200 : Int) < (r.length : Int)) := by omega
        have CC := fun w => clone_any (str r) (by rw [zr]; omega) w
        gi_wp2
        refine ⟨trivial, ?_⟩
        gi_at_call 55
        refine (callsIn_wide.2 CJ).mono ?_
        rintro e w2 ⟨rfl, b2⟩
        have hI2 := hI.below b2
        have hr2 := hI2.r
        have row2 := rowC_other (rowC_below HROW.out b2 (rowC_lt HROW.out)) ⟨w.heap.size, 0, none⟩ (.string (str r)) (by show w.heap.size + 2 ≠ w.heap.size; omega)
        have hK2 := Lib.hid (heap_own (b := w.heap.size) (v := .string (str r)) ((others_below b2).same _ _ HK.out rfl) rfl)
        have e12 : (w2.setCell ⟨w.heap.size, 0, none⟩ (.string (str r))).cell? ⟨w.heap.size + 1 + 1, 1, none⟩ = some (.int .i64 0) := (row_two row2).2.1
        have hI3 := hI2.setR r
        have r3 := hI3.r
        clear row2 h2
        gi_wp2
        refine ⟨trivial, ?_⟩
        gi_at_call 46
        refine (callsIn_wide.2 (CC _)).mono ?_
        rintro e w5 ⟨rfl, b5⟩
        have hI5 := hI3.below b5
        have r5 := hI5.r
        have hI6 := hI5.setR r
        have e6 := hI6.e
        have hK5 := Lib.hid ((others_below b5).same _ _ hK2.out rfl)
        gi_wp2
        have hK6 : Hid _ := Lib.hid (heap_own (b := w.heap.size + 1) (v := .int .i64 0) (heap_own (b := w.heap.size) (v := .string (str r)) hK5.out rfl) rfl)
        have hS := (hI6.setE 0).put (.deferred none) (by have := HD.out; omega) hK6.out rfl
        have hv := hS.r.1
        have hv2 := hS.e.1
        refine ⟨by simp, .inl ⟨_, _, rfl, run_takeDeferred hK6.out, ?_⟩⟩
        exact ⟨.tuple #[.string (str r), .int .i64 0], by simp [results, Tryz.f35, go_sem, hv, hv2], ret2si (by rw [HR.out]) (by rw [HR.out]), hS.b⟩
  case stop =>
    rintro D pre W hD hpre ⟨hall, hI⟩ hK
    have HD := Lib.hid hD
    have HR := Lib.hid (show cleanL s = ([], 71) by rw [HV.out, foldP_pre hpre hall]; rfl)
    clear hD hpre hall hit r0
    gi_wp2
    have hS := hI.put (.deferred none) (by have := HD.out; omega) hK rfl
    have hv := hS.r.1
    have hv2 := hS.e.1
    refine ⟨by simp, .inl ⟨_, _, rfl, run_takeDeferred hK, ?_⟩⟩
    exact ⟨.tuple #[.string (str []), .int .i64 71], by simp [results, Tryz.f35, go_sem, hv, hv2], ret2si (by rw [HR.out]) (by rw [HR.out]), hS.b⟩
end Go.Proofs.YtbjgmkjinnbokaaGreatDoor

/- Layer 14: whiteouts. -/
namespace Go.Proofs.YtbjgmkjinnbokaaGreatDoor
open Go.RowKit

theorem ret3w {a a' : ByteArray} {b b' c c' : Bool} (h : a = a') (h' : b = b') (h'' : c = c') : Ending.returned (.tuple #[.string a, .bool b, .bool c]) = .returned (.tuple #[.string a', .bool b', .bool c']) := by rw [h, h', h'']
theorem mayGo_any (n : List UInt8) (w : World) :
    Calls Tryz.prog 58 #[.string (str n)] w fun e w' => e = .returned (.bool (mayGoB n)) ∧ w = w' := by
  have q1 : (str n).toList.isEmpty = decide (n = []) := empty_lit n
  have q2 : ((str n).toList == [46]) = decide (n = [46]) := eq_lit n [46]
  have q3 : ((str n).toList == [46, 46]) = decide (n = [46, 46]) := eq_lit n [46, 46]
  have CH := fun w => hasP_any n whB w
  rw [show str whB = ⟨#[46, 119, 104, 46]⟩ from rfl] at CH
  have HM := Lib.hid (show mayGoB n = (!decide (n = []) && (!decide (n = [46]) && (!decide (n = [46, 46]) && !decide (whB <+: n)))) from rfl)
  generalize decide (n = []) = b1 at *
  generalize decide (n = [46]) = b2 at *
  generalize decide (n = [46, 46]) = b3 at *
  generalize decide (whB <+: n) = b4 at *
  cases b1 <;> cases b2 <;> cases b3
  all_goals
    go_enter Tryz.func58, Tryz.ntmps58
    go_wp2_with (go_at_call 86; ((with_reducible refine (CH _).mono ?_); rintro e w1 ⟨rfl, rfl⟩))
    go_ret
    exact ⟨retB (by rw [HM.out]; rfl), by trivial⟩
set_option maxRecDepth 100000 in
set_option maxHeartbeats 2000000 in
theorem white_any (s : List UInt8) (hl : s.length ≤ 1000000) (w : World) :
    Calls Tryz.prog 40 #[.string (str s)] w fun e w' => e = .returned (.tuple #[.string (str (whiteL s).1), .bool (whiteL s).2.1, .bool (whiteL s).2.2]) ∧ Below w.heap.size w w' := by
  have q1 : ((str s).toList == [46, 119, 104, 46, 46, 119, 104, 46, 46, 111, 112, 113]) = decide (s = opqB) := eq_lit s opqB
  have HW := Lib.hid (show whiteL s = if s = opqB then ([], true, true) else if (decide (whB <+: s) && mayGoB (s.drop 4)) = true then (s.drop 4, false, true) else ([], false, false) from rfl)
  by_cases h1 : s = opqB
  · have HR := Lib.hid (show whiteL s = ([], true, true) by rw [HW.out, if_pos h1])
    rw [decide_eq_true h1] at q1
    clear h1
    go_enter Tryz.func40, Tryz.ntmps40
    go_wp2
    go_ret3
    exact ⟨ret3w (by rw [HR.out]; rfl) (by rw [HR.out]) (by rw [HR.out]), Below.refl _ _⟩
  rw [decide_eq_false h1] at q1
  by_cases h2 : whB <+: s
  · obtain ⟨n, hn⟩ := h2
    have hd : s.drop 4 = n := by rw [← hn]; rfl
    have CP := fun w => hn ▸ cutP_hit whB n w
    rw [show str whB = ⟨#[46, 119, 104, 46]⟩ from rfl] at CP
    have CM := fun w => mayGo_any n w
    have CC := fun w => clone_any (str n) (by rw [str_size]; have := congrArg List.length hn; rw [List.length_append] at this; omega) w
    rw [hd] at HW
    cases hm : mayGoB n
    · have HR := Lib.hid (show whiteL s = ([], false, false) by rw [HW.out, if_neg h1, hm, Bool.and_false]; rfl)
      rw [hm] at CM
      clear h1 hn hd hm HW
      go_enter Tryz.func40, Tryz.ntmps40
      go_wp2_with (first
        | (go_at_call 57; ((with_reducible refine (CP _).mono ?_); rintro e w1 ⟨rfl, rfl⟩))
        | (go_at_call 58; ((with_reducible refine (CM _).mono ?_); rintro e w2 ⟨rfl, rfl⟩)))
      go_ret3
      exact ⟨ret3w (by rw [HR.out]; rfl) (by rw [HR.out]) (by rw [HR.out]), Below.refl _ _⟩
    · have HR := Lib.hid (show whiteL s = (n, false, true) by rw [HW.out, if_neg h1, hm, Bool.and_true, decide_eq_true ⟨n, hn⟩]; rfl)
      rw [hm] at CM
      clear h1 hn hd hm HW
      go_enter Tryz.func40, Tryz.ntmps40
      go_wp2_with (first
        | (go_at_call 57; ((with_reducible refine (CP _).mono ?_); rintro e w1 ⟨rfl, rfl⟩))
        | (go_at_call 58; ((with_reducible refine (CM _).mono ?_); rintro e w2 ⟨rfl, rfl⟩))
        | (go_at_call 46; ((with_reducible refine (CC _).mono ?_); rintro e w3 ⟨rfl, hB⟩)))
      go_ret3
      exact ⟨ret3w (by rw [HR.out]) (by rw [HR.out]) (by rw [HR.out]), hB⟩
  · have HR := Lib.hid (show whiteL s = ([], false, false) by rw [HW.out, if_neg h1, decide_eq_false h2, Bool.false_and]; rfl)
    have CP := fun w => cutP_miss h2 w
    rw [show str whB = ⟨#[46, 119, 104, 46]⟩ from rfl] at CP
    clear h1 h2 HW
    go_enter Tryz.func40, Tryz.ntmps40
    go_wp2_with (go_at_call 57; obtain ⟨r, CQ⟩ := CP w; ((with_reducible refine CQ.mono ?_); rintro e w1 ⟨rfl, rfl⟩))
    go_ret3
    exact ⟨ret3w (by rw [HR.out]; rfl) (by rw [HR.out]) (by rw [HR.out]), Below.refl _ _⟩
end Go.Proofs.YtbjgmkjinnbokaaGreatDoor
#print axioms Go.Proofs.YtbjgmkjinnbokaaGreatDoor.white_any

