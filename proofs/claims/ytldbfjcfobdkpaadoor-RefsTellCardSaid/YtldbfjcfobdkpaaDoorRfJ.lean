/- Layer 12: the document's 'Text', 'Short'. -/
import Derived.Test.YtldbfjcfobdkpaaDoorRfI
namespace Go.Proofs.YtldbfjcfobdkpaaDoor
open Go.RowKit

set_option maxRecDepth 100000 in
set_option maxHeartbeats 4000000 in
theorem rshow_any (r : RR) (w : World) (h : r.ok) :
    Calls Tryd.prog 12 #[.agg (refC r)] w fun e w' => e = .returned (.string (str (showR r))) ∧ Below w.heap.size w w' := by
  have r0 : refAt (w.alloc (.cells (refC r) 26)) w.heap.size r := rowC_new w _ _
  have al : Below w.heap.size w (w.alloc (.cells (refC r) 26)) := (Below.refl _ _).alloc (Nat.le_refl _) _
  have CC := fun w => rcheck_any r w h
  have CT := fun w => texta_any r w h
  have HIR := Lib.hid (info_ref h)
  have hsz := refC_size h
  obtain ⟨w1, hw1⟩ : ∃ w1, w.alloc (.cells (refC r) 26) = w1 := ⟨_, rfl⟩
  rw [hw1] at r0 al
  have HB := Lib.hid al
  have HR := Lib.hid r0
  clear al r0 h
  by_cases hm : mayR r = true
  · rw [check_yes hm] at CC
    have HQ := Lib.hid (show showR r = textR r by unfold showR; rw [if_pos hm])
    clear hm
    go_enter Tryd.func12, Tryd.ntmps12
    go_wp2_with (first
      | ((with_reducible show wpList _ _ _ (⟨some 3, _, _, _, _, _⟩ :: _) _ _); refine wpList_load_row rfl 26 _ rfl w.heap.size rfl 26 (refC r) (0, 0) _ HR.out Tryd.underlying26 rfl HIR.out ?_)
      | (go_at_call 16; ((with_reducible refine (CC _).mono ?_); rintro e w2 ⟨rfl, b2⟩); have B2 := Lib.hid (HB.out.trans (b2.mono HB.out.size)); have R2 := Lib.hid (HR.out.below b2); clear b2)
      | ((with_reducible show wpList _ _ _ (⟨some 6, _, _, _, _, _⟩ :: _) _ _); refine wpList_load_row rfl 26 _ rfl w.heap.size rfl 26 (refC r) (0, 0) _ R2.out Tryd.underlying26 rfl HIR.out ?_)
      | (go_at_call 24; ((with_reducible refine (CT _).mono ?_); rintro e w3 ⟨rfl, b3⟩); have B3 := Lib.hid (B2.out.trans (b3.mono B2.out.size)); clear b3))
    go_ret
    exact ⟨by rw [HQ.out]; rfl, B3.out⟩
  · rw [check_no (Bool.eq_false_iff.2 hm)] at CC
    have HQ := Lib.hid (show showR r = [] by unfold showR; rw [if_neg hm])
    clear hm
    go_enter Tryd.func12, Tryd.ntmps12
    go_wp2_with (first
      | ((with_reducible show wpList _ _ _ (⟨some 3, _, _, _, _, _⟩ :: _) _ _); refine wpList_load_row rfl 26 _ rfl w.heap.size rfl 26 (refC r) (0, 0) _ HR.out Tryd.underlying26 rfl HIR.out ?_)
      | (go_at_call 16; ((with_reducible refine (CC _).mono ?_); rintro e w2 ⟨rfl, b2⟩); have B2 := Lib.hid (HB.out.trans (b2.mono HB.out.size)); clear b2))
    go_ret
    exact ⟨by rw [HQ.out]; rfl, B2.out⟩
theorem lessR_dom (r : RR) : (lessR r).dom = r.dom := by unfold lessR; split <;> rfl
theorem lessR_path (r : RR) : (lessR r).path = r.path := by unfold lessR; split <;> rfl
theorem lessR_ok {r : RR} (h : r.ok) : (lessR r).ok := by
  unfold lessR
  split
  · exact ⟨h.dom, h.path, Nat.zero_le _, h.dig⟩
  · exact h
theorem textR_ge (r : RR) : r.dom.length + 1 + r.path.length ≤ (textR r).length := by
  unfold textR
  simp only [List.length_append, List.length_cons, List.length_nil]
  omega
/-- A name in memory, at the call's first block. -/
structure TM (W w : World) (r : RR) : Prop where
  b : Below W.heap.size W w
  r : refAt w W.heap.size r
theorem TM.below {W w w' : World} {r : RR} (h : TM W w r) (hb : Below w.heap.size w w') : TM W w' r := ⟨h.b.trans (hb.mono h.b.size), h.r.below hb⟩
theorem TM.tag {W w : World} {r : RR} (h : TM W w r) (d : List UInt8) : TM W (w.setCell ⟨W.heap.size, 2, none⟩ (.string (str d))) { r with tag := d } :=
  ⟨h.b.setCell (p := ⟨W.heap.size, 2, none⟩) (Nat.le_refl _) _, by unfold refAt; rw [← refC_tag]; exact rowC_set h.r 2 _⟩
theorem TM.cells {W w : World} {r : RR} (h : TM W w r) (ho : r.ok) :
    (w.cell? ⟨W.heap.size, 0, none⟩ = some (.string (str r.dom)) ∧ w.cell? ⟨W.heap.size, 1, none⟩ = some (.string (str r.path)) ∧ w.cell? ⟨W.heap.size, 2, none⟩ = some (.string (str r.tag)) ∧ w.cell? ⟨W.heap.size, 35, none⟩ = some (.bool r.pin)) ∧
    (w.frozen? ⟨W.heap.size, 2, none⟩ = false) :=
  ⟨h.r.cells ho, rowC_free h.r 2⟩
set_option maxRecDepth 100000 in
set_option maxHeartbeats 16000000 in
theorem rbrief_any (r : RR) (w : World) (h : r.ok) :
    Calls Tryd.prog 14 #[.agg (refC r)] w fun e w' => e = .returned (.string (str (shortR r))) ∧ Below w.heap.size w w' := by
  have M0 : TM w (w.alloc (.cells (refC r) 26)) r := ⟨(Below.refl _ _).alloc (Nat.le_refl _) _, rowC_new w _ _⟩
  have CC := fun w => rcheck_any r w h
  have HIR := Lib.hid (info_ref h)
  have hsz := refC_size h
  obtain ⟨w1, hw1⟩ : ∃ w1, w.alloc (.cells (refC r) 26) = w1 := ⟨_, rfl⟩
  rw [hw1] at M0
  have M1 := Lib.hid M0
  have HO := Lib.hid h
  clear M0 h
  by_cases hm : mayR r = true
  · rw [check_yes hm] at CC
    have HQ := Lib.hid (show shortR r = (if r.dom = hubB then
      (if (cutL r.path 47).length = 2 ∧ (cutL r.path 47).getD 0 [] = libraryB then (textR (lessR r)).drop 18
       else if frontR r.path = [] then (textR (lessR r)).drop 10 else textR (lessR r))
     else textR (lessR r)) by unfold shortR; rw [if_pos hm])
    clear hm
    have f0 := eq_lit r.tag latestB
    unfold latestB at f0
    generalize hb0 : decide (r.tag = [108, 97, 116, 101, 115, 116]) = b0 at *
    have HB0 := Lib.hid hb0
    clear hb0
    have HL := Lib.hid (show lessR r = if (b0 && !r.pin) = true then { r with tag := [] } else r by
      unfold lessR
      rw [← HB0.out]
      by_cases h1 : r.tag = latestB ∧ r.pin = false
      · rw [if_pos h1]
        refine (if_pos ?_).symm
        rw [Bool.and_eq_true]
        exact ⟨decide_eq_true h1.1, by rw [h1.2]; rfl⟩
      · rw [if_neg h1]
        refine (if_neg fun e => h1 ?_).symm
        rw [Bool.and_eq_true] at e
        exact ⟨of_decide_eq_true e.1, by simpa using e.2⟩)
    go_enter Tryd.func14, Tryd.ntmps14
    go_upto_region 3 with (first
      | ((with_reducible show wpList _ _ _ (⟨some 5, _, _, _, _, _⟩ :: _) _ _); refine wpList_load_row rfl 26 _ rfl w.heap.size rfl 26 (refC r) (0, 0) _ M1.out.r Tryd.underlying26 rfl HIR.out ?_)
      | (go_at_call 16; ((with_reducible refine (CC _).mono ?_); rintro e w2 ⟨rfl, b2⟩); have M2 := Lib.hid (M1.out.below b2); clear b2; obtain ⟨⟨k0, k1, k2, k3⟩, l2⟩ := M2.out.cells HO.out))
    go_cut [15] from 8 to 15 (fun c wx => c = .bool (b0 && !r.pin) ∧ Hid (TM w wx r))
    case first =>
      generalize r.pin = q at *
      cases b0
      · go_wp2
        go_meet
        case rel => exact ⟨rfl, M2⟩
      · go_wp2
        go_meet
        case rel => exact ⟨rfl, M2⟩
    case rest =>
      obtain ⟨rfl, M3⟩ := hcut
      clear k0 k1 k2 k3 l2 M2
      obtain ⟨⟨k0, k1, k2, k3⟩, l2⟩ := M3.out.cells HO.out
      go_upto_if 15 with (fail)
      go_cut [2] from 8 (fun s2 wx => s2 = .string ⟨#[]⟩ ∧ Hid (TM w wx (lessR r)))
      case first =>
        generalize (b0 && !r.pin) = b01 at *
        cases b01
        · go_wp2
          go_meet
          case rel => exact ⟨rfl, Lib.hid (by rw [HL.out, if_neg (by decide)]; exact M3.out)⟩
        · go_wp2
          go_meet
          case rel => exact ⟨rfl, Lib.hid (by rw [HL.out]; exact M3.out.tag [])⟩
      case rest =>
        obtain ⟨rfl, M4⟩ := hcut
        have HOL := Lib.hid (lessR_ok HO.out)
        have HIL := Lib.hid (info_ref HOL.out)
        have CT := fun w => texta_any (lessR r) w HOL.out
        have ed := lessR_dom r
        have ep := lessR_path r
        have hge := textR_ge (lessR r)
        have hte := textR_le HOL.out
        have szt := str_size (textR (lessR r))
        have bp := HO.out.path
        rw [ed, ep] at hge
        clear k0 k1 k2 k3 l2 M3 HL hsz f0 HB0
        have HC := Lib.hid (fun wx (m : TM w wx (lessR r)) => And.intro (show wx.cell? ⟨w.heap.size, 0, none⟩ = some (.string (str r.dom)) by rw [← lessR_dom]; exact (m.cells HOL.out).1.1) (show wx.cell? ⟨w.heap.size, 1, none⟩ = some (.string (str r.path)) by rw [← lessR_path]; exact (m.cells HOL.out).1.2.1))
        clear ed ep
        have f2 := eq_lit r.dom hubB
        unfold hubB at f2
        have C47 := fun w => cutC r.path 47 47 rfl w (by omega)
        have hpl := cutL_pos r.path 47
        have hrl := cutL_le r.path 47
        have f3 := eq_lit ((cutL r.path 47).getD 0 []) libraryB
        unfold libraryB at f3
        have CF := fun w => front_any r.path w (by omega)
        have f4 := eq_none (frontR r.path)
        have q3 : ((((cutL r.path 47).length : Nat) : Int) == 2) = decide ((cutL r.path 47).length = 2) := by rw [Bool.eq_iff_iff, beq_iff_eq, decide_eq_true_eq]; omega
        have HSum := Lib.hid (fun (h2 : (cutL r.path 47).length = 2) (hl : (cutL r.path 47).getD 0 [] = libraryB) => show 8 ≤ r.path.length by
          have hm : (cutL r.path 47).getD 0 [] ∈ cutL r.path 47 := by
            rw [List.getD_eq_getElem?_getD, List.getElem?_eq_getElem (by omega)]
            exact List.getElem_mem _
          have := cutL_sum r.path 47 _ hm
          rw [hl, h2] at this
          have : libraryB.length = 7 := rfl
          omega)
        have hx18 := extract_str (textR (lessR r)) 18 (textR (lessR r)).length
        have hx10 := extract_str (textR (lessR r)) 10 (textR (lessR r)).length
        rw [List.take_length] at hx18 hx10
        have hdl : r.dom = hubB → r.dom.length = 9 := fun e => by rw [e]; rfl
        have HDL := Lib.hid hdl
        clear hdl
        generalize textR (lessR r) = T at *
        generalize hL : cutL r.path 47 = L at *
        generalize hh : L.getD 0 [] = hd at *
        have HH := Lib.hid hh
        clear hL hh
        obtain ⟨N, hN⟩ : ∃ N, N = L.length := ⟨_, rfl⟩
        rw [← hN] at C47 hpl hrl q3 HSum HQ
        have HN := Lib.hid hN
        clear hN
        generalize frontR r.path = F at *
        by_cases h2 : r.dom = hubB
        · rw [if_pos h2] at HQ
          have hd9 := HDL.out h2
          replace f2 := f2.trans (decide_eq_true h2)
          clear h2
          by_cases h5 : N = 2
          · replace q3 := q3.trans (decide_eq_true h5)
            by_cases h6 : hd = libraryB
            · rw [if_pos ⟨h5, h6⟩] at HQ
              have h8 := HSum.out h5 h6
              replace f3 := f3.trans (decide_eq_true h6)
              have hT : 18 ≤ T.length := by omega
              clear h5 h6 h8 hd9 hge
              go_wp2_with (first
                | ((with_reducible show wpList _ _ _ (⟨some 17, _, _, _, _, _⟩ :: _) _ _); refine wpList_load_row rfl 26 _ rfl w.heap.size rfl 26 (refC (lessR r)) (0, 0) _ M4.out.r Tryd.underlying26 rfl HIL.out ?_)
                | (go_at_call 24; ((with_reducible refine (CT _).mono ?_); rintro e w5 ⟨rfl, b5⟩); have M5 := Lib.hid (M4.out.below b5); clear b5 CT; obtain ⟨k0, k1⟩ := HC.out _ M5.out)
                | (go_at_call 20; ((with_reducible refine (C47 _).mono ?_); rintro e w6 ⟨a6, cap6, rfl, o6, b6⟩); have M6 := Lib.hid (M5.out.below b6); obtain ⟨g6, hga6, -, e6⟩ := o6.at (k := 0) (by have := HN.out; omega); subst hga6; rw [HH.out] at e6; clear o6 b6 C47 k0 k1; obtain ⟨k0, k1⟩ := HC.out _ M6.out)
                | (go_at_call 22; ((with_reducible refine (CF _).mono ?_); rintro e w7 ⟨rfl, b7⟩); have M7 := Lib.hid (M6.out.below b7); clear b7 CF))
              go_ret
              exact ⟨by rw [HQ.out]; rfl, M6.out.b⟩
            · rw [if_neg (fun e => h6 e.2)] at HQ
              replace f3 := f3.trans (decide_eq_false h6)
              have hT : 10 ≤ T.length := by omega
              clear h5 h6 hd9 hge
              by_cases h7 : F = []
              · rw [if_pos h7] at HQ
                replace f4 := f4.trans (decide_eq_true h7)
                clear h7
                go_wp2_with (first
                  | ((with_reducible show wpList _ _ _ (⟨some 17, _, _, _, _, _⟩ :: _) _ _); refine wpList_load_row rfl 26 _ rfl w.heap.size rfl 26 (refC (lessR r)) (0, 0) _ M4.out.r Tryd.underlying26 rfl HIL.out ?_)
                  | (go_at_call 24; ((with_reducible refine (CT _).mono ?_); rintro e w5 ⟨rfl, b5⟩); have M5 := Lib.hid (M4.out.below b5); clear b5 CT; obtain ⟨k0, k1⟩ := HC.out _ M5.out)
                  | (go_at_call 20; ((with_reducible refine (C47 _).mono ?_); rintro e w6 ⟨a6, cap6, rfl, o6, b6⟩); have M6 := Lib.hid (M5.out.below b6); obtain ⟨g6, hga6, -, e6⟩ := o6.at (k := 0) (by have := HN.out; omega); subst hga6; rw [HH.out] at e6; clear o6 b6 C47 k0 k1; obtain ⟨k0, k1⟩ := HC.out _ M6.out)
                  | (go_at_call 22; ((with_reducible refine (CF _).mono ?_); rintro e w7 ⟨rfl, b7⟩); have M7 := Lib.hid (M6.out.below b7); clear b7 CF))
                go_ret
                exact ⟨by rw [HQ.out]; rfl, M7.out.b⟩
              · rw [if_neg h7] at HQ
                replace f4 := f4.trans (decide_eq_false h7)
                clear h7
                go_wp2_with (first
                  | ((with_reducible show wpList _ _ _ (⟨some 17, _, _, _, _, _⟩ :: _) _ _); refine wpList_load_row rfl 26 _ rfl w.heap.size rfl 26 (refC (lessR r)) (0, 0) _ M4.out.r Tryd.underlying26 rfl HIL.out ?_)
                  | (go_at_call 24; ((with_reducible refine (CT _).mono ?_); rintro e w5 ⟨rfl, b5⟩); have M5 := Lib.hid (M4.out.below b5); clear b5 CT; obtain ⟨k0, k1⟩ := HC.out _ M5.out)
                  | (go_at_call 20; ((with_reducible refine (C47 _).mono ?_); rintro e w6 ⟨a6, cap6, rfl, o6, b6⟩); have M6 := Lib.hid (M5.out.below b6); obtain ⟨g6, hga6, -, e6⟩ := o6.at (k := 0) (by have := HN.out; omega); subst hga6; rw [HH.out] at e6; clear o6 b6 C47 k0 k1; obtain ⟨k0, k1⟩ := HC.out _ M6.out)
                  | (go_at_call 22; ((with_reducible refine (CF _).mono ?_); rintro e w7 ⟨rfl, b7⟩); have M7 := Lib.hid (M6.out.below b7); clear b7 CF))
                go_ret
                exact ⟨by rw [HQ.out]; rfl, M7.out.b⟩
          · replace q3 := q3.trans (decide_eq_false h5)
            rw [if_neg (fun e => h5 e.1)] at HQ
            have hT : 10 ≤ T.length := by omega
            clear h5 hd9 hge
            by_cases h7 : F = []
            · rw [if_pos h7] at HQ
              replace f4 := f4.trans (decide_eq_true h7)
              clear h7
              go_wp2_with (first
                | ((with_reducible show wpList _ _ _ (⟨some 17, _, _, _, _, _⟩ :: _) _ _); refine wpList_load_row rfl 26 _ rfl w.heap.size rfl 26 (refC (lessR r)) (0, 0) _ M4.out.r Tryd.underlying26 rfl HIL.out ?_)
                | (go_at_call 24; ((with_reducible refine (CT _).mono ?_); rintro e w5 ⟨rfl, b5⟩); have M5 := Lib.hid (M4.out.below b5); clear b5 CT; obtain ⟨k0, k1⟩ := HC.out _ M5.out)
                | (go_at_call 20; ((with_reducible refine (C47 _).mono ?_); rintro e w6 ⟨a6, cap6, rfl, o6, b6⟩); have M6 := Lib.hid (M5.out.below b6); obtain ⟨g6, hga6, -, e6⟩ := o6.at (k := 0) (by have := HN.out; omega); subst hga6; rw [HH.out] at e6; clear o6 b6 C47 k0 k1; obtain ⟨k0, k1⟩ := HC.out _ M6.out)
                | (go_at_call 22; ((with_reducible refine (CF _).mono ?_); rintro e w7 ⟨rfl, b7⟩); have M7 := Lib.hid (M6.out.below b7); clear b7 CF))
              go_ret
              exact ⟨by rw [HQ.out]; rfl, M7.out.b⟩
            · rw [if_neg h7] at HQ
              replace f4 := f4.trans (decide_eq_false h7)
              clear h7
              go_wp2_with (first
                | ((with_reducible show wpList _ _ _ (⟨some 17, _, _, _, _, _⟩ :: _) _ _); refine wpList_load_row rfl 26 _ rfl w.heap.size rfl 26 (refC (lessR r)) (0, 0) _ M4.out.r Tryd.underlying26 rfl HIL.out ?_)
                | (go_at_call 24; ((with_reducible refine (CT _).mono ?_); rintro e w5 ⟨rfl, b5⟩); have M5 := Lib.hid (M4.out.below b5); clear b5 CT; obtain ⟨k0, k1⟩ := HC.out _ M5.out)
                | (go_at_call 20; ((with_reducible refine (C47 _).mono ?_); rintro e w6 ⟨a6, cap6, rfl, o6, b6⟩); have M6 := Lib.hid (M5.out.below b6); obtain ⟨g6, hga6, -, e6⟩ := o6.at (k := 0) (by have := HN.out; omega); subst hga6; rw [HH.out] at e6; clear o6 b6 C47 k0 k1; obtain ⟨k0, k1⟩ := HC.out _ M6.out)
                | (go_at_call 22; ((with_reducible refine (CF _).mono ?_); rintro e w7 ⟨rfl, b7⟩); have M7 := Lib.hid (M6.out.below b7); clear b7 CF))
              go_ret
              exact ⟨by rw [HQ.out]; rfl, M7.out.b⟩
        · rw [if_neg h2] at HQ
          replace f2 := f2.trans (decide_eq_false h2)
          clear h2
          go_wp2_with (first
            | ((with_reducible show wpList _ _ _ (⟨some 17, _, _, _, _, _⟩ :: _) _ _); refine wpList_load_row rfl 26 _ rfl w.heap.size rfl 26 (refC (lessR r)) (0, 0) _ M4.out.r Tryd.underlying26 rfl HIL.out ?_)
            | (go_at_call 24; ((with_reducible refine (CT _).mono ?_); rintro e w5 ⟨rfl, b5⟩); have M5 := Lib.hid (M4.out.below b5); clear b5 CT; obtain ⟨k0, k1⟩ := HC.out _ M5.out)
            | (go_at_call 20; ((with_reducible refine (C47 _).mono ?_); rintro e w6 ⟨a6, cap6, rfl, o6, b6⟩); have M6 := Lib.hid (M5.out.below b6); obtain ⟨g6, hga6, -, e6⟩ := o6.at (k := 0) (by have := HN.out; omega); subst hga6; rw [HH.out] at e6; clear o6 b6 C47 k0 k1; obtain ⟨k0, k1⟩ := HC.out _ M6.out)
            | (go_at_call 22; ((with_reducible refine (CF _).mono ?_); rintro e w7 ⟨rfl, b7⟩); have M7 := Lib.hid (M6.out.below b7); clear b7 CF))
          go_ret
          exact ⟨by rw [HQ.out]; rfl, M5.out.b⟩
  · rw [check_no (Bool.eq_false_iff.2 hm)] at CC
    have HQ := Lib.hid (show shortR r = [] by unfold shortR; rw [if_neg hm])
    clear hm
    go_enter Tryd.func14, Tryd.ntmps14
    go_wp2_with (first
      | ((with_reducible show wpList _ _ _ (⟨some 5, _, _, _, _, _⟩ :: _) _ _); refine wpList_load_row rfl 26 _ rfl w.heap.size rfl 26 (refC r) (0, 0) _ M1.out.r Tryd.underlying26 rfl HIR.out ?_)
      | (go_at_call 16; ((with_reducible refine (CC _).mono ?_); rintro e w2 ⟨rfl, b2⟩); have M2 := Lib.hid (M1.out.below b2); clear b2))
    go_ret
    exact ⟨by rw [HQ.out]; rfl, M2.out.b⟩
end Go.Proofs.YtldbfjcfobdkpaaDoor
