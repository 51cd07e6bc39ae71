/- Layer 16: the program's mayBe. -/
import Derived.Test.YtokeiagcdahmaaaDoorTtB
namespace Go.Proofs.YtokeiagcdahmaaaDoor
open Go.RowKit

set_option maxRecDepth 100000 in
set_option maxHeartbeats 8000000 in
theorem mayN_any (x : Nd) (hp : x.path.length ≤ 900000) (w : World) :
    Calls Tryd.prog 16 #[.agg #[.string (str x.path), .int .i64 x.kind, .int .i64 x.mode, .string (str x.data)]] w fun e w' => e = .returned (.bool (mayN x)) ∧ Below w.heap.size w w' := by
  have CC := fun w => clean_any x.path hp w
  have HM : Hid (mayN x = (!decide (x.path = []) && (decide (0 ≤ x.mode) && (decide (x.mode ≤ 4095) && (decide (cleanL x.path = (x.path, 0)) && kindN x))))) := Lib.hid rfl
  have HK : Hid (kindN x = if x.kind = 1 then decide (x.data.length ≤ 65536) else if x.kind = 2 then decide (x.data = []) else if x.kind = 4 then !decide (x.data = []) && decide (x.data.length ≤ 200) else false) := Lib.hid rfl
  have q0 := eq_lit x.path []
  have q0b := empty_lit x.path
  have q1 := eq_lit x.data []
  have q1b := empty_lit x.data
  have q2 := eq_strs (cleanL x.path).1 x.path
  have zd := str_size x.data
  have HC : Hid (decide (cleanL x.path = (x.path, 0)) = (decide ((cleanL x.path).1 = x.path) && decide ((cleanL x.path).2 = 0))) := Lib.hid (by
    rw [Bool.eq_iff_iff, decide_eq_true_eq, Bool.and_eq_true, decide_eq_true_eq, decide_eq_true_eq]
    exact ⟨fun h => by rw [h]; exact ⟨rfl, rfl⟩, fun ⟨h1, h2⟩ => Prod.ext h1 h2⟩)
  have HB := Lib.hid ((Below.refl w.heap.size w).alloc (Nat.le_refl _) (.cells #[.string (str x.path), .int .i64 x.kind, .int .i64 x.mode, .string (str x.data)] 36))
  have HZ := Lib.hid (rowC_new w #[.string (str x.path), .int .i64 x.kind, .int .i64 x.mode, .string (str x.data)] 36)
  generalize hbp : decide (x.path = []) = bp at *
  generalize hbd : decide (x.data = []) = bd at *
  generalize hbc : decide ((cleanL x.path).1 = x.path) = bc at *
  generalize (cleanL x.path).1 = CP at *
  generalize (cleanL x.path).2 = CE at *
  generalize str x.path = NM at *
  generalize str x.data = DT at *
  generalize str CP = CS at *
  generalize hk : x.kind = k at *
  generalize hm : x.mode = m at *
  generalize hl : x.data.length = dl at *
  clear hk hm hl hbp hbd hbc
  cases bp with
  | true =>
    have HR : Hid (mayN x = false) := Lib.hid (by rw [HM.out]; rfl)
    clear HM HK HC
    go_enter Tryd.func16, Tryd.ntmps16
    go_wp2
    go_ret
    exact ⟨by rw [HR.out]; rfl, HB.out⟩
  | false =>
    by_cases h1 : m < 0
    · have e1 : decide (0 ≤ m) = false := decide_eq_false (by omega)
      have HR : Hid (mayN x = false) := Lib.hid (by rw [HM.out, e1]; rfl)
      clear HM HK HC
      go_enter Tryd.func16, Tryd.ntmps16
      go_wp2
      go_ret
      exact ⟨by rw [HR.out]; rfl, HB.out⟩
    · by_cases h2 : 4095 < m
      · have e1 : decide (m ≤ 4095) = false := decide_eq_false (by omega)
        have HR : Hid (mayN x = false) := Lib.hid (by rw [HM.out, e1]; simp)
        clear HM HK HC
        go_enter Tryd.func16, Tryd.ntmps16
        go_wp2
        go_ret
        exact ⟨by rw [HR.out]; rfl, HB.out⟩
      · have HM2 : Hid (mayN x = (bc && decide (CE = 0) && kindN x)) := Lib.hid (by rw [HM.out, HC.out, decide_eq_true (show 0 ≤ m by omega), decide_eq_true (show m ≤ 4095 by omega)]; rfl)
        clear HM HC
        have HM := HM2
        have HC := HM2
        clear HM2
        by_cases h3 : CE = 0
        rotate_left
        · have g3 : (CE != 0) = true := by rw [bne_iff_ne]; exact h3
          have HR : Hid (mayN x = false) := Lib.hid (by rw [HM.out, decide_eq_false h3]; simp)
          clear HM HK HC
          go_enter Tryd.func16, Tryd.ntmps16
          go_wp2_with (go_at_call 23; ((with_reducible refine (CC _).mono ?_); rintro e w1 ⟨rfl, hB1⟩; have HB1 := Lib.hid (HB.out.trans (hB1.mono HB.out.size)); have HZ1 := Lib.hid (rowC_below HZ.out hB1 (rowC_lt HZ.out)); have d0 := rowC_cell HZ1.out 0; have d1 := rowC_cell HZ1.out 1; have d3 := rowC_cell HZ1.out 3; clear hB1))
          go_ret
          exact ⟨by rw [HR.out]; rfl, HB1.out⟩
        subst h3
        cases bc with
        | false =>
          have q3 : (CS.toList != NM.toList) = true := by rw [bne, q2]; rfl
          have HR : Hid (mayN x = false) := Lib.hid (by rw [HM.out]; rfl)
          clear HM HK HC
          go_enter Tryd.func16, Tryd.ntmps16
          go_wp2_with (go_at_call 23; ((with_reducible refine (CC _).mono ?_); rintro e w1 ⟨rfl, hB1⟩; have HB1 := Lib.hid (HB.out.trans (hB1.mono HB.out.size)); have HZ1 := Lib.hid (rowC_below HZ.out hB1 (rowC_lt HZ.out)); have d0 := rowC_cell HZ1.out 0; have d1 := rowC_cell HZ1.out 1; have d3 := rowC_cell HZ1.out 3; clear hB1))
          go_ret
          exact ⟨by rw [HR.out]; rfl, HB1.out⟩
        | true =>
          have q3 : (CS.toList != NM.toList) = false := by rw [bne, q2]; rfl
          have HM3 : Hid (mayN x = kindN x) := Lib.hid (by rw [HM.out]; rfl)
          clear HM HC
          have HM := HM3
          have HC := HM3
          clear HM3
          by_cases k1 : k = 1
          · subst k1
            have HR : Hid (mayN x = decide (dl ≤ 65536)) := Lib.hid (by rw [HM.out, HK.out, if_pos rfl])
            clear HM HK HC
            go_enter Tryd.func16, Tryd.ntmps16
            go_wp2_with (go_at_call 23; ((with_reducible refine (CC _).mono ?_); rintro e w1 ⟨rfl, hB1⟩; have HB1 := Lib.hid (HB.out.trans (hB1.mono HB.out.size)); have HZ1 := Lib.hid (rowC_below HZ.out hB1 (rowC_lt HZ.out)); have d0 := rowC_cell HZ1.out 0; have d1 := rowC_cell HZ1.out 1; have d3 := rowC_cell HZ1.out 3; clear hB1))
            go_ret
            exact ⟨by rw [HR.out]; exact retB (decide_eq_decide.2 (by omega)), HB1.out⟩
          by_cases k2 : k = 2
          · subst k2
            have g1 : ((2 : Int) == 1) = false := rfl
            have HR : Hid (mayN x = bd) := Lib.hid (by rw [HM.out, HK.out, if_neg (by decide), if_pos rfl])
            clear HM HK HC
            go_enter Tryd.func16, Tryd.ntmps16
            go_wp2_with (go_at_call 23; ((with_reducible refine (CC _).mono ?_); rintro e w1 ⟨rfl, hB1⟩; have HB1 := Lib.hid (HB.out.trans (hB1.mono HB.out.size)); have HZ1 := Lib.hid (rowC_below HZ.out hB1 (rowC_lt HZ.out)); have d0 := rowC_cell HZ1.out 0; have d1 := rowC_cell HZ1.out 1; have d3 := rowC_cell HZ1.out 3; clear hB1))
            go_ret
            exact ⟨by rw [HR.out]; rfl, HB1.out⟩
          by_cases k4 : k = 4
          · subst k4
            have g1 : ((4 : Int) == 1) = false := rfl
            have g2 : ((4 : Int) == 2) = false := rfl
            have q5 : (DT.toList != []) = !bd := by rw [bne, q1]
            cases bd with
            | true =>
              have HR : Hid (mayN x = false) := Lib.hid (by rw [HM.out, HK.out, if_neg (by decide), if_neg (by decide), if_pos rfl]; rfl)
              clear HM HK HC
              go_enter Tryd.func16, Tryd.ntmps16
              go_wp2_with (go_at_call 23; ((with_reducible refine (CC _).mono ?_); rintro e w1 ⟨rfl, hB1⟩; have HB1 := Lib.hid (HB.out.trans (hB1.mono HB.out.size)); have HZ1 := Lib.hid (rowC_below HZ.out hB1 (rowC_lt HZ.out)); have d0 := rowC_cell HZ1.out 0; have d1 := rowC_cell HZ1.out 1; have d3 := rowC_cell HZ1.out 3; clear hB1))
              go_ret
              exact ⟨by rw [HR.out]; rfl, HB1.out⟩
            | false =>
              have HR : Hid (mayN x = decide (dl ≤ 200)) := Lib.hid (by rw [HM.out, HK.out, if_neg (by decide), if_neg (by decide), if_pos rfl]; rfl)
              clear HM HK HC
              go_enter Tryd.func16, Tryd.ntmps16
              go_wp2_with (go_at_call 23; ((with_reducible refine (CC _).mono ?_); rintro e w1 ⟨rfl, hB1⟩; have HB1 := Lib.hid (HB.out.trans (hB1.mono HB.out.size)); have HZ1 := Lib.hid (rowC_below HZ.out hB1 (rowC_lt HZ.out)); have d0 := rowC_cell HZ1.out 0; have d1 := rowC_cell HZ1.out 1; have d3 := rowC_cell HZ1.out 3; clear hB1))
              go_ret
              exact ⟨by rw [HR.out]; exact retB (decide_eq_decide.2 (by omega)), HB1.out⟩
          have g1 : (k == 1) = false := by rw [beq_eq_false_iff_ne]; exact k1
          have g2 : (k == 2) = false := by rw [beq_eq_false_iff_ne]; exact k2
          have g4 : (k == 4) = false := by rw [beq_eq_false_iff_ne]; exact k4
          have HR : Hid (mayN x = false) := Lib.hid (by rw [HM.out, HK.out, if_neg k1, if_neg k2, if_neg k4])
          clear HM HK HC
          go_enter Tryd.func16, Tryd.ntmps16
          go_wp2_with (go_at_call 23; ((with_reducible refine (CC _).mono ?_); rintro e w1 ⟨rfl, hB1⟩; have HB1 := Lib.hid (HB.out.trans (hB1.mono HB.out.size)); have HZ1 := Lib.hid (rowC_below HZ.out hB1 (rowC_lt HZ.out)); have d0 := rowC_cell HZ1.out 0; have d1 := rowC_cell HZ1.out 1; have d3 := rowC_cell HZ1.out 3; clear hB1))
          go_ret
          exact ⟨by rw [HR.out]; rfl, HB1.out⟩
end Go.Proofs.YtokeiagcdahmaaaDoor
#print axioms Go.Proofs.YtokeiagcdahmaaaDoor.mayN_any
