/- Merged: TtB, TtC. -/
import Derived.Test.YtbjgmkjinnbokaaGreatDoorM05
import Derived.Test.YtbjgmkjinnbokaaGreatDoorM09
import Derived.Deep.DeepCutAuto
/- Layer 16: the program's clone, mayBe, checkRoot. -/
namespace Go.Proofs.YtbjgmkjinnbokaaGreatDoor
open Go.RowKit

set_option maxRecDepth 100000 in
set_option maxHeartbeats 4000000 in
theorem nclone_any (x : Nd) (hp : x.path.length ≤ 1000000) (hd : x.data.length ≤ 1000000) (w : World) :
    Calls Tryz.prog 27 #[.agg #[.string (str x.path), .int .i64 x.kind, .int .i64 x.mode, .string (str x.data)]] w fun e w' =>
      e = .returned (.agg #[.string (str x.path), .int .i64 x.kind, .int .i64 x.mode, .string (str x.data)]) ∧ Below w.heap.size w w' := by
  have HI := Lib.hid info_nd4
  have C1 := fun w => clone_any (str x.path) (by rw [str_size]; omega) w
  have C2 := fun w => clone_any (str x.data) (by rw [str_size]; omega) w
  have HONE := Lib.hid (ndA_one x)
  unfold ndA at HONE
  generalize str x.path = s1 at *
  generalize str x.data = s2 at *
  generalize x.kind = k at *
  generalize x.mode = m at *
  obtain ⟨A, hA⟩ : ∃ A : Array Value, A = #[.string s1, .int .i64 k, .int .i64 m, .string s2] := ⟨_, rfl⟩
  obtain ⟨W0, hW0⟩ : ∃ W0, W0 = (w.alloc (.cells #[.string s1, .int .i64 k, .int .i64 m, .string s2] 41)).alloc (.cells #[.string ⟨#[]⟩, .int .i64 0, .int .i64 0, .string ⟨#[]⟩] 41) := ⟨_, rfl⟩
  have Z0 : rowC W0 w.heap.size A 41 := by rw [hW0, hA]; exact rowC_alloc (rowC_new w _ _) _
  have Y0 : rowC W0 (w.heap.size + 1) #[.string ⟨#[]⟩, .int .i64 0, .int .i64 0, .string ⟨#[]⟩] 41 := by
    rw [hW0]
    have := rowC_new (w.alloc (.cells #[.string s1, .int .i64 k, .int .i64 m, .string s2] 41)) #[.string ⟨#[]⟩, .int .i64 0, .int .i64 0, .string ⟨#[]⟩] 41
    rwa [size_alloc] at this
  have B0 : Below w.heap.size w W0 := by rw [hW0]; exact ((Below.refl _ _).alloc (Nat.le_refl _) _).alloc (by rw [size_alloc]; omega) _
  have HW0 := Lib.hid hW0
  have HST : Hid (∀ a b : World, (rowC a w.heap.size A 41 ∧ (∃ c : Array Value, c.size = 4 ∧ rowC a (w.heap.size + 1) c 41) ∧ Below w.heap.size w a) → Below a.heap.size a b →
      (rowC b w.heap.size A 41 ∧ (∃ c : Array Value, c.size = 4 ∧ rowC b (w.heap.size + 1) c 41) ∧ Below w.heap.size w b)) := Lib.hid fun a b ⟨h1, ⟨c, hc, h2⟩, h3⟩ hb =>
    ⟨rowC_below h1 hb (rowC_lt h1), ⟨c, hc, rowC_below h2 hb (rowC_lt h2)⟩, h3.trans (hb.mono h3.size)⟩
  have HSET : Hid (∀ (a : World) (i : Nat) (u : Value), A.setIfInBounds i u = A → (rowC a w.heap.size A 41 ∧ (∃ c : Array Value, c.size = 4 ∧ rowC a (w.heap.size + 1) c 41) ∧ Below w.heap.size w a) →
      (rowC (a.setCell ⟨w.heap.size, i, none⟩ u) w.heap.size A 41 ∧ (∃ c : Array Value, c.size = 4 ∧ rowC (a.setCell ⟨w.heap.size, i, none⟩ u) (w.heap.size + 1) c 41) ∧ Below w.heap.size w (a.setCell ⟨w.heap.size, i, none⟩ u))) := Lib.hid fun a i u hu ⟨h1, ⟨c, hc, h2⟩, h3⟩ =>
    ⟨by have := rowC_set h1 i u; rwa [hu] at this, ⟨c, hc, rowC_other h2 _ _ (by show w.heap.size + 1 ≠ w.heap.size; omega)⟩, h3.setCell (p := ⟨w.heap.size, i, none⟩) (Nat.le_refl _) _⟩
  have HS0 := Lib.hid (show rowC W0 w.heap.size A 41 ∧ (∃ c : Array Value, c.size = 4 ∧ rowC W0 (w.heap.size + 1) c 41) ∧ Below w.heap.size w W0 from ⟨Z0, ⟨_, rfl, Y0⟩, B0⟩)
  have HA := Lib.hid hA
  have CELLS : Hid (∀ a : World, rowC a w.heap.size A 41 → (∀ i u, A[i]? = some u → a.cell? ⟨w.heap.size, i, none⟩ = some u) ∧ ∀ i, a.frozen? ⟨w.heap.size, i, none⟩ = false) := Lib.hid fun a h => ⟨fun i u hu => (rowC_cell h i).trans hu, fun i => rowC_free h i⟩
  clear hW0 Z0 Y0 B0
  go_enter Tryz.func27, Tryz.ntmps27
  go_upto_region 1 with (fail)
  rw [← HW0.out]
  have a1 : _ = some (Value.string s1) := (CELLS.out _ HS0.out.1).1 0 _ (by rw [hA]; rfl)
  have f1 := (CELLS.out _ HS0.out.1).2 0
  go_upto_region 2 with (go_at_call 46; ((with_reducible refine (C1 _).mono ?_); rintro e w1 ⟨rfl, hB1⟩; have S1 := Lib.hid (HST.out _ w1 HS0.out hB1); have a1 : _ = some (Value.string s1) := (CELLS.out _ S1.out.1).1 0 _ (by rw [hA]; rfl); have f1 := (CELLS.out _ S1.out.1).2 0))
  have T1 := Lib.hid (HSET.out _ 0 (.string s1) (by rw [hA]; rfl) S1.out)
  clear a1 f1 S1 hB1
  generalize w1.setCell ⟨w.heap.size, 0, none⟩ (.string s1) = v1 at *
  have a2 : _ = some (Value.string s2) := (CELLS.out _ T1.out.1).1 3 _ (by rw [hA]; rfl)
  have f2 := (CELLS.out _ T1.out.1).2 3
  go_upto_region 3 with (go_at_call 46; ((with_reducible refine (C2 _).mono ?_); rintro e w2 ⟨rfl, hB2⟩; have S2 := Lib.hid (HST.out _ w2 T1.out hB2); have a2 : _ = some (Value.string s2) := (CELLS.out _ S2.out.1).1 3 _ (by rw [hA]; rfl); have f2 := (CELLS.out _ S2.out.1).2 3))
  have T3 := Lib.hid (HSET.out _ 3 (.string s2) (by rw [hA]; rfl) S2.out)
  clear a2 f2 S2 hB2
  generalize w2.setCell ⟨w.heap.size, 3, none⟩ (.string s2) = v3 at *
  obtain ⟨r1, ⟨c, hc, r2⟩, b3⟩ := T3.out
  have HR1 := Lib.hid r1
  have HR2 := Lib.hid r2
  have HB3 := Lib.hid b3
  have HI5 := Lib.hid (show (Tryz.prog.info? 41).map (·.size) = some A.size by rw [HI.out, hA]; rfl)
  have HAO := Lib.hid (show A.all (·.oneCell') = true by rw [hA]; exact HONE.out)
  have HSZ := Lib.hid (show c.size = A.size by rw [hc, hA]; rfl)
  clear r1 r2 b3 hc T1 T3 C1 C2 CELLS HST HSET HS0
  go_wp2_with (first
    | ((with_reducible show wpList _ _ _ (⟨some 11, .load _ (.tmp 1), _, _, _, _⟩ :: _) _ _); refine wpList_load_row rfl 41 _ rfl w.heap.size rfl 41 A (0, 0) _ HR1.out Tryz.underlying41 rfl HI5.out ?_)
    | ((with_reducible show wpList _ _ _ (⟨none, .store _ (.tmp 2) _, _, _, _, _⟩ :: _) _ _); refine wpList_store_row rfl 41 _ _ rfl (w.heap.size + 1) A rfl rfl 41 c HR2.out HI5.out HSZ.out HAO.out ?_))
  refine bodyPost_ret (results_cell_row rfl _ _ (w.heap.size + 1) 41 A (0, 0) _ rfl (rowC_setRow HR2.out _) Tryz.underlying41 rfl HI5.out) rfl ?_
  exact ⟨by rw [HA.out], below_setRow HB3.out (by omega) _⟩
theorem checkRoot_any (k : Int) (w : World) :
    Calls Tryz.prog 39 #[.int .i64 k] w fun e w' => e = .returned (.int .i64 (if k = 2 then 0 else 71)) ∧ w = w' := by
  by_cases h : k = 2
  · rw [if_pos h]
    subst h
    go_enter Tryz.func39, Tryz.ntmps39
    go_wp2
    go_ret
    exact ⟨rfl, rfl⟩
  · rw [if_neg h]
    have g : (k != 2) = true := by rw [bne_iff_ne]; exact h
    go_enter Tryz.func39, Tryz.ntmps39
    go_wp2
    go_ret
    exact ⟨rfl, rfl⟩
end Go.Proofs.YtbjgmkjinnbokaaGreatDoor
#print axioms Go.Proofs.YtbjgmkjinnbokaaGreatDoor.nclone_any
#print axioms Go.Proofs.YtbjgmkjinnbokaaGreatDoor.checkRoot_any

/- Layer 16: the program's mayBe. -/
namespace Go.Proofs.YtbjgmkjinnbokaaGreatDoor
open Go.RowKit

set_option maxRecDepth 100000 in
set_option maxHeartbeats 8000000 in
theorem mayN_any (x : Nd) (hp : x.path.length ≤ 900000) (w : World) :
    Calls Tryz.prog 23 #[.agg #[.string (str x.path), .int .i64 x.kind, .int .i64 x.mode, .string (str x.data)]] w fun e w' => e = .returned (.bool (mayN x)) ∧ Below w.heap.size w w' := by
  have CC := fun w => clean_any x.path hp w
  have HM : Hid (mayN x = (!decide (x.path = []) && (decide (0 ≤ x.mode) && (decide (x.mode ≤ 4095) && (decide (cleanL x.path = (x.path, 0)) && kindN x))))) := Lib.hid rfl
  have HK : Hid (kindN x = if x.kind = 1 then decide (x.data.length ≤ 65536) else if x.kind = 2 then decide (x.data = []) else if x.kind = 4 then !decide (x.data = []) && decide (x.data.length ≤ 200) else false) := Lib.hid rfl
  have q0 := eq_lit x.path []
  have q0b := empty_lit x.path
  have q1 := eq_lit x.data []
  have q1b := empty_lit x.data
  have q2 := eq_strs (cleanL x.path).1 x.path
  have zd := str_size x.data
  have HC : Hid (decide (cleanL x.path = (x.path, 0)) = (decide ((cleanL x.path).1 = x.path) && decide ((cleanL x.path).2 = 0))) := Lib.hid (by
    rw [Bool.eq_iff_iff, decide_eq_true_eq, Bool.and_eq_true, decide_eq_true_eq, decide_eq_true_eq]
    exact ⟨fun h => by rw [h]; exact ⟨rfl, rfl⟩, fun ⟨h1, h2⟩ => Prod.ext h1 h2⟩)
  have HB := Lib.hid ((Below.refl w.heap.size w).alloc (Nat.le_refl _) (.cells #[.string (str x.path), .int .i64 x.kind, .int .i64 x.mode, .string (str x.data)] 41))
  have HZ := Lib.hid (rowC_new w #[.string (str x.path), .int .i64 x.kind, .int .i64 x.mode, .string (str x.data)] 41)
  generalize hbp : decide (x.path = []) = bp at *
  generalize hbd : decide (x.data = []) = bd at *
  generalize hbc : decide ((cleanL x.path).1 = x.path) = bc at *
  generalize (cleanL x.path).1 = CP at *
  generalize (cleanL x.path).2 = CE at *
  generalize str x.path = NM at *
  generalize str x.data = DT at *
  generalize str CP = CS at *
  generalize hk : x.kind = k at *
  generalize hm : x.mode = m at *
  generalize hl : x.data.length = dl at *
  clear hk hm hl hbp hbd hbc
  cases bp with
  | true =>
    have HR : Hid (mayN x = false) := Lib.hid (by rw [HM.out]; rfl)
    clear HM HK HC
    go_enter Tryz.func23, Tryz.ntmps23
    go_wp2
    go_ret
    exact ⟨by rw [HR.out]; rfl, HB.out⟩
  | false =>
    by_cases h1 : m < 0
    · have e1 : decide (0 ≤ m) = false := decide_eq_false (by omega)
      have HR : Hid (mayN x = false) := Lib.hid (by rw [HM.out, e1]; rfl)
      clear HM HK HC
      go_enter Tryz.func23, Tryz.ntmps23
      go_wp2
      go_ret
      exact ⟨by rw [HR.out]; rfl, HB.out⟩
    · by_cases h2 : 4095 < m
      · have e1 : decide (m ≤ 4095) = false := decide_eq_false (by omega)
        have HR : Hid (mayN x = false) := Lib.hid (by rw [HM.out, e1]; simp)
        clear HM HK HC
        go_enter Tryz.func23, Tryz.ntmps23
        go_wp2
        go_ret
        exact ⟨by rw [HR.out]; rfl, HB.out⟩
      · have HM2 : Hid (mayN x = (bc && decide (CE = 0) && kindN x)) := Lib.hid (by rw [HM.out, HC.out, decide_eq_true (show 0 ≤ m by omega), decide_eq_true (show m ≤ 4095 by omega)]; rfl)
        clear HM HC
        have HM := HM2
        have HC := HM2
        clear HM2
        by_cases h3 : CE = 0
        rotate_left
        · have g3 : (CE != 0) = true := by rw [bne_iff_ne]; exact h3
          have HR : Hid (mayN x = false) := Lib.hid (by rw [HM.out, decide_eq_false h3]; simp)
          clear HM HK HC
          go_enter Tryz.func23, Tryz.ntmps23
          go_wp2_with (go_at_call 35; ((with_reducible refine (CC _).mono ?_); rintro e w1 ⟨rfl, hB1⟩; have HB1 := Lib.hid (HB.out.trans (hB1.mono HB.out.size)); have HZ1 := Lib.hid (rowC_below HZ.out hB1 (rowC_lt HZ.out)); have d0 := rowC_cell HZ1.out 0; have d1 := rowC_cell HZ1.out 1; have d3 := rowC_cell HZ1.out 3; clear hB1))
          go_ret
          exact ⟨by rw [HR.out]; rfl, HB1.out⟩
        subst h3
        cases bc with
        | false =>
          have q3 : (CS.toList != NM.toList) = true := by rw [bne, q2]; rfl
          have HR : Hid (mayN x = false) := Lib.hid (by rw [HM.out]; rfl)
          clear HM HK HC
          go_enter Tryz.func23, Tryz.ntmps23
          go_wp2_with (go_at_call 35; ((with_reducible refine (CC _).mono ?_); rintro e w1 ⟨rfl, hB1⟩; have HB1 := Lib.hid (HB.out.trans (hB1.mono HB.out.size)); have HZ1 := Lib.hid (rowC_below HZ.out hB1 (rowC_lt HZ.out)); have d0 := rowC_cell HZ1.out 0; have d1 := rowC_cell HZ1.out 1; have d3 := rowC_cell HZ1.out 3; clear hB1))
          go_ret
          exact ⟨by rw [HR.out]; rfl, HB1.out⟩
        | true =>
          have q3 : (CS.toList != NM.toList) = false := by rw [bne, q2]; rfl
          have HM3 : Hid (mayN x = kindN x) := Lib.hid (by rw [HM.out]; rfl)
          clear HM HC
          have HM := HM3
          have HC := HM3
          clear HM3
          by_cases k1 : k = 1
          · subst k1
            have HR : Hid (mayN x = decide (dl ≤ 65536)) := Lib.hid (by rw [HM.out, HK.out, if_pos rfl])
            clear HM HK HC
            go_enter Tryz.func23, Tryz.ntmps23
            go_wp2_with (go_at_call 35; ((with_reducible refine (CC _).mono ?_); rintro e w1 ⟨rfl, hB1⟩; have HB1 := Lib.hid (HB.out.trans (hB1.mono HB.out.size)); have HZ1 := Lib.hid (rowC_below HZ.out hB1 (rowC_lt HZ.out)); have d0 := rowC_cell HZ1.out 0; have d1 := rowC_cell HZ1.out 1; have d3 := rowC_cell HZ1.out 3; clear hB1))
            go_ret
            exact ⟨by rw [HR.out]; exact retB (decide_eq_decide.2 (by omega)), HB1.out⟩
          by_cases k2 : k = 2
          · subst k2
            have g1 : ((2 : Int) == 1) = false := rfl
            have HR : Hid (mayN x = bd) := Lib.hid (by rw [HM.out, HK.out, if_neg (by decide), if_pos rfl])
            clear HM HK HC
            go_enter Tryz.func23, Tryz.ntmps23
            go_wp2_with (go_at_call 35; ((with_reducible refine (CC _).mono ?_); rintro e w1 ⟨rfl, hB1⟩; have HB1 := Lib.hid (HB.out.trans (hB1.mono HB.out.size)); have HZ1 := Lib.hid (rowC_below HZ.out hB1 (rowC_lt HZ.out)); have d0 := rowC_cell HZ1.out 0; have d1 := rowC_cell HZ1.out 1; have d3 := rowC_cell HZ1.out 3; clear hB1))
            go_ret
            exact ⟨by rw [HR.out]; rfl, HB1.out⟩
          by_cases k4 : k = 4
          · subst k4
            have g1 : ((4 : Int) == 1) = false := rfl
            have g2 : ((4 : Int) == 2) = false := rfl
            have q5 : (DT.toList != []) = !bd := by rw [bne, q1]
            cases bd with
            | true =>
              have HR : Hid (mayN x = false) := Lib.hid (by rw [HM.out, HK.out, if_neg (by decide), if_neg (by decide), if_pos rfl]; rfl)
              clear HM HK HC
              go_enter Tryz.func23, Tryz.ntmps23
              go_wp2_with (go_at_call 35; ((with_reducible refine (CC _).mono ?_); rintro e w1 ⟨rfl, hB1⟩; have HB1 := Lib.hid (HB.out.trans (hB1.mono HB.out.size)); have HZ1 := Lib.hid (rowC_below HZ.out hB1 (rowC_lt HZ.out)); have d0 := rowC_cell HZ1.out 0; have d1 := rowC_cell HZ1.out 1; have d3 := rowC_cell HZ1.out 3; clear hB1))
              go_ret
              exact ⟨by rw [HR.out]; rfl, HB1.out⟩
            | false =>
              have HR : Hid (mayN x = decide (dl ≤ 200)) := Lib.hid (by rw [HM.out, HK.out, if_neg (by decide), if_neg (by decide), if_pos rfl]; rfl)
              clear HM HK HC
              go_enter Tryz.func23, Tryz.ntmps23
              go_wp2_with (go_at_call 35; ((with_reducible refine (CC _).mono ?_); rintro e w1 ⟨rfl, hB1⟩; have HB1 := Lib.hid (HB.out.trans (hB1.mono HB.out.size)); have HZ1 := Lib.hid (rowC_below HZ.out hB1 (rowC_lt HZ.out)); have d0 := rowC_cell HZ1.out 0; have d1 := rowC_cell HZ1.out 1; have d3 := rowC_cell HZ1.out 3; clear hB1))
              go_ret
              exact ⟨by rw [HR.out]; exact retB (decide_eq_decide.2 (by omega)), HB1.out⟩
          have g1 : (k == 1) = false := by rw [beq_eq_false_iff_ne]; exact k1
          have g2 : (k == 2) = false := by rw [beq_eq_false_iff_ne]; exact k2
          have g4 : (k == 4) = false := by rw [beq_eq_false_iff_ne]; exact k4
          have HR : Hid (mayN x = false) := Lib.hid (by rw [HM.out, HK.out, if_neg k1, if_neg k2, if_neg k4])
          clear HM HK HC
          go_enter Tryz.func23, Tryz.ntmps23
          go_wp2_with (go_at_call 35; ((with_reducible refine (CC _).mono ?_); rintro e w1 ⟨rfl, hB1⟩; have HB1 := Lib.hid (HB.out.trans (hB1.mono HB.out.size)); have HZ1 := Lib.hid (rowC_below HZ.out hB1 (rowC_lt HZ.out)); have d0 := rowC_cell HZ1.out 0; have d1 := rowC_cell HZ1.out 1; have d3 := rowC_cell HZ1.out 3; clear hB1))
          go_ret
          exact ⟨by rw [HR.out]; rfl, HB1.out⟩
end Go.Proofs.YtbjgmkjinnbokaaGreatDoor
#print axioms Go.Proofs.YtbjgmkjinnbokaaGreatDoor.mayN_any

