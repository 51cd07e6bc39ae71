/- Layer 14: PathsUnder. -/
import Derived.Test.YtekfchlgkdgpdaaDoorPtT
namespace Go.Proofs.YtekfchlgkdgpdaaDoor
open Go.RowKit

theorem join2_le (a b : List UInt8) : (join2 a b).length ≤ a.length + b.length + 1 := by
  unfold join2
  split
  · omega
  · split
    · omega
    · rw [List.length_append, List.length_cons]; omega
set_option maxRecDepth 100000 in
set_option maxHeartbeats 4000000 in
theorem under_walk (a0 a1 : ByteArray) (W : World) : Calls Tryd.prog 6 #[.string a0, .string a1] W fun e w' => e = .returned (.bool true) ∧ Below W.heap.size W w' := by
  obtain ⟨p, rfl, hp⟩ := is_str a0
  obtain ⟨q, rfl, hq⟩ := is_str a1
  clear hp hq
  have zp := str_size p
  have zq := str_size q
  have CX := fun w => cleaned_any w
  by_cases h1 : 150 < p.length
  · have g1 : (150 : Int) < (p.length : Int) := by omega
    go_enter Tryd.func6, Tryd.ntmps6
    go_wp2_with (go_at_call 8; with_reducible refine (CX _).mono ?_; rintro e w1 ⟨rfl, b1⟩)
    go_ret
    exact ⟨rfl, b1⟩
  have g1 : ¬ (150 : Int) < (p.length : Int) := by omega
  by_cases h2 : 150 < q.length
  · have g2 : (150 : Int) < (q.length : Int) := by omega
    go_enter Tryd.func6, Tryd.ntmps6
    go_wp2_with (go_at_call 8; with_reducible refine (CX _).mono ?_; rintro e w1 ⟨rfl, b1⟩)
    go_ret
    exact ⟨rfl, b1⟩
  have g2 : ¬ (150 : Int) < (q.length : Int) := by omega
  have C1 := fun w => clean_any p (by omega) w
  have C2 := fun w => clean_any q (by omega) w
  have L1 := clean_len p
  have L2 := clean_len q
  have HP := Lib.hid (show cleanL p = ((cleanL p).1, (cleanL p).2) from rfl)
  have HQ := Lib.hid (show cleanL q = ((cleanL q).1, (cleanL q).2) from rfl)
  generalize (cleanL p).1 = a at *
  generalize (cleanL p).2 = ea at *
  generalize (cleanL q).1 = b at *
  generalize (cleanL q).2 = eb at *
  by_cases h3 : ea = 0
  · subst h3
    by_cases h4 : eb = 0
    · subst h4
      have hq' : q.length ≤ 150 := by omega
      have ha' := L1
      have J1 := fun w => join_any a q (by omega) (by omega) w
      have J2 := fun w => join_any a b (by omega) (by omega) w
      have C3 := fun w => clean_any (join2 a q) (by have := join2_le a q; omega) w
      rw [clean_under HP.out HQ.out] at C3
      have I1 := fun w => inside_any a (join2 a b) w
      have I2 := fun w => inside_any (join2 a b) a w
      rw [inside_join] at I1
      rw [inside_back] at I2
      have HJL := Lib.hid (join2_le a b)
      have q1 : (str b).toList.isEmpty = decide (b = []) := empty_lit b
      have q2 : (str (join2 a b)).toList.isEmpty = decide (join2 a b = []) := empty_lit _
      have za := str_size a
      have zb := str_size b
      by_cases h5 : 200 < (join2 a b).length
      · rw [if_pos h5] at C3
        have g5 : (200 : Int) < (a.length : Int) + (b.length : Int) + 1 := by have := HJL.out; omega
        have g6 : (a.length : Int) ≤ 200 := by omega
        have g7 : (b.length : Int) ≤ 200 := by omega
        clear h1 h2 h5 q1 q2 I1 I2 J2
        generalize join2 a q = j at *
        go_enter Tryd.func6, Tryd.ntmps6
        go_wp2_with (first
          | (go_at_call 9; with_reducible refine (C1 _).mono ?_; rintro e w1 ⟨rfl, b1⟩)
          | (go_at_call 9; with_reducible refine (C2 _).mono ?_; rintro e w2 ⟨rfl, b2⟩)
          | (go_at_call 17; with_reducible refine (J1 _).mono ?_; rintro e w3 ⟨rfl, b3⟩)
          | (go_at_call 9; with_reducible refine (C3 _).mono ?_; rintro e w4 ⟨rfl, b4⟩)
          | (go_at_call 8; with_reducible refine (CX _).mono ?_; rintro e w14 ⟨rfl, b14⟩))
        go_ret
        refine ⟨rfl, ?_⟩
        have c2 := b1.trans (b2.mono b1.size)
        have c3 := c2.trans (b3.mono c2.size)
        have c4 := c3.trans (b4.mono c3.size)
        exact c4.trans (b14.mono c4.size)
      · rw [if_neg h5] at C3
        clear h1 h2 h5 HJL
        generalize join2 a q = j at *
        generalize decide (join2 a b = []) = d2 at *
        generalize join2 a b = c at *
        generalize decide (b = []) = d1 at *
        cases d1 <;> cases d2
        all_goals
          go_enter Tryd.func6, Tryd.ntmps6
          go_wp2_with (first
            | (go_at_call 9; with_reducible refine (C1 _).mono ?_; rintro e w1 ⟨rfl, b1⟩)
            | (go_at_call 9; with_reducible refine (C2 _).mono ?_; rintro e w2 ⟨rfl, b2⟩)
            | (go_at_call 17; with_reducible refine (J1 _).mono ?_; rintro e w3 ⟨rfl, b3⟩)
            | (go_at_call 9; with_reducible refine (C3 _).mono ?_; rintro e w4 ⟨rfl, b4⟩)
            | (go_at_call 17; with_reducible refine (J2 _).mono ?_; rintro e w5 ⟨rfl, b5⟩)
            | (go_at_call 19; with_reducible refine (I1 _).mono ?_; rintro e w6 ⟨rfl, rfl⟩)
            | (go_at_call 19; with_reducible refine (I2 _).mono ?_; rintro e w7 ⟨rfl, rfl⟩)
            | (go_at_call 8; with_reducible refine (CX _).mono ?_; rintro e w14 ⟨rfl, b14⟩))
          go_ret
          refine ⟨rfl, ?_⟩
          have c2 := b1.trans (b2.mono b1.size)
          have c3 := c2.trans (b3.mono c2.size)
          have c4 := c3.trans (b4.mono c3.size)
          have c5 := c4.trans (b5.mono c4.size)
          exact c5.trans (b14.mono c5.size)
    · have q4 : (eb == 0) = false := beq_eq_false_iff_ne.2 h4
      clear h1 h2 h4 L1 L2
      go_enter Tryd.func6, Tryd.ntmps6
      go_wp2_with (first
        | (go_at_call 9; with_reducible refine (C1 _).mono ?_; rintro e w1 ⟨rfl, b1⟩)
        | (go_at_call 9; with_reducible refine (C2 _).mono ?_; rintro e w2 ⟨rfl, b2⟩)
        | (go_at_call 8; with_reducible refine (CX _).mono ?_; rintro e w14 ⟨rfl, b14⟩))
      go_ret
      refine ⟨rfl, ?_⟩
      have c2 := b1.trans (b2.mono b1.size)
      exact c2.trans (b14.mono c2.size)
  · have q3 : (ea == 0) = false := beq_eq_false_iff_ne.2 h3
    clear h1 h2 h3 L1 L2
    go_enter Tryd.func6, Tryd.ntmps6
    go_wp2_with (first
      | (go_at_call 9; with_reducible refine (C1 _).mono ?_; rintro e w1 ⟨rfl, b1⟩)
      | (go_at_call 9; with_reducible refine (C2 _).mono ?_; rintro e w2 ⟨rfl, b2⟩)
      | (go_at_call 8; with_reducible refine (CX _).mono ?_; rintro e w14 ⟨rfl, b14⟩))
    go_ret
    refine ⟨rfl, ?_⟩
    have c2 := b1.trans (b2.mono b1.size)
    exact c2.trans (b14.mono c2.size)
end Go.Proofs.YtekfchlgkdgpdaaDoor
