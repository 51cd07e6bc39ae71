/- Layer 14: PathsWhite. -/
import Derived.Test.YtekfchlgkdgpdaaDoorPtU
namespace Go.Proofs.YtekfchlgkdgpdaaDoor
open Go.RowKit

set_option maxRecDepth 100000 in
set_option maxHeartbeats 4000000 in
theorem white_walk (a0 : ByteArray) (W : World) : Calls Tryd.prog 7 #[.string a0] W fun e w' => e = .returned (.bool true) ∧ Below W.heap.size W w' := by
  obtain ⟨p, rfl, hp⟩ := is_str a0
  clear hp
  have zp := str_size p
  have CX := fun w => cleaned_any w
  by_cases h1 : 100 < p.length
  · have g1 : (100 : Int) < (p.length : Int) := by omega
    go_enter Tryd.func7, Tryd.ntmps7
    go_wp2_with (go_at_call 8; with_reducible refine (CX _).mono ?_; rintro e w1 ⟨rfl, b1⟩)
    go_ret
    exact ⟨rfl, b1⟩
  have g1 : ¬ (100 : Int) < (p.length : Int) := by omega
  have HPL := Lib.hid (show p.length ≤ 100 by omega)
  clear h1
  go_enter Tryd.func7, Tryd.ntmps7
  go_wp2
  go_loopw [0, 3] (fun u v wr => ∃ (k : Nat) (n : List UInt8), k ≤ 3 ∧ v = .int .i64 k ∧ u = .string (str n) ∧ n.length ≤ 100 + 4 * k ∧ Hid (Below W.heap.size W wr)) (fun _ v _ => 3 - (intOf v).toNat)
  case atStart => exact ⟨0, p, Nat.zero_le _, rfl, rfl, HPL.out, Lib.hid (Below.refl _ _)⟩
  case round =>
    obtain ⟨k, n, hk, rfl, rfl, hn, hB⟩ := hrel
    clear zp g1
    by_cases hlt : k < 3
    · have g1 : (k : Int) < 3 := by omega
      have zn := str_size n
      have hnl : n.length ≤ 112 := by omega
      have HNL := Lib.hid hn
      have WC := fun w => white_any n (by omega) w
      have C1 := fun w => clean_any n (by omega) w
      have K1 := fun w => isClean_any n (by omega) w
      have B1 := fun w => base_any n (by omega) w
      have q3 : ((str (baseL n)).toList == (str n).toList) = decide (baseL n = n) := eq_strs _ n
      have HCASE := Lib.hid (white_cases n)
      have HCL := Lib.hid (fun m (hm : mayGoB m = true) (h : cleanB (whB ++ m) = true) (h' : baseL (whB ++ m) = whB ++ m) => white_clean hm h h')
      rw [Nat.add_comm] at hn
      have hres : ∀ wr', Below wr.heap.size wr wr' → Hid (Below W.heap.size W wr') := fun wr' h => Lib.hid (hB.out.trans (h.mono hB.out.size))
      have HRES := Lib.hid hres
      have hnx : Hid (str whB ++ str n = str (whB ++ n) ∧ (whB ++ n).length ≤ 100 + 4 * (k + 1)) := Lib.hid ⟨str_append whB n, by rw [List.length_append]; have : whB.length = 4 := rfl; omega⟩
      have qe : (str []).toList.isEmpty = true := empty_lit []
      have zw : (⟨#[46, 119, 104, 46]⟩ : ByteArray).size = 4 := rfl
      generalize cleanL n = cn at *
      obtain ⟨ct, ce⟩ := cn
      simp only at C1
      have q1 : (ce == 0) = (ce == 0) := rfl
      clear hres hn
      rcases HCASE.out with ⟨hop, hw⟩ | ⟨m, hm, hgo, hw⟩ | hw
      · rw [hw] at WC
        simp only at WC
        clear hw HCL HCASE hop
        generalize cleanB n = c2 at *
        generalize decide (baseL n = n) = c3 at *
        generalize baseL n = bn at *
        cases hc1 : (ce == 0) <;> cases c2 <;> cases c3
        all_goals
          go_wp2_with (first
            | (go_at_call 11; with_reducible refine (WC _).mono ?_; rintro e w1 ⟨rfl, b1⟩)
            | (go_at_call 9; with_reducible refine (C1 _).mono ?_; rintro e w2 ⟨rfl, b2⟩)
            | (go_at_call 21; with_reducible refine (K1 _).mono ?_; rintro e w3 ⟨rfl, rfl⟩)
            | (go_at_call 15; with_reducible refine (B1 _).mono ?_; rintro e w4 ⟨rfl, b4⟩))
          go_roundw
          case rel => exact ⟨k + 1, whB ++ n, by omega, by go_num, by rw [← hnx.out.1]; rfl, hnx.out.2, HRES.out _ (by first | exact (b1.trans (b2.mono b1.size)).trans (b4.mono (b1.trans (b2.mono b1.size)).size) | exact b1.trans (b2.mono b1.size))⟩
          case measure => simp [intOf]; omega
      · rw [hw] at WC
        simp only at WC
        have hmn : m ≠ [] := by
          rintro rfl
          revert hgo
          decide
        have qm : (str m).toList.isEmpty = false := by rw [empty_lit, decide_eq_false hmn]
        have zm := str_size m
        have hml : m.length + 4 = n.length := by rw [hm, List.length_append]; have : whB.length = 4 := rfl; omega
        have qz : ((n.length : Int) == (m.length : Int) + 4) = true := by rw [beq_iff_eq]; omega
        have hml2 : (m.length : Int) ≤ 108 := by omega
        have K2 := fun w => isClean_any m (by omega) w
        have HC2 := Lib.hid (fun (h : cleanB n = true) (h' : decide (baseL n = n) = true) => HCL.out m hgo (by rw [← hm]; exact h) (by rw [← hm]; exact of_decide_eq_true h'))
        clear hw HCL HCASE hgo hm hmn hml
        generalize cleanB n = c2 at *
        generalize decide (baseL n = n) = c3 at *
        generalize baseL n = bn at *
        generalize cleanB m = c4 at *
        cases hc1 : (ce == 0) <;> cases c2 <;> cases c3
        rotate_left 7
        · have h4 := HC2.out rfl rfl
          subst h4
          clear HC2
          go_wp2_with (first
            | (go_at_call 11; with_reducible refine (WC _).mono ?_; rintro e w1 ⟨rfl, b1⟩)
            | (go_at_call 9; with_reducible refine (C1 _).mono ?_; rintro e w2 ⟨rfl, b2⟩)
            | (go_at_call 21; with_reducible refine (K1 _).mono ?_; rintro e w3 ⟨rfl, rfl⟩)
            | (go_at_call 15; with_reducible refine (B1 _).mono ?_; rintro e w4 ⟨rfl, b4⟩)
            | (go_at_call 21; with_reducible refine (K2 _).mono ?_; rintro e w5 ⟨rfl, rfl⟩))
          go_roundw
          case rel => exact ⟨k + 1, whB ++ n, by omega, by go_num, by rw [← hnx.out.1]; rfl, hnx.out.2, HRES.out _ (by first | exact (b1.trans (b2.mono b1.size)).trans (b4.mono (b1.trans (b2.mono b1.size)).size) | exact b1.trans (b2.mono b1.size))⟩
          case measure => simp [intOf]; omega
        all_goals
          clear HC2
          go_wp2_with (first
            | (go_at_call 11; with_reducible refine (WC _).mono ?_; rintro e w1 ⟨rfl, b1⟩)
            | (go_at_call 9; with_reducible refine (C1 _).mono ?_; rintro e w2 ⟨rfl, b2⟩)
            | (go_at_call 21; with_reducible refine (K1 _).mono ?_; rintro e w3 ⟨rfl, rfl⟩)
            | (go_at_call 15; with_reducible refine (B1 _).mono ?_; rintro e w4 ⟨rfl, b4⟩))
          go_roundw
          case rel => exact ⟨k + 1, whB ++ n, by omega, by go_num, by rw [← hnx.out.1]; rfl, hnx.out.2, HRES.out _ (by first | exact (b1.trans (b2.mono b1.size)).trans (b4.mono (b1.trans (b2.mono b1.size)).size) | exact b1.trans (b2.mono b1.size))⟩
          case measure => simp [intOf]; omega
      · rw [hw] at WC
        simp only at WC
        clear hw HCL HCASE
        generalize cleanB n = c2 at *
        generalize decide (baseL n = n) = c3 at *
        generalize baseL n = bn at *
        cases hc1 : (ce == 0)
        all_goals
          go_wp2_with (first
            | (go_at_call 11; with_reducible refine (WC _).mono ?_; rintro e w1 ⟨rfl, b1⟩)
            | (go_at_call 9; with_reducible refine (C1 _).mono ?_; rintro e w2 ⟨rfl, b2⟩)
            | (go_at_call 21; with_reducible refine (K1 _).mono ?_; rintro e w3 ⟨rfl, rfl⟩)
            | (go_at_call 15; with_reducible refine (B1 _).mono ?_; rintro e w4 ⟨rfl, b4⟩))
          go_roundw
          case rel => exact ⟨k + 1, whB ++ n, by omega, by go_num, by rw [← hnx.out.1]; rfl, hnx.out.2, HRES.out _ (by first | exact (b1.trans (b2.mono b1.size)).trans (b4.mono (b1.trans (b2.mono b1.size)).size) | exact b1.trans (b2.mono b1.size))⟩
          case measure => simp [intOf]; omega
    · have g1 : ¬ (k : Int) < 3 := by omega
      go_wp2_with (go_at_call 8; with_reducible refine (CX _).mono ?_; rintro e w1 ⟨rfl, b1⟩)
      go_ret
      exact ⟨rfl, hB.out.trans (b1.mono hB.out.size)⟩
end Go.Proofs.YtekfchlgkdgpdaaDoor
