/- Layer 15: what may be written, as the document says it. -/
import Derived.Test.YtmgpofdmoaafoaaGreatDoorTsH
namespace Go.Proofs.YtmgpofdmoaafoaaGreatDoor
open Go.RowKit

set_option maxRecDepth 100000 in
set_option maxHeartbeats 8000000 in
theorem mayR_any (x : Ent) (w : World) :
    Calls Tryz.prog 12 #[.agg #[.int .i64 x.kind, .string (str x.name), .string (str x.to), .int .i64 x.mode, .string (str x.data)]] w fun e w' => e = .returned (.bool (mayE x)) ∧ Below w.heap.size w w' := by
  have CN := fun w => namedR_any x.name w
  have CT := fun w => namedR_any x.to w
  have qd := eq_lit x.data []
  have qt := eq_lit x.to []
  have qd2 := empty_lit x.data
  have qt2 := empty_lit x.to
  have HB := Lib.hid ((Below.refl w.heap.size w).alloc (Nat.le_refl _) (.cells #[.int .i64 x.kind, .string (str x.name), .string (str x.to), .int .i64 x.mode, .string (str x.data)] 39))
  have HM : Hid (mayE x = (decide (1 ≤ x.kind) && decide (x.kind ≤ 4) && decide (0 ≤ x.mode) && decide (x.mode ≤ 4095) && decide (textE x.name = 0) && (decide (x.data = []) || decide (x.kind = 1)) && (if isLinkK x.kind then decide (textE x.to = 0) else decide (x.to = [])))) := Lib.hid rfl
  have qn0 : (((textE x.name : Nat) : Int) == 0) = decide (textE x.name = 0) := by rw [Bool.eq_iff_iff, beq_iff_eq, decide_eq_true_eq]; omega
  have qt0 : (((textE x.to : Nat) : Int) == 0) = decide (textE x.to = 0) := by rw [Bool.eq_iff_iff, beq_iff_eq, decide_eq_true_eq]; omega
  have qk1 : (x.kind == 1) = decide (x.kind = 1) := rfl
  generalize textE x.name = cn at *
  generalize textE x.to = ct at *
  have hlk : isLinkK x.kind = decide (x.kind = 3 ∨ x.kind = 4) := by unfold isLinkK; rw [Bool.decide_or]
  have HLK := Lib.hid hlk
  clear hlk
  generalize isLinkK x.kind = lk at *
  generalize hk : x.kind = k at *
  generalize hm : x.mode = m at *
  generalize str x.name = NM at *
  generalize str x.to = TO at *
  generalize str x.data = DT at *
  clear hk hm
  by_cases h1 : k < 1
  · have HR : Hid (mayE x = false) := Lib.hid (by rw [HM.out, decide_eq_false (show ¬ 1 ≤ k by omega)]; rfl)
    clear HM
    go_enter Tryz.func12, Tryz.ntmps12
    go_wp2_with (first
      | (go_at_call 27; (first | (with_reducible refine (CN _).mono ?_) | (with_reducible refine (CT _).mono ?_)); rintro e w1 ⟨rfl, rfl⟩))
    go_ret
    exact ⟨by rw [HR.out]; rfl, HB.out⟩
  by_cases h2 : 4 < k
  · have HR : Hid (mayE x = false) := Lib.hid (by rw [HM.out, decide_eq_false (show ¬ k ≤ 4 by omega)]; simp)
    clear HM
    go_enter Tryz.func12, Tryz.ntmps12
    go_wp2_with (first
      | (go_at_call 27; (first | (with_reducible refine (CN _).mono ?_) | (with_reducible refine (CT _).mono ?_)); rintro e w1 ⟨rfl, rfl⟩))
    go_ret
    exact ⟨by rw [HR.out]; rfl, HB.out⟩
  by_cases hcn : cn = 0
  rotate_left
  · have HR : Hid (mayE x = false) := Lib.hid (by rw [HM.out, decide_eq_false hcn]; simp)
    clear HM
    go_enter Tryz.func12, Tryz.ntmps12
    go_wp2_with (first
      | (go_at_call 27; (first | (with_reducible refine (CN _).mono ?_) | (with_reducible refine (CT _).mono ?_)); rintro e w1 ⟨rfl, rfl⟩))
    go_ret
    exact ⟨by rw [HR.out]; rfl, HB.out⟩
  subst hcn
  by_cases h3 : m < 0
  · have HR : Hid (mayE x = false) := Lib.hid (by rw [HM.out, decide_eq_false (show ¬ 0 ≤ m by omega)]; simp)
    clear HM
    go_enter Tryz.func12, Tryz.ntmps12
    go_wp2_with (first
      | (go_at_call 27; (first | (with_reducible refine (CN _).mono ?_) | (with_reducible refine (CT _).mono ?_)); rintro e w1 ⟨rfl, rfl⟩))
    go_ret
    exact ⟨by rw [HR.out]; rfl, HB.out⟩
  by_cases h4 : 4095 < m
  · have HR : Hid (mayE x = false) := Lib.hid (by rw [HM.out, decide_eq_false (show ¬ m ≤ 4095 by omega)]; simp)
    clear HM
    go_enter Tryz.func12, Tryz.ntmps12
    go_wp2_with (first
      | (go_at_call 27; (first | (with_reducible refine (CN _).mono ?_) | (with_reducible refine (CT _).mono ?_)); rintro e w1 ⟨rfl, rfl⟩))
    go_ret
    exact ⟨by rw [HR.out]; rfl, HB.out⟩
  have hm0 : decide (m < 0) = false := decide_eq_false (by omega)
  have hm1 : decide (4095 < m) = false := decide_eq_false (by omega)
  have HM2 : Hid (mayE x = ((decide (x.data = []) || decide (k = 1)) && (if lk then decide (ct = 0) else decide (x.to = [])))) := Lib.hid (by
    rw [HM.out, decide_eq_true (show 1 ≤ k by omega), decide_eq_true (show k ≤ 4 by omega), decide_eq_true (show 0 ≤ m by omega), decide_eq_true (show m ≤ 4095 by omega)]; rfl)
  clear HM
  generalize decide (x.data = []) = bd at *
  generalize decide (x.to = []) = bt at *
  have HL3 := HLK.out
  by_cases hk1 : k = 1
  · subst hk1
    have HR : Hid (mayE x = bt) := Lib.hid (by rw [HM2.out, HL3]; simp)
    clear HM2 HLK HL3
    cases bt <;> cases bd <;>
    · skip
      go_enter Tryz.func12, Tryz.ntmps12
      go_wp2_with (first
        | (go_at_call 27; (first | (with_reducible refine (CN _).mono ?_) | (with_reducible refine (CT _).mono ?_)); rintro e w1 ⟨rfl, rfl⟩))
      go_ret
      exact ⟨by rw [HR.out]; rfl, HB.out⟩
  · have hk1i : (k == 1) = false := by rw [beq_eq_false_iff_ne]; exact hk1
    have hk1b : (k != 1) = true := by rw [bne_iff_ne]; exact hk1
    cases bd with
    | false =>
      have HR : Hid (mayE x = false) := Lib.hid (by rw [HM2.out, decide_eq_false hk1]; rfl)
      clear HM2 HLK HL3
      go_enter Tryz.func12, Tryz.ntmps12
      go_wp2_with (first
        | (go_at_call 27; (first | (with_reducible refine (CN _).mono ?_) | (with_reducible refine (CT _).mono ?_)); rintro e w1 ⟨rfl, rfl⟩))
      go_ret
      exact ⟨by rw [HR.out]; rfl, HB.out⟩
    | true =>
      by_cases hk2 : k = 2
      · subst hk2
        have HR : Hid (mayE x = bt) := Lib.hid (by rw [HM2.out, HL3]; simp)
        clear HM2 HLK HL3
        cases bt <;>
        · skip
          go_enter Tryz.func12, Tryz.ntmps12
          go_wp2_with (first
            | (go_at_call 27; (first | (with_reducible refine (CN _).mono ?_) | (with_reducible refine (CT _).mono ?_)); rintro e w1 ⟨rfl, rfl⟩))
          go_ret
          exact ⟨by rw [HR.out]; rfl, HB.out⟩
      · have g5 : 2 < k := by omega
        by_cases hct : ct = 0
        · subst hct
          have HR : Hid (mayE x = true) := Lib.hid (by rw [HM2.out, HL3, decide_eq_true (show k = 3 ∨ k = 4 by omega)]; simp)
          clear HM2 HLK HL3
          go_enter Tryz.func12, Tryz.ntmps12
          go_wp2_with (first
            | (go_at_call 27; (first | (with_reducible refine (CN _).mono ?_) | (with_reducible refine (CT _).mono ?_)); rintro e w1 ⟨rfl, rfl⟩))
          go_ret
          exact ⟨by rw [HR.out]; rfl, HB.out⟩
        · have HR : Hid (mayE x = false) := Lib.hid (by rw [HM2.out, HL3, decide_eq_true (show k = 3 ∨ k = 4 by omega), decide_eq_false hct]; simp)
          clear HM2 HLK HL3
          go_enter Tryz.func12, Tryz.ntmps12
          go_wp2_with (first
            | (go_at_call 27; (first | (with_reducible refine (CN _).mono ?_) | (with_reducible refine (CT _).mono ?_)); rintro e w1 ⟨rfl, rfl⟩))
          go_ret
          exact ⟨by rw [HR.out]; rfl, HB.out⟩
end Go.Proofs.YtmgpofdmoaafoaaGreatDoor
