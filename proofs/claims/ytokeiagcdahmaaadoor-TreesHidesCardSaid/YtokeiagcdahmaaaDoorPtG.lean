/- Layer 14: the program's step: what a path's next part says. -/
import Derived.Test.YtokeiagcdahmaaaDoorPtF
namespace Go.Proofs.YtokeiagcdahmaaaDoor
open Go.RowKit

set_option maxRecDepth 100000 in
set_option maxHeartbeats 2000000 in
theorem step_any (base B : Nat) (l : List (List UInt8)) (x : List UInt8) (hl : l.length ≤ 1000000) (hB : B < base) (w : World) (hw : base ≤ w.heap.size) (hk : StkAt w base B l) :
    Calls Tryd.prog 39 #[.pointer (some ⟨B, 0, none⟩), .string (str x)] w fun e w' => e = .returned (.bool (stepP (some l) x).isSome) ∧ (∀ l', stepP (some l) x = some l' → StkAt w' base B l') ∧ StkC base B w w' := by
  have q1 : (str x).toList.isEmpty = decide (x = []) := empty_lit x
  have q2 : ((str x).toList == [46]) = decide (x = [46]) := eq_lit x [46]
  have q3 : ((str x).toList == [46, 46]) = decide (x = [46, 46]) := eq_lit x [46, 46]
  have C1 := fun w hk => cut_any base B l hl hB w hk
  have C2 := fun w hw hk => put_any base B l x hl hB w hw hk
  have C3 := fun w => contains_any x 0 w
  have HK := Lib.hid hk
  have HW := Lib.hid hw
  have HS : Hid (stepP (some l) x = if x = [] ∨ x = [46] then some l else if x = [46, 46] then (if l = [] then none else some l.dropLast) else if (0 : UInt8) ∈ x then none else some (l ++ [x])) := Lib.hid rfl
  by_cases h1 : x = []
  · have HV := Lib.hid (show stepP (some l) x = some l by rw [HS.out, if_pos (.inl h1)])
    rw [decide_eq_true h1] at q1
    clear h1 hk HS C1 C2 C3
    go_enter Tryd.func39, Tryd.ntmps39
    go_wp2
    go_ret
    exact ⟨retB (by rw [HV.out]; rfl), fun l' h => (by rw [HV.out] at h; cases h; exact HK.out), StkC.refl _ _ _⟩
  rw [decide_eq_false h1] at q1
  by_cases h2 : x = [46]
  · have HV := Lib.hid (show stepP (some l) x = some l by rw [HS.out, if_pos (.inr h2)])
    rw [decide_eq_true h2] at q2
    clear h1 h2 hk HS C1 C2 C3
    go_enter Tryd.func39, Tryd.ntmps39
    go_wp2
    go_ret
    exact ⟨retB (by rw [HV.out]; rfl), fun l' h => (by rw [HV.out] at h; cases h; exact HK.out), StkC.refl _ _ _⟩
  rw [decide_eq_false h2] at q2
  have h12 : ¬ (x = [] ∨ x = [46]) := by rintro (h | h); exact h1 h; exact h2 h
  by_cases h3 : x = [46, 46]
  · have HV := Lib.hid (show stepP (some l) x = if l = [] then none else some l.dropLast by rw [HS.out, if_neg h12, if_pos h3])
    rw [decide_eq_true h3] at q3
    clear h1 h2 h3 h12 HS C2 C3
    have CC := C1 w hk
    clear C1 hk
    generalize hb : (!decide (l = [])) = b at *
    have HB := Lib.hid hb
    clear hb
    go_enter Tryd.func39, Tryd.ntmps39
    go_wp2_with (go_at_call 63; ((with_reducible refine CC.mono ?_); rintro e w1 ⟨rfl, hs1, hc1⟩))
    go_ret
    refine ⟨retB ?_, fun l' h => ?_, hc1⟩
    · rw [HV.out, ← HB.out]
      by_cases h0 : l = []
      · rw [if_pos h0, decide_eq_true h0]; rfl
      · rw [if_neg h0, decide_eq_false h0]; rfl
    · rw [HV.out] at h
      by_cases h0 : l = []
      · rw [if_pos h0] at h; cases h
      · rw [if_neg h0] at h; cases h; exact hs1
  rw [decide_eq_false h3] at q3
  by_cases h4 : (0 : UInt8) ∈ x
  · have HV := Lib.hid (show stepP (some l) x = none by rw [HS.out, if_neg h12, if_neg h3, if_pos h4])
    rw [decide_eq_true h4] at C3
    clear h1 h2 h3 h4 h12 HS C1 C2 hk
    go_enter Tryd.func39, Tryd.ntmps39
    go_wp2_with (go_at_call 64; ((with_reducible refine (C3 _).mono ?_); rintro e w1 ⟨rfl, rfl⟩))
    go_ret
    exact ⟨retB (by rw [HV.out]; rfl), fun l' h => (by rw [HV.out] at h; cases h), StkC.refl _ _ _⟩
  · have HV := Lib.hid (show stepP (some l) x = some (l ++ [x]) by rw [HS.out, if_neg h12, if_neg h3, if_neg h4])
    rw [decide_eq_false h4] at C3
    have CC := C2 w hw hk
    clear h1 h2 h3 h4 h12 HS C1 C2 hk
    go_enter Tryd.func39, Tryd.ntmps39
    go_wp2_with (first
      | (go_at_call 64; ((with_reducible refine (C3 _).mono ?_); rintro e w1 ⟨rfl, rfl⟩))
      | (go_at_call 65; ((with_reducible refine CC.mono ?_); rintro e w1 ⟨rfl, hs1, hc1⟩)))
    go_ret
    exact ⟨retB (by rw [HV.out]; rfl), fun l' h => (by rw [HV.out] at h; cases h; exact hs1), hc1⟩
end Go.Proofs.YtokeiagcdahmaaaDoor
