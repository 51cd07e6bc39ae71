/- Layer 14: whiteouts. -/
import Derived.Test.YtokeiagcdahmaaaDoorPtI
namespace Go.Proofs.YtokeiagcdahmaaaDoor
open Go.RowKit

theorem ret3w {a a' : ByteArray} {b b' c c' : Bool} (h : a = a') (h' : b = b') (h'' : c = c') : Ending.returned (.tuple #[.string a, .bool b, .bool c]) = .returned (.tuple #[.string a', .bool b', .bool c']) := by rw [h, h', h'']
theorem neq_lit (h l : List UInt8) : ((str h).toList != l) = !decide (h = l) := by rw [bne, eq_lit]
theorem mayGo_any (n : List UInt8) (w : World) :
    Calls Tryd.prog 43 #[.string (str n)] w fun e w' => e = .returned (.bool (mayGoB n)) ∧ w = w' := by
  have q1 : (str n).toList.isEmpty = decide (n = []) := empty_lit n
  have q2 : ((str n).toList == [46]) = decide (n = [46]) := eq_lit n [46]
  have q3 : ((str n).toList == [46, 46]) = decide (n = [46, 46]) := eq_lit n [46, 46]
  have CH := fun w => hasP_any n whB w
  rw [show str whB = ⟨#[46, 119, 104, 46]⟩ from rfl] at CH
  have HM := Lib.hid (show mayGoB n = (!decide (n = []) && (!decide (n = [46]) && (!decide (n = [46, 46]) && !decide (whB <+: n)))) from rfl)
  generalize decide (n = []) = b1 at *
  generalize decide (n = [46]) = b2 at *
  generalize decide (n = [46, 46]) = b3 at *
  generalize decide (whB <+: n) = b4 at *
  cases b1 <;> cases b2 <;> cases b3
  all_goals
    go_enter Tryd.func43, Tryd.ntmps43
    go_wp2_with (go_at_call 71; ((with_reducible refine (CH _).mono ?_); rintro e w1 ⟨rfl, rfl⟩))
    go_ret
    exact ⟨retB (by rw [HM.out]; rfl), by trivial⟩
set_option maxRecDepth 100000 in
set_option maxHeartbeats 2000000 in
theorem white_any (s : List UInt8) (hl : s.length ≤ 1000000) (w : World) :
    Calls Tryd.prog 28 #[.string (str s)] w fun e w' => e = .returned (.tuple #[.string (str (whiteL s).1), .bool (whiteL s).2.1, .bool (whiteL s).2.2]) ∧ Below w.heap.size w w' := by
  have q1 : ((str s).toList == [46, 119, 104, 46, 46, 119, 104, 46, 46, 111, 112, 113]) = decide (s = opqB) := eq_lit s opqB
  have HW := Lib.hid (show whiteL s = if s = opqB then ([], true, true) else if (decide (whB <+: s) && mayGoB (s.drop 4)) = true then (s.drop 4, false, true) else ([], false, false) from rfl)
  by_cases h1 : s = opqB
  · have HR := Lib.hid (show whiteL s = ([], true, true) by rw [HW.out, if_pos h1])
    rw [decide_eq_true h1] at q1
    clear h1
    go_enter Tryd.func28, Tryd.ntmps28
    go_wp2
    go_ret3
    exact ⟨ret3w (by rw [HR.out]; rfl) (by rw [HR.out]) (by rw [HR.out]), Below.refl _ _⟩
  rw [decide_eq_false h1] at q1
  by_cases h2 : whB <+: s
  · obtain ⟨n, hn⟩ := h2
    have hd : s.drop 4 = n := by rw [← hn]; rfl
    have CP := fun w => hn ▸ cutP_hit whB n w
    rw [show str whB = ⟨#[46, 119, 104, 46]⟩ from rfl] at CP
    have CM := fun w => mayGo_any n w
    have CC := fun w => clone_any (str n) (by rw [str_size]; have := congrArg List.length hn; rw [List.length_append] at this; omega) w
    rw [hd] at HW
    cases hm : mayGoB n
    · have HR := Lib.hid (show whiteL s = ([], false, false) by rw [HW.out, if_neg h1, hm, Bool.and_false]; rfl)
      rw [hm] at CM
      clear h1 hn hd hm HW
      go_enter Tryd.func28, Tryd.ntmps28
      go_wp2_with (first
        | (go_at_call 42; ((with_reducible refine (CP _).mono ?_); rintro e w1 ⟨rfl, rfl⟩))
        | (go_at_call 43; ((with_reducible refine (CM _).mono ?_); rintro e w2 ⟨rfl, rfl⟩)))
      go_ret3
      exact ⟨ret3w (by rw [HR.out]; rfl) (by rw [HR.out]) (by rw [HR.out]), Below.refl _ _⟩
    · have HR := Lib.hid (show whiteL s = (n, false, true) by rw [HW.out, if_neg h1, hm, Bool.and_true, decide_eq_true ⟨n, hn⟩]; rfl)
      rw [hm] at CM
      clear h1 hn hd hm HW
      go_enter Tryd.func28, Tryd.ntmps28
      go_wp2_with (first
        | (go_at_call 42; ((with_reducible refine (CP _).mono ?_); rintro e w1 ⟨rfl, rfl⟩))
        | (go_at_call 43; ((with_reducible refine (CM _).mono ?_); rintro e w2 ⟨rfl, rfl⟩))
        | (go_at_call 22; ((with_reducible refine (CC _).mono ?_); rintro e w3 ⟨rfl, hB⟩)))
      go_ret3
      exact ⟨ret3w (by rw [HR.out]) (by rw [HR.out]) (by rw [HR.out]), hB⟩
  · have HR := Lib.hid (show whiteL s = ([], false, false) by rw [HW.out, if_neg h1, decide_eq_false h2, Bool.false_and]; rfl)
    have CP := fun w => cutP_miss h2 w
    rw [show str whB = ⟨#[46, 119, 104, 46]⟩ from rfl] at CP
    clear h1 h2 HW
    go_enter Tryd.func28, Tryd.ntmps28
    go_wp2_with (go_at_call 42; obtain ⟨r, CQ⟩ := CP w; ((with_reducible refine CQ.mono ?_); rintro e w1 ⟨rfl, rfl⟩))
    go_ret3
    exact ⟨ret3w (by rw [HR.out]; rfl) (by rw [HR.out]) (by rw [HR.out]), Below.refl _ _⟩
theorem take_pre (s : List UInt8) : (s.take 4 = whB) ↔ whB <+: s := by
  constructor
  · intro h
    exact ⟨s.drop 4, by rw [← h, List.take_append_drop]⟩
  · rintro ⟨n, rfl⟩
    rfl

end Go.Proofs.YtokeiagcdahmaaaDoor
#print axioms Go.Proofs.YtokeiagcdahmaaaDoor.white_any
