/- Layer 14: whiteouts; the document's Parent, Base, Join, Inside. -/
import Derived.Test.YtekfchlgkdgpdaaDoorPtJ
namespace Go.Proofs.YtekfchlgkdgpdaaDoor
open Go.RowKit

theorem ret3w {a a' : ByteArray} {b b' c c' : Bool} (h : a = a') (h' : b = b') (h'' : c = c') : Ending.returned (.tuple #[.string a, .bool b, .bool c]) = .returned (.tuple #[.string a', .bool b', .bool c']) := by rw [h, h', h'']
theorem neq_lit (h l : List UInt8) : ((str h).toList != l) = !decide (h = l) := by rw [bne, eq_lit]
theorem mayGo_any (n : List UInt8) (w : World) :
    Calls Tryd.prog 30 #[.string (str n)] w fun e w' => e = .returned (.bool (mayGoB n)) ∧ w = w' := by
  have q1 : (str n).toList.isEmpty = decide (n = []) := empty_lit n
  have q2 : ((str n).toList == [46]) = decide (n = [46]) := eq_lit n [46]
  have q3 : ((str n).toList == [46, 46]) = decide (n = [46, 46]) := eq_lit n [46, 46]
  have CH := fun w => hasP_any n whB w
  rw [show str whB = ⟨#[46, 119, 104, 46]⟩ from rfl] at CH
  have HM := Lib.hid (show mayGoB n = (!decide (n = []) && (!decide (n = [46]) && (!decide (n = [46, 46]) && !decide (whB <+: n)))) from rfl)
  generalize decide (n = []) = b1 at *
  generalize decide (n = [46]) = b2 at *
  generalize decide (n = [46, 46]) = b3 at *
  generalize decide (whB <+: n) = b4 at *
  cases b1 <;> cases b2 <;> cases b3
  all_goals
    go_enter Tryd.func30, Tryd.ntmps30
    go_wp2_with (go_at_call 32; ((with_reducible refine (CH _).mono ?_); rintro e w1 ⟨rfl, rfl⟩))
    go_ret
    exact ⟨retB (by rw [HM.out]; rfl), by trivial⟩
set_option maxRecDepth 100000 in
set_option maxHeartbeats 2000000 in
theorem white_any (s : List UInt8) (hl : s.length ≤ 1000000) (w : World) :
    Calls Tryd.prog 11 #[.string (str s)] w fun e w' => e = .returned (.tuple #[.string (str (whiteL s).1), .bool (whiteL s).2.1, .bool (whiteL s).2.2]) ∧ Below w.heap.size w w' := by
  have q1 : ((str s).toList == [46, 119, 104, 46, 46, 119, 104, 46, 46, 111, 112, 113]) = decide (s = opqB) := eq_lit s opqB
  have HW := Lib.hid (show whiteL s = if s = opqB then ([], true, true) else if (decide (whB <+: s) && mayGoB (s.drop 4)) = true then (s.drop 4, false, true) else ([], false, false) from rfl)
  by_cases h1 : s = opqB
  · have HR := Lib.hid (show whiteL s = ([], true, true) by rw [HW.out, if_pos h1])
    rw [decide_eq_true h1] at q1
    clear h1
    go_enter Tryd.func11, Tryd.ntmps11
    go_wp2
    go_ret3
    exact ⟨ret3w (by rw [HR.out]; rfl) (by rw [HR.out]) (by rw [HR.out]), Below.refl _ _⟩
  rw [decide_eq_false h1] at q1
  by_cases h2 : whB <+: s
  · obtain ⟨n, hn⟩ := h2
    have hd : s.drop 4 = n := by rw [← hn]; rfl
    have CP := fun w => hn ▸ cutP_hit whB n w
    rw [show str whB = ⟨#[46, 119, 104, 46]⟩ from rfl] at CP
    have CM := fun w => mayGo_any n w
    have CC := fun w => clone_any (str n) (by rw [str_size]; have := congrArg List.length hn; rw [List.length_append] at this; omega) w
    rw [hd] at HW
    cases hm : mayGoB n
    · have HR := Lib.hid (show whiteL s = ([], false, false) by rw [HW.out, if_neg h1, hm, Bool.and_false]; rfl)
      rw [hm] at CM
      clear h1 hn hd hm HW
      go_enter Tryd.func11, Tryd.ntmps11
      go_wp2_with (first
        | (go_at_call 29; ((with_reducible refine (CP _).mono ?_); rintro e w1 ⟨rfl, rfl⟩))
        | (go_at_call 30; ((with_reducible refine (CM _).mono ?_); rintro e w2 ⟨rfl, rfl⟩)))
      go_ret3
      exact ⟨ret3w (by rw [HR.out]; rfl) (by rw [HR.out]) (by rw [HR.out]), Below.refl _ _⟩
    · have HR := Lib.hid (show whiteL s = (n, false, true) by rw [HW.out, if_neg h1, hm, Bool.and_true, decide_eq_true ⟨n, hn⟩]; rfl)
      rw [hm] at CM
      clear h1 hn hd hm HW
      go_enter Tryd.func11, Tryd.ntmps11
      go_wp2_with (first
        | (go_at_call 29; ((with_reducible refine (CP _).mono ?_); rintro e w1 ⟨rfl, rfl⟩))
        | (go_at_call 30; ((with_reducible refine (CM _).mono ?_); rintro e w2 ⟨rfl, rfl⟩))
        | (go_at_call 25; ((with_reducible refine (CC _).mono ?_); rintro e w3 ⟨rfl, hB⟩)))
      go_ret3
      exact ⟨ret3w (by rw [HR.out]) (by rw [HR.out]) (by rw [HR.out]), hB⟩
  · have HR := Lib.hid (show whiteL s = ([], false, false) by rw [HW.out, if_neg h1, decide_eq_false h2, Bool.false_and]; rfl)
    have CP := fun w => cutP_miss h2 w
    rw [show str whB = ⟨#[46, 119, 104, 46]⟩ from rfl] at CP
    clear h1 h2 HW
    go_enter Tryd.func11, Tryd.ntmps11
    go_wp2_with (go_at_call 29; obtain ⟨r, CQ⟩ := CP w; ((with_reducible refine CQ.mono ?_); rintro e w1 ⟨rfl, rfl⟩))
    go_ret3
    exact ⟨ret3w (by rw [HR.out]; rfl) (by rw [HR.out]) (by rw [HR.out]), Below.refl _ _⟩
theorem take_pre (s : List UInt8) : (s.take 4 = whB) ↔ whB <+: s := by
  constructor
  · intro h
    exact ⟨s.drop 4, by rw [← h, List.take_append_drop]⟩
  · rintro ⟨n, rfl⟩
    rfl
set_option maxRecDepth 100000 in
set_option maxHeartbeats 2000000 in
theorem rwhite_any (s : List UInt8) (hl : s.length ≤ 1000000) (w : World) :
    Calls Tryd.prog 12 #[.string (str s)] w fun e w' => e = .returned (.tuple #[.string (str (whiteL s).1), .bool (whiteL s).2.1, .bool (whiteL s).2.2]) ∧ ∃ k, w' = w.drewN k := by
  have q1 : ((str s).toList == [46, 119, 104, 46, 46, 119, 104, 46, 46, 111, 112, 113]) = decide (s = opqB) := eq_lit s opqB
  have HW := Lib.hid (show whiteL s = if s = opqB then ([], true, true) else if (decide (whB <+: s) && mayGoB (s.drop 4)) = true then (s.drop 4, false, true) else ([], false, false) from rfl)
  have zs := str_size s
  by_cases h1 : s = opqB
  · have HR := Lib.hid (show whiteL s = ([], true, true) by rw [HW.out, if_pos h1])
    rw [decide_eq_true h1] at q1
    clear h1
    go_enter Tryd.func12, Tryd.ntmps12
    go_wp2
    go_ret3
    exact ⟨ret3w (by rw [HR.out]; rfl) (by rw [HR.out]) (by rw [HR.out]), 0, rfl⟩
  rw [decide_eq_false h1] at q1
  by_cases h5 : s.length < 5
  · have HR := Lib.hid (show whiteL s = ([], false, false) by
      rw [HW.out, if_neg h1]
      by_cases h2 : whB <+: s
      · obtain ⟨n, rfl⟩ := h2
        have : n = [] := by
          rw [List.length_append] at h5
          cases n with
          | nil => rfl
          | cons a t => simp [whB] at h5; omega
        subst this
        rfl
      · rw [decide_eq_false h2, Bool.false_and]; rfl)
    have g1 : (s.length : Int) < 5 := by omega
    clear h1 h5 HW
    go_enter Tryd.func12, Tryd.ntmps12
    go_wp2
    go_ret3
    exact ⟨ret3w (by rw [HR.out]; rfl) (by rw [HR.out]) (by rw [HR.out]), 0, rfl⟩
  have g1 : ¬ ((s.length : Int) < 5) := by omega
  have c4 : (4 : Int) ≤ (s.length : Int) := by omega
  have s1 : ∀ W, (Instr.slice 9 (.string (str s)) none (some (.int .i64 4)) none).run Tryd.prog W = .ok (.string (str (s.take 4))) W := fun W => by
    have h := run_slice_string W 9 (str s) .i64 .i64 0 4 Tryd.underlying9 (by omega) (by omega) (by rw [zs]; omega)
    rw [← show (str s).extract 0 4 = str (s.take 4) by rw [extract_str]; rfl]
    exact h
  have q2 : ((str (s.take 4)).toList == [46, 119, 104, 46]) = decide (s.take 4 = whB) := eq_lit _ whB
  by_cases h2 : whB <+: s
  · rw [decide_eq_true ((take_pre s).2 h2)] at q2
    obtain ⟨n, hn⟩ := h2
    have hd : s.drop 4 = n := by rw [← hn]; rfl
    have s2 : ∀ W, (Instr.slice 9 (.string (str s)) (some (.int .i64 4)) none none).run Tryd.prog W = .ok (.string (str n)) W := fun W => by
      have h := run_slice_string_l (P := Tryd.prog) (w := W) (t := 9) (s := str s) Tryd.underlying9 .i64 4 (by omega) (by rw [zs]; omega)
      rw [show (4 : Int).toNat = 4 from rfl, show (str s).extract 4 (str s).size = str n by rw [extract_str, zs, List.take_length, hd]] at h
      exact h
    have zn := str_size n
    have q3 : ((str n).toList == [46]) = decide (n = [46]) := eq_lit n [46]
    have q4 : ((str n).toList == [46, 46]) = decide (n = [46, 46]) := eq_lit n [46, 46]
    have hne : n ≠ [] := by rintro rfl; rw [← hn] at h5; exact h5 (by decide)
    have HM := Lib.hid (show whiteL s = if mayGoB n = true then (n, false, true) else ([], false, false) by rw [HW.out, if_neg h1, hd, decide_eq_true ⟨n, hn⟩, Bool.true_and])
    have HMG := Lib.hid (show mayGoB n = (!decide (n = [46]) && (!decide (n = [46, 46]) && !decide (whB <+: n))) by unfold mayGoB; rw [decide_eq_false hne]; rfl)
    by_cases h6 : 3 < n.length
    · have g6 : (3 : Int) < (n.length : Int) := by omega
      have s3 : ∀ W, (Instr.slice 9 (.string (str n)) none (some (.int .i64 4)) none).run Tryd.prog W = .ok (.string (str (n.take 4))) W := fun W => by
        have h := run_slice_string W 9 (str n) .i64 .i64 0 4 Tryd.underlying9 (by omega) (by omega) (by rw [zn]; omega)
        rw [← show (str n).extract 0 4 = str (n.take 4) by rw [extract_str]; rfl]
        exact h
      have q5 : ((str (n.take 4)).toList == [46, 119, 104, 46]) = decide (whB <+: n) := by rw [show [46, 119, 104, 46] = whB from rfl, eq_lit, decide_eq_decide]; exact take_pre n
      clear h1 h5 h6 hn hd hne HW
      generalize decide (n = [46]) = b1 at *
      generalize decide (n = [46, 46]) = b2 at *
      generalize decide (whB <+: n) = b3 at *
      cases b1 <;> cases b2 <;> cases b3
      all_goals
        go_enter Tryd.func12, Tryd.ntmps12
        go_wp2
        go_ret3
        exact ⟨ret3w (by rw [HM.out, HMG.out]; rfl) (by rw [HM.out, HMG.out]; rfl) (by rw [HM.out, HMG.out]; rfl), 0, rfl⟩
    · have g6 : ¬ ((3 : Int) < (n.length : Int)) := by omega
      have hb3 : decide (whB <+: n) = false := decide_eq_false (by rintro ⟨t, rfl⟩; rw [List.length_append] at h6; simp [whB] at h6; omega)
      rw [hb3] at HMG
      clear h1 h5 h6 hn hd hne HW hb3
      generalize decide (n = [46]) = b1 at *
      generalize decide (n = [46, 46]) = b2 at *
      cases b1 <;> cases b2
      all_goals
        go_enter Tryd.func12, Tryd.ntmps12
        go_wp2
        go_ret3
        exact ⟨ret3w (by rw [HM.out, HMG.out]; rfl) (by rw [HM.out, HMG.out]; rfl) (by rw [HM.out, HMG.out]; rfl), 0, rfl⟩
  · have HR := Lib.hid (show whiteL s = ([], false, false) by rw [HW.out, if_neg h1, decide_eq_false h2, Bool.false_and]; rfl)
    rw [decide_eq_false (fun e => h2 ((take_pre s).1 e))] at q2
    clear h1 h2 h5 HW
    go_enter Tryd.func12, Tryd.ntmps12
    go_wp2
    go_ret3
    exact ⟨ret3w (by rw [HR.out]; rfl) (by rw [HR.out]) (by rw [HR.out]), 0, rfl⟩
end Go.Proofs.YtekfchlgkdgpdaaDoor
