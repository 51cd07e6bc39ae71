/- Layer 6: SectorsPlay, of whatever comes in. -/
import Derived.Test.YtikeobmcnpncjaaSedD
namespace Go.Proofs.Ytikeobmcnpncjaa
open Go.RowKit

set_option maxRecDepth 100000 in
set_option maxHeartbeats 2000000 in
theorem play_any (I : Impl) (n : Int) {x : Value} {l : List Act1} {w : World} (hn : -9223372036854775808 ≤ n ∧ n ≤ 9223372036854775807) (h : ActsAt w x l) :
    Calls Try.prog 3 #[.int .i64 n, x] w fun e w' => e = .returned (.bool true) ∧ Below w.heap.size w w' := by
  obtain ⟨ad, cap, rfl⟩ := acts_form h
  have CG : Calls Try.prog 7 #[.slice ad l.length cap, .int .i64 60] w fun e w' => e = .returned (.bool (greatB l 60)) ∧ w = w' := great_any h 60
  have CU := fun w' => spun_any I w'
  cases hg : greatB l 60
  · by_cases h1 : n < 8 ∨ 4096 < n
    · have CN := I.newNo n w h1
      have CR := fun w' => rnew_no n w' h1
      rw [hg] at CG
      have d1 : decide (40 < n ∧ n ≤ 4096) = false := decide_eq_false (by omega)
      clear hg h hn
      rcases h1 with h1 | h1
      · have d2 : decide (40 < n) = false := decide_eq_false (by omega)
        clear h1 d1
        go_enter Try.func3, Try.ntmps3
        go_wp2_with (first
          | (go_at_call 7; ((with_reducible refine (CG).mono ?_); rintro e w1 ⟨rfl, rfl⟩))
          | (go_at_call 9; ((with_reducible refine (CN).mono ?_); rintro e w1 ⟨rfl, b1⟩))
          | (go_at_call 10; ((with_reducible refine (CR _).mono ?_); rintro e w2 ⟨rfl, rfl⟩))
          | (go_at_call 8; ((with_reducible refine (CU _).mono ?_); rintro e w3 ⟨rfl, b3⟩)))
        go_ret
        exact ⟨rfl, b1.trans (b3.mono b1.size)⟩
      · have d2 : decide (40 < n) = true := decide_eq_true (by omega)
        have d3 : decide (n ≤ 4096) = false := decide_eq_false (by omega)
        clear h1 d1
        go_enter Try.func3, Try.ntmps3
        go_wp2_with (first
          | (go_at_call 7; ((with_reducible refine (CG).mono ?_); rintro e w1 ⟨rfl, rfl⟩))
          | (go_at_call 9; ((with_reducible refine (CN).mono ?_); rintro e w1 ⟨rfl, b1⟩))
          | (go_at_call 10; ((with_reducible refine (CR _).mono ?_); rintro e w2 ⟨rfl, rfl⟩))
          | (go_at_call 8; ((with_reducible refine (CU _).mono ?_); rintro e w3 ⟨rfl, b3⟩)))
        go_ret
        exact ⟨rfl, b1.trans (b3.mono b1.size)⟩
    · by_cases h2 : 40 < n
      · exact play_in I n (m := (8 + n % 33).toNat) hn h hg (by have := Int.emod_nonneg n (show (33 : Int) ≠ 0 by decide); omega) (by have := Int.emod_lt_of_pos n (show (0 : Int) < 33 by decide); omega) (.inl ⟨h2, by omega, by have := Int.emod_nonneg n (show (33 : Int) ≠ 0 by decide); omega⟩)
      · exact play_in I n (m := n.toNat) hn h hg (by omega) (by omega) (.inr ⟨by omega, by omega⟩)
  · rw [hg] at CG
    clear hg h
    go_enter Try.func3, Try.ntmps3
    go_wp2_with (first
      | (go_at_call 7; ((with_reducible refine (CG).mono ?_); rintro e w1 ⟨rfl, rfl⟩))
      | (go_at_call 8; ((with_reducible refine (CU _).mono ?_); rintro e w2 ⟨rfl, b2⟩)))
    go_ret
    exact ⟨rfl, b2⟩
end Go.Proofs.Ytikeobmcnpncjaa
