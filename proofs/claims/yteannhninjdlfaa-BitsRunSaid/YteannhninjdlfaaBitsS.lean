/- The walk of BitsRun. -/
import Derived.Test.YteannhninjdlfaaBitsR
namespace Go.Proofs.Yteannhninjdlfaa
open Go.RowKit

set_option maxRecDepth 100000 in
set_option maxHeartbeats 2000000 in
theorem runlaw_any (s : ByteArray) (f n : Int) (w : World) (hs : s.size ≤ 9223372036854775807) (f0 : 0 ≤ f) (f1 : f ≤ 255) (n0 : 0 ≤ n) (n1 : n ≤ 255) :
    Calls Try.prog 6 #[.string s, .int .u8 f, .int .u8 n] w fun e w' => e = .returned (.bool true) ∧ Below w.heap.size w w' := by
  have hb := Below.refl w.heap.size w
  by_cases hbig : 30 < s.size
  · go_enter Try.func6, Try.ntmps6
    go_wp2_with (go_at_call 7; ((with_reducible refine (shown_any _).mono ?_); rintro e w1 ⟨rfl, hb1⟩; replace hb := below_then hb hb1; clear hb1))
    go_ret
    exact ⟨rfl, hb⟩
  have hs1 : s.size ≤ 1000000 := by omega
  have hl : s.data.toList.length = s.size := by simp
  obtain ⟨g, rfl⟩ : ∃ g : Nat, f = g := ⟨f.toNat, by omega⟩
  obtain ⟨m, hm⟩ : ∃ m : Nat, 1 + n % 20 = (m : Int) := ⟨(1 + n % 20).toNat, by omega⟩
  have m1 : 1 ≤ m := by omega
  have m2 : m ≤ 20 := by omega
  have R := fun w => run_any s g m w hs1 (by omega) (by omega)
  have hR : runV s (g : Int) (m : Int) = runN s.data.toList g m := by unfold runV; rw [if_neg (by omega)]; simp
  have hI := runN_is s.data.toList g m
  rw [hR] at R
  clear hR
  obtain ⟨r, hr⟩ : ∃ r, r = runN s.data.toList g m := ⟨_, rfl⟩
  rw [← hr] at R hI
  clear hr
  have C := fun w => count_any s w hs1
  have hc := countN_le s.data.toList
  rw [hl] at hc
  have CHI := hI
  rcases hI with ⟨p, rfl, p1, p2, p3, p4⟩ | ⟨rfl, p4⟩
  · have hfirst := fun h => run_first CHI h
    have hclear := clearB_iff.1 p3
    have H := fun i (h1 : p ≤ i) (h2 : i < p + m) w => has_b s (i : Int) w (by omega)
    have p2' : p + m ≤ 8 * s.size := by rw [hl] at p2; exact p2
    have hcount := count_setAll (s := s) m p2' hclear
    have RN := fun w => run_any (setAll s p m) g m w (by rw [setAll_size]; exact hs1) (by omega) (by omega)
    have hRN : runV (setAll s p m) (g : Int) (m : Int) = runN (setAll s p m).data.toList g m := by unfold runV; rw [if_neg (by omega)]; simp
    rw [hRN] at RN
    clear hRN
    have hnext := run_next m1 CHI p2' (runN_is (setAll s p m).data.toList g m)
    have CN := fun w => count_any (setAll s p m) w (by rw [setAll_size]; exact hs1)
    rw [hcount] at CN
    have hnl : -1 ≤ runN (setAll s p m).data.toList g m ∧ runN (setAll s p m).data.toList g m ≤ 1000 := by
      rcases runN_is (setAll s p m).data.toList g m with ⟨q, hq, _, q2, _⟩ | ⟨hq, _⟩
      · have : (setAll s p m).data.toList.length = (setAll s p m).size := by simp
        rw [this, setAll_size] at q2
        omega
      · omega
    obtain ⟨nx, hnx⟩ : ∃ nx, nx = runN (setAll s p m).data.toList g m := ⟨_, rfl⟩
    rw [← hnx] at RN hnext hnl
    obtain ⟨c, hce⟩ : ∃ c : Nat, c = countN s.data.toList := ⟨_, rfl⟩
    rw [← hce] at C CN hc
    rw [show ((c + m : Nat) : Int) = (c : Int) + (m : Int) by omega] at CN
    have HR := Lib.hid RN
    have HCN := Lib.hid CN
    have Hclear := Lib.hid hclear
    have HH := Lib.hid H
    have Hfirst := Lib.hid hfirst
    have HS : Hid (setAll s p 0 = s) := Lib.hid rfl
    have PB := fun w => has_b s ((p : Int) - 1) w (by omega)
    have d1 : decide ((30 : Int) < (s.size : Int)) = false := decide_eq_false (by omega)
    have d2 : decide ((p : Int) < 0) = false := decide_eq_false (by omega)
    have d3 : decide (p < g) = false := decide_eq_false (by omega)
    have d4 : decide (8 * (s.size : Int) < (p : Int) + (m : Int)) = false := decide_eq_false (by omega)
    clear hnx hce RN CN hclear H hfirst hcount CHI p3 p4 p2 hl
    go_enter Try.func6, Try.ntmps6
    go_wp2_with (go_at_call 16; ((with_reducible refine (R _).mono ?_); rintro e w1 ⟨rfl, hb1⟩; replace hb := below_then hb hb1; clear hb1))
    go_loopw [10, 11] (fun t x wr => ∃ j : Nat, j ≤ m ∧ x = .int .i64 ((p : Int) + (j : Int)) ∧ t = .string (setAll s p j) ∧ Below w.heap.size w wr) (fun _ x _ => (p + m - (intOf x).toNat))
    case atStart => exact ⟨0, by omega, by go_num, by rw [HS.out], hb⟩
    case round =>
      clear hb R
      obtain ⟨j, hj, rfl, rfl, hb⟩ := hrel
      by_cases hlt : j < m
      · have A := HH.out (p + j) (by omega) (by omega)
        have hbit := Hclear.out (p + j) (by omega) (by omega)
        rw [hasV_nat, hbit, show ((p + j : Nat) : Int) = (p : Int) + (j : Int) by omega] at A
        have T := fun w => with_any (setAll s p j) ((p + j : Nat) : Int) true w (by rw [setAll_size]; exact hs1) (by omega)
        have hT := Lib.hid (show withV (setAll s p j) ((p + j : Nat) : Int) true = setAll s p (j + 1) from rfl)
        rw [hT.out, show ((p + j : Nat) : Int) = (p : Int) + (j : Int) by omega] at T
        obtain ⟨t1, ht1⟩ : ∃ t, t = setAll s p (j + 1) := ⟨_, rfl⟩
        rw [← ht1] at T
        have Ht1 := Lib.hid ht1
        clear ht1 hbit C PB
        go_wp2_with (first
          | (go_at_call 12; ((with_reducible refine (A _).mono ?_); rintro e w1 ⟨rfl, hb1⟩; replace hb := hb.trans (hb1.mono hb.size); clear hb1))
          | (go_at_call 14; ((with_reducible refine (T _).mono ?_); rintro e w1 ⟨rfl, hb1⟩; replace hb := hb.trans (hb1.mono hb.size); clear hb1)))
        go_roundw
        case rel => exact ⟨j + 1, by omega, by go_num, by rw [Ht1.out], hb⟩
        case measure => simp [intOf]; omega
      · obtain rfl : j = m := by omega
        have RN := HR.out
        have CN := HCN.out
        obtain ⟨t1, ht1⟩ : ∃ t, t = setAll s p j := ⟨_, rfl⟩
        rw [← ht1] at RN CN ⊢
        clear ht1
        by_cases hpg : p = g
        · subst hpg
          clear PB
          rcases hnext with rfl | hnext
          all_goals
            go_wp2_with (first
              | (go_at_call 16; ((with_reducible refine (RN _).mono ?_); rintro e w1 ⟨rfl, hb1⟩; replace hb := hb.trans (hb1.mono hb.size); clear hb1))
              | (go_at_call 18; ((with_reducible refine (CN _).mono ?_); rintro e w1 ⟨rfl, hb1⟩; replace hb := hb.trans (hb1.mono hb.size); clear hb1))
              | (go_at_call 18; ((with_reducible refine (C _).mono ?_); rintro e w1 ⟨rfl, hb1⟩; replace hb := hb.trans (hb1.mono hb.size); clear hb1))
              | (go_at_call 7; ((with_reducible refine (shown_any _).mono ?_); rintro e w1 ⟨rfl, hb1⟩; replace hb := hb.trans (hb1.mono hb.size); clear hb1)))
            go_ret
            exact ⟨by simp, hb⟩
        · obtain ⟨hgp, hbit⟩ := Hfirst.out hpg
          have hv : hasV s ((p : Int) - 1) = true := by
            rw [show (p : Int) - 1 = ((p - 1 : Nat) : Int) by omega, hasV_nat]; exact hbit
          rw [hv] at PB
          clear hv hbit
          rcases hnext with rfl | hnext
          all_goals
            go_wp2_with (first
              | (go_at_call 16; ((with_reducible refine (RN _).mono ?_); rintro e w1 ⟨rfl, hb1⟩; replace hb := hb.trans (hb1.mono hb.size); clear hb1))
              | (go_at_call 12; ((with_reducible refine (PB _).mono ?_); rintro e w1 ⟨rfl, hb1⟩; replace hb := hb.trans (hb1.mono hb.size); clear hb1))
              | (go_at_call 18; ((with_reducible refine (CN _).mono ?_); rintro e w1 ⟨rfl, hb1⟩; replace hb := hb.trans (hb1.mono hb.size); clear hb1))
              | (go_at_call 18; ((with_reducible refine (C _).mono ?_); rintro e w1 ⟨rfl, hb1⟩; replace hb := hb.trans (hb1.mono hb.size); clear hb1))
              | (go_at_call 7; ((with_reducible refine (shown_any _).mono ?_); rintro e w1 ⟨rfl, hb1⟩; replace hb := hb.trans (hb1.mono hb.size); clear hb1)))
            go_ret
            exact ⟨by simp, hb⟩
  · have why := fun h => run_none_why CHI h
    rw [hl] at why
    obtain ⟨c, hce⟩ : ∃ c : Nat, c = countN s.data.toList := ⟨_, rfl⟩
    rw [← hce] at C why hc
    clear hce CHI p4
    by_cases hroom : 8 * (s.size : Int) < (g : Int) + m
    all_goals
      have hwhy : 8 * (s.size : Int) < (g : Int) + m ∨ (0 : Int) < (c : Int) := by
        by_cases h : 8 * (s.size : Int) < (g : Int) + m
        · exact Or.inl h
        · have := why (by omega); omega
      clear why
    · clear hwhy
      go_enter Try.func6, Try.ntmps6
      go_wp2_with (first
        | (go_at_call 16; ((with_reducible refine (R _).mono ?_); rintro e w1 ⟨rfl, hb1⟩; replace hb := below_then hb hb1; clear hb1))
        | (go_at_call 7; ((with_reducible refine (shown_any _).mono ?_); rintro e w1 ⟨rfl, hb1⟩; replace hb := below_then hb hb1; clear hb1)))
      go_ret
      exact ⟨rfl, hb⟩
    · have hpos : decide (0 < c) = true := by rw [decide_eq_true_eq]; omega
      have hroom' : decide (8 * (s.size : Int) < (g : Int) + (m : Int)) = false := decide_eq_false hroom
      clear hwhy hroom
      go_enter Try.func6, Try.ntmps6
      go_wp2_with (first
        | (go_at_call 16; ((with_reducible refine (R _).mono ?_); rintro e w1 ⟨rfl, hb1⟩; replace hb := below_then hb hb1; clear hb1))
        | (go_at_call 18; ((with_reducible refine (C _).mono ?_); rintro e w1 ⟨rfl, hb1⟩; replace hb := below_then hb hb1; clear hb1))
        | (go_at_call 7; ((with_reducible refine (shown_any _).mono ?_); rintro e w1 ⟨rfl, hb1⟩; replace hb := below_then hb hb1; clear hb1)))
      go_ret
      exact ⟨rfl, hb⟩
end Go.Proofs.Yteannhninjdlfaa
