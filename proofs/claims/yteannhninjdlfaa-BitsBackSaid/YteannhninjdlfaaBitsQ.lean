/- The walk of BitsBack. -/
import Derived.Test.YteannhninjdlfaaBitsP
namespace Go.Proofs.Yteannhninjdlfaa
open Go.RowKit

set_option maxRecDepth 100000 in
set_option maxHeartbeats 2000000 in
theorem back_any (n : Int) (s : ByteArray) (i : Int) (w : World) (n0 : 0 ≤ n) (n1 : n < 18446744073709551616) (hs : s.size ≤ 9223372036854775807) (i0 : 0 ≤ i) (i1 : i ≤ 65535) :
    Calls Try.prog 5 #[.int .u64 n, .string s, .int .u16 i] w fun e w' => e = .returned (.bool true) ∧ Below w.heap.size w w' := by
  have hb := Below.refl w.heap.size w
  have P8 := fun w => put_any n 8 w n0 n1 (by omega)
  have P3 := fun w => put_any n 3 w n0 n1 (by omega)
  have G8 := fun w => get_any (putV n.toNat 8) w (putV_size _ _)
  have G3 := fun w => get_any (putV n.toNat 3) w (putV_size _ _)
  rw [put8 n n0 n1] at G8
  rw [put3 n n0 n1] at G3
  obtain ⟨T8, hT8⟩ : ∃ T, T = putV n.toNat 8 := ⟨_, rfl⟩
  obtain ⟨T3, hT3⟩ : ∃ T, T = putV n.toNat 3 := ⟨_, rfl⟩
  rw [← hT8] at P8 G8
  rw [← hT3] at P3 G3
  clear hT8 hT3 n0 n1
  by_cases hbig : 60 < s.size
  · clear P8 P3 G8 G3
    go_enter Try.func5, Try.ntmps5
    go_wp2_with (go_at_call 7; ((with_reducible refine (shown_any _).mono ?_); rintro e w1 ⟨rfl, hb1⟩; replace hb := below_then hb hb1; clear hb1))
    go_ret
    exact ⟨rfl, hb⟩
  have hs1 : s.size ≤ 1000000 := by omega
  obtain ⟨K, hK⟩ : ∃ K, K = i % 500 := ⟨_, rfl⟩
  have k0 : 0 ≤ K := by omega
  have k1 : K < 500 := by omega
  replace hK := hK.symm
  have W1 := fun w => with_any s K true w hs1 (by omega)
  have W0 := fun w => with_any s K false w hs1 (by omega)
  by_cases hin : inT s K = true
  · obtain ⟨_, hin2⟩ := inT_iff.1 hin
    have hk8 : K < 8 * (s.size : Int) := by omega
    have A1 := fun j (h : 0 ≤ j) => hasV_withV (j := j) true hin h
    have A0 := fun j (h : 0 ≤ j) => hasV_withV (j := j) false hin h
    have C1 := fun w => count_any (withV s K true) w (by rw [withV_size]; exact hs1)
    have C0 := fun w => count_any (withV s K false) w (by rw [withV_size]; exact hs1)
    have hc0 := countN_le (withV s K false).data.toList
    rw [count_withV hin] at C1
    have hz : (withV s K false).data.toList.length = s.size := by
      have : (withV s K false).data.toList.length = (withV s K false).size := by simp
      rw [this, withV_size]
    rw [hz] at hc0
    clear hz
    have WB := fun w => with_any (withV s K true) K (hasV s K) w (by rw [withV_size]; exact hs1) (by omega)
    rw [withV_same true hin] at WB
    have B := fun w => has_b s K w (by omega)
    obtain ⟨c, hc⟩ : ∃ c : Nat, c = countN (withV s K false).data.toList := ⟨_, rfl⟩
    rw [← hc] at C0 C1 hc0
    rw [show ((c + 1 : Nat) : Int) = (c : Int) + 1 by omega] at C1
    obtain ⟨t1, ht1⟩ : ∃ t, t = withV s K true := ⟨_, rfl⟩
    obtain ⟨t0, ht0⟩ : ∃ t, t = withV s K false := ⟨_, rfl⟩
    obtain ⟨bk, hbk⟩ : ∃ b, b = hasV s K := ⟨_, rfl⟩
    rw [← ht1] at W1 A1 C1 WB
    rw [← ht0] at W0 A0 C0
    rw [← hbk] at WB B
    clear hc ht1 ht0 hin hin2 hbk
    have HA1 := Lib.hid A1
    have HA0 := Lib.hid A0
    clear A1 A0
    go_enter Try.func5, Try.ntmps5
    go_wp2_with (first
      | (go_at_call 8; ((with_reducible refine (P8 _).mono ?_); rintro e w1 ⟨rfl, hb1⟩; replace hb := hb.trans (hb1.mono hb.size); clear hb1))
      | (go_at_call 8; ((with_reducible refine (P3 _).mono ?_); rintro e w1 ⟨rfl, hb1⟩; replace hb := hb.trans (hb1.mono hb.size); clear hb1))
      | (go_at_call 10; ((with_reducible refine (G8 _).mono ?_); rintro e w1 ⟨rfl, rfl⟩))
      | (go_at_call 10; ((with_reducible refine (G3 _).mono ?_); rintro e w1 ⟨rfl, rfl⟩))
      | (go_at_call 14; ((with_reducible refine (W1 _).mono ?_); rintro e w1 ⟨rfl, hb1⟩; replace hb := hb.trans (hb1.mono hb.size); clear hb1))
      | (go_at_call 14; ((with_reducible refine (W0 _).mono ?_); rintro e w1 ⟨rfl, hb1⟩; replace hb := hb.trans (hb1.mono hb.size); clear hb1))
      | (go_at_call 7; ((with_reducible refine (shown_any _).mono ?_); rintro e w1 ⟨rfl, hb1⟩; replace hb := hb.trans (hb1.mono hb.size); clear hb1)))
    go_loopw [10] (fun x wr => ∃ j : Int, 0 ≤ j ∧ j ≤ 8 * (s.size : Int) ∧ x = .int .i64 j ∧ Below w.heap.size w wr) (fun x _ => (8 * (s.size : Int) - intOf x).toNat)
    case atStart => exact ⟨0, by omega, by omega, rfl, hb⟩
    case round =>
      clear hb
      obtain ⟨j, hj0, hj1, rfl, hb⟩ := hrel
      clear P8 P3 G8 G3 W1 W0
      by_cases hlt : j < 8 * (s.size : Int)
      · clear WB B C1 C0
        have h1 := HA1.out j hj0
        have h0 := HA0.out j hj0
        have D1 := fun w => has_b t1 j w (by omega)
        have D0 := fun w => has_b t0 j w (by omega)
        have DS := fun w => has_b s j w (by omega)
        rw [h1] at D1
        rw [h0] at D0
        clear h1 h0
        obtain ⟨b, hb0⟩ : ∃ b, b = hasV s j := ⟨_, rfl⟩
        rw [← hb0] at D1 D0 DS
        clear hb0
        by_cases hjk : j = K
        · rw [if_pos hjk] at D1 D0
          have q1 : (j == K) = true := beq_iff_eq.2 hjk
          have q2 : (j != K) = false := by rw [bne_eq_false_iff_eq]; exact hjk
          clear hjk
          cases b
          all_goals
            go_wp2_with (first
              | (go_at_call 12; ((with_reducible refine (D1 _).mono ?_); rintro e w1 ⟨rfl, hb1⟩; replace hb := hb.trans (hb1.mono hb.size); clear hb1))
              | (go_at_call 12; ((with_reducible refine (D0 _).mono ?_); rintro e w1 ⟨rfl, hb1⟩; replace hb := hb.trans (hb1.mono hb.size); clear hb1))
              | (go_at_call 12; ((with_reducible refine (DS _).mono ?_); rintro e w1 ⟨rfl, hb1⟩; replace hb := hb.trans (hb1.mono hb.size); clear hb1)))
            go_roundw
            case rel => exact ⟨j + 1, by omega, by omega, rfl, hb⟩
            case measure => simp [intOf]; omega
        · rw [if_neg hjk] at D1 D0
          have q1 : (j == K) = false := beq_eq_false_iff_ne.2 hjk
          have q2 : (j != K) = true := by rw [bne_iff_ne]; exact hjk
          clear hjk
          cases b
          all_goals
            go_wp2_with (first
              | (go_at_call 12; ((with_reducible refine (D1 _).mono ?_); rintro e w1 ⟨rfl, hb1⟩; replace hb := hb.trans (hb1.mono hb.size); clear hb1))
              | (go_at_call 12; ((with_reducible refine (D0 _).mono ?_); rintro e w1 ⟨rfl, hb1⟩; replace hb := hb.trans (hb1.mono hb.size); clear hb1))
              | (go_at_call 12; ((with_reducible refine (DS _).mono ?_); rintro e w1 ⟨rfl, hb1⟩; replace hb := hb.trans (hb1.mono hb.size); clear hb1)))
            go_roundw
            case rel => exact ⟨j + 1, by omega, by omega, rfl, hb⟩
            case measure => simp [intOf]; omega
      · clear HA1 HA0
        go_wp2_with (first
          | (go_at_call 18; ((with_reducible refine (C1 _).mono ?_); rintro e w1 ⟨rfl, hb1⟩; replace hb := hb.trans (hb1.mono hb.size); clear hb1))
          | (go_at_call 18; ((with_reducible refine (C0 _).mono ?_); rintro e w1 ⟨rfl, hb1⟩; replace hb := hb.trans (hb1.mono hb.size); clear hb1))
          | (go_at_call 12; ((with_reducible refine (B _).mono ?_); rintro e w1 ⟨rfl, hb1⟩; replace hb := hb.trans (hb1.mono hb.size); clear hb1))
          | (go_at_call 14; ((with_reducible refine (WB _).mono ?_); rintro e w1 ⟨rfl, hb1⟩; replace hb := hb.trans (hb1.mono hb.size); clear hb1))
          | (go_at_call 7; ((with_reducible refine (shown_any _).mono ?_); rintro e w1 ⟨rfl, hb1⟩; replace hb := hb.trans (hb1.mono hb.size); clear hb1)))
        go_ret
        exact ⟨rfl, hb⟩
  · have hout : inT s K = false := by simpa using hin
    have hk8 : 8 * (s.size : Int) ≤ K := by have := mt inT_iff.2 hin; omega
    rw [withV_out _ hout] at W1 W0
    clear hin hout
    go_enter Try.func5, Try.ntmps5
    go_wp2_with (first
      | (go_at_call 8; ((with_reducible refine (P8 _).mono ?_); rintro e w1 ⟨rfl, hb1⟩; replace hb := hb.trans (hb1.mono hb.size); clear hb1))
      | (go_at_call 8; ((with_reducible refine (P3 _).mono ?_); rintro e w1 ⟨rfl, hb1⟩; replace hb := hb.trans (hb1.mono hb.size); clear hb1))
      | (go_at_call 10; ((with_reducible refine (G8 _).mono ?_); rintro e w1 ⟨rfl, rfl⟩))
      | (go_at_call 10; ((with_reducible refine (G3 _).mono ?_); rintro e w1 ⟨rfl, rfl⟩))
      | (go_at_call 14; ((with_reducible refine (W1 _).mono ?_); rintro e w1 ⟨rfl, hb1⟩; replace hb := hb.trans (hb1.mono hb.size); clear hb1))
      | (go_at_call 14; ((with_reducible refine (W0 _).mono ?_); rintro e w1 ⟨rfl, hb1⟩; replace hb := hb.trans (hb1.mono hb.size); clear hb1))
      | (go_at_call 7; ((with_reducible refine (shown_any _).mono ?_); rintro e w1 ⟨rfl, hb1⟩; replace hb := hb.trans (hb1.mono hb.size); clear hb1)))
    go_ret
    exact ⟨rfl, hb⟩
end Go.Proofs.Yteannhninjdlfaa
