/- The walk of BitsNumber. -/
import Derived.Test.YteannhninjdlfaaBitsJ
namespace Go.Proofs.Yteannhninjdlfaa
open Go.RowKit

set_option maxHeartbeats 1000000 in
theorem number_any (n size : Int) (s : ByteArray) (w : World) (n0 : 0 ≤ n) (n1 : n < 18446744073709551616) (z1 : size ≤ 9223372036854775807) (hs : s.size ≤ 9223372036854775807) :
    Calls Try.prog 3 #[.int .u64 n, .int .i64 size, .string s] w fun e w' => e = .returned (.bool true) ∧ Below w.heap.size w w' := by
  have hb := Below.refl w.heap.size w
  have P := fun k (hk : k ≤ 9223372036854775807) w => put_any n k w n0 n1 hk
  have R := fun k (hk : k ≤ 9223372036854775807) w => rput_any n k w n0 n1 hk
  by_cases hbig : 200 < s.size
  · clear n0 n1 P R
    go_enter Try.func3, Try.ntmps3
    go_wp2_with (go_at_call 7; ((with_reducible refine (shown_any _).mono ?_); rintro e w1 ⟨rfl, hb1⟩; replace hb := below_then hb hb1; clear hb1))
    go_ret
    exact ⟨rfl, hb⟩
  have G := fun w => get_any s w (by omega)
  have Q := fun w => rget_any s w (by omega)
  have PS := P size z1
  have RS := R size z1
  obtain ⟨g, hg⟩ : ∃ g : Nat, g = getN s.data.toList := ⟨_, rfl⟩
  obtain ⟨t, ht⟩ : ∃ t, t = putV n.toNat size := ⟨_, rfl⟩
  rw [← hg] at G Q
  rw [← ht] at PS RS
  clear hg ht n0 n1
  have HP := Lib.hid P
  have HR := Lib.hid R
  clear P R
  go_enter Try.func3, Try.ntmps3
  go_wp2
  go_loopw [7] (fun i wr => ∃ k : Int, -1 ≤ k ∧ k ≤ 10 ∧ i = .int .i64 k ∧ Below w.heap.size w wr) (fun i _ => (10 - intOf i).toNat)
  case atStart => exact ⟨-1, by omega, by omega, rfl, hb⟩
  case round =>
    obtain ⟨k, hk0, hk1, rfl, hb⟩ := hrel
    by_cases hlt : k < 10
    · have Pk := HP.out k (by omega)
      have Rk := HR.out k (by omega)
      obtain ⟨u, hu⟩ : ∃ u, u = putV n.toNat k := ⟨_, rfl⟩
      rw [← hu] at Pk Rk
      clear hu
      go_wp2_with (first
        | (go_at_call 8; ((with_reducible refine (Pk _).mono ?_); rintro e w1 ⟨rfl, hb1⟩; replace hb := hb.trans (hb1.mono hb.size); clear hb1))
        | (go_at_call 9; ((with_reducible refine (Rk _).mono ?_); rintro e w1 ⟨rfl, hb1⟩; replace hb := hb.trans (hb1.mono hb.size); clear hb1)))
      go_roundw
      case rel => exact ⟨k + 1, by omega, by omega, rfl, hb⟩
      case measure => simp [intOf]; omega
    · go_wp2_with (first
        | (go_at_call 8; ((with_reducible refine (PS _).mono ?_); rintro e w1 ⟨rfl, hb1⟩; replace hb := hb.trans (hb1.mono hb.size); clear hb1))
        | (go_at_call 9; ((with_reducible refine (RS _).mono ?_); rintro e w1 ⟨rfl, hb1⟩; replace hb := hb.trans (hb1.mono hb.size); clear hb1))
        | (go_at_call 10; ((with_reducible refine (G _).mono ?_); rintro e w1 ⟨rfl, rfl⟩))
        | (go_at_call 11; ((with_reducible refine (Q _).mono ?_); rintro e w1 ⟨rfl, rfl⟩))
        | (go_at_call 7; ((with_reducible refine (shown_any _).mono ?_); rintro e w1 ⟨rfl, hb1⟩; replace hb := hb.trans (hb1.mono hb.size); clear hb1)))
      go_ret
      exact ⟨rfl, hb⟩
end Go.Proofs.Yteannhninjdlfaa
