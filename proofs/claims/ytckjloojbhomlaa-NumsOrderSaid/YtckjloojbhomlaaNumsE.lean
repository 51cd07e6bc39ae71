/- The contract of math/bits.Div64 (where its first part is less than what it is parted by), and of layer 1's Share, for every part and whole. -/
import Derived.Test.YtckjloojbhomlaaNumsD
import Derived.Test.YtckjloojbhomlaaShelf
import Derived.Test.YtckjloojbhomlaaNumsM
import Derived.Deep.QuietTactic
import Derived.BigQuiet
import Derived.Deep.CutBlock
import Derived.Deep.DeepCutAuto
namespace Go.Proofs.Ytckjloojbhomlaa
open Go.RowKit

set_option maxHeartbeats 1000000 in
theorem div64_none (lo y : Int) (w : World) (l0 : 0 ≤ lo) (l1 : lo ≤ 18446744073709551615) (y0 : 1 ≤ y) (y1 : y ≤ 18446744073709551615) :
    Calls Try.prog 25 #[.int .u64 0, .int .u64 lo, .int .u64 y] w fun e w' => e = .returned (.tuple #[.int .u64 (lo / y), .int .u64 (lo % y)]) ∧ ∃ n, w' = w.drewN n := by
  have n0 : (y == 0) = false := by simp; omega
  have n1 : decide (y ≤ 0) = false := by simp; omega
  go_enter Try.func25, Try.ntmps25
  go_wp2
  go_quiet (fail)
  go_wp2
  go_ret2
  exact ⟨rfl, _, rfl⟩

set_option maxHeartbeats 2000000 in
theorem div64_some (hi lo y s Y U L Y0 Y1 L0 L1 G : Int) (w : World) (h0 : 1 ≤ hi) (h1 : hi < y) (_l0 : 0 ≤ lo) (_l1 : lo ≤ 18446744073709551615) (y0 : 1 ≤ y) (_y1 : y ≤ 18446744073709551615) (s0 : 0 ≤ s) (s1 : s ≤ 63)
    (hs : ∀ w, Calls Try.prog 27 #[.int .u64 y] w fun e w' => e = .returned (.int .i64 s) ∧ w = w')
    (hY : IntKind.u64.wrap (y * 2 ^ s.toNat) = Y) (hU : bits .or .u64 (IntKind.u64.wrap (hi * 2 ^ s.toNat)) (lo / 2 ^ (64 - s).toNat) = U) (hL : IntKind.u64.wrap (lo * 2 ^ s.toNat) = L)
    (hY1 : Y / 4294967296 = Y1) (hY0 : bits .and .u64 Y 4294967295 = Y0) (hL1 : L / 4294967296 = L1) (hL0 : bits .and .u64 L 4294967295 = L0)
    (bY : 0 ≤ Y ∧ Y ≤ 18446744073709551615) (bL0 : 0 ≤ L0 ∧ L0 < 4294967296) (bU : 0 ≤ U ∧ U ≤ 18446744073709551615)
    (K : DigK U L1 Y1 Y0 Y) (hG : U / Y1 * Y1 = G) :
    Calls Try.prog 25 #[.int .u64 hi, .int .u64 lo, .int .u64 y] w fun e w' => (∃ q1 q0 r : Int, e = .returned (.tuple #[.int .u64 (q1 * 4294967296 + q0), .int .u64 r]) ∧ Dig U L1 Y q1 ∧ Dig (U * 4294967296 + L1 - q1 * Y) L0 Y q0) ∧ w = w' := by
  have n0 : (y == 0) = false := by simp; omega
  have n1 : (hi == 0) = false := by simp; omega
  have a1 := K.a1; have a2 := K.a2; have b1 := K.b1; have b2 := K.b2; have c1 := K.c1; have c2 := K.c2
  have gs := gue_start K
  have HG := Lib.hid hG
  obtain ⟨Q, hQ⟩ : ∃ Q, U / Y1 = Q := ⟨_, rfl⟩
  rw [hQ] at hG gs
  rw [hG] at gs
  have HS := Lib.hid gs
  obtain ⟨gs1, gs2, gs3, gs4, gs5, gs6⟩ := gs
  clear gs3 gs6
  have gG0 : 0 ≤ G := by rw [← hG]; exact Int.mul_nonneg gs1 (by omega)
  go_enter Try.func25, Try.ntmps25
  go_upto_block 0 with (go_at_call 27; ((with_reducible refine (hs _).mono ?_); rintro e w' ⟨rfl, rfl⟩))
  go_cut [15, 16] (fun a b wx => (∃ q r : Int, a = .int .u64 q ∧ b = .int .u64 r ∧ Dig U L1 Y q) ∧ w = wx)
  case first =>
    go_wp2_with fail
    have HQ := Lib.hid hQ
    clear hG hQ hU hL hY hY1 hY0 hL1 hL0
    go_loop [15, 16] (fun a b => ∃ q r : Int, a = .int .u64 q ∧ b = .int .u64 r ∧ Gue U L1 Y1 Y q r) (fun _ b => 4294967296 - (intOf b).toNat)
    case atStart => exact ⟨_, _, rfl, rfl, by rw [HQ.out]; exact HS.out⟩
    case round =>
      obtain ⟨q, r, rfl, rfl, g⟩ := hrel
      have q0 := g.1; have q1 := g.2.1; have r0 := g.2.2.2.1; have r1 := g.2.2.2.2.1
      by_cases ho : Over L1 Y0 q r
      · have o1 := (over_lt K g ho).1
        by_cases hr : r + Y1 < 4294967296
        · have HN := Lib.hid (gue_step K g ho hr)
          by_cases hq : 4294967296 ≤ q
          · clear ho g
            go_wp2
            go_round
            case rel => exact ⟨_, _, rfl, rfl, HN.out⟩
            case measure => simp [intOf]; omega
          · have p := gue_prod K g (by omega)
            have hc : 4294967296 * r + L1 < q * Y0 := by rcases ho with h | h; exact absurd h hq; exact h
            clear ho g
            go_wp2
            go_round
            case rel => exact ⟨_, _, rfl, rfl, HN.out⟩
            case measure => simp [intOf]; omega
        · have HN := Lib.hid (gue_left K g ho (by omega))
          by_cases hq : 4294967296 ≤ q
          · clear ho g
            go_wp2
            go_meet
            case rel => exact ⟨⟨_, _, rfl, rfl, HN.out⟩, rfl⟩
          · have p := gue_prod K g (by omega)
            have hc : 4294967296 * r + L1 < q * Y0 := by rcases ho with h | h; exact absurd h hq; exact h
            clear ho g
            go_wp2
            go_meet
            case rel => exact ⟨⟨_, _, rfl, rfl, HN.out⟩, rfl⟩
      · have hq : q < 4294967296 := by
          by_cases hq : q < 4294967296
          · exact hq
          · exact absurd (Or.inl (by omega)) ho
        have p := gue_prod K g (by omega)
        have HN := Lib.hid (gue_done K g ho)
        have hc : q * Y0 ≤ 4294967296 * r + L1 := by
          by_cases hc : q * Y0 ≤ 4294967296 * r + L1
          · exact hc
          · exact absurd (Or.inr (by omega)) ho
        clear ho g
        go_wp2
        go_meet
        case rel => exact ⟨⟨_, _, rfl, rfl, HN.out⟩, rfl⟩
  case rest =>
    obtain ⟨⟨q, r, rfl, rfl, D⟩, rfl⟩ := hcut
    have e21 := dig_rest D bY.2
    have D1 := D.1; have D2 := D.2.1; have D3 := D.2.2.1; have D4 := D.2.2.2
    obtain ⟨V, hV⟩ : ∃ V, V = U * 4294967296 + L1 - q * Y := ⟨_, rfl⟩
    rw [← hV] at e21
    have HV := Lib.hid hV
    have v0 : 0 ≤ V := by omega
    have v1 : V < Y := by omega
    have K2 : DigK V L0 Y1 Y0 Y := ⟨K.eY, a1, a2, b1, b2, bL0.1, bL0.2, v0, v1⟩
    clear D3 D4 hV
    have gs := gue_start K2
    clear HS HG
    obtain ⟨Q2, hQ2⟩ : ∃ Q, V / Y1 = Q := ⟨_, rfl⟩
    obtain ⟨G2, hG2⟩ : ∃ G, Q2 * Y1 = G := ⟨_, rfl⟩
    rw [hQ2, hG2] at gs
    have HS := Lib.hid gs
    obtain ⟨gt1, gt2, gt3, gt4, gt5, gt6⟩ := gs
    clear gt3 gt6
    have gG2 : 0 ≤ G2 := by rw [← hG2]; exact Int.mul_nonneg gt1 (by omega)
    clear hG hQ hU hL hY hY1 hY0 hL1 hL0
    go_upto_block 2 with fail
    go_cut [18, 16] (fun a b wx => (∃ q r : Int, a = .int .u64 q ∧ b = .int .u64 r ∧ Dig V L0 Y q) ∧ w = wx)
    case first =>
      go_wp2_with fail
      have HQ := Lib.hid hQ2
      clear hG2 hQ2 e21
      go_loop [18, 16] (fun a b => ∃ q r : Int, a = .int .u64 q ∧ b = .int .u64 r ∧ Gue V L0 Y1 Y q r) (fun _ b => 4294967296 - (intOf b).toNat)
      case atStart => exact ⟨_, _, rfl, rfl, by rw [HQ.out]; exact HS.out⟩
      case round =>
        obtain ⟨q, r, rfl, rfl, g⟩ := hrel
        have p0 := g.1; have p1 := g.2.1; have r0 := g.2.2.2.1; have r1 := g.2.2.2.2.1
        by_cases ho : Over L0 Y0 q r
        · have o1 := (over_lt K2 g ho).1
          by_cases hr : r + Y1 < 4294967296
          · have HN := Lib.hid (gue_step K2 g ho hr)
            by_cases hq : 4294967296 ≤ q
            · clear ho g
              go_wp2
              go_round
              case rel => exact ⟨_, _, rfl, rfl, HN.out⟩
              case measure => simp [intOf]; omega
            · have p := gue_prod K2 g (by omega)
              have hc : 4294967296 * r + L0 < q * Y0 := by rcases ho with h | h; exact absurd h hq; exact h
              clear ho g
              go_wp2
              go_round
              case rel => exact ⟨_, _, rfl, rfl, HN.out⟩
              case measure => simp [intOf]; omega
          · have HN := Lib.hid (gue_left K2 g ho (by omega))
            by_cases hq : 4294967296 ≤ q
            · clear ho g
              go_wp2
              go_meet
              case rel => exact ⟨⟨_, _, rfl, rfl, HN.out⟩, rfl⟩
            · have p := gue_prod K2 g (by omega)
              have hc : 4294967296 * r + L0 < q * Y0 := by rcases ho with h | h; exact absurd h hq; exact h
              clear ho g
              go_wp2
              go_meet
              case rel => exact ⟨⟨_, _, rfl, rfl, HN.out⟩, rfl⟩
        · have hq : q < 4294967296 := by
            by_cases hq : q < 4294967296
            · exact hq
            · exact absurd (Or.inl (by omega)) ho
          have p := gue_prod K2 g (by omega)
          have HN := Lib.hid (gue_done K2 g ho)
          have hc : q * Y0 ≤ 4294967296 * r + L0 := by
            by_cases hc : q * Y0 ≤ 4294967296 * r + L0
            · exact hc
            · exact absurd (Or.inr (by omega)) ho
          clear ho g
          go_wp2
          go_meet
          case rel => exact ⟨⟨_, _, rfl, rfl, HN.out⟩, rfl⟩
    case rest =>
      obtain ⟨⟨q2, r2, rfl, rfl, E⟩, rfl⟩ := hcut
      have E1 := E.1; have E2 := E.2.1
      go_wp2
      go_ret2
      exact ⟨⟨q, q2, _, rfl, D, by rw [← HV.out]; exact E⟩, rfl⟩

/-- math/bits.Div64, where the quotient can be told: it is, with whatever rest. -/
theorem div64_any (hi lo y : Nat) (w : World) (y0 : 0 < y) (y1 : y < 18446744073709551616) (h : hi < y) (l1 : lo < 18446744073709551616) :
    Calls Try.prog 25 #[.int .u64 hi, .int .u64 lo, .int .u64 y] w fun e w' => (∃ r : Int, e = .returned (.tuple #[.int .u64 (((hi : Int) * 18446744073709551616 + lo) / y), .int .u64 r])) ∧ ∃ n, w' = w.drewN n := by
  by_cases h0 : hi = 0
  · subst h0
    refine (div64_none lo y w (by omega) (by omega) (by omega) (by omega)).mono fun e w' ⟨he, hw⟩ => ⟨⟨(lo : Int) % y, ?_⟩, hw⟩
    rw [he]; simp
  · obtain ⟨s, Y, U, L, Y0, Y1, L0, L1, P, a1, a2, a3, a4, a5, a6, a7, a8, a9, a10, a11, a12, a13, a14, a15, a16, a17, a18⟩ := norm_int hi lo y y0 y1 h l1
    have hz : ∀ w, Calls Try.prog 27 #[.int .u64 (y : Int)] w fun e w' => e = .returned (.int .i64 s) ∧ w = w' := by
      intro w
      refine (Try.bits_LeadingZeros64 y w (by omega) (by omega)).mono fun e w' ⟨he, hw⟩ => ⟨?_, hw.symm⟩
      rw [he, ← a3]; rfl
    refine (div64_some hi lo y s Y U L Y0 Y1 L0 L1 _ w (by omega) (by omega) (by omega) (by omega) (by omega) (by omega) a1 a2 hz a4 a5 a6 a7 a8 a9 a10 a11 a12 a13 a14 rfl).mono ?_
    rintro e w' ⟨⟨q1, q0, r, he, d1, d0⟩, rfl⟩
    refine ⟨⟨r, ?_⟩, 0, rfl⟩
    rw [he, two_digits a15 (by omega) a16 a17 a18 d1 d0]

end Go.Proofs.Ytckjloojbhomlaa
