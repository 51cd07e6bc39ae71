/- Layer 14: PathsClean. -/
import Derived.Test.YtekfchlgkdgpdaaDoorPtW
namespace Go.Proofs.YtekfchlgkdgpdaaDoor
open Go.RowKit

set_option maxRecDepth 100000 in
set_option maxHeartbeats 4000000 in
theorem pclean_walk (a0 : ByteArray) (W : World) : Calls Tryd.prog 5 #[.string a0] W fun e w' => e = .returned (.bool true) ∧ Below W.heap.size W w' := by
  obtain ⟨p, rfl, hp⟩ := is_str a0
  clear hp
  have zp := str_size p
  have CX := fun w => cleaned_any w
  by_cases h1 : 400 < p.length
  · have g1 : (400 : Int) < (p.length : Int) := by omega
    go_enter Tryd.func5, Tryd.ntmps5
    go_wp2_with (go_at_call 8; with_reducible refine (CX _).mono ?_; rintro e w1 ⟨rfl, b1⟩)
    go_ret
    exact ⟨rfl, b1⟩
  have g1 : ¬ (400 : Int) < (p.length : Int) := by omega
  have C1 := fun w => clean_any p (by omega) w
  have K1 := fun w => isClean_any p (by omega) w
  have HSL := Lib.hid (clean_len p)
  have HN := Lib.hid (fun h => clean_none (s := p) h)
  have HSE := Lib.hid (fun h => clean_self (s := p) h)
  have HPP := Lib.hid (show cleanL p = ((cleanL p).1, (cleanL p).2) from rfl)
  have hpl : (p.length : Int) ≤ 400 := by omega
  clear h1
  generalize (cleanL p).1 = s at *
  generalize (cleanL p).2 = ec at *
  by_cases h3 : ec = 0
  · subst h3
    obtain ⟨l, _, hg, hs, hl⟩ := clean_some HPP.out
    obtain ⟨hcs, hcc⟩ := clean_clean HPP.out
    have hpb := parent_base hg
    rw [← hs] at hpb
    have hps := parent_le s
    have hbs := base_le s
    have C2 := fun w => clean_any s (by omega) w
    rw [hcc] at C2
    have K2 := fun w => isClean_any s (by omega) w
    rw [hcs] at K2
    have P1 := fun w => parent_any s (by omega) w
    have B1 := fun w => base_any s (by omega) w
    have J1 := fun w => join_any (parentL s) (baseL s) (by omega) (by omega) w
    rw [hpb] at J1
    have q1 : cleanB p = true → s = p := fun h => by
      have := HSE.out h
      rw [HPP.out] at this
      exact congrArg Prod.fst this
    have q2 : ((str s).toList == (str p).toList) = decide (s = p) := eq_strs s p
    have zs := str_size s
    have HG := Lib.hid hg
    have HS := Lib.hid hs
    have HL := Lib.hid hl
    have hsl : (s.length : Int) ≤ 200 := by omega
    have K3 : cleanB p = true → ((str s).toList == (str p).toList) = true := fun h => by rw [q2, decide_eq_true (q1 h)]
    have HK3 := Lib.hid K3
    clear hg hs hl hcs hcc hpb hps hbs q1 q2 HPP HSE HN K3 HSL
    generalize parentL s = pr at *
    generalize baseL s = bs at *
    generalize cleanB p = cb at *
    cases cb
    all_goals
      have k3 : Hid True ∨ ((str s).toList == (str p).toList) = true := by first | exact .inr (HK3.out rfl) | exact .inl (Lib.hid trivial)
      try (replace k3 := HK3.out rfl)
      clear HK3
      go_enter Tryd.func5, Tryd.ntmps5
      go_wp2_with (first
        | (go_at_call 9; with_reducible refine (C1 _).mono ?_; rintro e w1 ⟨rfl, b1⟩)
        | (go_at_call 9; with_reducible refine (C2 _).mono ?_; rintro e w2 ⟨rfl, b2⟩)
        | (go_at_call 21; with_reducible refine (K1 _).mono ?_; rintro e w3 ⟨rfl, rfl⟩)
        | (go_at_call 21; with_reducible refine (K2 _).mono ?_; rintro e w3 ⟨rfl, rfl⟩)
        | (go_at_call 13; with_reducible refine (P1 _).mono ?_; rintro e w4 ⟨rfl, b4⟩)
        | (go_at_call 15; with_reducible refine (B1 _).mono ?_; rintro e w5 ⟨rfl, b5⟩)
        | (go_at_call 17; with_reducible refine (J1 _).mono ?_; rintro e w6 ⟨rfl, b6⟩))
      have hB6 : Hid (Below W.heap.size W w6) := by
        have c2 := b1.trans (b2.mono b1.size)
        have c4 := c2.trans (b4.mono c2.size)
        have c5 := c4.trans (b5.mono c4.size)
        exact Lib.hid (c5.trans (b6.mono c5.size))
      clear b1 b2 b4 b5 b6 C1 C2 K1 K2 P1 B1 J1 k3
      go_loopw [7, 8] (fun u v wr => ∃ (k : Nat) (m t : List (List UInt8)), k ≤ 200 ∧ v = .int .i64 k ∧ u = .string (str (joinL m)) ∧ Hid (l = m ++ t) ∧ (joinL m).length + k ≤ 200 ∧ Hid (Below W.heap.size W wr)) (fun _ v _ => 200 - (intOf v).toNat)
      case atStart => exact ⟨0, l, [], Nat.zero_le _, rfl, by rw [← HS.out], Lib.hid (by rw [List.append_nil]), by rw [← HS.out]; exact HL.out, hB6⟩
      case round =>
        obtain ⟨k, m, t, hk, rfl, rfl, hmt, hml, hB⟩ := hrel
        clear hB6
        have hgm : Good (m ++ t) := by rw [← hmt.out]; exact HG.out
        by_cases hgo : k < 200 ∧ m ≠ []
        · obtain ⟨hlt, hne⟩ := hgo
          obtain ⟨m', x, rfl⟩ := split_end (List.length_pos_iff.2 hne)
          have hg1 : Good (m' ++ [x]) := fun y hy => hgm y (List.mem_append_left _ hy)
          have hg2 : Good (m' ++ ([x] ++ t)) := by rw [← List.append_assoc]; exact hgm
          have hsh := shorter hg1
          have hpar := (good_parent hg1).1
          have P1 := fun w => parent_any (joinL (m' ++ [x])) (by omega) w
          rw [hpar] at P1
          have I1 := fun w => inside_any (joinL (m' ++ [x])) s w
          rw [show insideB (joinL (m' ++ [x])) s = true by rw [HS.out, hmt.out]; exact inside_all hgm] at I1
          have I2 := fun w => inside_any (joinL m') (joinL (m' ++ [x])) w
          rw [inside_all hg1] at I2
          have K1 := fun w => isClean_any (joinL m') (by omega) w
          rw [cleanB_join (good_front hg1) (by omega)] at K1
          have qe : (str (joinL (m' ++ [x]))).toList.isEmpty = false := by rw [empty_lit, decide_eq_false (fun e => hne ((join_empty hg1).1 e))]
          have HMT := Lib.hid (show l = m' ++ ([x] ++ t) by rw [hmt.out, List.append_assoc])
          have z1 := str_size (joinL (m' ++ [x]))
          have z2 := str_size (joinL m')
          have g1 : (k : Int) < 200 := by omega
          clear hne hg1 hg2 hgm hpar hmt
          generalize joinL (m' ++ [x]) = up at *
          obtain ⟨nx, hnx⟩ : ∃ nx, nx = joinL m' := ⟨_, rfl⟩
          rw [← hnx] at P1 I2 K1 z2 hsh
          have HNX := Lib.hid hnx
          clear hnx
          have g2 : ¬ ((up.length : Int) ≤ (nx.length : Int)) := by omega
          go_wp2_with (first
            | (go_at_call 13; with_reducible refine (P1 _).mono ?_; rintro e w1 ⟨rfl, b1⟩)
            | (go_at_call 19; with_reducible refine (I1 _).mono ?_; rintro e w2 ⟨rfl, rfl⟩)
            | (go_at_call 19; with_reducible refine (I2 _).mono ?_; rintro e w3 ⟨rfl, rfl⟩)
            | (go_at_call 21; with_reducible refine (K1 _).mono ?_; rintro e w4 ⟨rfl, rfl⟩))
          go_roundw
          case rel => exact ⟨k + 1, m', [x] ++ t, by omega, by go_num, by rw [← HNX.out], HMT, by rw [← HNX.out]; omega, Lib.hid (hB.out.trans (b1.mono hB.out.size))⟩
          case measure => simp [intOf]; omega
        · have hup : joinL m = [] := by
            by_cases hlt : k < 200
            · have : m = [] := Classical.byContradiction fun h => hgo ⟨hlt, h⟩
              rw [this]; rfl
            · exact List.eq_nil_of_length_eq_zero (by omega)
          have qe : (str ([] : List UInt8)).toList.isEmpty = true := empty_lit []
          rw [hup]
          clear hgo hup
          by_cases hlt : k < 200
          all_goals
            go_wp2_with (go_at_call 8; with_reducible refine (CX _).mono ?_; rintro e w14 ⟨rfl, b14⟩)
            go_ret
            exact ⟨rfl, hB.out.trans (b14.mono hB.out.size)⟩
  · have hs := HN.out h3
    have hcb : cleanB p = false := by
      cases hc : cleanB p with
      | false => rfl
      | true =>
        have := HSE.out hc
        rw [HPP.out] at this
        exact absurd (congrArg Prod.snd this) h3
    rw [hcb] at K1
    subst hs
    have qe : (str []).toList.isEmpty = true := empty_lit []
    have q3 : (ec == 0) = false := beq_eq_false_iff_ne.2 h3
    clear h3 hcb HSE HPP HN HSL
    go_enter Tryd.func5, Tryd.ntmps5
    go_wp2_with (first
      | (go_at_call 9; with_reducible refine (C1 _).mono ?_; rintro e w1 ⟨rfl, b1⟩)
      | (go_at_call 21; with_reducible refine (K1 _).mono ?_; rintro e w3 ⟨rfl, rfl⟩)
      | (go_at_call 8; with_reducible refine (CX _).mono ?_; rintro e w14 ⟨rfl, b14⟩))
    go_ret
    exact ⟨rfl, b1.trans (b14.mono b1.size)⟩
end Go.Proofs.YtekfchlgkdgpdaaDoor
