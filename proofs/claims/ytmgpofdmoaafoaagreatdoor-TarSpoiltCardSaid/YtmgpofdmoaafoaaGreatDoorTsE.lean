/- Layer 15: the document's own small functions of tar. -/
import Derived.Test.YtmgpofdmoaafoaaGreatDoorTrU
namespace Go.Proofs.YtmgpofdmoaafoaaGreatDoor
open Go.RowKit

theorem zerosR_any (n : Nat) (hn : n ≤ 1000000) (w : World) : Calls Tryz.prog 16 #[.int .i64 (n : Int)] w fun e w' => e = .returned (.string (str (zerosL n))) ∧ Below w.heap.size w w' := by
  obtain ⟨i0, hi, hz0, hz1, hz2⟩ := info_parts info_u8
  go_enter Tryz.func16, Tryz.ntmps16
  go_wp2_with (first
    | (at_make; refine wpList_make_full _ rfl _ _ 30 rfl w.heap.size 5 i0 (.int .u8 0) 1 Tryz.underlying30 hi hz0 hz1 .i64 .i64 _ _ n rfl rfl rfl rfl (by rw [hz2]; omega) (by unfold maxLen; omega) (Nat.le_refl _) ?_; intro w0 hown0 hgrow0; have hcv := zeros_conv hown0; have B0 := Lib.hid ((Below.refl _ _).grown hgrow0 (Nat.le_refl _) (fun j hj => by cases hj)); clear hown0 hgrow0))
  go_ret
  exact ⟨rfl, B0.out⟩
theorem dig8 (d : Nat) (h : d < 8) : (⟨#[48, 49, 50, 51, 52, 53, 54, 55]⟩ : ByteArray).extract d (d + 1) = str [UInt8.ofNat (48 + d)] := by
  have : ∀ d : Fin 8, (⟨#[48, 49, 50, 51, 52, 53, 54, 55]⟩ : ByteArray).extract d.val (d.val + 1) = str [UInt8.ofNat (48 + d.val)] := by decide +kernel
  exact this ⟨d, h⟩
theorem dig10 (d : Nat) (h : d < 10) : (⟨#[48, 49, 50, 51, 52, 53, 54, 55, 56, 57]⟩ : ByteArray).extract d (d + 1) = str [UInt8.ofNat (48 + d)] := by
  have : ∀ d : Fin 10, (⟨#[48, 49, 50, 51, 52, 53, 54, 55, 56, 57]⟩ : ByteArray).extract d.val (d.val + 1) = str [UInt8.ofNat (48 + d.val)] := by decide +kernel
  exact this ⟨d, h⟩
set_option maxRecDepth 100000 in
set_option maxHeartbeats 4000000 in
theorem octal_any (n k : Nat) (hn : n ≤ 1000000000000) (hk : k ≤ 20) (w : World) : Calls Tryz.prog 35 #[.int .i64 (n : Int), .int .i64 ((k + 1 : Nat) : Int)] w fun e w' => e = .returned (.string (str (octD n k ++ [0]))) ∧ Below w.heap.size w w' := by
  have Z := zerosR_any 1 (by decide) w
  rw [show ((1 : Nat) : Int) = 1 from rfl] at Z
  obtain ⟨K, hK⟩ : ∃ K : Int, K = ((k + 1 : Nat) : Int) := ⟨_, rfl⟩
  have hK1 : K - 1 = (k : Int) := by omega
  have hK2 : K ≤ 21 := by omega
  have hK3 : 1 ≤ K := by omega
  rw [← hK]
  obtain ⟨R, hR⟩ : ∃ R, R = str (octD n k ++ [0]) := ⟨_, rfl⟩
  rw [← hR]
  have HR := Lib.hid hR
  clear hK hR
  go_enter Tryz.func35, Tryz.ntmps35
  go_upto_region 2 with (fail)
  go_loop [0, 5] (fun a o => ∃ (m : Nat) (t : Bs), m ≤ 1000000000000 ∧ t.length ≤ k ∧ a = .int .i64 (m : Int) ∧ o = .string (str t) ∧ Hid (octD n k = octD m (k - t.length) ++ t)) (fun _ o => k - (match o with | .string s => s.size | _ => 0))
  case atStart => exact ⟨n, [], hn, Nat.zero_le _, rfl, rfl, Lib.hid (by simp)⟩
  case round =>
    obtain ⟨m, t, hm, ht, rfl, rfl, hO⟩ := hrel
    have hz := str_size t
    have HD := Lib.hid (dig8 (m % 8) (Nat.mod_lt _ (by decide)))
    by_cases hlt : t.length < k
    · have HS : Hid (octD n k = octD (m / 8) (k - (t.length + 1)) ++ ([UInt8.ofNat (48 + m % 8)] ++ t)) := Lib.hid (by
        rw [hO.out, show k - t.length = (k - (t.length + 1)) + 1 by omega, octD, List.append_assoc])
      have g1 : ((str t).size : Int) < (k : Int) := by omega
      obtain ⟨D, hDe⟩ : ∃ D, D = str [UInt8.ofNat (48 + m % 8)] := ⟨_, rfl⟩
      obtain ⟨E, hEe⟩ : ∃ E, E = str ([UInt8.ofNat (48 + m % 8)] ++ t) := ⟨_, rfl⟩
      have z1 : D.size = 1 := by rw [hDe]; rfl
      have hd := HD.out
      rw [← hDe] at hd
      have ha : D ++ str t = E := by rw [hDe, hEe, str_append]
      have HE := Lib.hid hEe
      have zE : E.size = t.length + 1 := by rw [hEe, str_size]; simp
      clear hDe hEe HD hO
      generalize str t = S at *
      go_wp2
      go_round
      case rel => exact ⟨m / 8, [UInt8.ofNat (48 + m % 8)] ++ t, by omega, by simp; omega, by go_num, by rw [← HE.out], Lib.hid (by have := HS.out; simpa using this)⟩
      case measure => simp [zE, hz]; omega
    · have hke : k = t.length := by omega
      have e : octD n k = t := by rw [hO.out, hke, Nat.sub_self]; rfl
      have HR2 : Hid (R = str t ++ str (zerosL 1)) := Lib.hid (by rw [HR.out, e, str_append]; rfl)
      have zz : (str (zerosL 1)).size = 1 := by rw [str_size, zerosL_len]
      have g1 : ¬ ((str t).size : Int) < (k : Int) := by omega
      clear e hO HD HR
      generalize str (zerosL 1) = Z1 at *
      generalize str t = S at *
      go_wp2_with (first
        | (go_at_call 16; ((with_reducible refine Z.mono ?_); rintro e w1 ⟨rfl, hb⟩)))
      go_ret
      exact ⟨by rw [HR2.out]; rfl, hb⟩
theorem textR_any (s : Bs) (n : Nat) (hn : n ≤ 1000) (hs : s.length ≤ 1000000) (w : World) : Calls Tryz.prog 34 #[.string (str s), .int .i64 (n : Int)] w fun e w' => e = .returned (.string (str (padT s n))) ∧ Below w.heap.size w w' := by
  have hz := str_size s
  by_cases hl : s.length ≤ n
  · have HP : Hid (str (padT s n) = str s ++ str (zerosL (n - s.length))) := Lib.hid (by rw [padT, List.take_of_length_le hl, str_append])
    have Z := zerosR_any (n - s.length) (by omega) w
    rw [show ((n - s.length : Nat) : Int) = (n : Int) - (s.length : Int) by omega] at Z
    have zz : (str (zerosL (n - s.length))).size ≤ 1000 := by rw [str_size, zerosL_len]; omega
    have ex : (str s).extract 0 s.length = str s := by rw [extract_str, sl, List.drop_zero, List.take_length]
    have g1 : (s.length : Int) ≤ (n : Int) := by omega
    have g2 : min (n : Int) (s.length : Int) = (s.length : Int) := by omega
    generalize str (padT s n) = R at *
    generalize str (zerosL (n - s.length)) = Z1 at *
    generalize str s = S at *
    go_enter Tryz.func34, Tryz.ntmps34
    go_wp2_with (first
      | (go_at_call 16; ((with_reducible refine Z.mono ?_); rintro e w1 ⟨rfl, hb⟩)))
    go_ret
    exact ⟨by rw [HP.out]; rfl, hb⟩
  · have hlen : (s.take n).length = n := by rw [List.length_take]; omega
    have HP : Hid (str (padT s n) = str (s.take n) ++ str (zerosL 0)) := Lib.hid (by rw [padT, show n - s.length = 0 by omega, str_append])
    have Z := zerosR_any 0 (by omega) w
    rw [show ((0 : Nat) : Int) = 0 from rfl] at Z
    have zz : (str (zerosL 0)).size = 0 := by rw [str_size, zerosL_len]
    have ex : (str s).extract 0 n = str (s.take n) := by rw [extract_str, sl, List.drop_zero]
    have zt : (str (s.take n)).size = n := by rw [str_size, hlen]
    have g1 : (n : Int) < (s.length : Int) := by omega
    have g2 : min (n : Int) (s.length : Int) = (n : Int) := by omega
    generalize str (padT s n) = R at *
    generalize str (zerosL 0) = Z1 at *
    generalize str (s.take n) = T at *
    generalize str s = S at *
    go_enter Tryz.func34, Tryz.ntmps34
    go_wp2_with (first
      | (go_at_call 16; ((with_reducible refine Z.mono ?_); rintro e w1 ⟨rfl, hb⟩)))
    go_ret
    exact ⟨by rw [HP.out]; rfl, hb⟩
theorem fullR_any (s : Bs) (hs : s.length ≤ 1000000) (w : World) : Calls Tryz.prog 15 #[.string (str s)] w fun e w' => e = .returned (.string (str (fullT s))) ∧ Below w.heap.size w w' := by
  have hz := str_size s
  obtain ⟨m, hm⟩ : ∃ m, m = 512 * blocksN s.length - s.length := ⟨_, rfl⟩
  have hm5 : m ≤ 511 := by rw [hm]; unfold blocksN; omega
  have HP : Hid (str (fullT s) = str s ++ str (zerosL m)) := Lib.hid (by rw [fullT, ← hm, str_append])
  have Z := zerosR_any m (by omega) w
  have e1 : (s.length : Int).tmod 512 = (s.length : Int) % 512 := Int.tmod_eq_emod_of_nonneg (by omega)
  have e2 : (512 - (s.length : Int) % 512) % 512 = (m : Int) := by rw [hm]; unfold blocksN; omega
  have e3 : (512 - (s.length : Int) % 512).tmod 512 = (m : Int) := by rw [Int.tmod_eq_emod_of_nonneg (by omega)]; exact e2
  have zz : (str (zerosL m)).size ≤ 1000 := by rw [str_size, zerosL_len]; omega
  clear hm
  generalize str (fullT s) = R at *
  generalize str (zerosL m) = Z1 at *
  generalize str s = S at *
  go_enter Tryz.func15, Tryz.ntmps15
  go_wp2_with (first
    | (go_at_call 16; ((with_reducible refine Z.mono ?_); rintro e w1 ⟨rfl, hb⟩)))
  go_ret
  exact ⟨by rw [HP.out]; rfl, hb⟩
set_option maxRecDepth 100000 in
set_option maxHeartbeats 4000000 in
theorem rsum_any (s : Bs) (hs : s.length = 512) (w : World) :
    Calls Tryz.prog 7 #[.string (str s)] w fun e w' => e = .returned (.int .i64 ((sumH s : Nat) : Int)) ∧ w = w' := by
  have hz : (str s).size = 512 := by rw [str_size, hs]
  have HN := Lib.hid (fun (k : Nat) (h : k < 512) => sumK_next hs h)
  have HE := Lib.hid (sumK_end hs)
  have HLE := Lib.hid (fun k h => sumK_le s k h)
  have IS := Lib.hid (fun (i : Nat) (h : i < (str s).size) => idx_str (str s) i i rfl h)
  have HD := Lib.hid (fun (k : Nat) (h : k < (str s).size) => getD_data (str s) h)
  rw [str_toList] at IS HD
  have hzI : ((str s).size : Int) = 512 := by omega
  have H0 : sumK s 0 = 0 := rfl
  generalize str s = S at *
  go_enter Tryz.func7, Tryz.ntmps7
  go_wp2
  go_loop [3, 4] (fun n i => ∃ k : Nat, k ≤ 512 ∧ i = .int .i64 k ∧ n = .int .i64 ((sumK s k : Nat) : Int)) (fun _ i => 512 - (intOf i).toNat)
  case atStart => exact ⟨0, Nat.zero_le _, rfl, rfl⟩
  case round =>
    obtain ⟨k, hk, rfl, rfl⟩ := hrel
    have hle := HLE.out k hk
    by_cases hlt : k < 512
    · have i1 := IS.out k (by omega)
      have hN := Lib.hid (HN.out k hlt)
      have g1 : (k : Int) < 512 := by omega
      have hx := HD.out k (by omega)
      have hc8 := (s.getD k 0).toNat_lt
      obtain ⟨x, hxx⟩ : ∃ x, x = (s.getD k 0).toNat := ⟨_, rfl⟩
      have hx2 : (S.data[k]'(by simpa using (show k < S.size by omega))).toNat = x := by rw [hxx, hx]
      rw [← hxx] at hN i1 hc8
      clear hx hxx
      generalize sumK s k = v at *
      by_cases h1 : k < 148
      · have hM := Lib.hid (show sumK s (k + 1) = v + x by rw [hN.out, if_neg (by omega)])
        have g2 : (k : Int) < 148 := by omega
        clear hN IS HD HN H0 h1
        go_wp2
        go_round
        case rel => exact ⟨k + 1, by omega, by go_num, by rw [hM.out]; go_num⟩
        case measure => simp [intOf]; omega
      · have g2 : ¬ (k : Int) < 148 := by omega
        by_cases h2 : k < 156
        · have hM := Lib.hid (show sumK s (k + 1) = v + 32 by rw [hN.out, if_pos ⟨by omega, h2⟩])
          have g3 : (k : Int) < 156 := by omega
          clear hN IS HD HN H0 h1 h2
          go_wp2
          go_round
          case rel => exact ⟨k + 1, by omega, by go_num, by rw [hM.out]; go_num⟩
          case measure => simp [intOf]; omega
        · have hM := Lib.hid (show sumK s (k + 1) = v + x by rw [hN.out, if_neg (by omega)])
          have g3 : ¬ (k : Int) < 156 := by omega
          clear hN IS HD HN H0 h1 h2
          go_wp2
          go_round
          case rel => exact ⟨k + 1, by omega, by go_num, by rw [hM.out]; go_num⟩
          case measure => simp [intOf]; omega
    · obtain rfl : k = 512 := by omega
      rw [HE.out]
      clear IS HD HN hlt
      go_wp2
      go_ret
      exact ⟨rfl, rfl⟩

end Go.Proofs.YtmgpofdmoaafoaaGreatDoor
