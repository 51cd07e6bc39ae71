/- Layer 15: the program's small functions: numbers, fields, sums. -/
import Derived.BigQuiet
import Derived.LoopTactic
import Derived.StillTailTactics
import Derived.Test.YtmgpofdmoaafoaaGreatDoorRow
import Derived.Test.YtmgpofdmoaafoaaGreatDoorChg
import Derived.Test.YtmgpofdmoaafoaaGreatDoorTrO
namespace Go.Proofs.YtmgpofdmoaafoaaGreatDoor
open Go.RowKit

theorem getD_data (s : ByteArray) {k : Nat} (h : k < s.size) : s.data.toList.getD k 0 = s.data[k]'(by simpa using h) := by
  rw [List.getD_eq_getElem?_getD, List.getElem?_eq_getElem (by simpa using h)]
  simp
theorem list_len (s : ByteArray) : s.data.toList.length = s.size := by simp
theorem eq_lit (h l : List UInt8) : ((str h).toList == l) = decide (h = l) := by
  unfold str
  rw [ByteArray.toList_mk, Bool.eq_iff_iff, beq_iff_eq, decide_eq_true_eq]
theorem empty_lit (h : List UInt8) : (str h).toList.isEmpty = decide (h = []) := by
  have := eq_lit h []
  rw [← this]
  cases (str h).toList <;> rfl
theorem empty_any (s : ByteArray) : s.toList.isEmpty = decide (s.data.toList = []) := empty_lit s.data.toList
theorem retIB {n n' : Int} {b b' : Bool} (h : n = n') (h' : b = b') : Ending.returned (.tuple #[.int .i64 n, .bool b]) = .returned (.tuple #[.int .i64 n', .bool b']) := by rw [h, h']
theorem retB {b b' : Bool} (h : b = b') : Ending.returned (.bool b) = .returned (.bool b') := by rw [h]
set_option maxHeartbeats 400000 in
theorem blocks_any (n : Nat) (w : World) (h : n ≤ 1099511627776) :
    Calls Tryz.prog 56 #[.int .i64 (n : Int)] w fun e w' => e = .returned (.int .i64 ((blocksN n : Nat) : Int)) ∧ w = w' := by
  have HE := Lib.hid (show 1 ≤ n → ((n : Int) - 1) / 512 + 1 = ((blocksN n : Nat) : Int) from fun h => by unfold blocksN; omega)
  by_cases h0 : n = 0
  · subst h0
    have hlt : ((0 : Nat) : Int) < 1 := by omega
    go_enter Tryz.func56, Tryz.ntmps56
    go_wp2
    go_ret
    exact ⟨rfl, rfl⟩
  · have h1 : (1 : Int) ≤ (n : Int) := by omega
    have h2 : (n : Int) ≤ 1099511627776 := by omega
    have HE2 := Lib.hid (HE.out (by omega))
    clear h0 HE h
    go_enter Tryz.func56, Tryz.ntmps56
    go_wp2
    go_ret
    exact ⟨retInt HE2.out, rfl⟩
set_option maxHeartbeats 400000 in
theorem whole_any (n : Nat) (w : World) (h : n ≤ 1099511627776) :
    Calls Tryz.prog 36 #[.int .i64 (n : Int)] w fun e w' => e = .returned (.int .i64 ((512 * blocksN n : Nat) : Int)) ∧ w = w' := by
  have C := fun w => blocks_any n w h
  have hb : blocksN n ≤ 2147483649 := by unfold blocksN; omega
  generalize blocksN n = m at *
  go_enter Tryz.func36, Tryz.ntmps36
  go_wp2_with (go_at_call 56; ((with_reducible refine (C _).mono ?_); rintro e w1 ⟨rfl, rfl⟩))
  go_ret
  exact ⟨retInt (by omega), rfl⟩
set_option maxRecDepth 100000 in
set_option maxHeartbeats 4000000 in
theorem number_any (S : ByteArray) (b : Nat) (hb : b = 8 ∨ b = 10) (hs : S.size ≤ 1099511627776) (w : World) :
    Calls Tryz.prog 61 #[.string S, .int .i64 (b : Int)] w fun e w' => e = .returned (.tuple #[.int .i64 (((numP b S.data.toList).getD 0 : Nat) : Int), .bool (numP b S.data.toList).isSome]) ∧ w = w' := by
  have HL := Lib.hid (list_len S)
  have IS := Lib.hid (fun (i : Nat) (h : i < S.size) => idx_str S i i rfl h)
  have qe := empty_any S
  have HB := Lib.hid (show 1 ≤ b by omega)
  have HD := Lib.hid (fun c : UInt8 => isDig_iff b c)
  have hbI : (b : Int) = 8 ∨ (b : Int) = 10 := by omega
  go_enter Tryz.func61, Tryz.ntmps61
  go_wp2
  go_loop [4, 10] (fun n i => ∃ k : Nat, k ≤ S.size ∧ i = .int .i64 k ∧ n = .int .i64 ((valD b (S.data.toList.take k) : Nat) : Int) ∧ Hid (OkD b S.data.toList k)) (fun _ i => S.size - (intOf i).toNat)
  case atStart => exact ⟨0, Nat.zero_le _, rfl, rfl, Lib.hid (okD_zero _ _)⟩
  case round =>
    obtain ⟨k, hk, rfl, rfl, hO⟩ := hrel
    by_cases hlt : k < S.size
    · have g1 : (k : Int) < (S.size : Int) := by omega
      have i1 := IS.out k hlt
      have hkl : k < S.data.toList.length := by rw [HL.out]; exact hlt
      have HV := Lib.hid (okD_val (b := b) hkl)
      have HX := Lib.hid (okD_bad (b := b) hkl)
      have HN := Lib.hid (okD_next hkl hO.out)
      have HG := Lib.hid (okD_big (b := b) HB.out (s := S.data.toList) (k := k))
      have hv : valD b (S.data.toList.take k) < 1099511627776 := hO.out.2
      have hd := HD.out (S.data.toList.getD k 0)
      have hx : (S.data[k]'(by simpa using hlt)).toNat = (S.data.toList.getD k 0).toNat := by rw [getD_data S hlt]
      obtain ⟨c, hc⟩ : ∃ c, c = S.data.toList.getD k 0 := ⟨_, rfl⟩
      rw [← hc] at HV HX HN hd hx i1
      have hc8 := c.toNat_lt
      generalize valD b (S.data.toList.take k) = v at *
      obtain ⟨x, hxx⟩ : ∃ x, x = c.toNat := ⟨_, rfl⟩
      rw [← hxx] at HV hd hx hc8 i1
      clear hc hkl qe IS
      by_cases h1 : x < 48
      · have HR := Lib.hid (HX.out (by rw [Bool.eq_false_iff]; intro h; have := hd.1 h; omega))
        have g2 : (x : Int) < 48 := by omega
        clear HX HN HG HV hd hO
        go_wp2
        go_ret2
        exact ⟨by rw [HR.out]; rfl, rfl⟩
      · by_cases h2 : 48 + b ≤ x
        · have HR := Lib.hid (HX.out (by rw [Bool.eq_false_iff]; intro h; have := hd.1 h; omega))
          have g2 : ¬ (x : Int) - 48 < 0 := by omega
          have g3 : (b : Int) ≤ (x : Int) - 48 := by omega
          clear HX HN HG HV hd hO h1 h2 hbI
          go_wp2
          go_ret2
          exact ⟨by rw [HR.out]; rfl, rfl⟩
        · have g2 : ¬ (x : Int) - 48 < 0 := by omega
          have g3 : ¬ (b : Int) ≤ (x : Int) - 48 := by omega
          have g4 : (0 : Int) ≤ (v : Int) * (b : Int) ∧ (v : Int) * (b : Int) ≤ 10995116277760 := by rcases hbI with h | h <;> rw [h] <;> omega
          obtain ⟨m, hm⟩ : ∃ m : Nat, (m : Int) = (v : Int) * (b : Int) := ⟨v * b, by push_cast; rfl⟩
          have HM := Lib.hid (show m = v * b from Int.ofNat_inj.1 (by rw [hm]; push_cast; rfl))
          have HD2 := Lib.hid (hd.2 ⟨by omega, by omega⟩)
          obtain ⟨g5, g6⟩ := g4
          rw [← hm] at g5 g6
          by_cases h3 : 1099511627776 ≤ m + (x - 48)
          · have HR := Lib.hid (HG.out (by rw [HV.out, ← HM.out]; exact h3))
            have g7 : (1099511627775 : Int) < (m : Int) + ((x : Int) - 48) := by omega
            clear HX HN HG HV hd hO hbI h1 h2 h3
            go_wp2
            go_ret2
            exact ⟨by rw [HR.out]; rfl, rfl⟩
          · have HR := Lib.hid (HN.out HD2.out (by rw [HV.out, ← HM.out]; omega))
            have g7 : ¬ (1099511627775 : Int) < (m : Int) + ((x : Int) - 48) := by omega
            have HV2 := Lib.hid (show ((valD b (S.data.toList.take (k + 1)) : Nat) : Int) = (m : Int) + ((x : Int) - 48) by rw [HV.out, ← HM.out]; omega)
            clear HX HN HG HV hd hO hbI h2 h3
            go_wp2
            go_round
            case rel => exact ⟨k + 1, by omega, by go_num, by rw [HV2.out, hm, hxx], HR⟩
            case measure => simp [intOf]; omega
    · have hO2 := hO.out
      have HE := Lib.hid (show numP b S.data.toList = if S.data.toList = [] then none else some (valD b S.data.toList) by
        refine okD_end ?_
        rw [HL.out, show S.size = k by omega]
        exact hO2)
      have HT := Lib.hid (show S.data.toList.take k = S.data.toList from List.take_of_length_le (by rw [HL.out]; omega))
      rw [HT.out]
      have HV0 := Lib.hid (show S.data.toList = [] → valD b S.data.toList = 0 from fun e => by rw [e]; rfl)
      clear hO2 hO IS hbI
      generalize valD b S.data.toList = v at *
      by_cases he : S.data.toList = []
      · rw [decide_eq_true he] at qe
        have HEE := Lib.hid he
        clear he
        go_wp2
        go_ret2
        exact ⟨retIB (by rw [HE.out, if_pos HEE.out, HV0.out HEE.out]; rfl) (by rw [HE.out, if_pos HEE.out]; rfl), rfl⟩
      · rw [decide_eq_false he] at qe
        have HEE := Lib.hid he
        clear he
        go_wp2
        go_ret2
        exact ⟨retIB (by rw [HE.out, if_neg HEE.out]; rfl) (by rw [HE.out, if_neg HEE.out]; rfl), rfl⟩
end Go.Proofs.YtmgpofdmoaafoaaGreatDoor
