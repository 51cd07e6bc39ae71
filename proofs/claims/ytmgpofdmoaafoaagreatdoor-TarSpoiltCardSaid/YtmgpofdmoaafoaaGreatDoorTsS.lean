/- Layer 15: the document's decimals, of any size, and what it reads of them. -/
import Derived.Test.YtmgpofdmoaafoaaGreatDoorTsR
namespace Go.Proofs.YtmgpofdmoaafoaaGreatDoor
open Go.RowKit

def decD (n : Nat) : Bs := if n < 10 then [UInt8.ofNat (48 + n)] else decD (n / 10) ++ [UInt8.ofNat (48 + n % 10)]
termination_by n
decreasing_by omega
theorem decD_one {n : Nat} (h : n < 10) : decD n = [UInt8.ofNat (48 + n)] := by rw [decD, if_pos h]
theorem decD_more {n : Nat} (h : ¬ n < 10) : decD n = decD (n / 10) ++ [UInt8.ofNat (48 + n % 10)] := by
  conv => lhs; rw [decD]
  rw [if_neg h]
theorem decD_len : ∀ (k n : Nat), n < 10 ^ (k + 1) → (decD n).length ≤ k + 1
  | 0, n, h => by
    rw [decD_one (by omega)]
    exact Nat.le_refl _
  | k + 1, n, h => by
    by_cases h1 : n < 10
    · rw [decD_one h1]
      show 1 ≤ _
      omega
    · rw [decD_more h1, List.length_append]
      have := decD_len k (n / 10) (by rw [Nat.pow_succ] at h; omega)
      show _ + 1 ≤ _
      omega
theorem dig_of (n : Nat) (h : n < 10) : (UInt8.ofNat (48 + n)).toNat = 48 + n := by rw [UInt8.toNat_ofNat']; omega
theorem val_pos : ∀ (n : Nat) (t : Bs), t.length = n → t.all (isDig 10) = true → t ≠ [] → t.headD 0 ≠ 48 → 1 ≤ valD 10 t
  | 0, t, h, _, hne, _ => absurd (List.length_eq_zero_iff.1 h) hne
  | n + 1, t, h, ha, _, hh => by
    rcases List.eq_nil_or_concat t with rfl | ⟨r, x, rfl⟩
    · cases h
    · rw [List.concat_eq_append] at *
      rw [List.all_append, Bool.and_eq_true] at ha
      rw [valD_snoc]
      by_cases hr : r = []
      · subst hr
        have h2 : isDig 10 x = true := by simpa using ha.2
        rw [isDig_iff] at h2
        have h3 : x ≠ 48 := by simpa using hh
        have : x.toNat ≠ 48 := fun e => h3 (UInt8.toNat_inj.1 e)
        omega
      · have := val_pos n r (by simpa using h) ha.1 hr (by
          cases r with
          | nil => exact absurd rfl hr
          | cons y r' => simpa using hh)
        omega
theorem decD_back : ∀ (n : Nat) (t : Bs), t.length = n → t.all (isDig 10) = true → t ≠ [] → (t.headD 0 ≠ 48 ∨ t.length = 1) → decD (valD 10 t) = t
  | 0, t, h, _, hne, _ => absurd (List.length_eq_zero_iff.1 h) hne
  | n + 1, t, h, ha, _, hh => by
    rcases List.eq_nil_or_concat t with rfl | ⟨r, x, rfl⟩
    · cases h
    · rw [List.concat_eq_append] at *
      rw [List.all_append, Bool.and_eq_true] at ha
      have h2 : isDig 10 x = true := by simpa using ha.2
      rw [isDig_iff] at h2
      rw [valD_snoc]
      have hx : UInt8.ofNat (48 + (x.toNat - 48)) = x := by
        rw [show 48 + (x.toNat - 48) = x.toNat by omega]
        simp
      by_cases hr : r = []
      · subst hr
        rw [show valD 10 [] = 0 from rfl, Nat.zero_mul, Nat.zero_add, decD_one (by omega), hx]
        rfl
      · have hrl : 0 < r.length := List.length_pos_iff.2 hr
        have h3 : (r ++ [x]).headD 0 ≠ 48 := by
          rcases hh with h3 | h3
          · exact h3
          · rw [List.length_append] at h3
            simp at h3
            exact absurd h3 hr
        have h4 : r.headD 0 ≠ 48 := by
          cases r with
          | nil => exact absurd rfl hr
          | cons y r' => simpa using h3
        have h5 := val_pos r.length r rfl ha.1 hr h4
        have h6 := decD_back n r (by simpa using h) ha.1 hr (.inl h4)
        rw [decD_more (by omega), show (valD 10 r * 10 + (x.toNat - 48)) / 10 = valD 10 r by omega, show (valD 10 r * 10 + (x.toNat - 48)) % 10 = x.toNat - 48 by omega, h6, hx]
theorem decD_ne : ∀ n, decD n ≠ [] := fun n => by
  by_cases h : n < 10
  · rw [decD_one h]; simp
  · rw [decD_more h]; simp
theorem decD_head : ∀ (k n : Nat), n ≤ k → 1 ≤ n → (decD n).headD 0 ≠ 48
  | 0, n, h, h1 => by omega
  | k + 1, n, h, h1 => by
    by_cases h2 : n < 10
    · rw [decD_one h2]
      show UInt8.ofNat (48 + n) ≠ 48
      intro e
      have := congrArg UInt8.toNat e
      rw [dig_of n h2] at this
      have h48 : (48 : UInt8).toNat = 48 := rfl
      omega
    · rw [decD_more h2]
      have := decD_head k (n / 10) (by omega) (by omega)
      cases hd : decD (n / 10) with
      | nil => exact absurd hd (decD_ne _)
      | cons y r => rw [hd] at this; simpa using this
/-- When a text of digits is the decimal of its value. -/
theorem dec_eq {t : Bs} (ha : t.all (isDig 10) = true) (hne : t ≠ []) : decD (valD 10 t) = t ↔ (t.headD 0 ≠ 48 ∨ t.length = 1) := by
  constructor
  · intro h
    by_cases h1 : valD 10 t = 0
    · right
      rw [← h, h1, decD_one (by decide)]
      rfl
    · left
      have := decD_head _ (valD 10 t) (Nat.le_refl _) (by omega)
      rwa [h] at this
  · exact decD_back t.length t rfl ha hne
set_option maxRecDepth 100000 in
set_option maxHeartbeats 4000000 in
theorem dec_step (n : Nat) (h1 : 10 ≤ n) (h2 : n ≤ 1099511627776) (T : ByteArray) (hT : T.size ≤ 100) (hc : ∀ W, Calls Tryz.prog 33 #[.int .i64 ((n / 10 : Nat) : Int)] W fun e w' => e = .returned (.string T) ∧ W = w') (w : World) :
    Calls Tryz.prog 33 #[.int .i64 (n : Int)] w fun e w' => e = .returned (.string (T ++ str [UInt8.ofNat (48 + n % 10)])) ∧ w = w' := by
  have C2 := fun W => dec_one (n % 10) (Nat.mod_lt _ (by decide)) W
  have z2 : (str [UInt8.ofNat (48 + n % 10)]).size = 1 := rfl
  have e1 : (n : Int).tdiv 10 = ((n / 10 : Nat) : Int) := by rw [Int.tdiv_eq_ediv_of_nonneg (by omega)]; omega
  have e2 : (n : Int).tmod 10 = ((n % 10 : Nat) : Int) := by rw [Int.tmod_eq_emod_of_nonneg (by omega)]; omega
  have e3 : (n : Int) / 10 = ((n / 10 : Nat) : Int) := by omega
  have e4 : (n : Int) % 10 = ((n % 10 : Nat) : Int) := by omega
  generalize str [UInt8.ofNat (48 + n % 10)] = D at *
  generalize n / 10 = a at *
  generalize n % 10 = b at *
  go_enter Tryz.func33, Tryz.ntmps33
  go_wp2_with (first
    | (go_at_call 33; ((with_reducible refine (hc _).mono ?_); rintro e w1 ⟨rfl, rfl⟩))
    | (go_at_call 33; ((with_reducible refine (C2 _).mono ?_); rintro e w1 ⟨rfl, rfl⟩)))
  go_ret
  exact ⟨rfl, rfl⟩
theorem decimal_any : ∀ (k n : Nat), k ≤ 20 → n < 10 ^ (k + 1) → n ≤ 1099511627776 → ∀ w : World, Calls Tryz.prog 33 #[.int .i64 (n : Int)] w fun e w' => e = .returned (.string (str (decD n))) ∧ w = w'
  | 0, n, _, h, _, w => by
    rw [decD_one (by omega)]
    exact dec_one n (by omega) w
  | k + 1, n, hk, h, hn, w => by
    by_cases h1 : n < 10
    · rw [decD_one h1]
      exact dec_one n h1 w
    · have h3 : n / 10 < 10 ^ (k + 1) := by rw [Nat.pow_succ] at h; omega
      rw [decD_more h1, ← str_append]
      exact dec_step n (by omega) hn _ (by rw [str_size]; have := decD_len k (n / 10) h3; omega) (fun W => decimal_any k (n / 10) (by omega) h3 (by omega) W) w
set_option maxRecDepth 100000 in
set_option maxHeartbeats 16000000 in
theorem plainR_any (s : Bs) (hs : s.length ≤ 1099511627776) (w : World) : Calls Tryz.prog 26 #[.string (str s)] w fun e w' => e = .returned (.int .i64 (numI (numP 10 s))) ∧ w = w' := by
  have hz := str_size s
  have IS := Lib.hid (fun (i : Nat) (h : i < (str s).size) => idx_str (str s) i i rfl h)
  rw [str_toList] at IS
  have q1 : ((str s).toList == []) = decide (s = []) := eq_lit s []
  have q2 : (str s).toList.isEmpty = decide (s = []) := empty_lit s
  generalize str s = S at *
  go_enter Tryz.func26, Tryz.ntmps26
  go_wp2
  go_loop [3, 4] (fun n i => ∃ k m : Nat, k ≤ s.length ∧ i = .int .i64 k ∧ n = .int .i64 (m : Int) ∧ m ≤ 1099511627776 ∧ Hid (m = min (valD 10 (s.take k)) 1099511627776) ∧ Hid ((s.take k).all (isDig 10) = true)) (fun _ i => s.length - (intOf i).toNat)
  case atStart => exact ⟨0, 0, Nat.zero_le _, rfl, rfl, Nat.zero_le _, Lib.hid rfl, Lib.hid rfl⟩
  case round =>
    obtain ⟨k, m, hk, rfl, rfl, hm, HM, HA⟩ := hrel
    by_cases hlt : k < s.length
    · have HLT := Lib.hid hlt
      have i1 := IS.out k (by omega)
      have g2 : (k : Int) < (S.size : Int) := by omega
      have HV := Lib.hid (okD_val (b := 10) hlt)
      have HX := Lib.hid (okD_bad (b := 10) hlt)
      have HD := Lib.hid (isDig_iff 10 (s.getD k 0))
      have HN := Lib.hid (fun h => all_next (p := isDig 10) HA.out hlt h)
      have hx256 := (s.getD k 0).toNat_lt
      obtain ⟨x, hxx⟩ : ∃ x, x = (s.getD k 0).toNat := ⟨_, rfl⟩
      rw [← hxx] at i1 HV HD hx256
      clear hxx q1 q2 IS
      by_cases hx : x < 48
      · have g3 : (x : Int) < 48 := by omega
        have HR := Lib.hid (HX.out (by rw [Bool.eq_false_iff]; intro h; have := HD.out.1 h; omega))
        clear HX HN HD HV HM HA
        go_wp2
        go_ret
        exact ⟨by rw [HR.out]; rfl, rfl⟩
      · have g3 : ¬ (x : Int) < 48 := by omega
        by_cases hx9 : 57 < x
        · have g4 : (57 : Int) < (x : Int) := by omega
          have HR := Lib.hid (HX.out (by rw [Bool.eq_false_iff]; intro h; have := HD.out.1 h; omega))
          clear HX HN HD HV HM HA
          go_wp2
          go_ret
          exact ⟨by rw [HR.out]; rfl, rfl⟩
        · have g4 : ¬ (57 : Int) < (x : Int) := by omega
          have HP2 := Lib.hid (HN.out (HD.out.2 ⟨by omega, by omega⟩))
          have g4b : (x : Int) ≤ 57 := by omega
          by_cases hT : 1099511627776 ≤ 10 * m + (x - 48)
          · have g5 : min (10 * (m : Int) + ((x : Int) - 48)) 1099511627776 = 1099511627776 := by omega
            have HM2 : Hid (1099511627776 = min (valD 10 (s.take (k + 1))) 1099511627776) := Lib.hid (by have h1 := HM.out; rw [HV.out]; omega)
            clear HX HN HD HV HM HA hT
            go_wp2
            go_round
            case rel => exact ⟨k + 1, 1099511627776, Nat.succ_le_of_lt HLT.out, by go_num, rfl, Nat.le_refl _, HM2, HP2⟩
            case measure => have := HLT.out; simp [intOf]; omega
          · have g5 : min (10 * (m : Int) + ((x : Int) - 48)) 1099511627776 = 10 * (m : Int) + ((x : Int) - 48) := by omega
            have HM2 : Hid (10 * m + (x - 48) = min (valD 10 (s.take (k + 1))) 1099511627776) := Lib.hid (by have h1 := HM.out; rw [HV.out]; omega)
            have hT2 : 10 * m + (x - 48) ≤ 1099511627776 := by omega
            clear HX HN HD HV HM HA hT
            go_wp2
            go_round
            case rel => exact ⟨k + 1, 10 * m + (x - 48), Nat.succ_le_of_lt HLT.out, by go_num, by go_num, hT2, HM2, HP2⟩
            case measure => have := HLT.out; simp [intOf]; omega
    · have HK : Hid (s.take k = s) := Lib.hid (List.take_of_length_le (by omega))
      have HM2 : Hid (m = min (valD 10 s) 1099511627776) := Lib.hid (by have := HM.out; rwa [HK.out] at this)
      have HA2 : Hid (s.all (isDig 10) = true) := Lib.hid (by have := HA.out; rwa [HK.out] at this)
      have g2 : ¬ (k : Int) < (S.size : Int) := by omega
      clear HK HM HA IS
      by_cases he : s = []
      · have HR : Hid (numP 10 s = none) := Lib.hid (by unfold numP; rw [if_neg (fun h => h.1 he)])
        rw [decide_eq_true he] at q1 q2
        clear HM2 HA2 he
        go_wp2
        go_ret
        exact ⟨by rw [HR.out]; rfl, rfl⟩
      · rw [decide_eq_false he] at q1 q2
        by_cases hT : m = 1099511627776
        · have HR : Hid (numP 10 s = none) := Lib.hid (by unfold numP; rw [if_neg (fun h => by have := HM2.out; omega)])
          have g5 : ((m : Int) == 1099511627776) = true := by rw [beq_iff_eq]; omega
          have g6 : (m : Int) = 1099511627776 := by omega
          clear HM2 HA2 he hT
          go_wp2
          go_ret
          exact ⟨by rw [HR.out]; rfl, rfl⟩
        · have HR : Hid (numP 10 s = some m) := Lib.hid (by unfold numP; have := HM2.out; rw [if_pos ⟨he, HA2.out, by omega⟩, show valD 10 s = m by omega])
          have g5 : ((m : Int) == 1099511627776) = false := by rw [beq_eq_false_iff_ne]; omega
          have g6 : ¬ (m : Int) = 1099511627776 := by omega
          clear HM2 HA2 he hT
          go_wp2
          go_ret
          exact ⟨by rw [HR.out]; rfl, rfl⟩
end Go.Proofs.YtmgpofdmoaafoaaGreatDoor
#print axioms Go.Proofs.YtmgpofdmoaafoaaGreatDoor.decimal_any
#print axioms Go.Proofs.YtmgpofdmoaafoaaGreatDoor.plainR_any
