/- Layer 15: what the document reads of a number's field. -/
import Derived.Test.YtmgpofdmoaafoaaGreatDoorTsQ
namespace Go.Proofs.YtmgpofdmoaafoaaGreatDoor
open Go.RowKit

theorem sl_cut (s : Bs) (a b : Nat) : (sl s a b).length = min b s.length - a := by simp [sl]
theorem sl_same (s : Bs) (a : Nat) : sl s a a = [] := by
  unfold sl
  exact List.drop_eq_nil_of_le (by rw [List.length_take]; omega)
theorem sl_next {s : Bs} {a b : Nat} (hab : a ≤ b) (hb : b < s.length) : sl s a (b + 1) = sl s a b ++ [s.getD b 0] := by
  unfold sl
  rw [List.take_succ_eq_append_getElem hb, List.drop_append_of_le_length (by rw [List.length_take]; omega), getD_in8 hb]
theorem sl_all {s : Bs} {p : UInt8 → Bool} {a b : Nat} (hab : a ≤ b) (hb : b < s.length) (h : (sl s a b).all p = true) (hp : p (s.getD b 0) = true) : (sl s a (b + 1)).all p = true := by
  rw [sl_next hab hb, List.all_append, h]
  show (true && (p (s.getD b 0) && true)) = true
  rw [hp]
  rfl
theorem sl_val {s : Bs} {a b : Nat} (hab : a ≤ b) (hb : b < s.length) : valD 8 (sl s a (b + 1)) = valD 8 (sl s a b) * 8 + ((s.getD b 0).toNat - 48) := by
  rw [sl_next hab hb, valD_snoc]
theorem val_lt8 : ∀ (n : Nat) (d : Bs), d.length = n → d.all (isDig 8) = true → valD 8 d < 8 ^ n
  | 0, d, h, _ => by
    obtain rfl : d = [] := List.length_eq_zero_iff.1 h
    decide
  | n + 1, d, h, ha => by
    rcases List.eq_nil_or_concat d with rfl | ⟨r, x, rfl⟩
    · cases h
    · rw [List.concat_eq_append] at *
      rw [List.all_append, Bool.and_eq_true] at ha
      have h1 := val_lt8 n r (by simpa using h) ha.1
      have h2 : isDig 8 x = true := by simpa using ha.2
      rw [isDig_iff] at h2
      rw [valD_snoc, Nat.pow_succ]
      omega
theorem val_lt12 {d : Bs} (ha : d.all (isDig 8) = true) (h : d.length ≤ 12) : valD 8 d < 68719476736 := by
  have h1 := val_lt8 d.length d rfl ha
  have h2 : 8 ^ d.length ≤ 8 ^ 12 := Nat.pow_le_pow_right (by decide) h
  omega
theorem ltrim_at {s : Bs} {a : Nat} (h : (s.take a).all (· == 32) = true) (hd : a < s.length → s.getD a 0 ≠ 32) : ltrim s = s.drop a := by
  unfold ltrim
  conv => lhs; rw [← List.take_append_drop a s]
  rw [List.dropWhile_append_of_pos (fun x hx => List.all_eq_true.1 h x hx)]
  by_cases hl : a < s.length
  · rw [List.drop_eq_getElem_cons hl, List.dropWhile_cons_of_neg]
    rw [← getD_in8 hl, beq_iff_eq]
    exact hd hl
  · rw [List.drop_eq_nil_of_le (by omega)]
    rfl
theorem rtrim_stop (X : Bs) (r : UInt8) (R : Bs) (h : isPad r = false) : ∃ Y, rtrim (X ++ r :: R) = X ++ r :: Y := by
  unfold rtrim
  rw [List.reverse_append, List.reverse_cons, List.append_assoc, List.dropWhile_append]
  split
  · refine ⟨[], ?_⟩
    rw [List.singleton_append, List.dropWhile_cons_of_neg (by rw [h]; decide)]
    simp
  · exact ⟨(List.dropWhile isPad R.reverse).reverse, by simp⟩
theorem num_fin {s : Bs} {a b c : Nat} (hab : a ≤ b) (hbc : b ≤ c) (hc : c ≤ s.length) (hl : ltrim s = s.drop a) (hd : (sl s a b).all (isDig 8) = true) (hbx : b < s.length → isDig 8 (s.getD b 0) = false)
    (hp : (sl s b c).all isPad = true) (hcx : c < s.length → isPad (s.getD c 0) = false) (h12 : s.length ≤ 12) : numF s = if c < s.length ∨ b = a then none else some (valD 8 (sl s a b)) := by
  have e1 : s.drop a = sl s a b ++ s.drop b := by
    unfold sl
    conv => lhs; rw [← List.take_append_drop b s]
    rw [List.drop_append_of_le_length (by rw [List.length_take]; omega)]
  have e2 : s.drop b = sl s b c ++ s.drop c := by
    unfold sl
    conv => lhs; rw [← List.take_append_drop c s]
    rw [List.drop_append_of_le_length (by rw [List.length_take]; omega)]
  unfold numF
  rw [hl, e1, e2]
  by_cases hcl : c < s.length
  · rw [if_pos (.inl hcl), List.drop_eq_getElem_cons hcl, ← List.append_assoc, ← getD_in8 hcl]
    obtain ⟨Y, hY⟩ := rtrim_stop (sl s a b ++ sl s b c) (s.getD c 0) (s.drop (c + 1)) (hcx hcl)
    rw [hY]
    unfold numP
    rw [if_neg]
    rintro ⟨_, hall, _⟩
    have hmem : s.getD b 0 ∈ sl s a b ++ sl s b c ++ s.getD c 0 :: Y := by
      by_cases hbc2 : b = c
      · rw [hbc2]
        simp
      · have hbl : b < s.length := by omega
        have : sl s b (b + 1) = [s.getD b 0] := by rw [sl_next (Nat.le_refl _) hbl, sl_same, List.nil_append]
        have h3 : s.getD b 0 ∈ sl s b c := by
          unfold sl
          rw [List.mem_drop_iff_getElem]
          exact ⟨0, by rw [List.length_take]; omega, by rw [getD_in8 hbl]; simp⟩
        simp only [List.mem_append]
        exact .inl (.inr h3)
    have := List.all_eq_true.1 hall _ hmem
    rw [hbx (by omega)] at this
    cases this
  · rw [List.drop_eq_nil_of_le (by omega), List.append_nil, rtrim_app hd hp]
    by_cases hba : b = a
    · rw [if_pos (show c < s.length ∨ b = a from .inr hba), hba, sl_same]
      rfl
    · rw [if_neg (show ¬ (c < s.length ∨ b = a) by omega)]
      unfold numP
      refine if_pos ⟨fun e => ?_, hd, ?_⟩
      · have := sl_cut s a b
        rw [e] at this
        simp only [List.length_nil] at this
        omega
      · have := val_lt12 hd (by rw [sl_cut]; omega)
        omega
set_option maxRecDepth 100000 in
set_option maxHeartbeats 32000000 in
theorem numberR_any (s : Bs) (hs : s.length ≤ 12) (w : World) : Calls Tryz.prog 23 #[.string (str s)] w fun e w' => e = .returned (.int .i64 (numI (numF s))) ∧ w = w' := by
  have hz := str_size s
  have IS := Lib.hid (fun (i : Nat) (h : i < (str s).size) => idx_str (str s) i i rfl h)
  rw [str_toList] at IS
  generalize str s = S at *
  go_enter Tryz.func23, Tryz.ntmps23
  go_wp2
  go_loop [3] (fun i => ∃ a : Nat, a ≤ s.length ∧ i = .int .i64 a ∧ Hid ((s.take a).all (· == 32) = true)) (fun i => s.length - (intOf i).toNat)
  case atStart => exact ⟨0, Nat.zero_le _, rfl, Lib.hid rfl⟩
  case round =>
    obtain ⟨a, ha, rfl, HA1⟩ := hrel
    by_cases hlt : a < s.length
    · have HLT := Lib.hid hlt
      have i1 := IS.out a (by omega)
      have g2 : (a : Int) < (S.size : Int) := by omega
      obtain ⟨x, hxx⟩ : ∃ x, x = (s.getD a 0).toNat := ⟨_, rfl⟩
      have HXX := Lib.hid hxx
      rw [← hxx] at i1
      clear hxx
      by_cases hx : x = 32
      · subst hx
        have HP2 := Lib.hid (all_next HA1.out hlt (by rw [show s.getD a 0 = 32 from UInt8.toNat_inj.1 HXX.out.symm]; rfl))
        go_wp2
        go_round
        case rel => exact ⟨a + 1, Nat.succ_le_of_lt HLT.out, by go_num, HP2⟩
        case measure => have := HLT.out; simp [intOf]; omega
      · have hx1 : ¬ (x : Int) = 32 := by omega
        have hx2 : ((x : Int) == 32) = false := by rw [beq_eq_false_iff_ne]; omega
        have HL := Lib.hid (ltrim_at HA1.out (fun _ e => hx (by rw [HXX.out, e]; rfl)))
        go_wp2
        go_loop [3, 4, 5] (fun i n m => ∃ b : Nat, a ≤ b ∧ b ≤ s.length ∧ i = .int .i64 b ∧ n = .int .i64 ((valD 8 (sl s a b) : Nat) : Int) ∧ m = .int .i64 ((b - a : Nat) : Int) ∧ Hid ((sl s a b).all (isDig 8) = true)) (fun i _ _ => s.length - (intOf i).toNat)
        case atStart => exact ⟨a, Nat.le_refl _, ha, rfl, by rw [sl_same]; rfl, by rw [Nat.sub_self]; rfl, Lib.hid (by rw [sl_same]; rfl)⟩
        case round =>
          obtain ⟨b, hab, hb, rfl, rfl, rfl, hDD⟩ := hrel
          by_cases hlt : b < s.length
          · have HLT := Lib.hid hlt
            have i1 := IS.out b (by omega)
            have g2 : (b : Int) < (S.size : Int) := by omega
            have HVN := Lib.hid (sl_val hab hlt)
            have hv12 := val_lt12 hDD.out (show (sl s a b).length ≤ 12 by rw [sl_cut]; omega)
            obtain ⟨x, hxx⟩ : ∃ x, x = (s.getD b 0).toNat := ⟨_, rfl⟩
            have HXX := Lib.hid hxx
            rw [← hxx] at i1 HVN
            have hx256 : x < 256 := by rw [hxx]; exact (s.getD b 0).toNat_lt
            clear hxx
            by_cases hx : 48 ≤ x
            · have hx1 : (48 : Int) ≤ (x : Int) := by omega
              by_cases hx5 : x ≤ 55
              · have hx2 : (x : Int) ≤ 55 := by omega
                have HP2 := Lib.hid (sl_all hab hlt hDD.out (by rw [isDig_iff, ← HXX.out]; omega))
                obtain ⟨v, hv⟩ : ∃ v, v = valD 8 (sl s a b) := ⟨_, rfl⟩
                rw [← hv] at HVN hv12
                rw [← hv]
                clear hv
                go_wp2
                go_round
                case rel => exact ⟨b + 1, by omega, Nat.succ_le_of_lt HLT.out, by go_num, by rw [HVN.out]; go_num, by go_num, HP2⟩
                case measure => have := HLT.out; simp [intOf]; omega
              · have hx2 : ¬ (x : Int) ≤ 55 := by omega
                have HBX : Hid (b < s.length → isDig 8 (s.getD b 0) = false) := Lib.hid fun _ => by
                  rw [Bool.eq_false_iff]
                  intro h
                  rw [isDig_iff, ← HXX.out] at h
                  omega
                go_wp2
                go_loop [3] (fun i => ∃ c : Nat, b ≤ c ∧ c ≤ s.length ∧ i = .int .i64 c ∧ Hid ((sl s b c).all isPad = true)) (fun i => s.length - (intOf i).toNat)
                case atStart => exact ⟨b, Nat.le_refl _, hb, rfl, Lib.hid (by rw [sl_same]; rfl)⟩
                case round =>
                  obtain ⟨c, hbc, hc, rfl, hP⟩ := hrel
                  by_cases hlt : c < s.length
                  · have HLT := Lib.hid hlt
                    have i1 := IS.out c (by omega)
                    have g2 : (c : Int) < (S.size : Int) := by omega
                    obtain ⟨x, hxx⟩ : ∃ x, x = (s.getD c 0).toNat := ⟨_, rfl⟩
                    have HXX := Lib.hid hxx
                    rw [← hxx] at i1
                    clear hxx
                    by_cases hx : x = 32
                    · subst hx
                      have HP2 := Lib.hid (sl_all hbc hlt hP.out (by rw [show s.getD c 0 = 32 from UInt8.toNat_inj.1 HXX.out.symm]; rfl))
                      go_wp2
                      go_round
                      case rel => exact ⟨c + 1, by omega, Nat.succ_le_of_lt HLT.out, by go_num, HP2⟩
                      case measure => have := HLT.out; simp [intOf]; omega
                    · have hx1 : ¬ (x : Int) = 32 := by omega
                      have hx2 : ((x : Int) == 32) = false := by rw [beq_eq_false_iff_ne]; omega
                      by_cases hx0 : x = 0
                      · subst hx0
                        have HP2 := Lib.hid (sl_all hbc hlt hP.out (by rw [show s.getD c 0 = 0 from UInt8.toNat_inj.1 HXX.out.symm]; rfl))
                        go_wp2
                        go_round
                        case rel => exact ⟨c + 1, by omega, Nat.succ_le_of_lt HLT.out, by go_num, HP2⟩
                        case measure => have := HLT.out; simp [intOf]; omega
                      · have hx3 : ¬ (x : Int) = 0 := by omega
                        have hx4 : ((x : Int) == 0) = false := by rw [beq_eq_false_iff_ne]; omega
                        have HCX : Hid (c < s.length → isPad (s.getD c 0) = false) := Lib.hid fun _ => by
                          have h := HXX.out
                          unfold isPad
                          rw [Bool.or_eq_false_iff, beq_eq_false_iff_ne, beq_eq_false_iff_ne]
                          exact ⟨fun e => hx (by rw [h, e]; rfl), fun e => hx0 (by rw [h, e]; rfl)⟩
                        have HFIN := Lib.hid (num_fin (s := s) (a := a) (b := b) (c := c) hab hbc hc HL.out hDD.out HBX.out hP.out HCX.out hs)
                        clear HL HBX HCX hDD hP HA1 IS
                        have HF : Hid (numF s = none) := Lib.hid (by rw [HFIN.out, if_pos (.inl HLT.out)])
                        go_wp2
                        all_goals (go_ret; exact ⟨by rw [HF.out]; rfl, rfl⟩)
                  · have HCX : Hid (c < s.length → isPad (s.getD c 0) = false) := Lib.hid fun h => absurd h hlt
                    have g2 : ¬ (c : Int) < (S.size : Int) := by omega
                    have HFIN := Lib.hid (num_fin (s := s) (a := a) (b := b) (c := c) hab hbc hc HL.out hDD.out HBX.out hP.out HCX.out hs)
                    clear HL HBX HCX hDD hP HA1 IS
                    by_cases hba : b = a
                    · have HF : Hid (numF s = none) := Lib.hid (by rw [HFIN.out, if_pos (.inr hba)])
                      have hm0 : ((b - a : Nat) : Int) = 0 := by omega
                      go_wp2
                      all_goals (go_ret; exact ⟨by rw [HF.out]; rfl, rfl⟩)
                    · have HF : Hid (numF s = some (valD 8 (sl s a b))) := Lib.hid (by rw [HFIN.out, if_neg (by omega)])
                      have hm0 : ¬ ((b - a : Nat) : Int) = 0 := by omega
                      go_wp2
                      all_goals (go_ret; exact ⟨by rw [HF.out]; rfl, rfl⟩)
            · have hx1 : ¬ (48 : Int) ≤ (x : Int) := by omega
              have HBX : Hid (b < s.length → isDig 8 (s.getD b 0) = false) := Lib.hid fun _ => by
                rw [Bool.eq_false_iff]
                intro h
                rw [isDig_iff, ← HXX.out] at h
                omega
              go_wp2
              go_loop [3] (fun i => ∃ c : Nat, b ≤ c ∧ c ≤ s.length ∧ i = .int .i64 c ∧ Hid ((sl s b c).all isPad = true)) (fun i => s.length - (intOf i).toNat)
              case atStart => exact ⟨b, Nat.le_refl _, hb, rfl, Lib.hid (by rw [sl_same]; rfl)⟩
              case round =>
                obtain ⟨c, hbc, hc, rfl, hP⟩ := hrel
                by_cases hlt : c < s.length
                · have HLT := Lib.hid hlt
                  have i1 := IS.out c (by omega)
                  have g2 : (c : Int) < (S.size : Int) := by omega
                  obtain ⟨x, hxx⟩ : ∃ x, x = (s.getD c 0).toNat := ⟨_, rfl⟩
                  have HXX := Lib.hid hxx
                  rw [← hxx] at i1
                  clear hxx
                  by_cases hx : x = 32
                  · subst hx
                    have HP2 := Lib.hid (sl_all hbc hlt hP.out (by rw [show s.getD c 0 = 32 from UInt8.toNat_inj.1 HXX.out.symm]; rfl))
                    go_wp2
                    go_round
                    case rel => exact ⟨c + 1, by omega, Nat.succ_le_of_lt HLT.out, by go_num, HP2⟩
                    case measure => have := HLT.out; simp [intOf]; omega
                  · have hx1 : ¬ (x : Int) = 32 := by omega
                    have hx2 : ((x : Int) == 32) = false := by rw [beq_eq_false_iff_ne]; omega
                    by_cases hx0 : x = 0
                    · subst hx0
                      have HP2 := Lib.hid (sl_all hbc hlt hP.out (by rw [show s.getD c 0 = 0 from UInt8.toNat_inj.1 HXX.out.symm]; rfl))
                      go_wp2
                      go_round
                      case rel => exact ⟨c + 1, by omega, Nat.succ_le_of_lt HLT.out, by go_num, HP2⟩
                      case measure => have := HLT.out; simp [intOf]; omega
                    · have hx3 : ¬ (x : Int) = 0 := by omega
                      have hx4 : ((x : Int) == 0) = false := by rw [beq_eq_false_iff_ne]; omega
                      have HCX : Hid (c < s.length → isPad (s.getD c 0) = false) := Lib.hid fun _ => by
                        have h := HXX.out
                        unfold isPad
                        rw [Bool.or_eq_false_iff, beq_eq_false_iff_ne, beq_eq_false_iff_ne]
                        exact ⟨fun e => hx (by rw [h, e]; rfl), fun e => hx0 (by rw [h, e]; rfl)⟩
                      have HFIN := Lib.hid (num_fin (s := s) (a := a) (b := b) (c := c) hab hbc hc HL.out hDD.out HBX.out hP.out HCX.out hs)
                      clear HL HBX HCX hDD hP HA1 IS
                      have HF : Hid (numF s = none) := Lib.hid (by rw [HFIN.out, if_pos (.inl HLT.out)])
                      go_wp2
                      all_goals (go_ret; exact ⟨by rw [HF.out]; rfl, rfl⟩)
                · have HCX : Hid (c < s.length → isPad (s.getD c 0) = false) := Lib.hid fun h => absurd h hlt
                  have g2 : ¬ (c : Int) < (S.size : Int) := by omega
                  have HFIN := Lib.hid (num_fin (s := s) (a := a) (b := b) (c := c) hab hbc hc HL.out hDD.out HBX.out hP.out HCX.out hs)
                  clear HL HBX HCX hDD hP HA1 IS
                  by_cases hba : b = a
                  · have HF : Hid (numF s = none) := Lib.hid (by rw [HFIN.out, if_pos (.inr hba)])
                    have hm0 : ((b - a : Nat) : Int) = 0 := by omega
                    go_wp2
                    all_goals (go_ret; exact ⟨by rw [HF.out]; rfl, rfl⟩)
                  · have HF : Hid (numF s = some (valD 8 (sl s a b))) := Lib.hid (by rw [HFIN.out, if_neg (by omega)])
                    have hm0 : ¬ ((b - a : Nat) : Int) = 0 := by omega
                    go_wp2
                    all_goals (go_ret; exact ⟨by rw [HF.out]; rfl, rfl⟩)
          · have HBX : Hid (b < s.length → isDig 8 (s.getD b 0) = false) := Lib.hid fun h => absurd h hlt
            have g2 : ¬ (b : Int) < (S.size : Int) := by omega
            go_wp2
            go_loop [3] (fun i => ∃ c : Nat, b ≤ c ∧ c ≤ s.length ∧ i = .int .i64 c ∧ Hid ((sl s b c).all isPad = true)) (fun i => s.length - (intOf i).toNat)
            case atStart => exact ⟨b, Nat.le_refl _, hb, rfl, Lib.hid (by rw [sl_same]; rfl)⟩
            case round =>
              obtain ⟨c, hbc, hc, rfl, hP⟩ := hrel
              by_cases hlt : c < s.length
              · have HLT := Lib.hid hlt
                have i1 := IS.out c (by omega)
                have g2 : (c : Int) < (S.size : Int) := by omega
                obtain ⟨x, hxx⟩ : ∃ x, x = (s.getD c 0).toNat := ⟨_, rfl⟩
                have HXX := Lib.hid hxx
                rw [← hxx] at i1
                clear hxx
                by_cases hx : x = 32
                · subst hx
                  have HP2 := Lib.hid (sl_all hbc hlt hP.out (by rw [show s.getD c 0 = 32 from UInt8.toNat_inj.1 HXX.out.symm]; rfl))
                  go_wp2
                  go_round
                  case rel => exact ⟨c + 1, by omega, Nat.succ_le_of_lt HLT.out, by go_num, HP2⟩
                  case measure => have := HLT.out; simp [intOf]; omega
                · have hx1 : ¬ (x : Int) = 32 := by omega
                  have hx2 : ((x : Int) == 32) = false := by rw [beq_eq_false_iff_ne]; omega
                  by_cases hx0 : x = 0
                  · subst hx0
                    have HP2 := Lib.hid (sl_all hbc hlt hP.out (by rw [show s.getD c 0 = 0 from UInt8.toNat_inj.1 HXX.out.symm]; rfl))
                    go_wp2
                    go_round
                    case rel => exact ⟨c + 1, by omega, Nat.succ_le_of_lt HLT.out, by go_num, HP2⟩
                    case measure => have := HLT.out; simp [intOf]; omega
                  · have hx3 : ¬ (x : Int) = 0 := by omega
                    have hx4 : ((x : Int) == 0) = false := by rw [beq_eq_false_iff_ne]; omega
                    have HCX : Hid (c < s.length → isPad (s.getD c 0) = false) := Lib.hid fun _ => by
                      have h := HXX.out
                      unfold isPad
                      rw [Bool.or_eq_false_iff, beq_eq_false_iff_ne, beq_eq_false_iff_ne]
                      exact ⟨fun e => hx (by rw [h, e]; rfl), fun e => hx0 (by rw [h, e]; rfl)⟩
                    have HFIN := Lib.hid (num_fin (s := s) (a := a) (b := b) (c := c) hab hbc hc HL.out hDD.out HBX.out hP.out HCX.out hs)
                    clear HL HBX HCX hDD hP HA1 IS
                    have HF : Hid (numF s = none) := Lib.hid (by rw [HFIN.out, if_pos (.inl HLT.out)])
                    go_wp2
                    all_goals (go_ret; exact ⟨by rw [HF.out]; rfl, rfl⟩)
              · have HCX : Hid (c < s.length → isPad (s.getD c 0) = false) := Lib.hid fun h => absurd h hlt
                have g2 : ¬ (c : Int) < (S.size : Int) := by omega
                have HFIN := Lib.hid (num_fin (s := s) (a := a) (b := b) (c := c) hab hbc hc HL.out hDD.out HBX.out hP.out HCX.out hs)
                clear HL HBX HCX hDD hP HA1 IS
                by_cases hba : b = a
                · have HF : Hid (numF s = none) := Lib.hid (by rw [HFIN.out, if_pos (.inr hba)])
                  have hm0 : ((b - a : Nat) : Int) = 0 := by omega
                  go_wp2
                  all_goals (go_ret; exact ⟨by rw [HF.out]; rfl, rfl⟩)
                · have HF : Hid (numF s = some (valD 8 (sl s a b))) := Lib.hid (by rw [HFIN.out, if_neg (by omega)])
                  have hm0 : ¬ ((b - a : Nat) : Int) = 0 := by omega
                  go_wp2
                  all_goals (go_ret; exact ⟨by rw [HF.out]; rfl, rfl⟩)
    · have HL := Lib.hid (ltrim_at HA1.out (fun h => absurd h hlt))
      have g2 : ¬ (a : Int) < (S.size : Int) := by omega
      go_wp2
      go_loop [3, 4, 5] (fun i n m => ∃ b : Nat, a ≤ b ∧ b ≤ s.length ∧ i = .int .i64 b ∧ n = .int .i64 ((valD 8 (sl s a b) : Nat) : Int) ∧ m = .int .i64 ((b - a : Nat) : Int) ∧ Hid ((sl s a b).all (isDig 8) = true)) (fun i _ _ => s.length - (intOf i).toNat)
      case atStart => exact ⟨a, Nat.le_refl _, ha, rfl, by rw [sl_same]; rfl, by rw [Nat.sub_self]; rfl, Lib.hid (by rw [sl_same]; rfl)⟩
      case round =>
        obtain ⟨b, hab, hb, rfl, rfl, rfl, hDD⟩ := hrel
        by_cases hlt : b < s.length
        · have HLT := Lib.hid hlt
          have i1 := IS.out b (by omega)
          have g2 : (b : Int) < (S.size : Int) := by omega
          have HVN := Lib.hid (sl_val hab hlt)
          have hv12 := val_lt12 hDD.out (show (sl s a b).length ≤ 12 by rw [sl_cut]; omega)
          obtain ⟨x, hxx⟩ : ∃ x, x = (s.getD b 0).toNat := ⟨_, rfl⟩
          have HXX := Lib.hid hxx
          rw [← hxx] at i1 HVN
          have hx256 : x < 256 := by rw [hxx]; exact (s.getD b 0).toNat_lt
          clear hxx
          by_cases hx : 48 ≤ x
          · have hx1 : (48 : Int) ≤ (x : Int) := by omega
            by_cases hx5 : x ≤ 55
            · have hx2 : (x : Int) ≤ 55 := by omega
              have HP2 := Lib.hid (sl_all hab hlt hDD.out (by rw [isDig_iff, ← HXX.out]; omega))
              obtain ⟨v, hv⟩ : ∃ v, v = valD 8 (sl s a b) := ⟨_, rfl⟩
              rw [← hv] at HVN hv12
              rw [← hv]
              clear hv
              go_wp2
              go_round
              case rel => exact ⟨b + 1, by omega, Nat.succ_le_of_lt HLT.out, by go_num, by rw [HVN.out]; go_num, by go_num, HP2⟩
              case measure => have := HLT.out; simp [intOf]; omega
            · have hx2 : ¬ (x : Int) ≤ 55 := by omega
              have HBX : Hid (b < s.length → isDig 8 (s.getD b 0) = false) := Lib.hid fun _ => by
                rw [Bool.eq_false_iff]
                intro h
                rw [isDig_iff, ← HXX.out] at h
                omega
              go_wp2
              go_loop [3] (fun i => ∃ c : Nat, b ≤ c ∧ c ≤ s.length ∧ i = .int .i64 c ∧ Hid ((sl s b c).all isPad = true)) (fun i => s.length - (intOf i).toNat)
              case atStart => exact ⟨b, Nat.le_refl _, hb, rfl, Lib.hid (by rw [sl_same]; rfl)⟩
              case round =>
                obtain ⟨c, hbc, hc, rfl, hP⟩ := hrel
                by_cases hlt : c < s.length
                · have HLT := Lib.hid hlt
                  have i1 := IS.out c (by omega)
                  have g2 : (c : Int) < (S.size : Int) := by omega
                  obtain ⟨x, hxx⟩ : ∃ x, x = (s.getD c 0).toNat := ⟨_, rfl⟩
                  have HXX := Lib.hid hxx
                  rw [← hxx] at i1
                  clear hxx
                  by_cases hx : x = 32
                  · subst hx
                    have HP2 := Lib.hid (sl_all hbc hlt hP.out (by rw [show s.getD c 0 = 32 from UInt8.toNat_inj.1 HXX.out.symm]; rfl))
                    go_wp2
                    go_round
                    case rel => exact ⟨c + 1, by omega, Nat.succ_le_of_lt HLT.out, by go_num, HP2⟩
                    case measure => have := HLT.out; simp [intOf]; omega
                  · have hx1 : ¬ (x : Int) = 32 := by omega
                    have hx2 : ((x : Int) == 32) = false := by rw [beq_eq_false_iff_ne]; omega
                    by_cases hx0 : x = 0
                    · subst hx0
                      have HP2 := Lib.hid (sl_all hbc hlt hP.out (by rw [show s.getD c 0 = 0 from UInt8.toNat_inj.1 HXX.out.symm]; rfl))
                      go_wp2
                      go_round
                      case rel => exact ⟨c + 1, by omega, Nat.succ_le_of_lt HLT.out, by go_num, HP2⟩
                      case measure => have := HLT.out; simp [intOf]; omega
                    · have hx3 : ¬ (x : Int) = 0 := by omega
                      have hx4 : ((x : Int) == 0) = false := by rw [beq_eq_false_iff_ne]; omega
                      have HCX : Hid (c < s.length → isPad (s.getD c 0) = false) := Lib.hid fun _ => by
                        have h := HXX.out
                        unfold isPad
                        rw [Bool.or_eq_false_iff, beq_eq_false_iff_ne, beq_eq_false_iff_ne]
                        exact ⟨fun e => hx (by rw [h, e]; rfl), fun e => hx0 (by rw [h, e]; rfl)⟩
                      have HFIN := Lib.hid (num_fin (s := s) (a := a) (b := b) (c := c) hab hbc hc HL.out hDD.out HBX.out hP.out HCX.out hs)
                      clear HL HBX HCX hDD hP HA1 IS
                      have HF : Hid (numF s = none) := Lib.hid (by rw [HFIN.out, if_pos (.inl HLT.out)])
                      go_wp2
                      all_goals (go_ret; exact ⟨by rw [HF.out]; rfl, rfl⟩)
                · have HCX : Hid (c < s.length → isPad (s.getD c 0) = false) := Lib.hid fun h => absurd h hlt
                  have g2 : ¬ (c : Int) < (S.size : Int) := by omega
                  have HFIN := Lib.hid (num_fin (s := s) (a := a) (b := b) (c := c) hab hbc hc HL.out hDD.out HBX.out hP.out HCX.out hs)
                  clear HL HBX HCX hDD hP HA1 IS
                  by_cases hba : b = a
                  · have HF : Hid (numF s = none) := Lib.hid (by rw [HFIN.out, if_pos (.inr hba)])
                    have hm0 : ((b - a : Nat) : Int) = 0 := by omega
                    go_wp2
                    all_goals (go_ret; exact ⟨by rw [HF.out]; rfl, rfl⟩)
                  · have HF : Hid (numF s = some (valD 8 (sl s a b))) := Lib.hid (by rw [HFIN.out, if_neg (by omega)])
                    have hm0 : ¬ ((b - a : Nat) : Int) = 0 := by omega
                    go_wp2
                    all_goals (go_ret; exact ⟨by rw [HF.out]; rfl, rfl⟩)
          · have hx1 : ¬ (48 : Int) ≤ (x : Int) := by omega
            have HBX : Hid (b < s.length → isDig 8 (s.getD b 0) = false) := Lib.hid fun _ => by
              rw [Bool.eq_false_iff]
              intro h
              rw [isDig_iff, ← HXX.out] at h
              omega
            go_wp2
            go_loop [3] (fun i => ∃ c : Nat, b ≤ c ∧ c ≤ s.length ∧ i = .int .i64 c ∧ Hid ((sl s b c).all isPad = true)) (fun i => s.length - (intOf i).toNat)
            case atStart => exact ⟨b, Nat.le_refl _, hb, rfl, Lib.hid (by rw [sl_same]; rfl)⟩
            case round =>
              obtain ⟨c, hbc, hc, rfl, hP⟩ := hrel
              by_cases hlt : c < s.length
              · have HLT := Lib.hid hlt
                have i1 := IS.out c (by omega)
                have g2 : (c : Int) < (S.size : Int) := by omega
                obtain ⟨x, hxx⟩ : ∃ x, x = (s.getD c 0).toNat := ⟨_, rfl⟩
                have HXX := Lib.hid hxx
                rw [← hxx] at i1
                clear hxx
                by_cases hx : x = 32
                · subst hx
                  have HP2 := Lib.hid (sl_all hbc hlt hP.out (by rw [show s.getD c 0 = 32 from UInt8.toNat_inj.1 HXX.out.symm]; rfl))
                  go_wp2
                  go_round
                  case rel => exact ⟨c + 1, by omega, Nat.succ_le_of_lt HLT.out, by go_num, HP2⟩
                  case measure => have := HLT.out; simp [intOf]; omega
                · have hx1 : ¬ (x : Int) = 32 := by omega
                  have hx2 : ((x : Int) == 32) = false := by rw [beq_eq_false_iff_ne]; omega
                  by_cases hx0 : x = 0
                  · subst hx0
                    have HP2 := Lib.hid (sl_all hbc hlt hP.out (by rw [show s.getD c 0 = 0 from UInt8.toNat_inj.1 HXX.out.symm]; rfl))
                    go_wp2
                    go_round
                    case rel => exact ⟨c + 1, by omega, Nat.succ_le_of_lt HLT.out, by go_num, HP2⟩
                    case measure => have := HLT.out; simp [intOf]; omega
                  · have hx3 : ¬ (x : Int) = 0 := by omega
                    have hx4 : ((x : Int) == 0) = false := by rw [beq_eq_false_iff_ne]; omega
                    have HCX : Hid (c < s.length → isPad (s.getD c 0) = false) := Lib.hid fun _ => by
                      have h := HXX.out
                      unfold isPad
                      rw [Bool.or_eq_false_iff, beq_eq_false_iff_ne, beq_eq_false_iff_ne]
                      exact ⟨fun e => hx (by rw [h, e]; rfl), fun e => hx0 (by rw [h, e]; rfl)⟩
                    have HFIN := Lib.hid (num_fin (s := s) (a := a) (b := b) (c := c) hab hbc hc HL.out hDD.out HBX.out hP.out HCX.out hs)
                    clear HL HBX HCX hDD hP HA1 IS
                    have HF : Hid (numF s = none) := Lib.hid (by rw [HFIN.out, if_pos (.inl HLT.out)])
                    go_wp2
                    all_goals (go_ret; exact ⟨by rw [HF.out]; rfl, rfl⟩)
              · have HCX : Hid (c < s.length → isPad (s.getD c 0) = false) := Lib.hid fun h => absurd h hlt
                have g2 : ¬ (c : Int) < (S.size : Int) := by omega
                have HFIN := Lib.hid (num_fin (s := s) (a := a) (b := b) (c := c) hab hbc hc HL.out hDD.out HBX.out hP.out HCX.out hs)
                clear HL HBX HCX hDD hP HA1 IS
                by_cases hba : b = a
                · have HF : Hid (numF s = none) := Lib.hid (by rw [HFIN.out, if_pos (.inr hba)])
                  have hm0 : ((b - a : Nat) : Int) = 0 := by omega
                  go_wp2
                  all_goals (go_ret; exact ⟨by rw [HF.out]; rfl, rfl⟩)
                · have HF : Hid (numF s = some (valD 8 (sl s a b))) := Lib.hid (by rw [HFIN.out, if_neg (by omega)])
                  have hm0 : ¬ ((b - a : Nat) : Int) = 0 := by omega
                  go_wp2
                  all_goals (go_ret; exact ⟨by rw [HF.out]; rfl, rfl⟩)
        · have HBX : Hid (b < s.length → isDig 8 (s.getD b 0) = false) := Lib.hid fun h => absurd h hlt
          have g2 : ¬ (b : Int) < (S.size : Int) := by omega
          go_wp2
          go_loop [3] (fun i => ∃ c : Nat, b ≤ c ∧ c ≤ s.length ∧ i = .int .i64 c ∧ Hid ((sl s b c).all isPad = true)) (fun i => s.length - (intOf i).toNat)
          case atStart => exact ⟨b, Nat.le_refl _, hb, rfl, Lib.hid (by rw [sl_same]; rfl)⟩
          case round =>
            obtain ⟨c, hbc, hc, rfl, hP⟩ := hrel
            by_cases hlt : c < s.length
            · have HLT := Lib.hid hlt
              have i1 := IS.out c (by omega)
              have g2 : (c : Int) < (S.size : Int) := by omega
              obtain ⟨x, hxx⟩ : ∃ x, x = (s.getD c 0).toNat := ⟨_, rfl⟩
              have HXX := Lib.hid hxx
              rw [← hxx] at i1
              clear hxx
              by_cases hx : x = 32
              · subst hx
                have HP2 := Lib.hid (sl_all hbc hlt hP.out (by rw [show s.getD c 0 = 32 from UInt8.toNat_inj.1 HXX.out.symm]; rfl))
                go_wp2
                go_round
                case rel => exact ⟨c + 1, by omega, Nat.succ_le_of_lt HLT.out, by go_num, HP2⟩
                case measure => have := HLT.out; simp [intOf]; omega
              · have hx1 : ¬ (x : Int) = 32 := by omega
                have hx2 : ((x : Int) == 32) = false := by rw [beq_eq_false_iff_ne]; omega
                by_cases hx0 : x = 0
                · subst hx0
                  have HP2 := Lib.hid (sl_all hbc hlt hP.out (by rw [show s.getD c 0 = 0 from UInt8.toNat_inj.1 HXX.out.symm]; rfl))
                  go_wp2
                  go_round
                  case rel => exact ⟨c + 1, by omega, Nat.succ_le_of_lt HLT.out, by go_num, HP2⟩
                  case measure => have := HLT.out; simp [intOf]; omega
                · have hx3 : ¬ (x : Int) = 0 := by omega
                  have hx4 : ((x : Int) == 0) = false := by rw [beq_eq_false_iff_ne]; omega
                  have HCX : Hid (c < s.length → isPad (s.getD c 0) = false) := Lib.hid fun _ => by
                    have h := HXX.out
                    unfold isPad
                    rw [Bool.or_eq_false_iff, beq_eq_false_iff_ne, beq_eq_false_iff_ne]
                    exact ⟨fun e => hx (by rw [h, e]; rfl), fun e => hx0 (by rw [h, e]; rfl)⟩
                  have HFIN := Lib.hid (num_fin (s := s) (a := a) (b := b) (c := c) hab hbc hc HL.out hDD.out HBX.out hP.out HCX.out hs)
                  clear HL HBX HCX hDD hP HA1 IS
                  have HF : Hid (numF s = none) := Lib.hid (by rw [HFIN.out, if_pos (.inl HLT.out)])
                  go_wp2
                  all_goals (go_ret; exact ⟨by rw [HF.out]; rfl, rfl⟩)
            · have HCX : Hid (c < s.length → isPad (s.getD c 0) = false) := Lib.hid fun h => absurd h hlt
              have g2 : ¬ (c : Int) < (S.size : Int) := by omega
              have HFIN := Lib.hid (num_fin (s := s) (a := a) (b := b) (c := c) hab hbc hc HL.out hDD.out HBX.out hP.out HCX.out hs)
              clear HL HBX HCX hDD hP HA1 IS
              by_cases hba : b = a
              · have HF : Hid (numF s = none) := Lib.hid (by rw [HFIN.out, if_pos (.inr hba)])
                have hm0 : ((b - a : Nat) : Int) = 0 := by omega
                go_wp2
                all_goals (go_ret; exact ⟨by rw [HF.out]; rfl, rfl⟩)
              · have HF : Hid (numF s = some (valD 8 (sl s a b))) := Lib.hid (by rw [HFIN.out, if_neg (by omega)])
                have hm0 : ¬ ((b - a : Nat) : Int) = 0 := by omega
                go_wp2
                all_goals (go_ret; exact ⟨by rw [HF.out]; rfl, rfl⟩)
end Go.Proofs.YtmgpofdmoaafoaaGreatDoor
#print axioms Go.Proofs.YtmgpofdmoaafoaaGreatDoor.numberR_any
