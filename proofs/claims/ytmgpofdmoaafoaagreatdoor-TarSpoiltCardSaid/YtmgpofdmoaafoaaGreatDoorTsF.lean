/- Layer 15: the document's head. -/
import Derived.Test.YtmgpofdmoaafoaaGreatDoorTsE
namespace Go.Proofs.YtmgpofdmoaafoaaGreatDoor
open Go.RowKit

theorem sumH_mid (a b : Bs) (ha : a.length = 148) : sumH (a ++ zerosL 8 ++ b) = sumL a + 256 + sumL b := by
  unfold sumH
  rw [List.append_assoc, List.take_left' ha, ← List.append_assoc, List.drop_left' (by rw [List.length_append, zerosL_len, ha])]
set_option maxRecDepth 100000 in
set_option maxHeartbeats 8000000 in
theorem headR_any (name lnk : Bs) (mode size : Nat) (k : UInt8) (hn : name.length ≤ 1000000) (ht : lnk.length ≤ 1000000) (hm : mode ≤ 1000000000) (hs : size ≤ 1000000000) (w : World) :
    Calls Tryz.prog 14 #[.string (str name), .string (str lnk), .int .i64 (mode : Int), .int .i64 (size : Int), .string (str [k])] w fun e w' => e = .returned (.string (str (headW name lnk mode size k))) ∧ Below w.heap.size w w' := by
  have T1 := fun W => textR_any name 100 (by decide) hn W
  have T2 := fun W => textR_any lnk 100 (by decide) ht W
  have O1 := fun W => octal_any mode 7 (by omega) (by decide) W
  have O2 := fun W => octal_any 0 7 (by decide) (by decide) W
  have O3 := fun W => octal_any size 11 (by omega) (by decide) W
  have O4 := fun W => octal_any 0 11 (by decide) (by decide) W
  have O5 := fun W => octal_any (sumL (preH name mode size) + 256 + sumL (postH lnk k)) 6 (by have := sumL_le (preH name mode size); have := sumL_le (postH lnk k); rw [preH_len] at *; rw [postH_len] at *; omega) (by decide) W
  have S1 := fun W => rsum_any (preH name mode size ++ zerosL 8 ++ postH lnk k) (by rw [List.length_append, List.length_append, preH_len, postH_len, zerosL_len]) W
  rw [sumH_mid _ _ (preH_len ..), ← str_append, ← str_append] at S1
  have Z1 := fun W => zerosR_any 1 (by decide) W
  have Z8 := fun W => zerosR_any 8 (by decide) W
  have Z247 := fun W => zerosR_any 247 (by decide) W
  have eP : str (padT name 100) ++ str (octD mode 7 ++ [0]) ++ str (octD 0 7 ++ [0]) ++ str (octD 0 7 ++ [0]) ++ str (octD size 11 ++ [0]) ++ str (octD 0 11 ++ [0]) = str (preH name mode size) := by
    simp only [str_append]; rfl
  have eQ : str [k] ++ str (padT lnk 100) ++ ⟨#[117, 115, 116, 97, 114]⟩ ++ str (zerosL 1) ++ ⟨#[48, 48]⟩ ++ str (zerosL 247) = str (postH lnk k) := by
    rw [show (⟨#[117, 115, 116, 97, 114]⟩ : ByteArray) = str [117, 115, 116, 97, 114] from rfl, show (⟨#[48, 48]⟩ : ByteArray) = str [48, 48] from rfl]
    simp only [str_append]
    unfold postH magicL zerosL
    simp only [List.append_assoc]
    rfl
  obtain ⟨V, hV⟩ : ∃ V, V = sumL (preH name mode size) + 256 + sumL (postH lnk k) := ⟨_, rfl⟩
  have eR : str (preH name mode size) ++ str (octD V 6 ++ [0]) ++ ⟨#[32]⟩ ++ str (postH lnk k) = str (headW name lnk mode size k) := by
    rw [show (⟨#[32]⟩ : ByteArray) = str [32] from rfl]
    simp only [str_append]
    unfold headW
    rw [← hV]
    simp only [List.append_assoc]
    rfl
  rw [← hV] at O5 S1
  have z1 : (str (padT name 100)).size = 100 := by rw [str_size, padT_len]
  have z2 : (str (padT lnk 100)).size = 100 := by rw [str_size, padT_len]
  have z3 : (str (octD mode 7 ++ [0])).size = 8 := by rw [str_size, List.length_append, octD_len]; rfl
  have z4 : (str (octD 0 7 ++ [0])).size = 8 := by rw [str_size, List.length_append, octD_len]; rfl
  have z5 : (str (octD size 11 ++ [0])).size = 12 := by rw [str_size, List.length_append, octD_len]; rfl
  have z6 : (str (octD 0 11 ++ [0])).size = 12 := by rw [str_size, List.length_append, octD_len]; rfl
  have z7 : (str (octD V 6 ++ [0])).size = 7 := by rw [str_size, List.length_append, octD_len]; rfl
  have z8 : (str (zerosL 1)).size = 1 := by rw [str_size, zerosL_len]
  have z9 : (str (zerosL 8)).size = 8 := by rw [str_size, zerosL_len]
  have z10 : (str (zerosL 247)).size = 247 := by rw [str_size, zerosL_len]
  have z11 : (str (preH name mode size)).size = 148 := by rw [str_size, preH_len]
  have z12 : (str (postH lnk k)).size = 356 := by rw [str_size, postH_len]
  have z13 : (str [k]).size = 1 := by rw [str_size]; rfl
  clear hV
  rw [show ((100 : Nat) : Int) = 100 from rfl] at T1 T2
  rw [show ((7 + 1 : Nat) : Int) = 8 from rfl] at O1 O2
  rw [show ((11 + 1 : Nat) : Int) = 12 from rfl] at O3 O4
  rw [show ((6 + 1 : Nat) : Int) = 7 from rfl] at O5
  rw [show ((0 : Nat) : Int) = 0 from rfl] at O2 O4
  rw [show ((1 : Nat) : Int) = 1 from rfl] at Z1
  rw [show ((8 : Nat) : Int) = 8 from rfl] at Z8
  rw [show ((247 : Nat) : Int) = 247 from rfl] at Z247
  generalize str (padT name 100) = A1 at *
  generalize str (padT lnk 100) = A2 at *
  generalize str (octD mode 7 ++ [0]) = A3 at *
  generalize str (octD 0 7 ++ [0]) = A4 at *
  generalize str (octD size 11 ++ [0]) = A5 at *
  generalize str (octD 0 11 ++ [0]) = A6 at *
  generalize str (octD V 6 ++ [0]) = A7 at *
  generalize str (zerosL 1) = A8 at *
  generalize str (zerosL 8) = A9 at *
  generalize str (zerosL 247) = A10 at *
  generalize str (preH name mode size) = P at *
  generalize str (postH lnk k) = Q at *
  generalize str [k] = K at *
  generalize str (headW name lnk mode size k) = R at *
  generalize str name = NM at *
  generalize str lnk = TO at *
  have HP := Lib.hid eP
  have HQ := Lib.hid eQ
  have HR := Lib.hid eR
  clear eP eQ eR
  go_enter Tryz.func14, Tryz.ntmps14
  go_upto_region 2 with (first
    | (go_at_call 34; ((with_reducible refine (T1 _).mono ?_); rintro e w1 ⟨rfl, hb⟩; have B1 := Lib.hid hb; clear hb))
    | (go_at_call 35; ((with_reducible refine (O1 _).mono ?_); rintro e w2 ⟨rfl, hb⟩; have B2 := Lib.hid (B1.out.trans (hb.mono B1.out.size)); clear hb B1 O1))
    | (go_at_call 35; ((with_reducible refine (O3 _).mono ?_); rintro e w5 ⟨rfl, hb⟩; have B5 := Lib.hid (B4.out.trans (hb.mono B4.out.size)); clear hb B4 O3))
    | (go_at_call 35; ((with_reducible refine (O4 _).mono ?_); rintro e w6 ⟨rfl, hb⟩; have B6 := Lib.hid (B5.out.trans (hb.mono B5.out.size)); clear hb B5 O4))
    | (go_at_call 35; ((with_reducible refine (O2 _).mono ?_); rintro e w4 ⟨rfl, hb⟩; have B4 := Lib.hid (B3.out.trans (hb.mono B3.out.size)); clear hb B3))
    | (go_at_call 35; ((with_reducible refine (O2 _).mono ?_); rintro e w3 ⟨rfl, hb⟩; have B3 := Lib.hid (B2.out.trans (hb.mono B2.out.size)); clear hb B2)))
  rw [HP.out]
  clear HP T1 O2 z1 z3 z4 z5 z6
  go_upto_region 3 with (first
    | (go_at_call 34; ((with_reducible refine (T2 _).mono ?_); rintro e w7 ⟨rfl, hb⟩; have B7 := Lib.hid (B6.out.trans (hb.mono B6.out.size)); clear hb B6))
    | (go_at_call 16; ((with_reducible refine (Z1 _).mono ?_); rintro e w8 ⟨rfl, hb⟩; have B8 := Lib.hid (B7.out.trans (hb.mono B7.out.size)); clear hb B7))
    | (go_at_call 16; ((with_reducible refine (Z247 _).mono ?_); rintro e w9 ⟨rfl, hb⟩; have B9 := Lib.hid (B8.out.trans (hb.mono B8.out.size)); clear hb B8)))
  rw [HQ.out]
  clear HQ T2 Z1 Z247 z2 z8 z10 z13
  go_wp2_with (first
    | (go_at_call 16; ((with_reducible refine (Z8 _).mono ?_); rintro e w10 ⟨rfl, hb⟩; have B10 := Lib.hid (B9.out.trans (hb.mono B9.out.size)); clear hb B9))
    | (go_at_call 7; ((with_reducible refine (S1 _).mono ?_); rintro e w11 ⟨rfl, rfl⟩))
    | (go_at_call 35; ((with_reducible refine (O5 _).mono ?_); rintro e w12 ⟨rfl, hb⟩; have B12 := Lib.hid (B10.out.trans (hb.mono B10.out.size)); clear hb B10)))
  go_ret
  exact ⟨by rw [← HR.out]; rfl, B12.out⟩
/-! ### Numbers, records -/
def decN : Nat → Bs := fun n => if n < 10 then [UInt8.ofNat (48 + n)] else if n < 100 then [UInt8.ofNat (48 + n / 10), UInt8.ofNat (48 + n % 10)] else dec3 n
set_option maxRecDepth 100000 in
set_option maxHeartbeats 4000000 in
theorem dec_one (n : Nat) (h : n < 10) (w : World) : Calls Tryz.prog 33 #[.int .i64 (n : Int)] w fun e w' => e = .returned (.string (str [UInt8.ofNat (48 + n)])) ∧ w = w' := by
  have hd := dig10 n h
  generalize str [UInt8.ofNat (48 + n)] = D at *
  go_enter Tryz.func33, Tryz.ntmps33
  go_wp2
  go_ret
  exact ⟨rfl, rfl⟩
theorem dec_more (n : Nat) (h1 : 10 ≤ n) (h2 : n < 1000) (T : ByteArray) (hT : T.size ≤ 10) (hc : ∀ W, Calls Tryz.prog 33 #[.int .i64 ((n / 10 : Nat) : Int)] W fun e w' => e = .returned (.string T) ∧ W = w') (w : World) :
    Calls Tryz.prog 33 #[.int .i64 (n : Int)] w fun e w' => e = .returned (.string (T ++ str [UInt8.ofNat (48 + n % 10)])) ∧ w = w' := by
  have C2 := fun W => dec_one (n % 10) (Nat.mod_lt _ (by decide)) W
  have z2 : (str [UInt8.ofNat (48 + n % 10)]).size = 1 := rfl
  have e1 : (n : Int).tdiv 10 = ((n / 10 : Nat) : Int) := by rw [Int.tdiv_eq_ediv_of_nonneg (by omega)]; omega
  have e2 : (n : Int).tmod 10 = ((n % 10 : Nat) : Int) := by rw [Int.tmod_eq_emod_of_nonneg (by omega)]; omega
  have e3 : (n : Int) / 10 = ((n / 10 : Nat) : Int) := by omega
  have e4 : (n : Int) % 10 = ((n % 10 : Nat) : Int) := by omega
  generalize str [UInt8.ofNat (48 + n % 10)] = D at *
  generalize n / 10 = a at *
  generalize n % 10 = b at *
  go_enter Tryz.func33, Tryz.ntmps33
  go_wp2_with (first
    | (go_at_call 33; ((with_reducible refine (hc _).mono ?_); rintro e w1 ⟨rfl, rfl⟩))
    | (go_at_call 33; ((with_reducible refine (C2 _).mono ?_); rintro e w1 ⟨rfl, rfl⟩)))
  go_ret
  exact ⟨rfl, rfl⟩
end Go.Proofs.YtmgpofdmoaafoaaGreatDoor
