/- Layer 15: the law's own packed. -/
import Derived.Test.YtmgpofdmoaafoaaGreatDoorTrT
import Derived.Laws.MakeOwn
namespace Go.Proofs.YtmgpofdmoaafoaaGreatDoor
open Go.RowKit

theorem zeros_conv {n : Nat} {w : World} {base g : Nat} (h : w.ownsRow base 5 1 (.slice (some ⟨g, 0, none⟩) n n) n (madeCells (Value.int IntKind.u8 0).cells (n * 1)).toList) :
    (convert 30 9 (.slice (some ⟨g, 0, none⟩) n n)).run Tryz.prog w = .ok (.string (str (zerosL n))) w := by
  rw [show (madeCells (Value.int IntKind.u8 0).cells (n * 1)).toList = (zerosL n).map byteV from by rw [zerosL, List.map_replicate, Nat.mul_one]; exact toList_madeCells_one _ _] at h
  obtain ⟨a, cap, hv, hcv⟩ := conv_own h (zerosL_len n)
  simp only [Value.slice.injEq, true_and] at hv
  obtain ⟨rfl, rfl⟩ := hv
  exact hcv
def litE : Ent := ⟨1, [97], [], 420, [104, 105]⟩
theorem write_none : writeL [] = (zerosL 1024, 0) := by decide +kernel
theorem write_lit : (writeL [litE]).2 = 0 ∧ (writeL [litE]).1.length = 2048 ∧ sl (writeL [litE]).1 0 2 = [97, 0] ∧ sl (writeL [litE]).1 100 108 = [48, 48, 48, 48, 54, 52, 52, 0] ∧ sl (writeL [litE]).1 124 136 = [48, 48, 48, 48, 48, 48, 48, 48, 48, 48, 50, 0] ∧ sl (writeL [litE]).1 512 515 = [104, 105, 0] := by decide +kernel
theorem read_512 : readR (zerosL 512) none [] = (10, []) := by
  rw [readR, if_neg (by rw [zerosL_len]; omega), List.take_of_length_le (by rw [zerosL_len]; omega), List.drop_of_length_le (by rw [zerosL_len]; omega), allZ_zeros, if_pos rfl, if_pos]
  exact .inr (.inl (by decide))
set_option maxRecDepth 100000 in
set_option maxHeartbeats 16000000 in
theorem packed_any (w : World) (hE : EnvT w) :
    Calls Tryz.prog 5 #[] w fun e w' => e = .returned (.bool true) ∧ Below w.heap.size w w' := by
  have HE := Lib.hid hE
  obtain ⟨i0, hi, hz0, hz1, hz2⟩ := info_parts info_u8
  obtain ⟨k0, ki, kz0, kz1, kz2⟩ := info_parts info_ent
  obtain ⟨f1, f2, f3, f4, f5, f6⟩ := write_lit
  have CW := writes_any [] none 0 (by simp) (by simp) w hE (fun i x hx => by simp at hx)
  rw [write_none] at CW
  dsimp only [List.length_nil] at CW
  obtain ⟨Z, hZ⟩ : ∃ Z, Z = str (zerosL 1024) := ⟨_, rfl⟩
  have CR1 := read_any (zerosL 1024) (by rw [zerosL_len]; omega)
  rw [readR_end 1024 [] (Nat.le_refl _)] at CR1
  have CR2 := read_any (zerosL 512) (by rw [zerosL_len]; omega)
  rw [read_512] at CR2
  have CR3 := read_any [] (by simp)
  rw [readR_short none [] (by simp), show str [] = ⟨#[]⟩ from rfl] at CR3
  rw [← hZ] at CW CR1
  have HZ := Lib.hid hZ
  clear hZ hE
  have HCR1 := Lib.hid CR1
  have HCR2 := Lib.hid CR2
  have HCR3 := Lib.hid CR3
  clear CR1 CR2 CR3
  go_enter Tryz.func5, Tryz.ntmps5
  go_upto_region 2 with (first
    | (go_at_call 11; ((with_reducible refine CW.mono ?_); rintro e w1 ⟨rfl, hb1⟩; have B1 := Lib.hid hb1; clear hb1)))
  clear CW
  go_upto_region 3 with (first
    | (go_at_call 8; ((with_reducible refine (HCR1.out _).mono ?_); rintro e w2 ⟨v1, rfl, ho1, b2⟩; obtain ⟨a1, c1, rfl⟩ := owns_form ho1; have B2 := Lib.hid (B1.out.trans (b2.mono B1.out.size)); clear ho1 b2 B1)))
  clear HCR1
  go_upto_region 4 with (first
    | (at_make; refine wpList_make_full _ rfl _ _ 30 rfl w2.heap.size 5 i0 (.int .u8 0) 1 Tryz.underlying30 hi hz0 hz1 .i64 .i64 _ _ 512 rfl rfl rfl rfl (by rw [hz2]; omega) (by unfold maxLen; omega) (Nat.le_refl _) ?_; intro w0 hown0 hgrow0; have hcv := zeros_conv hown0; have B3 := Lib.hid (B2.out.trans (((Below.refl _ _).grown hgrow0 (Nat.le_refl _) (fun j hj => by cases hj)).mono B2.out.size)); clear hown0 hgrow0 B2)
    | (go_at_call 8; ((with_reducible refine (HCR2.out _).mono ?_); rintro e w3 ⟨v2, rfl, ho2, b3⟩; obtain ⟨a2, c2, rfl⟩ := owns_form ho2; have B4 := Lib.hid (B3.out.trans (b3.mono B3.out.size)); clear ho2 b3 B3 hcv)))
  clear HCR2
  go_upto_region 5 with (first
    | (go_at_call 8; ((with_reducible refine (HCR3.out _).mono ?_); rintro e w4 ⟨v3, rfl, ho3, b4⟩; obtain ⟨a3, c3, rfl⟩ := owns_form ho3; have B5 := Lib.hid (B4.out.trans (b4.mono B4.out.size)); clear ho3 b4 B4)))
  clear HCR3
  have HL : Hid (EntsAt (w4.alloc (.cells (entA litE) 39)) (some ⟨w4.heap.size, 0, none⟩) [litE]) := Lib.hid fun i x hx => by
    obtain rfl : i = 0 := by have := (List.getElem?_eq_some_iff.1 hx).1; simpa using this
    obtain rfl : litE = x := by simpa using hx
    refine ⟨_, rfl, by rw [size_alloc]; exact Nat.lt_succ_self _, fun j u hu => ?_⟩
    have e : ((⟨w4.heap.size, 0, none⟩ : Addr).add (0 * 5)).add j = ⟨w4.heap.size, j, none⟩ := by
      unfold Addr.add
      by_cases h2 : j = 0 <;> simp [h2]
    rw [e, rowC_cell (rowC_new w4 _ _)]
    rw [← entV_arr, List.getElem?_toArray]
    exact hu
  have hb5 : Below w.heap.size w (w4.alloc (.cells (entA litE) 39)) := B5.out.alloc (B5.out.size) _
  have CL := writes_any [litE] (some ⟨w4.heap.size, 0, none⟩) 1 (by decide) (by decide) _ (HE.out.below hb5) HL.out
  have B6 := Lib.hid hb5
  clear B5 hb5
  obtain ⟨X, hX⟩ : ∃ X, X = str (writeL [litE]).1 := ⟨_, rfl⟩
  rw [f1, ← hX, show [litE].length = 1 from rfl] at CL
  have xs : X.size = 2048 := by rw [hX, str_size, f2]
  have x1 : ((X.extract 0 2).toList == [97, 0]) = true := by rw [hX, extract_str, f3, eq_lit]; rfl
  have x2 : ((X.extract 100 108).toList == [48, 48, 48, 48, 54, 52, 52, 0]) = true := by rw [hX, extract_str, f4, eq_lit]; rfl
  have x3 : ((X.extract 124 136).toList == [48, 48, 48, 48, 48, 48, 48, 48, 48, 48, 50, 0]) = true := by rw [hX, extract_str, f5, eq_lit]; rfl
  have x4 : ((X.extract 512 515).toList == [104, 105, 0]) = true := by rw [hX, extract_str, f6, eq_lit]; rfl
  clear hX f1 f2 f3 f4 f5 f6
  have kz : k0.size = (entA litE).size := kz1
  go_upto_region 6 with (first
    | ((with_reducible show wpList _ _ _ (⟨some 32, .buildSlice _ _ _, _, _, _, _⟩ :: _) _ _); refine wpList_oneR rfl 22 39 5 _ rfl (entA litE) rfl k0 _ Tryz.underlying22 ki kz0 kz1 rfl (by decide) (by decide) ?_)
    | (go_at_call 11; go_loud ((refine CL.mono ?_); rintro e w5 ⟨rfl, hb6⟩; have B7 := Lib.hid (B6.out.trans (hb6.mono B6.out.size)); clear hb6)))
  clear CL HL B6
  go_wp2_with (first
    | (at_make; refine wpList_make_full _ rfl _ _ 30 rfl w5.heap.size 5 i0 (.int .u8 0) 1 Tryz.underlying30 hi hz0 hz1 .i64 .i64 _ _ 1024 rfl rfl rfl rfl (by rw [hz2]; omega) (by unfold maxLen; omega) (Nat.le_refl _) ?_; intro w0 hown0 hgrow0; have hcv := zeros_conv hown0; have B8 := Lib.hid (B7.out.trans (((Below.refl _ _).grown hgrow0 (Nat.le_refl _) (fun j hj => by cases hj)).mono B7.out.size)); rw [← HZ.out] at hcv; clear hown0 hgrow0 B7))
  go_ret
  exact ⟨by simp [*], B8.out⟩
end Go.Proofs.YtmgpofdmoaafoaaGreatDoor
