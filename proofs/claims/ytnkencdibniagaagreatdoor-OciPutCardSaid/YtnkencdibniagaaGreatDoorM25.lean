/- Merged: OdJ, OdK, OdL. -/
import Derived.Test.YtnkencdibniagaaGreatDoorM24
import Derived.BigQuiet
/- Layer 13: what a media type is; a digest as it is read. -/
namespace Go.Proofs.YtnkencdibniagaaGreatDoor
open Go.RowKit

theorem eqT (h l : Bs) : ((str h).toList == l) = decide (h = l) := by
  have := eq_texts h l
  rwa [show (str l).toList = l from ByteArray.toList_mk _] at this
theorem eq_mMan (s : Bs) : ((str s).toList == [97, 112, 112, 108, 105, 99, 97, 116, 105, 111, 110, 47, 118, 110, 100, 46, 111, 99, 105, 46, 105, 109, 97, 103, 101, 46, 109, 97, 110, 105, 102, 101, 115, 116, 46, 118, 49, 43, 106, 115, 111, 110]) = decide (s = mMan) := eqT s mMan
theorem eq_dMan (s : Bs) : ((str s).toList == [97, 112, 112, 108, 105, 99, 97, 116, 105, 111, 110, 47, 118, 110, 100, 46, 100, 111, 99, 107, 101, 114, 46, 100, 105, 115, 116, 114, 105, 98, 117, 116, 105, 111, 110, 46, 109, 97, 110, 105, 102, 101, 115, 116, 46, 118, 50, 43, 106, 115, 111, 110]) = decide (s = dMan) := eqT s dMan
theorem eq_mIdx (s : Bs) : ((str s).toList == [97, 112, 112, 108, 105, 99, 97, 116, 105, 111, 110, 47, 118, 110, 100, 46, 111, 99, 105, 46, 105, 109, 97, 103, 101, 46, 105, 110, 100, 101, 120, 46, 118, 49, 43, 106, 115, 111, 110]) = decide (s = mIdx) := eqT s mIdx
theorem eq_dIdx (s : Bs) : ((str s).toList == [97, 112, 112, 108, 105, 99, 97, 116, 105, 111, 110, 47, 118, 110, 100, 46, 100, 111, 99, 107, 101, 114, 46, 100, 105, 115, 116, 114, 105, 98, 117, 116, 105, 111, 110, 46, 109, 97, 110, 105, 102, 101, 115, 116, 46, 108, 105, 115, 116, 46, 118, 50, 43, 106, 115, 111, 110]) = decide (s = dIdx) := eqT s dIdx
theorem eq_mCfg (s : Bs) : ((str s).toList == [97, 112, 112, 108, 105, 99, 97, 116, 105, 111, 110, 47, 118, 110, 100, 46, 111, 99, 105, 46, 105, 109, 97, 103, 101, 46, 99, 111, 110, 102, 105, 103, 46, 118, 49, 43, 106, 115, 111, 110]) = decide (s = mCfg) := eqT s mCfg
theorem eq_dCfg (s : Bs) : ((str s).toList == [97, 112, 112, 108, 105, 99, 97, 116, 105, 111, 110, 47, 118, 110, 100, 46, 100, 111, 99, 107, 101, 114, 46, 99, 111, 110, 116, 97, 105, 110, 101, 114, 46, 105, 109, 97, 103, 101, 46, 118, 49, 43, 106, 115, 111, 110]) = decide (s = dCfg) := eqT s dCfg
theorem eq_mLay (s : Bs) : ((str s).toList == [97, 112, 112, 108, 105, 99, 97, 116, 105, 111, 110, 47, 118, 110, 100, 46, 111, 99, 105, 46, 105, 109, 97, 103, 101, 46, 108, 97, 121, 101, 114, 46, 118, 49, 46, 116, 97, 114]) = decide (s = mLay) := eqT s mLay
theorem eq_dLay (s : Bs) : ((str s).toList == [97, 112, 112, 108, 105, 99, 97, 116, 105, 111, 110, 47, 118, 110, 100, 46, 100, 111, 99, 107, 101, 114, 46, 105, 109, 97, 103, 101, 46, 114, 111, 111, 116, 102, 115, 46, 100, 105, 102, 102, 46, 116, 97, 114]) = decide (s = dLay) := eqT s dLay
theorem kind_cases (s : Bs) : s = mMan ∨ s = dMan ∨ s = mIdx ∨ s = dIdx ∨ s = mCfg ∨ s = dCfg ∨ s = mLay ∨ s = dLay ∨ (s ≠ mMan ∧ s ≠ dMan ∧ s ≠ mIdx ∧ s ≠ dIdx ∧ s ≠ mCfg ∧ s ≠ dCfg ∧ s ≠ mLay ∧ s ≠ dLay) := by
  by_cases h_mMan : s = mMan
  · simp [h_mMan]
  by_cases h_dMan : s = dMan
  · simp [h_dMan]
  by_cases h_mIdx : s = mIdx
  · simp [h_mIdx]
  by_cases h_dIdx : s = dIdx
  · simp [h_dIdx]
  by_cases h_mCfg : s = mCfg
  · simp [h_mCfg]
  by_cases h_dCfg : s = dCfg
  · simp [h_dCfg]
  by_cases h_mLay : s = mLay
  · simp [h_mLay]
  by_cases h_dLay : s = dLay
  · simp [h_dLay]
  exact .inr (.inr (.inr (.inr (.inr (.inr (.inr (.inr (⟨h_mMan, h_dMan, h_mIdx, h_dIdx, h_mCfg, h_dCfg, h_mLay, h_dLay⟩))))))))
set_option maxRecDepth 100000 in
set_option maxHeartbeats 8000000 in
theorem kind_any (s : Bs) (w : World) : Calls Tryz.prog 24 #[.string (str s)] w fun e w' => e = .returned (.int .i64 (kindN s : Int)) ∧ w = w' := by
  rcases kind_cases s with h | h | h | h | h | h | h | h | ⟨h0, h1, h2, h3, h4, h5, h6, h7⟩
  · have hk : kindN s = 1 := by rw [h]; rfl
    rw [hk]
    have f0 := (eq_mMan s).trans (show decide (s = mMan) = true by rw [h]; rfl)
    have f1 := (eq_dMan s).trans (show decide (s = dMan) = false by rw [h]; rfl)
    have f2 := (eq_mIdx s).trans (show decide (s = mIdx) = false by rw [h]; rfl)
    have f3 := (eq_dIdx s).trans (show decide (s = dIdx) = false by rw [h]; rfl)
    have f4 := (eq_mCfg s).trans (show decide (s = mCfg) = false by rw [h]; rfl)
    have f5 := (eq_dCfg s).trans (show decide (s = dCfg) = false by rw [h]; rfl)
    have f6 := (eq_mLay s).trans (show decide (s = mLay) = false by rw [h]; rfl)
    have f7 := (eq_dLay s).trans (show decide (s = dLay) = false by rw [h]; rfl)
    clear h hk
    go_enter Tryz.func24, Tryz.ntmps24
    go_wp2
    go_ret
    exact ⟨rfl, rfl⟩
  · have hk : kindN s = 1 := by rw [h]; rfl
    rw [hk]
    have f0 := (eq_mMan s).trans (show decide (s = mMan) = false by rw [h]; rfl)
    have f1 := (eq_dMan s).trans (show decide (s = dMan) = true by rw [h]; rfl)
    have f2 := (eq_mIdx s).trans (show decide (s = mIdx) = false by rw [h]; rfl)
    have f3 := (eq_dIdx s).trans (show decide (s = dIdx) = false by rw [h]; rfl)
    have f4 := (eq_mCfg s).trans (show decide (s = mCfg) = false by rw [h]; rfl)
    have f5 := (eq_dCfg s).trans (show decide (s = dCfg) = false by rw [h]; rfl)
    have f6 := (eq_mLay s).trans (show decide (s = mLay) = false by rw [h]; rfl)
    have f7 := (eq_dLay s).trans (show decide (s = dLay) = false by rw [h]; rfl)
    clear h hk
    go_enter Tryz.func24, Tryz.ntmps24
    go_wp2
    go_ret
    exact ⟨rfl, rfl⟩
  · have hk : kindN s = 2 := by rw [h]; rfl
    rw [hk]
    have f0 := (eq_mMan s).trans (show decide (s = mMan) = false by rw [h]; rfl)
    have f1 := (eq_dMan s).trans (show decide (s = dMan) = false by rw [h]; rfl)
    have f2 := (eq_mIdx s).trans (show decide (s = mIdx) = true by rw [h]; rfl)
    have f3 := (eq_dIdx s).trans (show decide (s = dIdx) = false by rw [h]; rfl)
    have f4 := (eq_mCfg s).trans (show decide (s = mCfg) = false by rw [h]; rfl)
    have f5 := (eq_dCfg s).trans (show decide (s = dCfg) = false by rw [h]; rfl)
    have f6 := (eq_mLay s).trans (show decide (s = mLay) = false by rw [h]; rfl)
    have f7 := (eq_dLay s).trans (show decide (s = dLay) = false by rw [h]; rfl)
    clear h hk
    go_enter Tryz.func24, Tryz.ntmps24
    go_wp2
    go_ret
    exact ⟨rfl, rfl⟩
  · have hk : kindN s = 2 := by rw [h]; rfl
    rw [hk]
    have f0 := (eq_mMan s).trans (show decide (s = mMan) = false by rw [h]; rfl)
    have f1 := (eq_dMan s).trans (show decide (s = dMan) = false by rw [h]; rfl)
    have f2 := (eq_mIdx s).trans (show decide (s = mIdx) = false by rw [h]; rfl)
    have f3 := (eq_dIdx s).trans (show decide (s = dIdx) = true by rw [h]; rfl)
    have f4 := (eq_mCfg s).trans (show decide (s = mCfg) = false by rw [h]; rfl)
    have f5 := (eq_dCfg s).trans (show decide (s = dCfg) = false by rw [h]; rfl)
    have f6 := (eq_mLay s).trans (show decide (s = mLay) = false by rw [h]; rfl)
    have f7 := (eq_dLay s).trans (show decide (s = dLay) = false by rw [h]; rfl)
    clear h hk
    go_enter Tryz.func24, Tryz.ntmps24
    go_wp2
    go_ret
    exact ⟨rfl, rfl⟩
  · have hk : kindN s = 3 := by rw [h]; rfl
    rw [hk]
    have f0 := (eq_mMan s).trans (show decide (s = mMan) = false by rw [h]; rfl)
    have f1 := (eq_dMan s).trans (show decide (s = dMan) = false by rw [h]; rfl)
    have f2 := (eq_mIdx s).trans (show decide (s = mIdx) = false by rw [h]; rfl)
    have f3 := (eq_dIdx s).trans (show decide (s = dIdx) = false by rw [h]; rfl)
    have f4 := (eq_mCfg s).trans (show decide (s = mCfg) = true by rw [h]; rfl)
    have f5 := (eq_dCfg s).trans (show decide (s = dCfg) = false by rw [h]; rfl)
    have f6 := (eq_mLay s).trans (show decide (s = mLay) = false by rw [h]; rfl)
    have f7 := (eq_dLay s).trans (show decide (s = dLay) = false by rw [h]; rfl)
    clear h hk
    go_enter Tryz.func24, Tryz.ntmps24
    go_wp2
    go_ret
    exact ⟨rfl, rfl⟩
  · have hk : kindN s = 3 := by rw [h]; rfl
    rw [hk]
    have f0 := (eq_mMan s).trans (show decide (s = mMan) = false by rw [h]; rfl)
    have f1 := (eq_dMan s).trans (show decide (s = dMan) = false by rw [h]; rfl)
    have f2 := (eq_mIdx s).trans (show decide (s = mIdx) = false by rw [h]; rfl)
    have f3 := (eq_dIdx s).trans (show decide (s = dIdx) = false by rw [h]; rfl)
    have f4 := (eq_mCfg s).trans (show decide (s = mCfg) = false by rw [h]; rfl)
    have f5 := (eq_dCfg s).trans (show decide (s = dCfg) = true by rw [h]; rfl)
    have f6 := (eq_mLay s).trans (show decide (s = mLay) = false by rw [h]; rfl)
    have f7 := (eq_dLay s).trans (show decide (s = dLay) = false by rw [h]; rfl)
    clear h hk
    go_enter Tryz.func24, Tryz.ntmps24
    go_wp2
    go_ret
    exact ⟨rfl, rfl⟩
  · have hk : kindN s = 4 := by rw [h]; rfl
    rw [hk]
    have f0 := (eq_mMan s).trans (show decide (s = mMan) = false by rw [h]; rfl)
    have f1 := (eq_dMan s).trans (show decide (s = dMan) = false by rw [h]; rfl)
    have f2 := (eq_mIdx s).trans (show decide (s = mIdx) = false by rw [h]; rfl)
    have f3 := (eq_dIdx s).trans (show decide (s = dIdx) = false by rw [h]; rfl)
    have f4 := (eq_mCfg s).trans (show decide (s = mCfg) = false by rw [h]; rfl)
    have f5 := (eq_dCfg s).trans (show decide (s = dCfg) = false by rw [h]; rfl)
    have f6 := (eq_mLay s).trans (show decide (s = mLay) = true by rw [h]; rfl)
    have f7 := (eq_dLay s).trans (show decide (s = dLay) = false by rw [h]; rfl)
    clear h hk
    go_enter Tryz.func24, Tryz.ntmps24
    go_wp2
    go_ret
    exact ⟨rfl, rfl⟩
  · have hk : kindN s = 4 := by rw [h]; rfl
    rw [hk]
    have f0 := (eq_mMan s).trans (show decide (s = mMan) = false by rw [h]; rfl)
    have f1 := (eq_dMan s).trans (show decide (s = dMan) = false by rw [h]; rfl)
    have f2 := (eq_mIdx s).trans (show decide (s = mIdx) = false by rw [h]; rfl)
    have f3 := (eq_dIdx s).trans (show decide (s = dIdx) = false by rw [h]; rfl)
    have f4 := (eq_mCfg s).trans (show decide (s = mCfg) = false by rw [h]; rfl)
    have f5 := (eq_dCfg s).trans (show decide (s = dCfg) = false by rw [h]; rfl)
    have f6 := (eq_mLay s).trans (show decide (s = mLay) = false by rw [h]; rfl)
    have f7 := (eq_dLay s).trans (show decide (s = dLay) = true by rw [h]; rfl)
    clear h hk
    go_enter Tryz.func24, Tryz.ntmps24
    go_wp2
    go_ret
    exact ⟨rfl, rfl⟩
  · have hk : kindN s = 0 := by unfold kindN; rw [if_neg (by simp [h0, h1]), if_neg (by simp [h2, h3]), if_neg (by simp [h4, h5]), if_neg (by simp [h6, h7])]
    rw [hk]
    have f0 := (eq_mMan s).trans (decide_eq_false h0)
    have f1 := (eq_dMan s).trans (decide_eq_false h1)
    have f2 := (eq_mIdx s).trans (decide_eq_false h2)
    have f3 := (eq_dIdx s).trans (decide_eq_false h3)
    have f4 := (eq_mCfg s).trans (decide_eq_false h4)
    have f5 := (eq_dCfg s).trans (decide_eq_false h5)
    have f6 := (eq_mLay s).trans (decide_eq_false h6)
    have f7 := (eq_dLay s).trans (decide_eq_false h7)
    clear hk h0 h1 h2 h3 h4 h5 h6 h7
    go_enter Tryz.func24, Tryz.ntmps24
    go_wp2
    go_ret
    exact ⟨rfl, rfl⟩
theorem info_Gc (l : Bs) (h : l.length = 32) : (Tryz.prog.info? 24).map (·.size) = some (cells8 l).size := by rw [cells8_size, h]; exact info_G
set_option maxRecDepth 100000 in
set_option maxHeartbeats 8000000 in
theorem readDigest_any (x : JV) (w : World) (y : Option Addr) (m : Nat) (z : Option Addr) (n : Nat) :
    Calls Tryz.prog 83 #[.agg (row4 x.kind (str x.text) y x.items.length m z x.keys.length n)] w fun e w' => ReadP eDig w (digV x) e w' := by
  obtain ⟨W0, hW0⟩ : ∃ W0, W0 = (w.alloc (.cells (row4 x.kind (str x.text) y x.items.length m z x.keys.length n) 63)).alloc (.cells (cells8 zero32) 24) := ⟨_, rfl⟩
  have s1 := size_alloc w (.cells (row4 x.kind (str x.text) y x.items.length m z x.keys.length n) 63)
  have Z0 : rowC W0 (w.heap.size + 1) (cells8 zero32) 24 := by rw [hW0, ← s1]; exact rowC_new _ _ _
  have R0 : rowC W0 w.heap.size (row4 x.kind (str x.text) y x.items.length m z x.keys.length n) 63 := by rw [hW0]; exact rowC_alloc (rowC_new w _ _) _
  have B0 : Below w.heap.size w W0 := by rw [hW0]; exact ((Below.refl _ _).alloc (Nat.le_refl _) _).alloc (by omega) _
  have S0 : W0.heap.size = w.heap.size + 2 := by rw [hW0, size_alloc, s1]
  have CT : Calls Tryz.prog 81 #[.agg (row4 x.kind (str x.text) y x.items.length m z x.keys.length n)] W0 fun e w' => e = .returned (.tuple #[(txtA (textV x)).1, .bool (txtA (textV x)).2]) ∧ Below W0.heap.size W0 w' := jtext_any x y x.items.length m z x.keys.length n W0
  obtain ⟨o, ho_⟩ : ∃ o, o = digV x := ⟨_, rfl⟩
  rw [← ho_]
  have HOO := Lib.hid ho_
  have HW0 := Lib.hid hW0
  have HR0 := Lib.hid R0
  have HZ0 := Lib.hid Z0
  have HB0 := Lib.hid B0
  have HI := Lib.hid info_V
  have HIG := Lib.hid (info_Gc zero32 rfl)
  clear hW0 R0 B0 Z0 ho_
  by_cases h4 : x.kind = 4
  rotate_left
  · have e0 : Hid (o = none) := Lib.hid (by rw [HOO.out]; unfold digV; rw [if_neg (fun h => h4 h.1)])
    rw [show textV x = none from if_neg h4] at CT
    unfold txtA at CT
    dsimp only at CT
    clear h4
    go_enter Tryz.func83, Tryz.ntmps83
    go_upto_region 1 with (fail)
    rw [show (w.alloc (.cells (row4 x.kind (str x.text) y x.items.length m z x.keys.length n) 63)).alloc (.cells #[.int .u8 0, .int .u8 0, .int .u8 0, .int .u8 0, .int .u8 0, .int .u8 0, .int .u8 0, .int .u8 0, .int .u8 0, .int .u8 0, .int .u8 0, .int .u8 0, .int .u8 0, .int .u8 0, .int .u8 0, .int .u8 0, .int .u8 0, .int .u8 0, .int .u8 0, .int .u8 0, .int .u8 0, .int .u8 0, .int .u8 0, .int .u8 0, .int .u8 0, .int .u8 0, .int .u8 0, .int .u8 0, .int .u8 0, .int .u8 0, .int .u8 0, .int .u8 0] 24) = W0 from HW0.out.symm]
    go_wp2_with (first
      | ((with_reducible show wpList _ _ _ (⟨some 9, .load _ _, _, _, _, _⟩ :: _) _ _); refine wpList_load_row rfl 63 _ rfl w.heap.size rfl 63 (row4 x.kind (str x.text) y x.items.length m z x.keys.length n) (0, 0) _ HR0.out Tryz.underlying63 rfl HI.out ?_)
      | (go_at_call 81; ((with_reducible refine CT.mono ?_); rintro e w2 ⟨rfl, hb2⟩; have HB2 := Lib.hid hb2; have HZ2 := Lib.hid (rowC_below HZ0.out hb2 (by omega)); clear hb2))
      | ((with_reducible show wpList _ _ _ (⟨some 15, .build _ _, _, _, _, _⟩ :: _) _ _); refine wpList_build_as rfl 24 _ rfl (cells8 zero32) (by kernel_rfl) ?_)
      | ((with_reducible show wpList _ _ _ (⟨none, .store _ (.tmp 2) _, _, _, _, _⟩ :: _) _ _); refine wpList_store_row rfl 24 _ _ rfl (w.heap.size + 1) (cells8 zero32) rfl rfl 24 _ HZ2.out HIG.out rfl (cells8_one _) ?_))
    refine bodyPost_ret (results_row_tmp rfl _ _ (w.heap.size + 1) 24 (cells8 zero32) _ rfl (rowC_setRow HZ2.out _) Tryz.underlying24 rfl HIG.out (.bool false) rfl) rfl ?_
    rw [e0.out]
    exact ⟨zero32, _, false, rfl, ⟨rfl, rfl⟩, .inr ⟨rfl, rfl⟩, below_setRow (HB0.out.trans (HB2.out.mono (by omega))) (by omega) _⟩
  rw [show textV x = some x.text from if_pos h4] at CT
  unfold txtA at CT
  dsimp only at CT
  obtain ⟨D, hD⟩ : ∃ D, D = digL x.text := ⟨_, rfl⟩
  have hDl : D.length = 32 := by rw [hD]; exact digL_length _
  have CP := fun w' => parse_any x.text w'
  rw [← hD] at CP
  have HID := Lib.hid (info_Gc D hDl)
  have HSZ : Hid ((cells8 zero32).size = (cells8 D).size) := Lib.hid (by rw [cells8_size, cells8_size, hDl]; rfl)
  obtain ⟨E, hE⟩ : ∃ E, E = errL x.text := ⟨_, rfl⟩
  rw [← hE] at CP
  obtain ⟨ok, hok⟩ : ∃ ok, ok = (E == 0) := ⟨_, rfl⟩
  have e0 : Hid (o = some D ∧ ok = true ∨ o = none ∧ ok = false) := Lib.hid (by
    rw [HOO.out, hok, hE, hD]
    unfold digV errL
    cases ht : isText x.text with
    | true => rw [if_pos ⟨h4, rfl⟩, if_pos rfl]; exact .inl ⟨rfl, rfl⟩
    | false => rw [if_neg (by simp), if_neg (by simp)]; exact .inr ⟨rfl, rfl⟩)
  have HDL := Lib.hid hDl
  have hok' : (E == 0) = ok := hok.symm
  clear hD hE hok hDl h4
  go_enter Tryz.func83, Tryz.ntmps83
  go_upto_region 1 with (fail)
  rw [show (w.alloc (.cells (row4 x.kind (str x.text) y x.items.length m z x.keys.length n) 63)).alloc (.cells #[.int .u8 0, .int .u8 0, .int .u8 0, .int .u8 0, .int .u8 0, .int .u8 0, .int .u8 0, .int .u8 0, .int .u8 0, .int .u8 0, .int .u8 0, .int .u8 0, .int .u8 0, .int .u8 0, .int .u8 0, .int .u8 0, .int .u8 0, .int .u8 0, .int .u8 0, .int .u8 0, .int .u8 0, .int .u8 0, .int .u8 0, .int .u8 0, .int .u8 0, .int .u8 0, .int .u8 0, .int .u8 0, .int .u8 0, .int .u8 0, .int .u8 0, .int .u8 0] 24) = W0 from HW0.out.symm]
  go_wp2_with (first
    | ((with_reducible show wpList _ _ _ (⟨some 9, .load _ _, _, _, _, _⟩ :: _) _ _); refine wpList_load_row rfl 63 _ rfl w.heap.size rfl 63 (row4 x.kind (str x.text) y x.items.length m z x.keys.length n) (0, 0) _ HR0.out Tryz.underlying63 rfl HI.out ?_)
    | (go_at_call 81; ((with_reducible refine CT.mono ?_); rintro e w2 ⟨rfl, hb2⟩; have HB2 := Lib.hid hb2; have s2 := hb2.size; have HZ2 := Lib.hid (rowC_below HZ0.out hb2 (by omega)); clear hb2))
    | (go_at_call 115; ((with_reducible refine (CP _).mono ?_); rintro e w3 ⟨rfl, hb3⟩; have HB3 := Lib.hid hb3; have s3 := hb3.size; have HZ3 := Lib.hid (rowC_below HZ2.out hb3 (by omega)); clear hb3))
    | ((with_reducible show wpList _ _ _ (⟨none, .store _ (.tmp 6) _, _, _, _, _⟩ :: _) _ _); refine wpList_store_last rfl 24 _ _ rfl w3.heap.size (cells8 D) rfl rfl 24 (cells8 zero32) rfl HID.out HSZ.out (cells8_one _) ?_)
    | ((with_reducible show wpList _ _ _ (⟨some 21, .load _ _, _, _, _, _⟩ :: _) _ _); refine wpList_load_row rfl 24 _ rfl w3.heap.size rfl 24 (cells8 D) (0, 0) _ (rowC_new _ _ _) Tryz.underlying24 rfl HID.out ?_)
    | ((with_reducible show wpList _ _ _ (⟨none, .store _ (.tmp 2) _, _, _, _, _⟩ :: _) _ _); refine wpList_store_row rfl 24 _ _ rfl (w.heap.size + 1) (cells8 D) rfl rfl 24 _ (rowC_alloc HZ3.out _) HID.out HSZ.out (cells8_one _) ?_))
  refine bodyPost_ret (results_row_tmp rfl _ _ (w.heap.size + 1) 24 (cells8 D) _ rfl (rowC_setRow (rowC_alloc HZ3.out _) _) Tryz.underlying24 rfl HID.out (.bool ok) rfl) rfl ?_
  have b3 := (HB0.out.trans (HB2.out.mono (by omega))).trans (HB3.out.mono (by omega))
  exact ⟨D, _, ok, rfl, ⟨rfl, HDL.out⟩, e0.out, below_setRow (b3.alloc (by omega) _) (by omega) _⟩
theorem rd_dig : RdF eDig digV 83 #[] (fun _ => True) where
  enter := enter_dig
  stay := fun _ _ _ _ => trivial
  call := fun x w y m z n _ _ _ _ => readDigest_any x w y m z n
end Go.Proofs.YtnkencdibniagaaGreatDoor

/- Layer 13: a media type of a kind. -/
namespace Go.Proofs.YtnkencdibniagaaGreatDoor
open Go.RowKit

theorem enter_med (args : Array Value) (w : World) : (callFunc 111 args).run Tryz.prog w = .ok (.enter 111 args) w := by kernel_rfl
set_option maxRecDepth 100000 in
set_option maxHeartbeats 8000000 in
theorem media1_any (k : Nat) (bl : Nat) (x : JV) (w : World) (y : Option Addr) (m : Nat) (z : Option Addr) (n : Nat) (hB : w.cell? ⟨bl, 0, none⟩ = some (.int .i64 (k : Int))) (hH : HoldsC w (fun k => k < w.heap.size) x (.int .i64 x.kind) (.string (str x.text)) (.slice y x.items.length m) (.slice z x.keys.length n)) :
    Calls Tryz.prog 111 #[.agg (row4 x.kind (str x.text) y x.items.length m z x.keys.length n), .pointer (some ⟨bl, 0, none⟩)] w fun e w' => ReadP eTxt w (mediaV k x) e w' := by
  have hl : x.text.length ≤ 281474976710656 := by
    obtain ⟨k, t, items, keys⟩ := x
    exact hH.opens.2.2.1
  obtain ⟨W0, hW0⟩ : ∃ W0, W0 = w.alloc (.cells (row4 x.kind (str x.text) y x.items.length m z x.keys.length n) 63) := ⟨_, rfl⟩
  have R0 : rowC W0 w.heap.size (row4 x.kind (str x.text) y x.items.length m z x.keys.length n) 63 := by rw [hW0]; exact rowC_new w _ _
  have B0 : Below w.heap.size w W0 := by rw [hW0]; exact (Below.refl _ _).alloc (Nat.le_refl _) _
  have S0 : W0.heap.size = w.heap.size + 1 := by rw [hW0, size_alloc]
  have CT : Calls Tryz.prog 81 #[.agg (row4 x.kind (str x.text) y x.items.length m z x.keys.length n)] W0 fun e w' => e = .returned (.tuple #[(txtA (textV x)).1, .bool (txtA (textV x)).2]) ∧ Below W0.heap.size W0 w' := jtext_any x y x.items.length m z x.keys.length n W0
  have CK := fun (s : Bs) (w : World) => kind_any s w
  obtain ⟨o, ho_⟩ : ∃ o, o = mediaV k x := ⟨_, rfl⟩
  rw [← ho_]
  obtain ⟨s, ok, hs, htx⟩ : ∃ (s : Bs) (ok : Bool), txtA (textV x) = (.string (str s), ok) ∧ (textV x = some s ∧ ok = true ∧ s = x.text ∨ textV x = none ∧ ok = false ∧ s = []) := by
    cases h : textV x with
    | none => exact ⟨[], false, rfl, .inr ⟨rfl, rfl, rfl⟩⟩
    | some s =>
      refine ⟨s, true, rfl, .inl ⟨rfl, rfl, ?_⟩⟩
      unfold textV at h
      split at h
      · injection h with h; exact h.symm
      · cases h
  rw [hs] at CT
  dsimp only at CT
  obtain ⟨ks, hks⟩ : ∃ ks, ks = kindN s := ⟨_, rfl⟩
  have CK := CK s
  rw [← hks] at CK
  obtain ⟨b, hb⟩ : ∃ b, ((ks : Int) == (k : Int)) = b := ⟨_, rfl⟩
  have hsl : s.length ≤ 281474976710656 := by
    rcases htx with ⟨_, _, rfl⟩ | ⟨_, _, rfl⟩
    · exact hl
    · simp
  have e0 : Hid (o = some s ∧ (ok && b) = true ∨ o = none ∧ (ok && b) = false) := Lib.hid (by
    rw [ho_]
    unfold mediaV
    rcases htx with ⟨h, rfl, _⟩ | ⟨h, rfl, _⟩
    · rw [h]
      have hm : ((some s : Option Bs).bind fun s => if kindN s = k then some s else none) = if ks = k then some s else none := by rw [hks]; rfl
      rw [hm, ← hb]
      by_cases e : ks = k
      · rw [if_pos e, e]; exact .inl ⟨rfl, by simp⟩
      · rw [if_neg e]; exact .inr ⟨rfl, by simp; omega⟩
    · rw [h]; exact .inr ⟨rfl, rfl⟩)
  have HW0 := Lib.hid hW0
  have HR0 := Lib.hid R0
  have HB0 := Lib.hid B0
  have HI := Lib.hid info_V
  have HSL := Lib.hid hsl
  have HBL := Lib.hid (cell_chg (Chg.of_below (s := no) B0) hB id)
  clear hW0 R0 B0 hH ho_ htx hs hks hl hsl hB
  go_enter Tryz.func111, Tryz.ntmps111
  go_upto_region 1 with (fail)
  rw [show w.alloc (.cells (row4 x.kind (str x.text) y x.items.length m z x.keys.length n) 63) = W0 from HW0.out.symm]
  go_upto_region 2 with (first
    | ((with_reducible show wpList _ _ _ (⟨some 8, .load _ _, _, _, _, _⟩ :: _) _ _); refine wpList_load_row rfl 63 _ rfl w.heap.size rfl 63 (row4 x.kind (str x.text) y x.items.length m z x.keys.length n) (0, 0) _ HR0.out Tryz.underlying63 rfl HI.out ?_)
    | (go_at_call 81; ((with_reducible refine CT.mono ?_); rintro e w2 ⟨rfl, hb2⟩; have HB2 := Lib.hid hb2; have hbl := cell_chg (Chg.of_below (s := no) hb2) HBL.out id; clear hb2)))
  have b2 : Below w.heap.size w w2 := HB0.out.trans (HB2.out.mono (by omega))
  cases ok with
  | true =>
    go_quiet ((go_at_call 24; exact qs (CK _)))
    go_wp2
    go_ret2
    exact ⟨s, _, _, rfl, ⟨rfl, HSL.out⟩, e0.out, below_drewN b2 _⟩
  | false =>
    go_quiet ((go_at_call 24; exact qs (CK _)))
    go_wp2
    go_ret2
    exact ⟨s, _, _, rfl, ⟨rfl, HSL.out⟩, e0.out, below_drewN b2 _⟩
theorem rd_med (k bl : Nat) : RdF eTxt (mediaV k) 111 #[.pointer (some ⟨bl, 0, none⟩)] (fun w => w.cell? ⟨bl, 0, none⟩ = some (.int .i64 (k : Int))) where
  enter := enter_med
  stay := fun _ _ h hb => cell_chg (Chg.of_below (s := no) hb) h id
  call := fun x w y m z n _ _ hi hH => media1_any k bl x w y m z n hi hH
set_option maxHeartbeats 4000000 in
theorem mediaOf_any (k : Nat) (w : World) : Calls Tryz.prog 76 #[.int .i64 (k : Int)] w fun e w' => e = .returned (.func (.func 111) #[] #[.pointer (some ⟨w.heap.size, 0, none⟩)]) ∧ w'.cell? ⟨w.heap.size, 0, none⟩ = some (.int .i64 (k : Int)) ∧ Below w.heap.size w w' := by
  go_enter Tryz.func76, Tryz.ntmps76
  go_wp2
  go_ret
  exact ⟨rfl, rowC_cell (rowC_new w _ 3) 0, (Below.refl _ _).alloc (Nat.le_refl _) _⟩
end Go.Proofs.YtnkencdibniagaaGreatDoor

/- Layer 13: a descriptor as it is read. -/
namespace Go.Proofs.YtnkencdibniagaaGreatDoor
open Go.RowKit

def encL (d : DV) : List Value := [.string (str d.media)] ++ d.dig.map byteV ++ [.int .i64 d.size, .string (str d.os), .string (str d.arch)]
theorem encD_list (d : DV) : encD d = (encL d).toArray := by
  unfold encD encL cells8
  simp
theorem encL_len {d : DV} (h : d.dig.length = 32) : (encL d).length = 36 := by
  unfold encL
  simp [h]
theorem encD_media (d : DV) (s : Bs) : (encD d).setIfInBounds 0 (.string (str s)) = encD { d with media := s } := by
  rw [encD_list, encD_list, List.setIfInBounds_toArray]
  rfl
theorem encD_sized (d : DV) (h : d.dig.length = 32) (n : Int) : (encD d).setIfInBounds 33 (.int .i64 n) = encD { d with size := n } := by
  rw [encD_list, encD_list, List.setIfInBounds_toArray]
  unfold encL
  rw [List.append_assoc, List.set_append_right _ _ (by simp), List.set_append_right _ _ (by simp [h])]
  simp [h]
theorem encD_os (d : DV) (h : d.dig.length = 32) (s : Bs) : (encD d).setIfInBounds 34 (.string (str s)) = encD { d with os := s } := by
  rw [encD_list, encD_list, List.setIfInBounds_toArray]
  unfold encL
  rw [List.append_assoc, List.set_append_right _ _ (by simp), List.set_append_right _ _ (by simp [h])]
  simp [h]
theorem encD_arch (d : DV) (h : d.dig.length = 32) (s : Bs) : (encD d).setIfInBounds 35 (.string (str s)) = encD { d with arch := s } := by
  rw [encD_list, encD_list, List.setIfInBounds_toArray]
  unfold encL
  rw [List.append_assoc, List.set_append_right _ _ (by simp), List.set_append_right _ _ (by simp [h])]
  simp [h]
theorem rowC_dig {w : World} {b : Nat} {d : DV} {g : Bs} (h : rowC w b (encD d) 28) (hd : d.dig.length = 32) (hg : g.length = 32) : rowC (w.setCells b 1 (cells8 g).toList) b (encD { d with dig := g }) 28 := by
  rw [encD_list] at h
  have := rowC_setCells (cells8 g).toList 1 h (by rw [encL_len hd]; simp [cells8, hg])
  rw [encD_list]
  have e : (encL d).take 1 ++ (cells8 g).toList ++ (encL d).drop (1 + (cells8 g).toList.length) = encL { d with dig := g } := by
    unfold encL cells8
    simp only [List.length_map, List.append_assoc]
    rw [List.drop_append, List.drop_append, hg]
    simp [hd]
  rwa [e] at this
theorem rowC_plat {w : World} {b : Nat} {media g : Bs} {n : Int} {os arch : Bs} {p : Bs × Bs} (h : rowC w b (encD ⟨media, g, n, os, arch⟩) 28) (hd : g.length = 32) : rowC (w.setCells b 34 (encP p).toList) b (encD ⟨media, g, n, p.1, p.2⟩) 28 := by
  have h1 := rowC_set h 34 (.string (str p.1))
  rw [encD_os ⟨media, g, n, os, arch⟩ hd] at h1
  have h2 := rowC_set h1 35 (.string (str p.2))
  rw [encD_arch ⟨media, g, n, p.1, arch⟩ hd] at h2
  obtain ⟨p1, p2⟩ := p
  exact h2
theorem encL_33 (d : DV) (h : d.dig.length = 32) : (encL d).toArray[33]? = some (.int .i64 d.size) := by
  rw [List.getElem?_toArray]
  unfold encL
  rw [List.append_assoc, List.getElem?_append_right (by simp), List.getElem?_append_right (by simp [h])]
  simp [h]
theorem size_of_int {x : JV} (h : partV x kSiz intV = none) : partV x kSiz sizeV = none := by
  unfold partV at h ⊢
  cases hg : getV x kSiz with
  | none => rfl
  | some v =>
    rw [hg] at h
    have h : intV v = none := h
    show sizeV v = none
    unfold sizeV
    rw [h]
    rfl
theorem size_of_some {x : JV} {n : Int} (h : partV x kSiz intV = some n) : partV x kSiz sizeV = if n < 0 then none else some n := by
  unfold partV at h ⊢
  cases hg : getV x kSiz with
  | none => rw [hg] at h; cases h
  | some v =>
    rw [hg] at h
    have h : intV v = some n := h
    show sizeV v = _
    unfold sizeV
    rw [h]
    rfl
theorem size_of_neg {x : JV} {n : Int} (h : partV x kSiz intV = some n) (hn : n < 0) : partV x kSiz sizeV = none := by rw [size_of_some h, if_pos hn]
theorem size_of_pos {x : JV} {n : Int} (h : partV x kSiz intV = some n) (hn : ¬ n < 0) : partV x kSiz sizeV = some n := by rw [size_of_some h, if_neg hn]
theorem enter_des (args : Array Value) (w : World) : (callFunc 42 args).run Tryz.prog w = .ok (.enter 42 args) w := by kernel_rfl
theorem enter_pln (args : Array Value) (w : World) : (callFunc 33 args).run Tryz.prog w = .ok (.enter 33 args) w := by kernel_rfl
set_option maxRecDepth 100000 in
set_option maxHeartbeats 16000000 in
theorem readDescriptor_any (x : JV) (w : World) (y : Option Addr) (m : Nat) (z : Option Addr) (n : Nat) (ho : okR x) (hE : Env2 w) (hH : HoldsC w (fun k => k < w.heap.size) x (.int .i64 x.kind) (.string (str x.text)) (.slice y x.items.length m) (.slice z x.keys.length n)) :
    Calls Tryz.prog 42 #[.agg (row4 x.kind (str x.text) y x.items.length m z x.keys.length n)] w fun e w' => ReadP eDes w (descV x) e w' := by
  obtain ⟨W0, hW0⟩ : ∃ W0, W0 = (w.alloc (.cells (row4 x.kind (str x.text) y x.items.length m z x.keys.length n) 63)).alloc (.cells (encD zeroD) 28) := ⟨_, rfl⟩
  have s1 := size_alloc w (.cells (row4 x.kind (str x.text) y x.items.length m z x.keys.length n) 63)
  have Z0 : rowC W0 (w.heap.size + 1) (encD zeroD) 28 := by rw [hW0, ← s1]; exact rowC_new _ _ _
  have R0 : rowC W0 w.heap.size (row4 x.kind (str x.text) y x.items.length m z x.keys.length n) 63 := by rw [hW0]; exact rowC_alloc (rowC_new w _ _) _
  have B0 : Below w.heap.size w W0 := by rw [hW0]; exact ((Below.refl _ _).alloc (Nat.le_refl _) _).alloc (by omega) _
  have S0 : W0.heap.size = w.heap.size + 2 := by rw [hW0, size_alloc, s1]
  have CT : ∀ (w' : World), Below w.heap.size w w' → w.heap.size ≤ w'.heap.size → Calls Tryz.prog 80 #[.agg (row4 x.kind (str x.text) y x.items.length m z x.keys.length n), .string ⟨#[109, 101, 100, 105, 97, 84, 121, 112, 101]⟩, .func (.func 81) #[] #[]] w' fun e w2 => ReadP eTxt w' (partV x kMed textV) e w2 := fun w' hb hs =>
    part_txt rd_text ho kMed (hE.below hb) trivial (HoldsC.mono (fun k hk _ => Nat.lt_of_lt_of_le hk hs) _ _ _ _ _ (HoldsC.far hH hb))
  have CD : ∀ (w' : World), Below w.heap.size w w' → w.heap.size ≤ w'.heap.size → Calls Tryz.prog 82 #[.agg (row4 x.kind (str x.text) y x.items.length m z x.keys.length n), .string ⟨#[100, 105, 103, 101, 115, 116]⟩, .func (.func 83) #[] #[]] w' fun e w2 => ReadP eDig w' (partV x kDig digV) e w2 := fun w' hb hs =>
    part_dig rd_dig ho kDig (hE.below hb) trivial (HoldsC.mono (fun k hk _ => Nat.lt_of_lt_of_le hk hs) _ _ _ _ _ (HoldsC.far hH hb))
  have CI : ∀ (w' : World), Below w.heap.size w w' → w.heap.size ≤ w'.heap.size → Calls Tryz.prog 73 #[.agg (row4 x.kind (str x.text) y x.items.length m z x.keys.length n), .string ⟨#[115, 105, 122, 101]⟩, .func (.func 74) #[] #[]] w' fun e w2 => ReadP eInt w' (partV x kSiz intV) e w2 := fun w' hb hs =>
    part_int rd_int ho kSiz (hE.below hb) trivial (HoldsC.mono (fun k hk _ => Nat.lt_of_lt_of_le hk hs) _ _ _ _ _ (HoldsC.far hH hb))
  have CP : ∀ (w' : World), Below w.heap.size w w' → w.heap.size ≤ w'.heap.size → Calls Tryz.prog 84 #[.agg (row4 x.kind (str x.text) y x.items.length m z x.keys.length n), .string ⟨#[112, 108, 97, 116, 102, 111, 114, 109]⟩, .func (.func 43) #[] #[]] w' fun e w2 => ReadP ePla w' (anyV ([], []) x kPla platV) e w2 := fun w' hb hs =>
    any_pla rd_pla ho kPla (hE.below hb) trivial (HoldsC.mono (fun k hk _ => Nat.lt_of_lt_of_le hk hs) _ _ _ _ _ (HoldsC.far hH hb))
  obtain ⟨o, ho_⟩ : ∃ o, o = descV x := ⟨_, rfl⟩
  rw [← ho_]
  have HOO := Lib.hid ho_
  have HW0 := Lib.hid hW0
  have HR0 := Lib.hid R0
  have HZ0 := Lib.hid Z0
  have HB0 := Lib.hid B0
  have HI := Lib.hid info_V
  have HIG := Lib.hid info_G
  have HIP := Lib.hid info_P
  have HID := Lib.hid (fun (d : DV) (h : goodD d) => show (Tryz.prog.info? 28).map (·.size) = some (encD d).size by rw [encD_size d h]; exact info_D)
  have HCT := Lib.hid CT
  have HCD := Lib.hid CD
  have HCI := Lib.hid CI
  have HCP := Lib.hid CP
  clear hW0 R0 B0 Z0 ho hE hH ho_ CT CD CI CP
  have g0 : goodD zeroD := ⟨rfl, by simp [zeroD], by simp [zeroD], by simp [zeroD]⟩
  have CC := HCT.out W0 HB0.out (by omega)
  go_enter Tryz.func42, Tryz.ntmps42
  go_upto_region 1 with (fail)
  rw [show (w.alloc (.cells (row4 x.kind (str x.text) y x.items.length m z x.keys.length n) 63)).alloc (.cells #[.string ⟨#[]⟩, .int .u8 0, .int .u8 0, .int .u8 0, .int .u8 0, .int .u8 0, .int .u8 0, .int .u8 0, .int .u8 0, .int .u8 0, .int .u8 0, .int .u8 0, .int .u8 0, .int .u8 0, .int .u8 0, .int .u8 0, .int .u8 0, .int .u8 0, .int .u8 0, .int .u8 0, .int .u8 0, .int .u8 0, .int .u8 0, .int .u8 0, .int .u8 0, .int .u8 0, .int .u8 0, .int .u8 0, .int .u8 0, .int .u8 0, .int .u8 0, .int .u8 0, .int .u8 0, .int .i64 0, .string ⟨#[]⟩, .string ⟨#[]⟩] 28) = W0 from HW0.out.symm]
  go_upto_region 2 with (first
    | ((with_reducible show wpList _ _ _ (⟨some 5, .load _ _, _, _, _, _⟩ :: _) _ _); refine wpList_load_row rfl 63 _ rfl w.heap.size rfl 63 (row4 x.kind (str x.text) y x.items.length m z x.keys.length n) (0, 0) _ HR0.out Tryz.underlying63 rfl HI.out ?_)
    | (go_at_call 80; ((with_reducible refine CC.mono ?_); rintro e w2 ⟨t1, tv, ok1, rfl, ⟨rfl, hl1⟩, hor1, hb1⟩; have HOR1 := Lib.hid hor1; have HB1 := Lib.hid hb1; have HL1 := Lib.hid hl1; have HZ1 := Lib.hid (rowC_below HZ0.out hb1 (by omega)); have c0 := rowC_cell HZ1.out 0; have f0 := rowC_free HZ1.out 0; clear hor1 hb1 hl1 CC)))
  obtain ⟨W1, hW1⟩ : ∃ W1, W1 = w2.setCell ⟨w.heap.size + 1, 0, none⟩ (.string (str t1)) := ⟨_, rfl⟩
  rw [← hW1]
  have s2 := HB1.out.size
  have Z1 : Hid (rowC W1 (w.heap.size + 1) (encD { zeroD with media := t1 }) 28) := Lib.hid (by rw [hW1, ← encD_media]; exact rowC_set HZ1.out 0 _)
  have R1 : Hid (rowC W1 w.heap.size (row4 x.kind (str x.text) y x.items.length m z x.keys.length n) 63) := Lib.hid (by rw [hW1]; exact rowC_other (rowC_below HR0.out HB1.out (by omega)) _ _ (by show w.heap.size ≠ w.heap.size + 1; omega))
  have B1 : Hid (Below w.heap.size w W1) := Lib.hid (by rw [hW1]; exact (HB0.out.trans (HB1.out.mono (by omega))).setCell (p := ⟨w.heap.size + 1, 0, none⟩) (by show w.heap.size ≤ w.heap.size + 1; omega) _)
  have l1 := rowC_lt Z1.out
  have G1 : goodD { zeroD with media := t1 } := ⟨rfl, HL1.out, by simp [zeroD], by simp [zeroD]⟩
  clear hW1 c0 f0
  rcases HOR1.out with ⟨h1, hok⟩ | ⟨h1, hok⟩
  rotate_left
  · subst hok
    have e0 : Hid (o = none) := Lib.hid (by rw [HOO.out]; unfold descV; rw [h1])
    go_wp2_with (first
      | ((with_reducible show wpList _ _ _ (⟨some 12, .load _ _, _, _, _, _⟩ :: _) _ _); refine wpList_load_row rfl 28 _ rfl (w.heap.size + 1) rfl 28 (encD { zeroD with media := t1 }) (0, 0) _ Z1.out Tryz.underlying28 rfl (HID.out _ G1) ?_)
      | ((with_reducible show wpList _ _ _ (⟨none, .store _ (.tmp 2) _, _, _, _, _⟩ :: _) _ _); refine wpList_store_row rfl 28 _ _ rfl (w.heap.size + 1) (encD { zeroD with media := t1 }) rfl rfl 28 _ Z1.out (HID.out _ G1) rfl (encD_one _) ?_))
    refine bodyPost_ret (results_row_tmp rfl _ _ (w.heap.size + 1) 28 (encD { zeroD with media := t1 }) _ rfl (rowC_setRow Z1.out _) Tryz.underlying28 rfl (HID.out _ G1) (.bool false) rfl) rfl ?_
    rw [e0.out]
    exact ⟨{ zeroD with media := t1 }, _, false, rfl, ⟨rfl, G1⟩, .inr ⟨rfl, rfl⟩, below_setRow B1.out (by omega) _⟩
  subst hok
  have CC := HCD.out W1 B1.out (by omega)
  have HTH := Lib.hid (fun w' (h : rowC w' (w.heap.size + 1) (encD { zeroD with media := t1 }) 28) => row_there h 1 32 (by rw [encD_size _ G1]; decide))
  go_upto_region 5 with (first
    | ((with_reducible show wpList _ _ _ (⟨some 14, .load _ _, _, _, _, _⟩ :: _) _ _); refine wpList_load_row rfl 63 _ rfl w.heap.size rfl 63 (row4 x.kind (str x.text) y x.items.length m z x.keys.length n) (0, 0) _ R1.out Tryz.underlying63 rfl HI.out ?_)
    | (go_at_call 82; ((with_reducible refine CC.mono ?_); rintro e w3 ⟨g2, tv, ok2, rfl, ⟨rfl, hl2⟩, hor2, hb2⟩; have HOR2 := Lib.hid hor2; have HB2 := Lib.hid hb2; have HL2 := Lib.hid hl2; have HZ2 := Lib.hid (rowC_below Z1.out hb2 (by omega)); have HSD := Lib.hid (show (cells8 g2).size = 32 by rw [cells8_size]; exact hl2); clear hor2 hb2 hl2 CC))
    | ((with_reducible show wpList _ _ _ (⟨none, .store _ (.tmp 18) _, _, _, _, _⟩ :: _) _ _); refine wpList_store_mid rfl 24 _ _ rfl (w.heap.size + 1) 1 (cells8 g2) rfl rfl (by rw [HSD.out]; exact HTH.out _ HZ2.out) (by rw [HSD.out]; exact HIG.out) (cells8_one _) ?_))
  obtain ⟨W2, hW2⟩ : ∃ W2, W2 = w3.setCells (w.heap.size + 1) 1 (cells8 g2).toList := ⟨_, rfl⟩
  rw [← hW2]
  have s3 := HB2.out.size
  have Z2 : Hid (rowC W2 (w.heap.size + 1) (encD { zeroD with media := t1, dig := g2 }) 28) := Lib.hid (by rw [hW2]; exact rowC_dig HZ2.out rfl HL2.out)
  have R2 : Hid (rowC W2 w.heap.size (row4 x.kind (str x.text) y x.items.length m z x.keys.length n) 63) := Lib.hid (by rw [hW2]; exact rowC_setCells_other (by omega) _ _ (rowC_below R1.out HB2.out (by omega)))
  have B2 : Hid (Below w.heap.size w W2) := Lib.hid (by rw [hW2]; exact below_setCells (by omega) _ _ (B1.out.trans (HB2.out.mono (by omega))))
  have l2 := rowC_lt Z2.out
  have G2 : goodD { zeroD with media := t1, dig := g2 } := ⟨HL2.out, HL1.out, by simp [zeroD], by simp [zeroD]⟩
  clear hW2
  rcases HOR2.out with ⟨h2, hok⟩ | ⟨h2, hok⟩
  rotate_left
  · subst hok
    have e0 : Hid (o = none) := Lib.hid (by rw [HOO.out]; unfold descV; rw [h1]; dsimp only; rw [h2])
    go_wp2_with (first
      | ((with_reducible show wpList _ _ _ (⟨some 21, .load _ _, _, _, _, _⟩ :: _) _ _); refine wpList_load_row rfl 28 _ rfl (w.heap.size + 1) rfl 28 (encD { zeroD with media := t1, dig := g2 }) (0, 0) _ Z2.out Tryz.underlying28 rfl (HID.out _ G2) ?_)
      | ((with_reducible show wpList _ _ _ (⟨none, .store _ (.tmp 2) _, _, _, _, _⟩ :: _) _ _); refine wpList_store_row rfl 28 _ _ rfl (w.heap.size + 1) (encD { zeroD with media := t1, dig := g2 }) rfl rfl 28 _ Z2.out (HID.out _ G2) rfl (encD_one _) ?_))
    refine bodyPost_ret (results_row_tmp rfl _ _ (w.heap.size + 1) 28 (encD { zeroD with media := t1, dig := g2 }) _ rfl (rowC_setRow Z2.out _) Tryz.underlying28 rfl (HID.out _ G2) (.bool false) rfl) rfl ?_
    rw [e0.out]
    exact ⟨{ zeroD with media := t1, dig := g2 }, _, false, rfl, ⟨rfl, G2⟩, .inr ⟨rfl, rfl⟩, below_setRow B2.out (by omega) _⟩
  subst hok
  have CC := HCI.out W2 B2.out (by omega)
  go_upto_region 8 with (first
    | ((with_reducible show wpList _ _ _ (⟨some 23, .load _ _, _, _, _, _⟩ :: _) _ _); refine wpList_load_row rfl 63 _ rfl w.heap.size rfl 63 (row4 x.kind (str x.text) y x.items.length m z x.keys.length n) (0, 0) _ R2.out Tryz.underlying63 rfl HI.out ?_)
    | (go_at_call 73; ((with_reducible refine CC.mono ?_); rintro e w4 ⟨n3, tv, ok3, rfl, ⟨rfl, _⟩, hor3, hb3⟩; have HOR3 := Lib.hid hor3; have HB3 := Lib.hid hb3; have HZ3 := Lib.hid (rowC_below Z2.out hb3 (by omega)); have c0 : w4.cell? ⟨w.heap.size + 1, 33, none⟩ = some (.int .i64 0) := (by rw [rowC_cell HZ3.out, encD_list]; exact encL_33 _ G2.1); have f0 := rowC_free HZ3.out 33; clear hor3 hb3 CC)))
  obtain ⟨W3, hW3⟩ : ∃ W3, W3 = w4.setCell ⟨w.heap.size + 1, 33, none⟩ (.int .i64 n3) := ⟨_, rfl⟩
  rw [← hW3]
  have s4 := HB3.out.size
  have Z3 : Hid (rowC W3 (w.heap.size + 1) (encD { zeroD with media := t1, dig := g2, size := n3 }) 28) := Lib.hid (by rw [hW3]; have := rowC_set HZ3.out 33 (.int .i64 n3); rw [encD_sized _ G2.1] at this; exact this)
  have R3 : Hid (rowC W3 w.heap.size (row4 x.kind (str x.text) y x.items.length m z x.keys.length n) 63) := Lib.hid (by rw [hW3]; exact rowC_other (rowC_below R2.out HB3.out (by omega)) _ _ (by show w.heap.size ≠ w.heap.size + 1; omega))
  have B3 : Hid (Below w.heap.size w W3) := Lib.hid (by rw [hW3]; exact (B2.out.trans (HB3.out.mono (by omega))).setCell (p := ⟨w.heap.size + 1, 33, none⟩) (by show w.heap.size ≤ w.heap.size + 1; omega) _)
  have l3 := rowC_lt Z3.out
  have G3 : goodD { zeroD with media := t1, dig := g2, size := n3 } := G2
  have d33 : W3.cell? ⟨w.heap.size + 1, 33, none⟩ = some (.int .i64 n3) := by rw [hW3, ← hW3, rowC_cell Z3.out, encD_list]; exact encL_33 _ G3.1
  clear hW3 c0 f0
  rcases HOR3.out with ⟨h3, hok⟩ | ⟨h3, hok⟩
  rotate_left
  · subst hok
    have e0 : Hid (o = none) := Lib.hid (by rw [HOO.out]; unfold descV; rw [h1]; dsimp only; rw [h2]; dsimp only; rw [size_of_int h3])
    go_wp2_with (first
      | ((with_reducible show wpList _ _ _ (⟨some 35, .load _ _, _, _, _, _⟩ :: _) _ _); refine wpList_load_row rfl 28 _ rfl (w.heap.size + 1) rfl 28 (encD { zeroD with media := t1, dig := g2, size := n3 }) (0, 0) _ Z3.out Tryz.underlying28 rfl (HID.out _ G3) ?_)
      | ((with_reducible show wpList _ _ _ (⟨none, .store _ (.tmp 2) _, _, _, _, _⟩ :: _) _ _); refine wpList_store_row rfl 28 _ _ rfl (w.heap.size + 1) (encD { zeroD with media := t1, dig := g2, size := n3 }) rfl rfl 28 _ Z3.out (HID.out _ G3) rfl (encD_one _) ?_))
    refine bodyPost_ret (results_row_tmp rfl _ _ (w.heap.size + 1) 28 (encD { zeroD with media := t1, dig := g2, size := n3 }) _ rfl (rowC_setRow Z3.out _) Tryz.underlying28 rfl (HID.out _ G3) (.bool false) rfl) rfl ?_
    rw [e0.out]
    exact ⟨{ zeroD with media := t1, dig := g2, size := n3 }, _, false, rfl, ⟨rfl, G3⟩, .inr ⟨rfl, rfl⟩, below_setRow B3.out (by omega) _⟩
  subst hok
  by_cases hneg : n3 < 0
  · have e0 : Hid (o = none) := Lib.hid (by rw [HOO.out]; unfold descV; rw [h1]; dsimp only; rw [h2]; dsimp only; rw [size_of_neg h3 hneg])
    go_wp2_with (first
      | ((with_reducible show wpList _ _ _ (⟨some 35, .load _ _, _, _, _, _⟩ :: _) _ _); refine wpList_load_row rfl 28 _ rfl (w.heap.size + 1) rfl 28 (encD { zeroD with media := t1, dig := g2, size := n3 }) (0, 0) _ Z3.out Tryz.underlying28 rfl (HID.out _ G3) ?_)
      | ((with_reducible show wpList _ _ _ (⟨none, .store _ (.tmp 2) _, _, _, _, _⟩ :: _) _ _); refine wpList_store_row rfl 28 _ _ rfl (w.heap.size + 1) (encD { zeroD with media := t1, dig := g2, size := n3 }) rfl rfl 28 _ Z3.out (HID.out _ G3) rfl (encD_one _) ?_))
    refine bodyPost_ret (results_row_tmp rfl _ _ (w.heap.size + 1) 28 (encD { zeroD with media := t1, dig := g2, size := n3 }) _ rfl (rowC_setRow Z3.out _) Tryz.underlying28 rfl (HID.out _ G3) (.bool false) rfl) rfl ?_
    rw [e0.out]
    exact ⟨{ zeroD with media := t1, dig := g2, size := n3 }, _, false, rfl, ⟨rfl, G3⟩, .inr ⟨rfl, rfl⟩, below_setRow B3.out (by omega) _⟩
  have hsz := size_of_pos h3 hneg
  have CC := HCP.out W3 B3.out (by omega)
  have HTH2 := Lib.hid (fun w' (h : rowC w' (w.heap.size + 1) (encD { zeroD with media := t1, dig := g2, size := n3 }) 28) => row_there h 34 2 (by rw [encD_size _ G3]; decide))
  have HSP := Lib.hid (fun (p : Bs × Bs) => show (encP p).size = 2 from rfl)
  go_upto_region 11 with (first
    | ((with_reducible show wpList _ _ _ (⟨some 37, .load _ _, _, _, _, _⟩ :: _) _ _); refine wpList_load_row rfl 63 _ rfl w.heap.size rfl 63 (row4 x.kind (str x.text) y x.items.length m z x.keys.length n) (0, 0) _ R3.out Tryz.underlying63 rfl HI.out ?_)
    | (go_at_call 84; ((with_reducible refine CC.mono ?_); rintro e w5 ⟨p4, tv, ok4, rfl, ⟨rfl, hl4⟩, hor4, hb4⟩; have HOR4 := Lib.hid hor4; have HB4 := Lib.hid hb4; have HL4 := Lib.hid hl4; have HZ4 := Lib.hid (rowC_below Z3.out hb4 (by omega)); clear hor4 hb4 hl4 CC))
    | ((with_reducible show wpList _ _ _ (⟨none, .store _ (.tmp 41) _, _, _, _, _⟩ :: _) _ _); refine wpList_store_mid rfl 26 _ _ rfl (w.heap.size + 1) 34 (encP p4) rfl rfl (by rw [HSP.out]; exact HTH2.out _ HZ4.out) HIP.out (encP_one _) ?_))
  obtain ⟨W4, hW4⟩ : ∃ W4, W4 = w5.setCells (w.heap.size + 1) 34 (encP p4).toList := ⟨_, rfl⟩
  rw [← hW4]
  have s5 := HB4.out.size
  have Z4 : Hid (rowC W4 (w.heap.size + 1) (encD ⟨t1, g2, n3, p4.1, p4.2⟩) 28) := Lib.hid (by rw [hW4]; exact rowC_plat (media := t1) (g := g2) (n := n3) (os := zeroD.os) (arch := zeroD.arch) HZ4.out HL2.out)
  have B4 : Hid (Below w.heap.size w W4) := Lib.hid (by rw [hW4]; exact below_setCells (by omega) _ _ (B3.out.trans (HB4.out.mono (by omega))))
  have G4 : goodD ⟨t1, g2, n3, p4.1, p4.2⟩ := ⟨HL2.out, HL1.out, HL4.out.1, HL4.out.2⟩
  have e0 : Hid (o = some ⟨t1, g2, n3, p4.1, p4.2⟩ ∧ ok4 = true ∨ o = none ∧ ok4 = false) := Lib.hid (by
    rw [HOO.out]
    unfold descV
    rw [h1]
    dsimp only
    rw [h2]
    dsimp only
    rw [hsz]
    dsimp only
    rcases HOR4.out with ⟨h4, hk⟩ | ⟨h4, hk⟩
    · rw [h4]; exact .inl ⟨rfl, hk⟩
    · rw [h4]; exact .inr ⟨rfl, hk⟩)
  clear hW4
  go_wp2_with (first
    | ((with_reducible show wpList _ _ _ (⟨some 42, .load _ _, _, _, _, _⟩ :: _) _ _); refine wpList_load_row rfl 28 _ rfl (w.heap.size + 1) rfl 28 (encD ⟨t1, g2, n3, p4.1, p4.2⟩) (0, 0) _ Z4.out Tryz.underlying28 rfl (HID.out _ G4) ?_)
    | ((with_reducible show wpList _ _ _ (⟨none, .store _ (.tmp 2) _, _, _, _, _⟩ :: _) _ _); refine wpList_store_row rfl 28 _ _ rfl (w.heap.size + 1) (encD ⟨t1, g2, n3, p4.1, p4.2⟩) rfl rfl 28 _ Z4.out (HID.out _ G4) rfl (encD_one _) ?_))
  refine bodyPost_ret (results_row_tmp rfl _ _ (w.heap.size + 1) 28 (encD ⟨t1, g2, n3, p4.1, p4.2⟩) _ rfl (rowC_setRow Z4.out _) Tryz.underlying28 rfl (HID.out _ G4) (.bool ok4) rfl) rfl ?_
  exact ⟨⟨t1, g2, n3, p4.1, p4.2⟩, _, ok4, rfl, ⟨rfl, G4⟩, e0.out, below_setRow B4.out (by omega) _⟩
theorem rd_des : RdF eDes descV 42 #[] (fun _ => True) where
  enter := enter_des
  stay := fun _ _ _ _ => trivial
  call := fun x w y m z n ho hE _ hH => readDescriptor_any x w y m z n ho hE hH
end Go.Proofs.YtnkencdibniagaaGreatDoor

