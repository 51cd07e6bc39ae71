/- Merged: TtS, TtT. -/
import Derived.Test.YtbjgmkjinnbokaaGreatDoorM17
/- Layer 16: the program's step. -/
namespace Go.Proofs.YtbjgmkjinnbokaaGreatDoor
open Go.RowKit

theorem stepT_err {k : Int} {g : List Pl} {x : En} (h : (cleanL x.name).2 ≠ 0) : stepT k g x = (g, (cleanL x.name).2) := by
  unfold stepT
  simp only
  rw [if_neg h]
theorem stepT_root {k : Int} {g : List Pl} {x : En} (h : (cleanL x.name).2 = 0) (h2 : (cleanL x.name).1 = []) : stepT k g x = (g, if x.kind = 2 then 0 else 71) := by
  unfold stepT
  simp only
  rw [if_pos h, if_pos h2]
theorem stepT_wh {k : Int} {g : List Pl} {x : En} {P : List UInt8} (hP : P = (cleanL x.name).1) (h : (cleanL x.name).2 = 0) (h2 : P ≠ []) (h3 : (whiteL (baseL P)).2.2 = true) :
    stepT k g x = (takeG k g (parentL P) (whiteL (baseL P)).1 (whiteL (baseL P)).2.1, 0) := by
  unfold stepT
  simp only
  rw [if_pos h, ← hP, if_neg h2, if_pos h3]
theorem stepT_in {k : Int} {g : List Pl} {x : En} {P : List UInt8} (hP : P = (cleanL x.name).1) (h : (cleanL x.name).2 = 0) (h2 : P ≠ []) (h3 : (whiteL (baseL P)).2.2 = false) :
    stepT k g x = match enterG k (parentL P) g with
        | none => (g, 71)
        | some g => if (nodeG g x P).2 = 0 then (layG k g (nodeG g x P).1, 0) else (g, (nodeG g x P).2) := by
  unfold stepT
  simp only
  rw [if_pos h, ← hP, if_neg h2, if_neg (by rw [h3]; decide)]
  cases enterG k (parentL P) g <;> rfl
theorem pick_nd {b : Bool} {n : Nd} (h : (if b = true then (n, (0 : Int)) else (default, 2)).2 = 0) : (if b = true then (n, (0 : Int)) else (default, 2)).1 = n := by
  cases b
  · cases h
  · rfl
theorem white_len (s : List UInt8) : (whiteL s).1.length ≤ s.length := by
  unfold whiteL
  split
  · exact Nat.zero_le _
  · split
    · show (s.drop 4).length ≤ _
      rw [List.length_drop]
      omega
    · exact Nat.zero_le _
theorem nodeG_path (g : List Pl) (x : En) (p : List UInt8) (h : (nodeG g x p).2 = 0) : (nodeG g x p).1.path = p := by
  unfold nodeG at h ⊢
  by_cases h3 : x.kind = 3
  · rw [if_pos h3] at h ⊢
    by_cases h4 : (linkedG g x.to).2 = 0
    · rw [if_pos h4] at h ⊢
      simp only at h ⊢
      rw [pick_nd h]
    · rw [if_neg h4] at h
      exact absurd h h4
  · rw [if_neg h3] at h ⊢
    rw [pick_nd h]
set_option maxRecDepth 100000 in
set_option maxHeartbeats 32000000 in
theorem gstep_any (x : En) (hn : x.name.length ≤ 900000) (ht : x.to.length ≤ 900000) (B M : Nat) (g : List Pl) (hlen : g.length ≤ 900000) (k : Int) (w : World) (h : GrAt w B M g k) :
    Calls Tryz.prog 26 #[.pointer (some ⟨B, 0, none⟩), .agg #[.int .i64 x.kind, .string (str x.name), .string (str x.to), .int .i64 x.mode, .string (str x.data)]] w fun e w' =>
      e = .returned (.int .i64 (stepT k g x).2) ∧ ((stepT k g x).2 = 0 → GrAt w' B M (stepT k g x).1 k) ∧ GrC B M w w' := by
  have HI := Lib.hid info_nd4
  have HI5 := Lib.hid info_en5
  have CC := fun W => clean_any x.name hn W
  have CK := fun W => checkRoot_any x.kind W
  have hcl := clean_len x.name
  have HERR := Lib.hid (stepT_err (k := k) (g := g) (x := x))
  have HROOT := Lib.hid (stepT_root (k := k) (g := g) (x := x))
  obtain ⟨P, hP⟩ : ∃ P, P = (cleanL x.name).1 := ⟨_, rfl⟩
  obtain ⟨CE, hCE⟩ : ∃ CE, CE = (cleanL x.name).2 := ⟨_, rfl⟩
  have HWH := Lib.hid (stepT_wh (k := k) (g := g) hP)
  have HIN := Lib.hid (stepT_in (k := k) (g := g) hP)
  rw [← hP] at CC hcl HROOT
  rw [← hCE] at CC HERR HROOT HWH HIN
  have q0 := eq_lit P []
  have q0b := empty_lit P
  have CPA := fun W => parent_any P (by omega) W
  have CBA := fun W => base_any P (by omega) W
  have hbl := base_le P
  have hpl := parent_le P
  have CWH := fun W => white_any (baseL P) (by omega) W
  have hwl := white_len (baseL P)
  have HG0 := Lib.hid h
  have hBw := rowC_lt h.row
  have hMw := h.map.lt
  have hx : (Value.agg #[.int .i64 x.kind, .string (str x.name), .string (str x.to), .int .i64 x.mode, .string (str x.data)]) = .agg (enA x) := rfl
  obtain ⟨W0, hW0⟩ : ∃ W0, W0 = w.alloc (.cells #[.int .i64 x.kind, .string (str x.name), .string (str x.to), .int .i64 x.mode, .string (str x.data)] 38) := ⟨_, rfl⟩
  have HW0 := Lib.hid hW0
  have HB0 : Hid (Below w.heap.size w W0) := Lib.hid (by rw [hW0]; exact (Below.refl _ _).alloc (Nat.le_refl _) _)
  have HR0 : Hid (rowC W0 w.heap.size (enA x) 38) := Lib.hid (by rw [hW0]; exact rowC_new w _ _)
  have e1 : W0.cell? ⟨w.heap.size, 1, none⟩ = some (.string (str x.name)) := rowC_cell HR0.out 1
  clear hW0 h hx hCE hP
  generalize hst : stepT k g x = ST at *
  clear hst
  generalize hBL : baseL P = BL at *
  generalize whiteL BL = WL at *
  obtain ⟨wn, wo, wi⟩ := WL
  simp only at CWH HWH HIN hwl
  clear hBL
  by_cases hce : CE = 0
  rotate_left
  · have HR := Lib.hid (HERR.out hce)
    have g1 : (CE != 0) = true := by rw [bne_iff_ne]; exact hce
    have hce2 := Lib.hid hce
    clear HERR HROOT HWH HIN hce
    go_enter Tryz.func26, Tryz.ntmps26
    go_upto_region 1 with (fail)
    rw [← HW0.out]
    go_wp2_with (first
    | (go_at_call 35; ((with_reducible refine (CC _).mono ?_); rintro e w1 ⟨rfl, hB1⟩; have HB1 := Lib.hid (HB0.out.trans (hB1.mono HB0.out.size)); have HR1 := Lib.hid (rowC_below HR0.out hB1 (rowC_lt HR0.out)); clear hB1; have e10 : w1.cell? ⟨w.heap.size, 0, none⟩ = some (.int .i64 x.kind) := rowC_cell HR1.out 0))
    | (go_at_call 36; ((with_reducible refine (CPA _).mono ?_); rintro e w2 ⟨rfl, hB2⟩; have HB2 := Lib.hid (HB1.out.trans (hB2.mono HB1.out.size)); have HR2 := Lib.hid (rowC_below HR1.out hB2 (rowC_lt HR1.out)); clear hB2))
    | (go_at_call 41; ((with_reducible refine (CBA _).mono ?_); rintro e w3 ⟨rfl, hB3⟩; have HB3 := Lib.hid (HB2.out.trans (hB3.mono HB2.out.size)); have HR3 := Lib.hid (rowC_below HR2.out hB3 (rowC_lt HR2.out)); clear hB3))
    | (go_at_call 40; ((with_reducible refine (CWH _).mono ?_); rintro e w4 ⟨rfl, hB4⟩; have HB4 := Lib.hid (HB3.out.trans (hB4.mono HB3.out.size)); have HR4 := Lib.hid (rowC_below HR3.out hB4 (rowC_lt HR3.out)); have HG4 := Lib.hid (HG0.out.below HB4.out); clear hB4)))
    go_ret
    exact ⟨by rw [HR.out]; rfl, fun e => absurd (by rw [HR.out] at e; exact e) hce2.out, Chg.of_below HB1.out⟩
  subst hce
  by_cases hp0 : P = []
  · have HR := Lib.hid (HROOT.out rfl hp0)
    rw [decide_eq_true hp0] at q0 q0b
    obtain ⟨kr, hkr⟩ : ∃ kr, kr = (if x.kind = 2 then (0 : Int) else 71) := ⟨_, rfl⟩
    rw [← hkr] at CK HR
    clear HERR HROOT HWH HIN hp0 hkr
    generalize str P = PS at *
    go_enter Tryz.func26, Tryz.ntmps26
    go_upto_region 1 with (fail)
    rw [← HW0.out]
    go_wp2_with (first
    | (go_at_call 35; ((with_reducible refine (CC _).mono ?_); rintro e w1 ⟨rfl, hB1⟩; have HB1 := Lib.hid (HB0.out.trans (hB1.mono HB0.out.size)); have HR1 := Lib.hid (rowC_below HR0.out hB1 (rowC_lt HR0.out)); clear hB1; have e10 : w1.cell? ⟨w.heap.size, 0, none⟩ = some (.int .i64 x.kind) := rowC_cell HR1.out 0))
    | (go_at_call 36; ((with_reducible refine (CPA _).mono ?_); rintro e w2 ⟨rfl, hB2⟩; have HB2 := Lib.hid (HB1.out.trans (hB2.mono HB1.out.size)); have HR2 := Lib.hid (rowC_below HR1.out hB2 (rowC_lt HR1.out)); clear hB2))
    | (go_at_call 41; ((with_reducible refine (CBA _).mono ?_); rintro e w3 ⟨rfl, hB3⟩; have HB3 := Lib.hid (HB2.out.trans (hB3.mono HB2.out.size)); have HR3 := Lib.hid (rowC_below HR2.out hB3 (rowC_lt HR2.out)); clear hB3))
    | (go_at_call 40; ((with_reducible refine (CWH _).mono ?_); rintro e w4 ⟨rfl, hB4⟩; have HB4 := Lib.hid (HB3.out.trans (hB4.mono HB3.out.size)); have HR4 := Lib.hid (rowC_below HR3.out hB4 (rowC_lt HR3.out)); have HG4 := Lib.hid (HG0.out.below HB4.out); clear hB4))
    | (go_at_call 39; ((with_reducible refine (CK _).mono ?_); rintro e w5 ⟨rfl, rfl⟩)))
    go_ret
    exact ⟨by rw [HR.out]; rfl, fun _ => by rw [HR.out]; exact HG0.out.below HB1.out, Chg.of_below HB1.out⟩
  rw [decide_eq_false hp0] at q0 q0b
  cases wi with
  | true =>
    have HR := Lib.hid (HWH.out rfl hp0 rfl)
    have CT := fun W (hW : GrAt W B M g k) => takeAway_any (parentL P) wn wo (by omega) (by omega) B M g k W hW
    clear HERR HROOT HWH HIN hp0
    generalize hgt : takeG k g (parentL P) wn wo = GT at *
    clear hgt
    generalize str (parentL P) = DS at *
    generalize str P = PS at *
    generalize str BL = BS at *
    generalize str wn = NS at *
    go_enter Tryz.func26, Tryz.ntmps26
    go_upto_region 1 with (fail)
    rw [← HW0.out]
    go_wp2_with (first
    | (go_at_call 35; ((with_reducible refine (CC _).mono ?_); rintro e w1 ⟨rfl, hB1⟩; have HB1 := Lib.hid (HB0.out.trans (hB1.mono HB0.out.size)); have HR1 := Lib.hid (rowC_below HR0.out hB1 (rowC_lt HR0.out)); clear hB1; have e10 : w1.cell? ⟨w.heap.size, 0, none⟩ = some (.int .i64 x.kind) := rowC_cell HR1.out 0))
    | (go_at_call 36; ((with_reducible refine (CPA _).mono ?_); rintro e w2 ⟨rfl, hB2⟩; have HB2 := Lib.hid (HB1.out.trans (hB2.mono HB1.out.size)); have HR2 := Lib.hid (rowC_below HR1.out hB2 (rowC_lt HR1.out)); clear hB2))
    | (go_at_call 41; ((with_reducible refine (CBA _).mono ?_); rintro e w3 ⟨rfl, hB3⟩; have HB3 := Lib.hid (HB2.out.trans (hB3.mono HB2.out.size)); have HR3 := Lib.hid (rowC_below HR2.out hB3 (rowC_lt HR2.out)); clear hB3))
    | (go_at_call 40; ((with_reducible refine (CWH _).mono ?_); rintro e w4 ⟨rfl, hB4⟩; have HB4 := Lib.hid (HB3.out.trans (hB4.mono HB3.out.size)); have HR4 := Lib.hid (rowC_below HR3.out hB4 (rowC_lt HR3.out)); have HG4 := Lib.hid (HG0.out.below HB4.out); clear hB4))
    | (go_at_call 42; (refine (CT _ HG4.out).mono ?_; rintro e w5 ⟨rfl, hG5, hC5⟩)))
    go_ret
    exact ⟨by rw [HR.out]; rfl, fun _ => by rw [HR.out]; exact hG5, Chg.trans (Chg.of_below HB4.out) hC5 (fun _ _ h => h)⟩
  | false =>
    have HR := Lib.hid (HIN.out rfl hp0 rfl)
    have CE1 := fun W (hW : GrAt W B M g k) => enter_any B M k _ (parentL P) (Nat.le_refl _) g (by omega) W hW
    clear HERR HROOT HWH HIN hp0
    cases he : enterG k (parentL P) g with
    | none =>
      rw [he] at CE1
      have RS2 : Hid (ST = (g, 71)) := Lib.hid (by rw [HR.out, he])
      clear HR he
      generalize str (parentL P) = DS at *
      generalize str P = PS at *
      generalize str BL = BS at *
      generalize str wn = NS at *
      go_enter Tryz.func26, Tryz.ntmps26
      go_upto_region 1 with (fail)
      rw [← HW0.out]
      go_wp2_with (first
    | (go_at_call 35; ((with_reducible refine (CC _).mono ?_); rintro e w1 ⟨rfl, hB1⟩; have HB1 := Lib.hid (HB0.out.trans (hB1.mono HB0.out.size)); have HR1 := Lib.hid (rowC_below HR0.out hB1 (rowC_lt HR0.out)); clear hB1; have e10 : w1.cell? ⟨w.heap.size, 0, none⟩ = some (.int .i64 x.kind) := rowC_cell HR1.out 0))
    | (go_at_call 36; ((with_reducible refine (CPA _).mono ?_); rintro e w2 ⟨rfl, hB2⟩; have HB2 := Lib.hid (HB1.out.trans (hB2.mono HB1.out.size)); have HR2 := Lib.hid (rowC_below HR1.out hB2 (rowC_lt HR1.out)); clear hB2))
    | (go_at_call 41; ((with_reducible refine (CBA _).mono ?_); rintro e w3 ⟨rfl, hB3⟩; have HB3 := Lib.hid (HB2.out.trans (hB3.mono HB2.out.size)); have HR3 := Lib.hid (rowC_below HR2.out hB3 (rowC_lt HR2.out)); clear hB3))
    | (go_at_call 40; ((with_reducible refine (CWH _).mono ?_); rintro e w4 ⟨rfl, hB4⟩; have HB4 := Lib.hid (HB3.out.trans (hB4.mono HB3.out.size)); have HR4 := Lib.hid (rowC_below HR3.out hB4 (rowC_lt HR3.out)); have HG4 := Lib.hid (HG0.out.below HB4.out); clear hB4))
    | (go_at_call 43; (refine (CE1 _ HG4.out).mono ?_; rintro e w5 ⟨rfl, hC5⟩)))
      go_ret
      exact ⟨by rw [RS2.out]; rfl, fun e => (by rw [RS2.out] at e; cases e), Chg.trans (Chg.of_below HB4.out) hC5 (fun _ _ h => h)⟩
    | some g1 =>
      have hlen1 := enterG_len k _ (parentL P) g g1 (Nat.le_refl _) he
      rw [he] at CE1
      have RS2 : Hid (ST = if (nodeG g1 x P).2 = 0 then (layG k g1 (nodeG g1 x P).1, 0) else (g1, (nodeG g1 x P).2)) := Lib.hid (by rw [HR.out, he])
      have CN := fun W (hW : GrAt W B M g1 k) => nodeOf_any x P (by omega) ht B M g1 k W hW
      have HNP := Lib.hid (nodeG_path g1 x P)
      clear HR he
      generalize (nodeG g1 x P) = NG at *
      obtain ⟨nd, ne⟩ := NG
      simp only at CN RS2 HNP
      have hone := Lib.hid (ndA_one nd)
      generalize str (parentL P) = DS at *
      generalize hPS : str P = PS at *
      clear hPS
      generalize str BL = BS at *
      generalize str wn = NS at *
      by_cases hne : ne = 0
      rotate_left
      · have RS3 := Lib.hid (RS2.out.trans (if_neg hne))
        have g1' : (ne != 0) = true := by rw [bne_iff_ne]; exact hne
        have hne2 := Lib.hid hne
        clear RS2 hne HNP
        go_enter Tryz.func26, Tryz.ntmps26
        go_upto_region 1 with (fail)
        rw [← HW0.out]
        go_wp2_with (first
    | (go_at_call 35; ((with_reducible refine (CC _).mono ?_); rintro e w1 ⟨rfl, hB1⟩; have HB1 := Lib.hid (HB0.out.trans (hB1.mono HB0.out.size)); have HR1 := Lib.hid (rowC_below HR0.out hB1 (rowC_lt HR0.out)); clear hB1; have e10 : w1.cell? ⟨w.heap.size, 0, none⟩ = some (.int .i64 x.kind) := rowC_cell HR1.out 0))
    | (go_at_call 36; ((with_reducible refine (CPA _).mono ?_); rintro e w2 ⟨rfl, hB2⟩; have HB2 := Lib.hid (HB1.out.trans (hB2.mono HB1.out.size)); have HR2 := Lib.hid (rowC_below HR1.out hB2 (rowC_lt HR1.out)); clear hB2))
    | (go_at_call 41; ((with_reducible refine (CBA _).mono ?_); rintro e w3 ⟨rfl, hB3⟩; have HB3 := Lib.hid (HB2.out.trans (hB3.mono HB2.out.size)); have HR3 := Lib.hid (rowC_below HR2.out hB3 (rowC_lt HR2.out)); clear hB3))
    | (go_at_call 40; ((with_reducible refine (CWH _).mono ?_); rintro e w4 ⟨rfl, hB4⟩; have HB4 := Lib.hid (HB3.out.trans (hB4.mono HB3.out.size)); have HR4 := Lib.hid (rowC_below HR3.out hB4 (rowC_lt HR3.out)); have HG4 := Lib.hid (HG0.out.below HB4.out); clear hB4))
    | (go_at_call 43; (refine (CE1 _ HG4.out).mono ?_; rintro e w5 ⟨rfl, hG5, hC5⟩; have HG5 := Lib.hid hG5; have HC5 := Lib.hid (Chg.trans (Chg.of_below HB4.out) hC5 (fun _ _ h => h)); have HR5 := Lib.hid (hC5.rowC HR4.out (by omega)); clear hG5 hC5))
    | ((with_reducible show wpList _ _ _ (⟨some 50, .load _ _, _, _, _, _⟩ :: _) _ _); refine wpList_load_row rfl 38 _ rfl w.heap.size rfl 38 (enA x) (0, 0) _ HR5.out Tryz.underlying38 rfl HI5.out ?_)
    | (go_at_call 44; (refine (CN _ HG5.out).mono ?_; rintro e w6 ⟨rfl, hB6⟩; have HC6 := Lib.hid (Chg.then_below HC5.out hB6); clear hB6))
    | ((with_reducible show wpList _ _ _ (⟨none, .store _ (.tmp 12) _, _, _, _, _⟩ :: _) _ _); refine wpList_store_last rfl 41 _ _ rfl w6.heap.size (ndA nd) rfl rfl 41 _ rfl HI.out rfl hone.out ?_))
        go_ret
        exact ⟨by rw [RS3.out]; rfl, fun e => absurd (by rw [RS3.out] at e; exact e) hne2.out, Chg.alloc HC6.out _⟩
      · have RS3 := Lib.hid (RS2.out.trans (if_pos hne))
        have hnp := HNP.out hne
        have CPU := fun W (hW : GrAt W B M g1 k) => gput_any nd (by rw [hnp]; omega) B M g1 (by omega) k W hW
        subst hne
        clear RS2 HNP
        go_enter Tryz.func26, Tryz.ntmps26
        go_upto_region 1 with (fail)
        rw [← HW0.out]
        go_wp2_with (first
    | (go_at_call 35; ((with_reducible refine (CC _).mono ?_); rintro e w1 ⟨rfl, hB1⟩; have HB1 := Lib.hid (HB0.out.trans (hB1.mono HB0.out.size)); have HR1 := Lib.hid (rowC_below HR0.out hB1 (rowC_lt HR0.out)); clear hB1; have e10 : w1.cell? ⟨w.heap.size, 0, none⟩ = some (.int .i64 x.kind) := rowC_cell HR1.out 0))
    | (go_at_call 36; ((with_reducible refine (CPA _).mono ?_); rintro e w2 ⟨rfl, hB2⟩; have HB2 := Lib.hid (HB1.out.trans (hB2.mono HB1.out.size)); have HR2 := Lib.hid (rowC_below HR1.out hB2 (rowC_lt HR1.out)); clear hB2))
    | (go_at_call 41; ((with_reducible refine (CBA _).mono ?_); rintro e w3 ⟨rfl, hB3⟩; have HB3 := Lib.hid (HB2.out.trans (hB3.mono HB2.out.size)); have HR3 := Lib.hid (rowC_below HR2.out hB3 (rowC_lt HR2.out)); clear hB3))
    | (go_at_call 40; ((with_reducible refine (CWH _).mono ?_); rintro e w4 ⟨rfl, hB4⟩; have HB4 := Lib.hid (HB3.out.trans (hB4.mono HB3.out.size)); have HR4 := Lib.hid (rowC_below HR3.out hB4 (rowC_lt HR3.out)); have HG4 := Lib.hid (HG0.out.below HB4.out); clear hB4))
    | (go_at_call 43; (refine (CE1 _ HG4.out).mono ?_; rintro e w5 ⟨rfl, hG5, hC5⟩; have HG5 := Lib.hid hG5; have HC5 := Lib.hid (Chg.trans (Chg.of_below HB4.out) hC5 (fun _ _ h => h)); have HR5 := Lib.hid (hC5.rowC HR4.out (by omega)); clear hG5 hC5))
    | ((with_reducible show wpList _ _ _ (⟨some 50, .load _ _, _, _, _, _⟩ :: _) _ _); refine wpList_load_row rfl 38 _ rfl w.heap.size rfl 38 (enA x) (0, 0) _ HR5.out Tryz.underlying38 rfl HI5.out ?_)
    | (go_at_call 44; (refine (CN _ HG5.out).mono ?_; rintro e w6 ⟨rfl, hB6⟩; have HG6 : Hid (GrAt (w6.alloc (.cells (ndA nd) 41)) B M g1 k) := Lib.hid (HG5.out.below (hB6.alloc hB6.size _)); have HC6 : Hid (GrC B M w (w6.alloc (.cells (ndA nd) 41))) := Lib.hid (Chg.alloc (Chg.then_below HC5.out hB6) _); have HR6 := Lib.hid (rowC_new w6 (ndA nd) 41); clear hB6))
    | ((with_reducible show wpList _ _ _ (⟨none, .store _ (.tmp 12) _, _, _, _, _⟩ :: _) _ _); refine wpList_store_last rfl 41 _ _ rfl w6.heap.size (ndA nd) rfl rfl 41 _ rfl HI.out rfl hone.out ?_)
    | ((with_reducible show wpList _ _ _ (⟨some 59, .load _ _, _, _, _, _⟩ :: _) _ _); refine wpList_load_row rfl 41 _ rfl w6.heap.size rfl 41 (ndA nd) (0, 0) _ HR6.out Tryz.underlying41 rfl HI.out ?_)
    | (go_at_call 45; (refine (CPU _ HG6.out).mono ?_; rintro e w7 ⟨rfl, hG7, hC7⟩)))
        go_ret
        exact ⟨by rw [RS3.out]; rfl, fun _ => by rw [RS3.out]; exact hG7, Chg.trans HC6.out hC7 (fun _ _ h => h)⟩
end Go.Proofs.YtbjgmkjinnbokaaGreatDoor
#print axioms Go.Proofs.YtbjgmkjinnbokaaGreatDoor.gstep_any

/- Layer 16: the program's lay. -/
namespace Go.Proofs.YtbjgmkjinnbokaaGreatDoor
open Go.RowKit

theorem stepsT_cons (k : Int) (g : List Pl) (x : En) (r : List En) : stepsT k g (x :: r) = if (stepT k g x).2 = 0 then stepsT k (stepT k g x).1 r else (g, (stepT k g x).2) := rfl
theorem stepsT_app (k : Int) : ∀ (a b : List En) (g : List Pl), stepsT k g (a ++ b) = if (stepsT k g a).2 = 0 then stepsT k (stepsT k g a).1 b else stepsT k g a
  | [], b, g => rfl
  | x :: a, b, g => by
    rw [List.cons_append, stepsT_cons, stepsT_cons]
    by_cases h : (stepT k g x).2 = 0
    · rw [if_pos h, if_pos h, stepsT_app k a b]
    · rw [if_neg h, if_neg h]
      simp only
      rw [if_neg h]
theorem layG_len (k : Int) (g : List Pl) (n : Nd) : (layG k g n).length ≤ g.length + 1 := by
  unfold layG
  refine Nat.le_trans (put_len _ _) ?_
  split
  · have := List.length_filter_le (fun q : Pl => !insideB n.path q.nd.path) g
    omega
  · exact Nat.le_refl _
theorem stepT_len (k : Int) (g : List Pl) (x : En) (h : (stepT k g x).2 = 0) : (stepT k g x).1.length ≤ g.length + 201 := by
  by_cases hce : (cleanL x.name).2 = 0
  rotate_left
  · rw [stepT_err hce]
    show g.length ≤ _
    omega
  · by_cases hp : (cleanL x.name).1 = []
    · rw [stepT_root hce hp]
      show g.length ≤ _
      omega
    · cases hw : (whiteL (baseL (cleanL x.name).1)).2.2 with
      | true =>
        rw [stepT_wh rfl hce hp hw]
        have := List.length_filter_le (fun q : Pl => !(!decide (q.lay = k) && (if (whiteL (baseL (cleanL x.name).1)).2.1 then !decide (q.nd.path = parentL (cleanL x.name).1) && insideB (parentL (cleanL x.name).1) q.nd.path else insideB (join2 (parentL (cleanL x.name).1) (whiteL (baseL (cleanL x.name).1)).1) q.nd.path))) g
        show (takeG _ _ _ _ _).length ≤ _
        unfold takeG
        omega
      | false =>
        rw [stepT_in rfl hce hp hw] at h ⊢
        have hcl := clean_len x.name
        have hpl := parent_le (cleanL x.name).1
        cases he : enterG k (parentL (cleanL x.name).1) g with
        | none => rw [he] at h; cases h
        | some g1 =>
          rw [he] at h
          have h1 := enterG_len k _ (parentL (cleanL x.name).1) g g1 (Nat.le_refl _) he
          simp only at h ⊢
          split at h
          · rename_i h2
            rw [if_pos h2]
            have := layG_len k g1 (nodeG g1 x (cleanL x.name).1).1
            show (layG _ _ _).length ≤ _
            omega
          · rename_i h2
            exact absurd h h2
set_option maxRecDepth 100000 in
set_option maxHeartbeats 16000000 in
theorem lay_any (l : List En) (ad : Option Addr) (c : Nat) (hl : l.length ≤ maxLen) (hsm : ∀ x ∈ l, x.name.length ≤ 900000 ∧ x.to.length ≤ 900000) (B M : Nat) (g : List Pl) (hg : g.length ≤ 400000) (k : Int) (hk0 : 0 ≤ k) (hk1 : k ≤ 1000000)
    (w0 : World) (hE : EnsAt w0 ad l) (w : World) (hb0 : Below w0.heap.size w0 w) (hB0 : w0.heap.size ≤ B) (hM0 : w0.heap.size ≤ M) (h : GrAt w B M g k) :
    Calls Tryz.prog 15 #[.pointer (some ⟨B, 0, none⟩), .slice ad l.length c] w fun e w' =>
      e = .returned (.int .i64 (laysT (k + 1) g l).2) ∧ ((laysT (k + 1) g l).2 = 0 → GrAt w' B M (laysT (k + 1) g l).1 (k + 1)) ∧ GrC B M w w' := by
  have HI5 := Lib.hid info_en5
  have HL : Hid (laysT (k + 1) g l = if 200 < l.length then (g, 63) else if (stepsT (k + 1) g l).2 = 0 then (if 400 < (stepsT (k + 1) g l).1.length then (g, 63) else ((stepsT (k + 1) g l).1, 0)) else (g, (stepsT (k + 1) g l).2)) := Lib.hid rfl
  have HN := Lib.hid hE
  have HSM := Lib.hid hsm
  have HG0 := Lib.hid h
  have hBM := h.ne
  have hBw := rowC_lt h.row
  have hMw := h.map.lt
  have HSAME := Lib.hid hb0
  have HAPP : Hid (∀ (j : Nat) (x : En), l[j]? = some x → ∃ r, l = l.take j ++ x :: r ∧ l.take (j + 1) = l.take j ++ [x]) := Lib.hid fun j x hx => by
    obtain ⟨hj, rfl⟩ := List.getElem?_eq_some_iff.1 hx
    refine ⟨l.drop (j + 1), ?_, List.take_succ_eq_append_getElem hj⟩
    conv => lhs; rw [← List.take_append_drop j l, List.drop_eq_getElem_cons hj]
  have HGE : Hid (∀ i, i < l.length → ∃ x, l[i]? = some x) := Lib.hid fun i hi => ⟨_, List.getElem?_eq_getElem hi⟩
  have HALL : Hid (l.take l.length = l) := Lib.hid List.take_length
  unfold maxLen at hl
  obtain ⟨N, hN⟩ : ∃ N, N = l.length := ⟨_, rfl⟩
  rw [← hN] at hl HL HGE HALL ⊢
  clear h hE hsm hN hb0
  by_cases h2 : 200 < N
  · have HR := Lib.hid (HL.out.trans (if_pos h2))
    have g1 : ¬ (N : Int) ≤ 200 := by omega
    clear HL
    go_enter Tryz.func15, Tryz.ntmps15
    go_wp2
    go_ret
    exact ⟨by rw [HR.out]; rfl, fun e => (by rw [HR.out] at e; cases e), Chg.refl _ _⟩
  have HL2 := Lib.hid (HL.out.trans (if_neg h2))
  have g1 : (N : Int) ≤ 200 := by omega
  have hN200 : N ≤ 200 := by omega
  have c1 : w.cell? ⟨B, 1, none⟩ = some (.int .i64 k) := rowC_cell HG0.out.row 1
  have f1 : w.frozen? ⟨B, 1, none⟩ = false := rowC_free HG0.out.row 1
  clear HL h2
  go_enter Tryz.func15, Tryz.ntmps15
  go_upto_region 5 with (fail)
  obtain ⟨W0, hW0⟩ : ∃ W0, W0 = w.setCell ⟨B, 1, none⟩ (.int .i64 (k + 1)) := ⟨_, rfl⟩
  rw [← hW0]
  have HG1 : Hid (GrAt W0 B M g (k + 1)) := Lib.hid (by
    rw [hW0]
    exact ⟨rowC_set HG0.out.row 1 _, HG0.out.map.chg (s := fun j => j = B) ((Chg.refl _ _).setCell _ _ (.inl rfl)) (fun e => hBM e.symm)⟩)
  have HC1 : Hid (GrC B M w W0) := Lib.hid (by rw [hW0]; exact (Chg.refl _ _).setCell _ _ (.inl (.inl rfl)))
  have HBLW : Hid (∀ W, GrC B M w W → Below w0.heap.size w0 W) := Lib.hid fun W hW => HSAME.out.trans (hW.below HSAME.out.size (fun j h1 h2 => by omega))
  clear hW0 c1 f1 HG0
  go_loopw [6, 7, 20] (fun _ _ i wr => ∃ (j : Nat) (gj : List Pl), j ≤ N ∧ i = .int .i64 j ∧ Hid (stepsT (k + 1) g (l.take j) = (gj, 0)) ∧ Hid (gj.length ≤ 400000 + 201 * j) ∧ Hid (GrAt wr B M gj (k + 1)) ∧ Hid (GrC B M w wr)) (fun _ _ i _ => N - (intOf i).toNat)
  case atStart => exact ⟨0, g, Nat.zero_le _, rfl, Lib.hid rfl, Lib.hid (by omega), HG1, HC1⟩
  case round =>
    obtain ⟨j, gj, hj, rfl, HST, HLJ, HGJ, HCJ⟩ := hrel
    by_cases hlt : j < N
    · obtain ⟨x, hx⟩ := HGE.out j hlt
      obtain ⟨ax, rfl, hax, hcx⟩ := HN.out j x hx
      have HCX : Hid (∀ u v, (enV x)[u]? = some v → wr.cell? ((ax.add (j * 5)).add u) = some v) := Lib.hid fun u v hu => by
        rw [cell_far (HBLW.out wr HCJ.out) (by rw [add_blk, add_blk]; exact hax)]
        exact hcx u v hu
      have hone := Lib.hid (enA_one x)
      have gl : (j : Int) < (N : Int) := by omega
      obtain ⟨hs1, hs2⟩ := HSM.out x (List.mem_of_getElem? hx)
      have hlj := HLJ.out
      have CS := fun W (hW : GrAt W B M gj (k + 1)) => gstep_any x hs1 hs2 B M gj (by omega) (k + 1) W hW
      obtain ⟨r, hr1, hr2⟩ := HAPP.out j x hx
      have HNEXT : Hid ((stepT (k + 1) gj x).2 = 0 → stepsT (k + 1) g (l.take (j + 1)) = ((stepT (k + 1) gj x).1, 0)) := Lib.hid fun h0 => by
        rw [hr2, stepsT_app, HST.out]
        simp only
        rw [if_pos (by trivial)]
        unfold stepsT
        rw [if_pos h0]
        rfl
      have HFAIL : Hid ((stepT (k + 1) gj x).2 ≠ 0 → (stepsT (k + 1) g l).2 = (stepT (k + 1) gj x).2) := Lib.hid fun h0 => by
        rw [hr1, stepsT_app, HST.out]
        simp only
        rw [if_pos (by trivial)]
        unfold stepsT
        rw [if_neg h0]
      have HSL := Lib.hid (stepT_len (k + 1) gj x)
      generalize stepT (k + 1) gj x = ST at *
      obtain ⟨g2, e2⟩ := ST
      simp only at CS HNEXT HFAIL HSL
      obtain ⟨W1, hW1⟩ : ∃ W1, W1 = wr.alloc (.cells (enA x) 38) := ⟨_, rfl⟩
      have HW1 := Lib.hid hW1
      have HZ1 : Hid (rowC W1 wr.heap.size (enA x) 38) := Lib.hid (by rw [hW1]; exact rowC_new wr _ _)
      have HG2 : Hid (GrAt W1 B M gj (k + 1)) := Lib.hid (by rw [hW1]; exact HGJ.out.below ((Below.refl _ _).alloc (Nat.le_refl _) _))
      have HC2 : Hid (GrC B M w W1) := Lib.hid (by rw [hW1]; exact HCJ.out.alloc _)
      clear hW1 hx hcx hs1 hs2 hr1 hr2 HST
      by_cases he2 : e2 = 0
      · have HNX := Lib.hid (HNEXT.out he2)
        have HLN := Lib.hid (HSL.out he2)
        subst he2
        clear HNEXT HFAIL HSL
        go_wp2_with (first
          | ((with_reducible show wpList _ _ _ (⟨some 23, .load _ _, _, _, _, _⟩ :: _) _ _); refine wpList_load_at rfl 38 _ rfl (ax.add (j * 5)) rfl (enV x) _ HCX.out Tryz.underlying38 rfl HI5.out ?_)
          | ((with_reducible show wpList _ _ _ (⟨none, .store _ (.tmp 6) _, _, _, _, _⟩ :: _) _ _); refine wpList_store_last rfl 38 _ _ rfl wr.heap.size (enA x) rfl rfl 38 _ rfl HI5.out rfl hone.out ?_; rw [← HW1.out])
          | ((with_reducible show wpList _ _ _ (⟨some 25, .load _ _, _, _, _, _⟩ :: _) _ _); refine wpList_load_row rfl 38 _ rfl wr.heap.size rfl 38 (enA x) (0, 0) _ HZ1.out Tryz.underlying38 rfl HI5.out ?_)
          | (go_at_call 26; (refine (CS _ HG2.out).mono ?_; rintro e w2 ⟨rfl, hG3, hC3⟩; have HG3 := Lib.hid (hG3 rfl); have HC3 := Lib.hid (Chg.trans HC2.out hC3 (fun _ _ h => h)); clear hG3 hC3)))
        go_roundw
        case rel => exact ⟨j + 1, g2, by omega, by go_num, HNX, Lib.hid (by have := HLN.out; omega), HG3, HC3⟩
        case measure => simp [intOf]; omega
      · have HFL := HFAIL.out he2
        have HR : Hid (laysT (k + 1) g l = (g, e2)) := Lib.hid (by rw [HL2.out, if_neg (by rw [HFL]; exact he2), HFL])
        have g5 : (e2 != 0) = true := by rw [bne_iff_ne]; exact he2
        have he3 := Lib.hid he2
        clear HNEXT HFAIL HSL HFL he2
        go_wp2_with (first
          | ((with_reducible show wpList _ _ _ (⟨some 23, .load _ _, _, _, _, _⟩ :: _) _ _); refine wpList_load_at rfl 38 _ rfl (ax.add (j * 5)) rfl (enV x) _ HCX.out Tryz.underlying38 rfl HI5.out ?_)
          | ((with_reducible show wpList _ _ _ (⟨none, .store _ (.tmp 6) _, _, _, _, _⟩ :: _) _ _); refine wpList_store_last rfl 38 _ _ rfl wr.heap.size (enA x) rfl rfl 38 _ rfl HI5.out rfl hone.out ?_; rw [← HW1.out])
          | ((with_reducible show wpList _ _ _ (⟨some 25, .load _ _, _, _, _, _⟩ :: _) _ _); refine wpList_load_row rfl 38 _ rfl wr.heap.size rfl 38 (enA x) (0, 0) _ HZ1.out Tryz.underlying38 rfl HI5.out ?_)
          | (go_at_call 26; (refine (CS _ HG2.out).mono ?_; rintro e w2 ⟨rfl, _, hC3⟩; have HC3 := Lib.hid (Chg.trans HC2.out hC3 (fun _ _ h => h)); clear hC3)))
        go_ret
        exact ⟨by rw [HR.out]; rfl, fun e => absurd (by rw [HR.out] at e; exact e) he3.out, HC3.out⟩
    · obtain rfl : j = N := by omega
      have HSTF := HST.out
      rw [HALL.out] at HSTF
      have c0 : wr.cell? ⟨B, 0, none⟩ = some (.map (some M)) := rowC_cell HGJ.out.row 0
      have hlen := fun ty => HGJ.out.map.len ty
      obtain ⟨L, hL⟩ : ∃ L, L = gj.length := ⟨_, rfl⟩
      rw [← hL] at hlen
      by_cases h4 : 400 < L
      · have HR : Hid (laysT (k + 1) g l = (g, 63)) := Lib.hid (by rw [HL2.out, HSTF]; simp only; rw [if_pos (by trivial), if_pos (by rw [← hL]; exact h4)])
        have g4 : ¬ (L : Int) ≤ 400 := by omega
        clear HSTF hL
        go_wp2
        go_ret
        exact ⟨by rw [HR.out]; rfl, fun e => (by rw [HR.out] at e; cases e), HCJ.out⟩
      · have HR : Hid (laysT (k + 1) g l = (gj, 0)) := Lib.hid (by rw [HL2.out, HSTF]; simp only; rw [if_pos (by trivial), if_neg (by rw [← hL]; exact h4)])
        have g4 : (L : Int) ≤ 400 := by omega
        clear HSTF hL
        go_wp2
        go_ret
        exact ⟨by rw [HR.out]; rfl, fun _ => by rw [HR.out]; exact HGJ.out, HCJ.out⟩
end Go.Proofs.YtbjgmkjinnbokaaGreatDoor
#print axioms Go.Proofs.YtbjgmkjinnbokaaGreatDoor.lay_any

