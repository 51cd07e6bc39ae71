/- Layer 16: the program's step. -/
import Derived.Test.YtokeiagcdahmaaaDoorTtR
namespace Go.Proofs.YtokeiagcdahmaaaDoor
open Go.RowKit

theorem stepT_err {k : Int} {g : List Pl} {x : En} (h : (cleanL x.name).2 ≠ 0) : stepT k g x = (g, (cleanL x.name).2) := by
  unfold stepT
  simp only
  rw [if_neg h]
theorem stepT_root {k : Int} {g : List Pl} {x : En} (h : (cleanL x.name).2 = 0) (h2 : (cleanL x.name).1 = []) : stepT k g x = (g, if x.kind = 2 then 0 else 71) := by
  unfold stepT
  simp only
  rw [if_pos h, if_pos h2]
theorem stepT_wh {k : Int} {g : List Pl} {x : En} {P : List UInt8} (hP : P = (cleanL x.name).1) (h : (cleanL x.name).2 = 0) (h2 : P ≠ []) (h3 : (whiteL (baseL P)).2.2 = true) :
    stepT k g x = (takeG k g (parentL P) (whiteL (baseL P)).1 (whiteL (baseL P)).2.1, 0) := by
  unfold stepT
  simp only
  rw [if_pos h, ← hP, if_neg h2, if_pos h3]
theorem stepT_in {k : Int} {g : List Pl} {x : En} {P : List UInt8} (hP : P = (cleanL x.name).1) (h : (cleanL x.name).2 = 0) (h2 : P ≠ []) (h3 : (whiteL (baseL P)).2.2 = false) :
    stepT k g x = match enterG k (parentL P) g with
        | none => (g, 71)
        | some g => if (nodeG g x P).2 = 0 then (layG k g (nodeG g x P).1, 0) else (g, (nodeG g x P).2) := by
  unfold stepT
  simp only
  rw [if_pos h, ← hP, if_neg h2, if_neg (by rw [h3]; decide)]
  cases enterG k (parentL P) g <;> rfl
theorem pick_nd {b : Bool} {n : Nd} (h : (if b = true then (n, (0 : Int)) else (default, 2)).2 = 0) : (if b = true then (n, (0 : Int)) else (default, 2)).1 = n := by
  cases b
  · cases h
  · rfl
theorem white_len (s : List UInt8) : (whiteL s).1.length ≤ s.length := by
  unfold whiteL
  split
  · exact Nat.zero_le _
  · split
    · show (s.drop 4).length ≤ _
      rw [List.length_drop]
      omega
    · exact Nat.zero_le _
theorem nodeG_path (g : List Pl) (x : En) (p : List UInt8) (h : (nodeG g x p).2 = 0) : (nodeG g x p).1.path = p := by
  unfold nodeG at h ⊢
  by_cases h3 : x.kind = 3
  · rw [if_pos h3] at h ⊢
    by_cases h4 : (linkedG g x.to).2 = 0
    · rw [if_pos h4] at h ⊢
      simp only at h ⊢
      rw [pick_nd h]
    · rw [if_neg h4] at h
      exact absurd h h4
  · rw [if_neg h3] at h ⊢
    rw [pick_nd h]
set_option maxRecDepth 100000 in
set_option maxHeartbeats 32000000 in
theorem gstep_any (x : En) (hn : x.name.length ≤ 900000) (ht : x.to.length ≤ 900000) (B M : Nat) (g : List Pl) (hlen : g.length ≤ 900000) (k : Int) (w : World) (h : GrAt w B M g k) :
    Calls Tryd.prog 18 #[.pointer (some ⟨B, 0, none⟩), .agg #[.int .i64 x.kind, .string (str x.name), .string (str x.to), .int .i64 x.mode, .string (str x.data)]] w fun e w' =>
      e = .returned (.int .i64 (stepT k g x).2) ∧ ((stepT k g x).2 = 0 → GrAt w' B M (stepT k g x).1 k) ∧ GrC B M w w' := by
  have HI := Lib.hid info_nd4
  have HI5 := Lib.hid info_en5
  have CC := fun W => clean_any x.name hn W
  have CK := fun W => checkRoot_any x.kind W
  have hcl := clean_len x.name
  have HERR := Lib.hid (stepT_err (k := k) (g := g) (x := x))
  have HROOT := Lib.hid (stepT_root (k := k) (g := g) (x := x))
  obtain ⟨P, hP⟩ : ∃ P, P = (cleanL x.name).1 := ⟨_, rfl⟩
  obtain ⟨CE, hCE⟩ : ∃ CE, CE = (cleanL x.name).2 := ⟨_, rfl⟩
  have HWH := Lib.hid (stepT_wh (k := k) (g := g) hP)
  have HIN := Lib.hid (stepT_in (k := k) (g := g) hP)
  rw [← hP] at CC hcl HROOT
  rw [← hCE] at CC HERR HROOT HWH HIN
  have q0 := eq_lit P []
  have q0b := empty_lit P
  have CPA := fun W => parent_any P (by omega) W
  have CBA := fun W => base_any P (by omega) W
  have hbl := base_le P
  have hpl := parent_le P
  have CWH := fun W => white_any (baseL P) (by omega) W
  have hwl := white_len (baseL P)
  have HG0 := Lib.hid h
  have hBw := rowC_lt h.row
  have hMw := h.map.lt
  have hx : (Value.agg #[.int .i64 x.kind, .string (str x.name), .string (str x.to), .int .i64 x.mode, .string (str x.data)]) = .agg (enA x) := rfl
  obtain ⟨W0, hW0⟩ : ∃ W0, W0 = w.alloc (.cells #[.int .i64 x.kind, .string (str x.name), .string (str x.to), .int .i64 x.mode, .string (str x.data)] 27) := ⟨_, rfl⟩
  have HW0 := Lib.hid hW0
  have HB0 : Hid (Below w.heap.size w W0) := Lib.hid (by rw [hW0]; exact (Below.refl _ _).alloc (Nat.le_refl _) _)
  have HR0 : Hid (rowC W0 w.heap.size (enA x) 27) := Lib.hid (by rw [hW0]; exact rowC_new w _ _)
  have e1 : W0.cell? ⟨w.heap.size, 1, none⟩ = some (.string (str x.name)) := rowC_cell HR0.out 1
  clear hW0 h hx hCE hP
  generalize hst : stepT k g x = ST at *
  clear hst
  generalize hBL : baseL P = BL at *
  generalize whiteL BL = WL at *
  obtain ⟨wn, wo, wi⟩ := WL
  simp only at CWH HWH HIN hwl
  clear hBL
  by_cases hce : CE = 0
  rotate_left
  · have HR := Lib.hid (HERR.out hce)
    have g1 : (CE != 0) = true := by rw [bne_iff_ne]; exact hce
    have hce2 := Lib.hid hce
    clear HERR HROOT HWH HIN hce
    go_enter Tryd.func18, Tryd.ntmps18
    go_upto_region 1 with (fail)
    rw [← HW0.out]
    go_wp2_with (first
    | (go_at_call 23; ((with_reducible refine (CC _).mono ?_); rintro e w1 ⟨rfl, hB1⟩; have HB1 := Lib.hid (HB0.out.trans (hB1.mono HB0.out.size)); have HR1 := Lib.hid (rowC_below HR0.out hB1 (rowC_lt HR0.out)); clear hB1; have e10 : w1.cell? ⟨w.heap.size, 0, none⟩ = some (.int .i64 x.kind) := rowC_cell HR1.out 0))
    | (go_at_call 24; ((with_reducible refine (CPA _).mono ?_); rintro e w2 ⟨rfl, hB2⟩; have HB2 := Lib.hid (HB1.out.trans (hB2.mono HB1.out.size)); have HR2 := Lib.hid (rowC_below HR1.out hB2 (rowC_lt HR1.out)); clear hB2))
    | (go_at_call 29; ((with_reducible refine (CBA _).mono ?_); rintro e w3 ⟨rfl, hB3⟩; have HB3 := Lib.hid (HB2.out.trans (hB3.mono HB2.out.size)); have HR3 := Lib.hid (rowC_below HR2.out hB3 (rowC_lt HR2.out)); clear hB3))
    | (go_at_call 28; ((with_reducible refine (CWH _).mono ?_); rintro e w4 ⟨rfl, hB4⟩; have HB4 := Lib.hid (HB3.out.trans (hB4.mono HB3.out.size)); have HR4 := Lib.hid (rowC_below HR3.out hB4 (rowC_lt HR3.out)); have HG4 := Lib.hid (HG0.out.below HB4.out); clear hB4)))
    go_ret
    exact ⟨by rw [HR.out]; rfl, fun e => absurd (by rw [HR.out] at e; exact e) hce2.out, Chg.of_below HB1.out⟩
  subst hce
  by_cases hp0 : P = []
  · have HR := Lib.hid (HROOT.out rfl hp0)
    rw [decide_eq_true hp0] at q0 q0b
    obtain ⟨kr, hkr⟩ : ∃ kr, kr = (if x.kind = 2 then (0 : Int) else 71) := ⟨_, rfl⟩
    rw [← hkr] at CK HR
    clear HERR HROOT HWH HIN hp0 hkr
    generalize str P = PS at *
    go_enter Tryd.func18, Tryd.ntmps18
    go_upto_region 1 with (fail)
    rw [← HW0.out]
    go_wp2_with (first
    | (go_at_call 23; ((with_reducible refine (CC _).mono ?_); rintro e w1 ⟨rfl, hB1⟩; have HB1 := Lib.hid (HB0.out.trans (hB1.mono HB0.out.size)); have HR1 := Lib.hid (rowC_below HR0.out hB1 (rowC_lt HR0.out)); clear hB1; have e10 : w1.cell? ⟨w.heap.size, 0, none⟩ = some (.int .i64 x.kind) := rowC_cell HR1.out 0))
    | (go_at_call 24; ((with_reducible refine (CPA _).mono ?_); rintro e w2 ⟨rfl, hB2⟩; have HB2 := Lib.hid (HB1.out.trans (hB2.mono HB1.out.size)); have HR2 := Lib.hid (rowC_below HR1.out hB2 (rowC_lt HR1.out)); clear hB2))
    | (go_at_call 29; ((with_reducible refine (CBA _).mono ?_); rintro e w3 ⟨rfl, hB3⟩; have HB3 := Lib.hid (HB2.out.trans (hB3.mono HB2.out.size)); have HR3 := Lib.hid (rowC_below HR2.out hB3 (rowC_lt HR2.out)); clear hB3))
    | (go_at_call 28; ((with_reducible refine (CWH _).mono ?_); rintro e w4 ⟨rfl, hB4⟩; have HB4 := Lib.hid (HB3.out.trans (hB4.mono HB3.out.size)); have HR4 := Lib.hid (rowC_below HR3.out hB4 (rowC_lt HR3.out)); have HG4 := Lib.hid (HG0.out.below HB4.out); clear hB4))
    | (go_at_call 27; ((with_reducible refine (CK _).mono ?_); rintro e w5 ⟨rfl, rfl⟩)))
    go_ret
    exact ⟨by rw [HR.out]; rfl, fun _ => by rw [HR.out]; exact HG0.out.below HB1.out, Chg.of_below HB1.out⟩
  rw [decide_eq_false hp0] at q0 q0b
  cases wi with
  | true =>
    have HR := Lib.hid (HWH.out rfl hp0 rfl)
    have CT := fun W (hW : GrAt W B M g k) => takeAway_any (parentL P) wn wo (by omega) (by omega) B M g k W hW
    clear HERR HROOT HWH HIN hp0
    generalize hgt : takeG k g (parentL P) wn wo = GT at *
    clear hgt
    generalize str (parentL P) = DS at *
    generalize str P = PS at *
    generalize str BL = BS at *
    generalize str wn = NS at *
    go_enter Tryd.func18, Tryd.ntmps18
    go_upto_region 1 with (fail)
    rw [← HW0.out]
    go_wp2_with (first
    | (go_at_call 23; ((with_reducible refine (CC _).mono ?_); rintro e w1 ⟨rfl, hB1⟩; have HB1 := Lib.hid (HB0.out.trans (hB1.mono HB0.out.size)); have HR1 := Lib.hid (rowC_below HR0.out hB1 (rowC_lt HR0.out)); clear hB1; have e10 : w1.cell? ⟨w.heap.size, 0, none⟩ = some (.int .i64 x.kind) := rowC_cell HR1.out 0))
    | (go_at_call 24; ((with_reducible refine (CPA _).mono ?_); rintro e w2 ⟨rfl, hB2⟩; have HB2 := Lib.hid (HB1.out.trans (hB2.mono HB1.out.size)); have HR2 := Lib.hid (rowC_below HR1.out hB2 (rowC_lt HR1.out)); clear hB2))
    | (go_at_call 29; ((with_reducible refine (CBA _).mono ?_); rintro e w3 ⟨rfl, hB3⟩; have HB3 := Lib.hid (HB2.out.trans (hB3.mono HB2.out.size)); have HR3 := Lib.hid (rowC_below HR2.out hB3 (rowC_lt HR2.out)); clear hB3))
    | (go_at_call 28; ((with_reducible refine (CWH _).mono ?_); rintro e w4 ⟨rfl, hB4⟩; have HB4 := Lib.hid (HB3.out.trans (hB4.mono HB3.out.size)); have HR4 := Lib.hid (rowC_below HR3.out hB4 (rowC_lt HR3.out)); have HG4 := Lib.hid (HG0.out.below HB4.out); clear hB4))
    | (go_at_call 30; (refine (CT _ HG4.out).mono ?_; rintro e w5 ⟨rfl, hG5, hC5⟩)))
    go_ret
    exact ⟨by rw [HR.out]; rfl, fun _ => by rw [HR.out]; exact hG5, Chg.trans (Chg.of_below HB4.out) hC5 (fun _ _ h => h)⟩
  | false =>
    have HR := Lib.hid (HIN.out rfl hp0 rfl)
    have CE1 := fun W (hW : GrAt W B M g k) => enter_any B M k _ (parentL P) (Nat.le_refl _) g (by omega) W hW
    clear HERR HROOT HWH HIN hp0
    cases he : enterG k (parentL P) g with
    | none =>
      rw [he] at CE1
      have RS2 : Hid (ST = (g, 71)) := Lib.hid (by rw [HR.out, he])
      clear HR he
      generalize str (parentL P) = DS at *
      generalize str P = PS at *
      generalize str BL = BS at *
      generalize str wn = NS at *
      go_enter Tryd.func18, Tryd.ntmps18
      go_upto_region 1 with (fail)
      rw [← HW0.out]
      go_wp2_with (first
    | (go_at_call 23; ((with_reducible refine (CC _).mono ?_); rintro e w1 ⟨rfl, hB1⟩; have HB1 := Lib.hid (HB0.out.trans (hB1.mono HB0.out.size)); have HR1 := Lib.hid (rowC_below HR0.out hB1 (rowC_lt HR0.out)); clear hB1; have e10 : w1.cell? ⟨w.heap.size, 0, none⟩ = some (.int .i64 x.kind) := rowC_cell HR1.out 0))
    | (go_at_call 24; ((with_reducible refine (CPA _).mono ?_); rintro e w2 ⟨rfl, hB2⟩; have HB2 := Lib.hid (HB1.out.trans (hB2.mono HB1.out.size)); have HR2 := Lib.hid (rowC_below HR1.out hB2 (rowC_lt HR1.out)); clear hB2))
    | (go_at_call 29; ((with_reducible refine (CBA _).mono ?_); rintro e w3 ⟨rfl, hB3⟩; have HB3 := Lib.hid (HB2.out.trans (hB3.mono HB2.out.size)); have HR3 := Lib.hid (rowC_below HR2.out hB3 (rowC_lt HR2.out)); clear hB3))
    | (go_at_call 28; ((with_reducible refine (CWH _).mono ?_); rintro e w4 ⟨rfl, hB4⟩; have HB4 := Lib.hid (HB3.out.trans (hB4.mono HB3.out.size)); have HR4 := Lib.hid (rowC_below HR3.out hB4 (rowC_lt HR3.out)); have HG4 := Lib.hid (HG0.out.below HB4.out); clear hB4))
    | (go_at_call 31; (refine (CE1 _ HG4.out).mono ?_; rintro e w5 ⟨rfl, hC5⟩)))
      go_ret
      exact ⟨by rw [RS2.out]; rfl, fun e => (by rw [RS2.out] at e; cases e), Chg.trans (Chg.of_below HB4.out) hC5 (fun _ _ h => h)⟩
    | some g1 =>
      have hlen1 := enterG_len k _ (parentL P) g g1 (Nat.le_refl _) he
      rw [he] at CE1
      have RS2 : Hid (ST = if (nodeG g1 x P).2 = 0 then (layG k g1 (nodeG g1 x P).1, 0) else (g1, (nodeG g1 x P).2)) := Lib.hid (by rw [HR.out, he])
      have CN := fun W (hW : GrAt W B M g1 k) => nodeOf_any x P (by omega) ht B M g1 k W hW
      have HNP := Lib.hid (nodeG_path g1 x P)
      clear HR he
      generalize (nodeG g1 x P) = NG at *
      obtain ⟨nd, ne⟩ := NG
      simp only at CN RS2 HNP
      have hone := Lib.hid (ndA_one nd)
      generalize str (parentL P) = DS at *
      generalize hPS : str P = PS at *
      clear hPS
      generalize str BL = BS at *
      generalize str wn = NS at *
      by_cases hne : ne = 0
      rotate_left
      · have RS3 := Lib.hid (RS2.out.trans (if_neg hne))
        have g1' : (ne != 0) = true := by rw [bne_iff_ne]; exact hne
        have hne2 := Lib.hid hne
        clear RS2 hne HNP
        go_enter Tryd.func18, Tryd.ntmps18
        go_upto_region 1 with (fail)
        rw [← HW0.out]
        go_wp2_with (first
    | (go_at_call 23; ((with_reducible refine (CC _).mono ?_); rintro e w1 ⟨rfl, hB1⟩; have HB1 := Lib.hid (HB0.out.trans (hB1.mono HB0.out.size)); have HR1 := Lib.hid (rowC_below HR0.out hB1 (rowC_lt HR0.out)); clear hB1; have e10 : w1.cell? ⟨w.heap.size, 0, none⟩ = some (.int .i64 x.kind) := rowC_cell HR1.out 0))
    | (go_at_call 24; ((with_reducible refine (CPA _).mono ?_); rintro e w2 ⟨rfl, hB2⟩; have HB2 := Lib.hid (HB1.out.trans (hB2.mono HB1.out.size)); have HR2 := Lib.hid (rowC_below HR1.out hB2 (rowC_lt HR1.out)); clear hB2))
    | (go_at_call 29; ((with_reducible refine (CBA _).mono ?_); rintro e w3 ⟨rfl, hB3⟩; have HB3 := Lib.hid (HB2.out.trans (hB3.mono HB2.out.size)); have HR3 := Lib.hid (rowC_below HR2.out hB3 (rowC_lt HR2.out)); clear hB3))
    | (go_at_call 28; ((with_reducible refine (CWH _).mono ?_); rintro e w4 ⟨rfl, hB4⟩; have HB4 := Lib.hid (HB3.out.trans (hB4.mono HB3.out.size)); have HR4 := Lib.hid (rowC_below HR3.out hB4 (rowC_lt HR3.out)); have HG4 := Lib.hid (HG0.out.below HB4.out); clear hB4))
    | (go_at_call 31; (refine (CE1 _ HG4.out).mono ?_; rintro e w5 ⟨rfl, hG5, hC5⟩; have HG5 := Lib.hid hG5; have HC5 := Lib.hid (Chg.trans (Chg.of_below HB4.out) hC5 (fun _ _ h => h)); have HR5 := Lib.hid (hC5.rowC HR4.out (by omega)); clear hG5 hC5))
    | ((with_reducible show wpList _ _ _ (⟨some 50, .load _ _, _, _, _, _⟩ :: _) _ _); refine wpList_load_row rfl 27 _ rfl w.heap.size rfl 27 (enA x) (0, 0) _ HR5.out Tryd.underlying27 rfl HI5.out ?_)
    | (go_at_call 32; (refine (CN _ HG5.out).mono ?_; rintro e w6 ⟨rfl, hB6⟩; have HC6 := Lib.hid (Chg.then_below HC5.out hB6); clear hB6))
    | ((with_reducible show wpList _ _ _ (⟨none, .store _ (.tmp 12) _, _, _, _, _⟩ :: _) _ _); refine wpList_store_last rfl 36 _ _ rfl w6.heap.size (ndA nd) rfl rfl 36 _ rfl HI.out rfl hone.out ?_))
        go_ret
        exact ⟨by rw [RS3.out]; rfl, fun e => absurd (by rw [RS3.out] at e; exact e) hne2.out, Chg.alloc HC6.out _⟩
      · have RS3 := Lib.hid (RS2.out.trans (if_pos hne))
        have hnp := HNP.out hne
        have CPU := fun W (hW : GrAt W B M g1 k) => gput_any nd (by rw [hnp]; omega) B M g1 (by omega) k W hW
        subst hne
        clear RS2 HNP
        go_enter Tryd.func18, Tryd.ntmps18
        go_upto_region 1 with (fail)
        rw [← HW0.out]
        go_wp2_with (first
    | (go_at_call 23; ((with_reducible refine (CC _).mono ?_); rintro e w1 ⟨rfl, hB1⟩; have HB1 := Lib.hid (HB0.out.trans (hB1.mono HB0.out.size)); have HR1 := Lib.hid (rowC_below HR0.out hB1 (rowC_lt HR0.out)); clear hB1; have e10 : w1.cell? ⟨w.heap.size, 0, none⟩ = some (.int .i64 x.kind) := rowC_cell HR1.out 0))
    | (go_at_call 24; ((with_reducible refine (CPA _).mono ?_); rintro e w2 ⟨rfl, hB2⟩; have HB2 := Lib.hid (HB1.out.trans (hB2.mono HB1.out.size)); have HR2 := Lib.hid (rowC_below HR1.out hB2 (rowC_lt HR1.out)); clear hB2))
    | (go_at_call 29; ((with_reducible refine (CBA _).mono ?_); rintro e w3 ⟨rfl, hB3⟩; have HB3 := Lib.hid (HB2.out.trans (hB3.mono HB2.out.size)); have HR3 := Lib.hid (rowC_below HR2.out hB3 (rowC_lt HR2.out)); clear hB3))
    | (go_at_call 28; ((with_reducible refine (CWH _).mono ?_); rintro e w4 ⟨rfl, hB4⟩; have HB4 := Lib.hid (HB3.out.trans (hB4.mono HB3.out.size)); have HR4 := Lib.hid (rowC_below HR3.out hB4 (rowC_lt HR3.out)); have HG4 := Lib.hid (HG0.out.below HB4.out); clear hB4))
    | (go_at_call 31; (refine (CE1 _ HG4.out).mono ?_; rintro e w5 ⟨rfl, hG5, hC5⟩; have HG5 := Lib.hid hG5; have HC5 := Lib.hid (Chg.trans (Chg.of_below HB4.out) hC5 (fun _ _ h => h)); have HR5 := Lib.hid (hC5.rowC HR4.out (by omega)); clear hG5 hC5))
    | ((with_reducible show wpList _ _ _ (⟨some 50, .load _ _, _, _, _, _⟩ :: _) _ _); refine wpList_load_row rfl 27 _ rfl w.heap.size rfl 27 (enA x) (0, 0) _ HR5.out Tryd.underlying27 rfl HI5.out ?_)
    | (go_at_call 32; (refine (CN _ HG5.out).mono ?_; rintro e w6 ⟨rfl, hB6⟩; have HG6 : Hid (GrAt (w6.alloc (.cells (ndA nd) 36)) B M g1 k) := Lib.hid (HG5.out.below (hB6.alloc hB6.size _)); have HC6 : Hid (GrC B M w (w6.alloc (.cells (ndA nd) 36))) := Lib.hid (Chg.alloc (Chg.then_below HC5.out hB6) _); have HR6 := Lib.hid (rowC_new w6 (ndA nd) 36); clear hB6))
    | ((with_reducible show wpList _ _ _ (⟨none, .store _ (.tmp 12) _, _, _, _, _⟩ :: _) _ _); refine wpList_store_last rfl 36 _ _ rfl w6.heap.size (ndA nd) rfl rfl 36 _ rfl HI.out rfl hone.out ?_)
    | ((with_reducible show wpList _ _ _ (⟨some 59, .load _ _, _, _, _, _⟩ :: _) _ _); refine wpList_load_row rfl 36 _ rfl w6.heap.size rfl 36 (ndA nd) (0, 0) _ HR6.out Tryd.underlying36 rfl HI.out ?_)
    | (go_at_call 33; (refine (CPU _ HG6.out).mono ?_; rintro e w7 ⟨rfl, hG7, hC7⟩)))
        go_ret
        exact ⟨by rw [RS3.out]; rfl, fun _ => by rw [RS3.out]; exact hG7, Chg.trans HC6.out hC7 (fun _ _ h => h)⟩
end Go.Proofs.YtokeiagcdahmaaaDoor
#print axioms Go.Proofs.YtokeiagcdahmaaaDoor.gstep_any
