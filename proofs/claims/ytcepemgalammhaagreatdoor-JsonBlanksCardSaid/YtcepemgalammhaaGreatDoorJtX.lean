/- Layer 11: a value's reading, by what stands first. -/
import Derived.Test.YtcepemgalammhaaGreatDoorJtW
namespace Go.Proofs.YtcepemgalammhaaGreatDoor
open Go.RowKit

theorem value_zero : ValOk 0 := fun w q S l lev R hS hE hq h hlev hv => by cases hv
theorem u8_is {a b : UInt8} (h : a = b) : (a.toNat : Int) = (b.toNat : Int) := by rw [h]
set_option maxRecDepth 100000 in
set_option maxHeartbeats 8000000 in
theorem value_succ {n : Nat} (V : ValOk n) : ValOk (n + 1) := by
  intro w q S l lev R hS hE hq h hlev hv
  have hv' : valB n lev (valP n (lev + 1)) (dropB l) = some R := hv
  have hqw := h.lt
  obtain ⟨W0, hW0⟩ : ∃ W0, W0 = w.alloc (.cells #[.int .i64 0, .string ⟨#[]⟩, .slice none 0 0, .slice none 0 0] 27) := ⟨_, rfl⟩
  have R0 : rowC W0 w.heap.size zeroV4 27 := by rw [hW0]; exact rowC_new w _ _
  have A0 : Chg (· = q) w W0 := by rw [hW0]; exact (Chg.refl _ w).alloc _
  have E0 : Env W0 := hE.q A0 hq
  have H0 : RdAt W0 q S l lev := by rw [hW0]; exact h.below ((Below.refl _ _).alloc (Nat.le_refl _) _)
  have hB := blanks_any H0 hS.T
  have HSf := Lib.hid (dropB_suf l)
  have hls := h.suf
  generalize dropB l = d at hv' hB HSf
  have hds := HSf.out.trans hls
  have HN := fun w1 (h1 : RdAt w1 q S d lev) => next_any h1
  have HR0 := Lib.hid R0
  have HA0 := Lib.hid A0
  have HE0 := Lib.hid E0
  have HW0 := Lib.hid hW0
  have HI := Lib.hid info_V
  unfold valB at hv'
  clear hW0 R0 A0 E0 H0 hE h hv
  by_cases e110 : hd d = 110
  · rw [if_pos e110, Option.some.injEq] at hv'
    have hb : ((hd d).toNat : Int) = 110 := u8_is e110
    clear e110
    subst hv'
    have C := fun (n' : Nat) (w1 : World) (h1 : RdAt w1 q S d lev) (c1 : Chg (· = q) W0 w1) => (show Calls Tryz.prog 39 #[.pointer (some ⟨q, 0, none⟩), .int .i64 0] (w1.drewN n') (fun e w3 => readyV w w.heap.size q S l lev _ e w3) from (word_any hS.T ((HE0.out.q c1 hq).drewN n') hq (⟨h1.row, h1.suf⟩ : RdAt (w1.drewN n') q S d lev) 0 (by decide)).mono (fun e w3 hh => readyV_of (HA0.out.two (c1.drewN n')) hqw (Nat.le_refl _) ((c1.drewN n').rowC HR0.out (by omega)) HSf.out hh))
    go_enter Tryz.func21, Tryz.ntmps21
    go_upto_region 1 with (fail)
    rw [← HW0.out]
    go_wp2_with (first
      | (go_at_call 22; ((with_reducible refine hB.mono ?_); rintro e w1 ⟨rfl, h1, c1⟩))
      | (go_at_call 38; ((with_reducible refine (HN _ h1).mono ?_); rintro e w2 ⟨rfl, n', rfl⟩; have CC := C n' w1 h1 c1; clear h1; rw [hb]))
      | (go_at_call 39; ((with_reducible refine CC.mono ?_); rintro e w3 ⟨k, t, x1, n1, c1', x2, n2, c2', ev, rfl, HB⟩))
      | ((with_reducible show wpList _ _ _ (⟨none, .store _ (.tmp 2) _, _, _, _, _⟩ :: _) _ _); refine wpList_store_row rfl 27 _ _ rfl w.heap.size (row4 k t x1 n1 c1' x2 n2 c2') rfl rfl 27 zeroV4 HB.out.1 HI.out rfl (row4_all _ _ _ _ _ _ _ _) ?_))
    refine bodyPost_ret (results_row_tmp rfl _ _ w.heap.size 27 (row4 k t x1 n1 c1' x2 n2 c2') _ rfl (rowC_setRow HB.out.1 _) Tryz.underlying27 rfl HI.out ev rfl) rfl ?_
    exact HB.out.2 _ ((Chg.refl _ _).setRow _ _ (.inl rfl))
  rw [if_neg e110] at hv'
  by_cases e102 : hd d = 102
  · rw [if_pos e102, Option.some.injEq] at hv'
    have hb : ((hd d).toNat : Int) = 102 := u8_is e102
    clear e102
    subst hv'
    have C := fun (n' : Nat) (w1 : World) (h1 : RdAt w1 q S d lev) (c1 : Chg (· = q) W0 w1) => (show Calls Tryz.prog 39 #[.pointer (some ⟨q, 0, none⟩), .int .i64 1] (w1.drewN n') (fun e w3 => readyV w w.heap.size q S l lev _ e w3) from (word_any hS.T ((HE0.out.q c1 hq).drewN n') hq (⟨h1.row, h1.suf⟩ : RdAt (w1.drewN n') q S d lev) 1 (by decide)).mono (fun e w3 hh => readyV_of (HA0.out.two (c1.drewN n')) hqw (Nat.le_refl _) ((c1.drewN n').rowC HR0.out (by omega)) HSf.out hh))
    go_enter Tryz.func21, Tryz.ntmps21
    go_upto_region 1 with (fail)
    rw [← HW0.out]
    go_wp2_with (first
      | (go_at_call 22; ((with_reducible refine hB.mono ?_); rintro e w1 ⟨rfl, h1, c1⟩))
      | (go_at_call 38; ((with_reducible refine (HN _ h1).mono ?_); rintro e w2 ⟨rfl, n', rfl⟩; have CC := C n' w1 h1 c1; clear h1; rw [hb]))
      | (go_at_call 39; ((with_reducible refine CC.mono ?_); rintro e w3 ⟨k, t, x1, n1, c1', x2, n2, c2', ev, rfl, HB⟩))
      | ((with_reducible show wpList _ _ _ (⟨none, .store _ (.tmp 2) _, _, _, _, _⟩ :: _) _ _); refine wpList_store_row rfl 27 _ _ rfl w.heap.size (row4 k t x1 n1 c1' x2 n2 c2') rfl rfl 27 zeroV4 HB.out.1 HI.out rfl (row4_all _ _ _ _ _ _ _ _) ?_))
    refine bodyPost_ret (results_row_tmp rfl _ _ w.heap.size 27 (row4 k t x1 n1 c1' x2 n2 c2') _ rfl (rowC_setRow HB.out.1 _) Tryz.underlying27 rfl HI.out ev rfl) rfl ?_
    exact HB.out.2 _ ((Chg.refl _ _).setRow _ _ (.inl rfl))
  rw [if_neg e102] at hv'
  by_cases e116 : hd d = 116
  · rw [if_pos e116, Option.some.injEq] at hv'
    have hb : ((hd d).toNat : Int) = 116 := u8_is e116
    clear e116
    subst hv'
    have C := fun (n' : Nat) (w1 : World) (h1 : RdAt w1 q S d lev) (c1 : Chg (· = q) W0 w1) => (show Calls Tryz.prog 39 #[.pointer (some ⟨q, 0, none⟩), .int .i64 2] (w1.drewN n') (fun e w3 => readyV w w.heap.size q S l lev _ e w3) from (word_any hS.T ((HE0.out.q c1 hq).drewN n') hq (⟨h1.row, h1.suf⟩ : RdAt (w1.drewN n') q S d lev) 2 (by decide)).mono (fun e w3 hh => readyV_of (HA0.out.two (c1.drewN n')) hqw (Nat.le_refl _) ((c1.drewN n').rowC HR0.out (by omega)) HSf.out hh))
    go_enter Tryz.func21, Tryz.ntmps21
    go_upto_region 1 with (fail)
    rw [← HW0.out]
    go_wp2_with (first
      | (go_at_call 22; ((with_reducible refine hB.mono ?_); rintro e w1 ⟨rfl, h1, c1⟩))
      | (go_at_call 38; ((with_reducible refine (HN _ h1).mono ?_); rintro e w2 ⟨rfl, n', rfl⟩; have CC := C n' w1 h1 c1; clear h1; rw [hb]))
      | (go_at_call 39; ((with_reducible refine CC.mono ?_); rintro e w3 ⟨k, t, x1, n1, c1', x2, n2, c2', ev, rfl, HB⟩))
      | ((with_reducible show wpList _ _ _ (⟨none, .store _ (.tmp 2) _, _, _, _, _⟩ :: _) _ _); refine wpList_store_row rfl 27 _ _ rfl w.heap.size (row4 k t x1 n1 c1' x2 n2 c2') rfl rfl 27 zeroV4 HB.out.1 HI.out rfl (row4_all _ _ _ _ _ _ _ _) ?_))
    refine bodyPost_ret (results_row_tmp rfl _ _ w.heap.size 27 (row4 k t x1 n1 c1' x2 n2 c2') _ rfl (rowC_setRow HB.out.1 _) Tryz.underlying27 rfl HI.out ev rfl) rfl ?_
    exact HB.out.2 _ ((Chg.refl _ _).setRow _ _ (.inl rfl))
  rw [if_neg e116] at hv'
  by_cases e34 : hd d = 34
  · rw [if_pos e34] at hv'
    have hb : ((hd d).toNat : Int) = 34 := u8_is e34
    clear e34
    cases hq0 : quoP n d with
    | none => rw [hq0] at hv'; cases hv'
    | some Q =>
    rw [hq0] at hv'
    have hR := (Option.some.inj hv').symm
    have C := fun (n' : Nat) (w1 : World) (h1 : RdAt w1 q S d lev) (c1 : Chg (· = q) W0 w1) => (show Calls Tryz.prog 40 #[.pointer (some ⟨q, 0, none⟩)] (w1.drewN n') (fun e w3 => readyT w w.heap.size q S l lev R e w3) from (quoted_any hS ((HE0.out.q c1 hq).drewN n') hq (⟨h1.row, h1.suf⟩ : RdAt (w1.drewN n') q S d lev) hq0).mono (fun e w3 hh => readyT_of hS hR (HA0.out.two (c1.drewN n')) hqw (Nat.le_refl _) ((c1.drewN n').rowC HR0.out (by omega)) HSf.out hh))
    clear hR hq0
    go_enter Tryz.func21, Tryz.ntmps21
    go_upto_region 1 with (fail)
    rw [← HW0.out]
    go_wp2_with (first
      | (go_at_call 22; ((with_reducible refine hB.mono ?_); rintro e w1 ⟨rfl, h1, c1⟩))
      | (go_at_call 38; ((with_reducible refine (HN _ h1).mono ?_); rintro e w2 ⟨rfl, n', rfl⟩; have CC := C n' w1 h1 c1; clear h1; rw [hb]))
      | (go_at_call 40; ((with_reducible refine CC.mono ?_); rintro e w3 ⟨t, ev, rfl, HB⟩))
      | ((with_reducible show wpList _ _ _ (⟨none, .store _ (.tmp 2) _, _, _, _, _⟩ :: _) _ _); refine wpList_store_row rfl 27 _ _ rfl w.heap.size (row4 4 t none 0 0 none 0 0) rfl rfl 27 zeroV4 HB.out.1 HI.out rfl (row4_all _ _ _ _ _ _ _ _) ?_))
    refine bodyPost_ret (results_row_tmp rfl _ _ w.heap.size 27 (row4 4 t none 0 0 none 0 0) _ rfl (rowC_setRow HB.out.1 _) Tryz.underlying27 rfl HI.out ev rfl) rfl ?_
    exact HB.out.2 _ ((Chg.refl _ _).setRow _ _ (.inl rfl))
  rw [if_neg e34] at hv'
  by_cases e91 : hd d = 91
  · rw [if_pos e91] at hv'
    have hb : ((hd d).toNat : Int) = 91 := u8_is e91
    have hne : d ≠ [] := by rintro rfl; exact absurd e91 (by decide)
    have C := fun (n' : Nat) (w1 : World) (h1 : RdAt w1 q S d lev) (c1 : Chg (· = q) W0 w1) => (show Calls Tryz.prog 41 #[.pointer (some ⟨q, 0, none⟩)] (w1.drewN n') (fun e w3 => readyV w w.heap.size q S l lev R e w3) from (list_any V hS ((HE0.out.q c1 hq).drewN n') hq (⟨h1.row, h1.suf⟩ : RdAt (w1.drewN n') q S d lev) hlev hne hv').mono (fun e w3 hh => readyV_of (HA0.out.two (c1.drewN n')) hqw (Nat.le_refl _) ((c1.drewN n').rowC HR0.out (by omega)) HSf.out hh))
    go_enter Tryz.func21, Tryz.ntmps21
    go_upto_region 1 with (fail)
    rw [← HW0.out]
    go_wp2_with (first
      | (go_at_call 22; ((with_reducible refine hB.mono ?_); rintro e w1 ⟨rfl, h1, c1⟩))
      | (go_at_call 38; ((with_reducible refine (HN _ h1).mono ?_); rintro e w2 ⟨rfl, n', rfl⟩; have CC := C n' w1 h1 c1; clear h1; rw [hb]))
      | (go_at_call 41; ((with_reducible refine CC.mono ?_); rintro e w3 ⟨k, t, x1, n1, c1', x2, n2, c2', ev, rfl, HB⟩))
      | ((with_reducible show wpList _ _ _ (⟨none, .store _ (.tmp 2) _, _, _, _, _⟩ :: _) _ _); refine wpList_store_row rfl 27 _ _ rfl w.heap.size (row4 k t x1 n1 c1' x2 n2 c2') rfl rfl 27 zeroV4 HB.out.1 HI.out rfl (row4_all _ _ _ _ _ _ _ _) ?_))
    refine bodyPost_ret (results_row_tmp rfl _ _ w.heap.size 27 (row4 k t x1 n1 c1' x2 n2 c2') _ rfl (rowC_setRow HB.out.1 _) Tryz.underlying27 rfl HI.out ev rfl) rfl ?_
    exact HB.out.2 _ ((Chg.refl _ _).setRow _ _ (.inl rfl))
  rw [if_neg e91] at hv'
  by_cases e123 : hd d = 123
  · rw [if_pos e123] at hv'
    have hb : ((hd d).toNat : Int) = 123 := u8_is e123
    have hne : d ≠ [] := by rintro rfl; exact absurd e123 (by decide)
    have C := fun (n' : Nat) (w1 : World) (h1 : RdAt w1 q S d lev) (c1 : Chg (· = q) W0 w1) => (show Calls Tryz.prog 42 #[.pointer (some ⟨q, 0, none⟩)] (w1.drewN n') (fun e w3 => readyV w w.heap.size q S l lev R e w3) from (object_any V hS ((HE0.out.q c1 hq).drewN n') hq (⟨h1.row, h1.suf⟩ : RdAt (w1.drewN n') q S d lev) hlev hne hv').mono (fun e w3 hh => readyV_of (HA0.out.two (c1.drewN n')) hqw (Nat.le_refl _) ((c1.drewN n').rowC HR0.out (by omega)) HSf.out hh))
    go_enter Tryz.func21, Tryz.ntmps21
    go_upto_region 1 with (fail)
    rw [← HW0.out]
    go_wp2_with (first
      | (go_at_call 22; ((with_reducible refine hB.mono ?_); rintro e w1 ⟨rfl, h1, c1⟩))
      | (go_at_call 38; ((with_reducible refine (HN _ h1).mono ?_); rintro e w2 ⟨rfl, n', rfl⟩; have CC := C n' w1 h1 c1; clear h1; rw [hb]))
      | (go_at_call 42; ((with_reducible refine CC.mono ?_); rintro e w3 ⟨k, t, x1, n1, c1', x2, n2, c2', ev, rfl, HB⟩))
      | ((with_reducible show wpList _ _ _ (⟨none, .store _ (.tmp 2) _, _, _, _, _⟩ :: _) _ _); refine wpList_store_row rfl 27 _ _ rfl w.heap.size (row4 k t x1 n1 c1' x2 n2 c2') rfl rfl 27 zeroV4 HB.out.1 HI.out rfl (row4_all _ _ _ _ _ _ _ _) ?_))
    refine bodyPost_ret (results_row_tmp rfl _ _ w.heap.size 27 (row4 k t x1 n1 c1' x2 n2 c2') _ rfl (rowC_setRow HB.out.1 _) Tryz.underlying27 rfl HI.out ev rfl) rfl ?_
    exact HB.out.2 _ ((Chg.refl _ _).setRow _ _ (.inl rfl))
  rw [if_neg e123] at hv'
  have hR := (Option.some.inj hv').symm
  have f110 : ¬ ((hd d).toNat : Int) = 110 := u8_ne e110
  have f102 : ¬ ((hd d).toNat : Int) = 102 := u8_ne e102
  have f116 : ¬ ((hd d).toNat : Int) = 116 := u8_ne e116
  have f34 : ¬ ((hd d).toNat : Int) = 34 := u8_ne e34
  have f91 : ¬ ((hd d).toNat : Int) = 91 := u8_ne e91
  have f123 : ¬ ((hd d).toNat : Int) = 123 := u8_ne e123
  have C := fun (n' : Nat) (w1 : World) (h1 : RdAt w1 q S d lev) (c1 : Chg (· = q) W0 w1) => (show Calls Tryz.prog 35 #[.pointer (some ⟨q, 0, none⟩)] (w1.drewN n') (fun e w3 => readyN w w.heap.size q S l d lev R e w3) from (number_any hS.T (⟨h1.row, h1.suf⟩ : RdAt (w1.drewN n') q S d lev)).mono (fun e w3 hh => readyN_of hS hR (HA0.out.two (c1.drewN n')) hqw (Nat.le_refl _) ((c1.drewN n').rowC HR0.out (by omega)) HSf.out hds hh))
  generalize ((hd d).toNat : Int) = b at HN f110 f102 f116 f34 f91 f123
  have HDS := Lib.hid hds
  have hdl := hds.length_le
  have hSS := hS
  unfold okS at hSS
  have hsz := str_size S
  clear hv' hR hds hls V e110 e102 e116 e34 e91 e123
  go_enter Tryz.func21, Tryz.ntmps21
  go_upto_region 1 with (fail)
  rw [← HW0.out]
  go_upto_region 18 with (first
    | (go_at_call 22; ((with_reducible refine hB.mono ?_); rintro e w1 ⟨rfl, h1, c1⟩))
    | (go_at_call 38; ((with_reducible refine (HN _ h1).mono ?_); rintro e w2 ⟨rfl, n', rfl⟩; have CC := C n' w1 h1 c1; have d1 := (⟨h1.row, h1.suf⟩ : RdAt (w1.drewN n') q S d lev).cell.2.1; clear h1))
    | (go_at_call 35; ((with_reducible refine CC.mono ?_); rintro e w3 ⟨ev, y, l2, rfl, h3, hy, HB⟩)))
  have HPT := part_text HDS.out hy
  have hyl := hy.length_le
  obtain ⟨g0, g1, _⟩ := h3.cell
  have HH3 := Lib.hid h3
  have hqr : ¬ w.heap.size = q := by omega
  have hqr2 : ¬ q = w.heap.size := by omega
  generalize hkd : S.length - d.length = kd at HPT
  generalize hky : S.length - y.length = ky at HPT g1
  have hky2 : ky ≤ (str S).size := by omega
  have hkk : kd ≤ ky := by omega
  have hcl : (str (d.take (d.length - y.length))).size ≤ 281474976710656 := by rw [str_size, List.length_take]; omega
  have CL := fun w4 => clone_any (str (d.take (d.length - y.length))) w4 hcl
  generalize d.take (d.length - y.length) = T0 at HPT CL HB hcl
  have hw3 := h3.lt
  have i0 : (0 : Int) ≤ (kd : Int) := by omega
  have i1 : (kd : Int) ≤ (ky : Int) := by omega
  have i2 : (ky : Int) ≤ ((str S).size : Int) := by omega
  clear hsz hcl
  have HHB := Lib.hid HB.out.1
  have hzl := rowC_lt HB.out.1
  go_region_held3 (fun w' => w'.cell? ⟨q, 0, none⟩ = some (.string (str S)) ∧ w'.cell? ⟨q, 1, none⟩ = some (.int .i64 (ky : Int)))
    (first
      | exact ⟨k0, k1⟩
      | exact ⟨cell_chg (s := (· = w.heap.size)) (((((Chg.refl _ w4).cellq 0 _).cellq 1 _).cellq 2 _).cellq 3 _) k0 hqr2, cell_chg (s := (· = w.heap.size)) (((((Chg.refl _ w4).cellq 0 _).cellq 1 _).cellq 2 _).cellq 3 _) k1 hqr2⟩
      | go_keep)
    ((go_at_call 43; (with_reducible refine (CL _).mono ?_); rintro e w4 ⟨rfl, hb4⟩; have c4 := (Chg.of_below (s := fun _ => False) hb4); have k0 := (c4.rowC HH3.out.row id |> fun r => rowC_cell r 0); have k1 := hky ▸ (c4.rowC HH3.out.row id |> fun r => rowC_cell r 1); have Z4 := c4.rowC HHB.out id; have z0 : w4.cell? ⟨w.heap.size, 0, none⟩ = some (.int .i64 0) := rowC_cell Z4 0; have z1 : w4.cell? ⟨w.heap.size, 1, none⟩ = some (.string ⟨#[]⟩) := rowC_cell Z4 1; have z2 : w4.cell? ⟨w.heap.size, 2, none⟩ = some (.slice none 0 0) := rowC_cell Z4 2; have z3 : w4.cell? ⟨w.heap.size, 3, none⟩ = some (.slice none 0 0) := rowC_cell Z4 3; have y0 := rowC_free Z4 0; have y1 := rowC_free Z4 1; have y2 := rowC_free Z4 2; have y3 := rowC_free Z4 3))
  all_goals (
    go_wp2
    have r4 : rowC ((((w4.setCell ⟨w.heap.size, 0, none⟩ (.int .i64 3)).setCell ⟨w.heap.size, 1, none⟩ (.string (str T0))).setCell ⟨w.heap.size, 2, none⟩ (.slice none 0 0)).setCell ⟨w.heap.size, 3, none⟩ (.slice none 0 0)) w.heap.size (row4 3 (str T0) none 0 0 none 0 0) 27 := rowC_set (rowC_set (rowC_set (rowC_set Z4 0 _) 1 _) 2 _) 3 _
    have c5 : Chg (· = w.heap.size) w3 ((((w4.setCell ⟨w.heap.size, 0, none⟩ (.int .i64 3)).setCell ⟨w.heap.size, 1, none⟩ (.string (str T0))).setCell ⟨w.heap.size, 2, none⟩ (.slice none 0 0)).setCell ⟨w.heap.size, 3, none⟩ (.slice none 0 0)) := (((Chg.refl (· = w.heap.size) w3).drew.trans c4 (fun _ _ e => e.elim)).trans (((((Chg.refl (· = w.heap.size) w4).cellq 0 _).cellq 1 _).cellq 2 _).cellq 3 _) (fun _ _ e => e))
    refine bodyPost_ret (results_row_tmp rfl _ _ w.heap.size 27 (row4 3 (str T0) none 0 0 none 0 0) _ rfl r4 Tryz.underlying27 rfl HI.out ev rfl) rfl ?_
    exact HB.out.2 _ c5)
theorem value_all : ∀ n, ValOk n
  | 0 => value_zero
  | n + 1 => value_succ (value_all n)
end Go.Proofs.YtcepemgalammhaaGreatDoor
