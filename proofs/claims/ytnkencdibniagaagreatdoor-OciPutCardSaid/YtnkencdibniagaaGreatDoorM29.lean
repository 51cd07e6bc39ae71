/- Merged: JtX, JtY, JtZ. -/
import Derived.Test.YtnkencdibniagaaGreatDoorM28
import Derived.LaidEql
import Derived.Stop.Asserts
import Derived.RowKitTokens
/- Layer 11: a value's reading, by what stands first. -/
namespace Go.Proofs.YtnkencdibniagaaGreatDoor
open Go.RowKit

theorem value_zero : ValOk 0 := fun w q S l lev R hS hE hq h hlev hv => by cases hv
theorem u8_is {a b : UInt8} (h : a = b) : (a.toNat : Int) = (b.toNat : Int) := by rw [h]
set_option maxRecDepth 100000 in
set_option maxHeartbeats 8000000 in
theorem value_succ {n : Nat} (V : ValOk n) : ValOk (n + 1) := by
  intro w q S l lev R hS hE hq h hlev hv
  have hv' : valB n lev (valP n (lev + 1)) (dropB l) = some R := hv
  have hqw := h.lt
  obtain ⟨W0, hW0⟩ : ∃ W0, W0 = w.alloc (.cells #[.int .i64 0, .string ⟨#[]⟩, .slice none 0 0, .slice none 0 0] 63) := ⟨_, rfl⟩
  have R0 : rowC W0 w.heap.size zeroV4 63 := by rw [hW0]; exact rowC_new w _ _
  have A0 : Chg (· = q) w W0 := by rw [hW0]; exact (Chg.refl _ w).alloc _
  have E0 : Env W0 := hE.q A0 hq
  have H0 : RdAt W0 q S l lev := by rw [hW0]; exact h.below ((Below.refl _ _).alloc (Nat.le_refl _) _)
  have hB := blanks_any H0 hS.T
  have HSf := Lib.hid (dropB_suf l)
  have hls := h.suf
  generalize dropB l = d at hv' hB HSf
  have hds := HSf.out.trans hls
  have HN := fun w1 (h1 : RdAt w1 q S d lev) => next_any h1
  have HR0 := Lib.hid R0
  have HA0 := Lib.hid A0
  have HE0 := Lib.hid E0
  have HW0 := Lib.hid hW0
  have HI := Lib.hid info_V
  unfold valB at hv'
  clear hW0 R0 A0 E0 H0 hE h hv
  by_cases e110 : hd d = 110
  · rw [if_pos e110, Option.some.injEq] at hv'
    have hb : ((hd d).toNat : Int) = 110 := u8_is e110
    clear e110
    subst hv'
    have C := fun (n' : Nat) (w1 : World) (h1 : RdAt w1 q S d lev) (c1 : Chg (· = q) W0 w1) => (show Calls Tryz.prog 133 #[.pointer (some ⟨q, 0, none⟩), .int .i64 0] (w1.drewN n') (fun e w3 => readyV w w.heap.size q S l lev _ e w3) from (word_any hS.T ((HE0.out.q c1 hq).drewN n') hq (⟨h1.row, h1.suf⟩ : RdAt (w1.drewN n') q S d lev) 0 (by decide)).mono (fun e w3 hh => readyV_of (HA0.out.two (c1.drewN n')) hqw (Nat.le_refl _) ((c1.drewN n').rowC HR0.out (by omega)) HSf.out hh))
    go_enter Tryz.func98, Tryz.ntmps98
    go_upto_region 1 with (fail)
    rw [← HW0.out]
    go_wp2_with (first
      | (go_at_call 99; ((with_reducible refine hB.mono ?_); rintro e w1 ⟨rfl, h1, c1⟩))
      | (go_at_call 132; ((with_reducible refine (HN _ h1).mono ?_); rintro e w2 ⟨rfl, n', rfl⟩; have CC := C n' w1 h1 c1; clear h1; rw [hb]))
      | (go_at_call 133; ((with_reducible refine CC.mono ?_); rintro e w3 ⟨k, t, x1, n1, c1', x2, n2, c2', ev, rfl, HB⟩))
      | ((with_reducible show wpList _ _ _ (⟨none, .store _ (.tmp 2) _, _, _, _, _⟩ :: _) _ _); refine wpList_store_row rfl 63 _ _ rfl w.heap.size (row4 k t x1 n1 c1' x2 n2 c2') rfl rfl 63 zeroV4 HB.out.1 HI.out rfl (row4_all _ _ _ _ _ _ _ _) ?_))
    refine bodyPost_ret (results_row_tmp rfl _ _ w.heap.size 63 (row4 k t x1 n1 c1' x2 n2 c2') _ rfl (rowC_setRow HB.out.1 _) Tryz.underlying63 rfl HI.out ev rfl) rfl ?_
    exact HB.out.2 _ ((Chg.refl _ _).setRow _ _ (.inl rfl))
  rw [if_neg e110] at hv'
  by_cases e102 : hd d = 102
  · rw [if_pos e102, Option.some.injEq] at hv'
    have hb : ((hd d).toNat : Int) = 102 := u8_is e102
    clear e102
    subst hv'
    have C := fun (n' : Nat) (w1 : World) (h1 : RdAt w1 q S d lev) (c1 : Chg (· = q) W0 w1) => (show Calls Tryz.prog 133 #[.pointer (some ⟨q, 0, none⟩), .int .i64 1] (w1.drewN n') (fun e w3 => readyV w w.heap.size q S l lev _ e w3) from (word_any hS.T ((HE0.out.q c1 hq).drewN n') hq (⟨h1.row, h1.suf⟩ : RdAt (w1.drewN n') q S d lev) 1 (by decide)).mono (fun e w3 hh => readyV_of (HA0.out.two (c1.drewN n')) hqw (Nat.le_refl _) ((c1.drewN n').rowC HR0.out (by omega)) HSf.out hh))
    go_enter Tryz.func98, Tryz.ntmps98
    go_upto_region 1 with (fail)
    rw [← HW0.out]
    go_wp2_with (first
      | (go_at_call 99; ((with_reducible refine hB.mono ?_); rintro e w1 ⟨rfl, h1, c1⟩))
      | (go_at_call 132; ((with_reducible refine (HN _ h1).mono ?_); rintro e w2 ⟨rfl, n', rfl⟩; have CC := C n' w1 h1 c1; clear h1; rw [hb]))
      | (go_at_call 133; ((with_reducible refine CC.mono ?_); rintro e w3 ⟨k, t, x1, n1, c1', x2, n2, c2', ev, rfl, HB⟩))
      | ((with_reducible show wpList _ _ _ (⟨none, .store _ (.tmp 2) _, _, _, _, _⟩ :: _) _ _); refine wpList_store_row rfl 63 _ _ rfl w.heap.size (row4 k t x1 n1 c1' x2 n2 c2') rfl rfl 63 zeroV4 HB.out.1 HI.out rfl (row4_all _ _ _ _ _ _ _ _) ?_))
    refine bodyPost_ret (results_row_tmp rfl _ _ w.heap.size 63 (row4 k t x1 n1 c1' x2 n2 c2') _ rfl (rowC_setRow HB.out.1 _) Tryz.underlying63 rfl HI.out ev rfl) rfl ?_
    exact HB.out.2 _ ((Chg.refl _ _).setRow _ _ (.inl rfl))
  rw [if_neg e102] at hv'
  by_cases e116 : hd d = 116
  · rw [if_pos e116, Option.some.injEq] at hv'
    have hb : ((hd d).toNat : Int) = 116 := u8_is e116
    clear e116
    subst hv'
    have C := fun (n' : Nat) (w1 : World) (h1 : RdAt w1 q S d lev) (c1 : Chg (· = q) W0 w1) => (show Calls Tryz.prog 133 #[.pointer (some ⟨q, 0, none⟩), .int .i64 2] (w1.drewN n') (fun e w3 => readyV w w.heap.size q S l lev _ e w3) from (word_any hS.T ((HE0.out.q c1 hq).drewN n') hq (⟨h1.row, h1.suf⟩ : RdAt (w1.drewN n') q S d lev) 2 (by decide)).mono (fun e w3 hh => readyV_of (HA0.out.two (c1.drewN n')) hqw (Nat.le_refl _) ((c1.drewN n').rowC HR0.out (by omega)) HSf.out hh))
    go_enter Tryz.func98, Tryz.ntmps98
    go_upto_region 1 with (fail)
    rw [← HW0.out]
    go_wp2_with (first
      | (go_at_call 99; ((with_reducible refine hB.mono ?_); rintro e w1 ⟨rfl, h1, c1⟩))
      | (go_at_call 132; ((with_reducible refine (HN _ h1).mono ?_); rintro e w2 ⟨rfl, n', rfl⟩; have CC := C n' w1 h1 c1; clear h1; rw [hb]))
      | (go_at_call 133; ((with_reducible refine CC.mono ?_); rintro e w3 ⟨k, t, x1, n1, c1', x2, n2, c2', ev, rfl, HB⟩))
      | ((with_reducible show wpList _ _ _ (⟨none, .store _ (.tmp 2) _, _, _, _, _⟩ :: _) _ _); refine wpList_store_row rfl 63 _ _ rfl w.heap.size (row4 k t x1 n1 c1' x2 n2 c2') rfl rfl 63 zeroV4 HB.out.1 HI.out rfl (row4_all _ _ _ _ _ _ _ _) ?_))
    refine bodyPost_ret (results_row_tmp rfl _ _ w.heap.size 63 (row4 k t x1 n1 c1' x2 n2 c2') _ rfl (rowC_setRow HB.out.1 _) Tryz.underlying63 rfl HI.out ev rfl) rfl ?_
    exact HB.out.2 _ ((Chg.refl _ _).setRow _ _ (.inl rfl))
  rw [if_neg e116] at hv'
  by_cases e34 : hd d = 34
  · rw [if_pos e34] at hv'
    have hb : ((hd d).toNat : Int) = 34 := u8_is e34
    clear e34
    cases hq0 : quoP n d with
    | none => rw [hq0] at hv'; cases hv'
    | some Q =>
    rw [hq0] at hv'
    have hR := (Option.some.inj hv').symm
    have C := fun (n' : Nat) (w1 : World) (h1 : RdAt w1 q S d lev) (c1 : Chg (· = q) W0 w1) => (show Calls Tryz.prog 134 #[.pointer (some ⟨q, 0, none⟩)] (w1.drewN n') (fun e w3 => readyT w w.heap.size q S l lev R e w3) from (quoted_any hS ((HE0.out.q c1 hq).drewN n') hq (⟨h1.row, h1.suf⟩ : RdAt (w1.drewN n') q S d lev) hq0).mono (fun e w3 hh => readyT_of hS hR (HA0.out.two (c1.drewN n')) hqw (Nat.le_refl _) ((c1.drewN n').rowC HR0.out (by omega)) HSf.out hh))
    clear hR hq0
    go_enter Tryz.func98, Tryz.ntmps98
    go_upto_region 1 with (fail)
    rw [← HW0.out]
    go_wp2_with (first
      | (go_at_call 99; ((with_reducible refine hB.mono ?_); rintro e w1 ⟨rfl, h1, c1⟩))
      | (go_at_call 132; ((with_reducible refine (HN _ h1).mono ?_); rintro e w2 ⟨rfl, n', rfl⟩; have CC := C n' w1 h1 c1; clear h1; rw [hb]))
      | (go_at_call 134; ((with_reducible refine CC.mono ?_); rintro e w3 ⟨t, ev, rfl, HB⟩))
      | ((with_reducible show wpList _ _ _ (⟨none, .store _ (.tmp 2) _, _, _, _, _⟩ :: _) _ _); refine wpList_store_row rfl 63 _ _ rfl w.heap.size (row4 4 t none 0 0 none 0 0) rfl rfl 63 zeroV4 HB.out.1 HI.out rfl (row4_all _ _ _ _ _ _ _ _) ?_))
    refine bodyPost_ret (results_row_tmp rfl _ _ w.heap.size 63 (row4 4 t none 0 0 none 0 0) _ rfl (rowC_setRow HB.out.1 _) Tryz.underlying63 rfl HI.out ev rfl) rfl ?_
    exact HB.out.2 _ ((Chg.refl _ _).setRow _ _ (.inl rfl))
  rw [if_neg e34] at hv'
  by_cases e91 : hd d = 91
  · rw [if_pos e91] at hv'
    have hb : ((hd d).toNat : Int) = 91 := u8_is e91
    have hne : d ≠ [] := by rintro rfl; exact absurd e91 (by decide)
    have C := fun (n' : Nat) (w1 : World) (h1 : RdAt w1 q S d lev) (c1 : Chg (· = q) W0 w1) => (show Calls Tryz.prog 135 #[.pointer (some ⟨q, 0, none⟩)] (w1.drewN n') (fun e w3 => readyV w w.heap.size q S l lev R e w3) from (list_any V hS ((HE0.out.q c1 hq).drewN n') hq (⟨h1.row, h1.suf⟩ : RdAt (w1.drewN n') q S d lev) hlev hne hv').mono (fun e w3 hh => readyV_of (HA0.out.two (c1.drewN n')) hqw (Nat.le_refl _) ((c1.drewN n').rowC HR0.out (by omega)) HSf.out hh))
    go_enter Tryz.func98, Tryz.ntmps98
    go_upto_region 1 with (fail)
    rw [← HW0.out]
    go_wp2_with (first
      | (go_at_call 99; ((with_reducible refine hB.mono ?_); rintro e w1 ⟨rfl, h1, c1⟩))
      | (go_at_call 132; ((with_reducible refine (HN _ h1).mono ?_); rintro e w2 ⟨rfl, n', rfl⟩; have CC := C n' w1 h1 c1; clear h1; rw [hb]))
      | (go_at_call 135; ((with_reducible refine CC.mono ?_); rintro e w3 ⟨k, t, x1, n1, c1', x2, n2, c2', ev, rfl, HB⟩))
      | ((with_reducible show wpList _ _ _ (⟨none, .store _ (.tmp 2) _, _, _, _, _⟩ :: _) _ _); refine wpList_store_row rfl 63 _ _ rfl w.heap.size (row4 k t x1 n1 c1' x2 n2 c2') rfl rfl 63 zeroV4 HB.out.1 HI.out rfl (row4_all _ _ _ _ _ _ _ _) ?_))
    refine bodyPost_ret (results_row_tmp rfl _ _ w.heap.size 63 (row4 k t x1 n1 c1' x2 n2 c2') _ rfl (rowC_setRow HB.out.1 _) Tryz.underlying63 rfl HI.out ev rfl) rfl ?_
    exact HB.out.2 _ ((Chg.refl _ _).setRow _ _ (.inl rfl))
  rw [if_neg e91] at hv'
  by_cases e123 : hd d = 123
  · rw [if_pos e123] at hv'
    have hb : ((hd d).toNat : Int) = 123 := u8_is e123
    have hne : d ≠ [] := by rintro rfl; exact absurd e123 (by decide)
    have C := fun (n' : Nat) (w1 : World) (h1 : RdAt w1 q S d lev) (c1 : Chg (· = q) W0 w1) => (show Calls Tryz.prog 136 #[.pointer (some ⟨q, 0, none⟩)] (w1.drewN n') (fun e w3 => readyV w w.heap.size q S l lev R e w3) from (object_any V hS ((HE0.out.q c1 hq).drewN n') hq (⟨h1.row, h1.suf⟩ : RdAt (w1.drewN n') q S d lev) hlev hne hv').mono (fun e w3 hh => readyV_of (HA0.out.two (c1.drewN n')) hqw (Nat.le_refl _) ((c1.drewN n').rowC HR0.out (by omega)) HSf.out hh))
    go_enter Tryz.func98, Tryz.ntmps98
    go_upto_region 1 with (fail)
    rw [← HW0.out]
    go_wp2_with (first
      | (go_at_call 99; ((with_reducible refine hB.mono ?_); rintro e w1 ⟨rfl, h1, c1⟩))
      | (go_at_call 132; ((with_reducible refine (HN _ h1).mono ?_); rintro e w2 ⟨rfl, n', rfl⟩; have CC := C n' w1 h1 c1; clear h1; rw [hb]))
      | (go_at_call 136; ((with_reducible refine CC.mono ?_); rintro e w3 ⟨k, t, x1, n1, c1', x2, n2, c2', ev, rfl, HB⟩))
      | ((with_reducible show wpList _ _ _ (⟨none, .store _ (.tmp 2) _, _, _, _, _⟩ :: _) _ _); refine wpList_store_row rfl 63 _ _ rfl w.heap.size (row4 k t x1 n1 c1' x2 n2 c2') rfl rfl 63 zeroV4 HB.out.1 HI.out rfl (row4_all _ _ _ _ _ _ _ _) ?_))
    refine bodyPost_ret (results_row_tmp rfl _ _ w.heap.size 63 (row4 k t x1 n1 c1' x2 n2 c2') _ rfl (rowC_setRow HB.out.1 _) Tryz.underlying63 rfl HI.out ev rfl) rfl ?_
    exact HB.out.2 _ ((Chg.refl _ _).setRow _ _ (.inl rfl))
  rw [if_neg e123] at hv'
  have hR := (Option.some.inj hv').symm
  have f110 : ¬ ((hd d).toNat : Int) = 110 := u8_ne e110
  have f102 : ¬ ((hd d).toNat : Int) = 102 := u8_ne e102
  have f116 : ¬ ((hd d).toNat : Int) = 116 := u8_ne e116
  have f34 : ¬ ((hd d).toNat : Int) = 34 := u8_ne e34
  have f91 : ¬ ((hd d).toNat : Int) = 91 := u8_ne e91
  have f123 : ¬ ((hd d).toNat : Int) = 123 := u8_ne e123
  have C := fun (n' : Nat) (w1 : World) (h1 : RdAt w1 q S d lev) (c1 : Chg (· = q) W0 w1) => (show Calls Tryz.prog 137 #[.pointer (some ⟨q, 0, none⟩)] (w1.drewN n') (fun e w3 => readyN w w.heap.size q S l d lev R e w3) from (number_any hS.T (⟨h1.row, h1.suf⟩ : RdAt (w1.drewN n') q S d lev)).mono (fun e w3 hh => readyN_of hS hR (HA0.out.two (c1.drewN n')) hqw (Nat.le_refl _) ((c1.drewN n').rowC HR0.out (by omega)) HSf.out hds hh))
  generalize ((hd d).toNat : Int) = b at HN f110 f102 f116 f34 f91 f123
  have HDS := Lib.hid hds
  have hdl := hds.length_le
  have hSS := hS
  unfold okS at hSS
  have hsz := str_size S
  clear hv' hR hds hls V e110 e102 e116 e34 e91 e123
  go_enter Tryz.func98, Tryz.ntmps98
  go_upto_region 1 with (fail)
  rw [← HW0.out]
  go_upto_region 18 with (first
    | (go_at_call 99; ((with_reducible refine hB.mono ?_); rintro e w1 ⟨rfl, h1, c1⟩))
    | (go_at_call 132; ((with_reducible refine (HN _ h1).mono ?_); rintro e w2 ⟨rfl, n', rfl⟩; have CC := C n' w1 h1 c1; have d1 := (⟨h1.row, h1.suf⟩ : RdAt (w1.drewN n') q S d lev).cell.2.1; clear h1))
    | (go_at_call 137; ((with_reducible refine CC.mono ?_); rintro e w3 ⟨ev, y, l2, rfl, h3, hy, HB⟩)))
  have HPT := part_text HDS.out hy
  have hyl := hy.length_le
  obtain ⟨g0, g1, _⟩ := h3.cell
  have HH3 := Lib.hid h3
  have hqr : ¬ w.heap.size = q := by omega
  have hqr2 : ¬ q = w.heap.size := by omega
  generalize hkd : S.length - d.length = kd at HPT
  generalize hky : S.length - y.length = ky at HPT g1
  have hky2 : ky ≤ (str S).size := by omega
  have hkk : kd ≤ ky := by omega
  have hcl : (str (d.take (d.length - y.length))).size ≤ 281474976710656 := by rw [str_size, List.length_take]; omega
  have CL := fun w4 => clone_any (str (d.take (d.length - y.length))) w4 hcl
  generalize d.take (d.length - y.length) = T0 at HPT CL HB hcl
  have hw3 := h3.lt
  have i0 : (0 : Int) ≤ (kd : Int) := by omega
  have i1 : (kd : Int) ≤ (ky : Int) := by omega
  have i2 : (ky : Int) ≤ ((str S).size : Int) := by omega
  clear hsz hcl
  have HHB := Lib.hid HB.out.1
  have hzl := rowC_lt HB.out.1
  go_region_held3 (fun w' => w'.cell? ⟨q, 0, none⟩ = some (.string (str S)) ∧ w'.cell? ⟨q, 1, none⟩ = some (.int .i64 (ky : Int)))
    (first
      | exact ⟨k0, k1⟩
      | exact ⟨cell_chg (s := (· = w.heap.size)) (((((Chg.refl _ w4).cellq 0 _).cellq 1 _).cellq 2 _).cellq 3 _) k0 hqr2, cell_chg (s := (· = w.heap.size)) (((((Chg.refl _ w4).cellq 0 _).cellq 1 _).cellq 2 _).cellq 3 _) k1 hqr2⟩
      | go_keep)
    ((go_at_call 97; (with_reducible refine (CL _).mono ?_); rintro e w4 ⟨rfl, hb4⟩; have c4 := (Chg.of_below (s := fun _ => False) hb4); have k0 := (c4.rowC HH3.out.row id |> fun r => rowC_cell r 0); have k1 := hky ▸ (c4.rowC HH3.out.row id |> fun r => rowC_cell r 1); have Z4 := c4.rowC HHB.out id; have z0 : w4.cell? ⟨w.heap.size, 0, none⟩ = some (.int .i64 0) := rowC_cell Z4 0; have z1 : w4.cell? ⟨w.heap.size, 1, none⟩ = some (.string ⟨#[]⟩) := rowC_cell Z4 1; have z2 : w4.cell? ⟨w.heap.size, 2, none⟩ = some (.slice none 0 0) := rowC_cell Z4 2; have z3 : w4.cell? ⟨w.heap.size, 3, none⟩ = some (.slice none 0 0) := rowC_cell Z4 3; have y0 := rowC_free Z4 0; have y1 := rowC_free Z4 1; have y2 := rowC_free Z4 2; have y3 := rowC_free Z4 3))
  all_goals (
    go_wp2
    have r4 : rowC ((((w4.setCell ⟨w.heap.size, 0, none⟩ (.int .i64 3)).setCell ⟨w.heap.size, 1, none⟩ (.string (str T0))).setCell ⟨w.heap.size, 2, none⟩ (.slice none 0 0)).setCell ⟨w.heap.size, 3, none⟩ (.slice none 0 0)) w.heap.size (row4 3 (str T0) none 0 0 none 0 0) 63 := rowC_set (rowC_set (rowC_set (rowC_set Z4 0 _) 1 _) 2 _) 3 _
    have c5 : Chg (· = w.heap.size) w3 ((((w4.setCell ⟨w.heap.size, 0, none⟩ (.int .i64 3)).setCell ⟨w.heap.size, 1, none⟩ (.string (str T0))).setCell ⟨w.heap.size, 2, none⟩ (.slice none 0 0)).setCell ⟨w.heap.size, 3, none⟩ (.slice none 0 0)) := (((Chg.refl (· = w.heap.size) w3).drew.trans c4 (fun _ _ e => e.elim)).trans (((((Chg.refl (· = w.heap.size) w4).cellq 0 _).cellq 1 _).cellq 2 _).cellq 3 _) (fun _ _ e => e))
    refine bodyPost_ret (results_row_tmp rfl _ _ w.heap.size 63 (row4 3 (str T0) none 0 0 none 0 0) _ rfl r4 Tryz.underlying63 rfl HI.out ev rfl) rfl ?_
    exact HB.out.2 _ c5)
theorem value_all : ∀ n, ValOk n
  | 0 => value_zero
  | n + 1 => value_succ (value_all n)
end Go.Proofs.YtnkencdibniagaaGreatDoor

/- Layer 11: all of a text. -/
namespace Go.Proofs.YtnkencdibniagaaGreatDoor
open Go.RowKit

set_option maxRecDepth 100000 in
set_option maxHeartbeats 8000000 in
theorem rall_any {n : Nat} {w : World} {q : Nat} {S : Bs} {R : Res JV} (hS : okS S) (hE : Env w) (hq : 10 ≤ q) (h : RdAt w q S S 0) (hR : allP n S = some R) :
    Calls Tryz.prog 67 #[.pointer (some ⟨q, 0, none⟩)] w fun e w' => saysV w q S S 0 R e w' := by
  have hqw := h.lt
  obtain ⟨W0, hW0⟩ : ∃ W0, W0 = w.alloc (.cells #[.int .i64 0, .string ⟨#[]⟩, .slice none 0 0, .slice none 0 0] 63) := ⟨_, rfl⟩
  have R0 : rowC W0 w.heap.size zeroV4 63 := by rw [hW0]; exact rowC_new w _ _
  have A0 : Chg (· = q) w W0 := by rw [hW0]; exact (Chg.refl _ w).alloc _
  have E0 : Env W0 := hE.q A0 hq
  have H0 : RdAt W0 q S S 0 := by rw [hW0]; exact h.below ((Below.refl _ _).alloc (Nat.le_refl _) _)
  have s0 : W0.heap.size = w.heap.size + 1 := by rw [hW0]; exact size_alloc _ _
  unfold allP at hR
  cases hv : valP n 0 S with
  | none => rw [hv] at hR; cases hR
  | some Q =>
    rw [hv] at hR
    have C := value_all n W0 q S S 0 Q hS E0 hq H0 (by decide) hv
    have HR0 := Lib.hid R0
    have HA0 := Lib.hid A0
    have HW0 := Lib.hid hW0
    have HI := Lib.hid info_V
    have HS0 := Lib.hid s0
    clear hW0 R0 A0 E0 H0 hE h hv s0
    cases Q with
    | bad code x =>
      have HQ := Lib.hid (show R = .bad code x from (Option.some.inj hR).symm)
      unfold saysV errAt errV at C
      clear hR
      go_enter Tryz.func67, Tryz.ntmps67
      go_upto_region 1 with (fail)
      rw [← HW0.out]
      go_wp2_with (first
        | (go_at_call 98; ((with_reducible refine C.mono ?_); rintro e w2 ⟨V, rfl, ⟨k, t, x1, n1, c1, x2, n2, c2, rfl⟩, hb⟩; have HZ := Lib.hid (rowC_alloc (hb.2.rowC HR0.out (by omega)) (Obj.cells #[.int .i64 k, .string t, .slice x1 n1 c1, .slice x2 n2 c2] 63)); have HB := Lib.hid hb; clear hb))
        | ((with_reducible show wpList _ _ _ (⟨none, .store _ (.tmp 2) _, _, _, _, _⟩ :: _) _ _); refine wpList_store_row rfl 63 _ _ rfl w.heap.size zeroV4 rfl rfl 63 zeroV4 HZ.out HI.out rfl zeroV4_all ?_))
      refine bodyPost_ret (results_row_tmp rfl _ _ w.heap.size 63 zeroV4 _ rfl (rowC_setRow HZ.out _) Tryz.underlying63 rfl HI.out (errV code (S.length - x.length)) rfl) rfl ?_
      obtain ⟨⟨y, l2, h2, hs⟩, hc⟩ := HB.out
      have cc : Chg (· = w.heap.size) w2 ((w2.alloc (Obj.cells #[.int .i64 k, .string t, .slice x1 n1 c1, .slice x2 n2 c2] 63)).setRow w.heap.size zeroV4) := ((Chg.refl _ w2).alloc _).setRow _ _ (.inl rfl)
      exact saysV_bad HQ.out zero_four ⟨⟨y, l2, h2.chg cc (by omega), hs⟩, (HA0.out.two hc).trans cc (fun k hk e => by omega)⟩
    | ok v x =>
      change (if dropB x = [] then some (Res.ok v []) else some (Res.bad 10 (dropB x))) = some R at hR
      have HB3 := fun (w3 : World) (h3 : RdAt w3 q S x 0) => blanks_any h3 hS.T
      unfold saysV at C
      have hxe : (dropB x = [] ∧ S.length - (dropB x).length = S.length) ∨ (dropB x ≠ [] ∧ (dropB x <:+ S → S.length - (dropB x).length < S.length)) := by
        by_cases he : dropB x = []
        · exact .inl ⟨he, by rw [he]; rfl⟩
        · exact .inr ⟨he, fun hs => by have := List.length_pos_iff.2 he; have := hs.length_le; omega⟩
      have HXD := Lib.hid (dropB_suf x)
      rcases hxe with ⟨he, hl⟩ | ⟨he, hl⟩
      · have HQ := Lib.hid (show R = .ok v [] by rw [if_pos he] at hR; exact (Option.some.inj hR).symm)
        rw [he] at HB3
        have hlt : ¬ ((S.length : Int) < (S.length : Int)) := by omega
        have hsz := str_size S
        clear hR hl he
        go_enter Tryz.func67, Tryz.ntmps67
        go_upto_region 1 with (fail)
        rw [← HW0.out]
        go_upto_region 5 with (first
          | (go_at_call 98; ((with_reducible refine C.mono ?_); rintro e w2 ⟨V, rfl, ⟨a, b, c, d, rfl, hH⟩, hb⟩; obtain ⟨rfl, rfl, ⟨x1, c1, rfl⟩, x2, c2, rfl⟩ := hH.form; have HH := Lib.hid hH; have HZ := Lib.hid (rowC_alloc (hb.2.rowC HR0.out (by omega)) (Obj.cells #[.int .i64 v.kind, .string (str v.text), .slice x1 v.items.length c1, .slice x2 v.keys.length c2] 63)); have BB := HB3 (w2.alloc (Obj.cells #[.int .i64 v.kind, .string (str v.text), .slice x1 v.items.length c1, .slice x2 v.keys.length c2] 63)) (hb.1.chg ((Chg.refl (fun _ => False) w2).alloc _) id); have HB := Lib.hid hb; clear hb hH))
          | (go_at_call 99; ((with_reducible refine BB.mono ?_); rintro e w3 ⟨rfl, h3, c3⟩; have HC3 := Lib.hid c3; have HH3 := Lib.hid h3; clear c3)))
        obtain ⟨g0, g1, _⟩ := h3.cell
        rw [show S.length - ([] : Bs).length = S.length from rfl] at g1
        have hlq : ((S.length : Int) < ((str S).size : Int)) = False := by rw [hsz]; simp
        have hw2 : W0.heap.size ≤ w2.heap.size := HB.out.2.size
        have hqn : ¬ w2.heap.size = q := by have := HS0.out; omega
        have R3 := Lib.hid (HC3.out.rowC HZ.out (by omega))
        have X3 := Lib.hid (HC3.out.rowC (rowC_new w2 (row4 v.kind (str v.text) x1 v.items.length c1 x2 v.keys.length c2) 63) hqn)
        clear h3 hsz
        go_quiet (fail)
        go_wp2_with (first
          | ((with_reducible show wpList _ _ _ (⟨some 33, .load _ (.tmp 4), _, _, _, _⟩ :: _) _ _); refine wpList_load_row rfl 63 _ rfl w2.heap.size rfl 63 (row4 v.kind (str v.text) x1 v.items.length c1 x2 v.keys.length c2) (0, 0) _ (rowC_drewN X3.out _) Tryz.underlying63 rfl HI.out ?_)
          | ((with_reducible show wpList _ _ _ (⟨none, .store _ (.tmp 2) _, _, _, _, _⟩ :: _) _ _); refine wpList_store_row rfl 63 _ _ rfl w.heap.size (row4 v.kind (str v.text) x1 v.items.length c1 x2 v.keys.length c2) rfl rfl 63 zeroV4 (rowC_drewN R3.out _) HI.out rfl (row4_all _ _ _ _ _ _ _ _) ?_))
        refine bodyPost_ret (results_row_tmp rfl _ _ w.heap.size 63 (row4 v.kind (str v.text) x1 v.items.length c1 x2 v.keys.length c2) _ rfl (rowC_setRow (rowC_drewN R3.out _) _) Tryz.underlying63 rfl HI.out .nilIface rfl) rfl ?_
        have c23 : Chg (fun k => k = q ∨ k = w.heap.size) w2 ((w3.drewN nq).setRow w.heap.size (row4 v.kind (str v.text) x1 v.items.length c1 x2 v.keys.length c2)) := ((((Chg.refl _ w2).alloc _).trans HC3.out (fun k _ e => .inl e)).drewN nq).setRow _ _ (.inl (.inr rfl))
        have hs0 := HS0.out
        refine saysV_ok HQ.out ⟨_, _, _, _, rfl, HoldsC.mono (fun k hk hlt => ⟨by omega, hlt⟩) _ _ _ _ _ (HoldsC.chg c23 (fun k hk e => by omega) _ _ _ _ _ HH.out)⟩ ⟨RdAt.chg (s := (· = w.heap.size)) (w := w3.drewN nq) ⟨HH3.out.row, HH3.out.suf⟩ ((Chg.refl _ _).setRow _ _ (.inl rfl)) (by omega), (HA0.out.two HB.out.2).trans c23 (fun k hk e => by omega)⟩
      · have HQ := Lib.hid (show R = .bad 10 (dropB x) by rw [if_neg he] at hR; exact (Option.some.inj hR).symm)
        generalize dropB x = d at HB3 HQ HXD hl
        have hsz := str_size S
        clear hR he
        go_enter Tryz.func67, Tryz.ntmps67
        go_upto_region 1 with (fail)
        rw [← HW0.out]
        go_upto_region 5 with (first
          | (go_at_call 98; ((with_reducible refine C.mono ?_); rintro e w2 ⟨V, rfl, ⟨a, b, c, d', rfl, hH⟩, hb⟩; obtain ⟨rfl, rfl, ⟨x1, c1, rfl⟩, x2, c2, rfl⟩ := hH.form; have HZ := Lib.hid (rowC_alloc (hb.2.rowC HR0.out (by omega)) (Obj.cells #[.int .i64 v.kind, .string (str v.text), .slice x1 v.items.length c1, .slice x2 v.keys.length c2] 63)); have BB := HB3 (w2.alloc (Obj.cells #[.int .i64 v.kind, .string (str v.text), .slice x1 v.items.length c1, .slice x2 v.keys.length c2] 63)) (hb.1.chg ((Chg.refl (fun _ => False) w2).alloc _) id); have HB := Lib.hid hb; clear hb hH))
          | (go_at_call 99; ((with_reducible refine BB.mono ?_); rintro e w3 ⟨rfl, h3, c3⟩; have HC3 := Lib.hid c3; have HH3 := Lib.hid h3; clear c3)))
        obtain ⟨g0, g1, _⟩ := h3.cell
        have hkl := hl h3.suf
        generalize hk : S.length - d.length = k at g1 hkl
        have HK := Lib.hid hk
        have hlq : ((k : Int) < ((str S).size : Int)) := by rw [hsz]; omega
        have hw2 : W0.heap.size ≤ w2.heap.size := HB.out.2.size
        have R3 := Lib.hid (HC3.out.rowC HZ.out (by omega))
        clear h3 hsz hl hk
        go_quiet (fail)
        have g1' : (w3.drewN nq).cell? ⟨q, 1, none⟩ = some (.int .i64 (k : Int)) := g1
        go_wp2_with (first
          | (go_at_call 100; ((with_reducible refine (unfit_any k _ rfl _).mono ?_); rintro e w4 ⟨rfl, rfl⟩; unfold errV))
          | ((with_reducible show wpList _ _ _ (⟨none, .store _ (.tmp 2) _, _, _, _, _⟩ :: _) _ _); refine wpList_store_row rfl 63 _ _ rfl w.heap.size zeroV4 rfl rfl 63 zeroV4 (rowC_drewN R3.out _) HI.out rfl zeroV4_all ?_))
        refine bodyPost_ret (results_row_tmp rfl _ _ w.heap.size 63 zeroV4 _ rfl (rowC_setRow (rowC_drewN R3.out _) _) Tryz.underlying63 rfl HI.out (errV 10 k) rfl) rfl ?_
        have c23 : Chg (fun k => k = q ∨ k = w.heap.size) w2 ((w3.drewN nq).setRow w.heap.size zeroV4) := ((((Chg.refl _ w2).alloc _).trans HC3.out (fun k _ e => .inl e)).drewN nq).setRow _ _ (.inl (.inr rfl))
        have := saysV_bad (w := w) (w' := (w3.drewN nq).setRow w.heap.size zeroV4) (q := q) (S := S) (r := S) (lev := 0) HQ.out zero_four ⟨⟨d, 0, RdAt.chg (s := (· = w.heap.size)) (w := w3.drewN nq) ⟨HH3.out.row, HH3.out.suf⟩ ((Chg.refl _ _).setRow _ _ (.inl rfl)) (by omega), HXD.out.trans HB.out.1.suf⟩, (HA0.out.two HB.out.2).trans c23 (fun k hk e => by omega)⟩
        unfold errAt at this
        rw [HK.out] at this
        exact this
end Go.Proofs.YtnkencdibniagaaGreatDoor

/- Layer 11: errors.As at the reader's error. -/
namespace Go.Proofs.YtnkencdibniagaaGreatDoor
open Go.RowKit Go.Extern.Stop Go.Stop Go.Extern

/-- errors.As(nil, target). -/
theorem as_nil (t : Value) (w : World) :
    Calls Tryz.prog 68 #[.nilIface, t] w fun e w' => e = .returned (.bool false) ∧ w' = w := by
  go_enter Tryz.func68, Tryz.ntmps68
  go_wp2
  go_ret
  exact ⟨rfl, rfl⟩
theorem jz_valueOfP (t : Addr) (w : World) : (ReflectliteValue.unpack (.iface 128 (.pointer (some t)))).run Tryz.prog w
    = .ok (.agg #[.pointer (some ⟨10, 128, none⟩), .pointer (some ⟨w.heap.size, 0, none⟩), .int .u64 150]) (w.alloc (.cells #[.pointer (some t)] 128)) := by kernel_rfl
theorem jz_typeP (a : Addr) (w : World) : (ReflectliteValue.methodAny (ReflectliteValue.valueError "reflectlite.Value.Type" 0) (fun t _ _ _ => ReflectliteType.toType t) #[.agg #[.pointer (some ⟨10, 128, none⟩), .pointer (some a), .int .u64 150]]).run Tryz.prog w
    = .ok (.iface 206 (.agg #[.pointer (some ⟨10, 128, none⟩)])) w := by kernel_rfl
theorem jz_kindP (w : World) : ((ReflectliteType.abiMethod fun t => (fun a : Nat => Value.int IntKind.u8 (a : Int)) <$> Rtype.kind t) #[.pointer (some ⟨10, 128, none⟩)]).run Tryz.prog w = .ok (.int .u8 22) w := by kernel_rfl
theorem jz_kindS (w : World) : ((ReflectliteType.abiMethod fun t => (fun a : Nat => Value.int IntKind.u8 (a : Int)) <$> Rtype.kind t) #[.pointer (some ⟨10, 126, none⟩)]).run Tryz.prog w = .ok (.int .u8 25) w := by kernel_rfl
theorem rlm (z : Sem Value) (f : TypeId → Addr → Nat → Nat → Sem Value) (v : Value) :
    ReflectliteValue.method z f #[v] = (do match ← ReflectliteValue.parts v with | none => z | some (t, a, fl) => f t a fl (fl % 32)) := rfl
theorem jz_partsP (a : Addr) (w : World) : (ReflectliteValue.parts (.agg #[.pointer (some ⟨10, 128, none⟩), .pointer (some a), .int .u64 150])).run Tryz.prog w = .ok (some (128, a, 150)) w := by kernel_rfl
theorem jz_isNil (a p : Addr) (W : World) (ha : W.cell? a = some (.pointer (some p))) :
    (ReflectliteValue.method (ReflectliteValue.valueError "reflectlite.Value.IsNil" 0) ReflectliteValue.isNil #[.agg #[.pointer (some ⟨10, 128, none⟩), .pointer (some a), .int .u64 150]]).run Tryz.prog W = .ok (.bool false) W := by
  rw [rlm]
  simp only [Sem.run_bind, jz_partsP, Result.andThen]
  simp [ReflectliteValue.isNil, loadVar, isAgg, underlying, Tryz.underlying128, ha, Result.andThen]
theorem jz_elemT (w : World) : (ReflectliteType.method ReflectliteType.elem #[.agg #[.pointer (some ⟨10, 128, none⟩)]]).run Tryz.prog w = .ok (.iface 206 (.agg #[.pointer (some ⟨10, 126, none⟩)])) w := by kernel_rfl
theorem jz_implements (w : World) : (ReflectliteType.relation "Implements" ReflectliteType.implements_ #[.agg #[.pointer (some ⟨10, 126, none⟩)], .iface 206 (.agg #[.pointer (some ⟨10, 122, none⟩)])]).run Tryz.prog w = .ok (.bool true) w := by kernel_rfl
theorem jz_typeOf (v : Value) (w : World) : (ReflectliteType.typeOf #[.iface 126 v]).run Tryz.prog w = .ok (.iface 206 (.agg #[.pointer (some ⟨10, 126, none⟩)])) w := by kernel_rfl
theorem jz_assignable (w : World) : (ReflectliteType.relation "AssignableTo" ReflectliteType.assignableTo #[.agg #[.pointer (some ⟨10, 126, none⟩)], .iface 206 (.agg #[.pointer (some ⟨10, 126, none⟩)])]).run Tryz.prog w = .ok (.bool true) w := by kernel_rfl
theorem jz_valueOfS (a b : Int) (w : World) : (ReflectliteValue.unpack (.iface 126 (.agg #[.int .i64 a, .int .i64 b]))).run Tryz.prog w
    = .ok (.agg #[.pointer (some ⟨10, 126, none⟩), .pointer (some ⟨w.heap.size, 0, none⟩), .int .u64 153]) (w.alloc (.cells #[.int .i64 a, .int .i64 b] 126)) := by kernel_rfl
theorem jz_elemOf (w : World) : (Rtype.elem? 128).run Tryz.prog w = .ok (some 126) w := by kernel_rfl
theorem jz_mkS (p : Addr) (w : World) : (ReflectliteValue.mk 126 p ReflectliteValue.flagAddr).run Tryz.prog w = .ok (.agg #[.pointer (some ⟨10, 126, none⟩), .pointer (some p), .int .u64 409]) w := by kernel_rfl
theorem jz_elemV (a p : Addr) (W : World) (ha : W.cell? a = some (.pointer (some p))) :
    (ReflectliteValue.method (ReflectliteValue.valueError "reflectlite.Value.Elem" 0) ReflectliteValue.elem #[.agg #[.pointer (some ⟨10, 128, none⟩), .pointer (some a), .int .u64 150]]).run Tryz.prog W
      = .ok (.agg #[.pointer (some ⟨10, 126, none⟩), .pointer (some p), .int .u64 409]) W := by
  rw [rlm]
  simp only [Sem.run_bind, jz_partsP, Result.andThen]
  simp [ReflectliteValue.elem, loadVar, isAgg, underlying, Tryz.underlying128, ha, Result.andThen, jz_elemOf, jz_mkS]
end Go.Proofs.YtnkencdibniagaaGreatDoor

