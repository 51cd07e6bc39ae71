/- Merged: JuQ, JuR, JuM, JtR, JtS, JtT. -/
import Derived.Test.YtafmokpplnmbgaaGreatDoorM07
import Derived.Test.YtafmokpplnmbgaaGreatDoorM06
/- Layer 11: Same, of values that are the same. -/
namespace Go.Proofs.YtafmokpplnmbgaaGreatDoor
open Go.RowKit

theorem hasV.on {w w' : World} {items : List JV} {x : Option Addr} (h : hasV w (fun k => k < w.heap.size) items x) (hb : Below w.heap.size w w') : hasV w' (fun k => k < w'.heap.size) items x := fun i v hv => by
  obtain ⟨ad, a, b, c, d, h1, h2, h3, h4⟩ := h i v hv
  exact ⟨ad, a, b, c, d, h1, Nat.lt_of_lt_of_le h2 hb.size, h3.chg (chg_of_below hb) (by rw [add_block]; omega), h4.on hb⟩
theorem hasK.on {w w' : World} {keys : List Bs} {x : Option Addr} (h : hasK w (fun k => k < w.heap.size) keys x) (hb : Below w.heap.size w w') : hasK w' (fun k => k < w'.heap.size) keys x := fun i hi => by
  obtain ⟨ad, h1, h2, h3⟩ := h i hi
  exact ⟨ad, h1, Nat.lt_of_lt_of_le h2 hb.size, cell_chg (chg_of_below hb) h3 (by rw [add_block]; omega)⟩
set_option maxRecDepth 100000 in
set_option maxHeartbeats 8000000 in
theorem same_any : ∀ (s : Nat) (v : JV), SizeOf.sizeOf v ≤ s → okJ v → SmOk v := by
  intro s
  induction s with
  | zero =>
    intro v hs
    obtain ⟨k, t, items, keys⟩ := v
    simp at hs
  | succ s ih =>
    intro v hs ho n w x a b c d a' b' c' d' hn hx hH hH'
    obtain ⟨k, t, items, keys⟩ := v
    have IH : ∀ y ∈ items, SmOk y := fun y hy => by
      have := List.sizeOf_lt_of_mem hy
      simp at hs
      rw [okJ] at ho
      exact ih y (by omega) (okJL_mem ho.2.2 y hy)
    rw [okJ] at ho
    obtain ⟨rfl, rfl, ht, ⟨x1, c1, rfl, hI⟩, ⟨x2, c2, rfl, hK⟩⟩ := hH.opens
    obtain ⟨rfl, rfl, _, ⟨y1, d1, rfl, hJ⟩, ⟨y2, d2, rfl, hM⟩⟩ := hH'.opens
    have hI : hasV w (fun k => k < w.heap.size) items x1 := hI
    have hJ : hasV w (fun k => k < w.heap.size) items y1 := hJ
    have hK : hasK w (fun k => k < w.heap.size) keys x2 := hK
    have hM : hasK w (fun k => k < w.heap.size) keys y2 := hM
    obtain ⟨W0, hW0⟩ : ∃ W0, W0 = ((w.alloc (.cells #[.int .i64 k, .string (str t), .slice x1 items.length c1, .slice x2 keys.length c2] 27)).alloc (.cells #[.int .i64 k, .string (str t), .slice y1 items.length d1, .slice y2 keys.length d2] 27)).alloc (.cells #[.int .i64 x] 3) := ⟨_, rfl⟩
    have R0 : rowC W0 w.heap.size #[.int .i64 k, .string (str t), .slice x1 items.length c1, .slice x2 keys.length c2] 27 := by rw [hW0]; exact rowC_alloc (rowC_alloc (rowC_new w _ _) _) _
    have R1 : rowC W0 (w.heap.size + 1) #[.int .i64 k, .string (str t), .slice y1 items.length d1, .slice y2 keys.length d2] 27 := by
      rw [hW0, ← size_alloc w (.cells #[.int .i64 k, .string (str t), .slice x1 items.length c1, .slice x2 keys.length c2] 27)]
      exact rowC_alloc (rowC_new _ _ _) _
    have R2 : rowC W0 (w.heap.size + 1 + 1) #[.int .i64 x] 3 := by
      rw [hW0, ← size_alloc w (.cells #[.int .i64 k, .string (str t), .slice x1 items.length c1, .slice x2 keys.length c2] 27), ← size_alloc (w.alloc _) (.cells #[.int .i64 k, .string (str t), .slice y1 items.length d1, .slice y2 keys.length d2] 27)]
      exact rowC_new _ _ _
    have B0 : Below w.heap.size w W0 := by rw [hW0]; exact (((Below.refl _ _).alloc (Nat.le_refl _) _).alloc (by rw [size_alloc]; omega) _).alloc (by rw [size_alloc, size_alloc]; omega) _
    have CK := eqKeys_any (c := c2) (d := d2) (hK.on B0) (hM.on B0) ho.2.1.2.1
    have g0 : W0.cell? ⟨w.heap.size, 0, none⟩ = some (.int .i64 k) := rowC_cell R0 0
    have g1 : W0.cell? ⟨w.heap.size, 1, none⟩ = some (.string (str t)) := rowC_cell R0 1
    have g3 : W0.cell? ⟨w.heap.size, 3, none⟩ = some (.slice x2 keys.length c2) := rowC_cell R0 3
    have e0 : W0.cell? ⟨w.heap.size + 1, 0, none⟩ = some (.int .i64 k) := rowC_cell R1 0
    have e1 : W0.cell? ⟨w.heap.size + 1, 1, none⟩ = some (.string (str t)) := rowC_cell R1 1
    have e3 : W0.cell? ⟨w.heap.size + 1, 3, none⟩ = some (.slice y2 keys.length d2) := rowC_cell R1 3
    have HW0 := Lib.hid hW0
    have HR0 := Lib.hid R0
    have HR1 := Lib.hid R1
    have HR2 := Lib.hid R2
    have HB0 := Lib.hid B0
    have HI := Lib.hid hI
    have HJ := Lib.hid hJ
    have HIH := Lib.hid IH
    have HL := Lib.hid ho.2.1.1
    clear hW0 R0 R1 R2 B0 hI hJ hK hM IH ih hs ho hH hH' ht
    have after : ∀ {w2 : World}, Below W0.heap.size W0 w2 → w2.cell? ⟨w.heap.size + 1 + 1, 0, none⟩ = some (.int .i64 x) ∧ w2.cell? ⟨w.heap.size, 2, none⟩ = some (.slice x1 items.length c1) ∧ w2.cell? ⟨w.heap.size + 1, 2, none⟩ = some (.slice y1 items.length d1) := fun hb =>
      ⟨rowC_cell (rowC_below HR2.out hb (rowC_lt HR2.out)) 0, rowC_cell (rowC_below HR0.out hb (rowC_lt HR0.out)) 2, rowC_cell (rowC_below HR1.out hb (rowC_lt HR1.out)) 2⟩
    cases n with
    | zero =>
      obtain rfl : x = 0 := hx
      clear hn
      go_enter Tryz.func20, Tryz.ntmps20
      go_upto_region 1 with (fail)
      rw [← HW0.out]
      go_wp2_with (go_at_call 34; ((with_reducible refine CK.mono ?_); rintro e w2 ⟨rfl, hb2⟩; obtain ⟨q0, q1, q2⟩ := after hb2))
      go_ret
      exact ⟨rfl, HB0.out.trans (hb2.mono HB0.out.size)⟩
    | succ n =>
      have hx0 : (x == 0) = false := by rw [beq_eq_false_iff_ne]; omega
      have HX : Hid (n ≤ 65536 ∧ x - 1 = (n : Int) ∧ x ≤ 65536 ∧ 0 < x) := Lib.hid (by omega)
      clear hn hx
      go_enter Tryz.func20, Tryz.ntmps20
      go_upto_region 1 with (fail)
      rw [← HW0.out]
      go_wp2_with (first
        | (go_at_call 34; ((with_reducible refine CK.mono ?_); rintro e w2 ⟨rfl, hb2⟩; obtain ⟨q0, q1, q2⟩ := after hb2; have BB := HB0.out.trans (hb2.mono HB0.out.size)))
        | (go_at_call 35; ((with_reducible refine (eqFunc_any HIH.out HX.out.1 HX.out.2.1 HX.out.2.2.1 HX.out.2.2.2 q0 HL.out (HI.out.on BB) (HJ.out.on BB)).mono ?_); rintro e w3 ⟨rfl, hb3⟩)))
      go_ret
      exact ⟨rfl, BB.trans (hb3.mono BB.size)⟩
/-- Same, of two that are the same. -/
theorem Same_any {v : JV} (ho : okJ v) {w : World} {a b c d a' b' c' d' : Value} (hH : HoldsC w (fun k => k < w.heap.size) v a b c d) (hH' : HoldsC w (fun k => k < w.heap.size) v a' b' c' d') :
    Calls Tryz.prog 10 #[.agg #[a, b, c, d], .agg #[a', b', c', d']] w fun e w' => e = .returned (.bool true) ∧ Below w.heap.size w w' := by
  have hH0 := hH
  have hH0' := hH'
  obtain ⟨rfl, rfl, ⟨x1, c1, rfl⟩, x2, c2, rfl⟩ := hH.form
  obtain ⟨rfl, rfl, ⟨y1, d1, rfl⟩, y2, d2, rfl⟩ := hH'.form
  obtain ⟨W0, hW0⟩ : ∃ W0, W0 = (w.alloc (.cells #[.int .i64 v.kind, .string (str v.text), .slice x1 v.items.length c1, .slice x2 v.keys.length c2] 27)).alloc (.cells #[.int .i64 v.kind, .string (str v.text), .slice y1 v.items.length d1, .slice y2 v.keys.length d2] 27) := ⟨_, rfl⟩
  have R0 : rowC W0 w.heap.size #[.int .i64 v.kind, .string (str v.text), .slice x1 v.items.length c1, .slice x2 v.keys.length c2] 27 := by rw [hW0]; exact rowC_alloc (rowC_new w _ _) _
  have R1 : rowC W0 (w.heap.size + 1) #[.int .i64 v.kind, .string (str v.text), .slice y1 v.items.length d1, .slice y2 v.keys.length d2] 27 := by
    rw [hW0, ← size_alloc w (.cells #[.int .i64 v.kind, .string (str v.text), .slice x1 v.items.length c1, .slice x2 v.keys.length c2] 27)]
    exact rowC_new _ _ _
  have B0 : Below w.heap.size w W0 := by rw [hW0]; exact ((Below.refl _ _).alloc (Nat.le_refl _) _).alloc (by rw [size_alloc]; omega) _
  have hv := same_any _ v (Nat.le_refl _) ho
  unfold SmOk at hv
  have C := hv 65536 W0 65536 _ _ _ _ _ _ _ _ (Nat.le_refl _) rfl (hH0.on B0) (hH0'.on B0)
  have HIF := Lib.hid info_V
  have HW0 := Lib.hid hW0
  have HR0 := Lib.hid R0
  have HR1 := Lib.hid R1
  have HB0 := Lib.hid B0
  clear hW0 R0 R1 B0 hH hH' hH0 hH0' hv ho
  go_enter Tryz.func10, Tryz.ntmps10
  go_upto_region 1 with (fail)
  rw [← HW0.out]
  go_wp2_with (first
    | ((with_reducible show wpList _ _ _ (⟨some 5, .load _ (.tmp 2), _, _, _, _⟩ :: _) _ _); refine wpList_load_row rfl 27 _ rfl w.heap.size rfl 27 #[.int .i64 v.kind, .string (str v.text), .slice x1 v.items.length c1, .slice x2 v.keys.length c2] (0, 0) _ HR0.out Tryz.underlying27 rfl HIF.out ?_)
    | ((with_reducible show wpList _ _ _ (⟨some 6, .load _ (.tmp 3), _, _, _, _⟩ :: _) _ _); refine wpList_load_row rfl 27 _ rfl (w.heap.size + 1) rfl 27 #[.int .i64 v.kind, .string (str v.text), .slice y1 v.items.length d1, .slice y2 v.keys.length d2] (0, 0) _ HR1.out Tryz.underlying27 rfl HIF.out ?_)
    | (go_at_call 20; ((with_reducible refine C.mono ?_); rintro e w2 ⟨rfl, hb2⟩)))
  go_ret
  exact ⟨rfl, HB0.out.trans (hb2.mono HB0.out.size)⟩
end Go.Proofs.YtafmokpplnmbgaaGreatDoor

/- Layer 11: Int, at the chapter's texts. -/
namespace Go.Proofs.YtafmokpplnmbgaaGreatDoor
open Go.RowKit

set_option maxRecDepth 100000 in
set_option maxHeartbeats 4000000 in
theorem int_no (w : World) (hE : Env w) : Calls Tryz.prog 19 #[.agg #[.int .i64 3, .string ⟨#[49, 101, 51]⟩, .slice none 0 0, .slice none 0 0]] w fun e w' => e = .returned (.tuple #[.int .i64 0, .bool false]) ∧ Below w.heap.size w w' := by
  obtain ⟨W0, hW0⟩ : ∃ W0, W0 = w.alloc (.cells #[.int .i64 3, .string ⟨#[49, 101, 51]⟩, .slice none 0 0, .slice none 0 0] 27) := ⟨_, rfl⟩
  have R0 : rowC W0 w.heap.size #[.int .i64 3, .string ⟨#[49, 101, 51]⟩, .slice none 0 0, .slice none 0 0] 27 := by rw [hW0]; exact rowC_new w _ _
  have B0 : Below w.heap.size w W0 := by rw [hW0]; exact (Below.refl _ _).alloc (Nat.le_refl _) _
  have C0 := isNumber_any [49, 101, 51] (by unfold okT; decide) W0
  have hn : isNumB [49, 101, 51] = true := by rfl
  rw [hn] at C0
  have C1 : Calls Tryz.prog 32 #[.string ⟨#[49, 101, 51]⟩] W0 fun e w' => e = .returned (.bool true) ∧ Below W0.heap.size W0 w' := C0
  have g0 : W0.cell? ⟨w.heap.size, 0, none⟩ = some (.int .i64 3) := rowC_cell R0 0
  have g1 : W0.cell? ⟨w.heap.size, 1, none⟩ = some (.string ⟨#[49, 101, 51]⟩) := rowC_cell R0 1
  have HW0 := Lib.hid hW0
  have HR0 := Lib.hid R0
  have HB0 := Lib.hid B0
  have HE0 := Lib.hid (hE.below B0)
  clear hW0 R0 B0 C0 hn hE
  go_enter Tryz.func19, Tryz.ntmps19
  go_upto_region 1 with (fail)
  rw [← HW0.out]
  go_upto_region 3 with (go_at_call 32; ((with_reducible refine C1.mono ?_); rintro e w2 ⟨rfl, hb2⟩))
  have q1 : w2.cell? ⟨w.heap.size, 1, none⟩ = some (.string ⟨#[49, 101, 51]⟩) := rowC_cell (rowC_below HR0.out hb2 (rowC_lt HR0.out)) 1
  obtain ⟨tp, p, hv⟩ := (HE0.out.below hb2).syn
  have CA := Tryz.strconv_Atoi_syntax_var ⟨#[49, 101, 51]⟩ (by decide) (by rfl) tp p w2 hv
  clear hv
  go_wp2_with (go_at_call 33; ((with_reducible refine CA.mono ?_); rintro e w3 ⟨N, rfl, _, _, hb3⟩))
  go_ret2
  exact ⟨rfl, (HB0.out.trans (hb2.mono HB0.out.size)).trans (hb3.mono (HB0.out.trans (hb2.mono HB0.out.size)).size)⟩
set_option maxRecDepth 100000 in
set_option maxHeartbeats 4000000 in
theorem int_yes (w : World) (hE : Env w) : Calls Tryz.prog 19 #[.agg #[.int .i64 3, .string ⟨#[45, 55]⟩, .slice none 0 0, .slice none 0 0]] w fun e w' => e = .returned (.tuple #[.int .i64 (-7), .bool true]) ∧ Below w.heap.size w w' := by
  obtain ⟨W0, hW0⟩ : ∃ W0, W0 = w.alloc (.cells #[.int .i64 3, .string ⟨#[45, 55]⟩, .slice none 0 0, .slice none 0 0] 27) := ⟨_, rfl⟩
  have R0 : rowC W0 w.heap.size #[.int .i64 3, .string ⟨#[45, 55]⟩, .slice none 0 0, .slice none 0 0] 27 := by rw [hW0]; exact rowC_new w _ _
  have B0 : Below w.heap.size w W0 := by rw [hW0]; exact (Below.refl _ _).alloc (Nat.le_refl _) _
  have C0 := isNumber_any [45, 55] (by unfold okT; decide) W0
  have hn : isNumB [45, 55] = true := by rfl
  rw [hn] at C0
  have C1 : Calls Tryz.prog 32 #[.string ⟨#[45, 55]⟩] W0 fun e w' => e = .returned (.bool true) ∧ Below W0.heap.size W0 w' := C0
  have g0 : W0.cell? ⟨w.heap.size, 0, none⟩ = some (.int .i64 3) := rowC_cell R0 0
  have g1 : W0.cell? ⟨w.heap.size, 1, none⟩ = some (.string ⟨#[45, 55]⟩) := rowC_cell R0 1
  have HW0 := Lib.hid hW0
  have HR0 := Lib.hid R0
  have HB0 := Lib.hid B0
  have HE0 := Lib.hid (hE.below B0)
  clear hW0 R0 B0 C0 hn hE
  go_enter Tryz.func19, Tryz.ntmps19
  go_upto_region 1 with (fail)
  rw [← HW0.out]
  go_upto_region 3 with (go_at_call 32; ((with_reducible refine C1.mono ?_); rintro e w2 ⟨rfl, hb2⟩))
  have q1 : w2.cell? ⟨w.heap.size, 1, none⟩ = some (.string ⟨#[45, 55]⟩) := rowC_cell (rowC_below HR0.out hb2 (rowC_lt HR0.out)) 1
  have CA := Tryz.strconv_Atoi_ok ⟨#[45, 55]⟩ (by decide) (-7) (by rfl) w2
  have HB2 := Lib.hid (HB0.out.trans (hb2.mono HB0.out.size))
  go_wp2_with (go_at_call 33; ((with_reducible refine CA.mono ?_); rintro e w3 ⟨rfl, h3⟩; have HB3 : Hid (Below w2.heap.size w2 w3) := Lib.hid (by rcases h3 with rfl | ⟨t, rfl⟩; exact Below.refl _ _; exact Lib.bytesWorld_below _ _ _); clear h3))
  go_ret2
  exact ⟨rfl, HB2.out.trans (HB3.out.mono HB2.out.size)⟩
end Go.Proofs.YtafmokpplnmbgaaGreatDoor

/- Layer 11: Print. -/
namespace Go.Proofs.YtafmokpplnmbgaaGreatDoor
open Go.RowKit

theorem prat_new (w : World) : PrAt (w.alloc (.cells #[.pointer none, .slice none 0 0] 52)) w.heap.size w.heap.size [] := by
  refine .inl ⟨Nat.le_refl _, .slice none 0 0, heap_alloc_new w _, ?_, by simp [Value.ownBlock]⟩
  exact World.ownsRowF_of (World.ownsRow_nil _ _ _ _)
theorem puts_print {v : JV} (h : may v) : (65536 < (prG [] v).length → 65536 < (putsL [] (psJ v)).length) ∧ (¬ 65536 < (prG [] v).length → putsL [] (psJ v) = prG [] v) := by
  constructor
  · intro hl
    refine putsL_over _ _ ?_
    rw [psJ_all h]
    simpa using hl
  · intro hl
    rw [putsL_all _ _ (by rw [psJ_all h]; simpa using hl), psJ_all h]
    rfl
set_option maxRecDepth 100000 in
set_option maxHeartbeats 8000000 in
theorem print_any {v : JV} {w : World} {a b c d : Value} (ho : okJ v) (hE : Env w) (hH : HoldsC w (fun k => k < w.heap.size) v a b c d) :
    Calls Tryz.prog 7 #[.agg #[a, b, c, d]] w fun e w' => e = .returned (.tuple #[.string (str (printA v).1), .int .i64 ((printA v).2 : Int)]) ∧ Below w.heap.size w w' := by
  have hH0 := hH
  obtain ⟨rfl, rfl, ⟨x1, c1, rfl⟩, x2, c2, rfl⟩ := hH.form
  obtain ⟨W0, hW0⟩ : ∃ W0, W0 = w.alloc (.cells #[.int .i64 v.kind, .string (str v.text), .slice x1 v.items.length c1, .slice x2 v.keys.length c2] 27) := ⟨_, rfl⟩
  have R0 : rowC W0 w.heap.size #[.int .i64 v.kind, .string (str v.text), .slice x1 v.items.length c1, .slice x2 v.keys.length c2] 27 := by rw [hW0]; exact rowC_new w _ _
  have B0 : Below w.heap.size w W0 := by rw [hW0]; exact (Below.refl _ _).alloc (Nat.le_refl _) _
  have E0 : Env W0 := hE.below B0
  have CD := depth_any _ v (Nat.le_refl _) ho 65536 W0 65536 _ _ _ _ (Nat.le_refl _) rfl E0 (hH0.on B0)
  have hPA : printA v = match depthF 65536 v with | none => ([], 2) | some n => if 16 < n then ([], 11) else if 65536 < (prG [] v).length then ([], 3) else (prG [] v, 0) := rfl
  have hDS := fun m (h : depthF 65536 v = some m) (hm : m ≤ 16) => depth_some 65536 v m h (by omega)
  have hDL := fun m (h : depthF 65536 v = some m) => depthF_le 65536 v m h
  generalize depthF 65536 v = D at CD hPA hDS hDL
  have HIF := Lib.hid info_V
  have HW0 := Lib.hid hW0
  have HB0 := Lib.hid B0
  have HR0 := Lib.hid R0
  have HE := Lib.hid hE
  have HH := Lib.hid hH0
  have HO := Lib.hid ho
  clear hW0 R0 B0 E0 hE hH hH0 ho
  cases D with
  | none =>
    have HP := Lib.hid hPA
    clear hPA hDS hDL
    simp only [depD, depO] at CD
    go_enter Tryz.func7, Tryz.ntmps7
    go_upto_region 1 with (fail)
    rw [← HW0.out]
    go_wp2_with (first
      | ((with_reducible show wpList _ _ _ (⟨some 8, .load _ (.tmp 1), _, _, _, _⟩ :: _) _ _); refine wpList_load_row rfl 27 _ rfl w.heap.size rfl 27 #[.int .i64 v.kind, .string (str v.text), .slice x1 v.items.length c1, .slice x2 v.keys.length c2] (0, 0) _ HR0.out Tryz.underlying27 rfl HIF.out ?_)
      | (go_at_call 13; ((with_reducible refine CD.mono ?_); rintro e w2 ⟨rfl, hb2⟩)))
    go_ret2
    rw [HP.out]
    exact ⟨rfl, HB0.out.trans (hb2.mono HB0.out.size)⟩
  | some n =>
    have hnl := hDL n rfl
    simp only [depD, depO] at CD
    by_cases h16 : 16 < n
    · have HP : Hid (printA v = ([], 11)) := Lib.hid (by rw [hPA]; dsimp only; rw [if_pos h16])
      have hn : (16 : Int) < (n : Int) := by omega
      clear hPA hDS hDL h16 hnl
      go_enter Tryz.func7, Tryz.ntmps7
      go_upto_region 1 with (fail)
      rw [← HW0.out]
      go_wp2_with (first
        | ((with_reducible show wpList _ _ _ (⟨some 8, .load _ (.tmp 1), _, _, _, _⟩ :: _) _ _); refine wpList_load_row rfl 27 _ rfl w.heap.size rfl 27 #[.int .i64 v.kind, .string (str v.text), .slice x1 v.items.length c1, .slice x2 v.keys.length c2] (0, 0) _ HR0.out Tryz.underlying27 rfl HIF.out ?_)
        | (go_at_call 13; ((with_reducible refine CD.mono ?_); rintro e w2 ⟨rfl, hb2⟩)))
      go_ret2
      rw [HP.out]
      exact ⟨rfl, HB0.out.trans (hb2.mono HB0.out.size)⟩
    · have hm := (hDS n rfl (by omega)).1
      have HPV := Lib.hid (pvalue_any _ v (Nat.le_refl _) hm HO.out)
      unfold PvOk at HPV
      have HPP := Lib.hid (puts_print hm)
      have HNE := Lib.hid (pr_ne hm)
      have hn : ¬ (16 : Int) < (n : Int) := by omega
      have HP0 : Hid (printA v = if 65536 < (prG [] v).length then ([], 3) else (prG [] v, 0)) := Lib.hid (by rw [hPA]; dsimp only; rw [if_neg h16])
      clear hPA hDS hDL h16 hnl hm
      go_enter Tryz.func7, Tryz.ntmps7
      go_upto_region 1 with (fail)
      rw [← HW0.out]
      go_upto_region 6 with (first
        | ((with_reducible show wpList _ _ _ (⟨some 8, .load _ (.tmp 1), _, _, _, _⟩ :: _) _ _); refine wpList_load_row rfl 27 _ rfl w.heap.size rfl 27 #[.int .i64 v.kind, .string (str v.text), .slice x1 v.items.length c1, .slice x2 v.keys.length c2] (0, 0) _ HR0.out Tryz.underlying27 rfl HIF.out ?_)
        | (go_at_call 13; ((with_reducible refine CD.mono ?_); rintro e w2 ⟨rfl, hb2⟩)))
      obtain ⟨W3, hW3⟩ : ∃ W3, W3 = w2.alloc (.cells #[.pointer none, .slice none 0 0] 52) := ⟨_, rfl⟩
      have P3 : PrAt W3 w2.heap.size w2.heap.size [] := by rw [hW3]; exact prat_new w2
      have B2 : Below w.heap.size w w2 := HB0.out.trans (hb2.mono HB0.out.size)
      have B3 : Below w2.heap.size w2 W3 := by rw [hW3]; exact (Below.refl _ _).alloc (Nat.le_refl _) _
      have R3 : rowC W3 w.heap.size #[.int .i64 v.kind, .string (str v.text), .slice x1 v.items.length c1, .slice x2 v.keys.length c2] 27 := by
        rw [hW3]; exact rowC_alloc (rowC_below HR0.out hb2 (rowC_lt HR0.out)) _
      have H3 : HoldsC W3 (fun k => k < w2.heap.size) v (.int .i64 v.kind) (.string (str v.text)) (.slice x1 v.items.length c1) (.slice x2 v.keys.length c2) :=
        HoldsC.chg (s := fun _ => False) (Chg.of_below B3) (fun _ _ => id) _ _ _ _ _ (HH.out.on B2)
      have h10 : 10 ≤ w2.heap.size := by have := HE.out.big; have := B2.size; omega
      have CV := HPV.out W3 w2.heap.size w2.heap.size [] _ _ _ _ P3 B3.size (HE.out.below (B2.trans (B3.mono B2.size))) h10 H3
      have HW3 := Lib.hid hW3
      have HR3 := Lib.hid R3
      have HB3 := Lib.hid (B2.trans (B3.mono B2.size))
      have HB2 := Lib.hid B2
      have hbb : w2.heap.size ≤ w2.heap.size := Nat.le_refl _
      clear hW3 P3 B2 B3 R3 H3 h10 CD
      go_upto_region 7 with (fail)
      rw [← HW3.out]
      by_cases hl : 65536 < (prG [] v).length
      · have HP : Hid (printA v = ([], 3)) := Lib.hid (by rw [HP0.out, if_pos hl])
        have hll := HPP.out.1 hl
        have hl2 : (65536 : Int) < ((putsL [] (psJ v)).length : Int) := by omega
        clear hl hll HP0
        go_wp2_with (first
          | ((with_reducible show wpList _ _ _ (⟨some 16, .load _ (.tmp 1), _, _, _, _⟩ :: _) _ _); refine wpList_load_row rfl 27 _ rfl w.heap.size rfl 27 #[.int .i64 v.kind, .string (str v.text), .slice x1 v.items.length c1, .slice x2 v.keys.length c2] (0, 0) _ HR3.out Tryz.underlying27 rfl HIF.out ?_)
          | (go_at_call 14; ((with_reducible refine CV.mono ?_); rintro e w4 ⟨rfl, h4⟩; have CL := bd_len _ _ _ _ h4.pr; rw [Lib.byteCells_length] at CL))
          | (go_at_call 15; ((with_reducible refine CL.mono ?_); rintro e w5 ⟨rfl, rfl⟩)))
        go_ret2
        rw [HP.out]
        exact ⟨rfl, HB3.out.trans (h4.bel.mono HB2.out.size)⟩
      · have HP : Hid (printA v = (prG [] v, 0)) := Lib.hid (by rw [HP0.out, if_neg hl])
        have hll := HPP.out.2 hl
        rw [hll] at CV
        have hl2 : ¬ (65536 : Int) < ((prG [] v).length : Int) := by omega
        clear hl hll HP0
        go_wp2_with (first
          | ((with_reducible show wpList _ _ _ (⟨some 16, .load _ (.tmp 1), _, _, _, _⟩ :: _) _ _); refine wpList_load_row rfl 27 _ rfl w.heap.size rfl 27 #[.int .i64 v.kind, .string (str v.text), .slice x1 v.items.length c1, .slice x2 v.keys.length c2] (0, 0) _ HR3.out Tryz.underlying27 rfl HIF.out ?_)
          | (go_at_call 14; ((with_reducible refine CV.mono ?_); rintro e w4 ⟨rfl, h4⟩; have CL := bd_len _ _ _ _ h4.pr; rw [Lib.byteCells_length] at CL))
          | (go_at_call 15; ((with_reducible refine CL.mono ?_); rintro e w5 ⟨rfl, rfl⟩))
          | (go_at_call 16; ((with_reducible refine (bd_string _ _ _ _ h4.pr HNE.out).mono ?_); rintro e w6 ⟨rfl, hb6⟩)))
        go_ret2
        rw [HP.out]
        exact ⟨rfl, (HB3.out.trans (h4.bel.mono HB2.out.size)).trans (hb6.mono HB2.out.size)⟩
end Go.Proofs.YtafmokpplnmbgaaGreatDoor

/- Layer 11: an item of a list is read. -/
namespace Go.Proofs.YtafmokpplnmbgaaGreatDoor
open Go.RowKit
attribute [local go_sem ↓] Go.wp_at_zero Go.wp_at_succ

theorem row_cells4 {w : World} {bL g m cap : Nat} {xs : List Value} {a b c d : Value} {t : TypeId} (h : w.ownsRow bL t 4 (.slice (some ⟨g, 0, none⟩) (m + 1) cap) (m + 1) (xs ++ [a, b, c, d])) (hl : xs.length = m * 4) :
    w.cell? ⟨g, m * 4, none⟩ = some a ∧ w.cell? ⟨g, m * 4 + 1, none⟩ = some b ∧ w.cell? ⟨g, m * 4 + 2, none⟩ = some c ∧ w.cell? ⟨g, m * 4 + 3, none⟩ = some d := by
  refine ⟨?_, ?_, ?_, ?_⟩
  · rw [h.cellAt _ (by omega), List.getElem?_append_right (by omega), show m * 4 - xs.length = 0 by omega]; rfl
  · rw [h.cellAt _ (by omega), List.getElem?_append_right (by omega), show m * 4 + 1 - xs.length = 1 by omega]; rfl
  · rw [h.cellAt _ (by omega), List.getElem?_append_right (by omega), show m * 4 + 2 - xs.length = 2 by omega]; rfl
  · rw [h.cellAt _ (by omega), List.getElem?_append_right (by omega), show m * 4 + 3 - xs.length = 3 by omega]; rfl
theorem apart_g {I : Value} {g bv bx H : Nat} (hat : I.ownBlock = some g ∨ g = H + 1) (h1 : I.ownBlock ≠ some bv) (h2 : I.ownBlock ≠ some bx) (hb : bv < H) (hx : bx < H) : ¬ g = bv ∧ ¬ bv = g ∧ ¬ g = bx ∧ ¬ bx = g := by
  have k1 : ¬ g = bv := by
    intro e
    subst e
    rcases hat with h | h
    · exact h1 h
    · omega
  have k2 : ¬ g = bx := by
    intro e
    subst e
    rcases hat with h | h
    · exact h2 h
    · omega
  exact ⟨k1, fun e => k1 e.symm, k2, fun e => k2 e.symm⟩
/-- A value lies there. -/
def WkV (bv : Nat) (w : World) : Prop := ∃ (k : Int) (t : ByteArray) (x1 : Option Addr) (n1 c1 : Nat) (x2 : Option Addr) (n2 c2 : Nat), rowC w bv #[.int .i64 k, .string t, .slice x1 n1 c1, .slice x2 n2 c2] 27
/-- An item is put to a list's value: what holds behind the two stores, in either order. -/
def putJ (w2 w' : World) (bL br bv q lo : Nat) (acc : List JV) (I I' a b c d : Value) : Prop :=
  Chg (fun k => I.ownBlock = some k ∨ k = bv) w2 w' ∧ rowC w' br #[.pointer (some ⟨q, 0, none⟩)] 56 ∧ rowC w' bv #[.int .i64 5, .string ⟨#[]⟩, I', .slice none 0 0] 27 ∧
    ∀ v, HoldsC w2 (fun k => lo ≤ k ∧ k < w2.heap.size) v a b c d → RowJ w' bL I' (acc ++ [v]) (fun k => k = br ∨ k = bv)
theorem list1_put {w2 w4 : World} {bL br bv q lo m g cap : Nat} {acc : List JV} {I a b c d : Value} {xs : List Value} {F : Nat → Prop} (hne : br ≠ bv) (hlo : bL ≤ lo) (hbr : br < lo) (hbv : bv < lo)
    (hI : ItemsC w2 F acc xs) (hF : ∀ k, F k → bL ≤ k ∧ ¬ (k = br ∨ k = bv) ∧ I.ownBlock ≠ some k) (hm : m = acc.length) (hIo : ∀ k, I.ownBlock = some k → k < lo) (hIn : ∀ k, k = br ∨ k = bv → I.ownBlock ≠ some k)
    (hB : rowC w2 br #[.pointer (some ⟨q, 0, none⟩)] 56) (hR : rowC w2 bv #[.int .i64 5, .string ⟨#[]⟩, I, .slice none 0 0] 27)
    (hN : w4.ownsRow bL 27 4 (.slice (some ⟨g, 0, none⟩) (m + 1) cap) (m + 1) (xs ++ [.int .i64 0, .string ⟨#[]⟩, .slice none 0 0, .slice none 0 0]))
    (hc : Chg (fun k => I.ownBlock = some k) w2 w4) (hat : I.ownBlock = some g ∨ w2.heap.size ≤ g) :
    putJ w2 (((((w4.setCell ⟨g, m * 4, none⟩ a).setCell ⟨g, m * 4 + 1, none⟩ b).setCell ⟨g, m * 4 + 2, none⟩ c).setCell ⟨g, m * 4 + 3, none⟩ d).setCell ⟨bv, 2, none⟩ (.slice (some ⟨g, 0, none⟩) (m + 1) cap)) bL br bv q lo acc I (.slice (some ⟨g, 0, none⟩) (m + 1) cap) a b c d ∧
    putJ w2 (((((w4.setCell ⟨bv, 2, none⟩ (.slice (some ⟨g, 0, none⟩) (m + 1) cap)).setCell ⟨g, m * 4, none⟩ a).setCell ⟨g, m * 4 + 1, none⟩ b).setCell ⟨g, m * 4 + 2, none⟩ c).setCell ⟨g, m * 4 + 3, none⟩ d) bL br bv q lo acc I (.slice (some ⟨g, 0, none⟩) (m + 1) cap) a b c d := by
  have lbr := rowC_lt hB
  have lbv := rowC_lt hR
  have gn : ∀ k, k = br ∨ k = bv → ¬ k = g := by
    intro k hk e
    subst e
    rcases hat with hat | hat
    · exact hIn _ hk hat
    · rcases hk with rfl | rfl <;> omega
  have gbr : ¬ br = g := gn br (.inl rfl)
  have gbv : ¬ bv = g := gn bv (.inr rfl)
  have hg4 : I.ownBlock = some g ∨ w2.heap.size ≤ g := hat
  have b4 := hc.rowC hB (hIn br (.inl rfl))
  have r4 := hc.rowC hR (hIn bv (.inr rfl))
  have set4c : ∀ x : World, Chg (fun k => k = g) x ((((x.setCell ⟨g, m * 4, none⟩ a).setCell ⟨g, m * 4 + 1, none⟩ b).setCell ⟨g, m * 4 + 2, none⟩ c).setCell ⟨g, m * 4 + 3, none⟩ d) := fun x => ((((Chg.refl _ x).cellq _ _).cellq _ _).cellq _ _).cellq _ _
  have setb : ∀ (x : World) (v : Value), Chg (fun k => k = bv) x (x.setCell ⟨bv, 2, none⟩ v) := fun x v => (Chg.refl _ x).cellq _ _
  have own_lt : ∀ k, k = br ∨ k = bv → k < lo ∨ w2.heap.size ≤ k := by rintro k (rfl | rfl) <;> exact .inl (by assumption)
  refine ⟨⟨?_, ?_, ?_, fun v hv => ?_⟩, ⟨?_, ?_, ?_, fun v hv => ?_⟩⟩
  · exact ((hc.mono (t := fun k => I.ownBlock = some k ∨ k = bv) (fun k _ hk => .inl hk)).trans (set4c w4) (fun k hk e => by subst e; rcases hat with hat | hat; exact .inl hat; omega)).trans (setb _ _) (fun k _ hk => .inr hk)
  · exact (setb _ _).rowC ((set4c w4).rowC b4 gbr) hne
  · exact rowC_set ((set4c w4).rowC r4 gbv) 2 _
  · refine RowJ.chg (RowJ.put hI hF hm.symm hv hlo (Nat.le_refl _) own_lt hIo hN (hc.mono (fun k _ hk => .inl hk)) hat (fun hk => gn g hk rfl)) (setb _ _) (fun k hk => .inr (.inr hk))
  · exact ((hc.mono (t := fun k => I.ownBlock = some k ∨ k = bv) (fun k _ hk => .inl hk)).trans (setb w4 _) (fun k _ hk => .inr hk)).trans (set4c _) (fun k hk e => by subst e; rcases hat with hat | hat; exact .inl hat; omega)
  · exact (set4c _).rowC ((setb _ _).rowC b4 hne) gbr
  · exact (set4c _).rowC (rowC_set r4 2 _) gbv
  · refine RowJ.put hI hF hm.symm hv hlo (Nat.le_refl _) own_lt hIo ((setb w4 _).owns hN (fun k hk e => ?_)) ((hc.mono (t := fun k => I.ownBlock = some k ∨ (k = br ∨ k = bv) ∨ k < bL) (fun k _ hk => .inl hk)).trans (setb w4 _) (fun k _ hk => .inr (.inl (.inr hk)))) hat (fun hk => gn g hk rfl)
    simp only [Value.ownBlock, Option.some.injEq] at hk
    exact gbv (by rw [← e, hk])
/-- What the walk's end asks, once for all its ways. -/
theorem list1_fin {n lev bL br bv q : Nat} {S : Bs} (hlev : lev ≤ 16) (hqb : q < bL) (hbv : bv ≠ q) {acc : List JV} {r : Bs} {R : Res (List JV)} {w1 w2 w' : World} (hle1 : bL ≤ w1.heap.size) (h : RdAt w1 q S r lev) {Q : Res JV} (hv : valP n lev r = some Q)
    (hR : stepL (valP n lev) acc r = some R) {a b c d ev I I' : Value} (hG : gotV w1 q S r lev Q a b c d ev w2) (hC : Chg (· = q) w1 w2)
    (hI0 : ∀ k, I.ownBlock = some k → bL ≤ k) (hP : putJ w2 w' bL br bv q w1.heap.size acc I I' a b c d) (hf : ∃ x n c, I' = .slice x n c) :
    saysA w1 q S r lev (fun k => k = q ∨ k = bv ∨ bL ≤ k) (StL bL br bv q) (WkV bv) R (.returned ev) w' := by
  obtain ⟨hc, hbox, hrow, hj⟩ := hP
  have hq2 : ¬ (I.ownBlock = some q ∨ q = bv) := by
    rintro (e | e)
    · have := hI0 q e; omega
    · exact hbv e.symm
  have hcc : Chg (fun k => k = q ∨ k = bv ∨ bL ≤ k) w1 w' := (hC.mono (fun k _ hk => .inl hk)).trans hc (fun k _ hk => by
    rcases hk with e | e
    · exact .inr (.inr (hI0 k e))
    · exact .inr (.inl e))
  have hle := Nat.le_trans hle1 (Nat.le_trans hC.size hc.size)
  unfold stepL at hR
  rw [hv] at hR
  cases Q with
  | ok v x =>
    obtain ⟨rfl, hH, h2, _⟩ := hG
    have hlt := (val_ok n lev r v x hlev hv).2.2
    exact saysA_ok (Option.some.inj hR).symm (h2.chg hc hq2) ⟨hle, hbox, _, hrow, hj v hH⟩ hcc (suf_of h2.suf h.suf (by omega))
  | bad code x =>
    obtain ⟨rfl, ⟨y, l2, h2, hs⟩, _⟩ := hG
    exact saysA_bad (Option.some.inj hR).symm ⟨y, l2, h2.chg hc hq2, hs⟩ hcc (by obtain ⟨x, n, c, rfl⟩ := hf; exact ⟨_, _, _, _, _, _, _, _, hrow⟩)
set_option maxRecDepth 100000 in
set_option maxHeartbeats 8000000 in
theorem list1_any {n lev bL br bv q : Nat} (V : ValOk n) (hlev : lev ≤ 16) (S : Bs) (hS : okS S) (hq : 10 ≤ q) (hqb : q < bL) (hbr : br ≠ q) (hbv : bv ≠ q) (hne : br ≠ bv)
    (acc : List JV) (r : Bs) (R : Res (List JV)) (w1 : World) (hE : Env w1) (h : RdAt w1 q S r lev) (hst : StL bL br bv q acc w1) (hBd : acc.length + r.length ≤ 65536) (hR : stepL (valP n lev) acc r = some R) :
    Calls Tryz.prog 61 #[.pointer (some ⟨br, 0, none⟩), .pointer (some ⟨bv, 0, none⟩)] w1 fun e w2 => saysA w1 q S r lev (fun k => k = q ∨ k = bv ∨ bL ≤ k) (StL bL br bv q) (WkV bv) R e w2 := by
  cases hv : valP n lev r with
  | none => unfold stepL at hR; rw [hv] at hR; cases hR
  | some Q =>
    have C := V w1 q S r lev Q hS hE hq h hlev hv
    have b0 : w1.cell? ⟨br, 0, none⟩ = some (.pointer (some ⟨q, 0, none⟩)) := rowC_cell hst.box 0
    have FIN := Lib.hid (fun (w2 w' : World) (a b c d ev I I' : Value) => list1_fin (br := br) (w2 := w2) (w' := w') (a := a) (b := b) (c := c) (d := d) (ev := ev) (I := I) (I' := I') hlev hqb hbv hst.le h hv hR)
    have HLO := Lib.hid (rowC_lt hst.box)
    have HLb := Lib.hid hst.le
    have hbLw1 := hst.le
    obtain ⟨I, hr0, ⟨⟨xs, F, ho0, hI0, hF⟩, hIn⟩⟩ := hst.row
    have HLV := Lib.hid (rowC_lt hr0)
    have HIO := Lib.hid (fun k (hk : I.ownBlock = some k) => (ho0.lt k hk).2)
    have HR0 := Lib.hid hr0
    have HO0 := Lib.hid ho0
    have HI0 := Lib.hid hI0
    have HF := Lib.hid hF
    have HIN := Lib.hid hIn
    have HB0 := Lib.hid hst.box
    have hml : acc.length ≤ 65536 := by omega
    clear hR hv V hst h hE hBd hr0 ho0 hI0 hF hIn
    go_enter Tryz.func61, Tryz.ntmps61
    go_wp2_with (go_at_call 25; ((with_reducible refine C.mono ?_); rintro e w2 V; obtain ⟨k, t, x1, n1, c1, x2, n2, c2, ev, rfl, HG⟩ := saysV_all V; clear V))
    have hr := HG.out.1.rowC HR0.out hbv
    have ho := HG.out.1.owns HO0.out (fun g hg e => by have := (HO0.out.lt g hg).1; omega)
    have hI := ItemsC.chg HG.out.1 (fun k hk e => by have := (HF.out k hk).1; omega) acc xs HI0.out
    have hb := HG.out.1.rowC HB0.out hbr
    have hIn := HIN.out
    obtain ⟨m, hm⟩ : ∃ m, m = acc.length := ⟨_, rfl⟩
    have hxl := ItemsC.len acc xs hI
    rw [← hm] at ho hml hxl
    obtain ⟨ai, capi, rfl⟩ := owns_form ho
    have hbvl := rowC_lt hr
    have HXL := Lib.hid hxl
    have HI := Lib.hid hI
    have HM := Lib.hid hm
    have HB := Lib.hid hb
    have HR2 := Lib.hid hr
    have HOW := Lib.hid ho
    have Hs1 := Lib.hid (HG.out.1.size)
    have hbLw : bL ≤ w2.heap.size := Nat.le_trans hbLw1 Hs1.out
    obtain ⟨i0, hi0, hz0, hz1, hz2⟩ := info_parts info_V3
    obtain ⟨W, hW⟩ : ∃ W, W = w2.alloc (Obj.cells #[.int .i64 k, .string t, .slice x1 n1 c1, .slice x2 n2 c2] 27) := ⟨_, rfl⟩
    have hcv : W.cell? ⟨bv, 2, none⟩ = some (.slice ai m capi) := by rw [hW]; exact rowC_cell (rowC_alloc hr _) 2
    have hx0 : W.cell? ⟨w2.heap.size, 0, none⟩ = some (.int .i64 k) := by rw [hW]; exact rowC_cell (rowC_new w2 _ _) 0
    have hx1 : W.cell? ⟨w2.heap.size, 1, none⟩ = some (.string t) := by rw [hW]; exact rowC_cell (rowC_new w2 _ _) 1
    have hx2 : W.cell? ⟨w2.heap.size, 2, none⟩ = some (.slice x1 n1 c1) := by rw [hW]; exact rowC_cell (rowC_new w2 _ _) 2
    have hx3 : W.cell? ⟨w2.heap.size, 3, none⟩ = some (.slice x2 n2 c2) := by rw [hW]; exact rowC_cell (rowC_new w2 _ _) 3
    have hsz : W.heap.size = w2.heap.size + 1 := by rw [hW]; exact size_alloc _ _
    have hoW : W.ownsRow bL 27 4 (.slice ai m capi) m xs := by rw [hW]; exact ho.alloc _
    have hfv : W.frozen? ⟨bv, 2, none⟩ = false := by rw [hW]; exact rowC_free (rowC_alloc hr _) 2
    have HCW : Hid (Chg (fun _ => False) w2 W) := by rw [hW]; exact Lib.hid ((Chg.refl _ _).alloc _)
    rw [← hW]
    have hIbv := hIn bv (.inr rfl)
    have hIbx : (Value.slice ai m capi).ownBlock ≠ some w2.heap.size := fun e => by have := (ho.lt _ e).2; omega
    have hWs : w2.heap.size < W.heap.size := by omega
    have hbvW : bv < W.heap.size := by omega
    have hxbv : ¬ w2.heap.size = bv := by omega
    have hbvx : ¬ bv = w2.heap.size := by omega
    have m0 : (0 : Int) ≤ (m : Int) := by omega
    have m1 : (m : Int) < ((m + 1 : Nat) : Int) := by omega
    have m2 : (m : Int) < (m : Int) + 1 := by omega
    clear hW hm hI hIn hr hb ho b0 C hxl hsz
    go_region_law? (refine step_append_lies _ (by rfl) _ _ _ (by rfl) bL 27 i0 _ 4 72 Tryz.underlying24 hi0 hz0 hz1 hz2 rfl (by omega) (.slice ai m capi) m xs (by rfl) ((hoW.alloc _).drew) ⟨W.heap.size, 0, none⟩ 1 1 [.int .i64 0, .string ⟨#[]⟩, .slice none 0 0, .slice none 0 0] (by rfl) (by rfl) (World.news_of_block (cs := #[.int .i64 0, .string ⟨#[]⟩, .slice none 0 0, .slice none 0 0]) (t := 27) (fr := (0, 0)) (heap_alloc_new W _)) (by simp [Value.oneCell']) (by omega) (by unfold maxLen; omega) (by omega) (by simp; omega) (W.heap.size + 1) (by simp) ?_; intro g cap w4 hown hgrow hat hltg; obtain ⟨q0, q1, q2, q3⟩ := row_cells4 hown HXL.out; obtain ⟨z1, z2, z3, z4⟩ := apart_g hat hIbv hIbx hbvW hWs; have y0 := ((hgrow.cell_far ⟨w2.heap.size, 0, none⟩ (by simp; omega) (Ne.symm hIbx)).trans (World.cell?_alloc_old W _ ⟨w2.heap.size, 0, none⟩ (by show w2.heap.size ≠ _; omega))).trans hx0; have y1 := ((hgrow.cell_far ⟨w2.heap.size, 1, none⟩ (by simp; omega) (Ne.symm hIbx)).trans (World.cell?_alloc_old W _ ⟨w2.heap.size, 1, none⟩ (by show w2.heap.size ≠ _; omega))).trans hx1; have y2 := ((hgrow.cell_far ⟨w2.heap.size, 2, none⟩ (by simp; omega) (Ne.symm hIbx)).trans (World.cell?_alloc_old W _ ⟨w2.heap.size, 2, none⟩ (by show w2.heap.size ≠ _; omega))).trans hx2; have y3 := ((hgrow.cell_far ⟨w2.heap.size, 3, none⟩ (by simp; omega) (Ne.symm hIbx)).trans (World.cell?_alloc_old W _ ⟨w2.heap.size, 3, none⟩ (by show w2.heap.size ≠ _; omega))).trans hx3; have cbv := ((hgrow.cell_far ⟨bv, 2, none⟩ (by simp; omega) (Ne.symm hIbv)).trans (World.cell?_alloc_old W _ ⟨bv, 2, none⟩ (by show bv ≠ _; omega))).trans hcv; have pbv := ((hgrow.frozen_far ⟨bv, 2, none⟩ (by simp; omega) (Ne.symm hIbv)).trans (World.frozen?_alloc_old W _ ⟨bv, 2, none⟩ (by show bv ≠ _; omega))).trans hfv; have p0 := hown.frozenAt (m * 4); have p1 := hown.frozenAt (m * 4 + 1); have p2 := hown.frozenAt (m * 4 + 2); have p3 := hown.frozenAt (m * 4 + 3); have HN := Lib.hid hown; have HGR := Lib.hid hgrow; have HAT := Lib.hid hat; have HLT := Lib.hid hltg; clear hown hgrow hat hltg)
    all_goals (go_wp2; go_ret)
    all_goals (
      have hc4 : Chg (fun k => (Value.slice ai m capi).ownBlock = some k) w2 w4 := (((HCW.out.mono (fun k _ hk => hk.elim)).alloc _).drew).grown HGR.out (fun k hk => .inl hk)
      obtain ⟨PA, PB⟩ := list1_put (a := .int .i64 k) (b := .string t) (c := .slice x1 n1 c1) (d := .slice x2 n2 c2) (q := q) (lo := w1.heap.size) hne HLb.out HLO.out HLV.out HI.out HF.out HM.out HIO.out HIN.out HB.out HR2.out HN.out hc4 (by rcases HAT.out with e | e; exact .inl e; exact .inr (by omega))
      show saysA w1 q S r lev (fun k => k = q ∨ k = bv ∨ bL ≤ k) (StL bL br bv q) (WkV bv) R (.returned ev) _
      first
      | (with_reducible exact FIN.out w2 _ (.int .i64 k) (.string t) (.slice x1 n1 c1) (.slice x2 n2 c2) ev (.slice ai m capi) (.slice (some ⟨g, 0, none⟩) (m + 1) cap) HG.out.2 HG.out.1 (fun k hk => (HOW.out.lt k hk).1) PA ⟨_, _, _, rfl⟩)
      | (with_reducible exact FIN.out w2 _ (.int .i64 k) (.string t) (.slice x1 n1 c1) (.slice x2 n2 c2) ev (.slice ai m capi) (.slice (some ⟨g, 0, none⟩) (m + 1) cap) HG.out.2 HG.out.1 (fun k hk => (HOW.out.lt k hk).1) PB ⟨_, _, _, rfl⟩))
end Go.Proofs.YtafmokpplnmbgaaGreatDoor

/- Layer 11: a list. -/
namespace Go.Proofs.YtafmokpplnmbgaaGreatDoor
open Go.RowKit

theorem enter_list1 (args : Array Value) (w : World) : (callFunc 61 args).run Tryz.prog w = .ok (.enter 61 args) w := by kernel_rfl
theorem part_list {n lev bL br bv q : Nat} (V : ValOk n) (hlev : lev + 1 ≤ 16) (S : Bs) (hS : okS S) (hq : 10 ≤ q) (hqb : q < bL) (hbr : br ≠ q) (hbv : bv ≠ q) (hb10 : 10 ≤ bv) (hne : br ≠ bv) :
    Part q S (lev + 1) (fun k => k = q ∨ k = bv ∨ bL ≤ k) (StL bL br bv q) (WkV bv) (fun acc r => acc.length + r.length ≤ 65536) 61 #[.pointer (some ⟨br, 0, none⟩), .pointer (some ⟨bv, 0, none⟩)] (stepL (valP n (lev + 1))) where
  enter := enter_list1
  weak := fun a w h => by
    obtain ⟨I, hr, ⟨⟨xs, F, ho, _, _⟩, _⟩⟩ := h.row
    obtain ⟨x, c, rfl⟩ := owns_form ho
    exact ⟨_, _, _, _, _, _, _, _, hr⟩
  kept := fun a w1 w2 h hc => h.kept hc hqb hbr hbv
  own := .inl rfl
  env := fun k hk => by omega
  sub := fun a r x hs hB => by have := hs.length_le; omega
  go := fun a r a' x hB hs => by
    unfold stepL at hs
    cases hv : valP n (lev + 1) r with
    | none => rw [hv] at hs; cases hs
    | some Q =>
      rw [hv] at hs
      cases Q with
      | bad code y => cases hs
      | ok v y =>
        have hlt := (val_ok n (lev + 1) r v y hlev hv).2.2
        cases hs
        rw [List.length_append, List.length_singleton]
        omega
  call := fun a r R w1 hE h hst hB hs => list1_any V hlev S hS hq hqb hbr hbv hne a r R w1 hE h hst hB hs
/-- What a bracket's reading says, ready for the end of the walk: bv: the value gathered; res: the result's cell. -/
def boxed (w : World) (bv res q : Nat) (S l : Bs) (lev : Nat) (R : Res JV) (e : Ending) (w3 : World) : Prop :=
  ∃ (k : Int) (t : ByteArray) (x1 : Option Addr) (n1 c1 : Nat) (x2 : Option Addr) (n2 c2 : Nat) (ev : Value), e = .returned ev ∧ Hid (rowC w3 bv (row4 k t x1 n1 c1 x2 n2 c2) 27 ∧ rowC w3 res zeroV4 27 ∧
    ∀ w', Chg (· = res) w3 w' → saysV w q S l lev R (.returned (.tuple #[.agg (row4 k t x1 n1 c1 x2 n2 c2), ev])) w')
theorem list_parts {n lev q bL br bv res : Nat} {w w1 : World} {S l : Bs} {R : Res JV} (V : ValOk n) (hS : okS S) (hE : Env w1) (hq : 10 ≤ q) (hqw : q < w.heap.size) (h : RdAt w1 q S l lev) (hlev : lev ≤ 16) (hne : l ≠ [])
    (hC : Chg (· = q) w w1) (hbr : w.heap.size ≤ br) (hbv : w.heap.size ≤ bv) (hres : w.heap.size ≤ res) (hn1 : br ≠ bv) (hn3 : res ≠ bv) (hbL : w1.heap.size = bL)
    (hB : rowC w1 br #[.pointer (some ⟨q, 0, none⟩)] 56) (hV : rowC w1 bv #[.int .i64 5, .string ⟨#[]⟩, .slice none 0 0, .slice none 0 0] 27) (hZ : rowC w1 res zeroV4 27)
    (hR : (if lev = 16 then some (.bad 11 l) else (partsP 93 (stepL (valP n (lev + 1))) n true [] l.tail).map (Res.map mkL)) = some R) :
    Calls Tryz.prog 60 #[.pointer (some ⟨q, 0, none⟩), .int .u8 93, .func (.func 61) #[] #[.pointer (some ⟨br, 0, none⟩), .pointer (some ⟨bv, 0, none⟩)]] w1 fun e w3 => boxed w bv res q S l lev R e w3 := by
  have lres := rowC_lt hZ
  have hqw1 := Nat.lt_of_lt_of_le hqw hC.size
  by_cases h16 : lev = 16
  · rw [if_pos h16, Option.some.injEq] at hR
    subst h16
    refine (parts_deep h).mono ?_
    rintro e w2 ⟨rfl, rfl⟩
    refine ⟨5, ⟨#[]⟩, none, 0, 0, none, 0, 0, _, rfl, Lib.hid ⟨hV, hZ, fun w' hc => ?_⟩⟩
    exact saysV_bad hR.symm ⟨_, _, _, _, _, _, _, _, rfl⟩ ⟨⟨l, 16, h.chg hc (by omega), List.suffix_refl _⟩, hC.trans hc (fun k hk e => by omega)⟩
  · rw [if_neg h16] at hR
    cases hp : partsP 93 (stepL (valP n (lev + 1))) n true [] l.tail with
    | none => rw [hp] at hR; cases hR
    | some Q =>
      rw [hp] at hR
      have hR' : R = Res.map mkL Q := (Option.some.inj hR).symm
      have hl := h.suf.length_le
      have hSS := hS
      unfold okS at hSS
      have P := part_list (lev := lev) (br := br) (bv := bv) (bL := bL) (q := q) V (by omega) S hS hq (by omega) (by omega) (by omega) (by omega) hn1
      refine (parts_any hS hE hq h (by omega) hne (.inl rfl) 93 rfl P ⟨by omega, hB, _, hV, RowJ.nil _ _ _⟩ (show [].length + l.tail.length ≤ 65536 by rw [List.length_tail]; simp; omega) hp).mono ?_
      intro e w3 hA
      cases Q with
      | bad code x =>
        obtain ⟨rfl, ⟨y, l2, h2, hs⟩, hc, ⟨k, t, x1, n1, c1, x2, n2, c2, hrow⟩⟩ := hA
        refine ⟨k, t, x1, n1, c1, x2, n2, c2, _, rfl, Lib.hid ⟨hrow, hc.rowC hZ (by omega), fun w' hc' => ?_⟩⟩
        exact saysV_bad hR' ⟨_, _, _, _, _, _, _, _, rfl⟩ ⟨⟨y, l2, h2.chg hc' (by omega), hs⟩, (hC.trans hc (fun k hk e => by omega)).trans hc' (fun k hk e => by omega)⟩
      | ok acc x =>
        obtain ⟨rfl, h2, hst, hc, hs⟩ := hA
        obtain ⟨I, hr, hj⟩ := hst.row
        obtain ⟨ai, ci, rfl⟩ := owns_form hj.ex.choose_spec.choose_spec.1
        refine ⟨5, ⟨#[]⟩, ai, acc.length, ci, none, 0, 0, _, rfl, Lib.hid ⟨hr, hc.rowC hZ (by omega), fun w' hc' => ?_⟩⟩
        have hj' := (hj.chg hc' (fun k hk => .inl (by omega))).holds
        refine saysV_ok hR' ⟨_, _, _, _, rfl, ?_⟩ ⟨h2.chg hc' (by omega), (hC.trans hc (fun k hk e => by omega)).trans hc' (fun k hk e => by omega)⟩
        unfold mkL
        rw [HoldsC]
        refine ⟨rfl, rfl, by simp, .inl ⟨rfl, rfl⟩, ?_⟩
        rcases hj' with ⟨h5, h6⟩ | ⟨ad, cap, h5, h6⟩
        · exact .inl ⟨h5, h6⟩
        · exact .inr ⟨ad, cap, h5, HoldsR.mono (fun k hk hlt => ⟨by have := hC.size; omega, hlt⟩) _ _ _ h6⟩
set_option maxRecDepth 100000 in
set_option maxHeartbeats 4000000 in
theorem list_any {n lev q : Nat} {w : World} {S l : Bs} {R : Res JV} (V : ValOk n) (hS : okS S) (hE : Env w) (hq : 10 ≤ q) (h : RdAt w q S l lev) (hlev : lev ≤ 16) (hne : l ≠ [])
    (hR : (if lev = 16 then some (.bad 11 l) else (partsP 93 (stepL (valP n (lev + 1))) n true [] l.tail).map (Res.map mkL)) = some R) :
    Calls Tryz.prog 44 #[.pointer (some ⟨q, 0, none⟩)] w fun e w' => saysV w q S l lev R e w' := by
  have hqw := h.lt
  obtain ⟨W0, hW0⟩ : ∃ W0, W0 = ((w.alloc (.cells #[.pointer (some ⟨q, 0, none⟩)] 56)).alloc (.cells #[.int .i64 0, .string ⟨#[]⟩, .slice none 0 0, .slice none 0 0] 27)).alloc (.cells #[.int .i64 5, .string ⟨#[]⟩, .slice none 0 0, .slice none 0 0] 27) := ⟨_, rfl⟩
  have hs0 : W0.heap.size = w.heap.size + 1 + 1 + 1 := by rw [hW0]; simp
  have A0 : Chg (· = q) w W0 := by rw [hW0]; exact (((Chg.refl _ w).alloc _).alloc _).alloc _
  have B0 : rowC W0 w.heap.size #[.pointer (some ⟨q, 0, none⟩)] 56 := by rw [hW0]; exact rowC_alloc (rowC_alloc (rowC_new w _ _) _) _
  have R0 : rowC W0 (w.heap.size + 1) zeroV4 27 := by
    rw [hW0, ← size_alloc w (.cells #[.pointer (some ⟨q, 0, none⟩)] 56)]
    exact rowC_alloc (rowC_new _ _ _) _
  have V0 : rowC W0 (w.heap.size + 1 + 1) #[.int .i64 5, .string ⟨#[]⟩, .slice none 0 0, .slice none 0 0] 27 := by
    rw [hW0, ← size_alloc w (.cells #[.pointer (some ⟨q, 0, none⟩)] 56), ← size_alloc (w.alloc _) (.cells #[.int .i64 0, .string ⟨#[]⟩, .slice none 0 0, .slice none 0 0] 27)]
    exact rowC_new _ _ _
  have E0 : Env W0 := hE.q A0 hq
  have H0 : RdAt W0 q S l lev := h.chg (s := fun _ => False) (by rw [hW0]; exact (((Chg.refl _ w).alloc _).alloc _).alloc _) (fun e => e)
  have C := list_parts (bL := W0.heap.size) V hS E0 hq hqw H0 hlev hne A0 (br := w.heap.size) (bv := w.heap.size + 1 + 1) (res := w.heap.size + 1) (Nat.le_refl _) (by omega) (by omega) (by omega) (by omega) rfl B0 V0 R0 hR
  have HW0 := Lib.hid hW0
  have HI := Lib.hid info_V
  have c0 := rowC_cell B0 0
  clear hR hW0 A0 B0 R0 V0 E0 H0 hs0 h hE
  go_enter Tryz.func44, Tryz.ntmps44
  go_upto_region 2 with (fail)
  rw [← HW0.out]
  go_wp2_with (first
    | (go_at_call 60; ((with_reducible refine C.mono ?_); rintro e w3 ⟨k, t, x1, n1, c1, x2, n2, c2, ev, rfl, HB⟩))
    | ((with_reducible show wpList _ _ _ (⟨some 10, .load _ (.tmp 4), _, _, _, _⟩ :: _) _ _); refine wpList_load_row rfl 27 _ rfl (w.heap.size + 1 + 1) rfl 27 (row4 k t x1 n1 c1 x2 n2 c2) (0, 0) _ HB.out.1 Tryz.underlying27 rfl HI.out ?_)
    | ((with_reducible show wpList _ _ _ (⟨none, .store _ (.tmp 2) _, _, _, _, _⟩ :: _) _ _); refine wpList_store_row rfl 27 _ _ rfl (w.heap.size + 1) (row4 k t x1 n1 c1 x2 n2 c2) rfl rfl 27 zeroV4 HB.out.2.1 HI.out rfl (row4_all _ _ _ _ _ _ _ _) ?_))
  refine bodyPost_ret (results_row_tmp rfl _ _ (w.heap.size + 1) 27 (row4 k t x1 n1 c1 x2 n2 c2) _ rfl (rowC_setRow HB.out.2.1 _) Tryz.underlying27 rfl HI.out ev rfl) rfl ?_
  exact HB.out.2.2 _ ((Chg.refl _ _).setRow _ _ (.inl rfl))
end Go.Proofs.YtafmokpplnmbgaaGreatDoor

/- Layer 11: what an object has gathered. -/
namespace Go.Proofs.YtafmokpplnmbgaaGreatDoor
open Go.RowKit

theorem info_S1 : (Tryz.prog.info? 9).map (fun i => (i.zero, i.size, i.bytes)) = some (some (.string ⟨#[]⟩), 1, 16) := by kernel_rfl
def keysV (l : List Bs) : List Value := l.map fun t => .string (str t)
structure StO (bL br bm bv q mp : Nat) (acc : List (Bs × JV)) (w : World) : Prop where
  le : bL ≤ w.heap.size
  box : rowC w br #[.pointer (some ⟨q, 0, none⟩)] 56
  map : rowC w bm #[.map (some mp)] 124
  set : SetM w mp (acc.map (·.1))
  row : ∃ I K, rowC w bv #[.int .i64 6, .string ⟨#[]⟩, I, K] 27 ∧ w.ownsRow bL 9 1 K acc.length (keysV (acc.map (·.1))) ∧ RowJ w bL I (acc.map (·.2)) (fun k => K.ownBlock = some k)
theorem StO.kept {bL br bm bv q mp : Nat} (o1 : q < br) (o2 : br < bv) (o3 : bv < mp) (o4 : mp < bm) (o5 : bm < bL) {acc : List (Bs × JV)} {w w' : World} (h : StO bL br bm bv q mp acc w) (hc : Chg (· = q) w w') : StO bL br bm bv q mp acc w' := by
  obtain ⟨I, K, hr, hk, hj⟩ := h.row
  exact ⟨Nat.le_trans h.le hc.size, hc.rowC h.box (by omega), hc.rowC h.map (by omega), h.set.chg hc (by omega), I, K, hc.rowC hr (by omega), hc.owns hk (fun g hg e => by have := (hk.lt g hg).1; omega), hj.chg hc (fun k hk => .inl (by omega))⟩
/-- An item is put to a value: what holds behind the two stores, in either order. -/
def putI (w2 w' : World) (bL bv lo hi : Nat) (own : Nat → Prop) (k0 : Int) (acc : List JV) (I I' D a b c d : Value) : Prop :=
  Chg (fun k => I.ownBlock = some k ∨ k = bv) w2 w' ∧ rowC w' bv #[.int .i64 k0, .string ⟨#[]⟩, I', D] 27 ∧
    ∀ v, HoldsC w2 (fun k => lo ≤ k ∧ k < hi) v a b c d → RowJ w' bL I' (acc ++ [v]) own
theorem item_put {w2 w4 : World} {bL bv lo hi m g cap : Nat} {k0 : Int} {acc : List JV} {I a b c d D : Value} {xs : List Value} {F own : Nat → Prop} (hbL : bv < bL) (hlo : bL ≤ lo) (hhi : hi ≤ w2.heap.size)
    (hI : ItemsC w2 F acc xs) (hF : ∀ k, F k → bL ≤ k ∧ ¬ own k ∧ I.ownBlock ≠ some k) (hm : m = acc.length) (hIo : ∀ k, I.ownBlock = some k → bL ≤ k ∧ k < lo) (hIn : ∀ k, own k → I.ownBlock ≠ some k)
    (how : ∀ k, own k → k < lo ∨ hi ≤ k) (howl : ∀ k, own k → k < w2.heap.size) (hR : rowC w2 bv #[.int .i64 k0, .string ⟨#[]⟩, I, D] 27)
    (hN : w4.ownsRow bL 27 4 (.slice (some ⟨g, 0, none⟩) (m + 1) cap) (m + 1) (xs ++ [.int .i64 0, .string ⟨#[]⟩, .slice none 0 0, .slice none 0 0]))
    (hc : Chg (fun k => I.ownBlock = some k) w2 w4) (hat : I.ownBlock = some g ∨ w2.heap.size ≤ g) :
    putI w2 (((((w4.setCell ⟨g, m * 4, none⟩ a).setCell ⟨g, m * 4 + 1, none⟩ b).setCell ⟨g, m * 4 + 2, none⟩ c).setCell ⟨g, m * 4 + 3, none⟩ d).setCell ⟨bv, 2, none⟩ (.slice (some ⟨g, 0, none⟩) (m + 1) cap)) bL bv lo hi own k0 acc I (.slice (some ⟨g, 0, none⟩) (m + 1) cap) D a b c d ∧
    putI w2 (((((w4.setCell ⟨bv, 2, none⟩ (.slice (some ⟨g, 0, none⟩) (m + 1) cap)).setCell ⟨g, m * 4, none⟩ a).setCell ⟨g, m * 4 + 1, none⟩ b).setCell ⟨g, m * 4 + 2, none⟩ c).setCell ⟨g, m * 4 + 3, none⟩ d) bL bv lo hi own k0 acc I (.slice (some ⟨g, 0, none⟩) (m + 1) cap) D a b c d := by
  have lbv := rowC_lt hR
  have gbv : ¬ bv = g := by
    intro e
    subst e
    rcases hat with hat | hat
    · have := (hIo _ hat).1; omega
    · omega
  have gn : ¬ own g := by
    intro hk
    rcases hat with hat | hat
    · exact hIn _ hk hat
    · have := howl _ hk; omega
  have hIbv : ¬ I.ownBlock = some bv := fun e => by have := (hIo _ e).1; omega
  have r4 := hc.rowC hR hIbv
  have set4c : ∀ x : World, Chg (fun k => k = g) x ((((x.setCell ⟨g, m * 4, none⟩ a).setCell ⟨g, m * 4 + 1, none⟩ b).setCell ⟨g, m * 4 + 2, none⟩ c).setCell ⟨g, m * 4 + 3, none⟩ d) := fun x => ((((Chg.refl _ x).cellq _ _).cellq _ _).cellq _ _).cellq _ _
  have setb : ∀ (x : World) (v : Value), Chg (fun k => k = bv) x (x.setCell ⟨bv, 2, none⟩ v) := fun x v => (Chg.refl _ x).cellq _ _
  refine ⟨⟨?_, ?_, fun v hv => ?_⟩, ⟨?_, ?_, fun v hv => ?_⟩⟩
  · exact ((hc.mono (t := fun k => I.ownBlock = some k ∨ k = bv) (fun k _ hk => .inl hk)).trans (set4c w4) (fun k hk e => by subst e; rcases hat with hat | hat; exact .inl hat; omega)).trans (setb _ _) (fun k _ hk => .inr hk)
  · exact rowC_set ((set4c w4).rowC r4 gbv) 2 _
  · refine RowJ.chg (RowJ.put hI hF hm.symm hv hlo hhi how (fun k hk => (hIo k hk).2) hN (hc.mono (fun k _ hk => .inl hk)) hat gn) (setb _ _) (fun k hk => .inl (by omega))
  · exact ((hc.mono (t := fun k => I.ownBlock = some k ∨ k = bv) (fun k _ hk => .inl hk)).trans (setb w4 _) (fun k _ hk => .inr hk)).trans (set4c _) (fun k hk e => by subst e; rcases hat with hat | hat; exact .inl hat; omega)
  · exact (set4c _).rowC (rowC_set r4 2 _) gbv
  · refine RowJ.put hI hF hm.symm hv hlo hhi how (fun k hk => (hIo k hk).2) ((setb w4 _).owns hN (fun k hk e => ?_)) ((hc.mono (t := fun k => I.ownBlock = some k ∨ own k ∨ k < bL) (fun k _ hk => .inl hk)).trans (setb w4 _) (fun k _ hk => .inr (.inr (by omega)))) hat gn
    simp only [Value.ownBlock, Option.some.injEq] at hk
    exact gbv (by rw [← e, hk])
/-- What the walk's end asks, once for all its ways. -/
theorem obj1_fin {n lev bL br bm bv q mp : Nat} {S : Bs} (hlev : lev ≤ 16) (o1 : q < br) (o2 : br < bv) (o3 : bv < mp) (o4 : mp < bm) (o5 : bm < bL) {acc : List (Bs × JV)} {r x t : Bs} {R : Res (List (Bs × JV))} {w1 w2 w3 w5 w' : World} {Q : Res JV} {a b c d ev I I' K K' : Value}
    (h : RdAt w1 q S r lev) (hst : StO bL br bm bv q mp acc w1) (hk : keyP n (acc.map (·.1)) r = some (.ok t x)) (hx : x <:+ r) (hv : valP n lev x = some Q) (hR : stepO n (valP n lev) acc r = some R)
    (hC2 : Chg (fun k => k = q ∨ k = mp) w1 w2) (hset : SetM w2 mp (acc.map (·.1) ++ [t])) (hG : gotV w2 q S x lev Q a b c d ev w3) (hC3 : Chg (· = q) w2 w3)
    (hc5 : Chg (fun k => K.ownBlock = some k ∨ k = bv) w3 w5) (hKb : ∀ k, K.ownBlock = some k → bL ≤ k) (hIb : ∀ k, I.ownBlock = some k → bL ≤ k)
    (hP : putI w5 w' bL bv w2.heap.size w3.heap.size (fun k => K'.ownBlock = some k) 6 (acc.map (·.2)) I I' K' a b c d) (hK5 : w5.ownsRow bL 9 1 K' (acc.length + 1) (keysV (acc.map (·.1)) ++ [.string (str t)]))
    (hIK : ∀ k, K'.ownBlock = some k → I.ownBlock ≠ some k) (hH : ∀ v, HoldsC w3 (fun k => w2.heap.size ≤ k ∧ k < w3.heap.size) v a b c d → HoldsC w5 (fun k => w2.heap.size ≤ k ∧ k < w3.heap.size) v a b c d)
    (hf : ∃ x n c, I' = .slice x n c) (hf2 : ∃ x n c, K' = .slice x n c) :
    saysA w1 q S r lev (fun k => k = q ∨ k = mp ∨ k = bv ∨ bL ≤ k) (StO bL br bm bv q mp) (WkV bv) R (.returned ev) w' := by
  obtain ⟨hc6, hrow, hj⟩ := hP
  have hle : bL ≤ w'.heap.size := by
    have := hst.le; have := hC2.size; have := hC3.size; have := hc5.size; have := hc6.size; omega
  have n5 : ∀ k, k < bL → k ≠ bv → ¬ (K.ownBlock = some k ∨ k = bv) := by
    rintro k hk hn (e | e)
    · have := hKb k e; omega
    · exact hn e
  have n6 : ∀ k, k < bL → k ≠ bv → ¬ (I.ownBlock = some k ∨ k = bv) := by
    rintro k hk hn (e | e)
    · have := hIb k e; omega
    · exact hn e
  have hcc : Chg (fun k => k = q ∨ k = mp ∨ k = bv ∨ bL ≤ k) w1 w' := by
    refine (((hC2.mono (fun k _ hk => ?_)).trans hC3 (fun k _ hk => .inl hk)).trans hc5 (fun k _ hk => ?_)).trans hc6 (fun k _ hk => ?_)
    · rcases hk with e | e
      · exact .inl e
      · exact .inr (.inl e)
    · rcases hk with e | e
      · exact .inr (.inr (.inr (hKb k e)))
      · exact .inr (.inr (.inl e))
    · rcases hk with e | e
      · exact .inr (.inr (.inr (hIb k e)))
      · exact .inr (.inr (.inl e))
  unfold stepO at hR
  rw [hk] at hR
  simp only [hv] at hR
  cases Q with
  | ok v y =>
    obtain ⟨rfl, hHv, h2, _⟩ := hG
    have hlt := (val_ok n lev x v y hlev hv).2.2
    refine saysA_ok (Option.some.inj hR).symm ((h2.chg hc5 (n5 q (by omega) (by omega))).chg hc6 (n6 q (by omega) (by omega))) ⟨hle, ?_, ?_, ?_, I', K', hrow, ?_, ?_⟩ hcc ((suf_of h2.suf (hx.trans h.suf) (by omega)).trans hx)
    · exact hc6.rowC (hc5.rowC (hC3.rowC (hC2.rowC hst.box (by omega)) (by omega)) (n5 br (by omega) (by omega))) (n6 br (by omega) (by omega))
    · exact hc6.rowC (hc5.rowC (hC3.rowC (hC2.rowC hst.map (by omega)) (by omega)) (n5 bm (by omega) (by omega))) (n6 bm (by omega) (by omega))
    · rw [List.map_append]
      exact ((hset.chg hC3 (by omega)).chg hc5 (n5 mp (by omega) (by omega))).chg hc6 (n6 mp (by omega) (by omega))
    · rw [List.length_append, List.map_append]
      unfold keysV at hK5 ⊢
      rw [List.map_append]
      refine hc6.owns hK5 (fun g hg e => ?_)
      rcases e with e | e
      · exact hIK g hg e
      · have := (hK5.lt g hg).1; omega
    · rw [List.map_append]
      exact hj v (hH v hHv)
  | bad code y =>
    obtain ⟨rfl, ⟨z, l2, h2, hs⟩, _⟩ := hG
    obtain ⟨xi, ni, ci, rfl⟩ := hf
    obtain ⟨xk, nk, ck, rfl⟩ := hf2
    exact saysA_bad (Option.some.inj hR).symm ⟨z, l2, (h2.chg hc5 (n5 q (by omega) (by omega))).chg hc6 (n6 q (by omega) (by omega)), hs.trans hx⟩ hcc ⟨_, _, _, _, _, _, _, _, hrow⟩
end Go.Proofs.YtafmokpplnmbgaaGreatDoor

