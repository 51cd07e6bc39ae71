/- Merged: JuL, JuM, JtW. -/
import Derived.Test.YtnkencdibniagaaGreatDoorM27
import Derived.Test.YtnkencdibniagaaGreatDoorM19
import Derived.Test.YtnkencdibniagaaGreatDoorShelf
/- Layer 11: how deep a value is. -/
namespace Go.Proofs.YtnkencdibniagaaGreatDoor
open Go.RowKit

/-- What depth answers. -/
def depD : Option Nat → Int
  | some d => d
  | none => 0
def depO : Option Nat → Bool
  | some _ => true
  | none => false
theorem maxO_le {l : List (Option Nat)} {n m k : Nat} (h : maxO n l = some m) (hn : n ≤ k) (hl : ∀ x ∈ l, ∀ d, x = some d → d ≤ k) : m ≤ k := by
  induction l generalizing n with
  | nil => rw [maxO, Option.some.injEq] at h; omega
  | cons x l ih =>
    cases x with
    | none => cases h
    | some d =>
      rw [maxO] at h
      have := hl (some d) (by simp) d rfl
      exact ih h (by omega) (fun y hy => hl y (by simp [hy]))
theorem depthF_le : ∀ (n : Nat) (v : JV) (m : Nat), depthF n v = some m → m ≤ n
  | 0, v, m, h => by
    rw [depthF] at h
    split at h
    · rw [Option.some.injEq] at h; omega
    · cases h
  | n + 1, v, m, h => by
    rw [depthF] at h
    split at h
    · cases hx : maxO 0 (v.items.map (depthF n)) with
      | none => rw [hx] at h; cases h
      | some d =>
        rw [hx, Option.map_some, Option.some.injEq] at h
        have := maxO_le hx (Nat.zero_le n) (fun x hx d hd => by
          obtain ⟨y, _, rfl⟩ := List.mem_map.1 hx
          exact depthF_le n y d hd)
        unfold up at h
        split at h <;> omega
    · cases h
/-- What is asked of 'depth' at one value. -/
def DpOk (v : JV) : Prop := ∀ (n : Nat) (w : World) (x : Int) (a b c d : Value), n ≤ 65536 → x = (n : Int) → Env w → HoldsC w (fun k => k < w.heap.size) v a b c d →
  Calls Tryz.prog 69 #[.agg #[a, b, c, d], .int .i64 x] w fun e w' => e = .returned (.tuple #[.int .i64 (depD (depthF n v)), .bool (depO (depthF n v))]) ∧ Below w.heap.size w w'
theorem HoldsC.on {w w' : World} {v : JV} {a b c d : Value} (h : HoldsC w (fun k => k < w.heap.size) v a b c d) (hb : Below w.heap.size w w') : HoldsC w' (fun k => k < w'.heap.size) v a b c d :=
  HoldsC.mono (fun _ _ hlt => hlt) _ _ _ _ _ (HoldsC.chg (s := fun _ => False) (Chg.of_below hb) (fun _ _ => id) _ _ _ _ _ h)
set_option maxRecDepth 100000 in
set_option maxHeartbeats 8000000 in
theorem depth_any : ∀ (s : Nat) (v : JV), SizeOf.sizeOf v ≤ s → okJ v → DpOk v := by
  intro s
  induction s with
  | zero =>
    intro v hs
    obtain ⟨k, t, items, keys⟩ := v
    simp at hs
  | succ s ih =>
    intro v hs ho n w x a b c d hn hx hE hH
    obtain ⟨k, t, items, keys⟩ := v
    have IH : ∀ y ∈ items, DpOk y := fun y hy => by
      have := List.sizeOf_lt_of_mem hy
      simp at hs
      rw [okJ] at ho
      exact ih y (by omega) (okJL_mem ho.2.2 y hy)
    unfold DpOk at IH
    rw [okJ] at ho
    have hH0 := hH
    obtain ⟨rfl, rfl, ht, ⟨x1, c1, rfl, hI⟩, ⟨x2, c2, rfl, hK⟩⟩ := hH.opens
    obtain ⟨W0, hW0⟩ : ∃ W0, W0 = w.alloc (.cells #[.int .i64 k, .string (str t), .slice x1 items.length c1, .slice x2 keys.length c2] 63) := ⟨_, rfl⟩
    have R0 : rowC W0 w.heap.size #[.int .i64 k, .string (str t), .slice x1 items.length c1, .slice x2 keys.length c2] 63 := by rw [hW0]; exact rowC_new w _ _
    have B0 : Below w.heap.size w W0 := by rw [hW0]; exact (Below.refl _ _).alloc (Nat.le_refl _) _
    have s0 : W0.heap.size = w.heap.size + 1 := by rw [hW0]; exact size_alloc _ _
    have E0 : Env W0 := hE.below B0
    have CM := mayBe_any E0 (fun j hj => hj) ho.2.1.2.1 ho.2.1.2.2 (hH0.on B0)
    have hal : alone (.mk k t items keys) = aloneK k t items.length keys := rfl
    have HIF := Lib.hid info_V
    have HW0 := Lib.hid hW0
    have HB0 := Lib.hid B0
    have HR0 := Lib.hid R0
    have HE := Lib.hid hE
    have HII := Lib.hid hI
    have HIH := Lib.hid IH
    have Hs0 := Lib.hid s0
    have HLN := Lib.hid ho.2.1.1
    clear hW0 B0 E0 hE hI hK hH hH0 ih ho s0 IH ht hs
    cases ha : aloneK k t items.length keys with
    | false =>
      rw [ha] at CM
      have HD : Hid (depthF n (.mk k t items keys) = none) := Lib.hid (by
        cases n with
        | zero => rw [depthF, hal, ha]; rfl
        | succ n => rw [depthF, hal, ha]; rfl)
      clear hx hn
      go_enter Tryz.func69, Tryz.ntmps69
      go_upto_region 1 with (fail)
      rw [← HW0.out]
      go_wp2_with (first
        | ((with_reducible show wpList _ _ _ (⟨some 10, .load _ (.tmp 2), _, _, _, _⟩ :: _) _ _); refine wpList_load_row rfl 63 _ rfl w.heap.size rfl 63 #[.int .i64 k, .string (str t), .slice x1 items.length c1, .slice x2 keys.length c2] (0, 0) _ HR0.out Tryz.underlying63 rfl HIF.out ?_)
        | (go_at_call 105; ((with_reducible refine CM.mono ?_); rintro e w2 ⟨rfl, hb2⟩)))
      go_ret2
      rw [HD.out]
      exact ⟨rfl, HB0.out.trans (hb2.mono HB0.out.size)⟩
    | true =>
      rw [ha] at CM
      cases n with
      | zero =>
        have HD : Hid (depthF 0 (.mk k t items keys) = some 0) := Lib.hid (by rw [depthF, hal, ha]; rfl)
        obtain rfl : x = 0 := hx
        clear hn
        go_enter Tryz.func69, Tryz.ntmps69
        go_upto_region 1 with (fail)
        rw [← HW0.out]
        go_wp2_with (first
          | ((with_reducible show wpList _ _ _ (⟨some 10, .load _ (.tmp 2), _, _, _, _⟩ :: _) _ _); refine wpList_load_row rfl 63 _ rfl w.heap.size rfl 63 #[.int .i64 k, .string (str t), .slice x1 items.length c1, .slice x2 keys.length c2] (0, 0) _ HR0.out Tryz.underlying63 rfl HIF.out ?_)
          | (go_at_call 105; ((with_reducible refine CM.mono ?_); rintro e w2 ⟨rfl, hb2⟩)))
        go_ret2
        rw [HD.out]
        exact ⟨rfl, HB0.out.trans (hb2.mono HB0.out.size)⟩
      | succ n =>
        have HD : Hid (depthF (n + 1) (.mk k t items keys) = (maxO 0 (items.map (depthF n))).map (up (.mk k t items keys))) := Lib.hid (by rw [depthF, hal, ha]; rfl)
        have HUP : Hid (∀ m, up (.mk k t items keys) m = if k = 5 ∨ k = 6 then m + 1 else m) := Lib.hid fun m => rfl
        have hx0 : (x == 0) = false := by rw [beq_eq_false_iff_ne]; omega
        have hx1 : x ≤ 65536 := by omega
        have hx2 : 0 < x := by omega
        have HX1 : Hid (x - 1 = (n : Int)) := Lib.hid (by omega)
        have HNN : Hid (n ≤ 65536) := Lib.hid (by omega)
        clear hx hn hal ha
        go_enter Tryz.func69, Tryz.ntmps69
        go_upto_region 1 with (fail)
        rw [← HW0.out]
        go_upto_region 5 with (first
          | ((with_reducible show wpList _ _ _ (⟨some 10, .load _ (.tmp 2), _, _, _, _⟩ :: _) _ _); refine wpList_load_row rfl 63 _ rfl w.heap.size rfl 63 #[.int .i64 k, .string (str t), .slice x1 items.length c1, .slice x2 keys.length c2] (0, 0) _ HR0.out Tryz.underlying63 rfl HIF.out ?_)
          | (go_at_call 105; ((with_reducible refine CM.mono ?_); rintro e w2 ⟨rfl, hb2⟩)))
        have R2 : rowC w2 w.heap.size #[.int .i64 k, .string (str t), .slice x1 items.length c1, .slice x2 keys.length c2] 63 := rowC_below HR0.out hb2 (rowC_lt HR0.out)
        have B2 := HB0.out.trans (hb2.mono HB0.out.size)
        have g2 : w2.cell? ⟨w.heap.size, 2, none⟩ = some (.slice x1 items.length c1) := rowC_cell R2 2
        clear CM
        go_wp2
        go_loopg [4, 18] items.length (fun kk s4 s18 wr => ∃ (j acc : Nat), s18 = .int .i64 (j : Int) ∧ s4 = .int .i64 (acc : Int) ∧ Hid (kk = items.length - j) ∧ Hid (j ≤ items.length) ∧ Hid (acc ≤ n) ∧ Hid (maxO acc ((items.drop j).map (depthF n)) = maxO 0 (items.map (depthF n))) ∧ Hid (Below w.heap.size w wr) ∧ Hid (rowC wr w.heap.size #[.int .i64 k, .string (str t), .slice x1 items.length c1, .slice x2 keys.length c2] 63) ∧ Hid (w.heap.size < wr.heap.size))
        case atStart => exact ⟨0, 0, rfl, rfl, Lib.hid rfl, Lib.hid (Nat.zero_le _), Lib.hid (Nat.zero_le _), Lib.hid rfl, Lib.hid B2, Lib.hid R2, Lib.hid (rowC_lt R2)⟩
        case round =>
          obtain ⟨j, acc, rfl, rfl, HJ, HJL, HAC, HMX, HB, HR, HZ⟩ := hrel
          clear g2 R2 B2
          have hacc : (acc : Int) ≤ 65536 := by have := HAC.out; have := HNN.out; omega
          by_cases hj : j < items.length
          · obtain ⟨y, hy⟩ : ∃ y, items[j]? = some y := ⟨_, List.getElem?_eq_getElem hj⟩
            obtain ⟨ad, a1, a2, a3, a4, rfl, hF, h4c, hHy⟩ := HII.out j y hy
            obtain ⟨rfl, rfl, ⟨y1, yc1, rfl⟩, y2, yc2, rfl⟩ := hHy.form
            have HST : Hid (items.drop j = y :: items.drop (j + 1)) := Lib.hid (by
              rw [List.drop_eq_getElem_cons hj]
              congr 1
              exact (List.getElem?_eq_some_iff.1 hy).2)
            have L4 := Lib.hid (h4c.chg (chg_of_below HB.out) (by rw [add_block]; omega))
            obtain ⟨W2, hW2⟩ : ∃ W2, W2 = wr.alloc (.cells (row4 y.kind (str y.text) y1 y.items.length yc1 y2 y.keys.length yc2) 63) := ⟨_, rfl⟩
            have B2 : Below w.heap.size w W2 := by rw [hW2]; exact HB.out.alloc (by have := HZ.out; omega) _
            have R2 : rowC W2 w.heap.size #[.int .i64 k, .string (str t), .slice (some ad) items.length c1, .slice x2 keys.length c2] 63 := by rw [hW2]; exact rowC_alloc HR.out _
            have X2 : rowC W2 wr.heap.size (row4 y.kind (str y.text) y1 y.items.length yc1 y2 y.keys.length yc2) 63 := by rw [hW2]; exact rowC_new _ _ _
            have CD := HIH.out y (List.mem_of_getElem? hy) n W2 (x - 1) _ _ _ _ HNN.out HX1.out (HE.out.below B2) (hHy.on B2)
            have hlen2 : (j : Int) < (items.length : Int) := by omega
            have hlen3 : (j : Int) + 1 ≤ 65536 := by have := HLN.out; omega
            have HW2 := Lib.hid hW2
            have HX2 := Lib.hid X2
            have HR2 := Lib.hid R2
            have HB2 := Lib.hid B2
            have HLE := Lib.hid (fun dd (hd : depthF n y = some dd) => depthF_le n y dd hd)
            clear hW2 R2 X2 B2 hy hF h4c hHy hj
            cases hdy : depthF n y with
            | none =>
              rw [hdy] at CD
              have HEN : Hid (maxO 0 (items.map (depthF n)) = none) := Lib.hid (by rw [← HMX.out, HST.out, List.map_cons, hdy]; rfl)
              simp only [depD, depO] at CD
              go_wp2_with (first
                | ((with_reducible show wpList _ _ _ (⟨some 21, .load _ (.tmp 20), _, _, _, _⟩ :: _) _ _); refine wpList_load_at rfl 63 _ rfl (ad.add (j * 4)) rfl [.int .i64 y.kind, .string (str y.text), .slice y1 y.items.length yc1, .slice y2 y.keys.length yc2] _ L4.out Tryz.underlying63 rfl HIF.out ?_)
                | ((with_reducible show wpList _ _ _ (⟨none, .store _ (.tmp 7) (.tmp 21), _, _, _, _⟩ :: _) _ _); refine wpList_store_last rfl 63 _ _ rfl wr.heap.size (row4 y.kind (str y.text) y1 y.items.length yc1 y2 y.keys.length yc2) rfl rfl 63 zeroV4 rfl HIF.out rfl (row4_all _ _ _ _ _ _ _ _) ?_; rw [← HW2.out])
                | ((with_reducible show wpList _ _ _ (⟨some 23, .load _ (.tmp 7), _, _, _, _⟩ :: _) _ _); refine wpList_load_row rfl 63 _ rfl wr.heap.size rfl 63 #[.int .i64 y.kind, .string (str y.text), .slice y1 y.items.length yc1, .slice y2 y.keys.length yc2] (0, 0) _ HX2.out Tryz.underlying63 rfl HIF.out ?_)
                | (go_at_call 69; ((with_reducible refine CD.mono ?_); rintro e w3 ⟨rfl, hb3⟩)))
              go_ret2
              rw [HD.out, HEN.out]
              exact ⟨rfl, HB2.out.trans (hb3.mono HB2.out.size)⟩
            | some dd =>
              rw [hdy] at CD
              have hdl := HLE.out dd hdy
              have HEN : Hid (maxO (max acc dd) ((items.drop (j + 1)).map (depthF n)) = maxO 0 (items.map (depthF n))) := Lib.hid (by rw [← HMX.out, HST.out, List.map_cons, hdy]; rfl)
              simp only [depD, depO] at CD
              have hdd : (dd : Int) ≤ 65536 := by have := HNN.out; omega
              have HDL := Lib.hid hdl
              clear hdl
              go_wp2_with (first
                | ((with_reducible show wpList _ _ _ (⟨some 21, .load _ (.tmp 20), _, _, _, _⟩ :: _) _ _); refine wpList_load_at rfl 63 _ rfl (ad.add (j * 4)) rfl [.int .i64 y.kind, .string (str y.text), .slice y1 y.items.length yc1, .slice y2 y.keys.length yc2] _ L4.out Tryz.underlying63 rfl HIF.out ?_)
                | ((with_reducible show wpList _ _ _ (⟨none, .store _ (.tmp 7) (.tmp 21), _, _, _, _⟩ :: _) _ _); refine wpList_store_last rfl 63 _ _ rfl wr.heap.size (row4 y.kind (str y.text) y1 y.items.length yc1 y2 y.keys.length yc2) rfl rfl 63 zeroV4 rfl HIF.out rfl (row4_all _ _ _ _ _ _ _ _) ?_; rw [← HW2.out])
                | ((with_reducible show wpList _ _ _ (⟨some 23, .load _ (.tmp 7), _, _, _, _⟩ :: _) _ _); refine wpList_load_row rfl 63 _ rfl wr.heap.size rfl 63 #[.int .i64 y.kind, .string (str y.text), .slice y1 y.items.length yc1, .slice y2 y.keys.length yc2] (0, 0) _ HX2.out Tryz.underlying63 rfl HIF.out ?_)
                | (go_at_call 69; ((with_reducible refine CD.mono ?_); rintro e w3 ⟨rfl, hb3⟩)))
              go_roundg (items.length - (j + 1))
              case measure => rw [HJ.out]; omega
              case rel => exact ⟨j + 1, max acc dd, rfl, congrArg (Value.int .i64) (by omega), Lib.hid rfl, Lib.hid (by omega), Lib.hid (by have := HAC.out; have := HDL.out; omega), HEN, Lib.hid (HB2.out.trans (hb3.mono HB2.out.size)), Lib.hid (rowC_below HR2.out hb3 (rowC_lt HR2.out)), Lib.hid (Nat.lt_of_lt_of_le (rowC_lt HR2.out) hb3.size)⟩
          · have hj' : ¬ (j : Int) < (items.length : Int) := by omega
            have hdr : items.drop j = [] := List.drop_eq_nil_of_le (by omega)
            have HEN : Hid (maxO 0 (items.map (depthF n)) = some acc) := Lib.hid (by rw [← HMX.out, hdr]; rfl)
            have g0 : wr.cell? ⟨w.heap.size, 0, none⟩ = some (.int .i64 k) := rowC_cell HR.out 0
            clear hdr hj
            by_cases h5 : k = 5
            · subst h5
              go_wp2
              go_ret2
              rw [HD.out, HEN.out, Option.map_some, HUP.out, if_pos (by simp)]
              exact ⟨rfl, HB.out⟩
            by_cases h6 : k = 6
            · subst h6
              go_wp2
              go_ret2
              rw [HD.out, HEN.out, Option.map_some, HUP.out, if_pos (by simp)]
              exact ⟨rfl, HB.out⟩
            · have m5 : (k == 5) = false := by rw [beq_eq_false_iff_ne]; exact h5
              have m6 : (k == 6) = false := by rw [beq_eq_false_iff_ne]; exact h6
              have HK := Lib.hid (show ¬ (k = 5 ∨ k = 6) by omega)
              clear h5 h6
              go_wp2
              go_ret2
              rw [HD.out, HEN.out, Option.map_some, HUP.out, if_neg HK.out]
              exact ⟨rfl, HB.out⟩
end Go.Proofs.YtnkencdibniagaaGreatDoor

/- Layer 11: Print. -/
namespace Go.Proofs.YtnkencdibniagaaGreatDoor
open Go.RowKit

theorem prat_new (w : World) : PrAt (w.alloc (.cells #[.pointer none, .slice none 0 0] 136)) w.heap.size w.heap.size [] := by
  refine .inl ⟨Nat.le_refl _, .slice none 0 0, heap_alloc_new w _, ?_, by simp [Value.ownBlock]⟩
  exact World.ownsRowF_of (World.ownsRow_nil _ _ _ _)
theorem puts_print {v : JV} (h : may v) : (65536 < (prG [] v).length → 65536 < (putsL [] (psJ v)).length) ∧ (¬ 65536 < (prG [] v).length → putsL [] (psJ v) = prG [] v) := by
  constructor
  · intro hl
    refine putsL_over _ _ ?_
    rw [psJ_all h]
    simpa using hl
  · intro hl
    rw [putsL_all _ _ (by rw [psJ_all h]; simpa using hl), psJ_all h]
    rfl
set_option maxRecDepth 100000 in
set_option maxHeartbeats 8000000 in
theorem print_any {v : JV} {w : World} {a b c d : Value} (ho : okJ v) (hE : Env w) (hH : HoldsC w (fun k => k < w.heap.size) v a b c d) :
    Calls Tryz.prog 29 #[.agg #[a, b, c, d]] w fun e w' => e = .returned (.tuple #[.string (str (printA v).1), .int .i64 ((printA v).2 : Int)]) ∧ Below w.heap.size w w' := by
  have hH0 := hH
  obtain ⟨rfl, rfl, ⟨x1, c1, rfl⟩, x2, c2, rfl⟩ := hH.form
  obtain ⟨W0, hW0⟩ : ∃ W0, W0 = w.alloc (.cells #[.int .i64 v.kind, .string (str v.text), .slice x1 v.items.length c1, .slice x2 v.keys.length c2] 63) := ⟨_, rfl⟩
  have R0 : rowC W0 w.heap.size #[.int .i64 v.kind, .string (str v.text), .slice x1 v.items.length c1, .slice x2 v.keys.length c2] 63 := by rw [hW0]; exact rowC_new w _ _
  have B0 : Below w.heap.size w W0 := by rw [hW0]; exact (Below.refl _ _).alloc (Nat.le_refl _) _
  have E0 : Env W0 := hE.below B0
  have CD := depth_any _ v (Nat.le_refl _) ho 65536 W0 65536 _ _ _ _ (Nat.le_refl _) rfl E0 (hH0.on B0)
  have hPA : printA v = match depthF 65536 v with | none => ([], 2) | some n => if 16 < n then ([], 11) else if 65536 < (prG [] v).length then ([], 3) else (prG [] v, 0) := rfl
  have hDS := fun m (h : depthF 65536 v = some m) (hm : m ≤ 16) => depth_some 65536 v m h (by omega)
  have hDL := fun m (h : depthF 65536 v = some m) => depthF_le 65536 v m h
  generalize depthF 65536 v = D at CD hPA hDS hDL
  have HIF := Lib.hid info_V
  have HW0 := Lib.hid hW0
  have HB0 := Lib.hid B0
  have HR0 := Lib.hid R0
  have HE := Lib.hid hE
  have HH := Lib.hid hH0
  have HO := Lib.hid ho
  clear hW0 R0 B0 E0 hE hH hH0 ho
  cases D with
  | none =>
    have HP := Lib.hid hPA
    clear hPA hDS hDL
    simp only [depD, depO] at CD
    go_enter Tryz.func29, Tryz.ntmps29
    go_upto_region 1 with (fail)
    rw [← HW0.out]
    go_wp2_with (first
      | ((with_reducible show wpList _ _ _ (⟨some 8, .load _ (.tmp 1), _, _, _, _⟩ :: _) _ _); refine wpList_load_row rfl 63 _ rfl w.heap.size rfl 63 #[.int .i64 v.kind, .string (str v.text), .slice x1 v.items.length c1, .slice x2 v.keys.length c2] (0, 0) _ HR0.out Tryz.underlying63 rfl HIF.out ?_)
      | (go_at_call 69; ((with_reducible refine CD.mono ?_); rintro e w2 ⟨rfl, hb2⟩)))
    go_ret2
    rw [HP.out]
    exact ⟨rfl, HB0.out.trans (hb2.mono HB0.out.size)⟩
  | some n =>
    have hnl := hDL n rfl
    simp only [depD, depO] at CD
    by_cases h16 : 16 < n
    · have HP : Hid (printA v = ([], 11)) := Lib.hid (by rw [hPA]; dsimp only; rw [if_pos h16])
      have hn : (16 : Int) < (n : Int) := by omega
      clear hPA hDS hDL h16 hnl
      go_enter Tryz.func29, Tryz.ntmps29
      go_upto_region 1 with (fail)
      rw [← HW0.out]
      go_wp2_with (first
        | ((with_reducible show wpList _ _ _ (⟨some 8, .load _ (.tmp 1), _, _, _, _⟩ :: _) _ _); refine wpList_load_row rfl 63 _ rfl w.heap.size rfl 63 #[.int .i64 v.kind, .string (str v.text), .slice x1 v.items.length c1, .slice x2 v.keys.length c2] (0, 0) _ HR0.out Tryz.underlying63 rfl HIF.out ?_)
        | (go_at_call 69; ((with_reducible refine CD.mono ?_); rintro e w2 ⟨rfl, hb2⟩)))
      go_ret2
      rw [HP.out]
      exact ⟨rfl, HB0.out.trans (hb2.mono HB0.out.size)⟩
    · have hm := (hDS n rfl (by omega)).1
      have HPV := Lib.hid (pvalue_any _ v (Nat.le_refl _) hm HO.out)
      unfold PvOk at HPV
      have HPP := Lib.hid (puts_print hm)
      have HNE := Lib.hid (pr_ne hm)
      have hn : ¬ (16 : Int) < (n : Int) := by omega
      have HP0 : Hid (printA v = if 65536 < (prG [] v).length then ([], 3) else (prG [] v, 0)) := Lib.hid (by rw [hPA]; dsimp only; rw [if_neg h16])
      clear hPA hDS hDL h16 hnl hm
      go_enter Tryz.func29, Tryz.ntmps29
      go_upto_region 1 with (fail)
      rw [← HW0.out]
      go_upto_region 6 with (first
        | ((with_reducible show wpList _ _ _ (⟨some 8, .load _ (.tmp 1), _, _, _, _⟩ :: _) _ _); refine wpList_load_row rfl 63 _ rfl w.heap.size rfl 63 #[.int .i64 v.kind, .string (str v.text), .slice x1 v.items.length c1, .slice x2 v.keys.length c2] (0, 0) _ HR0.out Tryz.underlying63 rfl HIF.out ?_)
        | (go_at_call 69; ((with_reducible refine CD.mono ?_); rintro e w2 ⟨rfl, hb2⟩)))
      obtain ⟨W3, hW3⟩ : ∃ W3, W3 = w2.alloc (.cells #[.pointer none, .slice none 0 0] 136) := ⟨_, rfl⟩
      have P3 : PrAt W3 w2.heap.size w2.heap.size [] := by rw [hW3]; exact prat_new w2
      have B2 : Below w.heap.size w w2 := HB0.out.trans (hb2.mono HB0.out.size)
      have B3 : Below w2.heap.size w2 W3 := by rw [hW3]; exact (Below.refl _ _).alloc (Nat.le_refl _) _
      have R3 : rowC W3 w.heap.size #[.int .i64 v.kind, .string (str v.text), .slice x1 v.items.length c1, .slice x2 v.keys.length c2] 63 := by
        rw [hW3]; exact rowC_alloc (rowC_below HR0.out hb2 (rowC_lt HR0.out)) _
      have H3 : HoldsC W3 (fun k => k < w2.heap.size) v (.int .i64 v.kind) (.string (str v.text)) (.slice x1 v.items.length c1) (.slice x2 v.keys.length c2) :=
        HoldsC.chg (s := fun _ => False) (Chg.of_below B3) (fun _ _ => id) _ _ _ _ _ (HH.out.on B2)
      have h10 : 10 ≤ w2.heap.size := by have := HE.out.big; have := B2.size; omega
      have CV := HPV.out W3 w2.heap.size w2.heap.size [] _ _ _ _ P3 B3.size (HE.out.below (B2.trans (B3.mono B2.size))) h10 H3
      have HW3 := Lib.hid hW3
      have HR3 := Lib.hid R3
      have HB3 := Lib.hid (B2.trans (B3.mono B2.size))
      have HB2 := Lib.hid B2
      have hbb : w2.heap.size ≤ w2.heap.size := Nat.le_refl _
      clear hW3 P3 B2 B3 R3 H3 h10 CD
      go_upto_region 7 with (fail)
      rw [← HW3.out]
      by_cases hl : 65536 < (prG [] v).length
      · have HP : Hid (printA v = ([], 3)) := Lib.hid (by rw [HP0.out, if_pos hl])
        have hll := HPP.out.1 hl
        have hl2 : (65536 : Int) < ((putsL [] (psJ v)).length : Int) := by omega
        clear hl hll HP0
        go_wp2_with (first
          | ((with_reducible show wpList _ _ _ (⟨some 16, .load _ (.tmp 1), _, _, _, _⟩ :: _) _ _); refine wpList_load_row rfl 63 _ rfl w.heap.size rfl 63 #[.int .i64 v.kind, .string (str v.text), .slice x1 v.items.length c1, .slice x2 v.keys.length c2] (0, 0) _ HR3.out Tryz.underlying63 rfl HIF.out ?_)
          | (go_at_call 70; ((with_reducible refine CV.mono ?_); rintro e w4 ⟨rfl, h4⟩; have CL := bd_len _ _ _ _ h4.pr; rw [Lib.byteCells_length] at CL))
          | (go_at_call 71; ((with_reducible refine CL.mono ?_); rintro e w5 ⟨rfl, rfl⟩)))
        go_ret2
        rw [HP.out]
        exact ⟨rfl, HB3.out.trans (h4.bel.mono HB2.out.size)⟩
      · have HP : Hid (printA v = (prG [] v, 0)) := Lib.hid (by rw [HP0.out, if_neg hl])
        have hll := HPP.out.2 hl
        rw [hll] at CV
        have hl2 : ¬ (65536 : Int) < ((prG [] v).length : Int) := by omega
        clear hl hll HP0
        go_wp2_with (first
          | ((with_reducible show wpList _ _ _ (⟨some 16, .load _ (.tmp 1), _, _, _, _⟩ :: _) _ _); refine wpList_load_row rfl 63 _ rfl w.heap.size rfl 63 #[.int .i64 v.kind, .string (str v.text), .slice x1 v.items.length c1, .slice x2 v.keys.length c2] (0, 0) _ HR3.out Tryz.underlying63 rfl HIF.out ?_)
          | (go_at_call 70; ((with_reducible refine CV.mono ?_); rintro e w4 ⟨rfl, h4⟩; have CL := bd_len _ _ _ _ h4.pr; rw [Lib.byteCells_length] at CL))
          | (go_at_call 71; ((with_reducible refine CL.mono ?_); rintro e w5 ⟨rfl, rfl⟩))
          | (go_at_call 72; ((with_reducible refine (bd_string _ _ _ _ h4.pr HNE.out).mono ?_); rintro e w6 ⟨rfl, hb6⟩)))
        go_ret2
        rw [HP.out]
        exact ⟨rfl, (HB3.out.trans (h4.bel.mono HB2.out.size)).trans (hb6.mono HB2.out.size)⟩
end Go.Proofs.YtnkencdibniagaaGreatDoor

/- Layer 11: a value. -/
namespace Go.Proofs.YtnkencdibniagaaGreatDoor
open Go.RowKit

theorem clone_any (s : ByteArray) (w : World) (hlim : s.size ≤ 281474976710656) : Calls Tryz.prog 97 #[.string s] w fun e w' => e = .returned (.string s) ∧ Below w.heap.size w w' := by
  have C := Tryz.stringslite_Clone s w hlim
  go_enter Tryz.func97, Tryz.ntmps97
  go_wp2_with (go_at_call 131; ((with_reducible refine C.mono ?_); rintro e w2 ⟨rfl, hb⟩))
  go_ret
  exact ⟨rfl, hb⟩
/-- Four cells and an error, ready for the end of the walk; res: the result's cell. -/
def readyV (w : World) (res q : Nat) (S l : Bs) (lev : Nat) (R : Res JV) (e : Ending) (w3 : World) : Prop :=
  ∃ (k : Int) (t : ByteArray) (x1 : Option Addr) (n1 c1 : Nat) (x2 : Option Addr) (n2 c2 : Nat) (ev : Value), e = .returned (.tuple #[.agg (row4 k t x1 n1 c1 x2 n2 c2), ev]) ∧ Hid (rowC w3 res zeroV4 63 ∧
    ∀ w', Chg (· = res) w3 w' → saysV w q S l lev R (.returned (.tuple #[.agg (row4 k t x1 n1 c1 x2 n2 c2), ev])) w')
theorem readyV_of {w w2 w3 : World} {res q lev : Nat} {S l d : Bs} {R : Res JV} {e : Ending} (hc : Chg (· = q) w w2) (hqw : q < w.heap.size) (hres : w.heap.size ≤ res) (hZ : rowC w2 res zeroV4 63) (hs : d <:+ l) (h : saysV w2 q S d lev R e w3) : readyV w res q S l lev R e w3 := by
  have lres := rowC_lt hZ
  have hsz := hc.size
  cases R with
  | ok v x =>
    obtain ⟨V, rfl, ⟨a, b, c, d, rfl, h2⟩, h3⟩ := h
    obtain ⟨rfl, rfl, ⟨x, cap, rfl⟩, y, cap', rfl⟩ := h2.form
    refine ⟨_, _, _, _, _, _, _, _, _, rfl, Lib.hid ⟨h3.2.rowC hZ (by omega), fun w' hc' => ?_⟩⟩
    refine ⟨_, rfl, ⟨_, _, _, _, rfl, ?_⟩, h3.1.chg hc' (by omega), (hc.two h3.2).trans hc' (fun k hk e => by omega)⟩
    exact HoldsC.mono (fun k hk hlt => ⟨by omega, hlt⟩) _ _ _ _ _ (HoldsC.chg hc' (fun k hk e => by omega) _ _ _ _ _ h2)
  | bad code x =>
    obtain ⟨V, rfl, ⟨k, t, x1, n1, c1, x2, n2, c2, rfl⟩, ⟨y, l2, h2, hs2⟩, h3⟩ := h
    exact ⟨_, _, _, _, _, _, _, _, _, rfl, Lib.hid ⟨h3.rowC hZ (by omega), fun w' hc' => ⟨_, rfl, ⟨_, _, _, _, _, _, _, _, rfl⟩, ⟨y, l2, h2.chg hc' (by omega), hs2.trans hs⟩, (hc.two h3).trans hc' (fun k hk e => by omega)⟩⟩⟩
/-- A text and an error, likewise. -/
def readyT (w : World) (res q : Nat) (S l : Bs) (lev : Nat) (R : Res JV) (e : Ending) (w3 : World) : Prop :=
  ∃ (t : ByteArray) (ev : Value), e = .returned (.tuple #[.string t, ev]) ∧ Hid (rowC w3 res zeroV4 63 ∧
    ∀ w', Chg (· = res) w3 w' → saysV w q S l lev R (.returned (.tuple #[.agg (row4 4 t none 0 0 none 0 0), ev])) w')
theorem readyT_of {w w2 w3 : World} {res q lev : Nat} {S l d : Bs} {Q : Res Bs} {R : Res JV} {e : Ending} (hS : okS S) (hR : R = Res.map (fun t => .mk 4 t [] []) Q) (hc : Chg (· = q) w w2) (hqw : q < w.heap.size) (hres : w.heap.size ≤ res) (hZ : rowC w2 res zeroV4 63) (hs : d <:+ l) (h : saysT w2 q S d lev Q e w3) : readyT w res q S l lev R e w3 := by
  have lres := rowC_lt hZ
  have hsz := hc.size
  have hSS := hS
  unfold okS at hSS
  cases Q with
  | ok t x =>
    obtain ⟨rfl, hl, h3⟩ := h
    refine ⟨_, _, rfl, Lib.hid ⟨h3.2.rowC hZ (by omega), fun w' hc' => ?_⟩⟩
    exact saysV_ok hR (holds_text _ _ 4 (by omega)) ⟨h3.1.chg hc' (by omega), (hc.two h3.2).trans hc' (fun k hk e => by omega)⟩
  | bad code x =>
    obtain ⟨rfl, ⟨y, l2, h2, hs2⟩, h3⟩ := h
    exact ⟨_, _, rfl, Lib.hid ⟨h3.rowC hZ (by omega), fun w' hc' => saysV_bad hR ⟨_, _, _, _, _, _, _, _, rfl⟩ ⟨⟨y, l2, h2.chg hc' (by omega), hs2.trans hs⟩, (hc.two h3).trans hc' (fun k hk e => by omega)⟩⟩⟩
/-- An error alone, behind a number. -/
def readyN (w : World) (res q : Nat) (S l d : Bs) (lev : Nat) (R : Res JV) (e : Ending) (w3 : World) : Prop :=
  ∃ (ev : Value) (y : Bs) (l2 : Nat), e = .returned ev ∧ RdAt w3 q S y l2 ∧ y <:+ d ∧ Hid (rowC w3 res zeroV4 63 ∧
    ∀ w', Chg (· = res) w3 w' → saysV w q S l lev R (.returned (.tuple #[.agg (row4 3 (str (d.take (d.length - y.length))) none 0 0 none 0 0), ev])) w')
theorem num_suf {d x : Bs} (h : numP d = .ok () x) : x <:+ d := by
  obtain ⟨u, h1, _⟩ := num_pre h
  exact ⟨u, h1.symm⟩
theorem readyN_of {w w2 w3 : World} {res q lev : Nat} {S l d : Bs} {R : Res JV} {e : Ending} (hS : okS S) (hR : R = mkN d) (hc : Chg (· = q) w w2) (hqw : q < w.heap.size) (hres : w.heap.size ≤ res) (hZ : rowC w2 res zeroV4 63) (hs : d <:+ l) (hl : d <:+ S) (h : saysU w2 q S d lev (numP d) e w3) : readyN w res q S l d lev R e w3 := by
  have lres := rowC_lt hZ
  have hsz := hc.size
  have hSS := hS
  unfold okS at hSS
  have hdl := hl.length_le
  unfold mkN at hR
  cases hn : numP d with
  | ok u x =>
    rw [hn] at hR h
    obtain ⟨rfl, h3⟩ := h
    refine ⟨_, x, lev, rfl, h3.1, num_suf hn, Lib.hid ⟨h3.2.rowC hZ (by omega), fun w' hc' => ?_⟩⟩
    exact saysV_ok hR (holds_text _ _ 3 (by rw [List.length_take]; omega)) ⟨h3.1.chg hc' (by omega), (hc.two h3.2).trans hc' (fun k hk e => by omega)⟩
  | bad code x =>
    rw [hn] at hR h
    obtain ⟨rfl, ⟨y, l2, h2, hs2⟩, h3⟩ := h
    exact ⟨_, y, l2, rfl, h2, hs2, Lib.hid ⟨h3.rowC hZ (by omega), fun w' hc' => saysV_bad hR ⟨_, _, _, _, _, _, _, _, rfl⟩ ⟨⟨y, l2, h2.chg hc' (by omega), hs2.trans hs⟩, (hc.two h3).trans hc' (fun k hk e => by omega)⟩⟩⟩
/-- What was read of a text. -/
theorem part_text {S d y : Bs} (h : d <:+ S) (hy : y <:+ d) : (str S).extract (S.length - d.length) (S.length - y.length) = str (d.take (d.length - y.length)) := by
  obtain ⟨p, rfl⟩ := h
  obtain ⟨u, rfl⟩ := hy
  refine bytes_toList ?_
  rw [show (p ++ (u ++ y)).length - (u ++ y).length = p.length by simp, show (p ++ (u ++ y)).length - y.length = p.length + u.length by simp; omega, show (u ++ y).length - y.length = u.length by simp]
  simp [str, ByteArray.data_extract]
end Go.Proofs.YtnkencdibniagaaGreatDoor

