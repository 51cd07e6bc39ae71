/- Merged: OdL, OdM, Bld. -/
import Derived.Test.YtnkencdibniagaaGreatDoorM25
import Derived.Test.YtnkencdibniagaaGreatDoorM20
import Derived.Great.BuildSlice
/- Layer 13: a descriptor as it is read. -/
namespace Go.Proofs.YtnkencdibniagaaGreatDoor
open Go.RowKit

def encL (d : DV) : List Value := [.string (str d.media)] ++ d.dig.map byteV ++ [.int .i64 d.size, .string (str d.os), .string (str d.arch)]
theorem encD_list (d : DV) : encD d = (encL d).toArray := by
  unfold encD encL cells8
  simp
theorem encL_len {d : DV} (h : d.dig.length = 32) : (encL d).length = 36 := by
  unfold encL
  simp [h]
theorem encD_media (d : DV) (s : Bs) : (encD d).setIfInBounds 0 (.string (str s)) = encD { d with media := s } := by
  rw [encD_list, encD_list, List.setIfInBounds_toArray]
  rfl
theorem encD_sized (d : DV) (h : d.dig.length = 32) (n : Int) : (encD d).setIfInBounds 33 (.int .i64 n) = encD { d with size := n } := by
  rw [encD_list, encD_list, List.setIfInBounds_toArray]
  unfold encL
  rw [List.append_assoc, List.set_append_right _ _ (by simp), List.set_append_right _ _ (by simp [h])]
  simp [h]
theorem encD_os (d : DV) (h : d.dig.length = 32) (s : Bs) : (encD d).setIfInBounds 34 (.string (str s)) = encD { d with os := s } := by
  rw [encD_list, encD_list, List.setIfInBounds_toArray]
  unfold encL
  rw [List.append_assoc, List.set_append_right _ _ (by simp), List.set_append_right _ _ (by simp [h])]
  simp [h]
theorem encD_arch (d : DV) (h : d.dig.length = 32) (s : Bs) : (encD d).setIfInBounds 35 (.string (str s)) = encD { d with arch := s } := by
  rw [encD_list, encD_list, List.setIfInBounds_toArray]
  unfold encL
  rw [List.append_assoc, List.set_append_right _ _ (by simp), List.set_append_right _ _ (by simp [h])]
  simp [h]
theorem rowC_dig {w : World} {b : Nat} {d : DV} {g : Bs} (h : rowC w b (encD d) 28) (hd : d.dig.length = 32) (hg : g.length = 32) : rowC (w.setCells b 1 (cells8 g).toList) b (encD { d with dig := g }) 28 := by
  rw [encD_list] at h
  have := rowC_setCells (cells8 g).toList 1 h (by rw [encL_len hd]; simp [cells8, hg])
  rw [encD_list]
  have e : (encL d).take 1 ++ (cells8 g).toList ++ (encL d).drop (1 + (cells8 g).toList.length) = encL { d with dig := g } := by
    unfold encL cells8
    simp only [List.length_map, List.append_assoc]
    rw [List.drop_append, List.drop_append, hg]
    simp [hd]
  rwa [e] at this
theorem rowC_plat {w : World} {b : Nat} {media g : Bs} {n : Int} {os arch : Bs} {p : Bs × Bs} (h : rowC w b (encD ⟨media, g, n, os, arch⟩) 28) (hd : g.length = 32) : rowC (w.setCells b 34 (encP p).toList) b (encD ⟨media, g, n, p.1, p.2⟩) 28 := by
  have h1 := rowC_set h 34 (.string (str p.1))
  rw [encD_os ⟨media, g, n, os, arch⟩ hd] at h1
  have h2 := rowC_set h1 35 (.string (str p.2))
  rw [encD_arch ⟨media, g, n, p.1, arch⟩ hd] at h2
  obtain ⟨p1, p2⟩ := p
  exact h2
theorem encL_33 (d : DV) (h : d.dig.length = 32) : (encL d).toArray[33]? = some (.int .i64 d.size) := by
  rw [List.getElem?_toArray]
  unfold encL
  rw [List.append_assoc, List.getElem?_append_right (by simp), List.getElem?_append_right (by simp [h])]
  simp [h]
theorem size_of_int {x : JV} (h : partV x kSiz intV = none) : partV x kSiz sizeV = none := by
  unfold partV at h ⊢
  cases hg : getV x kSiz with
  | none => rfl
  | some v =>
    rw [hg] at h
    have h : intV v = none := h
    show sizeV v = none
    unfold sizeV
    rw [h]
    rfl
theorem size_of_some {x : JV} {n : Int} (h : partV x kSiz intV = some n) : partV x kSiz sizeV = if n < 0 then none else some n := by
  unfold partV at h ⊢
  cases hg : getV x kSiz with
  | none => rw [hg] at h; cases h
  | some v =>
    rw [hg] at h
    have h : intV v = some n := h
    show sizeV v = _
    unfold sizeV
    rw [h]
    rfl
theorem size_of_neg {x : JV} {n : Int} (h : partV x kSiz intV = some n) (hn : n < 0) : partV x kSiz sizeV = none := by rw [size_of_some h, if_pos hn]
theorem size_of_pos {x : JV} {n : Int} (h : partV x kSiz intV = some n) (hn : ¬ n < 0) : partV x kSiz sizeV = some n := by rw [size_of_some h, if_neg hn]
theorem enter_des (args : Array Value) (w : World) : (callFunc 42 args).run Tryz.prog w = .ok (.enter 42 args) w := by kernel_rfl
theorem enter_pln (args : Array Value) (w : World) : (callFunc 33 args).run Tryz.prog w = .ok (.enter 33 args) w := by kernel_rfl
set_option maxRecDepth 100000 in
set_option maxHeartbeats 16000000 in
theorem readDescriptor_any (x : JV) (w : World) (y : Option Addr) (m : Nat) (z : Option Addr) (n : Nat) (ho : okR x) (hE : Env2 w) (hH : HoldsC w (fun k => k < w.heap.size) x (.int .i64 x.kind) (.string (str x.text)) (.slice y x.items.length m) (.slice z x.keys.length n)) :
    Calls Tryz.prog 42 #[.agg (row4 x.kind (str x.text) y x.items.length m z x.keys.length n)] w fun e w' => ReadP eDes w (descV x) e w' := by
  obtain ⟨W0, hW0⟩ : ∃ W0, W0 = (w.alloc (.cells (row4 x.kind (str x.text) y x.items.length m z x.keys.length n) 63)).alloc (.cells (encD zeroD) 28) := ⟨_, rfl⟩
  have s1 := size_alloc w (.cells (row4 x.kind (str x.text) y x.items.length m z x.keys.length n) 63)
  have Z0 : rowC W0 (w.heap.size + 1) (encD zeroD) 28 := by rw [hW0, ← s1]; exact rowC_new _ _ _
  have R0 : rowC W0 w.heap.size (row4 x.kind (str x.text) y x.items.length m z x.keys.length n) 63 := by rw [hW0]; exact rowC_alloc (rowC_new w _ _) _
  have B0 : Below w.heap.size w W0 := by rw [hW0]; exact ((Below.refl _ _).alloc (Nat.le_refl _) _).alloc (by omega) _
  have S0 : W0.heap.size = w.heap.size + 2 := by rw [hW0, size_alloc, s1]
  have CT : ∀ (w' : World), Below w.heap.size w w' → w.heap.size ≤ w'.heap.size → Calls Tryz.prog 80 #[.agg (row4 x.kind (str x.text) y x.items.length m z x.keys.length n), .string ⟨#[109, 101, 100, 105, 97, 84, 121, 112, 101]⟩, .func (.func 81) #[] #[]] w' fun e w2 => ReadP eTxt w' (partV x kMed textV) e w2 := fun w' hb hs =>
    part_txt rd_text ho kMed (hE.below hb) trivial (HoldsC.mono (fun k hk _ => Nat.lt_of_lt_of_le hk hs) _ _ _ _ _ (HoldsC.far hH hb))
  have CD : ∀ (w' : World), Below w.heap.size w w' → w.heap.size ≤ w'.heap.size → Calls Tryz.prog 82 #[.agg (row4 x.kind (str x.text) y x.items.length m z x.keys.length n), .string ⟨#[100, 105, 103, 101, 115, 116]⟩, .func (.func 83) #[] #[]] w' fun e w2 => ReadP eDig w' (partV x kDig digV) e w2 := fun w' hb hs =>
    part_dig rd_dig ho kDig (hE.below hb) trivial (HoldsC.mono (fun k hk _ => Nat.lt_of_lt_of_le hk hs) _ _ _ _ _ (HoldsC.far hH hb))
  have CI : ∀ (w' : World), Below w.heap.size w w' → w.heap.size ≤ w'.heap.size → Calls Tryz.prog 73 #[.agg (row4 x.kind (str x.text) y x.items.length m z x.keys.length n), .string ⟨#[115, 105, 122, 101]⟩, .func (.func 74) #[] #[]] w' fun e w2 => ReadP eInt w' (partV x kSiz intV) e w2 := fun w' hb hs =>
    part_int rd_int ho kSiz (hE.below hb) trivial (HoldsC.mono (fun k hk _ => Nat.lt_of_lt_of_le hk hs) _ _ _ _ _ (HoldsC.far hH hb))
  have CP : ∀ (w' : World), Below w.heap.size w w' → w.heap.size ≤ w'.heap.size → Calls Tryz.prog 84 #[.agg (row4 x.kind (str x.text) y x.items.length m z x.keys.length n), .string ⟨#[112, 108, 97, 116, 102, 111, 114, 109]⟩, .func (.func 43) #[] #[]] w' fun e w2 => ReadP ePla w' (anyV ([], []) x kPla platV) e w2 := fun w' hb hs =>
    any_pla rd_pla ho kPla (hE.below hb) trivial (HoldsC.mono (fun k hk _ => Nat.lt_of_lt_of_le hk hs) _ _ _ _ _ (HoldsC.far hH hb))
  obtain ⟨o, ho_⟩ : ∃ o, o = descV x := ⟨_, rfl⟩
  rw [← ho_]
  have HOO := Lib.hid ho_
  have HW0 := Lib.hid hW0
  have HR0 := Lib.hid R0
  have HZ0 := Lib.hid Z0
  have HB0 := Lib.hid B0
  have HI := Lib.hid info_V
  have HIG := Lib.hid info_G
  have HIP := Lib.hid info_P
  have HID := Lib.hid (fun (d : DV) (h : goodD d) => show (Tryz.prog.info? 28).map (·.size) = some (encD d).size by rw [encD_size d h]; exact info_D)
  have HCT := Lib.hid CT
  have HCD := Lib.hid CD
  have HCI := Lib.hid CI
  have HCP := Lib.hid CP
  clear hW0 R0 B0 Z0 ho hE hH ho_ CT CD CI CP
  have g0 : goodD zeroD := ⟨rfl, by simp [zeroD], by simp [zeroD], by simp [zeroD]⟩
  have CC := HCT.out W0 HB0.out (by omega)
  go_enter Tryz.func42, Tryz.ntmps42
  go_upto_region 1 with (fail)
  rw [show (w.alloc (.cells (row4 x.kind (str x.text) y x.items.length m z x.keys.length n) 63)).alloc (.cells #[.string ⟨#[]⟩, .int .u8 0, .int .u8 0, .int .u8 0, .int .u8 0, .int .u8 0, .int .u8 0, .int .u8 0, .int .u8 0, .int .u8 0, .int .u8 0, .int .u8 0, .int .u8 0, .int .u8 0, .int .u8 0, .int .u8 0, .int .u8 0, .int .u8 0, .int .u8 0, .int .u8 0, .int .u8 0, .int .u8 0, .int .u8 0, .int .u8 0, .int .u8 0, .int .u8 0, .int .u8 0, .int .u8 0, .int .u8 0, .int .u8 0, .int .u8 0, .int .u8 0, .int .u8 0, .int .i64 0, .string ⟨#[]⟩, .string ⟨#[]⟩] 28) = W0 from HW0.out.symm]
  go_upto_region 2 with (first
    | ((with_reducible show wpList _ _ _ (⟨some 5, .load _ _, _, _, _, _⟩ :: _) _ _); refine wpList_load_row rfl 63 _ rfl w.heap.size rfl 63 (row4 x.kind (str x.text) y x.items.length m z x.keys.length n) (0, 0) _ HR0.out Tryz.underlying63 rfl HI.out ?_)
    | (go_at_call 80; ((with_reducible refine CC.mono ?_); rintro e w2 ⟨t1, tv, ok1, rfl, ⟨rfl, hl1⟩, hor1, hb1⟩; have HOR1 := Lib.hid hor1; have HB1 := Lib.hid hb1; have HL1 := Lib.hid hl1; have HZ1 := Lib.hid (rowC_below HZ0.out hb1 (by omega)); have c0 := rowC_cell HZ1.out 0; have f0 := rowC_free HZ1.out 0; clear hor1 hb1 hl1 CC)))
  obtain ⟨W1, hW1⟩ : ∃ W1, W1 = w2.setCell ⟨w.heap.size + 1, 0, none⟩ (.string (str t1)) := ⟨_, rfl⟩
  rw [← hW1]
  have s2 := HB1.out.size
  have Z1 : Hid (rowC W1 (w.heap.size + 1) (encD { zeroD with media := t1 }) 28) := Lib.hid (by rw [hW1, ← encD_media]; exact rowC_set HZ1.out 0 _)
  have R1 : Hid (rowC W1 w.heap.size (row4 x.kind (str x.text) y x.items.length m z x.keys.length n) 63) := Lib.hid (by rw [hW1]; exact rowC_other (rowC_below HR0.out HB1.out (by omega)) _ _ (by show w.heap.size ≠ w.heap.size + 1; omega))
  have B1 : Hid (Below w.heap.size w W1) := Lib.hid (by rw [hW1]; exact (HB0.out.trans (HB1.out.mono (by omega))).setCell (p := ⟨w.heap.size + 1, 0, none⟩) (by show w.heap.size ≤ w.heap.size + 1; omega) _)
  have l1 := rowC_lt Z1.out
  have G1 : goodD { zeroD with media := t1 } := ⟨rfl, HL1.out, by simp [zeroD], by simp [zeroD]⟩
  clear hW1 c0 f0
  rcases HOR1.out with ⟨h1, hok⟩ | ⟨h1, hok⟩
  rotate_left
  · subst hok
    have e0 : Hid (o = none) := Lib.hid (by rw [HOO.out]; unfold descV; rw [h1])
    go_wp2_with (first
      | ((with_reducible show wpList _ _ _ (⟨some 12, .load _ _, _, _, _, _⟩ :: _) _ _); refine wpList_load_row rfl 28 _ rfl (w.heap.size + 1) rfl 28 (encD { zeroD with media := t1 }) (0, 0) _ Z1.out Tryz.underlying28 rfl (HID.out _ G1) ?_)
      | ((with_reducible show wpList _ _ _ (⟨none, .store _ (.tmp 2) _, _, _, _, _⟩ :: _) _ _); refine wpList_store_row rfl 28 _ _ rfl (w.heap.size + 1) (encD { zeroD with media := t1 }) rfl rfl 28 _ Z1.out (HID.out _ G1) rfl (encD_one _) ?_))
    refine bodyPost_ret (results_row_tmp rfl _ _ (w.heap.size + 1) 28 (encD { zeroD with media := t1 }) _ rfl (rowC_setRow Z1.out _) Tryz.underlying28 rfl (HID.out _ G1) (.bool false) rfl) rfl ?_
    rw [e0.out]
    exact ⟨{ zeroD with media := t1 }, _, false, rfl, ⟨rfl, G1⟩, .inr ⟨rfl, rfl⟩, below_setRow B1.out (by omega) _⟩
  subst hok
  have CC := HCD.out W1 B1.out (by omega)
  have HTH := Lib.hid (fun w' (h : rowC w' (w.heap.size + 1) (encD { zeroD with media := t1 }) 28) => row_there h 1 32 (by rw [encD_size _ G1]; decide))
  go_upto_region 5 with (first
    | ((with_reducible show wpList _ _ _ (⟨some 14, .load _ _, _, _, _, _⟩ :: _) _ _); refine wpList_load_row rfl 63 _ rfl w.heap.size rfl 63 (row4 x.kind (str x.text) y x.items.length m z x.keys.length n) (0, 0) _ R1.out Tryz.underlying63 rfl HI.out ?_)
    | (go_at_call 82; ((with_reducible refine CC.mono ?_); rintro e w3 ⟨g2, tv, ok2, rfl, ⟨rfl, hl2⟩, hor2, hb2⟩; have HOR2 := Lib.hid hor2; have HB2 := Lib.hid hb2; have HL2 := Lib.hid hl2; have HZ2 := Lib.hid (rowC_below Z1.out hb2 (by omega)); have HSD := Lib.hid (show (cells8 g2).size = 32 by rw [cells8_size]; exact hl2); clear hor2 hb2 hl2 CC))
    | ((with_reducible show wpList _ _ _ (⟨none, .store _ (.tmp 18) _, _, _, _, _⟩ :: _) _ _); refine wpList_store_mid rfl 24 _ _ rfl (w.heap.size + 1) 1 (cells8 g2) rfl rfl (by rw [HSD.out]; exact HTH.out _ HZ2.out) (by rw [HSD.out]; exact HIG.out) (cells8_one _) ?_))
  obtain ⟨W2, hW2⟩ : ∃ W2, W2 = w3.setCells (w.heap.size + 1) 1 (cells8 g2).toList := ⟨_, rfl⟩
  rw [← hW2]
  have s3 := HB2.out.size
  have Z2 : Hid (rowC W2 (w.heap.size + 1) (encD { zeroD with media := t1, dig := g2 }) 28) := Lib.hid (by rw [hW2]; exact rowC_dig HZ2.out rfl HL2.out)
  have R2 : Hid (rowC W2 w.heap.size (row4 x.kind (str x.text) y x.items.length m z x.keys.length n) 63) := Lib.hid (by rw [hW2]; exact rowC_setCells_other (by omega) _ _ (rowC_below R1.out HB2.out (by omega)))
  have B2 : Hid (Below w.heap.size w W2) := Lib.hid (by rw [hW2]; exact below_setCells (by omega) _ _ (B1.out.trans (HB2.out.mono (by omega))))
  have l2 := rowC_lt Z2.out
  have G2 : goodD { zeroD with media := t1, dig := g2 } := ⟨HL2.out, HL1.out, by simp [zeroD], by simp [zeroD]⟩
  clear hW2
  rcases HOR2.out with ⟨h2, hok⟩ | ⟨h2, hok⟩
  rotate_left
  · subst hok
    have e0 : Hid (o = none) := Lib.hid (by rw [HOO.out]; unfold descV; rw [h1]; dsimp only; rw [h2])
    go_wp2_with (first
      | ((with_reducible show wpList _ _ _ (⟨some 21, .load _ _, _, _, _, _⟩ :: _) _ _); refine wpList_load_row rfl 28 _ rfl (w.heap.size + 1) rfl 28 (encD { zeroD with media := t1, dig := g2 }) (0, 0) _ Z2.out Tryz.underlying28 rfl (HID.out _ G2) ?_)
      | ((with_reducible show wpList _ _ _ (⟨none, .store _ (.tmp 2) _, _, _, _, _⟩ :: _) _ _); refine wpList_store_row rfl 28 _ _ rfl (w.heap.size + 1) (encD { zeroD with media := t1, dig := g2 }) rfl rfl 28 _ Z2.out (HID.out _ G2) rfl (encD_one _) ?_))
    refine bodyPost_ret (results_row_tmp rfl _ _ (w.heap.size + 1) 28 (encD { zeroD with media := t1, dig := g2 }) _ rfl (rowC_setRow Z2.out _) Tryz.underlying28 rfl (HID.out _ G2) (.bool false) rfl) rfl ?_
    rw [e0.out]
    exact ⟨{ zeroD with media := t1, dig := g2 }, _, false, rfl, ⟨rfl, G2⟩, .inr ⟨rfl, rfl⟩, below_setRow B2.out (by omega) _⟩
  subst hok
  have CC := HCI.out W2 B2.out (by omega)
  go_upto_region 8 with (first
    | ((with_reducible show wpList _ _ _ (⟨some 23, .load _ _, _, _, _, _⟩ :: _) _ _); refine wpList_load_row rfl 63 _ rfl w.heap.size rfl 63 (row4 x.kind (str x.text) y x.items.length m z x.keys.length n) (0, 0) _ R2.out Tryz.underlying63 rfl HI.out ?_)
    | (go_at_call 73; ((with_reducible refine CC.mono ?_); rintro e w4 ⟨n3, tv, ok3, rfl, ⟨rfl, _⟩, hor3, hb3⟩; have HOR3 := Lib.hid hor3; have HB3 := Lib.hid hb3; have HZ3 := Lib.hid (rowC_below Z2.out hb3 (by omega)); have c0 : w4.cell? ⟨w.heap.size + 1, 33, none⟩ = some (.int .i64 0) := (by rw [rowC_cell HZ3.out, encD_list]; exact encL_33 _ G2.1); have f0 := rowC_free HZ3.out 33; clear hor3 hb3 CC)))
  obtain ⟨W3, hW3⟩ : ∃ W3, W3 = w4.setCell ⟨w.heap.size + 1, 33, none⟩ (.int .i64 n3) := ⟨_, rfl⟩
  rw [← hW3]
  have s4 := HB3.out.size
  have Z3 : Hid (rowC W3 (w.heap.size + 1) (encD { zeroD with media := t1, dig := g2, size := n3 }) 28) := Lib.hid (by rw [hW3]; have := rowC_set HZ3.out 33 (.int .i64 n3); rw [encD_sized _ G2.1] at this; exact this)
  have R3 : Hid (rowC W3 w.heap.size (row4 x.kind (str x.text) y x.items.length m z x.keys.length n) 63) := Lib.hid (by rw [hW3]; exact rowC_other (rowC_below R2.out HB3.out (by omega)) _ _ (by show w.heap.size ≠ w.heap.size + 1; omega))
  have B3 : Hid (Below w.heap.size w W3) := Lib.hid (by rw [hW3]; exact (B2.out.trans (HB3.out.mono (by omega))).setCell (p := ⟨w.heap.size + 1, 33, none⟩) (by show w.heap.size ≤ w.heap.size + 1; omega) _)
  have l3 := rowC_lt Z3.out
  have G3 : goodD { zeroD with media := t1, dig := g2, size := n3 } := G2
  have d33 : W3.cell? ⟨w.heap.size + 1, 33, none⟩ = some (.int .i64 n3) := by rw [hW3, ← hW3, rowC_cell Z3.out, encD_list]; exact encL_33 _ G3.1
  clear hW3 c0 f0
  rcases HOR3.out with ⟨h3, hok⟩ | ⟨h3, hok⟩
  rotate_left
  · subst hok
    have e0 : Hid (o = none) := Lib.hid (by rw [HOO.out]; unfold descV; rw [h1]; dsimp only; rw [h2]; dsimp only; rw [size_of_int h3])
    go_wp2_with (first
      | ((with_reducible show wpList _ _ _ (⟨some 35, .load _ _, _, _, _, _⟩ :: _) _ _); refine wpList_load_row rfl 28 _ rfl (w.heap.size + 1) rfl 28 (encD { zeroD with media := t1, dig := g2, size := n3 }) (0, 0) _ Z3.out Tryz.underlying28 rfl (HID.out _ G3) ?_)
      | ((with_reducible show wpList _ _ _ (⟨none, .store _ (.tmp 2) _, _, _, _, _⟩ :: _) _ _); refine wpList_store_row rfl 28 _ _ rfl (w.heap.size + 1) (encD { zeroD with media := t1, dig := g2, size := n3 }) rfl rfl 28 _ Z3.out (HID.out _ G3) rfl (encD_one _) ?_))
    refine bodyPost_ret (results_row_tmp rfl _ _ (w.heap.size + 1) 28 (encD { zeroD with media := t1, dig := g2, size := n3 }) _ rfl (rowC_setRow Z3.out _) Tryz.underlying28 rfl (HID.out _ G3) (.bool false) rfl) rfl ?_
    rw [e0.out]
    exact ⟨{ zeroD with media := t1, dig := g2, size := n3 }, _, false, rfl, ⟨rfl, G3⟩, .inr ⟨rfl, rfl⟩, below_setRow B3.out (by omega) _⟩
  subst hok
  by_cases hneg : n3 < 0
  · have e0 : Hid (o = none) := Lib.hid (by rw [HOO.out]; unfold descV; rw [h1]; dsimp only; rw [h2]; dsimp only; rw [size_of_neg h3 hneg])
    go_wp2_with (first
      | ((with_reducible show wpList _ _ _ (⟨some 35, .load _ _, _, _, _, _⟩ :: _) _ _); refine wpList_load_row rfl 28 _ rfl (w.heap.size + 1) rfl 28 (encD { zeroD with media := t1, dig := g2, size := n3 }) (0, 0) _ Z3.out Tryz.underlying28 rfl (HID.out _ G3) ?_)
      | ((with_reducible show wpList _ _ _ (⟨none, .store _ (.tmp 2) _, _, _, _, _⟩ :: _) _ _); refine wpList_store_row rfl 28 _ _ rfl (w.heap.size + 1) (encD { zeroD with media := t1, dig := g2, size := n3 }) rfl rfl 28 _ Z3.out (HID.out _ G3) rfl (encD_one _) ?_))
    refine bodyPost_ret (results_row_tmp rfl _ _ (w.heap.size + 1) 28 (encD { zeroD with media := t1, dig := g2, size := n3 }) _ rfl (rowC_setRow Z3.out _) Tryz.underlying28 rfl (HID.out _ G3) (.bool false) rfl) rfl ?_
    rw [e0.out]
    exact ⟨{ zeroD with media := t1, dig := g2, size := n3 }, _, false, rfl, ⟨rfl, G3⟩, .inr ⟨rfl, rfl⟩, below_setRow B3.out (by omega) _⟩
  have hsz := size_of_pos h3 hneg
  have CC := HCP.out W3 B3.out (by omega)
  have HTH2 := Lib.hid (fun w' (h : rowC w' (w.heap.size + 1) (encD { zeroD with media := t1, dig := g2, size := n3 }) 28) => row_there h 34 2 (by rw [encD_size _ G3]; decide))
  have HSP := Lib.hid (fun (p : Bs × Bs) => show (encP p).size = 2 from rfl)
  go_upto_region 11 with (first
    | ((with_reducible show wpList _ _ _ (⟨some 37, .load _ _, _, _, _, _⟩ :: _) _ _); refine wpList_load_row rfl 63 _ rfl w.heap.size rfl 63 (row4 x.kind (str x.text) y x.items.length m z x.keys.length n) (0, 0) _ R3.out Tryz.underlying63 rfl HI.out ?_)
    | (go_at_call 84; ((with_reducible refine CC.mono ?_); rintro e w5 ⟨p4, tv, ok4, rfl, ⟨rfl, hl4⟩, hor4, hb4⟩; have HOR4 := Lib.hid hor4; have HB4 := Lib.hid hb4; have HL4 := Lib.hid hl4; have HZ4 := Lib.hid (rowC_below Z3.out hb4 (by omega)); clear hor4 hb4 hl4 CC))
    | ((with_reducible show wpList _ _ _ (⟨none, .store _ (.tmp 41) _, _, _, _, _⟩ :: _) _ _); refine wpList_store_mid rfl 26 _ _ rfl (w.heap.size + 1) 34 (encP p4) rfl rfl (by rw [HSP.out]; exact HTH2.out _ HZ4.out) HIP.out (encP_one _) ?_))
  obtain ⟨W4, hW4⟩ : ∃ W4, W4 = w5.setCells (w.heap.size + 1) 34 (encP p4).toList := ⟨_, rfl⟩
  rw [← hW4]
  have s5 := HB4.out.size
  have Z4 : Hid (rowC W4 (w.heap.size + 1) (encD ⟨t1, g2, n3, p4.1, p4.2⟩) 28) := Lib.hid (by rw [hW4]; exact rowC_plat (media := t1) (g := g2) (n := n3) (os := zeroD.os) (arch := zeroD.arch) HZ4.out HL2.out)
  have B4 : Hid (Below w.heap.size w W4) := Lib.hid (by rw [hW4]; exact below_setCells (by omega) _ _ (B3.out.trans (HB4.out.mono (by omega))))
  have G4 : goodD ⟨t1, g2, n3, p4.1, p4.2⟩ := ⟨HL2.out, HL1.out, HL4.out.1, HL4.out.2⟩
  have e0 : Hid (o = some ⟨t1, g2, n3, p4.1, p4.2⟩ ∧ ok4 = true ∨ o = none ∧ ok4 = false) := Lib.hid (by
    rw [HOO.out]
    unfold descV
    rw [h1]
    dsimp only
    rw [h2]
    dsimp only
    rw [hsz]
    dsimp only
    rcases HOR4.out with ⟨h4, hk⟩ | ⟨h4, hk⟩
    · rw [h4]; exact .inl ⟨rfl, hk⟩
    · rw [h4]; exact .inr ⟨rfl, hk⟩)
  clear hW4
  go_wp2_with (first
    | ((with_reducible show wpList _ _ _ (⟨some 42, .load _ _, _, _, _, _⟩ :: _) _ _); refine wpList_load_row rfl 28 _ rfl (w.heap.size + 1) rfl 28 (encD ⟨t1, g2, n3, p4.1, p4.2⟩) (0, 0) _ Z4.out Tryz.underlying28 rfl (HID.out _ G4) ?_)
    | ((with_reducible show wpList _ _ _ (⟨none, .store _ (.tmp 2) _, _, _, _, _⟩ :: _) _ _); refine wpList_store_row rfl 28 _ _ rfl (w.heap.size + 1) (encD ⟨t1, g2, n3, p4.1, p4.2⟩) rfl rfl 28 _ Z4.out (HID.out _ G4) rfl (encD_one _) ?_))
  refine bodyPost_ret (results_row_tmp rfl _ _ (w.heap.size + 1) 28 (encD ⟨t1, g2, n3, p4.1, p4.2⟩) _ rfl (rowC_setRow Z4.out _) Tryz.underlying28 rfl (HID.out _ G4) (.bool ok4) rfl) rfl ?_
  exact ⟨⟨t1, g2, n3, p4.1, p4.2⟩, _, ok4, rfl, ⟨rfl, G4⟩, e0.out, below_setRow B4.out (by omega) _⟩
theorem rd_des : RdF eDes descV 42 #[] (fun _ => True) where
  enter := enter_des
  stay := fun _ _ _ _ => trivial
  call := fun x w y m z n ho hE _ hH => readDescriptor_any x w y m z n ho hE hH
end Go.Proofs.YtnkencdibniagaaGreatDoor

/- Layer 13: a descriptor without its platform. -/
namespace Go.Proofs.YtnkencdibniagaaGreatDoor
open Go.RowKit

set_option maxRecDepth 100000 in
set_option maxHeartbeats 8000000 in
theorem readPlain_any (x : JV) (w : World) (y : Option Addr) (m : Nat) (z : Option Addr) (n : Nat) (ho : okR x) (hE : Env2 w) (hH : HoldsC w (fun k => k < w.heap.size) x (.int .i64 x.kind) (.string (str x.text)) (.slice y x.items.length m) (.slice z x.keys.length n)) :
    Calls Tryz.prog 33 #[.agg (row4 x.kind (str x.text) y x.items.length m z x.keys.length n)] w fun e w' => ReadP eDes w (plainV x) e w' := by
  obtain ⟨W0, hW0⟩ : ∃ W0, W0 = (w.alloc (.cells (row4 x.kind (str x.text) y x.items.length m z x.keys.length n) 63)).alloc (.cells (encD zeroD) 28) := ⟨_, rfl⟩
  have s1 := size_alloc w (.cells (row4 x.kind (str x.text) y x.items.length m z x.keys.length n) 63)
  have Z0 : rowC W0 (w.heap.size + 1) (encD zeroD) 28 := by rw [hW0, ← s1]; exact rowC_new _ _ _
  have R0 : rowC W0 w.heap.size (row4 x.kind (str x.text) y x.items.length m z x.keys.length n) 63 := by rw [hW0]; exact rowC_alloc (rowC_new w _ _) _
  have B0 : Below w.heap.size w W0 := by rw [hW0]; exact ((Below.refl _ _).alloc (Nat.le_refl _) _).alloc (by omega) _
  have S0 : W0.heap.size = w.heap.size + 2 := by rw [hW0, size_alloc, s1]
  have CD := readDescriptor_any x W0 y m z n ho (hE.below B0) (HoldsC.mono (fun k hk _ => by show k < W0.heap.size; have hk : k < w.heap.size := hk; omega) _ _ _ _ _ (HoldsC.far hH B0))
  obtain ⟨o, ho_⟩ : ∃ o, o = plainV x := ⟨_, rfl⟩
  rw [← ho_]
  have HOO := Lib.hid ho_
  have HW0 := Lib.hid hW0
  have HR0 := Lib.hid R0
  have HZ0 := Lib.hid Z0
  have HB0 := Lib.hid B0
  have HI := Lib.hid info_V
  have HIP := Lib.hid info_P
  have HID := Lib.hid (fun (d : DV) (h : goodD d) => show (Tryz.prog.info? 28).map (·.size) = some (encD d).size by rw [encD_size d h]; exact info_D)
  have HSZ := Lib.hid (fun (d : DV) (h : goodD d) => show (encD zeroD).size = (encD d).size by rw [encD_size d h]; rfl)
  clear hW0 R0 B0 Z0 ho hE hH ho_
  go_enter Tryz.func33, Tryz.ntmps33
  go_upto_region 1 with (fail)
  rw [show (w.alloc (.cells (row4 x.kind (str x.text) y x.items.length m z x.keys.length n) 63)).alloc (.cells #[.string ⟨#[]⟩, .int .u8 0, .int .u8 0, .int .u8 0, .int .u8 0, .int .u8 0, .int .u8 0, .int .u8 0, .int .u8 0, .int .u8 0, .int .u8 0, .int .u8 0, .int .u8 0, .int .u8 0, .int .u8 0, .int .u8 0, .int .u8 0, .int .u8 0, .int .u8 0, .int .u8 0, .int .u8 0, .int .u8 0, .int .u8 0, .int .u8 0, .int .u8 0, .int .u8 0, .int .u8 0, .int .u8 0, .int .u8 0, .int .u8 0, .int .u8 0, .int .u8 0, .int .u8 0, .int .i64 0, .string ⟨#[]⟩, .string ⟨#[]⟩] 28) = W0 from HW0.out.symm]
  go_upto_region 2 with (first
    | ((with_reducible show wpList _ _ _ (⟨some 7, .load _ _, _, _, _, _⟩ :: _) _ _); refine wpList_load_row rfl 63 _ rfl w.heap.size rfl 63 (row4 x.kind (str x.text) y x.items.length m z x.keys.length n) (0, 0) _ HR0.out Tryz.underlying63 rfl HI.out ?_)
    | (go_at_call 42; ((with_reducible refine CD.mono ?_); rintro e w2 ⟨d, tv, ok, rfl, ⟨rfl, hl⟩, hor, hb⟩; have HOR := Lib.hid hor; have HB := Lib.hid hb; have HG := Lib.hid hl; clear hor hb hl CD))
    | ((with_reducible show wpList _ _ _ (⟨none, .store _ (.tmp 4) _, _, _, _, _⟩ :: _) _ _); refine wpList_store_last rfl 28 _ _ rfl w2.heap.size (encD d) rfl rfl 28 (encD zeroD) rfl (HID.out d HG.out) (HSZ.out d HG.out) (encD_one _) ?_))
  obtain ⟨W2, hW2⟩ : ∃ W2, W2 = w2.alloc (.cells (encD d) 28) := ⟨_, rfl⟩
  rw [← hW2]
  have s2 := HB.out.size
  have D2 : Hid (rowC W2 w2.heap.size (encD d) 28) := Lib.hid (by rw [hW2]; exact rowC_new _ _ _)
  have B2 : Hid (Below w.heap.size w W2) := Lib.hid (by rw [hW2]; exact (HB0.out.trans (HB.out.mono (by omega))).alloc (by omega) _)
  have Z2 : Hid (rowC W2 (w.heap.size + 1) (encD zeroD) 28) := Lib.hid (by rw [hW2]; exact rowC_alloc (rowC_below HZ0.out HB.out (by omega)) _)
  have HTH := Lib.hid (row_there D2.out 34 2 (by rw [encD_size _ HG.out]; decide))
  clear hW2
  go_upto_region 3 with (first
    | ((with_reducible show wpList _ _ _ (⟨some 11, .build _ _, _, _, _, _⟩ :: _) _ _); refine wpList_build_as rfl 26 _ rfl (encP ([], [])) (by kernel_rfl) ?_)
    | ((with_reducible show wpList _ _ _ (⟨none, .store _ (.tmp 12) _, _, _, _, _⟩ :: _) _ _); refine wpList_store_mid rfl 26 _ _ rfl w2.heap.size 34 (encP ([], [])) rfl rfl HTH.out HIP.out (encP_one _) ?_))
  obtain ⟨W3, hW3⟩ : ∃ W3, W3 = W2.setCells w2.heap.size 34 (encP ([], [])).toList := ⟨_, rfl⟩
  rw [← hW3]
  have D3 : Hid (rowC W3 w2.heap.size (encD d.plain) 28) := Lib.hid (by rw [hW3]; obtain ⟨d1, d2, d3, d4, d5⟩ := d; exact rowC_plat (p := ([], [])) D2.out HG.out.1)
  have B3 : Hid (Below w.heap.size w W3) := Lib.hid (by rw [hW3]; exact below_setCells (by omega) _ _ B2.out)
  have Z3 : Hid (rowC W3 (w.heap.size + 1) (encD zeroD) 28) := Lib.hid (by rw [hW3]; exact rowC_setCells_other (by omega) _ _ Z2.out)
  have G3 : Hid (goodD d.plain) := Lib.hid ⟨HG.out.1, HG.out.2.1, by simp [DV.plain], by simp [DV.plain]⟩
  have e0 : Hid (o = some d.plain ∧ ok = true ∨ o = none ∧ ok = false) := Lib.hid (by
    rw [HOO.out]
    unfold plainV
    rcases HOR.out with ⟨h, hk⟩ | ⟨h, hk⟩
    · rw [h]; exact .inl ⟨rfl, hk⟩
    · rw [h]; exact .inr ⟨rfl, hk⟩)
  clear hW3
  generalize d.plain = dp at *
  go_wp2_with (first
    | ((with_reducible show wpList _ _ _ (⟨some 13, .load _ _, _, _, _, _⟩ :: _) _ _); refine wpList_load_row rfl 28 _ rfl w2.heap.size rfl 28 (encD dp) (0, 0) _ D3.out Tryz.underlying28 rfl (HID.out _ G3.out) ?_)
    | ((with_reducible show wpList _ _ _ (⟨none, .store _ (.tmp 2) _, _, _, _, _⟩ :: _) _ _); refine wpList_store_row rfl 28 _ _ rfl (w.heap.size + 1) (encD dp) rfl rfl 28 _ Z3.out (HID.out _ G3.out) (HSZ.out _ G3.out) (encD_one _) ?_))
  refine bodyPost_ret (results_row_tmp rfl _ _ (w.heap.size + 1) 28 (encD dp) _ rfl (rowC_setRow Z3.out _) Tryz.underlying28 rfl (HID.out _ G3.out) (.bool ok) rfl) rfl ?_
  exact ⟨dp, _, ok, rfl, ⟨rfl, G3.out⟩, e0.out, below_setRow B3.out (by omega) _⟩
theorem rd_pln : RdF eDes plainV 33 #[] (fun _ => True) where
  enter := enter_pln
  stay := fun _ _ _ _ => trivial
  call := fun x w y m z n ho hE _ hH => readPlain_any x w y m z n ho hE hH
end Go.Proofs.YtnkencdibniagaaGreatDoor

/- Generic: a slice literal of one row. -/
namespace Go.Proofs.YtnkencdibniagaaGreatDoor
open Go.RowKit

theorem foldl_set : ∀ (l : List Value) (k : Nat) (base : Array Value), k + l.length ≤ base.size →
    ((l.zipIdx k).foldl (fun (a : Array Value) (p : Value × Nat) => a.setIfInBounds (0 + p.2) p.1) base).size = base.size ∧
    ∀ i, ((l.zipIdx k).foldl (fun (a : Array Value) (p : Value × Nat) => a.setIfInBounds (0 + p.2) p.1) base)[i]? = if k ≤ i ∧ i < k + l.length then l[i - k]? else base[i]?
  | [], k, base, _ => by
    refine ⟨rfl, fun i => ?_⟩
    rw [if_neg (by rw [List.length_nil]; omega)]
    rfl
  | c :: l, k, base, h => by
    rw [List.length_cons] at h
    have ih := foldl_set l (k + 1) (base.setIfInBounds (0 + k) c) (by rw [Array.size_setIfInBounds]; omega)
    rw [List.zipIdx_cons, List.foldl_cons]
    refine ⟨ih.1.trans (Array.size_setIfInBounds), fun i => ?_⟩
    rw [ih.2 i, List.length_cons]
    by_cases h1 : k + 1 ≤ i ∧ i < k + 1 + l.length
    · rw [if_pos h1, if_pos (by omega), show i - k = (i - (k + 1)) + 1 by omega, List.getElem?_cons_succ]
    · rw [if_neg h1]
      by_cases h2 : i = k
      · subst h2
        rw [if_pos (by omega), Nat.sub_self, List.getElem?_cons_zero, Nat.zero_add, Array.getElem?_setIfInBounds_self_of_lt (by omega)]
      · rw [if_neg (by omega), Nat.zero_add, Array.getElem?_setIfInBounds_ne (by omega)]
theorem fill_whole (cs base : Array Value) (h : base.size = cs.size) : cs.zipIdx.foldl (fun (a : Array Value) (p : Value × Nat) => a.setIfInBounds (0 + p.2) p.1) base = cs := by
  have h1 := foldl_set cs.toList 0 base (by simp [h])
  have e : cs.zipIdx.foldl (fun (a : Array Value) (p : Value × Nat) => a.setIfInBounds (0 + p.2) p.1) base = (cs.toList.zipIdx 0).foldl (fun (a : Array Value) (p : Value × Nat) => a.setIfInBounds (0 + p.2) p.1) base := by
    rw [← Array.foldl_toList, Array.toList_zipIdx]
  rw [e]
  apply Array.ext_getElem?
  intro i
  rw [h1.2 i]
  by_cases hi : i < cs.size
  · rw [if_pos (by simp; omega), Nat.sub_zero, Array.getElem?_toList]
  · rw [if_neg (by simp; omega), Array.getElem?_eq_none (by omega), Array.getElem?_eq_none (by omega)]
theorem wpList_oneR {P : Program} {ops : Array Oper} {rest : List Oper} {o : Oper} {a : Act} {w : World} {Q : Exit → Act → World → Prop} (hg : o.guard = none) (t e : TypeId) (n : Nat) (x : Operand) (ho : o.op = .buildSlice t 1 #[(0, x)])
    (cells : Array Value) (hx : a.eval x = .agg cells) (ie : TypeInfo) (z : Value) (hu : P.underlying t = some (.slice e)) (hie : P.info? e = some ie) (hz : ie.zero = some z) (hs : ie.size = n) (hn : cells.size = n) (hpos : 0 < n) (hsm : n ≤ 1000)
    (h : wpList P ops Q rest (a.put o.dst (.slice (some ⟨w.heap.size, 0, none⟩) 1 1)) (w.alloc (.cells cells e))) : wpList P ops Q (o :: rest) a w := by
  refine wpList_buildSlice hg t e 1 _ ho cells ie z hu hie hz (by omega) (by omega) ?_ h
  have e1 : (Array.map (fun (x : Nat × Operand) => (x.1, a.eval x.2)) #[(0, x)]).toList = [(0, .agg cells)] := by
    simp [hx]
  show Instr.fill _ _ (Array.map (fun (x : Nat × Operand) => (x.1, a.eval x.2)) #[(0, x)]).toList = some cells
  rw [e1]
  have hb : ((Array.range (1 * ie.size)).map (z.cells[· % z.cells.size]!)).size = cells.size := by simp [hs, hn]
  have hv : (Value.agg cells).cells = cells := rfl
  unfold Instr.fill
  simp only [Nat.zero_mul, hv]
  rw [if_neg (by simp [hs, hn])]
  unfold Instr.fill
  exact congrArg some (fill_whole cells _ hb)
end Go.Proofs.YtnkencdibniagaaGreatDoor

