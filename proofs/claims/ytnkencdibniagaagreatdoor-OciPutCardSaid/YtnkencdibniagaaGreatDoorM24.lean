/- Merged: OdH, Md, OdI. -/
import Derived.Test.YtnkencdibniagaaGreatDoorM23
import Derived.Test.YtnkencdibniagaaGreatDoorM21
/- Layer 13: a part of an object, where it has one. -/
namespace Go.Proofs.YtnkencdibniagaaGreatDoor
open Go.RowKit

theorem anyV_some {α : Type} {z : α} {v x : JV} {key : Bs} {f : JV → Option α} (h : getV v key = some x) : anyV z v key f = partV v key f := by unfold anyV partV; rw [h]; rfl
theorem anyV_none {α : Type} {z : α} {v : JV} {key : Bs} {f : JV → Option α} (h : getV v key = none) : anyV z v key f = some z := by unfold anyV; rw [h]
set_option maxRecDepth 100000 in
set_option maxHeartbeats 8000000 in
theorem any_txt {f : JV → Option (Bs)} {fn : FuncId} {lb : Array Value} {inv : World → Prop} (R : RdF eTxt f fn lb inv) {v : JV} (ho : okR v) (key : Bs) {w : World} {a b c d : Value} (hE : Env2 w) (hi : inv w) (hH : HoldsC w (fun k => k < w.heap.size) v a b c d) :
    Calls Tryz.prog 75 #[.agg #[a, b, c, d], .string (str key), .func (.func fn) #[] lb] w fun e w' => ReadP eTxt w (anyV [] v key f) e w' := by
  obtain ⟨rfl, rfl, ⟨x1, c1, rfl⟩, x2, c2, rfl⟩ := hH.form
  obtain ⟨W0, hW0⟩ : ∃ W0, W0 = w.alloc (.cells (row4 v.kind (str v.text) x1 v.items.length c1 x2 v.keys.length c2) 63) := ⟨_, rfl⟩
  have R0 : rowC W0 w.heap.size (row4 v.kind (str v.text) x1 v.items.length c1 x2 v.keys.length c2) 63 := by rw [hW0]; exact rowC_new w _ _
  have B0 : Below w.heap.size w W0 := by rw [hW0]; exact (Below.refl _ _).alloc (Nat.le_refl _) _
  have S0 : W0.heap.size = w.heap.size + 1 := by rw [hW0, size_alloc]
  have CG : Calls Tryz.prog 77 #[.agg (row4 v.kind (str v.text) x1 v.items.length c1 x2 v.keys.length c2), .string (str key)] W0 fun e w' => GetP W0 (getV v key) e w' := get_any ho.1 ho.2 key (w := W0) (HoldsC.mono (fun k hk _ => by show k < W0.heap.size; have hk : k < w.heap.size := hk; omega) _ _ _ _ _ (HoldsC.far hH B0))
  obtain ⟨o, ho_⟩ : ∃ o, o = anyV [] v key f := ⟨_, rfl⟩
  rw [← ho_]
  have hEn := R.enter
  have HOO := Lib.hid ho_
  have HW0 := Lib.hid hW0
  have HR0 := Lib.hid R0
  have HB0 := Lib.hid B0
  have HI := Lib.hid info_V
  have HOR := Lib.hid ho
  have HE := Lib.hid hE
  have HINV := Lib.hid hi
  have HR := Lib.hid R
  have HHV := Lib.hid hH
  clear hW0 R0 B0 ho hE hi R hH ho_
  go_enter Tryz.func75, Tryz.ntmps75
  go_upto_region 1 with (fail)
  rw [show w.alloc (.cells #[.int .i64 v.kind, .string (str v.text), .slice x1 v.items.length c1, .slice x2 v.keys.length c2] 63) = W0 from HW0.out.symm]
  go_upto_region 2 with (first
    | ((with_reducible show wpList _ _ _ (⟨some 11, .load _ _, _, _, _, _⟩ :: _) _ _); refine wpList_load_row rfl 63 _ rfl w.heap.size rfl 63 (row4 v.kind (str v.text) x1 v.items.length c1 x2 v.keys.length c2) (0, 0) _ HR0.out Tryz.underlying63 rfl HI.out ?_)
    | (go_at_call 77; ((with_reducible refine CG.mono ?_); rintro e w2 ⟨x, ok, y, m, z, n, rfl, hV, hor, hb2⟩; have HV := Lib.hid hV; have HB2 := Lib.hid hb2; have HX := Lib.hid hor; clear hV hb2 hor CG))
    | ((with_reducible show wpList _ _ _ (⟨none, .store _ (.tmp 8) _, _, _, _, _⟩ :: _) _ _); refine wpList_store_last rfl 63 _ _ rfl w2.heap.size (row4 x.kind (str x.text) y x.items.length m z x.keys.length n) rfl rfl 63 zeroV4 rfl HI.out rfl (row4_all _ _ _ _ _ _ _ _) ?_))
  obtain ⟨W2, hW2⟩ : ∃ W2, W2 = w2.alloc (.cells (row4 x.kind (str x.text) y x.items.length m z x.keys.length n) 63) := ⟨_, rfl⟩
  rw [← hW2]
  have R2 : Hid (rowC W2 w2.heap.size (row4 x.kind (str x.text) y x.items.length m z x.keys.length n) 63) := Lib.hid (by rw [hW2]; exact rowC_new _ _ _)
  have BB : Hid (Below w2.heap.size w2 W2) := Lib.hid (by rw [hW2]; exact (Below.refl _ _).alloc (Nat.le_refl _) _)
  have s2 := HB2.out.size
  have sb := BB.out.size
  have BT : Hid (Below w.heap.size w W2) := Lib.hid ((HB0.out.trans (HB2.out.mono (by omega))).trans (BB.out.mono (by omega)))
  clear hW2
  rcases HX.out with ⟨hx, hok⟩ | ⟨hx, hok, _⟩
  · subst hok
    have e0 : Hid (o = partV v key f) := Lib.hid (by rw [HOO.out]; exact anyV_some hx)
    have CR : Calls Tryz.prog 80 #[.agg (row4 v.kind (str v.text) x1 v.items.length c1 x2 v.keys.length c2), .string (str key), .func (.func fn) #[] lb] W2 fun e w' => ReadP eTxt W2 (partV v key f) e w' := part_txt HR.out HOR.out key (HE.out.below BT.out) (HR.out.stay _ _ HINV.out BT.out) (HoldsC.mono (fun k hk _ => by show k < W2.heap.size; have hk : k < w.heap.size := hk; omega) _ _ _ _ _ (HoldsC.far HHV.out BT.out))
    have RB : Hid (rowC W2 w.heap.size (row4 v.kind (str v.text) x1 v.items.length c1 x2 v.keys.length c2) 63) := Lib.hid (rowC_below (rowC_below HR0.out HB2.out (by omega)) BB.out (by omega))
    go_wp2_with (first
      | ((with_reducible show wpList _ _ _ (⟨some 19, .load _ _, _, _, _, _⟩ :: _) _ _); refine wpList_load_row rfl 63 _ rfl w.heap.size rfl 63 (row4 v.kind (str v.text) x1 v.items.length c1 x2 v.keys.length c2) (0, 0) _ RB.out Tryz.underlying63 rfl HI.out ?_)
      | (go_at_call 80; (with_reducible refine CR.mono ?_); rintro e w3 ⟨a3, t3, ok3, rfl, hA, hor3, hb3⟩))
    go_ret2
    rw [e0.out]
    exact (ReadP.out (E := eTxt) ⟨a3, t3, ok3, rfl, hA, hor3, hb3⟩ BT.out (by omega))
  · subst hok
    have e0 : Hid (o = some []) := Lib.hid (by rw [HOO.out]; exact anyV_none hx)
    go_wp2
    go_ret2
    rw [e0.out]
    exact ⟨[], _, true, rfl, ⟨rfl, by simp⟩, .inl ⟨rfl, rfl⟩, BT.out⟩
set_option maxRecDepth 100000 in
set_option maxHeartbeats 8000000 in
theorem any_pla {f : JV → Option (Bs × Bs)} {fn : FuncId} {lb : Array Value} {inv : World → Prop} (R : RdF ePla f fn lb inv) {v : JV} (ho : okR v) (key : Bs) {w : World} {a b c d : Value} (hE : Env2 w) (hi : inv w) (hH : HoldsC w (fun k => k < w.heap.size) v a b c d) :
    Calls Tryz.prog 84 #[.agg #[a, b, c, d], .string (str key), .func (.func fn) #[] lb] w fun e w' => ReadP ePla w (anyV ([], []) v key f) e w' := by
  obtain ⟨rfl, rfl, ⟨x1, c1, rfl⟩, x2, c2, rfl⟩ := hH.form
  obtain ⟨W0, hW0⟩ : ∃ W0, W0 = (w.alloc (.cells (row4 v.kind (str v.text) x1 v.items.length c1 x2 v.keys.length c2) 63)).alloc (.cells (encP ([], [])) 26) := ⟨_, rfl⟩
  have s1 := size_alloc w (.cells (row4 v.kind (str v.text) x1 v.items.length c1 x2 v.keys.length c2) 63)
  have Z0 : rowC W0 (w.heap.size + 1) (encP ([], [])) 26 := by rw [hW0, ← s1]; exact rowC_new _ _ _
  have R0 : rowC W0 w.heap.size (row4 v.kind (str v.text) x1 v.items.length c1 x2 v.keys.length c2) 63 := by rw [hW0]; exact rowC_alloc (rowC_new w _ _) _
  have B0 : Below w.heap.size w W0 := by rw [hW0]; exact ((Below.refl _ _).alloc (Nat.le_refl _) _).alloc (by omega) _
  have S0 : W0.heap.size = w.heap.size + 2 := by rw [hW0, size_alloc, s1]
  have CG : Calls Tryz.prog 77 #[.agg (row4 v.kind (str v.text) x1 v.items.length c1 x2 v.keys.length c2), .string (str key)] W0 fun e w' => GetP W0 (getV v key) e w' := get_any ho.1 ho.2 key (w := W0) (HoldsC.mono (fun k hk _ => by show k < W0.heap.size; have hk : k < w.heap.size := hk; omega) _ _ _ _ _ (HoldsC.far hH B0))
  obtain ⟨o, ho_⟩ : ∃ o, o = anyV ([], []) v key f := ⟨_, rfl⟩
  rw [← ho_]
  have hEn := R.enter
  have HOO := Lib.hid ho_
  have HW0 := Lib.hid hW0
  have HZ0 := Lib.hid Z0
  have HIT := Lib.hid info_P
  have HR0 := Lib.hid R0
  have HB0 := Lib.hid B0
  have HI := Lib.hid info_V
  have HOR := Lib.hid ho
  have HE := Lib.hid hE
  have HINV := Lib.hid hi
  have HR := Lib.hid R
  have HHV := Lib.hid hH
  clear hW0 R0 B0 Z0 ho hE hi R hH ho_
  go_enter Tryz.func84, Tryz.ntmps84
  go_upto_region 1 with (fail)
  rw [show (w.alloc (.cells #[.int .i64 v.kind, .string (str v.text), .slice x1 v.items.length c1, .slice x2 v.keys.length c2] 63)).alloc (.cells #[.string ⟨#[]⟩, .string ⟨#[]⟩] 26) = W0 from HW0.out.symm]
  go_upto_region 2 with (first
    | ((with_reducible show wpList _ _ _ (⟨some 11, .load _ _, _, _, _, _⟩ :: _) _ _); refine wpList_load_row rfl 63 _ rfl w.heap.size rfl 63 (row4 v.kind (str v.text) x1 v.items.length c1 x2 v.keys.length c2) (0, 0) _ HR0.out Tryz.underlying63 rfl HI.out ?_)
    | (go_at_call 77; ((with_reducible refine CG.mono ?_); rintro e w2 ⟨x, ok, y, m, z, n, rfl, hV, hor, hb2⟩; have HV := Lib.hid hV; have HB2 := Lib.hid hb2; have HX := Lib.hid hor; clear hV hb2 hor CG))
    | ((with_reducible show wpList _ _ _ (⟨none, .store _ (.tmp 8) _, _, _, _, _⟩ :: _) _ _); refine wpList_store_last rfl 63 _ _ rfl w2.heap.size (row4 x.kind (str x.text) y x.items.length m z x.keys.length n) rfl rfl 63 zeroV4 rfl HI.out rfl (row4_all _ _ _ _ _ _ _ _) ?_))
  obtain ⟨W2, hW2⟩ : ∃ W2, W2 = w2.alloc (.cells (row4 x.kind (str x.text) y x.items.length m z x.keys.length n) 63) := ⟨_, rfl⟩
  rw [← hW2]
  have R2 : Hid (rowC W2 w2.heap.size (row4 x.kind (str x.text) y x.items.length m z x.keys.length n) 63) := Lib.hid (by rw [hW2]; exact rowC_new _ _ _)
  have BB : Hid (Below w2.heap.size w2 W2) := Lib.hid (by rw [hW2]; exact (Below.refl _ _).alloc (Nat.le_refl _) _)
  have s2 := HB2.out.size
  have sb := BB.out.size
  have BT : Hid (Below w.heap.size w W2) := Lib.hid ((HB0.out.trans (HB2.out.mono (by omega))).trans (BB.out.mono (by omega)))
  have HZ2 : Hid (rowC W2 (w.heap.size + 1) (encP ([], [])) 26) := Lib.hid (rowC_below (rowC_below HZ0.out HB2.out (by omega)) BB.out (by omega))
  clear hW2
  rcases HX.out with ⟨hx, hok⟩ | ⟨hx, hok, _⟩
  · subst hok
    have e0 : Hid (o = partV v key f) := Lib.hid (by rw [HOO.out]; exact anyV_some hx)
    have CR : Calls Tryz.prog 116 #[.agg (row4 v.kind (str v.text) x1 v.items.length c1 x2 v.keys.length c2), .string (str key), .func (.func fn) #[] lb] W2 fun e w' => ReadP ePla W2 (partV v key f) e w' := part_pla HR.out HOR.out key (HE.out.below BT.out) (HR.out.stay _ _ HINV.out BT.out) (HoldsC.mono (fun k hk _ => by show k < W2.heap.size; have hk : k < w.heap.size := hk; omega) _ _ _ _ _ (HoldsC.far HHV.out BT.out))
    have RB : Hid (rowC W2 w.heap.size (row4 v.kind (str v.text) x1 v.items.length c1 x2 v.keys.length c2) 63) := Lib.hid (rowC_below (rowC_below HR0.out HB2.out (by omega)) BB.out (by omega))
    go_wp2_with (first
      | ((with_reducible show wpList _ _ _ (⟨some 19, .load _ _, _, _, _, _⟩ :: _) _ _); refine wpList_load_row rfl 63 _ rfl w.heap.size rfl 63 (row4 v.kind (str v.text) x1 v.items.length c1 x2 v.keys.length c2) (0, 0) _ RB.out Tryz.underlying63 rfl HI.out ?_)
      | (go_at_call 116; (with_reducible refine CR.mono ?_); rintro e w3 ⟨a3, t3, ok3, rfl, ⟨rfl, hA2⟩, hor3, hb3⟩; have HA := Lib.hid hA2; clear hA2; have HO3 := Lib.hid hor3; clear hor3; have HZ3 := Lib.hid (rowC_below HZ2.out hb3 (by omega)))
      | ((with_reducible show wpList _ _ _ (⟨none, .store _ (.tmp 6) _, _, _, _, _⟩ :: _) _ _); refine wpList_store_row rfl 26 _ _ rfl (w.heap.size + 1) (encP a3) rfl rfl 26 (encP ([], [])) HZ3.out (by rw [show (encP a3).size = 2 from rfl]; exact HIT.out) (by rw [show (encP a3).size = 2 from rfl]; rfl) (encP_one _) ?_))
    refine bodyPost_ret (results_row_tmp rfl _ _ (w.heap.size + 1) 26 (encP a3) _ rfl (rowC_setRow HZ3.out _) Tryz.underlying26 rfl (by rw [show (encP a3).size = 2 from rfl]; exact HIT.out) (.bool ok3) rfl) rfl ?_
    rw [e0.out]
    exact ⟨a3, _, ok3, rfl, ⟨rfl, HA.out⟩, HO3.out, below_setRow (BT.out.trans (hb3.mono (by omega))) (by omega) _⟩
  · subst hok
    have e0 : Hid (o = some ([], [])) := Lib.hid (by rw [HOO.out]; exact anyV_none hx)
    go_wp2_with (first
      | ((with_reducible show wpList _ _ _ (⟨some 18, .load _ _, _, _, _, _⟩ :: _) _ _); refine wpList_load_row rfl 26 _ rfl (w.heap.size + 1) rfl 26 (encP ([], [])) (0, 0) _ HZ2.out Tryz.underlying26 rfl HIT.out ?_)
      | ((with_reducible show wpList _ _ _ (⟨none, .store _ (.tmp 6) _, _, _, _, _⟩ :: _) _ _); refine wpList_store_row rfl 26 _ _ rfl (w.heap.size + 1) (encP ([], [])) rfl rfl 26 (encP ([], [])) HZ2.out HIT.out rfl (encP_one _) ?_))
    refine bodyPost_ret (results_row_tmp rfl _ _ (w.heap.size + 1) 26 (encP ([], [])) _ rfl (rowC_setRow HZ2.out _) Tryz.underlying26 rfl HIT.out (.bool true) rfl) rfl ?_
    rw [e0.out]
    exact ⟨([], []), _, true, rfl, ⟨rfl, by simp⟩, .inl ⟨rfl, rfl⟩, below_setRow BT.out (by omega) _⟩
end Go.Proofs.YtnkencdibniagaaGreatDoor

/- Generic: some cells of a row are set, one behind the other. -/
namespace Go.Proofs.YtnkencdibniagaaGreatDoor
open Go.RowKit

/-- Cells in a row, one behind the other, set. -/
theorem rowC_setCells {b : Nat} {t : TypeId} : ∀ (vs : List Value) (o : Nat) {w : World} {cs : List Value}, rowC w b cs.toArray t → o + vs.length ≤ cs.length → rowC (w.setCells b o vs) b (cs.take o ++ vs ++ cs.drop (o + vs.length)).toArray t
  | [], o, w, cs, h, _ => by
    rw [List.append_nil, List.length_nil, Nat.add_zero, List.take_append_drop]
    exact h
  | v :: r, o, w, cs, h, hl => by
    rw [List.length_cons] at hl
    have h1 := rowC_set h o v
    rw [List.setIfInBounds_toArray] at h1
    have h2 := rowC_setCells r (o + 1) h1 (by rw [List.length_set]; omega)
    rw [World.setCells]
    have e : (cs.set o v).take (o + 1) ++ r ++ (cs.set o v).drop (o + 1 + r.length) = cs.take o ++ (v :: r) ++ cs.drop (o + (v :: r).length) := by
      rw [List.drop_set_of_lt (by omega), List.take_succ_eq_append_getElem (by rw [List.length_set]; omega), List.getElem_set_self, List.take_set_of_le (Nat.le_refl _), List.length_cons]
      simp [Nat.add_assoc, Nat.add_comm 1]
    rw [e] at h2
    exact h2
theorem rowC_setCells_other {b g : Nat} {t : TypeId} {cs : Array Value} (hne : g ≠ b) : ∀ (vs : List Value) (o : Nat) {w : World}, rowC w g cs t → rowC (w.setCells b o vs) g cs t
  | [], _, _, h => h
  | v :: r, o, w, h => by
    rw [World.setCells]
    exact rowC_setCells_other hne r (o + 1) (rowC_other h _ _ hne)
theorem below_setCells {B b : Nat} {a : World} (hb : B ≤ b) : ∀ (vs : List Value) (o : Nat) {w : World}, Below B a w → Below B a (w.setCells b o vs)
  | [], _, _, h => h
  | v :: r, o, w, h => by
    rw [World.setCells]
    exact below_setCells hb r (o + 1) (h.setCell (p := ⟨b, o, none⟩) hb _)
theorem row_there {w : World} {b : Nat} {t : TypeId} {cs : Array Value} (h : rowC w b cs t) (o n : Nat) (hn : o + n ≤ cs.size) : w.there b o n := fun j hj => by
  refine ⟨?_, rowC_free h _⟩
  rw [rowC_cell h, Array.getElem?_eq_getElem (by omega)]
  rfl
end Go.Proofs.YtnkencdibniagaaGreatDoor

/- Layer 13: a platform, a digest, a media type, as they are read. -/
namespace Go.Proofs.YtnkencdibniagaaGreatDoor
open Go.RowKit

theorem enter_pla (args : Array Value) (w : World) : (callFunc 43 args).run Tryz.prog w = .ok (.enter 43 args) w := by kernel_rfl
theorem enter_dig (args : Array Value) (w : World) : (callFunc 83 args).run Tryz.prog w = .ok (.enter 83 args) w := by kernel_rfl
set_option maxRecDepth 100000 in
set_option maxHeartbeats 8000000 in
theorem readPlatform_any (x : JV) (w : World) (y : Option Addr) (m : Nat) (z : Option Addr) (n : Nat) (ho : okR x) (hE : Env2 w) (hH : HoldsC w (fun k => k < w.heap.size) x (.int .i64 x.kind) (.string (str x.text)) (.slice y x.items.length m) (.slice z x.keys.length n)) :
    Calls Tryz.prog 43 #[.agg (row4 x.kind (str x.text) y x.items.length m z x.keys.length n)] w fun e w' => ReadP ePla w (platV x) e w' := by
  obtain ⟨W0, hW0⟩ : ∃ W0, W0 = (w.alloc (.cells (row4 x.kind (str x.text) y x.items.length m z x.keys.length n) 63)).alloc (.cells (encP ([], [])) 26) := ⟨_, rfl⟩
  have s1 := size_alloc w (.cells (row4 x.kind (str x.text) y x.items.length m z x.keys.length n) 63)
  have Z0 : rowC W0 (w.heap.size + 1) (encP ([], [])) 26 := by rw [hW0, ← s1]; exact rowC_new _ _ _
  have R0 : rowC W0 w.heap.size (row4 x.kind (str x.text) y x.items.length m z x.keys.length n) 63 := by rw [hW0]; exact rowC_alloc (rowC_new w _ _) _
  have B0 : Below w.heap.size w W0 := by rw [hW0]; exact ((Below.refl _ _).alloc (Nat.le_refl _) _).alloc (by omega) _
  have S0 : W0.heap.size = w.heap.size + 2 := by rw [hW0, size_alloc, s1]
  have CT : ∀ (key : Bs) (w' : World), Below w.heap.size w w' → w.heap.size ≤ w'.heap.size → Calls Tryz.prog 80 #[.agg (row4 x.kind (str x.text) y x.items.length m z x.keys.length n), .string (str key), .func (.func 81) #[] #[]] w' fun e w2 => ReadP eTxt w' (partV x key textV) e w2 := fun key w' hb hs =>
    part_txt rd_text ho key (hE.below hb) trivial (HoldsC.mono (fun k hk _ => Nat.lt_of_lt_of_le hk hs) _ _ _ _ _ (HoldsC.far hH hb))
  have CO : Calls Tryz.prog 80 #[.agg (row4 x.kind (str x.text) y x.items.length m z x.keys.length n), .string ⟨#[111, 115]⟩, .func (.func 81) #[] #[]] W0 fun e w2 => ReadP eTxt W0 (partV x kOS textV) e w2 := CT kOS W0 B0 (by omega)
  obtain ⟨o, ho_⟩ : ∃ o, o = platV x := ⟨_, rfl⟩
  rw [← ho_]
  have HOO := Lib.hid ho_
  have HW0 := Lib.hid hW0
  have HR0 := Lib.hid R0
  have HZ0 := Lib.hid Z0
  have HB0 := Lib.hid B0
  have HI := Lib.hid info_V
  have HIP := Lib.hid info_P
  clear hW0 R0 B0 Z0 ho hE hH ho_
  go_enter Tryz.func43, Tryz.ntmps43
  go_upto_region 1 with (fail)
  rw [show (w.alloc (.cells (row4 x.kind (str x.text) y x.items.length m z x.keys.length n) 63)).alloc (.cells #[.string ⟨#[]⟩, .string ⟨#[]⟩] 26) = W0 from HW0.out.symm]
  go_upto_region 2 with (first
    | ((with_reducible show wpList _ _ _ (⟨some 5, .load _ _, _, _, _, _⟩ :: _) _ _); refine wpList_load_row rfl 63 _ rfl w.heap.size rfl 63 (row4 x.kind (str x.text) y x.items.length m z x.keys.length n) (0, 0) _ HR0.out Tryz.underlying63 rfl HI.out ?_)
    | (go_at_call 80; ((with_reducible refine CO.mono ?_); rintro e w2 ⟨t1, tv, ok1, rfl, ⟨rfl, hl1⟩, hor1, hb1⟩; have HOR1 := Lib.hid hor1; have HB1 := Lib.hid hb1; have HL1 := Lib.hid hl1; have HZ1 := Lib.hid (rowC_below HZ0.out hb1 (by omega)); have c0 := rowC_cell HZ1.out 0; have f0 := rowC_free HZ1.out 0; clear hor1 hb1 hl1 CO)))
  obtain ⟨W1, hW1⟩ : ∃ W1, W1 = w2.setCell ⟨w.heap.size + 1, 0, none⟩ (.string (str t1)) := ⟨_, rfl⟩
  rw [← hW1]
  have s2 := HB1.out.size
  have Z1 : Hid (rowC W1 (w.heap.size + 1) (encP (t1, [])) 26) := Lib.hid (by rw [hW1]; exact rowC_set HZ1.out 0 _)
  have R1 : Hid (rowC W1 w.heap.size (row4 x.kind (str x.text) y x.items.length m z x.keys.length n) 63) := Lib.hid (by rw [hW1]; exact rowC_other (rowC_below HR0.out HB1.out (by omega)) _ _ (by show w.heap.size ≠ w.heap.size + 1; omega))
  have B1 : Hid (Below w.heap.size w W1) := Lib.hid (by rw [hW1]; exact (HB0.out.trans (HB1.out.mono (by omega))).setCell (p := ⟨w.heap.size + 1, 0, none⟩) (by show w.heap.size ≤ w.heap.size + 1; omega) _)
  have l1 := rowC_lt Z1.out
  clear hW1 c0 f0
  rcases HOR1.out with ⟨h1, hok⟩ | ⟨h1, hok⟩
  rotate_left
  · subst hok
    have e0 : Hid (o = none) := Lib.hid (by rw [HOO.out]; unfold platV; rw [h1])
    go_wp2_with (first
      | ((with_reducible show wpList _ _ _ (⟨some 12, .load _ _, _, _, _, _⟩ :: _) _ _); refine wpList_load_row rfl 26 _ rfl (w.heap.size + 1) rfl 26 (encP (t1, [])) (0, 0) _ Z1.out Tryz.underlying26 rfl HIP.out ?_)
      | ((with_reducible show wpList _ _ _ (⟨none, .store _ (.tmp 2) _, _, _, _, _⟩ :: _) _ _); refine wpList_store_row rfl 26 _ _ rfl (w.heap.size + 1) (encP (t1, [])) rfl rfl 26 _ Z1.out HIP.out rfl (encP_one _) ?_))
    refine bodyPost_ret (results_row_tmp rfl _ _ (w.heap.size + 1) 26 (encP (t1, [])) _ rfl (rowC_setRow Z1.out _) Tryz.underlying26 rfl HIP.out (.bool false) rfl) rfl ?_
    rw [e0.out]
    exact ⟨(t1, []), _, false, rfl, ⟨rfl, HL1.out, by simp⟩, .inr ⟨rfl, rfl⟩, below_setRow B1.out (by omega) _⟩
  subst hok
  have CA : Calls Tryz.prog 80 #[.agg (row4 x.kind (str x.text) y x.items.length m z x.keys.length n), .string ⟨#[97, 114, 99, 104, 105, 116, 101, 99, 116, 117, 114, 101]⟩, .func (.func 81) #[] #[]] W1 fun e w2 => ReadP eTxt W1 (partV x kArc textV) e w2 := CT kArc W1 B1.out (by omega)
  go_upto_region 5 with (first
    | ((with_reducible show wpList _ _ _ (⟨some 14, .load _ _, _, _, _, _⟩ :: _) _ _); refine wpList_load_row rfl 63 _ rfl w.heap.size rfl 63 (row4 x.kind (str x.text) y x.items.length m z x.keys.length n) (0, 0) _ R1.out Tryz.underlying63 rfl HI.out ?_)
    | (go_at_call 80; ((with_reducible refine CA.mono ?_); rintro e w3 ⟨t2, tv, ok2, rfl, ⟨rfl, hl2⟩, hor2, hb2⟩; have HOR2 := Lib.hid hor2; have HB2 := Lib.hid hb2; have HL2 := Lib.hid hl2; have HZ2 := Lib.hid (rowC_below Z1.out hb2 (by omega)); have c0 := rowC_cell HZ2.out 1; have f0 := rowC_free HZ2.out 1; clear hor2 hb2 hl2 CA)))
  obtain ⟨W3, hW3⟩ : ∃ W3, W3 = w3.setCell ⟨w.heap.size + 1, 1, none⟩ (.string (str t2)) := ⟨_, rfl⟩
  rw [← hW3]
  have Z3 : Hid (rowC W3 (w.heap.size + 1) (encP (t1, t2)) 26) := Lib.hid (by rw [hW3]; exact rowC_set HZ2.out 1 _)
  have B3 : Hid (Below w.heap.size w W3) := Lib.hid (by rw [hW3]; exact (B1.out.trans (HB2.out.mono (by omega))).setCell (p := ⟨w.heap.size + 1, 1, none⟩) (by show w.heap.size ≤ w.heap.size + 1; omega) _)
  have e0 : Hid (o = some (t1, t2) ∧ ok2 = true ∨ o = none ∧ ok2 = false) := Lib.hid (by
    rw [HOO.out]
    unfold platV
    rw [h1]
    dsimp only
    rcases HOR2.out with ⟨h2, hk⟩ | ⟨h2, hk⟩
    · rw [h2]; exact .inl ⟨rfl, hk⟩
    · rw [h2]; exact .inr ⟨rfl, hk⟩)
  clear hW3 c0 f0
  go_wp2_with (first
    | ((with_reducible show wpList _ _ _ (⟨some 19, .load _ _, _, _, _, _⟩ :: _) _ _); refine wpList_load_row rfl 26 _ rfl (w.heap.size + 1) rfl 26 (encP (t1, t2)) (0, 0) _ Z3.out Tryz.underlying26 rfl HIP.out ?_)
    | ((with_reducible show wpList _ _ _ (⟨none, .store _ (.tmp 2) _, _, _, _, _⟩ :: _) _ _); refine wpList_store_row rfl 26 _ _ rfl (w.heap.size + 1) (encP (t1, t2)) rfl rfl 26 _ Z3.out HIP.out rfl (encP_one _) ?_))
  refine bodyPost_ret (results_row_tmp rfl _ _ (w.heap.size + 1) 26 (encP (t1, t2)) _ rfl (rowC_setRow Z3.out _) Tryz.underlying26 rfl HIP.out (.bool ok2) rfl) rfl ?_
  exact ⟨(t1, t2), _, ok2, rfl, ⟨rfl, HL1.out, HL2.out⟩, e0.out, below_setRow B3.out (by omega) _⟩
theorem rd_pla : RdF ePla platV 43 #[] (fun _ => True) where
  enter := enter_pla
  stay := fun _ _ _ _ => trivial
  call := fun x w y m z n ho hE _ hH => readPlatform_any x w y m z n ho hE hH
end Go.Proofs.YtnkencdibniagaaGreatDoor

