/- Merged: OdG, OdH, Md. -/
import Derived.Test.YtnkencdibniagaaGreatDoorM23
import Derived.Test.YtnkencdibniagaaGreatDoorM20
/- Layer 13: a part of an object, as it is read. -/
namespace Go.Proofs.YtnkencdibniagaaGreatDoor
open Go.RowKit

/-- Rows of n cells, one behind the other. -/
def RowsE {α : Type} (enc : α → Array Value) (n : Nat) (good : α → Prop) (w : World) (F : Nat → Prop) (l : List α) (t : Value) : Prop :=
  (t = .slice none 0 0 ∧ l = []) ∨ ∃ (ad : Addr) (cap : Nat), t = .slice (some ad) l.length cap ∧ ∀ i d, l[i]? = some d → F ad.block ∧ good d ∧ ∀ j u, (enc d).toList[j]? = some u → w.cell? (ad.add (n * i + j)) = some u
def En.rows {α : Type} (enc : α → Array Value) (n : Nat) (good : α → Prop) (hn : ∀ d, good d → 0 < (enc d).size) : En (List α) where
  at_ := RowsE enc n good
  zero := []
  chg := fun {s F w w' l t} h hc hs => by
    rcases h with h | ⟨ad, cap, h1, h2⟩
    · exact .inl h
    · exact .inr ⟨ad, cap, h1, fun i d hi => ⟨(h2 i d hi).1, (h2 i d hi).2.1, fun j u hu => cell_chg hc ((h2 i d hi).2.2 j u hu) (by rw [add_block]; exact hs _ (h2 i d hi).1)⟩⟩
  mono := fun {F G w l t} h hs => by
    rcases h with h | ⟨ad, cap, h1, h2⟩
    · exact .inl h
    · refine .inr ⟨ad, cap, h1, fun i d hi => ⟨hs _ (h2 i d hi).1 ?_, (h2 i d hi).2⟩⟩
      have h0 := hn d (h2 i d hi).2.1
      have := World.block_lt_of_cell? w _ ((h2 i d hi).2.2 0 _ (by rw [Array.getElem?_toList]; exact Array.getElem?_eq_getElem h0))
      rwa [add_block] at this
theorem encD_size (d : DV) (h : goodD d) : (encD d).size = 36 := by
  unfold encD
  rw [Array.size_append, Array.size_append, cells8_size, h.1]
  rfl
theorem encD_one (d : DV) : (encD d).all (·.oneCell') = true := by
  unfold encD
  rw [Array.all_append, Array.all_append, cells8_one]
  simp [Value.oneCell']
theorem encP_one (p : Bs × Bs) : (encP p).all (·.oneCell') = true := by
  unfold encP
  simp [Value.oneCell']
def eDess : En (List DV) := En.rows encD 36 goodD (fun d h => by rw [encD_size d h]; decide)
def eDigs : En (List Bs) := En.rows cells8 32 (fun d => d.length = 32) (fun d h => by rw [cells8_size, h]; decide)
theorem info_D : (Tryz.prog.info? 28).map (·.size) = some 36 := by kernel_rfl
theorem info_P : (Tryz.prog.info? 26).map (·.size) = some 2 := by kernel_rfl
theorem info_G : (Tryz.prog.info? 24).map (·.size) = some 32 := by kernel_rfl
theorem partV_some {α : Type} {v x : JV} {key : Bs} {f : JV → Option α} (h : getV v key = some x) : partV v key f = f x := by unfold partV; rw [h]; rfl
theorem partV_none {α : Type} {v : JV} {key : Bs} {f : JV → Option α} (h : getV v key = none) : partV v key f = none := by unfold partV; rw [h]; rfl
set_option maxRecDepth 100000 in
set_option maxHeartbeats 8000000 in
theorem part_int {f : JV → Option (Int)} {fn : FuncId} {lb : Array Value} {inv : World → Prop} (R : RdF eInt f fn lb inv) {v : JV} (ho : okR v) (key : Bs) {w : World} {a b c d : Value} (hE : Env2 w) (hi : inv w) (hH : HoldsC w (fun k => k < w.heap.size) v a b c d) :
    Calls Tryz.prog 73 #[.agg #[a, b, c, d], .string (str key), .func (.func fn) #[] lb] w fun e w' => ReadP eInt w (partV v key f) e w' := by
  obtain ⟨rfl, rfl, ⟨x1, c1, rfl⟩, x2, c2, rfl⟩ := hH.form
  obtain ⟨W0, hW0⟩ : ∃ W0, W0 = w.alloc (.cells (row4 v.kind (str v.text) x1 v.items.length c1 x2 v.keys.length c2) 63) := ⟨_, rfl⟩
  have R0 : rowC W0 w.heap.size (row4 v.kind (str v.text) x1 v.items.length c1 x2 v.keys.length c2) 63 := by rw [hW0]; exact rowC_new w _ _
  have B0 : Below w.heap.size w W0 := by rw [hW0]; exact (Below.refl _ _).alloc (Nat.le_refl _) _
  have S0 : W0.heap.size = w.heap.size + 1 := by rw [hW0, size_alloc]
  have CG : Calls Tryz.prog 77 #[.agg (row4 v.kind (str v.text) x1 v.items.length c1 x2 v.keys.length c2), .string (str key)] W0 fun e w' => GetP W0 (getV v key) e w' := get_any ho.1 ho.2 key (w := W0) (HoldsC.mono (fun k hk _ => by show k < W0.heap.size; have hk : k < w.heap.size := hk; omega) _ _ _ _ _ (HoldsC.far hH B0))
  obtain ⟨o, ho_⟩ : ∃ o, o = partV v key f := ⟨_, rfl⟩
  rw [← ho_]
  have hEn := R.enter
  have HOO := Lib.hid ho_
  have HW0 := Lib.hid hW0
  have HR0 := Lib.hid R0
  have HB0 := Lib.hid B0
  have HI := Lib.hid info_V
  have HOR := Lib.hid ho
  have HE := Lib.hid hE
  have HINV := Lib.hid hi
  have HR := Lib.hid R
  clear hW0 R0 B0 ho hE hi R hH ho_
  go_enter Tryz.func73, Tryz.ntmps73
  go_upto_region 1 with (fail)
  rw [show w.alloc (.cells #[.int .i64 v.kind, .string (str v.text), .slice x1 v.items.length c1, .slice x2 v.keys.length c2] 63) = W0 from HW0.out.symm]
  go_upto_region 2 with (first
    | ((with_reducible show wpList _ _ _ (⟨some 10, .load _ _, _, _, _, _⟩ :: _) _ _); refine wpList_load_row rfl 63 _ rfl w.heap.size rfl 63 (row4 v.kind (str v.text) x1 v.items.length c1 x2 v.keys.length c2) (0, 0) _ HR0.out Tryz.underlying63 rfl HI.out ?_)
    | (go_at_call 77; ((with_reducible refine CG.mono ?_); rintro e w2 ⟨x, ok, y, m, z, n, rfl, hV, hor, hb2⟩; have HV := Lib.hid hV; have HB2 := Lib.hid hb2; have HX := Lib.hid hor; clear hV hb2 hor CG))
    | ((with_reducible show wpList _ _ _ (⟨none, .store _ (.tmp 8) _, _, _, _, _⟩ :: _) _ _); refine wpList_store_last rfl 63 _ _ rfl w2.heap.size (row4 x.kind (str x.text) y x.items.length m z x.keys.length n) rfl rfl 63 zeroV4 rfl HI.out rfl (row4_all _ _ _ _ _ _ _ _) ?_))
  obtain ⟨W2, hW2⟩ : ∃ W2, W2 = w2.alloc (.cells (row4 x.kind (str x.text) y x.items.length m z x.keys.length n) 63) := ⟨_, rfl⟩
  rw [← hW2]
  have R2 : Hid (rowC W2 w2.heap.size (row4 x.kind (str x.text) y x.items.length m z x.keys.length n) 63) := Lib.hid (by rw [hW2]; exact rowC_new _ _ _)
  have BB : Hid (Below w2.heap.size w2 W2) := Lib.hid (by rw [hW2]; exact (Below.refl _ _).alloc (Nat.le_refl _) _)
  have s2 := HB2.out.size
  have sb := BB.out.size
  have BT : Hid (Below w.heap.size w W2) := Lib.hid ((HB0.out.trans (HB2.out.mono (by omega))).trans (BB.out.mono (by omega)))
  clear hW2
  rcases HX.out with ⟨hx, hok⟩ | ⟨hx, hok, _⟩
  · subst hok
    have e0 : Hid (o = f x) := Lib.hid (by rw [HOO.out]; exact partV_some hx)
    have CR : Calls Tryz.prog fn (#[.agg (row4 x.kind (str x.text) y x.items.length m z x.keys.length n)] ++ lb) W2 fun e w' => ReadP eInt W2 (f x) e w' := HR.out.call x W2 y m z n (HOR.out.get hx) (HE.out.below BT.out) (HR.out.stay _ _ HINV.out BT.out) (HoldsC.mono (fun k hk hlt => hlt) _ _ _ _ _ (HoldsC.chg (Chg.of_below (s := no) BB.out) (fun _ _ h => h) _ _ _ _ _ HV.out))
    go_wp2_with (first
      | ((with_reducible show wpList _ _ _ (⟨some 19, .load _ _, _, _, _, _⟩ :: _) _ _); refine wpList_load_row rfl 63 _ rfl w2.heap.size rfl 63 (row4 x.kind (str x.text) y x.items.length m z x.keys.length n) (0, 0) _ R2.out Tryz.underlying63 rfl HI.out ?_)
      | ((with_reducible refine CR.mono ?_); rintro e w3 ⟨a3, t3, ok3, rfl, hA, hor3, hb3⟩))
    go_ret2
    rw [e0.out]
    exact (ReadP.out (E := eInt) ⟨a3, t3, ok3, rfl, hA, hor3, hb3⟩ BT.out (by omega))
  · subst hok
    have e0 : Hid (o = none) := Lib.hid (by rw [HOO.out]; exact partV_none hx)
    go_wp2
    go_ret2
    rw [e0.out]
    exact ⟨0, _, false, rfl, ⟨rfl, trivial⟩, .inr ⟨rfl, rfl⟩, BT.out⟩
set_option maxRecDepth 100000 in
set_option maxHeartbeats 8000000 in
theorem part_txt {f : JV → Option (Bs)} {fn : FuncId} {lb : Array Value} {inv : World → Prop} (R : RdF eTxt f fn lb inv) {v : JV} (ho : okR v) (key : Bs) {w : World} {a b c d : Value} (hE : Env2 w) (hi : inv w) (hH : HoldsC w (fun k => k < w.heap.size) v a b c d) :
    Calls Tryz.prog 80 #[.agg #[a, b, c, d], .string (str key), .func (.func fn) #[] lb] w fun e w' => ReadP eTxt w (partV v key f) e w' := by
  obtain ⟨rfl, rfl, ⟨x1, c1, rfl⟩, x2, c2, rfl⟩ := hH.form
  obtain ⟨W0, hW0⟩ : ∃ W0, W0 = w.alloc (.cells (row4 v.kind (str v.text) x1 v.items.length c1 x2 v.keys.length c2) 63) := ⟨_, rfl⟩
  have R0 : rowC W0 w.heap.size (row4 v.kind (str v.text) x1 v.items.length c1 x2 v.keys.length c2) 63 := by rw [hW0]; exact rowC_new w _ _
  have B0 : Below w.heap.size w W0 := by rw [hW0]; exact (Below.refl _ _).alloc (Nat.le_refl _) _
  have S0 : W0.heap.size = w.heap.size + 1 := by rw [hW0, size_alloc]
  have CG : Calls Tryz.prog 77 #[.agg (row4 v.kind (str v.text) x1 v.items.length c1 x2 v.keys.length c2), .string (str key)] W0 fun e w' => GetP W0 (getV v key) e w' := get_any ho.1 ho.2 key (w := W0) (HoldsC.mono (fun k hk _ => by show k < W0.heap.size; have hk : k < w.heap.size := hk; omega) _ _ _ _ _ (HoldsC.far hH B0))
  obtain ⟨o, ho_⟩ : ∃ o, o = partV v key f := ⟨_, rfl⟩
  rw [← ho_]
  have hEn := R.enter
  have HOO := Lib.hid ho_
  have HW0 := Lib.hid hW0
  have HR0 := Lib.hid R0
  have HB0 := Lib.hid B0
  have HI := Lib.hid info_V
  have HOR := Lib.hid ho
  have HE := Lib.hid hE
  have HINV := Lib.hid hi
  have HR := Lib.hid R
  clear hW0 R0 B0 ho hE hi R hH ho_
  go_enter Tryz.func80, Tryz.ntmps80
  go_upto_region 1 with (fail)
  rw [show w.alloc (.cells #[.int .i64 v.kind, .string (str v.text), .slice x1 v.items.length c1, .slice x2 v.keys.length c2] 63) = W0 from HW0.out.symm]
  go_upto_region 2 with (first
    | ((with_reducible show wpList _ _ _ (⟨some 10, .load _ _, _, _, _, _⟩ :: _) _ _); refine wpList_load_row rfl 63 _ rfl w.heap.size rfl 63 (row4 v.kind (str v.text) x1 v.items.length c1 x2 v.keys.length c2) (0, 0) _ HR0.out Tryz.underlying63 rfl HI.out ?_)
    | (go_at_call 77; ((with_reducible refine CG.mono ?_); rintro e w2 ⟨x, ok, y, m, z, n, rfl, hV, hor, hb2⟩; have HV := Lib.hid hV; have HB2 := Lib.hid hb2; have HX := Lib.hid hor; clear hV hb2 hor CG))
    | ((with_reducible show wpList _ _ _ (⟨none, .store _ (.tmp 8) _, _, _, _, _⟩ :: _) _ _); refine wpList_store_last rfl 63 _ _ rfl w2.heap.size (row4 x.kind (str x.text) y x.items.length m z x.keys.length n) rfl rfl 63 zeroV4 rfl HI.out rfl (row4_all _ _ _ _ _ _ _ _) ?_))
  obtain ⟨W2, hW2⟩ : ∃ W2, W2 = w2.alloc (.cells (row4 x.kind (str x.text) y x.items.length m z x.keys.length n) 63) := ⟨_, rfl⟩
  rw [← hW2]
  have R2 : Hid (rowC W2 w2.heap.size (row4 x.kind (str x.text) y x.items.length m z x.keys.length n) 63) := Lib.hid (by rw [hW2]; exact rowC_new _ _ _)
  have BB : Hid (Below w2.heap.size w2 W2) := Lib.hid (by rw [hW2]; exact (Below.refl _ _).alloc (Nat.le_refl _) _)
  have s2 := HB2.out.size
  have sb := BB.out.size
  have BT : Hid (Below w.heap.size w W2) := Lib.hid ((HB0.out.trans (HB2.out.mono (by omega))).trans (BB.out.mono (by omega)))
  clear hW2
  rcases HX.out with ⟨hx, hok⟩ | ⟨hx, hok, _⟩
  · subst hok
    have e0 : Hid (o = f x) := Lib.hid (by rw [HOO.out]; exact partV_some hx)
    have CR : Calls Tryz.prog fn (#[.agg (row4 x.kind (str x.text) y x.items.length m z x.keys.length n)] ++ lb) W2 fun e w' => ReadP eTxt W2 (f x) e w' := HR.out.call x W2 y m z n (HOR.out.get hx) (HE.out.below BT.out) (HR.out.stay _ _ HINV.out BT.out) (HoldsC.mono (fun k hk hlt => hlt) _ _ _ _ _ (HoldsC.chg (Chg.of_below (s := no) BB.out) (fun _ _ h => h) _ _ _ _ _ HV.out))
    go_wp2_with (first
      | ((with_reducible show wpList _ _ _ (⟨some 19, .load _ _, _, _, _, _⟩ :: _) _ _); refine wpList_load_row rfl 63 _ rfl w2.heap.size rfl 63 (row4 x.kind (str x.text) y x.items.length m z x.keys.length n) (0, 0) _ R2.out Tryz.underlying63 rfl HI.out ?_)
      | ((with_reducible refine CR.mono ?_); rintro e w3 ⟨a3, t3, ok3, rfl, hA, hor3, hb3⟩))
    go_ret2
    rw [e0.out]
    exact (ReadP.out (E := eTxt) ⟨a3, t3, ok3, rfl, hA, hor3, hb3⟩ BT.out (by omega))
  · subst hok
    have e0 : Hid (o = none) := Lib.hid (by rw [HOO.out]; exact partV_none hx)
    go_wp2
    go_ret2
    rw [e0.out]
    exact ⟨[], _, false, rfl, ⟨rfl, by simp⟩, .inr ⟨rfl, rfl⟩, BT.out⟩
set_option maxRecDepth 100000 in
set_option maxHeartbeats 8000000 in
theorem part_dess {f : JV → Option (List DV)} {fn : FuncId} {lb : Array Value} {inv : World → Prop} (R : RdF eDess f fn lb inv) {v : JV} (ho : okR v) (key : Bs) {w : World} {a b c d : Value} (hE : Env2 w) (hi : inv w) (hH : HoldsC w (fun k => k < w.heap.size) v a b c d) :
    Calls Tryz.prog 34 #[.agg #[a, b, c, d], .string (str key), .func (.func fn) #[] lb] w fun e w' => ReadP eDess w (partV v key f) e w' := by
  obtain ⟨rfl, rfl, ⟨x1, c1, rfl⟩, x2, c2, rfl⟩ := hH.form
  obtain ⟨W0, hW0⟩ : ∃ W0, W0 = w.alloc (.cells (row4 v.kind (str v.text) x1 v.items.length c1 x2 v.keys.length c2) 63) := ⟨_, rfl⟩
  have R0 : rowC W0 w.heap.size (row4 v.kind (str v.text) x1 v.items.length c1 x2 v.keys.length c2) 63 := by rw [hW0]; exact rowC_new w _ _
  have B0 : Below w.heap.size w W0 := by rw [hW0]; exact (Below.refl _ _).alloc (Nat.le_refl _) _
  have S0 : W0.heap.size = w.heap.size + 1 := by rw [hW0, size_alloc]
  have CG : Calls Tryz.prog 77 #[.agg (row4 v.kind (str v.text) x1 v.items.length c1 x2 v.keys.length c2), .string (str key)] W0 fun e w' => GetP W0 (getV v key) e w' := get_any ho.1 ho.2 key (w := W0) (HoldsC.mono (fun k hk _ => by show k < W0.heap.size; have hk : k < w.heap.size := hk; omega) _ _ _ _ _ (HoldsC.far hH B0))
  obtain ⟨o, ho_⟩ : ∃ o, o = partV v key f := ⟨_, rfl⟩
  rw [← ho_]
  have hEn := R.enter
  have HOO := Lib.hid ho_
  have HW0 := Lib.hid hW0
  have HR0 := Lib.hid R0
  have HB0 := Lib.hid B0
  have HI := Lib.hid info_V
  have HOR := Lib.hid ho
  have HE := Lib.hid hE
  have HINV := Lib.hid hi
  have HR := Lib.hid R
  clear hW0 R0 B0 ho hE hi R hH ho_
  go_enter Tryz.func34, Tryz.ntmps34
  go_upto_region 1 with (fail)
  rw [show w.alloc (.cells #[.int .i64 v.kind, .string (str v.text), .slice x1 v.items.length c1, .slice x2 v.keys.length c2] 63) = W0 from HW0.out.symm]
  go_upto_region 2 with (first
    | ((with_reducible show wpList _ _ _ (⟨some 10, .load _ _, _, _, _, _⟩ :: _) _ _); refine wpList_load_row rfl 63 _ rfl w.heap.size rfl 63 (row4 v.kind (str v.text) x1 v.items.length c1 x2 v.keys.length c2) (0, 0) _ HR0.out Tryz.underlying63 rfl HI.out ?_)
    | (go_at_call 77; ((with_reducible refine CG.mono ?_); rintro e w2 ⟨x, ok, y, m, z, n, rfl, hV, hor, hb2⟩; have HV := Lib.hid hV; have HB2 := Lib.hid hb2; have HX := Lib.hid hor; clear hV hb2 hor CG))
    | ((with_reducible show wpList _ _ _ (⟨none, .store _ (.tmp 8) _, _, _, _, _⟩ :: _) _ _); refine wpList_store_last rfl 63 _ _ rfl w2.heap.size (row4 x.kind (str x.text) y x.items.length m z x.keys.length n) rfl rfl 63 zeroV4 rfl HI.out rfl (row4_all _ _ _ _ _ _ _ _) ?_))
  obtain ⟨W2, hW2⟩ : ∃ W2, W2 = w2.alloc (.cells (row4 x.kind (str x.text) y x.items.length m z x.keys.length n) 63) := ⟨_, rfl⟩
  rw [← hW2]
  have R2 : Hid (rowC W2 w2.heap.size (row4 x.kind (str x.text) y x.items.length m z x.keys.length n) 63) := Lib.hid (by rw [hW2]; exact rowC_new _ _ _)
  have BB : Hid (Below w2.heap.size w2 W2) := Lib.hid (by rw [hW2]; exact (Below.refl _ _).alloc (Nat.le_refl _) _)
  have s2 := HB2.out.size
  have sb := BB.out.size
  have BT : Hid (Below w.heap.size w W2) := Lib.hid ((HB0.out.trans (HB2.out.mono (by omega))).trans (BB.out.mono (by omega)))
  clear hW2
  rcases HX.out with ⟨hx, hok⟩ | ⟨hx, hok, _⟩
  · subst hok
    have e0 : Hid (o = f x) := Lib.hid (by rw [HOO.out]; exact partV_some hx)
    have CR : Calls Tryz.prog fn (#[.agg (row4 x.kind (str x.text) y x.items.length m z x.keys.length n)] ++ lb) W2 fun e w' => ReadP eDess W2 (f x) e w' := HR.out.call x W2 y m z n (HOR.out.get hx) (HE.out.below BT.out) (HR.out.stay _ _ HINV.out BT.out) (HoldsC.mono (fun k hk hlt => hlt) _ _ _ _ _ (HoldsC.chg (Chg.of_below (s := no) BB.out) (fun _ _ h => h) _ _ _ _ _ HV.out))
    go_wp2_with (first
      | ((with_reducible show wpList _ _ _ (⟨some 19, .load _ _, _, _, _, _⟩ :: _) _ _); refine wpList_load_row rfl 63 _ rfl w2.heap.size rfl 63 (row4 x.kind (str x.text) y x.items.length m z x.keys.length n) (0, 0) _ R2.out Tryz.underlying63 rfl HI.out ?_)
      | ((with_reducible refine CR.mono ?_); rintro e w3 ⟨a3, t3, ok3, rfl, hA, hor3, hb3⟩))
    go_ret2
    rw [e0.out]
    exact (ReadP.out (E := eDess) ⟨a3, t3, ok3, rfl, hA, hor3, hb3⟩ BT.out (by omega))
  · subst hok
    have e0 : Hid (o = none) := Lib.hid (by rw [HOO.out]; exact partV_none hx)
    go_wp2
    go_ret2
    rw [e0.out]
    exact ⟨[], _, false, rfl, .inl ⟨rfl, rfl⟩, .inr ⟨rfl, rfl⟩, BT.out⟩
set_option maxRecDepth 100000 in
set_option maxHeartbeats 8000000 in
theorem part_digs {f : JV → Option (List Bs)} {fn : FuncId} {lb : Array Value} {inv : World → Prop} (R : RdF eDigs f fn lb inv) {v : JV} (ho : okR v) (key : Bs) {w : World} {a b c d : Value} (hE : Env2 w) (hi : inv w) (hH : HoldsC w (fun k => k < w.heap.size) v a b c d) :
    Calls Tryz.prog 44 #[.agg #[a, b, c, d], .string (str key), .func (.func fn) #[] lb] w fun e w' => ReadP eDigs w (partV v key f) e w' := by
  obtain ⟨rfl, rfl, ⟨x1, c1, rfl⟩, x2, c2, rfl⟩ := hH.form
  obtain ⟨W0, hW0⟩ : ∃ W0, W0 = w.alloc (.cells (row4 v.kind (str v.text) x1 v.items.length c1 x2 v.keys.length c2) 63) := ⟨_, rfl⟩
  have R0 : rowC W0 w.heap.size (row4 v.kind (str v.text) x1 v.items.length c1 x2 v.keys.length c2) 63 := by rw [hW0]; exact rowC_new w _ _
  have B0 : Below w.heap.size w W0 := by rw [hW0]; exact (Below.refl _ _).alloc (Nat.le_refl _) _
  have S0 : W0.heap.size = w.heap.size + 1 := by rw [hW0, size_alloc]
  have CG : Calls Tryz.prog 77 #[.agg (row4 v.kind (str v.text) x1 v.items.length c1 x2 v.keys.length c2), .string (str key)] W0 fun e w' => GetP W0 (getV v key) e w' := get_any ho.1 ho.2 key (w := W0) (HoldsC.mono (fun k hk _ => by show k < W0.heap.size; have hk : k < w.heap.size := hk; omega) _ _ _ _ _ (HoldsC.far hH B0))
  obtain ⟨o, ho_⟩ : ∃ o, o = partV v key f := ⟨_, rfl⟩
  rw [← ho_]
  have hEn := R.enter
  have HOO := Lib.hid ho_
  have HW0 := Lib.hid hW0
  have HR0 := Lib.hid R0
  have HB0 := Lib.hid B0
  have HI := Lib.hid info_V
  have HOR := Lib.hid ho
  have HE := Lib.hid hE
  have HINV := Lib.hid hi
  have HR := Lib.hid R
  clear hW0 R0 B0 ho hE hi R hH ho_
  go_enter Tryz.func44, Tryz.ntmps44
  go_upto_region 1 with (fail)
  rw [show w.alloc (.cells #[.int .i64 v.kind, .string (str v.text), .slice x1 v.items.length c1, .slice x2 v.keys.length c2] 63) = W0 from HW0.out.symm]
  go_upto_region 2 with (first
    | ((with_reducible show wpList _ _ _ (⟨some 10, .load _ _, _, _, _, _⟩ :: _) _ _); refine wpList_load_row rfl 63 _ rfl w.heap.size rfl 63 (row4 v.kind (str v.text) x1 v.items.length c1 x2 v.keys.length c2) (0, 0) _ HR0.out Tryz.underlying63 rfl HI.out ?_)
    | (go_at_call 77; ((with_reducible refine CG.mono ?_); rintro e w2 ⟨x, ok, y, m, z, n, rfl, hV, hor, hb2⟩; have HV := Lib.hid hV; have HB2 := Lib.hid hb2; have HX := Lib.hid hor; clear hV hb2 hor CG))
    | ((with_reducible show wpList _ _ _ (⟨none, .store _ (.tmp 8) _, _, _, _, _⟩ :: _) _ _); refine wpList_store_last rfl 63 _ _ rfl w2.heap.size (row4 x.kind (str x.text) y x.items.length m z x.keys.length n) rfl rfl 63 zeroV4 rfl HI.out rfl (row4_all _ _ _ _ _ _ _ _) ?_))
  obtain ⟨W2, hW2⟩ : ∃ W2, W2 = w2.alloc (.cells (row4 x.kind (str x.text) y x.items.length m z x.keys.length n) 63) := ⟨_, rfl⟩
  rw [← hW2]
  have R2 : Hid (rowC W2 w2.heap.size (row4 x.kind (str x.text) y x.items.length m z x.keys.length n) 63) := Lib.hid (by rw [hW2]; exact rowC_new _ _ _)
  have BB : Hid (Below w2.heap.size w2 W2) := Lib.hid (by rw [hW2]; exact (Below.refl _ _).alloc (Nat.le_refl _) _)
  have s2 := HB2.out.size
  have sb := BB.out.size
  have BT : Hid (Below w.heap.size w W2) := Lib.hid ((HB0.out.trans (HB2.out.mono (by omega))).trans (BB.out.mono (by omega)))
  clear hW2
  rcases HX.out with ⟨hx, hok⟩ | ⟨hx, hok, _⟩
  · subst hok
    have e0 : Hid (o = f x) := Lib.hid (by rw [HOO.out]; exact partV_some hx)
    have CR : Calls Tryz.prog fn (#[.agg (row4 x.kind (str x.text) y x.items.length m z x.keys.length n)] ++ lb) W2 fun e w' => ReadP eDigs W2 (f x) e w' := HR.out.call x W2 y m z n (HOR.out.get hx) (HE.out.below BT.out) (HR.out.stay _ _ HINV.out BT.out) (HoldsC.mono (fun k hk hlt => hlt) _ _ _ _ _ (HoldsC.chg (Chg.of_below (s := no) BB.out) (fun _ _ h => h) _ _ _ _ _ HV.out))
    go_wp2_with (first
      | ((with_reducible show wpList _ _ _ (⟨some 19, .load _ _, _, _, _, _⟩ :: _) _ _); refine wpList_load_row rfl 63 _ rfl w2.heap.size rfl 63 (row4 x.kind (str x.text) y x.items.length m z x.keys.length n) (0, 0) _ R2.out Tryz.underlying63 rfl HI.out ?_)
      | ((with_reducible refine CR.mono ?_); rintro e w3 ⟨a3, t3, ok3, rfl, hA, hor3, hb3⟩))
    go_ret2
    rw [e0.out]
    exact (ReadP.out (E := eDigs) ⟨a3, t3, ok3, rfl, hA, hor3, hb3⟩ BT.out (by omega))
  · subst hok
    have e0 : Hid (o = none) := Lib.hid (by rw [HOO.out]; exact partV_none hx)
    go_wp2
    go_ret2
    rw [e0.out]
    exact ⟨[], _, false, rfl, .inl ⟨rfl, rfl⟩, .inr ⟨rfl, rfl⟩, BT.out⟩
set_option maxRecDepth 100000 in
set_option maxHeartbeats 8000000 in
theorem part_dig {f : JV → Option (Bs)} {fn : FuncId} {lb : Array Value} {inv : World → Prop} (R : RdF eDig f fn lb inv) {v : JV} (ho : okR v) (key : Bs) {w : World} {a b c d : Value} (hE : Env2 w) (hi : inv w) (hH : HoldsC w (fun k => k < w.heap.size) v a b c d) :
    Calls Tryz.prog 82 #[.agg #[a, b, c, d], .string (str key), .func (.func fn) #[] lb] w fun e w' => ReadP eDig w (partV v key f) e w' := by
  obtain ⟨rfl, rfl, ⟨x1, c1, rfl⟩, x2, c2, rfl⟩ := hH.form
  obtain ⟨W0, hW0⟩ : ∃ W0, W0 = (w.alloc (.cells (row4 v.kind (str v.text) x1 v.items.length c1 x2 v.keys.length c2) 63)).alloc (.cells (cells8 zero32) 24) := ⟨_, rfl⟩
  have s1 := size_alloc w (.cells (row4 v.kind (str v.text) x1 v.items.length c1 x2 v.keys.length c2) 63)
  have Z0 : rowC W0 (w.heap.size + 1) (cells8 zero32) 24 := by rw [hW0, ← s1]; exact rowC_new _ _ _
  have R0 : rowC W0 w.heap.size (row4 v.kind (str v.text) x1 v.items.length c1 x2 v.keys.length c2) 63 := by rw [hW0]; exact rowC_alloc (rowC_new w _ _) _
  have B0 : Below w.heap.size w W0 := by rw [hW0]; exact ((Below.refl _ _).alloc (Nat.le_refl _) _).alloc (by omega) _
  have S0 : W0.heap.size = w.heap.size + 2 := by rw [hW0, size_alloc, s1]
  have CG : Calls Tryz.prog 77 #[.agg (row4 v.kind (str v.text) x1 v.items.length c1 x2 v.keys.length c2), .string (str key)] W0 fun e w' => GetP W0 (getV v key) e w' := get_any ho.1 ho.2 key (w := W0) (HoldsC.mono (fun k hk _ => by show k < W0.heap.size; have hk : k < w.heap.size := hk; omega) _ _ _ _ _ (HoldsC.far hH B0))
  obtain ⟨o, ho_⟩ : ∃ o, o = partV v key f := ⟨_, rfl⟩
  rw [← ho_]
  have hEn := R.enter
  have HOO := Lib.hid ho_
  have HW0 := Lib.hid hW0
  have HZ0 := Lib.hid Z0
  have HIT := Lib.hid info_G
  have HR0 := Lib.hid R0
  have HB0 := Lib.hid B0
  have HI := Lib.hid info_V
  have HOR := Lib.hid ho
  have HE := Lib.hid hE
  have HINV := Lib.hid hi
  have HR := Lib.hid R
  clear hW0 R0 B0 Z0 ho hE hi R hH ho_
  go_enter Tryz.func82, Tryz.ntmps82
  go_upto_region 1 with (fail)
  rw [show (w.alloc (.cells #[.int .i64 v.kind, .string (str v.text), .slice x1 v.items.length c1, .slice x2 v.keys.length c2] 63)).alloc (.cells #[.int .u8 0, .int .u8 0, .int .u8 0, .int .u8 0, .int .u8 0, .int .u8 0, .int .u8 0, .int .u8 0, .int .u8 0, .int .u8 0, .int .u8 0, .int .u8 0, .int .u8 0, .int .u8 0, .int .u8 0, .int .u8 0, .int .u8 0, .int .u8 0, .int .u8 0, .int .u8 0, .int .u8 0, .int .u8 0, .int .u8 0, .int .u8 0, .int .u8 0, .int .u8 0, .int .u8 0, .int .u8 0, .int .u8 0, .int .u8 0, .int .u8 0, .int .u8 0] 24) = W0 from HW0.out.symm]
  go_upto_region 2 with (first
    | ((with_reducible show wpList _ _ _ (⟨some 10, .load _ _, _, _, _, _⟩ :: _) _ _); refine wpList_load_row rfl 63 _ rfl w.heap.size rfl 63 (row4 v.kind (str v.text) x1 v.items.length c1 x2 v.keys.length c2) (0, 0) _ HR0.out Tryz.underlying63 rfl HI.out ?_)
    | (go_at_call 77; ((with_reducible refine CG.mono ?_); rintro e w2 ⟨x, ok, y, m, z, n, rfl, hV, hor, hb2⟩; have HV := Lib.hid hV; have HB2 := Lib.hid hb2; have HX := Lib.hid hor; clear hV hb2 hor CG))
    | ((with_reducible show wpList _ _ _ (⟨none, .store _ (.tmp 8) _, _, _, _, _⟩ :: _) _ _); refine wpList_store_last rfl 63 _ _ rfl w2.heap.size (row4 x.kind (str x.text) y x.items.length m z x.keys.length n) rfl rfl 63 zeroV4 rfl HI.out rfl (row4_all _ _ _ _ _ _ _ _) ?_))
  obtain ⟨W2, hW2⟩ : ∃ W2, W2 = w2.alloc (.cells (row4 x.kind (str x.text) y x.items.length m z x.keys.length n) 63) := ⟨_, rfl⟩
  rw [← hW2]
  have R2 : Hid (rowC W2 w2.heap.size (row4 x.kind (str x.text) y x.items.length m z x.keys.length n) 63) := Lib.hid (by rw [hW2]; exact rowC_new _ _ _)
  have BB : Hid (Below w2.heap.size w2 W2) := Lib.hid (by rw [hW2]; exact (Below.refl _ _).alloc (Nat.le_refl _) _)
  have s2 := HB2.out.size
  have sb := BB.out.size
  have BT : Hid (Below w.heap.size w W2) := Lib.hid ((HB0.out.trans (HB2.out.mono (by omega))).trans (BB.out.mono (by omega)))
  have HZ2 : Hid (rowC W2 (w.heap.size + 1) (cells8 zero32) 24) := Lib.hid (rowC_below (rowC_below HZ0.out HB2.out (by omega)) BB.out (by omega))
  clear hW2
  rcases HX.out with ⟨hx, hok⟩ | ⟨hx, hok, _⟩
  · subst hok
    have e0 : Hid (o = f x) := Lib.hid (by rw [HOO.out]; exact partV_some hx)
    have CR : Calls Tryz.prog fn (#[.agg (row4 x.kind (str x.text) y x.items.length m z x.keys.length n)] ++ lb) W2 fun e w' => ReadP eDig W2 (f x) e w' := HR.out.call x W2 y m z n (HOR.out.get hx) (HE.out.below BT.out) (HR.out.stay _ _ HINV.out BT.out) (HoldsC.mono (fun k hk hlt => hlt) _ _ _ _ _ (HoldsC.chg (Chg.of_below (s := no) BB.out) (fun _ _ h => h) _ _ _ _ _ HV.out))
    go_wp2_with (first
      | ((with_reducible show wpList _ _ _ (⟨some 19, .load _ _, _, _, _, _⟩ :: _) _ _); refine wpList_load_row rfl 63 _ rfl w2.heap.size rfl 63 (row4 x.kind (str x.text) y x.items.length m z x.keys.length n) (0, 0) _ R2.out Tryz.underlying63 rfl HI.out ?_)
      | ((with_reducible refine CR.mono ?_); rintro e w3 ⟨a3, t3, ok3, rfl, ⟨rfl, hA2⟩, hor3, hb3⟩; have HA := Lib.hid hA2; clear hA2; have HO3 := Lib.hid hor3; clear hor3; have HZ3 := Lib.hid (rowC_below HZ2.out hb3 (by omega)))
      | ((with_reducible show wpList _ _ _ (⟨none, .store _ (.tmp 6) _, _, _, _, _⟩ :: _) _ _); refine wpList_store_row rfl 24 _ _ rfl (w.heap.size + 1) (cells8 a3) rfl rfl 24 (cells8 zero32) HZ3.out (by rw [cells8_size, HA.out]; exact HIT.out) (by rw [cells8_size, cells8_size, HA.out]; rfl) (cells8_one _) ?_))
    refine bodyPost_ret (results_row_tmp rfl _ _ (w.heap.size + 1) 24 (cells8 a3) _ rfl (rowC_setRow HZ3.out _) Tryz.underlying24 rfl (by rw [cells8_size, HA.out]; exact HIT.out) (.bool ok3) rfl) rfl ?_
    rw [e0.out]
    exact ⟨a3, _, ok3, rfl, ⟨rfl, HA.out⟩, HO3.out, below_setRow (BT.out.trans (hb3.mono (by omega))) (by omega) _⟩
  · subst hok
    have e0 : Hid (o = none) := Lib.hid (by rw [HOO.out]; exact partV_none hx)
    go_wp2_with (first
      | ((with_reducible show wpList _ _ _ (⟨some 17, .load _ _, _, _, _, _⟩ :: _) _ _); refine wpList_load_row rfl 24 _ rfl (w.heap.size + 1) rfl 24 (cells8 zero32) (0, 0) _ HZ2.out Tryz.underlying24 rfl HIT.out ?_)
      | ((with_reducible show wpList _ _ _ (⟨none, .store _ (.tmp 6) _, _, _, _, _⟩ :: _) _ _); refine wpList_store_row rfl 24 _ _ rfl (w.heap.size + 1) (cells8 zero32) rfl rfl 24 (cells8 zero32) HZ2.out HIT.out rfl (cells8_one _) ?_))
    refine bodyPost_ret (results_row_tmp rfl _ _ (w.heap.size + 1) 24 (cells8 zero32) _ rfl (rowC_setRow HZ2.out _) Tryz.underlying24 rfl HIT.out (.bool false) rfl) rfl ?_
    rw [e0.out]
    exact ⟨zero32, _, false, rfl, ⟨rfl, rfl⟩, .inr ⟨rfl, rfl⟩, below_setRow BT.out (by omega) _⟩
set_option maxRecDepth 100000 in
set_option maxHeartbeats 8000000 in
theorem part_pla {f : JV → Option (Bs × Bs)} {fn : FuncId} {lb : Array Value} {inv : World → Prop} (R : RdF ePla f fn lb inv) {v : JV} (ho : okR v) (key : Bs) {w : World} {a b c d : Value} (hE : Env2 w) (hi : inv w) (hH : HoldsC w (fun k => k < w.heap.size) v a b c d) :
    Calls Tryz.prog 116 #[.agg #[a, b, c, d], .string (str key), .func (.func fn) #[] lb] w fun e w' => ReadP ePla w (partV v key f) e w' := by
  obtain ⟨rfl, rfl, ⟨x1, c1, rfl⟩, x2, c2, rfl⟩ := hH.form
  obtain ⟨W0, hW0⟩ : ∃ W0, W0 = (w.alloc (.cells (row4 v.kind (str v.text) x1 v.items.length c1 x2 v.keys.length c2) 63)).alloc (.cells (encP ([], [])) 26) := ⟨_, rfl⟩
  have s1 := size_alloc w (.cells (row4 v.kind (str v.text) x1 v.items.length c1 x2 v.keys.length c2) 63)
  have Z0 : rowC W0 (w.heap.size + 1) (encP ([], [])) 26 := by rw [hW0, ← s1]; exact rowC_new _ _ _
  have R0 : rowC W0 w.heap.size (row4 v.kind (str v.text) x1 v.items.length c1 x2 v.keys.length c2) 63 := by rw [hW0]; exact rowC_alloc (rowC_new w _ _) _
  have B0 : Below w.heap.size w W0 := by rw [hW0]; exact ((Below.refl _ _).alloc (Nat.le_refl _) _).alloc (by omega) _
  have S0 : W0.heap.size = w.heap.size + 2 := by rw [hW0, size_alloc, s1]
  have CG : Calls Tryz.prog 77 #[.agg (row4 v.kind (str v.text) x1 v.items.length c1 x2 v.keys.length c2), .string (str key)] W0 fun e w' => GetP W0 (getV v key) e w' := get_any ho.1 ho.2 key (w := W0) (HoldsC.mono (fun k hk _ => by show k < W0.heap.size; have hk : k < w.heap.size := hk; omega) _ _ _ _ _ (HoldsC.far hH B0))
  obtain ⟨o, ho_⟩ : ∃ o, o = partV v key f := ⟨_, rfl⟩
  rw [← ho_]
  have hEn := R.enter
  have HOO := Lib.hid ho_
  have HW0 := Lib.hid hW0
  have HZ0 := Lib.hid Z0
  have HIT := Lib.hid info_P
  have HR0 := Lib.hid R0
  have HB0 := Lib.hid B0
  have HI := Lib.hid info_V
  have HOR := Lib.hid ho
  have HE := Lib.hid hE
  have HINV := Lib.hid hi
  have HR := Lib.hid R
  clear hW0 R0 B0 Z0 ho hE hi R hH ho_
  go_enter Tryz.func116, Tryz.ntmps116
  go_upto_region 1 with (fail)
  rw [show (w.alloc (.cells #[.int .i64 v.kind, .string (str v.text), .slice x1 v.items.length c1, .slice x2 v.keys.length c2] 63)).alloc (.cells #[.string ⟨#[]⟩, .string ⟨#[]⟩] 26) = W0 from HW0.out.symm]
  go_upto_region 2 with (first
    | ((with_reducible show wpList _ _ _ (⟨some 10, .load _ _, _, _, _, _⟩ :: _) _ _); refine wpList_load_row rfl 63 _ rfl w.heap.size rfl 63 (row4 v.kind (str v.text) x1 v.items.length c1 x2 v.keys.length c2) (0, 0) _ HR0.out Tryz.underlying63 rfl HI.out ?_)
    | (go_at_call 77; ((with_reducible refine CG.mono ?_); rintro e w2 ⟨x, ok, y, m, z, n, rfl, hV, hor, hb2⟩; have HV := Lib.hid hV; have HB2 := Lib.hid hb2; have HX := Lib.hid hor; clear hV hb2 hor CG))
    | ((with_reducible show wpList _ _ _ (⟨none, .store _ (.tmp 8) _, _, _, _, _⟩ :: _) _ _); refine wpList_store_last rfl 63 _ _ rfl w2.heap.size (row4 x.kind (str x.text) y x.items.length m z x.keys.length n) rfl rfl 63 zeroV4 rfl HI.out rfl (row4_all _ _ _ _ _ _ _ _) ?_))
  obtain ⟨W2, hW2⟩ : ∃ W2, W2 = w2.alloc (.cells (row4 x.kind (str x.text) y x.items.length m z x.keys.length n) 63) := ⟨_, rfl⟩
  rw [← hW2]
  have R2 : Hid (rowC W2 w2.heap.size (row4 x.kind (str x.text) y x.items.length m z x.keys.length n) 63) := Lib.hid (by rw [hW2]; exact rowC_new _ _ _)
  have BB : Hid (Below w2.heap.size w2 W2) := Lib.hid (by rw [hW2]; exact (Below.refl _ _).alloc (Nat.le_refl _) _)
  have s2 := HB2.out.size
  have sb := BB.out.size
  have BT : Hid (Below w.heap.size w W2) := Lib.hid ((HB0.out.trans (HB2.out.mono (by omega))).trans (BB.out.mono (by omega)))
  have HZ2 : Hid (rowC W2 (w.heap.size + 1) (encP ([], [])) 26) := Lib.hid (rowC_below (rowC_below HZ0.out HB2.out (by omega)) BB.out (by omega))
  clear hW2
  rcases HX.out with ⟨hx, hok⟩ | ⟨hx, hok, _⟩
  · subst hok
    have e0 : Hid (o = f x) := Lib.hid (by rw [HOO.out]; exact partV_some hx)
    have CR : Calls Tryz.prog fn (#[.agg (row4 x.kind (str x.text) y x.items.length m z x.keys.length n)] ++ lb) W2 fun e w' => ReadP ePla W2 (f x) e w' := HR.out.call x W2 y m z n (HOR.out.get hx) (HE.out.below BT.out) (HR.out.stay _ _ HINV.out BT.out) (HoldsC.mono (fun k hk hlt => hlt) _ _ _ _ _ (HoldsC.chg (Chg.of_below (s := no) BB.out) (fun _ _ h => h) _ _ _ _ _ HV.out))
    go_wp2_with (first
      | ((with_reducible show wpList _ _ _ (⟨some 19, .load _ _, _, _, _, _⟩ :: _) _ _); refine wpList_load_row rfl 63 _ rfl w2.heap.size rfl 63 (row4 x.kind (str x.text) y x.items.length m z x.keys.length n) (0, 0) _ R2.out Tryz.underlying63 rfl HI.out ?_)
      | ((with_reducible refine CR.mono ?_); rintro e w3 ⟨a3, t3, ok3, rfl, ⟨rfl, hA2⟩, hor3, hb3⟩; have HA := Lib.hid hA2; clear hA2; have HO3 := Lib.hid hor3; clear hor3; have HZ3 := Lib.hid (rowC_below HZ2.out hb3 (by omega)))
      | ((with_reducible show wpList _ _ _ (⟨none, .store _ (.tmp 6) _, _, _, _, _⟩ :: _) _ _); refine wpList_store_row rfl 26 _ _ rfl (w.heap.size + 1) (encP a3) rfl rfl 26 (encP ([], [])) HZ3.out (by rw [show (encP a3).size = 2 from rfl]; exact HIT.out) (by rw [show (encP a3).size = 2 from rfl]; rfl) (encP_one _) ?_))
    refine bodyPost_ret (results_row_tmp rfl _ _ (w.heap.size + 1) 26 (encP a3) _ rfl (rowC_setRow HZ3.out _) Tryz.underlying26 rfl (by rw [show (encP a3).size = 2 from rfl]; exact HIT.out) (.bool ok3) rfl) rfl ?_
    rw [e0.out]
    exact ⟨a3, _, ok3, rfl, ⟨rfl, HA.out⟩, HO3.out, below_setRow (BT.out.trans (hb3.mono (by omega))) (by omega) _⟩
  · subst hok
    have e0 : Hid (o = none) := Lib.hid (by rw [HOO.out]; exact partV_none hx)
    go_wp2_with (first
      | ((with_reducible show wpList _ _ _ (⟨some 17, .load _ _, _, _, _, _⟩ :: _) _ _); refine wpList_load_row rfl 26 _ rfl (w.heap.size + 1) rfl 26 (encP ([], [])) (0, 0) _ HZ2.out Tryz.underlying26 rfl HIT.out ?_)
      | ((with_reducible show wpList _ _ _ (⟨none, .store _ (.tmp 6) _, _, _, _, _⟩ :: _) _ _); refine wpList_store_row rfl 26 _ _ rfl (w.heap.size + 1) (encP ([], [])) rfl rfl 26 (encP ([], [])) HZ2.out HIT.out rfl (encP_one _) ?_))
    refine bodyPost_ret (results_row_tmp rfl _ _ (w.heap.size + 1) 26 (encP ([], [])) _ rfl (rowC_setRow HZ2.out _) Tryz.underlying26 rfl HIT.out (.bool false) rfl) rfl ?_
    rw [e0.out]
    exact ⟨([], []), _, false, rfl, ⟨rfl, by simp⟩, .inr ⟨rfl, rfl⟩, below_setRow BT.out (by omega) _⟩
set_option maxRecDepth 100000 in
set_option maxHeartbeats 8000000 in
theorem part_des {f : JV → Option (DV)} {fn : FuncId} {lb : Array Value} {inv : World → Prop} (R : RdF eDes f fn lb inv) {v : JV} (ho : okR v) (key : Bs) {w : World} {a b c d : Value} (hE : Env2 w) (hi : inv w) (hH : HoldsC w (fun k => k < w.heap.size) v a b c d) :
    Calls Tryz.prog 32 #[.agg #[a, b, c, d], .string (str key), .func (.func fn) #[] lb] w fun e w' => ReadP eDes w (partV v key f) e w' := by
  obtain ⟨rfl, rfl, ⟨x1, c1, rfl⟩, x2, c2, rfl⟩ := hH.form
  obtain ⟨W0, hW0⟩ : ∃ W0, W0 = (w.alloc (.cells (row4 v.kind (str v.text) x1 v.items.length c1 x2 v.keys.length c2) 63)).alloc (.cells (encD zeroD) 28) := ⟨_, rfl⟩
  have s1 := size_alloc w (.cells (row4 v.kind (str v.text) x1 v.items.length c1 x2 v.keys.length c2) 63)
  have Z0 : rowC W0 (w.heap.size + 1) (encD zeroD) 28 := by rw [hW0, ← s1]; exact rowC_new _ _ _
  have R0 : rowC W0 w.heap.size (row4 v.kind (str v.text) x1 v.items.length c1 x2 v.keys.length c2) 63 := by rw [hW0]; exact rowC_alloc (rowC_new w _ _) _
  have B0 : Below w.heap.size w W0 := by rw [hW0]; exact ((Below.refl _ _).alloc (Nat.le_refl _) _).alloc (by omega) _
  have S0 : W0.heap.size = w.heap.size + 2 := by rw [hW0, size_alloc, s1]
  have CG : Calls Tryz.prog 77 #[.agg (row4 v.kind (str v.text) x1 v.items.length c1 x2 v.keys.length c2), .string (str key)] W0 fun e w' => GetP W0 (getV v key) e w' := get_any ho.1 ho.2 key (w := W0) (HoldsC.mono (fun k hk _ => by show k < W0.heap.size; have hk : k < w.heap.size := hk; omega) _ _ _ _ _ (HoldsC.far hH B0))
  obtain ⟨o, ho_⟩ : ∃ o, o = partV v key f := ⟨_, rfl⟩
  rw [← ho_]
  have hEn := R.enter
  have HOO := Lib.hid ho_
  have HW0 := Lib.hid hW0
  have HZ0 := Lib.hid Z0
  have HIT := Lib.hid info_D
  have HR0 := Lib.hid R0
  have HB0 := Lib.hid B0
  have HI := Lib.hid info_V
  have HOR := Lib.hid ho
  have HE := Lib.hid hE
  have HINV := Lib.hid hi
  have HR := Lib.hid R
  clear hW0 R0 B0 Z0 ho hE hi R hH ho_
  go_enter Tryz.func32, Tryz.ntmps32
  go_upto_region 1 with (fail)
  rw [show (w.alloc (.cells #[.int .i64 v.kind, .string (str v.text), .slice x1 v.items.length c1, .slice x2 v.keys.length c2] 63)).alloc (.cells #[.string ⟨#[]⟩, .int .u8 0, .int .u8 0, .int .u8 0, .int .u8 0, .int .u8 0, .int .u8 0, .int .u8 0, .int .u8 0, .int .u8 0, .int .u8 0, .int .u8 0, .int .u8 0, .int .u8 0, .int .u8 0, .int .u8 0, .int .u8 0, .int .u8 0, .int .u8 0, .int .u8 0, .int .u8 0, .int .u8 0, .int .u8 0, .int .u8 0, .int .u8 0, .int .u8 0, .int .u8 0, .int .u8 0, .int .u8 0, .int .u8 0, .int .u8 0, .int .u8 0, .int .u8 0, .int .i64 0, .string ⟨#[]⟩, .string ⟨#[]⟩] 28) = W0 from HW0.out.symm]
  go_upto_region 2 with (first
    | ((with_reducible show wpList _ _ _ (⟨some 10, .load _ _, _, _, _, _⟩ :: _) _ _); refine wpList_load_row rfl 63 _ rfl w.heap.size rfl 63 (row4 v.kind (str v.text) x1 v.items.length c1 x2 v.keys.length c2) (0, 0) _ HR0.out Tryz.underlying63 rfl HI.out ?_)
    | (go_at_call 77; ((with_reducible refine CG.mono ?_); rintro e w2 ⟨x, ok, y, m, z, n, rfl, hV, hor, hb2⟩; have HV := Lib.hid hV; have HB2 := Lib.hid hb2; have HX := Lib.hid hor; clear hV hb2 hor CG))
    | ((with_reducible show wpList _ _ _ (⟨none, .store _ (.tmp 8) _, _, _, _, _⟩ :: _) _ _); refine wpList_store_last rfl 63 _ _ rfl w2.heap.size (row4 x.kind (str x.text) y x.items.length m z x.keys.length n) rfl rfl 63 zeroV4 rfl HI.out rfl (row4_all _ _ _ _ _ _ _ _) ?_))
  obtain ⟨W2, hW2⟩ : ∃ W2, W2 = w2.alloc (.cells (row4 x.kind (str x.text) y x.items.length m z x.keys.length n) 63) := ⟨_, rfl⟩
  rw [← hW2]
  have R2 : Hid (rowC W2 w2.heap.size (row4 x.kind (str x.text) y x.items.length m z x.keys.length n) 63) := Lib.hid (by rw [hW2]; exact rowC_new _ _ _)
  have BB : Hid (Below w2.heap.size w2 W2) := Lib.hid (by rw [hW2]; exact (Below.refl _ _).alloc (Nat.le_refl _) _)
  have s2 := HB2.out.size
  have sb := BB.out.size
  have BT : Hid (Below w.heap.size w W2) := Lib.hid ((HB0.out.trans (HB2.out.mono (by omega))).trans (BB.out.mono (by omega)))
  have HZ2 : Hid (rowC W2 (w.heap.size + 1) (encD zeroD) 28) := Lib.hid (rowC_below (rowC_below HZ0.out HB2.out (by omega)) BB.out (by omega))
  clear hW2
  rcases HX.out with ⟨hx, hok⟩ | ⟨hx, hok, _⟩
  · subst hok
    have e0 : Hid (o = f x) := Lib.hid (by rw [HOO.out]; exact partV_some hx)
    have CR : Calls Tryz.prog fn (#[.agg (row4 x.kind (str x.text) y x.items.length m z x.keys.length n)] ++ lb) W2 fun e w' => ReadP eDes W2 (f x) e w' := HR.out.call x W2 y m z n (HOR.out.get hx) (HE.out.below BT.out) (HR.out.stay _ _ HINV.out BT.out) (HoldsC.mono (fun k hk hlt => hlt) _ _ _ _ _ (HoldsC.chg (Chg.of_below (s := no) BB.out) (fun _ _ h => h) _ _ _ _ _ HV.out))
    go_wp2_with (first
      | ((with_reducible show wpList _ _ _ (⟨some 19, .load _ _, _, _, _, _⟩ :: _) _ _); refine wpList_load_row rfl 63 _ rfl w2.heap.size rfl 63 (row4 x.kind (str x.text) y x.items.length m z x.keys.length n) (0, 0) _ R2.out Tryz.underlying63 rfl HI.out ?_)
      | ((with_reducible refine CR.mono ?_); rintro e w3 ⟨a3, t3, ok3, rfl, ⟨rfl, hA2⟩, hor3, hb3⟩; have HA := Lib.hid hA2; clear hA2; have HO3 := Lib.hid hor3; clear hor3; have HZ3 := Lib.hid (rowC_below HZ2.out hb3 (by omega)))
      | ((with_reducible show wpList _ _ _ (⟨none, .store _ (.tmp 6) _, _, _, _, _⟩ :: _) _ _); refine wpList_store_row rfl 28 _ _ rfl (w.heap.size + 1) (encD a3) rfl rfl 28 (encD zeroD) HZ3.out (by rw [encD_size a3 HA.out]; exact HIT.out) (by rw [encD_size a3 HA.out]; rfl) (encD_one _) ?_))
    refine bodyPost_ret (results_row_tmp rfl _ _ (w.heap.size + 1) 28 (encD a3) _ rfl (rowC_setRow HZ3.out _) Tryz.underlying28 rfl (by rw [encD_size a3 HA.out]; exact HIT.out) (.bool ok3) rfl) rfl ?_
    rw [e0.out]
    exact ⟨a3, _, ok3, rfl, ⟨rfl, HA.out⟩, HO3.out, below_setRow (BT.out.trans (hb3.mono (by omega))) (by omega) _⟩
  · subst hok
    have e0 : Hid (o = none) := Lib.hid (by rw [HOO.out]; exact partV_none hx)
    go_wp2_with (first
      | ((with_reducible show wpList _ _ _ (⟨some 17, .load _ _, _, _, _, _⟩ :: _) _ _); refine wpList_load_row rfl 28 _ rfl (w.heap.size + 1) rfl 28 (encD zeroD) (0, 0) _ HZ2.out Tryz.underlying28 rfl HIT.out ?_)
      | ((with_reducible show wpList _ _ _ (⟨none, .store _ (.tmp 6) _, _, _, _, _⟩ :: _) _ _); refine wpList_store_row rfl 28 _ _ rfl (w.heap.size + 1) (encD zeroD) rfl rfl 28 (encD zeroD) HZ2.out HIT.out rfl (encD_one _) ?_))
    refine bodyPost_ret (results_row_tmp rfl _ _ (w.heap.size + 1) 28 (encD zeroD) _ rfl (rowC_setRow HZ2.out _) Tryz.underlying28 rfl HIT.out (.bool false) rfl) rfl ?_
    rw [e0.out]
    exact ⟨zeroD, _, false, rfl, ⟨rfl, ⟨rfl, by simp [zeroD], by simp [zeroD], by simp [zeroD]⟩⟩, .inr ⟨rfl, rfl⟩, below_setRow BT.out (by omega) _⟩
end Go.Proofs.YtnkencdibniagaaGreatDoor

/- Layer 13: a part of an object, where it has one. -/
namespace Go.Proofs.YtnkencdibniagaaGreatDoor
open Go.RowKit

theorem anyV_some {α : Type} {z : α} {v x : JV} {key : Bs} {f : JV → Option α} (h : getV v key = some x) : anyV z v key f = partV v key f := by unfold anyV partV; rw [h]; rfl
theorem anyV_none {α : Type} {z : α} {v : JV} {key : Bs} {f : JV → Option α} (h : getV v key = none) : anyV z v key f = some z := by unfold anyV; rw [h]
set_option maxRecDepth 100000 in
set_option maxHeartbeats 8000000 in
theorem any_txt {f : JV → Option (Bs)} {fn : FuncId} {lb : Array Value} {inv : World → Prop} (R : RdF eTxt f fn lb inv) {v : JV} (ho : okR v) (key : Bs) {w : World} {a b c d : Value} (hE : Env2 w) (hi : inv w) (hH : HoldsC w (fun k => k < w.heap.size) v a b c d) :
    Calls Tryz.prog 75 #[.agg #[a, b, c, d], .string (str key), .func (.func fn) #[] lb] w fun e w' => ReadP eTxt w (anyV [] v key f) e w' := by
  obtain ⟨rfl, rfl, ⟨x1, c1, rfl⟩, x2, c2, rfl⟩ := hH.form
  obtain ⟨W0, hW0⟩ : ∃ W0, W0 = w.alloc (.cells (row4 v.kind (str v.text) x1 v.items.length c1 x2 v.keys.length c2) 63) := ⟨_, rfl⟩
  have R0 : rowC W0 w.heap.size (row4 v.kind (str v.text) x1 v.items.length c1 x2 v.keys.length c2) 63 := by rw [hW0]; exact rowC_new w _ _
  have B0 : Below w.heap.size w W0 := by rw [hW0]; exact (Below.refl _ _).alloc (Nat.le_refl _) _
  have S0 : W0.heap.size = w.heap.size + 1 := by rw [hW0, size_alloc]
  have CG : Calls Tryz.prog 77 #[.agg (row4 v.kind (str v.text) x1 v.items.length c1 x2 v.keys.length c2), .string (str key)] W0 fun e w' => GetP W0 (getV v key) e w' := get_any ho.1 ho.2 key (w := W0) (HoldsC.mono (fun k hk _ => by show k < W0.heap.size; have hk : k < w.heap.size := hk; omega) _ _ _ _ _ (HoldsC.far hH B0))
  obtain ⟨o, ho_⟩ : ∃ o, o = anyV [] v key f := ⟨_, rfl⟩
  rw [← ho_]
  have hEn := R.enter
  have HOO := Lib.hid ho_
  have HW0 := Lib.hid hW0
  have HR0 := Lib.hid R0
  have HB0 := Lib.hid B0
  have HI := Lib.hid info_V
  have HOR := Lib.hid ho
  have HE := Lib.hid hE
  have HINV := Lib.hid hi
  have HR := Lib.hid R
  have HHV := Lib.hid hH
  clear hW0 R0 B0 ho hE hi R hH ho_
  go_enter Tryz.func75, Tryz.ntmps75
  go_upto_region 1 with (fail)
  rw [show w.alloc (.cells #[.int .i64 v.kind, .string (str v.text), .slice x1 v.items.length c1, .slice x2 v.keys.length c2] 63) = W0 from HW0.out.symm]
  go_upto_region 2 with (first
    | ((with_reducible show wpList _ _ _ (⟨some 11, .load _ _, _, _, _, _⟩ :: _) _ _); refine wpList_load_row rfl 63 _ rfl w.heap.size rfl 63 (row4 v.kind (str v.text) x1 v.items.length c1 x2 v.keys.length c2) (0, 0) _ HR0.out Tryz.underlying63 rfl HI.out ?_)
    | (go_at_call 77; ((with_reducible refine CG.mono ?_); rintro e w2 ⟨x, ok, y, m, z, n, rfl, hV, hor, hb2⟩; have HV := Lib.hid hV; have HB2 := Lib.hid hb2; have HX := Lib.hid hor; clear hV hb2 hor CG))
    | ((with_reducible show wpList _ _ _ (⟨none, .store _ (.tmp 8) _, _, _, _, _⟩ :: _) _ _); refine wpList_store_last rfl 63 _ _ rfl w2.heap.size (row4 x.kind (str x.text) y x.items.length m z x.keys.length n) rfl rfl 63 zeroV4 rfl HI.out rfl (row4_all _ _ _ _ _ _ _ _) ?_))
  obtain ⟨W2, hW2⟩ : ∃ W2, W2 = w2.alloc (.cells (row4 x.kind (str x.text) y x.items.length m z x.keys.length n) 63) := ⟨_, rfl⟩
  rw [← hW2]
  have R2 : Hid (rowC W2 w2.heap.size (row4 x.kind (str x.text) y x.items.length m z x.keys.length n) 63) := Lib.hid (by rw [hW2]; exact rowC_new _ _ _)
  have BB : Hid (Below w2.heap.size w2 W2) := Lib.hid (by rw [hW2]; exact (Below.refl _ _).alloc (Nat.le_refl _) _)
  have s2 := HB2.out.size
  have sb := BB.out.size
  have BT : Hid (Below w.heap.size w W2) := Lib.hid ((HB0.out.trans (HB2.out.mono (by omega))).trans (BB.out.mono (by omega)))
  clear hW2
  rcases HX.out with ⟨hx, hok⟩ | ⟨hx, hok, _⟩
  · subst hok
    have e0 : Hid (o = partV v key f) := Lib.hid (by rw [HOO.out]; exact anyV_some hx)
    have CR : Calls Tryz.prog 80 #[.agg (row4 v.kind (str v.text) x1 v.items.length c1 x2 v.keys.length c2), .string (str key), .func (.func fn) #[] lb] W2 fun e w' => ReadP eTxt W2 (partV v key f) e w' := part_txt HR.out HOR.out key (HE.out.below BT.out) (HR.out.stay _ _ HINV.out BT.out) (HoldsC.mono (fun k hk _ => by show k < W2.heap.size; have hk : k < w.heap.size := hk; omega) _ _ _ _ _ (HoldsC.far HHV.out BT.out))
    have RB : Hid (rowC W2 w.heap.size (row4 v.kind (str v.text) x1 v.items.length c1 x2 v.keys.length c2) 63) := Lib.hid (rowC_below (rowC_below HR0.out HB2.out (by omega)) BB.out (by omega))
    go_wp2_with (first
      | ((with_reducible show wpList _ _ _ (⟨some 19, .load _ _, _, _, _, _⟩ :: _) _ _); refine wpList_load_row rfl 63 _ rfl w.heap.size rfl 63 (row4 v.kind (str v.text) x1 v.items.length c1 x2 v.keys.length c2) (0, 0) _ RB.out Tryz.underlying63 rfl HI.out ?_)
      | (go_at_call 80; (with_reducible refine CR.mono ?_); rintro e w3 ⟨a3, t3, ok3, rfl, hA, hor3, hb3⟩))
    go_ret2
    rw [e0.out]
    exact (ReadP.out (E := eTxt) ⟨a3, t3, ok3, rfl, hA, hor3, hb3⟩ BT.out (by omega))
  · subst hok
    have e0 : Hid (o = some []) := Lib.hid (by rw [HOO.out]; exact anyV_none hx)
    go_wp2
    go_ret2
    rw [e0.out]
    exact ⟨[], _, true, rfl, ⟨rfl, by simp⟩, .inl ⟨rfl, rfl⟩, BT.out⟩
set_option maxRecDepth 100000 in
set_option maxHeartbeats 8000000 in
theorem any_pla {f : JV → Option (Bs × Bs)} {fn : FuncId} {lb : Array Value} {inv : World → Prop} (R : RdF ePla f fn lb inv) {v : JV} (ho : okR v) (key : Bs) {w : World} {a b c d : Value} (hE : Env2 w) (hi : inv w) (hH : HoldsC w (fun k => k < w.heap.size) v a b c d) :
    Calls Tryz.prog 84 #[.agg #[a, b, c, d], .string (str key), .func (.func fn) #[] lb] w fun e w' => ReadP ePla w (anyV ([], []) v key f) e w' := by
  obtain ⟨rfl, rfl, ⟨x1, c1, rfl⟩, x2, c2, rfl⟩ := hH.form
  obtain ⟨W0, hW0⟩ : ∃ W0, W0 = (w.alloc (.cells (row4 v.kind (str v.text) x1 v.items.length c1 x2 v.keys.length c2) 63)).alloc (.cells (encP ([], [])) 26) := ⟨_, rfl⟩
  have s1 := size_alloc w (.cells (row4 v.kind (str v.text) x1 v.items.length c1 x2 v.keys.length c2) 63)
  have Z0 : rowC W0 (w.heap.size + 1) (encP ([], [])) 26 := by rw [hW0, ← s1]; exact rowC_new _ _ _
  have R0 : rowC W0 w.heap.size (row4 v.kind (str v.text) x1 v.items.length c1 x2 v.keys.length c2) 63 := by rw [hW0]; exact rowC_alloc (rowC_new w _ _) _
  have B0 : Below w.heap.size w W0 := by rw [hW0]; exact ((Below.refl _ _).alloc (Nat.le_refl _) _).alloc (by omega) _
  have S0 : W0.heap.size = w.heap.size + 2 := by rw [hW0, size_alloc, s1]
  have CG : Calls Tryz.prog 77 #[.agg (row4 v.kind (str v.text) x1 v.items.length c1 x2 v.keys.length c2), .string (str key)] W0 fun e w' => GetP W0 (getV v key) e w' := get_any ho.1 ho.2 key (w := W0) (HoldsC.mono (fun k hk _ => by show k < W0.heap.size; have hk : k < w.heap.size := hk; omega) _ _ _ _ _ (HoldsC.far hH B0))
  obtain ⟨o, ho_⟩ : ∃ o, o = anyV ([], []) v key f := ⟨_, rfl⟩
  rw [← ho_]
  have hEn := R.enter
  have HOO := Lib.hid ho_
  have HW0 := Lib.hid hW0
  have HZ0 := Lib.hid Z0
  have HIT := Lib.hid info_P
  have HR0 := Lib.hid R0
  have HB0 := Lib.hid B0
  have HI := Lib.hid info_V
  have HOR := Lib.hid ho
  have HE := Lib.hid hE
  have HINV := Lib.hid hi
  have HR := Lib.hid R
  have HHV := Lib.hid hH
  clear hW0 R0 B0 Z0 ho hE hi R hH ho_
  go_enter Tryz.func84, Tryz.ntmps84
  go_upto_region 1 with (fail)
  rw [show (w.alloc (.cells #[.int .i64 v.kind, .string (str v.text), .slice x1 v.items.length c1, .slice x2 v.keys.length c2] 63)).alloc (.cells #[.string ⟨#[]⟩, .string ⟨#[]⟩] 26) = W0 from HW0.out.symm]
  go_upto_region 2 with (first
    | ((with_reducible show wpList _ _ _ (⟨some 11, .load _ _, _, _, _, _⟩ :: _) _ _); refine wpList_load_row rfl 63 _ rfl w.heap.size rfl 63 (row4 v.kind (str v.text) x1 v.items.length c1 x2 v.keys.length c2) (0, 0) _ HR0.out Tryz.underlying63 rfl HI.out ?_)
    | (go_at_call 77; ((with_reducible refine CG.mono ?_); rintro e w2 ⟨x, ok, y, m, z, n, rfl, hV, hor, hb2⟩; have HV := Lib.hid hV; have HB2 := Lib.hid hb2; have HX := Lib.hid hor; clear hV hb2 hor CG))
    | ((with_reducible show wpList _ _ _ (⟨none, .store _ (.tmp 8) _, _, _, _, _⟩ :: _) _ _); refine wpList_store_last rfl 63 _ _ rfl w2.heap.size (row4 x.kind (str x.text) y x.items.length m z x.keys.length n) rfl rfl 63 zeroV4 rfl HI.out rfl (row4_all _ _ _ _ _ _ _ _) ?_))
  obtain ⟨W2, hW2⟩ : ∃ W2, W2 = w2.alloc (.cells (row4 x.kind (str x.text) y x.items.length m z x.keys.length n) 63) := ⟨_, rfl⟩
  rw [← hW2]
  have R2 : Hid (rowC W2 w2.heap.size (row4 x.kind (str x.text) y x.items.length m z x.keys.length n) 63) := Lib.hid (by rw [hW2]; exact rowC_new _ _ _)
  have BB : Hid (Below w2.heap.size w2 W2) := Lib.hid (by rw [hW2]; exact (Below.refl _ _).alloc (Nat.le_refl _) _)
  have s2 := HB2.out.size
  have sb := BB.out.size
  have BT : Hid (Below w.heap.size w W2) := Lib.hid ((HB0.out.trans (HB2.out.mono (by omega))).trans (BB.out.mono (by omega)))
  have HZ2 : Hid (rowC W2 (w.heap.size + 1) (encP ([], [])) 26) := Lib.hid (rowC_below (rowC_below HZ0.out HB2.out (by omega)) BB.out (by omega))
  clear hW2
  rcases HX.out with ⟨hx, hok⟩ | ⟨hx, hok, _⟩
  · subst hok
    have e0 : Hid (o = partV v key f) := Lib.hid (by rw [HOO.out]; exact anyV_some hx)
    have CR : Calls Tryz.prog 116 #[.agg (row4 v.kind (str v.text) x1 v.items.length c1 x2 v.keys.length c2), .string (str key), .func (.func fn) #[] lb] W2 fun e w' => ReadP ePla W2 (partV v key f) e w' := part_pla HR.out HOR.out key (HE.out.below BT.out) (HR.out.stay _ _ HINV.out BT.out) (HoldsC.mono (fun k hk _ => by show k < W2.heap.size; have hk : k < w.heap.size := hk; omega) _ _ _ _ _ (HoldsC.far HHV.out BT.out))
    have RB : Hid (rowC W2 w.heap.size (row4 v.kind (str v.text) x1 v.items.length c1 x2 v.keys.length c2) 63) := Lib.hid (rowC_below (rowC_below HR0.out HB2.out (by omega)) BB.out (by omega))
    go_wp2_with (first
      | ((with_reducible show wpList _ _ _ (⟨some 19, .load _ _, _, _, _, _⟩ :: _) _ _); refine wpList_load_row rfl 63 _ rfl w.heap.size rfl 63 (row4 v.kind (str v.text) x1 v.items.length c1 x2 v.keys.length c2) (0, 0) _ RB.out Tryz.underlying63 rfl HI.out ?_)
      | (go_at_call 116; (with_reducible refine CR.mono ?_); rintro e w3 ⟨a3, t3, ok3, rfl, ⟨rfl, hA2⟩, hor3, hb3⟩; have HA := Lib.hid hA2; clear hA2; have HO3 := Lib.hid hor3; clear hor3; have HZ3 := Lib.hid (rowC_below HZ2.out hb3 (by omega)))
      | ((with_reducible show wpList _ _ _ (⟨none, .store _ (.tmp 6) _, _, _, _, _⟩ :: _) _ _); refine wpList_store_row rfl 26 _ _ rfl (w.heap.size + 1) (encP a3) rfl rfl 26 (encP ([], [])) HZ3.out (by rw [show (encP a3).size = 2 from rfl]; exact HIT.out) (by rw [show (encP a3).size = 2 from rfl]; rfl) (encP_one _) ?_))
    refine bodyPost_ret (results_row_tmp rfl _ _ (w.heap.size + 1) 26 (encP a3) _ rfl (rowC_setRow HZ3.out _) Tryz.underlying26 rfl (by rw [show (encP a3).size = 2 from rfl]; exact HIT.out) (.bool ok3) rfl) rfl ?_
    rw [e0.out]
    exact ⟨a3, _, ok3, rfl, ⟨rfl, HA.out⟩, HO3.out, below_setRow (BT.out.trans (hb3.mono (by omega))) (by omega) _⟩
  · subst hok
    have e0 : Hid (o = some ([], [])) := Lib.hid (by rw [HOO.out]; exact anyV_none hx)
    go_wp2_with (first
      | ((with_reducible show wpList _ _ _ (⟨some 18, .load _ _, _, _, _, _⟩ :: _) _ _); refine wpList_load_row rfl 26 _ rfl (w.heap.size + 1) rfl 26 (encP ([], [])) (0, 0) _ HZ2.out Tryz.underlying26 rfl HIT.out ?_)
      | ((with_reducible show wpList _ _ _ (⟨none, .store _ (.tmp 6) _, _, _, _, _⟩ :: _) _ _); refine wpList_store_row rfl 26 _ _ rfl (w.heap.size + 1) (encP ([], [])) rfl rfl 26 (encP ([], [])) HZ2.out HIT.out rfl (encP_one _) ?_))
    refine bodyPost_ret (results_row_tmp rfl _ _ (w.heap.size + 1) 26 (encP ([], [])) _ rfl (rowC_setRow HZ2.out _) Tryz.underlying26 rfl HIT.out (.bool true) rfl) rfl ?_
    rw [e0.out]
    exact ⟨([], []), _, true, rfl, ⟨rfl, by simp⟩, .inl ⟨rfl, rfl⟩, below_setRow BT.out (by omega) _⟩
end Go.Proofs.YtnkencdibniagaaGreatDoor

/- Generic: some cells of a row are set, one behind the other. -/
namespace Go.Proofs.YtnkencdibniagaaGreatDoor
open Go.RowKit

/-- Cells in a row, one behind the other, set. -/
theorem rowC_setCells {b : Nat} {t : TypeId} : ∀ (vs : List Value) (o : Nat) {w : World} {cs : List Value}, rowC w b cs.toArray t → o + vs.length ≤ cs.length → rowC (w.setCells b o vs) b (cs.take o ++ vs ++ cs.drop (o + vs.length)).toArray t
  | [], o, w, cs, h, _ => by
    rw [List.append_nil, List.length_nil, Nat.add_zero, List.take_append_drop]
    exact h
  | v :: r, o, w, cs, h, hl => by
    rw [List.length_cons] at hl
    have h1 := rowC_set h o v
    rw [List.setIfInBounds_toArray] at h1
    have h2 := rowC_setCells r (o + 1) h1 (by rw [List.length_set]; omega)
    rw [World.setCells]
    have e : (cs.set o v).take (o + 1) ++ r ++ (cs.set o v).drop (o + 1 + r.length) = cs.take o ++ (v :: r) ++ cs.drop (o + (v :: r).length) := by
      rw [List.drop_set_of_lt (by omega), List.take_succ_eq_append_getElem (by rw [List.length_set]; omega), List.getElem_set_self, List.take_set_of_le (Nat.le_refl _), List.length_cons]
      simp [Nat.add_assoc, Nat.add_comm 1]
    rw [e] at h2
    exact h2
theorem rowC_setCells_other {b g : Nat} {t : TypeId} {cs : Array Value} (hne : g ≠ b) : ∀ (vs : List Value) (o : Nat) {w : World}, rowC w g cs t → rowC (w.setCells b o vs) g cs t
  | [], _, _, h => h
  | v :: r, o, w, h => by
    rw [World.setCells]
    exact rowC_setCells_other hne r (o + 1) (rowC_other h _ _ hne)
theorem below_setCells {B b : Nat} {a : World} (hb : B ≤ b) : ∀ (vs : List Value) (o : Nat) {w : World}, Below B a w → Below B a (w.setCells b o vs)
  | [], _, _, h => h
  | v :: r, o, w, h => by
    rw [World.setCells]
    exact below_setCells hb r (o + 1) (h.setCell (p := ⟨b, o, none⟩) hb _)
theorem row_there {w : World} {b : Nat} {t : TypeId} {cs : Array Value} (h : rowC w b cs t) (o n : Nat) (hn : o + n ≤ cs.size) : w.there b o n := fun j hj => by
  refine ⟨?_, rowC_free h _⟩
  rw [rowC_cell h, Array.getElem?_eq_getElem (by omega)]
  rfl
end Go.Proofs.YtnkencdibniagaaGreatDoor

