/- Merged: OdN, OdO, OdP. -/
import Derived.Test.YtnkencdibniagaaGreatDoorM26
import Derived.Deep.RegionHeld3
/- Layer 13: a list, each of which is read. -/
namespace Go.Proofs.YtnkencdibniagaaGreatDoor
open Go.RowKit

theorem flat_at {α : Type} {enc : α → List Value} {n : Nat} : ∀ (l : List α), (∀ d ∈ l, (enc d).length = n) → ∀ (i : Nat) (d : α) (j : Nat) (u : Value), l[i]? = some d → (enc d)[j]? = some u → (l.flatMap enc)[n * i + j]? = some u
  | [], _, i, d, j, u, hi, _ => by simp at hi
  | e :: l, h, 0, d, j, u, hi, hj => by
    simp at hi
    subst hi
    rw [List.flatMap_cons, Nat.mul_zero, Nat.zero_add, List.getElem?_append_left (List.getElem?_eq_some_iff.1 hj).1]
    exact hj
  | e :: l, h, i + 1, d, j, u, hi, hj => by
    have he := h e (by simp)
    rw [List.flatMap_cons, List.getElem?_append_right (by rw [he, Nat.mul_succ]; omega), he, show n * (i + 1) + j - n = n * i + j by rw [Nat.mul_succ]; omega]
    exact flat_at l (fun d hd => h d (by simp [hd])) i d j u (by simpa using hi) hj
theorem rows_own {α : Type} {enc : α → Array Value} {n : Nat} {good : α → Prop} {w : World} {bL : Nat} {T : TypeId} {I : Value} {acc : List α} (h : w.ownsRow bL T n I acc.length (acc.flatMap fun d => (enc d).toList)) (hg : ∀ d ∈ acc, good d ∧ (enc d).size = n) :
    RowsE enc n good w (fun k => bL ≤ k) acc I := by
  rcases h.2 with ⟨hv, hn⟩ | ⟨g, cap, cur, hv, hb, _⟩
  · exact .inl ⟨hv, List.eq_nil_of_length_eq_zero hn⟩
  · refine .inr ⟨⟨g, 0, none⟩, cap, hv, fun i d hi => ?_⟩
    have hm := hg d (List.mem_of_getElem? hi)
    refine ⟨hb, hm.1, fun j u hj => ?_⟩
    have := h.cells (g := g) (by rw [hv]; rfl) (n * i + j) u (flat_at acc (fun d hd => by have := (hg d hd).2; simpa using this) i d j u hi hj)
    exact this
theorem mapO_snoc {α : Type} (f : JV → Option α) : ∀ (l : List JV) (x : JV) (acc : List α) (a : α), mapO f l = some acc → f x = some a → mapO f (l ++ [x]) = some (acc ++ [a])
  | [], x, acc, a, h, hx => by
    rw [mapO] at h
    injection h with h
    subst h
    rw [List.nil_append, mapO, hx, mapO]
    rfl
  | y :: l, x, acc, a, h, hx => by
    rw [mapO] at h
    cases hy : f y with
    | none => rw [hy] at h; cases h
    | some b =>
      rw [hy] at h
      cases hr : mapO f l with
      | none => rw [hr] at h; cases h
      | some r =>
        rw [hr] at h
        injection h with h
        subst h
        rw [List.cons_append, mapO, hy, mapO_snoc f l x r a hr hx]
        rfl
theorem mapO_fail {α : Type} (f : JV → Option α) : ∀ (l : List JV) (i : Nat) (x : JV), l[i]? = some x → f x = none → mapO f l = none
  | [], i, x, h, _ => by simp at h
  | y :: l, 0, x, h, hx => by
    simp at h
    subst h
    rw [mapO, hx]
  | y :: l, i + 1, x, h, hx => by
    rw [mapO, mapO_fail f l i x (by simpa using h) hx]
    cases f y <;> rfl
theorem okR.mem {v x : JV} (h : okR v) (hm : x ∈ v.items) : okR x := by
  obtain ⟨k, t, items, keys⟩ := v
  exact h.item hm
theorem items_at {w : World} {x : JV} {y : Option Addr} {m : Nat} {z : Option Addr} {n : Nat} (hH : HoldsC w (fun k => k < w.heap.size) x (.int .i64 x.kind) (.string (str x.text)) (.slice y x.items.length m) (.slice z x.keys.length n)) :
    ∀ i xv, x.items[i]? = some xv → ∃ ad a' b' c' d', y = some ad ∧ ad.block < w.heap.size ∧ at4 w (ad.add (i * 4)) a' b' c' d' ∧ HoldsC w (fun k => k < w.heap.size) xv a' b' c' d' := by
  obtain ⟨kk, t, items, keys⟩ := x
  obtain ⟨_, _, _, ⟨x1, c1, e1, hit⟩, _⟩ := hH.opens
  change Value.slice y items.length m = .slice x1 items.length c1 at e1
  injection e1 with e1 _ e2
  subst e1
  exact hit
/-- What a list has gathered. -/
def LsI {α : Type} (enc : α → Array Value) (n : Nat) (good : α → Prop) (T : TypeId) (f : JV → Option α) (items : List JV) (bL j : Nat) (s : Value) (w : World) : Prop :=
  ∃ acc : List α, mapO f (items.take j) = some acc ∧ acc.length = j ∧ (∀ d ∈ acc, good d ∧ (enc d).size = n) ∧ w.ownsRow bL T n s j (acc.flatMap fun d => (enc d).toList)
theorem enter_lsdes (args : Array Value) (w : World) : (callFunc 78 args).run Tryz.prog w = .ok (.enter 78 args) w := by kernel_rfl
theorem info_des3 : (Tryz.prog.info? 28).map (fun i => (i.zero, i.size, i.bytes)) = some (some (.agg #[.string ⟨#[]⟩, .int .u8 0, .int .u8 0, .int .u8 0, .int .u8 0, .int .u8 0, .int .u8 0, .int .u8 0, .int .u8 0, .int .u8 0, .int .u8 0, .int .u8 0, .int .u8 0, .int .u8 0, .int .u8 0, .int .u8 0, .int .u8 0, .int .u8 0, .int .u8 0, .int .u8 0, .int .u8 0, .int .u8 0, .int .u8 0, .int .u8 0, .int .u8 0, .int .u8 0, .int .u8 0, .int .u8 0, .int .u8 0, .int .u8 0, .int .u8 0, .int .u8 0, .int .u8 0, .int .i64 0, .string ⟨#[]⟩, .string ⟨#[]⟩]), 36, 88) := by kernel_rfl
set_option maxRecDepth 100000 in
set_option maxHeartbeats 16000000 in
theorem list_des {f : JV → Option (DV)} {fn : FuncId} {lb : Array Value} {inv : World → Prop} (R : RdF eDes f fn lb inv) (bl : Nat) (x : JV) (w : World) (y : Option Addr) (m : Nat) (z : Option Addr) (n : Nat) (ho : okR x) (hE : Env2 w) (hi : inv w) (hB : w.cell? ⟨bl, 0, none⟩ = some (.func (.func fn) #[] lb)) (hH : HoldsC w (fun k => k < w.heap.size) x (.int .i64 x.kind) (.string (str x.text)) (.slice y x.items.length m) (.slice z x.keys.length n)) :
    Calls Tryz.prog 78 #[.agg (row4 x.kind (str x.text) y x.items.length m z x.keys.length n), .pointer (some ⟨bl, 0, none⟩)] w fun e w' => ReadP eDess w (listV f x) e w' := by
  obtain ⟨W0, hW0⟩ : ∃ W0, W0 = w.alloc (.cells (row4 x.kind (str x.text) y x.items.length m z x.keys.length n) 63) := ⟨_, rfl⟩
  have R0 : rowC W0 w.heap.size (row4 x.kind (str x.text) y x.items.length m z x.keys.length n) 63 := by rw [hW0]; exact rowC_new w _ _
  have B0 : Below w.heap.size w W0 := by rw [hW0]; exact (Below.refl _ _).alloc (Nat.le_refl _) _
  have S0 : W0.heap.size = w.heap.size + 1 := by rw [hW0, size_alloc]
  obtain ⟨o, ho_⟩ : ∃ o, o = listV f x := ⟨_, rfl⟩
  rw [← ho_]
  have hEn := R.enter
  have q0 : W0.cell? ⟨w.heap.size, 0, none⟩ = some (.int .i64 x.kind) := rowC_cell R0 0
  have HOO := Lib.hid ho_
  have HW0 := Lib.hid hW0
  have HR0 := Lib.hid R0
  have HB0 := Lib.hid B0
  have HI := Lib.hid info_V
  have HOR := Lib.hid ho
  have HE := Lib.hid hE
  have HINV := Lib.hid hi
  have HR := Lib.hid R
  have HBL := Lib.hid hB
  have HHV := Lib.hid hH
  clear hW0 R0 B0 ho hE hi R hH ho_ hB
  by_cases h5 : x.kind = 5
  rotate_left
  · have e0 : Hid (o = none) := Lib.hid (by rw [HOO.out]; unfold listV; rw [if_neg h5])
    go_enter Tryz.func78, Tryz.ntmps78
    go_upto_region 1 with (fail)
    rw [show w.alloc (.cells (row4 x.kind (str x.text) y x.items.length m z x.keys.length n) 63) = W0 from HW0.out.symm]
    go_wp2
    go_ret2
    rw [e0.out]
    exact ⟨[], _, false, rfl, .inl ⟨rfl, rfl⟩, .inr ⟨rfl, rfl⟩, HB0.out⟩
  have HG : Hid (o = mapO f x.items) := Lib.hid (by rw [HOO.out]; unfold listV; rw [if_pos h5])
  have hit : ∀ i xv, x.items[i]? = some xv → ∃ ad a' b' c' d', y = some ad ∧ ad.block < w.heap.size ∧ at4 w (ad.add (i * 4)) a' b' c' d' ∧ HoldsC w (fun k => k < w.heap.size) xv a' b' c' d' := items_at HHV.out
  have HIT := Lib.hid hit
  have hil : x.items.length ≤ 65536 := by
    obtain ⟨kk, t, items, keys⟩ := x
    have h1 := HOR.out.1
    rw [okJ] at h1
    exact h1.2.1.1
  rw [h5] at q0
  obtain ⟨items, hitm⟩ : ∃ items, items = x.items := ⟨_, rfl⟩
  have q2 : W0.cell? ⟨w.heap.size, 2, none⟩ = some (.slice y items.length m) := by rw [hitm]; exact rowC_cell HR0.out 2
  have HMEM := Lib.hid (fun xv (h : xv ∈ items) => HOR.out.mem (x := xv) (by rw [← hitm]; exact h))
  rw [← hitm] at HG HIT hil
  clear hit HOO h5 hitm
  obtain ⟨i0, hi0, hz0, hz1, hz2⟩ := info_parts info_des3
  go_enter Tryz.func78, Tryz.ntmps78
  go_upto_region 1 with (fail)
  rw [show w.alloc (.cells (row4 x.kind (str x.text) y x.items.length m z x.keys.length n) 63) = W0 from HW0.out.symm]
  go_wp2
  go_loopg [3, 15] items.length (fun gk s3 s15 wr => ∃ j : Nat, s15 = .int .i64 (j : Int) ∧ Hid (gk = items.length - j) ∧ Hid (j ≤ items.length) ∧ Hid (LsI encD 36 goodD 28 f items W0.heap.size j s3 wr) ∧ Hid (Below W0.heap.size W0 wr))
  case atStart => exact ⟨0, rfl, Lib.hid rfl, Lib.hid (Nat.zero_le _), Lib.hid ⟨[], rfl, rfl, (fun _ h => (by cases h)), World.ownsRow_nil _ _ _ _⟩, Lib.hid (Below.refl _ _)⟩
  case round =>
    obtain ⟨j, rfl, HN, HNL, HM, HBW⟩ := hrel
    have sw := HBW.out.size
    have hbw : Below w.heap.size w wr := HB0.out.trans (HBW.out.mono (by omega))
    by_cases hj : j < items.length
    · have hj1 : (j : Int) < (items.length : Int) := by omega
      obtain ⟨xv, hxv⟩ : ∃ xv, items[j]? = some xv := ⟨_, List.getElem?_eq_getElem hj⟩
      obtain ⟨ad, a', b', c', d', rfl, hab, h4, hHx⟩ := HIT.out j xv hxv
      obtain ⟨acc, ha1, ha2, ha3, ho⟩ := HM.out
      obtain ⟨xi, ci, rfl⟩ := owns_form ho
      have h4r : at4 wr (ad.add (j * 4)) a' b' c' d' := fun q u hq => by
        have hc := h4 q u hq
        rw [World.cell?_of_block (w := w) (w' := wr) (hbw.block _ (by rw [add_block, add_block]; exact hab))]
        exact hc
      have hHr := HoldsC.far hHx hbw
      obtain ⟨rfl, rfl, ⟨p1, q1, rfl⟩, p2, q2', rfl⟩ := hHx.form
      obtain ⟨W1, hW1⟩ : ∃ W1, W1 = wr.alloc (.cells (row4 xv.kind (str xv.text) p1 xv.items.length q1 p2 xv.keys.length q2') 63) := ⟨_, rfl⟩
      have s1 : W1.heap.size = wr.heap.size + 1 := by rw [hW1]; exact size_alloc _ _
      have R1 : rowC W1 wr.heap.size (row4 xv.kind (str xv.text) p1 xv.items.length q1 p2 xv.keys.length q2') 63 := by rw [hW1]; exact rowC_new _ _ _
      have c1' : Below wr.heap.size wr W1 := by rw [hW1]; exact (Below.refl _ _).alloc (Nat.le_refl _) _
      have bw1 : Below w.heap.size w W1 := hbw.trans (c1'.mono (by omega))
      have hxm : xv ∈ items := List.mem_of_getElem? hxv
      have CR : Calls Tryz.prog fn (#[.agg (row4 xv.kind (str xv.text) p1 xv.items.length q1 p2 xv.keys.length q2')] ++ lb) W1 fun e w' => ReadP eDes W1 (f xv) e w' := HR.out.call xv W1 p1 q1 p2 q2' (HMEM.out xv hxm) (HE.out.below bw1) (HR.out.stay _ _ HINV.out bw1) (HoldsC.mono (fun k hk _ => by show k < W1.heap.size; have hk : k < w.heap.size := hk; omega) _ _ _ _ _ (HoldsC.far hHr (c1'.mono (by omega))))
      have qb : W1.cell? ⟨bl, 0, none⟩ = some (.func (.func fn) #[] lb) := cell_chg (Chg.of_below (s := no) bw1) HBL.out id
      have HA1 := Lib.hid ha1
      have HA2 := Lib.hid ha2
      have HA3 := Lib.hid ha3
      have HO := Lib.hid ho
      have HXV := Lib.hid hxv
      have HR1 := Lib.hid R1
      have HC1 := Lib.hid c1'
      have HW1 := Lib.hid hW1
      have H4R := Lib.hid h4r
      have HBWr := Lib.hid hbw
      have hjm : j ≤ 65536 := by omega
      clear h4r h4 hHx hHr ho ha1 ha2 ha3 hxv R1 c1' hW1 hxm HM hj bw1 hbw
      go_upto_region 6 with (first
        | ((with_reducible show wpList _ _ _ (⟨some 18, .load _ _, _, _, _, _⟩ :: _) _ _); refine wpList_load_at rfl 63 _ rfl (ad.add (j * 4)) rfl [.int .i64 xv.kind, .string (str xv.text), .slice p1 xv.items.length q1, .slice p2 xv.keys.length q2'] _ H4R.out Tryz.underlying63 rfl HI.out ?_)
        | ((with_reducible show wpList _ _ _ (⟨none, .store _ (.tmp 6) _, _, _, _, _⟩ :: _) _ _); refine wpList_store_last rfl 63 _ _ rfl wr.heap.size (row4 xv.kind (str xv.text) p1 xv.items.length q1 p2 xv.keys.length q2') rfl rfl 63 zeroV4 rfl HI.out rfl (row4_all _ _ _ _ _ _ _ _) ?_))
      rw [← HW1.out]
      go_upto_region 7 with (first
        | ((with_reducible show wpList _ _ _ (⟨some 21, .load _ _, _, _, _, _⟩ :: _) _ _); refine wpList_load_row rfl 63 _ rfl wr.heap.size rfl 63 (row4 xv.kind (str xv.text) p1 xv.items.length q1 p2 xv.keys.length q2') (0, 0) _ HR1.out Tryz.underlying63 rfl HI.out ?_)
        | ((with_reducible refine CR.mono ?_); rintro e w3 ⟨d, tv, ok, rfl, ⟨rfl, hgd⟩, hor, hb3⟩; have HGD := Lib.hid hgd; have HOR3 := Lib.hid hor; have HB3 := Lib.hid hb3; have HSZ : Hid ((encD d).size = 36) := Lib.hid (encD_size d hgd); have s3 := hb3.size; clear hgd hor hb3 CR)
        | ((with_reducible show wpList _ _ _ (⟨none, .store _ (.tmp 7) _, _, _, _, _⟩ :: _) _ _); refine wpList_store_last rfl 28 _ _ rfl w3.heap.size (encD d) rfl rfl 28 (encD zeroD) rfl (by rw [HSZ.out]; exact info_D) (by rw [HSZ.out]; rfl) (encD_one _) ?_))
      obtain ⟨W4, hW4⟩ : ∃ W4, W4 = w3.alloc (.cells (encD d) 28) := ⟨_, rfl⟩
      rw [← hW4]
      have s4 : W4.heap.size = w3.heap.size + 1 := by rw [hW4]; exact size_alloc _ _
      have R4 : Hid (rowC W4 w3.heap.size (encD d) 28) := Lib.hid (by rw [hW4]; exact rowC_new _ _ _)
      have c14 : Hid (Below W1.heap.size W1 W4) := Lib.hid (by rw [hW4]; exact HB3.out.alloc (by omega) _)
      have HOW : Hid (W4.ownsRow W0.heap.size 28 36 (.slice xi j ci) j (acc.flatMap fun d => (encD d).toList)) := Lib.hid ((Chg.of_below (s := no) c14.out).owns ((Chg.of_below (s := no) HC1.out).owns HO.out (fun _ _ h => h)) (fun _ _ h => h))
      have B4 : Hid (Below W0.heap.size W0 W4) := Lib.hid ((HBW.out.trans (HC1.out.mono (by omega))).trans (c14.out.mono (by omega)))
      clear hW4
      rcases HOR3.out with ⟨hx, hok⟩ | ⟨hx, hok⟩
      rotate_left
      · subst hok
        have e0 : Hid (o = none) := Lib.hid (by rw [HG.out]; exact mapO_fail f items j xv HXV.out hx)
        go_wp2
        go_ret2
        rw [e0.out]
        exact ⟨[], _, false, rfl, .inl ⟨rfl, rfl⟩, .inr ⟨rfl, rfl⟩, HB0.out.trans (B4.out.mono (by omega))⟩
      subst hok
      have HX := Lib.hid hx
      have HN1 : Hid ((encD d).toList.length = 1 * 36) := Lib.hid (by rw [Array.length_toList, HSZ.out])
      have H1 := Lib.hid (show ∀ u ∈ (encD d).toList, u.oneCell' = true from fun u hu => by
        have := Array.all_eq_true_iff_forall_mem.1 (show (encD d).all (·.oneCell') = true from (encD_one _)) u (by simpa using hu)
        exact this)
      clear hx
      go_upto_region 10 with (first
        | ((with_reducible show wpList _ _ _ (⟨some 28, .load _ _, _, _, _, _⟩ :: _) _ _); refine wpList_load_row rfl 28 _ rfl w3.heap.size rfl 28 (encD d) (0, 0) _ R4.out Tryz.underlying28 rfl (by rw [HSZ.out]; exact info_D) ?_)
        | ((with_reducible show wpList _ _ _ (⟨some 29, .buildSlice _ _ _, _, _, _, _⟩ :: _) _ _); refine wpList_oneR rfl 29 28 36 _ rfl (encD d) rfl i0 _ Tryz.underlying29 hi0 hz0 hz1 HSZ.out (by decide) (by decide) ?_)
        | ((with_reducible show wpList _ _ _ (⟨some 30, _, _, _, _, _⟩ :: _) _ _); refine wpList_append_lies _ rfl _ _ 29 rfl W0.heap.size 28 i0 _ 36 88 Tryz.underlying29 hi0 hz0 hz1 hz2 (by rfl) (by decide) (.slice xi j ci) j (acc.flatMap fun d => (encD d).toList) rfl (HOW.out.alloc _) ⟨W4.heap.size, 0, none⟩ 1 1 (encD d).toList rfl HN1.out (World.news_of_block (heap_alloc_new W4 _)) H1.out (by decide) (by unfold maxLen; omega) (by omega) (by rw [size_alloc]; omega) _ rfl ?_; intro g cap w7 hown7 hgrow7 hat7 hlt7; have HOW7 := Lib.hid hown7; have HG7 := Lib.hid hgrow7; clear hown7 hgrow7 hat7 hlt7))
      go_wp2
      go_roundg (items.length - (j + 1))
      case measure => rw [HN.out]; omega
      case rel =>
        refine ⟨j + 1, rfl, Lib.hid rfl, Lib.hid (by omega), Lib.hid ⟨acc ++ [d], ?_, ?_, ?_, ?_⟩, Lib.hid ?_⟩
        · rw [take_one HXV.out]
          exact mapO_snoc f _ _ _ _ HA1.out HX.out
        · rw [List.length_append, List.length_singleton, HA2.out]
        · intro d' hd'
          rcases List.mem_append.1 hd' with hd' | hd'
          · exact HA3.out d' hd'
          · rw [List.mem_singleton.1 hd']
            exact ⟨HGD.out, HSZ.out⟩
        · rw [List.flatMap_append]
          have := HOW7.out
          simpa using this
        · exact (B4.out.alloc (by omega) _).grown HG7.out (by rw [size_alloc]; omega) (fun k hk => (HOW.out.lt k hk).1)
    · have hj1 : ¬ (j : Int) < (items.length : Int) := by omega
      obtain ⟨acc, ha1, ha2, ha3, ho⟩ := HM.out
      have hln : items.take j = items := List.take_of_length_le (by omega)
      rw [hln] at ha1
      obtain ⟨xi, ci, rfl⟩ := owns_form ho
      have e0 : Hid (o = some acc) := Lib.hid (by rw [HG.out, ha1])
      rw [← ha2] at ho
      have HRW := Lib.hid (rows_own (enc := encD) (good := goodD) ho ha3)
      have HBWr := Lib.hid hbw
      clear hbw ho ha1 ha3 HM hln hj
      go_wp2
      go_ret2
      rw [e0.out]
      exact ⟨acc, _, true, rfl, (by rw [← ha2]; exact eDess.mono HRW.out (fun k hk hlt => ⟨by have hk : W0.heap.size ≤ k := hk; omega, hlt⟩)), .inl ⟨rfl, rfl⟩, HBWr.out⟩
theorem rd_lsdes {f : JV → Option (DV)} {fn : FuncId} {lb : Array Value} {inv : World → Prop} (R : RdF eDes f fn lb inv) (bl : Nat) : RdF eDess (listV f) 78 #[.pointer (some ⟨bl, 0, none⟩)] (fun w => inv w ∧ w.cell? ⟨bl, 0, none⟩ = some (.func (.func fn) #[] lb)) where
  enter := enter_lsdes
  stay := fun _ _ h hb => ⟨R.stay _ _ h.1 hb, cell_chg (Chg.of_below (s := no) hb) h.2 id⟩
  call := fun x w y m z n ho hE hi hH => list_des R bl x w y m z n ho hE hi.1 hi.2 hH
theorem enter_lsdig (args : Array Value) (w : World) : (callFunc 117 args).run Tryz.prog w = .ok (.enter 117 args) w := by kernel_rfl
theorem info_dig3 : (Tryz.prog.info? 24).map (fun i => (i.zero, i.size, i.bytes)) = some (some (.agg #[.int .u8 0, .int .u8 0, .int .u8 0, .int .u8 0, .int .u8 0, .int .u8 0, .int .u8 0, .int .u8 0, .int .u8 0, .int .u8 0, .int .u8 0, .int .u8 0, .int .u8 0, .int .u8 0, .int .u8 0, .int .u8 0, .int .u8 0, .int .u8 0, .int .u8 0, .int .u8 0, .int .u8 0, .int .u8 0, .int .u8 0, .int .u8 0, .int .u8 0, .int .u8 0, .int .u8 0, .int .u8 0, .int .u8 0, .int .u8 0, .int .u8 0, .int .u8 0]), 32, 32) := by kernel_rfl
set_option maxRecDepth 100000 in
set_option maxHeartbeats 16000000 in
theorem list_dig {f : JV → Option (Bs)} {fn : FuncId} {lb : Array Value} {inv : World → Prop} (R : RdF eDig f fn lb inv) (bl : Nat) (x : JV) (w : World) (y : Option Addr) (m : Nat) (z : Option Addr) (n : Nat) (ho : okR x) (hE : Env2 w) (hi : inv w) (hB : w.cell? ⟨bl, 0, none⟩ = some (.func (.func fn) #[] lb)) (hH : HoldsC w (fun k => k < w.heap.size) x (.int .i64 x.kind) (.string (str x.text)) (.slice y x.items.length m) (.slice z x.keys.length n)) :
    Calls Tryz.prog 117 #[.agg (row4 x.kind (str x.text) y x.items.length m z x.keys.length n), .pointer (some ⟨bl, 0, none⟩)] w fun e w' => ReadP eDigs w (listV f x) e w' := by
  obtain ⟨W0, hW0⟩ : ∃ W0, W0 = w.alloc (.cells (row4 x.kind (str x.text) y x.items.length m z x.keys.length n) 63) := ⟨_, rfl⟩
  have R0 : rowC W0 w.heap.size (row4 x.kind (str x.text) y x.items.length m z x.keys.length n) 63 := by rw [hW0]; exact rowC_new w _ _
  have B0 : Below w.heap.size w W0 := by rw [hW0]; exact (Below.refl _ _).alloc (Nat.le_refl _) _
  have S0 : W0.heap.size = w.heap.size + 1 := by rw [hW0, size_alloc]
  obtain ⟨o, ho_⟩ : ∃ o, o = listV f x := ⟨_, rfl⟩
  rw [← ho_]
  have hEn := R.enter
  have q0 : W0.cell? ⟨w.heap.size, 0, none⟩ = some (.int .i64 x.kind) := rowC_cell R0 0
  have HOO := Lib.hid ho_
  have HW0 := Lib.hid hW0
  have HR0 := Lib.hid R0
  have HB0 := Lib.hid B0
  have HI := Lib.hid info_V
  have HOR := Lib.hid ho
  have HE := Lib.hid hE
  have HINV := Lib.hid hi
  have HR := Lib.hid R
  have HBL := Lib.hid hB
  have HHV := Lib.hid hH
  clear hW0 R0 B0 ho hE hi R hH ho_ hB
  by_cases h5 : x.kind = 5
  rotate_left
  · have e0 : Hid (o = none) := Lib.hid (by rw [HOO.out]; unfold listV; rw [if_neg h5])
    go_enter Tryz.func117, Tryz.ntmps117
    go_upto_region 1 with (fail)
    rw [show w.alloc (.cells (row4 x.kind (str x.text) y x.items.length m z x.keys.length n) 63) = W0 from HW0.out.symm]
    go_wp2
    go_ret2
    rw [e0.out]
    exact ⟨[], _, false, rfl, .inl ⟨rfl, rfl⟩, .inr ⟨rfl, rfl⟩, HB0.out⟩
  have HG : Hid (o = mapO f x.items) := Lib.hid (by rw [HOO.out]; unfold listV; rw [if_pos h5])
  have hit : ∀ i xv, x.items[i]? = some xv → ∃ ad a' b' c' d', y = some ad ∧ ad.block < w.heap.size ∧ at4 w (ad.add (i * 4)) a' b' c' d' ∧ HoldsC w (fun k => k < w.heap.size) xv a' b' c' d' := items_at HHV.out
  have HIT := Lib.hid hit
  have hil : x.items.length ≤ 65536 := by
    obtain ⟨kk, t, items, keys⟩ := x
    have h1 := HOR.out.1
    rw [okJ] at h1
    exact h1.2.1.1
  rw [h5] at q0
  obtain ⟨items, hitm⟩ : ∃ items, items = x.items := ⟨_, rfl⟩
  have q2 : W0.cell? ⟨w.heap.size, 2, none⟩ = some (.slice y items.length m) := by rw [hitm]; exact rowC_cell HR0.out 2
  have HMEM := Lib.hid (fun xv (h : xv ∈ items) => HOR.out.mem (x := xv) (by rw [← hitm]; exact h))
  rw [← hitm] at HG HIT hil
  clear hit HOO h5 hitm
  obtain ⟨i0, hi0, hz0, hz1, hz2⟩ := info_parts info_dig3
  go_enter Tryz.func117, Tryz.ntmps117
  go_upto_region 1 with (fail)
  rw [show w.alloc (.cells (row4 x.kind (str x.text) y x.items.length m z x.keys.length n) 63) = W0 from HW0.out.symm]
  go_wp2
  go_loopg [3, 15] items.length (fun gk s3 s15 wr => ∃ j : Nat, s15 = .int .i64 (j : Int) ∧ Hid (gk = items.length - j) ∧ Hid (j ≤ items.length) ∧ Hid (LsI cells8 32 (fun d => d.length = 32) 24 f items W0.heap.size j s3 wr) ∧ Hid (Below W0.heap.size W0 wr))
  case atStart => exact ⟨0, rfl, Lib.hid rfl, Lib.hid (Nat.zero_le _), Lib.hid ⟨[], rfl, rfl, (fun _ h => (by cases h)), World.ownsRow_nil _ _ _ _⟩, Lib.hid (Below.refl _ _)⟩
  case round =>
    obtain ⟨j, rfl, HN, HNL, HM, HBW⟩ := hrel
    have sw := HBW.out.size
    have hbw : Below w.heap.size w wr := HB0.out.trans (HBW.out.mono (by omega))
    by_cases hj : j < items.length
    · have hj1 : (j : Int) < (items.length : Int) := by omega
      obtain ⟨xv, hxv⟩ : ∃ xv, items[j]? = some xv := ⟨_, List.getElem?_eq_getElem hj⟩
      obtain ⟨ad, a', b', c', d', rfl, hab, h4, hHx⟩ := HIT.out j xv hxv
      obtain ⟨acc, ha1, ha2, ha3, ho⟩ := HM.out
      obtain ⟨xi, ci, rfl⟩ := owns_form ho
      have h4r : at4 wr (ad.add (j * 4)) a' b' c' d' := fun q u hq => by
        have hc := h4 q u hq
        rw [World.cell?_of_block (w := w) (w' := wr) (hbw.block _ (by rw [add_block, add_block]; exact hab))]
        exact hc
      have hHr := HoldsC.far hHx hbw
      obtain ⟨rfl, rfl, ⟨p1, q1, rfl⟩, p2, q2', rfl⟩ := hHx.form
      obtain ⟨W1, hW1⟩ : ∃ W1, W1 = wr.alloc (.cells (row4 xv.kind (str xv.text) p1 xv.items.length q1 p2 xv.keys.length q2') 63) := ⟨_, rfl⟩
      have s1 : W1.heap.size = wr.heap.size + 1 := by rw [hW1]; exact size_alloc _ _
      have R1 : rowC W1 wr.heap.size (row4 xv.kind (str xv.text) p1 xv.items.length q1 p2 xv.keys.length q2') 63 := by rw [hW1]; exact rowC_new _ _ _
      have c1' : Below wr.heap.size wr W1 := by rw [hW1]; exact (Below.refl _ _).alloc (Nat.le_refl _) _
      have bw1 : Below w.heap.size w W1 := hbw.trans (c1'.mono (by omega))
      have hxm : xv ∈ items := List.mem_of_getElem? hxv
      have CR : Calls Tryz.prog fn (#[.agg (row4 xv.kind (str xv.text) p1 xv.items.length q1 p2 xv.keys.length q2')] ++ lb) W1 fun e w' => ReadP eDig W1 (f xv) e w' := HR.out.call xv W1 p1 q1 p2 q2' (HMEM.out xv hxm) (HE.out.below bw1) (HR.out.stay _ _ HINV.out bw1) (HoldsC.mono (fun k hk _ => by show k < W1.heap.size; have hk : k < w.heap.size := hk; omega) _ _ _ _ _ (HoldsC.far hHr (c1'.mono (by omega))))
      have qb : W1.cell? ⟨bl, 0, none⟩ = some (.func (.func fn) #[] lb) := cell_chg (Chg.of_below (s := no) bw1) HBL.out id
      have HA1 := Lib.hid ha1
      have HA2 := Lib.hid ha2
      have HA3 := Lib.hid ha3
      have HO := Lib.hid ho
      have HXV := Lib.hid hxv
      have HR1 := Lib.hid R1
      have HC1 := Lib.hid c1'
      have HW1 := Lib.hid hW1
      have H4R := Lib.hid h4r
      have HBWr := Lib.hid hbw
      have hjm : j ≤ 65536 := by omega
      clear h4r h4 hHx hHr ho ha1 ha2 ha3 hxv R1 c1' hW1 hxm HM hj bw1 hbw
      go_upto_region 6 with (first
        | ((with_reducible show wpList _ _ _ (⟨some 18, .load _ _, _, _, _, _⟩ :: _) _ _); refine wpList_load_at rfl 63 _ rfl (ad.add (j * 4)) rfl [.int .i64 xv.kind, .string (str xv.text), .slice p1 xv.items.length q1, .slice p2 xv.keys.length q2'] _ H4R.out Tryz.underlying63 rfl HI.out ?_)
        | ((with_reducible show wpList _ _ _ (⟨none, .store _ (.tmp 6) _, _, _, _, _⟩ :: _) _ _); refine wpList_store_last rfl 63 _ _ rfl wr.heap.size (row4 xv.kind (str xv.text) p1 xv.items.length q1 p2 xv.keys.length q2') rfl rfl 63 zeroV4 rfl HI.out rfl (row4_all _ _ _ _ _ _ _ _) ?_))
      rw [← HW1.out]
      go_upto_region 7 with (first
        | ((with_reducible show wpList _ _ _ (⟨some 21, .load _ _, _, _, _, _⟩ :: _) _ _); refine wpList_load_row rfl 63 _ rfl wr.heap.size rfl 63 (row4 xv.kind (str xv.text) p1 xv.items.length q1 p2 xv.keys.length q2') (0, 0) _ HR1.out Tryz.underlying63 rfl HI.out ?_)
        | ((with_reducible refine CR.mono ?_); rintro e w3 ⟨d, tv, ok, rfl, ⟨rfl, hgd⟩, hor, hb3⟩; have HGD := Lib.hid hgd; have HOR3 := Lib.hid hor; have HB3 := Lib.hid hb3; have HSZ : Hid ((cells8 d).size = 32) := Lib.hid ((by rw [cells8_size]; exact hgd)); have s3 := hb3.size; clear hgd hor hb3 CR)
        | ((with_reducible show wpList _ _ _ (⟨none, .store _ (.tmp 7) _, _, _, _, _⟩ :: _) _ _); refine wpList_store_last rfl 24 _ _ rfl w3.heap.size (cells8 d) rfl rfl 24 (cells8 zero32) rfl (by rw [HSZ.out]; exact info_G) (by rw [HSZ.out]; rfl) (cells8_one _) ?_))
      obtain ⟨W4, hW4⟩ : ∃ W4, W4 = w3.alloc (.cells (cells8 d) 24) := ⟨_, rfl⟩
      rw [← hW4]
      have s4 : W4.heap.size = w3.heap.size + 1 := by rw [hW4]; exact size_alloc _ _
      have R4 : Hid (rowC W4 w3.heap.size (cells8 d) 24) := Lib.hid (by rw [hW4]; exact rowC_new _ _ _)
      have c14 : Hid (Below W1.heap.size W1 W4) := Lib.hid (by rw [hW4]; exact HB3.out.alloc (by omega) _)
      have HOW : Hid (W4.ownsRow W0.heap.size 24 32 (.slice xi j ci) j (acc.flatMap fun d => (cells8 d).toList)) := Lib.hid ((Chg.of_below (s := no) c14.out).owns ((Chg.of_below (s := no) HC1.out).owns HO.out (fun _ _ h => h)) (fun _ _ h => h))
      have B4 : Hid (Below W0.heap.size W0 W4) := Lib.hid ((HBW.out.trans (HC1.out.mono (by omega))).trans (c14.out.mono (by omega)))
      clear hW4
      rcases HOR3.out with ⟨hx, hok⟩ | ⟨hx, hok⟩
      rotate_left
      · subst hok
        have e0 : Hid (o = none) := Lib.hid (by rw [HG.out]; exact mapO_fail f items j xv HXV.out hx)
        go_wp2
        go_ret2
        rw [e0.out]
        exact ⟨[], _, false, rfl, .inl ⟨rfl, rfl⟩, .inr ⟨rfl, rfl⟩, HB0.out.trans (B4.out.mono (by omega))⟩
      subst hok
      have HX := Lib.hid hx
      have HN1 : Hid ((cells8 d).toList.length = 1 * 32) := Lib.hid (by rw [Array.length_toList, HSZ.out])
      have H1 := Lib.hid (show ∀ u ∈ (cells8 d).toList, u.oneCell' = true from fun u hu => by
        have := Array.all_eq_true_iff_forall_mem.1 (show (cells8 d).all (·.oneCell') = true from (cells8_one _)) u (by simpa using hu)
        exact this)
      clear hx
      go_upto_region 10 with (first
        | ((with_reducible show wpList _ _ _ (⟨some 28, .load _ _, _, _, _, _⟩ :: _) _ _); refine wpList_load_row rfl 24 _ rfl w3.heap.size rfl 24 (cells8 d) (0, 0) _ R4.out Tryz.underlying24 rfl (by rw [HSZ.out]; exact info_G) ?_)
        | ((with_reducible show wpList _ _ _ (⟨some 29, .buildSlice _ _ _, _, _, _, _⟩ :: _) _ _); refine wpList_oneR rfl 37 24 32 _ rfl (cells8 d) rfl i0 _ Tryz.underlying37 hi0 hz0 hz1 HSZ.out (by decide) (by decide) ?_)
        | ((with_reducible show wpList _ _ _ (⟨some 30, _, _, _, _, _⟩ :: _) _ _); refine wpList_append_lies _ rfl _ _ 37 rfl W0.heap.size 24 i0 _ 32 32 Tryz.underlying37 hi0 hz0 hz1 hz2 (by rfl) (by decide) (.slice xi j ci) j (acc.flatMap fun d => (cells8 d).toList) rfl (HOW.out.alloc _) ⟨W4.heap.size, 0, none⟩ 1 1 (cells8 d).toList rfl HN1.out (World.news_of_block (heap_alloc_new W4 _)) H1.out (by decide) (by unfold maxLen; omega) (by omega) (by rw [size_alloc]; omega) _ rfl ?_; intro g cap w7 hown7 hgrow7 hat7 hlt7; have HOW7 := Lib.hid hown7; have HG7 := Lib.hid hgrow7; clear hown7 hgrow7 hat7 hlt7))
      go_wp2
      go_roundg (items.length - (j + 1))
      case measure => rw [HN.out]; omega
      case rel =>
        refine ⟨j + 1, rfl, Lib.hid rfl, Lib.hid (by omega), Lib.hid ⟨acc ++ [d], ?_, ?_, ?_, ?_⟩, Lib.hid ?_⟩
        · rw [take_one HXV.out]
          exact mapO_snoc f _ _ _ _ HA1.out HX.out
        · rw [List.length_append, List.length_singleton, HA2.out]
        · intro d' hd'
          rcases List.mem_append.1 hd' with hd' | hd'
          · exact HA3.out d' hd'
          · rw [List.mem_singleton.1 hd']
            exact ⟨HGD.out, HSZ.out⟩
        · rw [List.flatMap_append]
          have := HOW7.out
          simpa using this
        · exact (B4.out.alloc (by omega) _).grown HG7.out (by rw [size_alloc]; omega) (fun k hk => (HOW.out.lt k hk).1)
    · have hj1 : ¬ (j : Int) < (items.length : Int) := by omega
      obtain ⟨acc, ha1, ha2, ha3, ho⟩ := HM.out
      have hln : items.take j = items := List.take_of_length_le (by omega)
      rw [hln] at ha1
      obtain ⟨xi, ci, rfl⟩ := owns_form ho
      have e0 : Hid (o = some acc) := Lib.hid (by rw [HG.out, ha1])
      rw [← ha2] at ho
      have HRW := Lib.hid (rows_own (enc := cells8) (good := (fun d => d.length = 32)) ho ha3)
      have HBWr := Lib.hid hbw
      clear hbw ho ha1 ha3 HM hln hj
      go_wp2
      go_ret2
      rw [e0.out]
      exact ⟨acc, _, true, rfl, (by rw [← ha2]; exact eDigs.mono HRW.out (fun k hk hlt => ⟨by have hk : W0.heap.size ≤ k := hk; omega, hlt⟩)), .inl ⟨rfl, rfl⟩, HBWr.out⟩
theorem rd_lsdig {f : JV → Option (Bs)} {fn : FuncId} {lb : Array Value} {inv : World → Prop} (R : RdF eDig f fn lb inv) (bl : Nat) : RdF eDigs (listV f) 117 #[.pointer (some ⟨bl, 0, none⟩)] (fun w => inv w ∧ w.cell? ⟨bl, 0, none⟩ = some (.func (.func fn) #[] lb)) where
  enter := enter_lsdig
  stay := fun _ _ h hb => ⟨R.stay _ _ h.1 hb, cell_chg (Chg.of_below (s := no) hb) h.2 id⟩
  call := fun x w y m z n ho hE hi hH => list_dig R bl x w y m z n ho hE hi.1 hi.2 hH
end Go.Proofs.YtnkencdibniagaaGreatDoor

/- Layer 13: what reads a list. -/
namespace Go.Proofs.YtnkencdibniagaaGreatDoor
open Go.RowKit

set_option maxHeartbeats 4000000 in
theorem listOf_des (fn : FuncId) (lb : Array Value) (w : World) : Calls Tryz.prog 35 #[.func (.func fn) #[] lb] w fun e w' => e = .returned (.func (.func 78) #[] #[.pointer (some ⟨w.heap.size, 0, none⟩)]) ∧ w'.cell? ⟨w.heap.size, 0, none⟩ = some (.func (.func fn) #[] lb) ∧ Below w.heap.size w w' := by
  go_enter Tryz.func35, Tryz.ntmps35
  go_wp2
  go_ret
  exact ⟨rfl, rowC_cell (rowC_new w _ _) 0, (Below.refl _ _).alloc (Nat.le_refl _) _⟩
set_option maxHeartbeats 4000000 in
theorem listOf_dig (fn : FuncId) (lb : Array Value) (w : World) : Calls Tryz.prog 85 #[.func (.func fn) #[] lb] w fun e w' => e = .returned (.func (.func 117) #[] #[.pointer (some ⟨w.heap.size, 0, none⟩)]) ∧ w'.cell? ⟨w.heap.size, 0, none⟩ = some (.func (.func fn) #[] lb) ∧ Below w.heap.size w w' := by
  go_enter Tryz.func85, Tryz.ntmps85
  go_wp2
  go_ret
  exact ⟨rfl, rowC_cell (rowC_new w _ _) 0, (Below.refl _ _).alloc (Nat.le_refl _) _⟩
end Go.Proofs.YtnkencdibniagaaGreatDoor

/- Layer 13: what an image's files are made of, as it is read. -/
namespace Go.Proofs.YtnkencdibniagaaGreatDoor
open Go.RowKit

theorem enter_root (args : Array Value) (w : World) : (callFunc 45 args).run Tryz.prog w = .ok (.enter 45 args) w := by kernel_rfl
theorem eq_kLay (s : Bs) : ((str s).toList == [108, 97, 121, 101, 114, 115]) = decide (s = kLay) := eqT s kLay
set_option maxRecDepth 100000 in
set_option maxHeartbeats 16000000 in
theorem readRoot_any (x : JV) (w : World) (y : Option Addr) (m : Nat) (z : Option Addr) (n : Nat) (ho : okR x) (hE : Env2 w) (hH : HoldsC w (fun k => k < w.heap.size) x (.int .i64 x.kind) (.string (str x.text)) (.slice y x.items.length m) (.slice z x.keys.length n)) :
    Calls Tryz.prog 45 #[.agg (row4 x.kind (str x.text) y x.items.length m z x.keys.length n)] w fun e w' => ReadP eDigs w (rootV x) e w' := by
  obtain ⟨W0, hW0⟩ : ∃ W0, W0 = w.alloc (.cells (row4 x.kind (str x.text) y x.items.length m z x.keys.length n) 63) := ⟨_, rfl⟩
  have R0 : rowC W0 w.heap.size (row4 x.kind (str x.text) y x.items.length m z x.keys.length n) 63 := by rw [hW0]; exact rowC_new w _ _
  have B0 : Below w.heap.size w W0 := by rw [hW0]; exact (Below.refl _ _).alloc (Nat.le_refl _) _
  have S0 : W0.heap.size = w.heap.size + 1 := by rw [hW0, size_alloc]
  have CT : Calls Tryz.prog 80 #[.agg (row4 x.kind (str x.text) y x.items.length m z x.keys.length n), .string ⟨#[116, 121, 112, 101]⟩, .func (.func 81) #[] #[]] W0 fun e w2 => ReadP eTxt W0 (partV x kTyp textV) e w2 :=
    part_txt rd_text ho kTyp (hE.below B0) trivial (HoldsC.mono (fun k hk _ => by show k < W0.heap.size; have hk : k < w.heap.size := hk; omega) _ _ _ _ _ (HoldsC.far hH B0))
  obtain ⟨o, ho_⟩ : ∃ o, o = rootV x := ⟨_, rfl⟩
  rw [← ho_]
  have HOO := Lib.hid ho_
  have HW0 := Lib.hid hW0
  have HR0 := Lib.hid R0
  have HB0 := Lib.hid B0
  have HI := Lib.hid info_V
  have HOR := Lib.hid ho
  have HE := Lib.hid hE
  have HHV := Lib.hid hH
  clear hW0 R0 B0 ho hE hH ho_
  go_enter Tryz.func45, Tryz.ntmps45
  go_upto_region 1 with (fail)
  rw [show w.alloc (.cells (row4 x.kind (str x.text) y x.items.length m z x.keys.length n) 63) = W0 from HW0.out.symm]
  go_upto_region 2 with (first
    | ((with_reducible show wpList _ _ _ (⟨some 7, .load _ _, _, _, _, _⟩ :: _) _ _); refine wpList_load_row rfl 63 _ rfl w.heap.size rfl 63 (row4 x.kind (str x.text) y x.items.length m z x.keys.length n) (0, 0) _ HR0.out Tryz.underlying63 rfl HI.out ?_)
    | (go_at_call 80; ((with_reducible refine CT.mono ?_); rintro e W2 ⟨t1, tv, ok1, rfl, ⟨rfl, _⟩, hor1, hb1⟩; have HOR1 := Lib.hid hor1; have HB1 := Lib.hid hb1; have s2 := hb1.size; clear hor1 hb1 CT)))
  have R2 : Hid (rowC W2 w.heap.size (row4 x.kind (str x.text) y x.items.length m z x.keys.length n) 63) := Lib.hid (rowC_below HR0.out HB1.out (by omega))
  have B2 : Hid (Below w.heap.size w W2) := Lib.hid (HB0.out.trans (HB1.out.mono (by omega)))
  rcases HOR1.out with ⟨h1, hok⟩ | ⟨h1, hok⟩
  rotate_left
  · subst hok
    have e0 : Hid (o = none) := Lib.hid (by rw [HOO.out]; unfold rootV; rw [if_pos (by rw [h1]; simp)])
    go_wp2
    go_ret2
    rw [e0.out]
    exact ⟨[], _, false, rfl, .inl ⟨rfl, rfl⟩, .inr ⟨rfl, rfl⟩, B2.out⟩
  subst hok
  by_cases hl : t1 = kLay
  rotate_left
  · have e0 : Hid (o = none) := Lib.hid (by rw [HOO.out]; unfold rootV; rw [if_pos (by rw [h1]; simpa using hl)])
    have f1 := (eq_kLay t1).trans (decide_eq_false hl)
    clear hl
    go_wp2
    go_ret2
    rw [e0.out]
    exact ⟨[], _, false, rfl, .inl ⟨rfl, rfl⟩, .inr ⟨rfl, rfl⟩, B2.out⟩
  have e0 : Hid (o = partV x kDif (listV digV)) := Lib.hid (by rw [HOO.out]; unfold rootV; rw [if_neg (by rw [h1, hl]; simp)])
  have f1 := (eq_kLay t1).trans (decide_eq_true hl)
  clear hl
  have CL : ∀ w', Gn W2 no w' → Calls Tryz.prog 85 #[.func (.func 83) #[] #[]] w' fun e w1 => e = .returned (.func (.func 117) #[] #[.pointer (some ⟨w'.heap.size, 0, none⟩)]) ∧ w1.cell? ⟨w'.heap.size, 0, none⟩ = some (.func (.func 83) #[] #[]) ∧ Gn W2 no w1 := fun w' hg => (listOf_dig _ _ w').mono fun e w1 ⟨h1, h2, h3⟩ => ⟨h1, h2, hg.call h3⟩
  have CP : ∀ bl w', Gn W2 no w' → w'.cell? ⟨bl, 0, none⟩ = some (.func (.func 83) #[] #[]) → Calls Tryz.prog 44 #[.agg #[.int .i64 x.kind, .string (str x.text), .slice y x.items.length m, .slice z x.keys.length n], .string ⟨#[100, 105, 102, 102, 95, 105, 100, 115]⟩, .func (.func 117) #[] #[.pointer (some ⟨bl, 0, none⟩)]] w' fun e w2 => ∃ a t ok, e = .returned (.tuple #[t, .bool ok]) ∧ eDigs.at_ w2 (fun k => w.heap.size ≤ k ∧ k < w2.heap.size) a t ∧ (partV x kDif (listV digV) = some a ∧ ok = true ∨ partV x kDif (listV digV) = none ∧ ok = false) ∧ Gn W2 no w2 := fun bl w' hg hc => by
    have hb : Below w.heap.size w w' := B2.out.trans (hg.below (by omega) (fun _ _ h => h))
    have sw := hg.size
    refine (part_digs (rd_lsdig rd_dig bl) HOR.out kDif (HE.out.below hb) ⟨trivial, hc⟩ (HoldsC.mono (fun k hk _ => by show k < w'.heap.size; have hk : k < w.heap.size := hk; omega) _ _ _ _ _ (HoldsC.far HHV.out hb))).mono ?_
    rintro e w2 ⟨a, t, ok, rfl, h2, h3, h4⟩
    exact ⟨a, t, ok, rfl, eDigs.mono h2 (fun k hk hlt => ⟨by have := hk.1; omega, hlt⟩), h3, hg.call h4⟩
  go_upto_region 4 with (fail)
  have OS : ∀ w', Gn W2 no w' → w'.rangeAt w.heap.size 0 [.int .i64 x.kind, .string (str x.text), .slice y x.items.length m, .slice z x.keys.length n] ∧ True := fun w' h => ⟨rowC_range (h.row R2.out id) 0 _ (fun q u hq => by rw [Nat.zero_add]; simpa [row4] using hq), trivial⟩
  have SO : ∀ w', Gn W2 no w' → Gn W2 no w' := fun _ h => h
  have ui := Tryz.underlying63
  have ii := HI.out
  refine wp_region_noPanic ?_
  refine wp_region_held_drew (S := Gn W2 no) (by kernel_rfl) (Gn.start _ _) (fun hHeld => ?_)
  generalize W2.drew = wd at *
  refine wpAnyH_take (i := 0) (oi := { dst := some 17, op := Op.load 63 (Operand.tmp 1), type := 63, pos := "oci.go:344", after := #[], guard := none }) (v := _) rfl (by kernel_rfl) (by kernel_rfl) (by kernel_rfl) (fun _ _ _ h => h) (yieldsIf_load_mid (by rfl) _ _ rfl _ _ rfl _ _ (by intro w hSw; have hSw := OS _ hSw; go_split_ands; assumption) (by assumption) rfl (by assumption)) (by assumption) ?_
  try simp only [Act.put, List.setIfInBounds_toArray, List.set_cons_zero, List.set_cons_succ]
  refine wpAnyH_ready (rs := [1]) (by kernel_rfl) (by simp) ?_
  refine (AllReadyH.cons (o := { dst := some 18, op := Op.call { callee := Callee.value (Operand.func 85), args := #[Operand.func 83], argTypes := #[149] }, type := 91, pos := "oci.go:344", after := #[], guard := none }) rfl (fun K hK => ?_) AllReadyH.nil)
  go_simp
  with_reducible refine (CL _ hHeld).mono ?_
  rintro e w1' ⟨rfl, hc1, m1'⟩
  refine hK.out _ _ (SO _ (by assumption)) (fun hHeld => ?_)
  clear hK K
  try simp only [Act.put, List.setIfInBounds_toArray, List.set_cons_zero, List.set_cons_succ]
  refine wpAnyH_ready (rs := [2]) (by kernel_rfl) (by simp) ?_
  refine (AllReadyH.cons (o := { dst := some 19, op := Op.call { callee := Callee.value (Operand.func 44), args := #[Operand.tmp 17, Operand.const (Value.string { data := #[100, 105, 102, 102, 95, 105, 100, 115] }), Operand.tmp 18], argTypes := #[63, 9, 91] }, type := 89, pos := "oci.go:344", after := #[{ on := 0, ground := Ground.data }, { on := 1, ground := Ground.data }, { on := 1, ground := Ground.chain }], guard := none }) rfl (fun K hK => ?_) AllReadyH.nil)
  go_simp
  with_reducible refine (CP _ _ hHeld hc1).mono ?_
  rintro e w2' ⟨a2, t2, ok2, rfl, hA2, hor2, m2'⟩
  refine hK.out _ _ (SO _ (by assumption)) (fun hHeld => ?_)
  clear hK K
  try simp only [Act.put, List.setIfInBounds_toArray, List.set_cons_zero, List.set_cons_succ]
  refine wpAnyH_take (i := 3) (oi := { dst := some 20, op := Op.extract (Operand.tmp 19) 0, type := 37, pos := "oci.go:344", after := #[{ on := 2, ground := Ground.data }], guard := none }) (v := ?_) rfl (by kernel_rfl) (by kernel_rfl) (by kernel_rfl) (fun _ _ _ h => h) (Or.inl ⟨by rfl, ?_⟩) (by assumption) ?_
  rotate_left
  · intro w hSw
    skip
    clear hSw
    go_simp
    try with_reducible rfl
  try simp only [Act.put, List.setIfInBounds_toArray, List.set_cons_zero, List.set_cons_succ]
  refine wpAnyH_take (i := 4) (oi := { dst := some 21, op := Op.extract (Operand.tmp 19) 1, type := 4, pos := "oci.go:344", after := #[{ on := 2, ground := Ground.data }], guard := none }) (v := ?_) rfl (by kernel_rfl) (by kernel_rfl) (by kernel_rfl) (fun _ _ _ h => h) (Or.inl ⟨by rfl, ?_⟩) (by assumption) ?_
  rotate_left
  · intro w hSw
    skip
    clear hSw
    go_simp
    try with_reducible rfl
  try simp only [Act.put, List.setIfInBounds_toArray, List.set_cons_zero, List.set_cons_succ]
  refine wpAnyH_take (i := 5) (oi := { dst := some 2, op := Op.assign (Operand.tmp 20), type := 37, pos := "oci.go:344", after := #[{ on := 3, ground := Ground.data }, { on := 2, ground := Ground.chain }, { on := 0, ground := Ground.phase }, { on := 1, ground := Ground.phase }, { on := 2, ground := Ground.phase }, { on := 3, ground := Ground.phase }, { on := 4, ground := Ground.phase }], guard := none }) (v := ?_) rfl (by kernel_rfl) (by kernel_rfl) (by kernel_rfl) (fun _ _ _ h => h) (Or.inl ⟨by rfl, ?_⟩) (by assumption) ?_
  rotate_left
  · intro w hSw
    skip
    clear hSw
    go_simp
    try with_reducible rfl
  try simp only [Act.put, List.setIfInBounds_toArray, List.set_cons_zero, List.set_cons_succ]
  refine wpAnyH_take (i := 6) (oi := { dst := some 3, op := Op.assign (Operand.tmp 21), type := 4, pos := "oci.go:344", after := #[{ on := 4, ground := Ground.data }, { on := 5, ground := Ground.chain }, { on := 0, ground := Ground.phase }, { on := 1, ground := Ground.phase }, { on := 2, ground := Ground.phase }, { on := 3, ground := Ground.phase }, { on := 4, ground := Ground.phase }, { on := 5, ground := Ground.phase }], guard := none }) (v := ?_) rfl (by kernel_rfl) (by kernel_rfl) (by kernel_rfl) (fun _ _ _ h => h) (Or.inl ⟨by rfl, ?_⟩) (by assumption) ?_
  rotate_left
  · intro w hSw
    skip
    clear hSw
    go_simp
    try with_reducible rfl
  try simp only [Act.put, List.setIfInBounds_toArray, List.set_cons_zero, List.set_cons_succ]
  refine wpAnyH_done (by kernel_rfl) ?_ _
  refine NoPanic.normal ?_
  go_wp2
  go_ret2
  exact ⟨a2, t2, ok2, rfl, hA2, by rw [e0.out]; exact hor2, B2.out.trans ((hHeld.below (B := w.heap.size) (by omega) (fun _ _ h => h)))⟩
theorem rd_root : RdF eDigs rootV 45 #[] (fun _ => True) where
  enter := enter_root
  stay := fun _ _ _ _ => trivial
  call := fun x w y m z n ho hE _ hH => readRoot_any x w y m z n ho hE hH
end Go.Proofs.YtnkencdibniagaaGreatDoor

