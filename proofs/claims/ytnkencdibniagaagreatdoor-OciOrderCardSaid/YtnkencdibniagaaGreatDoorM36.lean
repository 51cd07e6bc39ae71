/- Merged: OeE, OeF, OeG. -/
import Derived.Test.YtnkencdibniagaaGreatDoorM35
import Derived.Test.YtnkencdibniagaaGreatDoorM28
/- Layer 13: a list of descriptors, put. -/
namespace Go.Proofs.YtnkencdibniagaaGreatDoor
open Go.RowKit

theorem lst_putP {w w3 : World} {items : List JV} {B c N ci : Nat} {xi : Option Addr} {cs : Array Value} (hb : Below w.heap.size w w3) (hc : w.heap.size ≤ c) (hN : items.length = N)
    (hh : (Value.slice xi N ci = .slice none 0 0 ∧ items = []) ∨ ∃ (ad : Addr) (cap : Nat), Value.slice xi N ci = .slice (some ad) N cap ∧ HoldsR w3 (fun k => B ≤ k) items ad 0) (hcB : c < B) :
    PutP w (lstJ items) (.returned (.agg (row4 5 ⟨#[]⟩ xi N ci none 0 0))) (w3.setRow c cs) := by
  have cz : Chg (fun q => q = c) w3 (w3.setRow c cs) := (Chg.refl _ _).setRow _ _ (.inl rfl)
  have sz : (w3.setRow c cs).heap.size = w3.heap.size := setRow_size _ _ _
  have sb := hb.size
  subst hN
  refine ⟨xi, ci, none, 0, rfl, ?_, below_setRow hb hc _⟩
  show HoldsC _ _ (.mk 5 [] items []) (.int .i64 5) (.string (str [])) (.slice xi items.length ci) (.slice none 0 0)
  rw [HoldsC]
  refine ⟨rfl, rfl, by simp, .inl ⟨rfl, rfl⟩, ?_⟩
  rcases hh with ⟨h1, h2⟩ | ⟨ad, cap, h1, h2⟩
  · exact .inl ⟨h1, h2⟩
  · refine .inr ⟨ad, cap, h1, HoldsR.mono (fun q hq hlt => ⟨by have hq : B ≤ q := hq; omega, hlt⟩) _ _ _ (HoldsR.chg cz (fun q hq e => by have hq : B ≤ q := hq; omega) _ _ _ h2)⟩
/-- What puts one item. -/
structure PutF (f : FuncId) (J : DV → JV) : Prop where
  enter : ∀ (args : Array Value) (w : World), (callFunc f args).run Tryz.prog w = .ok (.enter f args) w
  call : ∀ (d : DV) (w : World), putD d → Env2 w → Calls Tryz.prog f #[.agg (encD d)] w fun e w' => PutP w (J d) e w'
theorem putF_des : PutF 59 fullJ := ⟨fun args w => by kernel_rfl, fun d w h hE => descriptor_put d h w hE⟩
set_option maxRecDepth 100000 in
set_option maxHeartbeats 16000000 in
theorem lsput_des {f : FuncId} {J : DV → JV} (hf : PutF f J) (l : List DV) (x : Option Addr) (cc : Nat) (w : World) (hE : Env2 w) (hl : l.length ≤ 65536) (hp : ∀ d ∈ l, putD d) (hL : eDess.at_ w (fun k => k < w.heap.size) l (.slice x l.length cc)) :
    Calls Tryz.prog 54 #[.slice x l.length cc, .func (.func f) #[] #[]] w fun e w' => PutP w (lstJ (l.map J)) e w' := by
  have hEn := hf.enter
  have HI := Lib.hid info_V
  obtain ⟨i0, hi0, hz0, hz1, hz2⟩ := info_parts info_V3
  obtain ⟨wc, hwc⟩ : ∃ wc, wc = (w.alloc (.cells #[.int .i64 0, .string ⟨#[]⟩, .slice none 0 0, .slice none 0 0] 63)).alloc (.cells (row4 5 ⟨#[]⟩ none 0 0 none 0 0) 63) := ⟨_, rfl⟩
  have s1 := size_alloc w (.cells #[.int .i64 0, .string ⟨#[]⟩, .slice none 0 0, .slice none 0 0] 63)
  have Z1 : rowC wc w.heap.size zeroV4 63 := by rw [hwc]; exact rowC_alloc (rowC_new w _ _) _
  have R1 : rowC wc (w.heap.size + 1) (row4 5 ⟨#[]⟩ none 0 0 none 0 0) 63 := by rw [hwc, ← s1]; exact rowC_new _ _ _
  have B1 : Below w.heap.size w wc := by rw [hwc]; exact ((Below.refl _ _).alloc (Nat.le_refl _) _).alloc (by omega) _
  have S1 : wc.heap.size = w.heap.size + 2 := by rw [hwc, size_alloc, s1]
  have HWC := Lib.hid hwc
  have HZX := Lib.hid Z1
  have HCX := Lib.hid R1
  have HBX := Lib.hid B1
  have HL := Lib.hid hL
  have HP := Lib.hid hp
  have HE := Lib.hid hE
  have HFN := Lib.hid hf
  have HID := Lib.hid (fun (d : DV) (h : goodD d) => show (Tryz.prog.info? 28).map (·.size) = some (encD d).size by rw [encD_size d h]; exact info_D)
  have HSZ := Lib.hid (fun (d : DV) (h : goodD d) => show (encD zeroD).size = (encD d).size by rw [encD_size d h]; rfl)
  clear hwc Z1 R1 B1 hL hp hE hf
  go_enter Tryz.func54, Tryz.ntmps54
  go_upto_region 2 with (first
    | ((with_reducible show wpList _ _ _ (⟨some 8, .build _ _, _, _, _, _⟩ :: _) _ _); refine wpList_build_as rfl 63 _ rfl (row4 5 ⟨#[]⟩ none 0 0 none 0 0) (by kernel_rfl) ?_)
    | ((with_reducible show wpList _ _ _ (⟨none, .store _ (.tmp 5) _, _, _, _, _⟩ :: _) _ _); refine wpList_store_last rfl 63 _ _ rfl (w.heap.size + 1) (row4 5 ⟨#[]⟩ none 0 0 none 0 0) rfl rfl 63 zeroV4 (by rw [size_alloc]) HI.out rfl (row4_all _ _ _ _ _ _ _ _) ?_))
  rw [← HWC.out]
  have HBC := Lib.hid (show (w.heap.size + 1) < wc.heap.size by omega)
  go_wp2
  go_loopg [11] l.length (fun gk s11 wr => ∃ j : Nat, s11 = .int .i64 (j : Int) ∧ Hid (gk = l.length - j) ∧ Hid (j ≤ l.length) ∧ Hid (GrB wc (w.heap.size + 1) wc.heap.size 5 ⟨#[]⟩ (.slice none 0 0) ((l.take j).map J) wr))
  case atStart => exact ⟨0, rfl, Lib.hid rfl, Lib.hid (Nat.zero_le _), Lib.hid ⟨.slice none 0 0, Chg.refl _ _, HCX.out, RowJ.nil _ _ _⟩⟩
  case round =>
    obtain ⟨j, rfl, HN, HNL, HM⟩ := hrel
    by_cases hj : j < l.length
    · have hj1 : (j : Int) < (l.length : Int) := by omega
      obtain ⟨d, hd⟩ : ∃ d, l[j]? = some d := ⟨_, List.getElem?_eq_getElem hj⟩
      obtain ⟨gd, ad, rfl, hab, hcs⟩ := dess_at HL.out hd
      obtain ⟨I, hGr, hRb, hRJ⟩ := HM.out
      obtain ⟨⟨xs, F, ho, hIt, hF⟩, _⟩ := hRJ
      obtain ⟨xi, ci, rfl⟩ := owns_form ho
      have hln : ((l.take j).map J).length = j := by rw [List.length_map, List.length_take]; omega
      rw [hln] at ho hF hRb
      have sB := HBX.out.size
      have sG := hGr.size
      have hbcl := HBC.out
      have hwb : Below w.heap.size w wr := HBX.out.trans (hGr.below (by omega) (fun q hq e => by omega))
      have HCS := Lib.hid (show ∀ i u, (encL d)[i]? = some u → wr.cell? ((ad.add (j * 36)).add i) = some u from fun i u hu => by
        rw [World.cell?_of_block (w := w) (w' := wr) (hwb.block _ (by rw [add_block, add_block]; exact hab))]
        exact hcs i u hu)
      obtain ⟨W1, hW1⟩ : ∃ W1, W1 = wr.alloc (.cells (encD d) 28) := ⟨_, rfl⟩
      have s1 : W1.heap.size = wr.heap.size + 1 := by rw [hW1]; exact size_alloc _ _
      have R1 : rowC W1 wr.heap.size (encD d) 28 := by rw [hW1]; exact rowC_new _ _ _
      have c1 : Chg (fun _ => False) wr W1 := by rw [hW1]; exact (Chg.refl _ _).alloc _
      have RB1 := c1.rowC hRb id
      have hpd : putD d := HP.out d (List.mem_of_getElem? hd)
      obtain ⟨SB, hSB⟩ : ∃ SB : Nat → Prop, SB = fun q => q = (w.heap.size + 1) ∨ (Value.slice xi j ci).ownBlock = some q := ⟨_, rfl⟩
      have hb1 : ¬ SB wr.heap.size := by
        rw [hSB]
        rintro (e | e)
        · omega
        · have := (ho.lt _ e).2; omega
      have hsb0 : SB (w.heap.size + 1) := by rw [hSB]; exact .inl rfl
      have hsb1 : ∀ k, (Value.slice xi j ci).ownBlock = some k → SB k := fun k hk => by rw [hSB]; exact .inr hk
      clear hSB
      obtain ⟨X, hX⟩ : ∃ X, X = encL d := ⟨_, rfl⟩
      have hXa : X.toArray = encD d := by rw [hX, encD_list]
      obtain ⟨K2, hK2⟩ : ∃ K2, K2 = (J d).kind := ⟨_, rfl⟩
      obtain ⟨T2, hT2⟩ : ∃ T2, T2 = str (J d).text := ⟨_, rfl⟩
      obtain ⟨N2, hN2⟩ : ∃ N2, N2 = (J d).items.length := ⟨_, rfl⟩
      obtain ⟨N3, hN3⟩ : ∃ N3, N3 = (J d).keys.length := ⟨_, rfl⟩
      have C4 : ∀ w', Gn W1 SB w' → Chg (fun _ => False) W1 w' → Calls Tryz.prog f #[.agg X.toArray] w' fun e w2 => ∃ y2 m2 y3 m3, e = .returned (.agg #[.int .i64 K2, .string T2, .slice y2 N2 m2, .slice y3 N3 m3]) ∧ HoldsC w2 (fun k => W1.heap.size ≤ k ∧ k < w2.heap.size) (J d) (.int .i64 K2) (.string T2) (.slice y2 N2 m2) (.slice y3 N3 m3) ∧ Chg (fun _ => False) W1 w2 ∧ Gn W1 SB w2 := fun w' hg hc => by
        have hew : Env2 w' := HE.out.below (hwb.trans (((Chg.below c1 (B := w.heap.size) (by omega) (fun _ _ h => h)).trans (hc.below (B := w.heap.size) (by omega) (fun _ _ h => h)))))
        rw [hXa, hK2, hT2, hN2, hN3]
        refine (HFN.out.call d w' hpd hew).mono ?_
        rintro e w2 ⟨y, m, z, n, rfl, hV, hb⟩
        exact ⟨y, m, z, n, rfl, HoldsC.mono (fun k hk hlt => ⟨Nat.le_trans hc.size hk.1, hlt⟩) _ _ _ _ _ hV, hc.trans (Chg.of_below hb) (fun _ _ h => h), Gn.call hg hb⟩
      have iD : (Tryz.prog.info? 28).map (·.size) = some X.length := by
        rw [hX, encL_len gd.1]
        exact info_D
      have OS : ∀ w', Gn W1 SB w' → w'.rangeAt wr.heap.size 0 X ∧ True := fun w' h => ⟨by rw [hX]; exact (encD_pla gd.1 (h.row R1 hb1)).1, trivial⟩
      have HGD := Lib.hid gd
      have HGR := Lib.hid hGr
      have HRB := Lib.hid hRb
      have HO := Lib.hid ho
      have HIT1 := Lib.hid hIt
      have HF1 := Lib.hid hF
      have HLN := Lib.hid hln
      have HXV := Lib.hid hd
      have HRB1 := Lib.hid RB1
      have HC1 := Lib.hid c1
      have HW1 := Lib.hid hW1
      have HEL := Lib.hid (encD_list d)
      have HIL := Lib.hid (show (Tryz.prog.info? 28).map (·.size) = some (encL d).length by rw [encL_len gd.1]; exact info_D)
      have hjm : j ≤ 65536 := by omega
      clear hcs gd hGr hRb ho hIt hF hln hd R1 RB1 hW1 hwb HM hj hX hXa hK2 hT2 hN2 hN3 hpd
      go_upto_region 5 with (first
        | ((with_reducible show wpList _ _ _ (⟨some 14, .load _ _, _, _, _, _⟩ :: _) _ _); refine wpList_load_at rfl 28 _ rfl (ad.add (j * 36)) rfl (encL d) _ HCS.out Tryz.underlying28 rfl HIL.out ?_)
        | ((with_reducible show wpList _ _ _ (⟨none, .store _ (.tmp 7) _, _, _, _, _⟩ :: _) _ _); refine wpList_store_last rfl 28 _ _ rfl wr.heap.size (encD d) rfl (by rw [HEL.out]; rfl) 28 (encD zeroD) rfl (HID.out d HGD.out) (HSZ.out d HGD.out) (encD_one _) ?_))
      rw [← HW1.out]
      have SO : ∀ w', Gn W1 SB w' → Gn W1 SB w' := fun _ h => h
      have uD := Tryz.underlying28
      refine wp_region_noPanic ?_
      refine wp_region_held_drew (S := Gn W1 SB) (by kernel_rfl) (Gn.start _ _) (fun hHeld => ?_)
      have HCD : Hid (Chg (fun _ => False) W1 W1.drew) := Lib.hid (Chg.refl _ _).drew
      have L1 : W1.drew.cell? ⟨(w.heap.size + 1), 2, none⟩ = some (.slice xi j ci) := rowC_cell (rowC_drew HRB1.out) 2
      generalize W1.drew = wd at *
      refine wpAnyH_take (i := 0) (oi := { dst := some 15, op := Op.fieldAddr 63 (Operand.tmp 5) 2, type := 0, pos := "oci.go:388", after := #[], guard := none }) (v := ?_) rfl (by kernel_rfl) (by kernel_rfl) (by kernel_rfl) (fun _ _ _ h => h) (Or.inl ⟨by rfl, ?_⟩) (by assumption) ?_
      rotate_left
      · intro w hSw
        skip
        clear hSw
        go_simp
        try with_reducible rfl
      try simp only [Act.put, List.setIfInBounds_toArray, List.set_cons_zero, List.set_cons_succ]
      refine wpAnyH_take (i := 2) (oi := { dst := some 17, op := Op.move (Operand.tmp 1), type := 104, pos := "oci.go:388", after := #[], guard := none }) (v := ?_) rfl (by kernel_rfl) (by kernel_rfl) (by kernel_rfl) (fun _ _ _ h => h) (Or.inl ⟨by rfl, ?_⟩) (by assumption) ?_
      rotate_left
      · intro w hSw
        skip
        clear hSw
        go_simp
        try with_reducible rfl
      try simp only [Act.put, List.setIfInBounds_toArray, List.set_cons_zero, List.set_cons_succ]
      refine wpAnyH_take (i := 3) (oi := { dst := some 18, op := Op.load 28 (Operand.tmp 7), type := 28, pos := "oci.go:388", after := #[], guard := none }) (v := _) rfl (by kernel_rfl) (by kernel_rfl) (by kernel_rfl) (fun _ _ _ h => h) (yieldsIf_load_mid (by rfl) _ _ rfl _ _ rfl _ _ (by intro w hSw; have hSw := OS _ hSw; go_split_ands; assumption) (by assumption) rfl (by assumption)) (by assumption) ?_
      try simp only [Act.put, List.setIfInBounds_toArray, List.set_cons_zero, List.set_cons_succ]
      refine wpAnyH_ready (rs := [1, 4]) (by kernel_rfl) (by simp) ?_
      refine (AllReadyH.cons (o := { dst := some 16, op := Op.load 60 (Operand.tmp 15), type := 60, pos := "oci.go:388", after := #[{ on := 0, ground := Ground.data }], guard := none }) rfl (fun K hK => ?_) (AllReadyH.cons (o := { dst := some 19, op := Op.call { callee := Callee.value (Operand.tmp 17), args := #[Operand.tmp 18], argTypes := #[28] }, type := 63, pos := "oci.go:388", after := #[{ on := 2, ground := Ground.data }, { on := 3, ground := Ground.data }], guard := none }) rfl (fun K hK => ?_) AllReadyH.nil))
      · skip
        go_simp
        refine hK.out _ _ (SO _ (by first | assumption | exact Gn.alloc (by assumption) _ | exact Gn.cell (by assumption) _ _ (.inl hsb0) | exact Gn.call (by assumption) (by assumption))) (fun hHeld => ?_)
        clear hK K
        try simp only [Act.put, List.setIfInBounds_toArray, List.set_cons_zero, List.set_cons_succ]
        refine wpAnyH_ready (rs := [4]) (by kernel_rfl) (by simp) ?_
        refine (AllReadyH.cons (o := { dst := some 19, op := Op.call { callee := Callee.value (Operand.tmp 17), args := #[Operand.tmp 18], argTypes := #[28] }, type := 63, pos := "oci.go:388", after := #[{ on := 2, ground := Ground.data }, { on := 3, ground := Ground.data }], guard := none }) rfl (fun K hK => ?_) AllReadyH.nil)
        go_simp
        with_reducible refine (C4 _ hHeld HCD.out).mono ?_
        rintro e w4' ⟨y2, m2, y3, m3, rfl, hx4, hc4, m4'⟩
        have s4 := hc4.size
        have L2 : w4'.cell? ⟨(w.heap.size + 1), 2, none⟩ = some (.slice xi j ci) := rowC_cell (hc4.rowC HRB1.out id) 2
        have L3 : ∀ o, (w4'.alloc o).cell? ⟨(w.heap.size + 1), 2, none⟩ = some (.slice xi j ci) := fun o => rowC_cell ((hc4.alloc o).rowC HRB1.out id) 2
        have OW : ∀ o, (w4'.alloc o).ownsRow wc.heap.size 63 4 (.slice xi j ci) j xs := fun o => ((HC1.out.trans hc4 (fun _ _ h => h)).alloc o).owns HO.out (fun _ _ h => h)
        have SG : ∀ o w7, (w4'.alloc o).grownBy w7 (Value.slice xi j ci).ownBlock → Gn W1 SB w7 := fun o w7 hg => grown_bc m4' hsb1 hg
        have SZ : ∀ o w7, (w4'.alloc o).grownBy w7 (Value.slice xi j ci).ownBlock → w7.cell? ⟨(w.heap.size + 1), 2, none⟩ = some (.slice xi j ci) ∧ w7.frozen? ⟨(w.heap.size + 1), 2, none⟩ = false := fun o w7 hg => grown_at HO.out (by omega) ((hc4.alloc o).rowC HRB1.out id) hg
        refine hK.out _ _ (SO _ (by assumption)) (fun hHeld => ?_)
        clear hK K
        try simp only [Act.put, List.setIfInBounds_toArray, List.set_cons_zero, List.set_cons_succ]
        refine wpAnyH_ready (rs := [5]) (by kernel_rfl) (by simp) ?_
        refine (AllReadyH.cons (o := { dst := some 20, op := Op.buildSlice 60 1 #[(0, Operand.tmp 19)], type := 60, pos := "oci.go:388", after := #[{ on := 4, ground := Ground.data }], guard := none }) rfl (fun K hK => ?_) AllReadyH.nil)
        skip
        go_simp
        refine hK.out _ _ (SO _ (by first | assumption | exact Gn.alloc (by assumption) _ | exact Gn.cell (by assumption) _ _ (.inl hsb0) | exact Gn.call (by assumption) (by assumption))) (fun hHeld => ?_)
        clear hK K
        try simp only [Act.put, List.setIfInBounds_toArray, List.set_cons_zero, List.set_cons_succ]
        refine wpAnyH_ready (rs := [6]) (by kernel_rfl) (by simp) ?_
        refine (AllReadyH.cons (o := { dst := some 21, op := Op.call { callee := Callee.builtin Builtin.append, args := #[Operand.tmp 16, Operand.tmp 20], argTypes := #[60, 60] }, type := 60, pos := "oci.go:388", after := #[{ on := 1, ground := Ground.data }, { on := 5, ground := Ground.data }, { on := 4, ground := Ground.chain }], guard := none }) rfl (fun K hK => ?_) AllReadyH.nil)
        refine step_append_lies _ (by rfl) _ _ 60 (by rfl) wc.heap.size 63 i0 (.agg #[.int .i64 0, .string ⟨#[]⟩, .slice none 0 0, .slice none 0 0]) 4 72 Tryz.underlying60 hi0 hz0 hz1 hz2 (by rfl) (by decide) (.slice xi j ci) j xs (by rfl) (OW _) ⟨w4'.heap.size, 0, none⟩ 1 1 [.int .i64 K2, .string T2, .slice y2 N2 m2, .slice y3 N3 m3] (by rfl) (by rfl) (World.news_of_block (heap_alloc_new w4' _)) (fun u hu => all_one4 u hu) (by decide) (by unfold maxLen; omega) (by omega) (by rw [size_alloc]; omega) _ rfl ?_
        intro g cap w7 hown7 hgrow7 hat7 hlt7
        have S7 := SG _ _ hgrow7
        obtain ⟨z2, y2f⟩ := SZ _ _ hgrow7
        refine hK.out _ _ (SO _ (by first | assumption | exact Gn.alloc (by assumption) _ | exact Gn.cell (by assumption) _ _ (.inl hsb0) | exact Gn.call (by assumption) (by assumption))) (fun hHeld => ?_)
        clear hK K
        try simp only [Act.put, List.setIfInBounds_toArray, List.set_cons_zero, List.set_cons_succ]
        refine wpAnyH_take (i := 7) (oi := { dst := some 22, op := Op.fieldAddr 63 (Operand.tmp 5) 2, type := 0, pos := "oci.go:388", after := #[{ on := 0, ground := Ground.phase }, { on := 1, ground := Ground.phase }, { on := 2, ground := Ground.phase }, { on := 3, ground := Ground.phase }, { on := 4, ground := Ground.phase }, { on := 5, ground := Ground.phase }, { on := 6, ground := Ground.phase }], guard := none }) (v := ?_) rfl (by kernel_rfl) (by kernel_rfl) (by kernel_rfl) (fun _ _ _ h => h) (Or.inl ⟨by rfl, ?_⟩) (by assumption) ?_
        rotate_left
        · intro w hSw
          skip
          clear hSw
          go_simp
          try with_reducible rfl
        try simp only [Act.put, List.setIfInBounds_toArray, List.set_cons_zero, List.set_cons_succ]
        refine wpAnyH_ready (rs := [8]) (by kernel_rfl) (by simp) ?_
        refine (AllReadyH.cons (o := { dst := none, op := Op.store 60 (Operand.tmp 22) (Operand.tmp 21), type := 0, pos := "oci.go:388", after := #[{ on := 7, ground := Ground.data }, { on := 6, ground := Ground.data }, { on := 6, ground := Ground.chain }, { on := 0, ground := Ground.phase }, { on := 1, ground := Ground.phase }, { on := 2, ground := Ground.phase }, { on := 3, ground := Ground.phase }, { on := 4, ground := Ground.phase }, { on := 5, ground := Ground.phase }, { on := 6, ground := Ground.phase }], guard := none }) rfl (fun K hK => ?_) AllReadyH.nil)
        skip
        go_simp
        refine hK.out _ _ (SO _ (by first | assumption | exact Gn.alloc (by assumption) _ | exact Gn.cell (by assumption) _ _ (.inl hsb0) | exact Gn.call (by assumption) (by assumption))) (fun hHeld => ?_)
        clear hK K
        try simp only [Act.put, List.setIfInBounds_toArray, List.set_cons_zero, List.set_cons_succ]
        refine wpAnyH_done (by kernel_rfl) ?_ _
        refine NoPanic.normal ?_
        go_wp2_with (fail)
        go_roundg (l.length - (j + 1))
        case measure => rw [HN.out]; omega
        case rel =>
          refine ⟨j + 1, rfl, Lib.hid rfl, Lib.hid (by omega), Lib.hid ?_⟩
          rw [take_one HXV.out, List.map_append]
          exact row_round rfl hbcl HGR.out HRB.out HO.out HIT1.out (fun q hq => ⟨(HF1.out q hq).1, id, (HF1.out q hq).2.2⟩) HLN.out HC1.out hc4 hx4 hown7 hgrow7 (by rw [size_alloc] at hat7; exact hat7)
      · go_simp
        with_reducible refine (C4 _ hHeld HCD.out).mono ?_
        rintro e w4' ⟨y2, m2, y3, m3, rfl, hx4, hc4, m4'⟩
        have s4 := hc4.size
        have L2 : w4'.cell? ⟨(w.heap.size + 1), 2, none⟩ = some (.slice xi j ci) := rowC_cell (hc4.rowC HRB1.out id) 2
        have L3 : ∀ o, (w4'.alloc o).cell? ⟨(w.heap.size + 1), 2, none⟩ = some (.slice xi j ci) := fun o => rowC_cell ((hc4.alloc o).rowC HRB1.out id) 2
        have OW : ∀ o, (w4'.alloc o).ownsRow wc.heap.size 63 4 (.slice xi j ci) j xs := fun o => ((HC1.out.trans hc4 (fun _ _ h => h)).alloc o).owns HO.out (fun _ _ h => h)
        have SG : ∀ o w7, (w4'.alloc o).grownBy w7 (Value.slice xi j ci).ownBlock → Gn W1 SB w7 := fun o w7 hg => grown_bc m4' hsb1 hg
        have SZ : ∀ o w7, (w4'.alloc o).grownBy w7 (Value.slice xi j ci).ownBlock → w7.cell? ⟨(w.heap.size + 1), 2, none⟩ = some (.slice xi j ci) ∧ w7.frozen? ⟨(w.heap.size + 1), 2, none⟩ = false := fun o w7 hg => grown_at HO.out (by omega) ((hc4.alloc o).rowC HRB1.out id) hg
        refine hK.out _ _ (SO _ (by assumption)) (fun hHeld => ?_)
        clear hK K
        try simp only [Act.put, List.setIfInBounds_toArray, List.set_cons_zero, List.set_cons_succ]
        refine wpAnyH_ready (rs := [1, 5]) (by kernel_rfl) (by simp) ?_
        refine (AllReadyH.cons (o := { dst := some 16, op := Op.load 60 (Operand.tmp 15), type := 60, pos := "oci.go:388", after := #[{ on := 0, ground := Ground.data }], guard := none }) rfl (fun K hK => ?_) (AllReadyH.cons (o := { dst := some 20, op := Op.buildSlice 60 1 #[(0, Operand.tmp 19)], type := 60, pos := "oci.go:388", after := #[{ on := 4, ground := Ground.data }], guard := none }) rfl (fun K hK => ?_) AllReadyH.nil))
        · skip
          go_simp
          refine hK.out _ _ (SO _ (by first | assumption | exact Gn.alloc (by assumption) _ | exact Gn.cell (by assumption) _ _ (.inl hsb0) | exact Gn.call (by assumption) (by assumption))) (fun hHeld => ?_)
          clear hK K
          try simp only [Act.put, List.setIfInBounds_toArray, List.set_cons_zero, List.set_cons_succ]
          refine wpAnyH_ready (rs := [5]) (by kernel_rfl) (by simp) ?_
          refine (AllReadyH.cons (o := { dst := some 20, op := Op.buildSlice 60 1 #[(0, Operand.tmp 19)], type := 60, pos := "oci.go:388", after := #[{ on := 4, ground := Ground.data }], guard := none }) rfl (fun K hK => ?_) AllReadyH.nil)
          skip
          go_simp
          refine hK.out _ _ (SO _ (by first | assumption | exact Gn.alloc (by assumption) _ | exact Gn.cell (by assumption) _ _ (.inl hsb0) | exact Gn.call (by assumption) (by assumption))) (fun hHeld => ?_)
          clear hK K
          try simp only [Act.put, List.setIfInBounds_toArray, List.set_cons_zero, List.set_cons_succ]
          refine wpAnyH_ready (rs := [6]) (by kernel_rfl) (by simp) ?_
          refine (AllReadyH.cons (o := { dst := some 21, op := Op.call { callee := Callee.builtin Builtin.append, args := #[Operand.tmp 16, Operand.tmp 20], argTypes := #[60, 60] }, type := 60, pos := "oci.go:388", after := #[{ on := 1, ground := Ground.data }, { on := 5, ground := Ground.data }, { on := 4, ground := Ground.chain }], guard := none }) rfl (fun K hK => ?_) AllReadyH.nil)
          refine step_append_lies _ (by rfl) _ _ 60 (by rfl) wc.heap.size 63 i0 (.agg #[.int .i64 0, .string ⟨#[]⟩, .slice none 0 0, .slice none 0 0]) 4 72 Tryz.underlying60 hi0 hz0 hz1 hz2 (by rfl) (by decide) (.slice xi j ci) j xs (by rfl) (OW _) ⟨w4'.heap.size, 0, none⟩ 1 1 [.int .i64 K2, .string T2, .slice y2 N2 m2, .slice y3 N3 m3] (by rfl) (by rfl) (World.news_of_block (heap_alloc_new w4' _)) (fun u hu => all_one4 u hu) (by decide) (by unfold maxLen; omega) (by omega) (by rw [size_alloc]; omega) _ rfl ?_
          intro g cap w7 hown7 hgrow7 hat7 hlt7
          have S7 := SG _ _ hgrow7
          obtain ⟨z2, y2f⟩ := SZ _ _ hgrow7
          refine hK.out _ _ (SO _ (by first | assumption | exact Gn.alloc (by assumption) _ | exact Gn.cell (by assumption) _ _ (.inl hsb0) | exact Gn.call (by assumption) (by assumption))) (fun hHeld => ?_)
          clear hK K
          try simp only [Act.put, List.setIfInBounds_toArray, List.set_cons_zero, List.set_cons_succ]
          refine wpAnyH_take (i := 7) (oi := { dst := some 22, op := Op.fieldAddr 63 (Operand.tmp 5) 2, type := 0, pos := "oci.go:388", after := #[{ on := 0, ground := Ground.phase }, { on := 1, ground := Ground.phase }, { on := 2, ground := Ground.phase }, { on := 3, ground := Ground.phase }, { on := 4, ground := Ground.phase }, { on := 5, ground := Ground.phase }, { on := 6, ground := Ground.phase }], guard := none }) (v := ?_) rfl (by kernel_rfl) (by kernel_rfl) (by kernel_rfl) (fun _ _ _ h => h) (Or.inl ⟨by rfl, ?_⟩) (by assumption) ?_
          rotate_left
          · intro w hSw
            skip
            clear hSw
            go_simp
            try with_reducible rfl
          try simp only [Act.put, List.setIfInBounds_toArray, List.set_cons_zero, List.set_cons_succ]
          refine wpAnyH_ready (rs := [8]) (by kernel_rfl) (by simp) ?_
          refine (AllReadyH.cons (o := { dst := none, op := Op.store 60 (Operand.tmp 22) (Operand.tmp 21), type := 0, pos := "oci.go:388", after := #[{ on := 7, ground := Ground.data }, { on := 6, ground := Ground.data }, { on := 6, ground := Ground.chain }, { on := 0, ground := Ground.phase }, { on := 1, ground := Ground.phase }, { on := 2, ground := Ground.phase }, { on := 3, ground := Ground.phase }, { on := 4, ground := Ground.phase }, { on := 5, ground := Ground.phase }, { on := 6, ground := Ground.phase }], guard := none }) rfl (fun K hK => ?_) AllReadyH.nil)
          skip
          go_simp
          refine hK.out _ _ (SO _ (by first | assumption | exact Gn.alloc (by assumption) _ | exact Gn.cell (by assumption) _ _ (.inl hsb0) | exact Gn.call (by assumption) (by assumption))) (fun hHeld => ?_)
          clear hK K
          try simp only [Act.put, List.setIfInBounds_toArray, List.set_cons_zero, List.set_cons_succ]
          refine wpAnyH_done (by kernel_rfl) ?_ _
          refine NoPanic.normal ?_
          go_wp2_with (fail)
          go_roundg (l.length - (j + 1))
          case measure => rw [HN.out]; omega
          case rel =>
            refine ⟨j + 1, rfl, Lib.hid rfl, Lib.hid (by omega), Lib.hid ?_⟩
            rw [take_one HXV.out, List.map_append]
            exact row_round rfl hbcl HGR.out HRB.out HO.out HIT1.out (fun q hq => ⟨(HF1.out q hq).1, id, (HF1.out q hq).2.2⟩) HLN.out HC1.out hc4 hx4 hown7 hgrow7 (by rw [size_alloc] at hat7; exact hat7)
        · skip
          go_simp
          refine hK.out _ _ (SO _ (by first | assumption | exact Gn.alloc (by assumption) _ | exact Gn.cell (by assumption) _ _ (.inl hsb0) | exact Gn.call (by assumption) (by assumption))) (fun hHeld => ?_)
          clear hK K
          try simp only [Act.put, List.setIfInBounds_toArray, List.set_cons_zero, List.set_cons_succ]
          refine wpAnyH_ready (rs := [1]) (by kernel_rfl) (by simp) ?_
          refine (AllReadyH.cons (o := { dst := some 16, op := Op.load 60 (Operand.tmp 15), type := 60, pos := "oci.go:388", after := #[{ on := 0, ground := Ground.data }], guard := none }) rfl (fun K hK => ?_) AllReadyH.nil)
          skip
          go_simp
          refine hK.out _ _ (SO _ (by first | assumption | exact Gn.alloc (by assumption) _ | exact Gn.cell (by assumption) _ _ (.inl hsb0) | exact Gn.call (by assumption) (by assumption))) (fun hHeld => ?_)
          clear hK K
          try simp only [Act.put, List.setIfInBounds_toArray, List.set_cons_zero, List.set_cons_succ]
          refine wpAnyH_ready (rs := [6]) (by kernel_rfl) (by simp) ?_
          refine (AllReadyH.cons (o := { dst := some 21, op := Op.call { callee := Callee.builtin Builtin.append, args := #[Operand.tmp 16, Operand.tmp 20], argTypes := #[60, 60] }, type := 60, pos := "oci.go:388", after := #[{ on := 1, ground := Ground.data }, { on := 5, ground := Ground.data }, { on := 4, ground := Ground.chain }], guard := none }) rfl (fun K hK => ?_) AllReadyH.nil)
          refine step_append_lies _ (by rfl) _ _ 60 (by rfl) wc.heap.size 63 i0 (.agg #[.int .i64 0, .string ⟨#[]⟩, .slice none 0 0, .slice none 0 0]) 4 72 Tryz.underlying60 hi0 hz0 hz1 hz2 (by rfl) (by decide) (.slice xi j ci) j xs (by rfl) (OW _) ⟨w4'.heap.size, 0, none⟩ 1 1 [.int .i64 K2, .string T2, .slice y2 N2 m2, .slice y3 N3 m3] (by rfl) (by rfl) (World.news_of_block (heap_alloc_new w4' _)) (fun u hu => all_one4 u hu) (by decide) (by unfold maxLen; omega) (by omega) (by rw [size_alloc]; omega) _ rfl ?_
          intro g cap w7 hown7 hgrow7 hat7 hlt7
          have S7 := SG _ _ hgrow7
          obtain ⟨z2, y2f⟩ := SZ _ _ hgrow7
          refine hK.out _ _ (SO _ (by first | assumption | exact Gn.alloc (by assumption) _ | exact Gn.cell (by assumption) _ _ (.inl hsb0) | exact Gn.call (by assumption) (by assumption))) (fun hHeld => ?_)
          clear hK K
          try simp only [Act.put, List.setIfInBounds_toArray, List.set_cons_zero, List.set_cons_succ]
          refine wpAnyH_take (i := 7) (oi := { dst := some 22, op := Op.fieldAddr 63 (Operand.tmp 5) 2, type := 0, pos := "oci.go:388", after := #[{ on := 0, ground := Ground.phase }, { on := 1, ground := Ground.phase }, { on := 2, ground := Ground.phase }, { on := 3, ground := Ground.phase }, { on := 4, ground := Ground.phase }, { on := 5, ground := Ground.phase }, { on := 6, ground := Ground.phase }], guard := none }) (v := ?_) rfl (by kernel_rfl) (by kernel_rfl) (by kernel_rfl) (fun _ _ _ h => h) (Or.inl ⟨by rfl, ?_⟩) (by assumption) ?_
          rotate_left
          · intro w hSw
            skip
            clear hSw
            go_simp
            try with_reducible rfl
          try simp only [Act.put, List.setIfInBounds_toArray, List.set_cons_zero, List.set_cons_succ]
          refine wpAnyH_ready (rs := [8]) (by kernel_rfl) (by simp) ?_
          refine (AllReadyH.cons (o := { dst := none, op := Op.store 60 (Operand.tmp 22) (Operand.tmp 21), type := 0, pos := "oci.go:388", after := #[{ on := 7, ground := Ground.data }, { on := 6, ground := Ground.data }, { on := 6, ground := Ground.chain }, { on := 0, ground := Ground.phase }, { on := 1, ground := Ground.phase }, { on := 2, ground := Ground.phase }, { on := 3, ground := Ground.phase }, { on := 4, ground := Ground.phase }, { on := 5, ground := Ground.phase }, { on := 6, ground := Ground.phase }], guard := none }) rfl (fun K hK => ?_) AllReadyH.nil)
          skip
          go_simp
          refine hK.out _ _ (SO _ (by first | assumption | exact Gn.alloc (by assumption) _ | exact Gn.cell (by assumption) _ _ (.inl hsb0) | exact Gn.call (by assumption) (by assumption))) (fun hHeld => ?_)
          clear hK K
          try simp only [Act.put, List.setIfInBounds_toArray, List.set_cons_zero, List.set_cons_succ]
          refine wpAnyH_done (by kernel_rfl) ?_ _
          refine NoPanic.normal ?_
          go_wp2_with (fail)
          go_roundg (l.length - (j + 1))
          case measure => rw [HN.out]; omega
          case rel =>
            refine ⟨j + 1, rfl, Lib.hid rfl, Lib.hid (by omega), Lib.hid ?_⟩
            rw [take_one HXV.out, List.map_append]
            exact row_round rfl hbcl HGR.out HRB.out HO.out HIT1.out (fun q hq => ⟨(HF1.out q hq).1, id, (HF1.out q hq).2.2⟩) HLN.out HC1.out hc4 hx4 hown7 hgrow7 (by rw [size_alloc] at hat7; exact hat7)
    · have hj1 : ¬ (j : Int) < (l.length : Int) := by omega
      obtain ⟨I, hGr, hRb, hRJ⟩ := HM.out
      have hln : l.take j = l := List.take_of_length_le (by omega)
      rw [hln] at hRJ
      have hJ := hRJ.holds
      obtain ⟨⟨xs, F, ho, _, _⟩, _⟩ := hRJ
      obtain ⟨xi, ci, rfl⟩ := owns_form ho
      have sB := HBX.out.size
      have sG := hGr.size
      have hbcl := HBC.out
      have hwb : Below w.heap.size w wr := HBX.out.trans (hGr.below (by omega) (fun q hq e => by omega))
      have hzr := hGr.rowC HZX.out (by omega)
      rw [List.length_map] at hRb hJ
      have HJ := Lib.hid hJ
      have HRB := Lib.hid hRb
      have HWB := Lib.hid hwb
      have HZR := Lib.hid hzr
      clear hGr hRb hJ ho hwb hzr HM hj
      go_wp2_with (first
        | ((with_reducible show wpList _ _ _ (⟨some 24, .load _ _, _, _, _, _⟩ :: _) _ _); refine wpList_load_row rfl 63 _ rfl (w.heap.size + 1) rfl 63 (row4 5 ⟨#[]⟩ xi l.length ci none 0 0) (0, 0) _ HRB.out Tryz.underlying63 rfl HI.out ?_)
        | ((with_reducible show wpList _ _ _ (⟨none, .store _ (.tmp 4) _, _, _, _, _⟩ :: _) _ _); refine wpList_store_row rfl 63 _ _ rfl w.heap.size (row4 5 ⟨#[]⟩ xi l.length ci none 0 0) rfl rfl 63 zeroV4 HZR.out HI.out rfl (row4_all _ _ _ _ _ _ _ _) ?_))
      refine bodyPost_ret (results_cell_row rfl _ _ w.heap.size 63 (row4 5 ⟨#[]⟩ xi l.length ci none 0 0) (0, 0) _ rfl (rowC_setRow HZR.out _) Tryz.underlying63 rfl HI.out) rfl ?_
      exact lst_putP HWB.out (Nat.le_refl _) (by rw [List.length_map]) HJ.out (by omega)
end Go.Proofs.YtnkencdibniagaaGreatDoor

/- Layer 13: a list of digests, put. -/
namespace Go.Proofs.YtnkencdibniagaaGreatDoor
open Go.RowKit

def digJ (D : Bs) : JV := txtJ (textL D)
theorem enter_putdig (args : Array Value) (w : World) : (callFunc 62 args).run Tryz.prog w = .ok (.enter 62 args) w := by kernel_rfl
theorem digs_at {w : World} {F : Nat → Prop} {l : List Bs} {x : Option Addr} {n c : Nat} (h : eDigs.at_ w F l (.slice x n c)) {i : Nat} {d : Bs} (hi : l[i]? = some d) : d.length = 32 ∧ ∃ ad, x = some ad ∧ F ad.block ∧ ∀ j u, ((cells8 d).toList)[j]? = some u → w.cell? ((ad.add (i * 32)).add j) = some u := by
  rcases h with ⟨_, h2⟩ | ⟨ad, cap, h1, h2⟩
  · subst h2; simp at hi
  · cases h1
    obtain ⟨h3, h4, h5⟩ := h2 i d hi
    refine ⟨h4, ad, rfl, h3, fun j u hj => ?_⟩
    have := h5 j u hj
    rw [add_add, show i * 32 + j = 32 * i + j by omega]
    exact this
set_option maxRecDepth 100000 in
set_option maxHeartbeats 16000000 in
theorem lsput_dig (l : List Bs) (x : Option Addr) (cc : Nat) (w : World) (hE : Env2 w) (hl : l.length ≤ 65536) (hL : eDigs.at_ w (fun k => k < w.heap.size) l (.slice x l.length cc)) :
    Calls Tryz.prog 61 #[.slice x l.length cc, .func (.func 62) #[] #[]] w fun e w' => PutP w (lstJ (l.map digJ)) e w' := by
  have hEn := enter_putdig
  have HI := Lib.hid info_V
  obtain ⟨i0, hi0, hz0, hz1, hz2⟩ := info_parts info_V3
  obtain ⟨wc, hwc⟩ : ∃ wc, wc = (w.alloc (.cells #[.int .i64 0, .string ⟨#[]⟩, .slice none 0 0, .slice none 0 0] 63)).alloc (.cells (row4 5 ⟨#[]⟩ none 0 0 none 0 0) 63) := ⟨_, rfl⟩
  have s1 := size_alloc w (.cells #[.int .i64 0, .string ⟨#[]⟩, .slice none 0 0, .slice none 0 0] 63)
  have Z1 : rowC wc w.heap.size zeroV4 63 := by rw [hwc]; exact rowC_alloc (rowC_new w _ _) _
  have R1 : rowC wc (w.heap.size + 1) (row4 5 ⟨#[]⟩ none 0 0 none 0 0) 63 := by rw [hwc, ← s1]; exact rowC_new _ _ _
  have B1 : Below w.heap.size w wc := by rw [hwc]; exact ((Below.refl _ _).alloc (Nat.le_refl _) _).alloc (by omega) _
  have S1 : wc.heap.size = w.heap.size + 2 := by rw [hwc, size_alloc, s1]
  have HWC := Lib.hid hwc
  have HZX := Lib.hid Z1
  have HCX := Lib.hid R1
  have HBX := Lib.hid B1
  have HL := Lib.hid hL
  have HE := Lib.hid hE
  have HID := Lib.hid (fun (d : Bs) (h : d.length = 32) => show (Tryz.prog.info? 24).map (·.size) = some (cells8 d).size from info_Gc d h)
  have HSZ := Lib.hid (fun (d : Bs) (h : d.length = 32) => show (cells8 zero32).size = (cells8 d).size by rw [cells8_size, cells8_size, h]; rfl)
  clear hwc Z1 R1 B1 hL hE
  go_enter Tryz.func61, Tryz.ntmps61
  go_upto_region 2 with (first
    | ((with_reducible show wpList _ _ _ (⟨some 8, .build _ _, _, _, _, _⟩ :: _) _ _); refine wpList_build_as rfl 63 _ rfl (row4 5 ⟨#[]⟩ none 0 0 none 0 0) (by kernel_rfl) ?_)
    | ((with_reducible show wpList _ _ _ (⟨none, .store _ (.tmp 5) _, _, _, _, _⟩ :: _) _ _); refine wpList_store_last rfl 63 _ _ rfl (w.heap.size + 1) (row4 5 ⟨#[]⟩ none 0 0 none 0 0) rfl rfl 63 zeroV4 (by rw [size_alloc]) HI.out rfl (row4_all _ _ _ _ _ _ _ _) ?_))
  rw [← HWC.out]
  have HBC := Lib.hid (show (w.heap.size + 1) < wc.heap.size by omega)
  go_wp2
  go_loopg [11] l.length (fun gk s11 wr => ∃ j : Nat, s11 = .int .i64 (j : Int) ∧ Hid (gk = l.length - j) ∧ Hid (j ≤ l.length) ∧ Hid (GrB wc (w.heap.size + 1) wc.heap.size 5 ⟨#[]⟩ (.slice none 0 0) ((l.take j).map digJ) wr))
  case atStart => exact ⟨0, rfl, Lib.hid rfl, Lib.hid (Nat.zero_le _), Lib.hid ⟨.slice none 0 0, Chg.refl _ _, HCX.out, RowJ.nil _ _ _⟩⟩
  case round =>
    obtain ⟨j, rfl, HN, HNL, HM⟩ := hrel
    by_cases hj : j < l.length
    · have hj1 : (j : Int) < (l.length : Int) := by omega
      obtain ⟨d, hd⟩ : ∃ d, l[j]? = some d := ⟨_, List.getElem?_eq_getElem hj⟩
      obtain ⟨gd, ad, rfl, hab, hcs⟩ := digs_at HL.out hd
      obtain ⟨I, hGr, hRb, hRJ⟩ := HM.out
      obtain ⟨⟨xs, F, ho, hIt, hF⟩, _⟩ := hRJ
      obtain ⟨xi, ci, rfl⟩ := owns_form ho
      have hln : ((l.take j).map digJ).length = j := by rw [List.length_map, List.length_take]; omega
      rw [hln] at ho hF hRb
      have sB := HBX.out.size
      have sG := hGr.size
      have hbcl := HBC.out
      have hwb : Below w.heap.size w wr := HBX.out.trans (hGr.below (by omega) (fun q hq e => by omega))
      have HCS := Lib.hid (show ∀ i u, ((cells8 d).toList)[i]? = some u → wr.cell? ((ad.add (j * 32)).add i) = some u from fun i u hu => by
        rw [World.cell?_of_block (w := w) (w' := wr) (hwb.block _ (by rw [add_block, add_block]; exact hab))]
        exact hcs i u hu)
      obtain ⟨W1, hW1⟩ : ∃ W1, W1 = wr.alloc (.cells (cells8 d) 24) := ⟨_, rfl⟩
      have s1 : W1.heap.size = wr.heap.size + 1 := by rw [hW1]; exact size_alloc _ _
      have R1 : rowC W1 wr.heap.size (cells8 d) 24 := by rw [hW1]; exact rowC_new _ _ _
      have c1 : Chg (fun _ => False) wr W1 := by rw [hW1]; exact (Chg.refl _ _).alloc _
      have RB1 := c1.rowC hRb id
      obtain ⟨SB, hSB⟩ : ∃ SB : Nat → Prop, SB = fun q => q = (w.heap.size + 1) ∨ (Value.slice xi j ci).ownBlock = some q := ⟨_, rfl⟩
      have hb1 : ¬ SB wr.heap.size := by
        rw [hSB]
        rintro (e | e)
        · omega
        · have := (ho.lt _ e).2; omega
      have hsb0 : SB (w.heap.size + 1) := by rw [hSB]; exact .inl rfl
      have hsb1 : ∀ k, (Value.slice xi j ci).ownBlock = some k → SB k := fun k hk => by rw [hSB]; exact .inr hk
      clear hSB
      obtain ⟨X, hX⟩ : ∃ X, X = (cells8 d).toList := ⟨_, rfl⟩
      have hXa : X.toArray = cells8 d := by rw [hX]
      obtain ⟨K2, hK2⟩ : ∃ K2, K2 = (digJ d).kind := ⟨_, rfl⟩
      obtain ⟨T2, hT2⟩ : ∃ T2, T2 = str (digJ d).text := ⟨_, rfl⟩
      obtain ⟨N2, hN2⟩ : ∃ N2, N2 = (digJ d).items.length := ⟨_, rfl⟩
      obtain ⟨N3, hN3⟩ : ∃ N3, N3 = (digJ d).keys.length := ⟨_, rfl⟩
      have C4 : ∀ w', Gn W1 SB w' → Chg (fun _ => False) W1 w' → Calls Tryz.prog 62 #[.agg X.toArray] w' fun e w2 => ∃ y2 m2 y3 m3, e = .returned (.agg #[.int .i64 K2, .string T2, .slice y2 N2 m2, .slice y3 N3 m3]) ∧ HoldsC w2 (fun k => W1.heap.size ≤ k ∧ k < w2.heap.size) (digJ d) (.int .i64 K2) (.string T2) (.slice y2 N2 m2) (.slice y3 N3 m3) ∧ Chg (fun _ => False) W1 w2 ∧ Gn W1 SB w2 := fun w' hg hc => by
        rw [hXa, hK2, hT2, hN2, hN3]
        refine (digest_put d gd w').mono ?_
        rintro e w2 ⟨rfl, hb⟩
        have hV : HoldsC w2 (fun k => w'.heap.size ≤ k ∧ k < w2.heap.size) (digJ d) (.int .i64 (digJ d).kind) (.string (str (digJ d).text)) (.slice none (digJ d).items.length 0) (.slice none (digJ d).keys.length 0) := leaf_holds _ _ _ _ (by rw [textL_length, gd]; omega)
        exact ⟨none, 0, none, 0, rfl, HoldsC.mono (fun k hk hlt => ⟨Nat.le_trans hc.size hk.1, hlt⟩) _ _ _ _ _ hV, hc.trans (Chg.of_below hb) (fun _ _ h => h), Gn.call hg hb⟩
      have iD : (Tryz.prog.info? 24).map (·.size) = some X.length := by
        rw [hX, Array.length_toList]
        exact info_Gc d gd
      have OS : ∀ w', Gn W1 SB w' → w'.rangeAt wr.heap.size 0 X ∧ True := fun w' h => ⟨by rw [hX]; exact rowC_range (h.row R1 hb1) 0 _ (fun q u hq => by rw [Nat.zero_add, ← Array.getElem?_toList]; exact hq), trivial⟩
      have HGD := Lib.hid gd
      have HGR := Lib.hid hGr
      have HRB := Lib.hid hRb
      have HO := Lib.hid ho
      have HIT1 := Lib.hid hIt
      have HF1 := Lib.hid hF
      have HLN := Lib.hid hln
      have HXV := Lib.hid hd
      have HRB1 := Lib.hid RB1
      have HC1 := Lib.hid c1
      have HW1 := Lib.hid hW1
      have HEL := Lib.hid (show cells8 d = ((cells8 d).toList).toArray by simp)
      have HIL := Lib.hid (show (Tryz.prog.info? 24).map (·.size) = some ((cells8 d).toList).length by rw [Array.length_toList]; exact info_Gc d gd)
      have hjm : j ≤ 65536 := by omega
      clear hcs gd hGr hRb ho hIt hF hln hd R1 RB1 hW1 hwb HM hj hX hXa hK2 hT2 hN2 hN3
      go_upto_region 5 with (first
        | ((with_reducible show wpList _ _ _ (⟨some 14, .load _ _, _, _, _, _⟩ :: _) _ _); refine wpList_load_at rfl 24 _ rfl (ad.add (j * 32)) rfl ((cells8 d).toList) _ HCS.out Tryz.underlying24 rfl HIL.out ?_)
        | ((with_reducible show wpList _ _ _ (⟨none, .store _ (.tmp 7) _, _, _, _, _⟩ :: _) _ _); refine wpList_store_last rfl 24 _ _ rfl wr.heap.size (cells8 d) rfl rfl 24 (cells8 zero32) rfl (HID.out d HGD.out) (HSZ.out d HGD.out) (cells8_one _) ?_))
      rw [← HW1.out]
      have SO : ∀ w', Gn W1 SB w' → Gn W1 SB w' := fun _ h => h
      have uD := Tryz.underlying24
      refine wp_region_noPanic ?_
      refine wp_region_held_drew (S := Gn W1 SB) (by kernel_rfl) (Gn.start _ _) (fun hHeld => ?_)
      have HCD : Hid (Chg (fun _ => False) W1 W1.drew) := Lib.hid (Chg.refl _ _).drew
      have L1 : W1.drew.cell? ⟨(w.heap.size + 1), 2, none⟩ = some (.slice xi j ci) := rowC_cell (rowC_drew HRB1.out) 2
      generalize W1.drew = wd at *
      refine wpAnyH_take (i := 0) (oi := { dst := some 15, op := Op.fieldAddr 63 (Operand.tmp 5) 2, type := 0, pos := "oci.go:388", after := #[], guard := none }) (v := ?_) rfl (by kernel_rfl) (by kernel_rfl) (by kernel_rfl) (fun _ _ _ h => h) (Or.inl ⟨by rfl, ?_⟩) (by assumption) ?_
      rotate_left
      · intro w hSw
        skip
        clear hSw
        go_simp
        try with_reducible rfl
      try simp only [Act.put, List.setIfInBounds_toArray, List.set_cons_zero, List.set_cons_succ]
      refine wpAnyH_take (i := 2) (oi := { dst := some 17, op := Op.move (Operand.tmp 1), type := 112, pos := "oci.go:388", after := #[], guard := none }) (v := ?_) rfl (by kernel_rfl) (by kernel_rfl) (by kernel_rfl) (fun _ _ _ h => h) (Or.inl ⟨by rfl, ?_⟩) (by assumption) ?_
      rotate_left
      · intro w hSw
        skip
        clear hSw
        go_simp
        try with_reducible rfl
      try simp only [Act.put, List.setIfInBounds_toArray, List.set_cons_zero, List.set_cons_succ]
      refine wpAnyH_take (i := 3) (oi := { dst := some 18, op := Op.load 24 (Operand.tmp 7), type := 24, pos := "oci.go:388", after := #[], guard := none }) (v := _) rfl (by kernel_rfl) (by kernel_rfl) (by kernel_rfl) (fun _ _ _ h => h) (yieldsIf_load_mid (by rfl) _ _ rfl _ _ rfl _ _ (by intro w hSw; have hSw := OS _ hSw; go_split_ands; assumption) (by assumption) rfl (by assumption)) (by assumption) ?_
      try simp only [Act.put, List.setIfInBounds_toArray, List.set_cons_zero, List.set_cons_succ]
      refine wpAnyH_ready (rs := [1, 4]) (by kernel_rfl) (by simp) ?_
      refine (AllReadyH.cons (o := { dst := some 16, op := Op.load 60 (Operand.tmp 15), type := 60, pos := "oci.go:388", after := #[{ on := 0, ground := Ground.data }], guard := none }) rfl (fun K hK => ?_) (AllReadyH.cons (o := { dst := some 19, op := Op.call { callee := Callee.value (Operand.tmp 17), args := #[Operand.tmp 18], argTypes := #[24] }, type := 63, pos := "oci.go:388", after := #[{ on := 2, ground := Ground.data }, { on := 3, ground := Ground.data }], guard := none }) rfl (fun K hK => ?_) AllReadyH.nil))
      · skip
        go_simp
        refine hK.out _ _ (SO _ (by first | assumption | exact Gn.alloc (by assumption) _ | exact Gn.cell (by assumption) _ _ (.inl hsb0) | exact Gn.call (by assumption) (by assumption))) (fun hHeld => ?_)
        clear hK K
        try simp only [Act.put, List.setIfInBounds_toArray, List.set_cons_zero, List.set_cons_succ]
        refine wpAnyH_ready (rs := [4]) (by kernel_rfl) (by simp) ?_
        refine (AllReadyH.cons (o := { dst := some 19, op := Op.call { callee := Callee.value (Operand.tmp 17), args := #[Operand.tmp 18], argTypes := #[24] }, type := 63, pos := "oci.go:388", after := #[{ on := 2, ground := Ground.data }, { on := 3, ground := Ground.data }], guard := none }) rfl (fun K hK => ?_) AllReadyH.nil)
        go_simp
        with_reducible refine (C4 _ hHeld HCD.out).mono ?_
        rintro e w4' ⟨y2, m2, y3, m3, rfl, hx4, hc4, m4'⟩
        have s4 := hc4.size
        have L2 : w4'.cell? ⟨(w.heap.size + 1), 2, none⟩ = some (.slice xi j ci) := rowC_cell (hc4.rowC HRB1.out id) 2
        have L3 : ∀ o, (w4'.alloc o).cell? ⟨(w.heap.size + 1), 2, none⟩ = some (.slice xi j ci) := fun o => rowC_cell ((hc4.alloc o).rowC HRB1.out id) 2
        have OW : ∀ o, (w4'.alloc o).ownsRow wc.heap.size 63 4 (.slice xi j ci) j xs := fun o => ((HC1.out.trans hc4 (fun _ _ h => h)).alloc o).owns HO.out (fun _ _ h => h)
        have SG : ∀ o w7, (w4'.alloc o).grownBy w7 (Value.slice xi j ci).ownBlock → Gn W1 SB w7 := fun o w7 hg => grown_bc m4' hsb1 hg
        have SZ : ∀ o w7, (w4'.alloc o).grownBy w7 (Value.slice xi j ci).ownBlock → w7.cell? ⟨(w.heap.size + 1), 2, none⟩ = some (.slice xi j ci) ∧ w7.frozen? ⟨(w.heap.size + 1), 2, none⟩ = false := fun o w7 hg => grown_at HO.out (by omega) ((hc4.alloc o).rowC HRB1.out id) hg
        refine hK.out _ _ (SO _ (by assumption)) (fun hHeld => ?_)
        clear hK K
        try simp only [Act.put, List.setIfInBounds_toArray, List.set_cons_zero, List.set_cons_succ]
        refine wpAnyH_ready (rs := [5]) (by kernel_rfl) (by simp) ?_
        refine (AllReadyH.cons (o := { dst := some 20, op := Op.buildSlice 60 1 #[(0, Operand.tmp 19)], type := 60, pos := "oci.go:388", after := #[{ on := 4, ground := Ground.data }], guard := none }) rfl (fun K hK => ?_) AllReadyH.nil)
        skip
        go_simp
        refine hK.out _ _ (SO _ (by first | assumption | exact Gn.alloc (by assumption) _ | exact Gn.cell (by assumption) _ _ (.inl hsb0) | exact Gn.call (by assumption) (by assumption))) (fun hHeld => ?_)
        clear hK K
        try simp only [Act.put, List.setIfInBounds_toArray, List.set_cons_zero, List.set_cons_succ]
        refine wpAnyH_ready (rs := [6]) (by kernel_rfl) (by simp) ?_
        refine (AllReadyH.cons (o := { dst := some 21, op := Op.call { callee := Callee.builtin Builtin.append, args := #[Operand.tmp 16, Operand.tmp 20], argTypes := #[60, 60] }, type := 60, pos := "oci.go:388", after := #[{ on := 1, ground := Ground.data }, { on := 5, ground := Ground.data }, { on := 4, ground := Ground.chain }], guard := none }) rfl (fun K hK => ?_) AllReadyH.nil)
        refine step_append_lies _ (by rfl) _ _ 60 (by rfl) wc.heap.size 63 i0 (.agg #[.int .i64 0, .string ⟨#[]⟩, .slice none 0 0, .slice none 0 0]) 4 72 Tryz.underlying60 hi0 hz0 hz1 hz2 (by rfl) (by decide) (.slice xi j ci) j xs (by rfl) (OW _) ⟨w4'.heap.size, 0, none⟩ 1 1 [.int .i64 K2, .string T2, .slice y2 N2 m2, .slice y3 N3 m3] (by rfl) (by rfl) (World.news_of_block (heap_alloc_new w4' _)) (fun u hu => all_one4 u hu) (by decide) (by unfold maxLen; omega) (by omega) (by rw [size_alloc]; omega) _ rfl ?_
        intro g cap w7 hown7 hgrow7 hat7 hlt7
        have S7 := SG _ _ hgrow7
        obtain ⟨z2, y2f⟩ := SZ _ _ hgrow7
        refine hK.out _ _ (SO _ (by first | assumption | exact Gn.alloc (by assumption) _ | exact Gn.cell (by assumption) _ _ (.inl hsb0) | exact Gn.call (by assumption) (by assumption))) (fun hHeld => ?_)
        clear hK K
        try simp only [Act.put, List.setIfInBounds_toArray, List.set_cons_zero, List.set_cons_succ]
        refine wpAnyH_take (i := 7) (oi := { dst := some 22, op := Op.fieldAddr 63 (Operand.tmp 5) 2, type := 0, pos := "oci.go:388", after := #[{ on := 0, ground := Ground.phase }, { on := 1, ground := Ground.phase }, { on := 2, ground := Ground.phase }, { on := 3, ground := Ground.phase }, { on := 4, ground := Ground.phase }, { on := 5, ground := Ground.phase }, { on := 6, ground := Ground.phase }], guard := none }) (v := ?_) rfl (by kernel_rfl) (by kernel_rfl) (by kernel_rfl) (fun _ _ _ h => h) (Or.inl ⟨by rfl, ?_⟩) (by assumption) ?_
        rotate_left
        · intro w hSw
          skip
          clear hSw
          go_simp
          try with_reducible rfl
        try simp only [Act.put, List.setIfInBounds_toArray, List.set_cons_zero, List.set_cons_succ]
        refine wpAnyH_ready (rs := [8]) (by kernel_rfl) (by simp) ?_
        refine (AllReadyH.cons (o := { dst := none, op := Op.store 60 (Operand.tmp 22) (Operand.tmp 21), type := 0, pos := "oci.go:388", after := #[{ on := 7, ground := Ground.data }, { on := 6, ground := Ground.data }, { on := 6, ground := Ground.chain }, { on := 0, ground := Ground.phase }, { on := 1, ground := Ground.phase }, { on := 2, ground := Ground.phase }, { on := 3, ground := Ground.phase }, { on := 4, ground := Ground.phase }, { on := 5, ground := Ground.phase }, { on := 6, ground := Ground.phase }], guard := none }) rfl (fun K hK => ?_) AllReadyH.nil)
        skip
        go_simp
        refine hK.out _ _ (SO _ (by first | assumption | exact Gn.alloc (by assumption) _ | exact Gn.cell (by assumption) _ _ (.inl hsb0) | exact Gn.call (by assumption) (by assumption))) (fun hHeld => ?_)
        clear hK K
        try simp only [Act.put, List.setIfInBounds_toArray, List.set_cons_zero, List.set_cons_succ]
        refine wpAnyH_done (by kernel_rfl) ?_ _
        refine NoPanic.normal ?_
        go_wp2_with (fail)
        go_roundg (l.length - (j + 1))
        case measure => rw [HN.out]; omega
        case rel =>
          refine ⟨j + 1, rfl, Lib.hid rfl, Lib.hid (by omega), Lib.hid ?_⟩
          rw [take_one HXV.out, List.map_append]
          exact row_round rfl hbcl HGR.out HRB.out HO.out HIT1.out (fun q hq => ⟨(HF1.out q hq).1, id, (HF1.out q hq).2.2⟩) HLN.out HC1.out hc4 hx4 hown7 hgrow7 (by rw [size_alloc] at hat7; exact hat7)
      · go_simp
        with_reducible refine (C4 _ hHeld HCD.out).mono ?_
        rintro e w4' ⟨y2, m2, y3, m3, rfl, hx4, hc4, m4'⟩
        have s4 := hc4.size
        have L2 : w4'.cell? ⟨(w.heap.size + 1), 2, none⟩ = some (.slice xi j ci) := rowC_cell (hc4.rowC HRB1.out id) 2
        have L3 : ∀ o, (w4'.alloc o).cell? ⟨(w.heap.size + 1), 2, none⟩ = some (.slice xi j ci) := fun o => rowC_cell ((hc4.alloc o).rowC HRB1.out id) 2
        have OW : ∀ o, (w4'.alloc o).ownsRow wc.heap.size 63 4 (.slice xi j ci) j xs := fun o => ((HC1.out.trans hc4 (fun _ _ h => h)).alloc o).owns HO.out (fun _ _ h => h)
        have SG : ∀ o w7, (w4'.alloc o).grownBy w7 (Value.slice xi j ci).ownBlock → Gn W1 SB w7 := fun o w7 hg => grown_bc m4' hsb1 hg
        have SZ : ∀ o w7, (w4'.alloc o).grownBy w7 (Value.slice xi j ci).ownBlock → w7.cell? ⟨(w.heap.size + 1), 2, none⟩ = some (.slice xi j ci) ∧ w7.frozen? ⟨(w.heap.size + 1), 2, none⟩ = false := fun o w7 hg => grown_at HO.out (by omega) ((hc4.alloc o).rowC HRB1.out id) hg
        refine hK.out _ _ (SO _ (by assumption)) (fun hHeld => ?_)
        clear hK K
        try simp only [Act.put, List.setIfInBounds_toArray, List.set_cons_zero, List.set_cons_succ]
        refine wpAnyH_ready (rs := [1, 5]) (by kernel_rfl) (by simp) ?_
        refine (AllReadyH.cons (o := { dst := some 16, op := Op.load 60 (Operand.tmp 15), type := 60, pos := "oci.go:388", after := #[{ on := 0, ground := Ground.data }], guard := none }) rfl (fun K hK => ?_) (AllReadyH.cons (o := { dst := some 20, op := Op.buildSlice 60 1 #[(0, Operand.tmp 19)], type := 60, pos := "oci.go:388", after := #[{ on := 4, ground := Ground.data }], guard := none }) rfl (fun K hK => ?_) AllReadyH.nil))
        · skip
          go_simp
          refine hK.out _ _ (SO _ (by first | assumption | exact Gn.alloc (by assumption) _ | exact Gn.cell (by assumption) _ _ (.inl hsb0) | exact Gn.call (by assumption) (by assumption))) (fun hHeld => ?_)
          clear hK K
          try simp only [Act.put, List.setIfInBounds_toArray, List.set_cons_zero, List.set_cons_succ]
          refine wpAnyH_ready (rs := [5]) (by kernel_rfl) (by simp) ?_
          refine (AllReadyH.cons (o := { dst := some 20, op := Op.buildSlice 60 1 #[(0, Operand.tmp 19)], type := 60, pos := "oci.go:388", after := #[{ on := 4, ground := Ground.data }], guard := none }) rfl (fun K hK => ?_) AllReadyH.nil)
          skip
          go_simp
          refine hK.out _ _ (SO _ (by first | assumption | exact Gn.alloc (by assumption) _ | exact Gn.cell (by assumption) _ _ (.inl hsb0) | exact Gn.call (by assumption) (by assumption))) (fun hHeld => ?_)
          clear hK K
          try simp only [Act.put, List.setIfInBounds_toArray, List.set_cons_zero, List.set_cons_succ]
          refine wpAnyH_ready (rs := [6]) (by kernel_rfl) (by simp) ?_
          refine (AllReadyH.cons (o := { dst := some 21, op := Op.call { callee := Callee.builtin Builtin.append, args := #[Operand.tmp 16, Operand.tmp 20], argTypes := #[60, 60] }, type := 60, pos := "oci.go:388", after := #[{ on := 1, ground := Ground.data }, { on := 5, ground := Ground.data }, { on := 4, ground := Ground.chain }], guard := none }) rfl (fun K hK => ?_) AllReadyH.nil)
          refine step_append_lies _ (by rfl) _ _ 60 (by rfl) wc.heap.size 63 i0 (.agg #[.int .i64 0, .string ⟨#[]⟩, .slice none 0 0, .slice none 0 0]) 4 72 Tryz.underlying60 hi0 hz0 hz1 hz2 (by rfl) (by decide) (.slice xi j ci) j xs (by rfl) (OW _) ⟨w4'.heap.size, 0, none⟩ 1 1 [.int .i64 K2, .string T2, .slice y2 N2 m2, .slice y3 N3 m3] (by rfl) (by rfl) (World.news_of_block (heap_alloc_new w4' _)) (fun u hu => all_one4 u hu) (by decide) (by unfold maxLen; omega) (by omega) (by rw [size_alloc]; omega) _ rfl ?_
          intro g cap w7 hown7 hgrow7 hat7 hlt7
          have S7 := SG _ _ hgrow7
          obtain ⟨z2, y2f⟩ := SZ _ _ hgrow7
          refine hK.out _ _ (SO _ (by first | assumption | exact Gn.alloc (by assumption) _ | exact Gn.cell (by assumption) _ _ (.inl hsb0) | exact Gn.call (by assumption) (by assumption))) (fun hHeld => ?_)
          clear hK K
          try simp only [Act.put, List.setIfInBounds_toArray, List.set_cons_zero, List.set_cons_succ]
          refine wpAnyH_take (i := 7) (oi := { dst := some 22, op := Op.fieldAddr 63 (Operand.tmp 5) 2, type := 0, pos := "oci.go:388", after := #[{ on := 0, ground := Ground.phase }, { on := 1, ground := Ground.phase }, { on := 2, ground := Ground.phase }, { on := 3, ground := Ground.phase }, { on := 4, ground := Ground.phase }, { on := 5, ground := Ground.phase }, { on := 6, ground := Ground.phase }], guard := none }) (v := ?_) rfl (by kernel_rfl) (by kernel_rfl) (by kernel_rfl) (fun _ _ _ h => h) (Or.inl ⟨by rfl, ?_⟩) (by assumption) ?_
          rotate_left
          · intro w hSw
            skip
            clear hSw
            go_simp
            try with_reducible rfl
          try simp only [Act.put, List.setIfInBounds_toArray, List.set_cons_zero, List.set_cons_succ]
          refine wpAnyH_ready (rs := [8]) (by kernel_rfl) (by simp) ?_
          refine (AllReadyH.cons (o := { dst := none, op := Op.store 60 (Operand.tmp 22) (Operand.tmp 21), type := 0, pos := "oci.go:388", after := #[{ on := 7, ground := Ground.data }, { on := 6, ground := Ground.data }, { on := 6, ground := Ground.chain }, { on := 0, ground := Ground.phase }, { on := 1, ground := Ground.phase }, { on := 2, ground := Ground.phase }, { on := 3, ground := Ground.phase }, { on := 4, ground := Ground.phase }, { on := 5, ground := Ground.phase }, { on := 6, ground := Ground.phase }], guard := none }) rfl (fun K hK => ?_) AllReadyH.nil)
          skip
          go_simp
          refine hK.out _ _ (SO _ (by first | assumption | exact Gn.alloc (by assumption) _ | exact Gn.cell (by assumption) _ _ (.inl hsb0) | exact Gn.call (by assumption) (by assumption))) (fun hHeld => ?_)
          clear hK K
          try simp only [Act.put, List.setIfInBounds_toArray, List.set_cons_zero, List.set_cons_succ]
          refine wpAnyH_done (by kernel_rfl) ?_ _
          refine NoPanic.normal ?_
          go_wp2_with (fail)
          go_roundg (l.length - (j + 1))
          case measure => rw [HN.out]; omega
          case rel =>
            refine ⟨j + 1, rfl, Lib.hid rfl, Lib.hid (by omega), Lib.hid ?_⟩
            rw [take_one HXV.out, List.map_append]
            exact row_round rfl hbcl HGR.out HRB.out HO.out HIT1.out (fun q hq => ⟨(HF1.out q hq).1, id, (HF1.out q hq).2.2⟩) HLN.out HC1.out hc4 hx4 hown7 hgrow7 (by rw [size_alloc] at hat7; exact hat7)
        · skip
          go_simp
          refine hK.out _ _ (SO _ (by first | assumption | exact Gn.alloc (by assumption) _ | exact Gn.cell (by assumption) _ _ (.inl hsb0) | exact Gn.call (by assumption) (by assumption))) (fun hHeld => ?_)
          clear hK K
          try simp only [Act.put, List.setIfInBounds_toArray, List.set_cons_zero, List.set_cons_succ]
          refine wpAnyH_ready (rs := [1]) (by kernel_rfl) (by simp) ?_
          refine (AllReadyH.cons (o := { dst := some 16, op := Op.load 60 (Operand.tmp 15), type := 60, pos := "oci.go:388", after := #[{ on := 0, ground := Ground.data }], guard := none }) rfl (fun K hK => ?_) AllReadyH.nil)
          skip
          go_simp
          refine hK.out _ _ (SO _ (by first | assumption | exact Gn.alloc (by assumption) _ | exact Gn.cell (by assumption) _ _ (.inl hsb0) | exact Gn.call (by assumption) (by assumption))) (fun hHeld => ?_)
          clear hK K
          try simp only [Act.put, List.setIfInBounds_toArray, List.set_cons_zero, List.set_cons_succ]
          refine wpAnyH_ready (rs := [6]) (by kernel_rfl) (by simp) ?_
          refine (AllReadyH.cons (o := { dst := some 21, op := Op.call { callee := Callee.builtin Builtin.append, args := #[Operand.tmp 16, Operand.tmp 20], argTypes := #[60, 60] }, type := 60, pos := "oci.go:388", after := #[{ on := 1, ground := Ground.data }, { on := 5, ground := Ground.data }, { on := 4, ground := Ground.chain }], guard := none }) rfl (fun K hK => ?_) AllReadyH.nil)
          refine step_append_lies _ (by rfl) _ _ 60 (by rfl) wc.heap.size 63 i0 (.agg #[.int .i64 0, .string ⟨#[]⟩, .slice none 0 0, .slice none 0 0]) 4 72 Tryz.underlying60 hi0 hz0 hz1 hz2 (by rfl) (by decide) (.slice xi j ci) j xs (by rfl) (OW _) ⟨w4'.heap.size, 0, none⟩ 1 1 [.int .i64 K2, .string T2, .slice y2 N2 m2, .slice y3 N3 m3] (by rfl) (by rfl) (World.news_of_block (heap_alloc_new w4' _)) (fun u hu => all_one4 u hu) (by decide) (by unfold maxLen; omega) (by omega) (by rw [size_alloc]; omega) _ rfl ?_
          intro g cap w7 hown7 hgrow7 hat7 hlt7
          have S7 := SG _ _ hgrow7
          obtain ⟨z2, y2f⟩ := SZ _ _ hgrow7
          refine hK.out _ _ (SO _ (by first | assumption | exact Gn.alloc (by assumption) _ | exact Gn.cell (by assumption) _ _ (.inl hsb0) | exact Gn.call (by assumption) (by assumption))) (fun hHeld => ?_)
          clear hK K
          try simp only [Act.put, List.setIfInBounds_toArray, List.set_cons_zero, List.set_cons_succ]
          refine wpAnyH_take (i := 7) (oi := { dst := some 22, op := Op.fieldAddr 63 (Operand.tmp 5) 2, type := 0, pos := "oci.go:388", after := #[{ on := 0, ground := Ground.phase }, { on := 1, ground := Ground.phase }, { on := 2, ground := Ground.phase }, { on := 3, ground := Ground.phase }, { on := 4, ground := Ground.phase }, { on := 5, ground := Ground.phase }, { on := 6, ground := Ground.phase }], guard := none }) (v := ?_) rfl (by kernel_rfl) (by kernel_rfl) (by kernel_rfl) (fun _ _ _ h => h) (Or.inl ⟨by rfl, ?_⟩) (by assumption) ?_
          rotate_left
          · intro w hSw
            skip
            clear hSw
            go_simp
            try with_reducible rfl
          try simp only [Act.put, List.setIfInBounds_toArray, List.set_cons_zero, List.set_cons_succ]
          refine wpAnyH_ready (rs := [8]) (by kernel_rfl) (by simp) ?_
          refine (AllReadyH.cons (o := { dst := none, op := Op.store 60 (Operand.tmp 22) (Operand.tmp 21), type := 0, pos := "oci.go:388", after := #[{ on := 7, ground := Ground.data }, { on := 6, ground := Ground.data }, { on := 6, ground := Ground.chain }, { on := 0, ground := Ground.phase }, { on := 1, ground := Ground.phase }, { on := 2, ground := Ground.phase }, { on := 3, ground := Ground.phase }, { on := 4, ground := Ground.phase }, { on := 5, ground := Ground.phase }, { on := 6, ground := Ground.phase }], guard := none }) rfl (fun K hK => ?_) AllReadyH.nil)
          skip
          go_simp
          refine hK.out _ _ (SO _ (by first | assumption | exact Gn.alloc (by assumption) _ | exact Gn.cell (by assumption) _ _ (.inl hsb0) | exact Gn.call (by assumption) (by assumption))) (fun hHeld => ?_)
          clear hK K
          try simp only [Act.put, List.setIfInBounds_toArray, List.set_cons_zero, List.set_cons_succ]
          refine wpAnyH_done (by kernel_rfl) ?_ _
          refine NoPanic.normal ?_
          go_wp2_with (fail)
          go_roundg (l.length - (j + 1))
          case measure => rw [HN.out]; omega
          case rel =>
            refine ⟨j + 1, rfl, Lib.hid rfl, Lib.hid (by omega), Lib.hid ?_⟩
            rw [take_one HXV.out, List.map_append]
            exact row_round rfl hbcl HGR.out HRB.out HO.out HIT1.out (fun q hq => ⟨(HF1.out q hq).1, id, (HF1.out q hq).2.2⟩) HLN.out HC1.out hc4 hx4 hown7 hgrow7 (by rw [size_alloc] at hat7; exact hat7)
    · have hj1 : ¬ (j : Int) < (l.length : Int) := by omega
      obtain ⟨I, hGr, hRb, hRJ⟩ := HM.out
      have hln : l.take j = l := List.take_of_length_le (by omega)
      rw [hln] at hRJ
      have hJ := hRJ.holds
      obtain ⟨⟨xs, F, ho, _, _⟩, _⟩ := hRJ
      obtain ⟨xi, ci, rfl⟩ := owns_form ho
      have sB := HBX.out.size
      have sG := hGr.size
      have hbcl := HBC.out
      have hwb : Below w.heap.size w wr := HBX.out.trans (hGr.below (by omega) (fun q hq e => by omega))
      have hzr := hGr.rowC HZX.out (by omega)
      rw [List.length_map] at hRb hJ
      have HJ := Lib.hid hJ
      have HRB := Lib.hid hRb
      have HWB := Lib.hid hwb
      have HZR := Lib.hid hzr
      clear hGr hRb hJ ho hwb hzr HM hj
      go_wp2_with (first
        | ((with_reducible show wpList _ _ _ (⟨some 24, .load _ _, _, _, _, _⟩ :: _) _ _); refine wpList_load_row rfl 63 _ rfl (w.heap.size + 1) rfl 63 (row4 5 ⟨#[]⟩ xi l.length ci none 0 0) (0, 0) _ HRB.out Tryz.underlying63 rfl HI.out ?_)
        | ((with_reducible show wpList _ _ _ (⟨none, .store _ (.tmp 4) _, _, _, _, _⟩ :: _) _ _); refine wpList_store_row rfl 63 _ _ rfl w.heap.size (row4 5 ⟨#[]⟩ xi l.length ci none 0 0) rfl rfl 63 zeroV4 HZR.out HI.out rfl (row4_all _ _ _ _ _ _ _ _) ?_))
      refine bodyPost_ret (results_cell_row rfl _ _ w.heap.size 63 (row4 5 ⟨#[]⟩ xi l.length ci none 0 0) (0, 0) _ rfl (rowC_setRow HZR.out _) Tryz.underlying63 rfl HI.out) rfl ?_
      exact lst_putP HWB.out (Nat.le_refl _) (by rw [List.length_map]) HJ.out (by omega)
end Go.Proofs.YtnkencdibniagaaGreatDoor

/- Layer 13: PutIndex. -/
namespace Go.Proofs.YtnkencdibniagaaGreatDoor
open Go.RowKit

theorem okJ_lf (k : Int) (t : Bs) (h : k = 3 → t.length ≤ 70368744177664) : okJ (.mk k t [] []) := by
  rw [okJ]
  exact ⟨h, ⟨by simp, by simp, fun y hy => by cases hy⟩, okJL_of fun x hx => by cases hx⟩
theorem okJ_obj {l : List (Bs × JV)} (h1 : l.length ≤ 65536) (h2 : ∀ p ∈ l, p.1.length ≤ 262144 ∧ okJ p.2) : okJ (objJ l) := by
  unfold objJ
  rw [okJ]
  refine ⟨fun h => (by cases h), ⟨by rw [List.length_map]; exact h1, by rw [List.length_map]; exact h1, fun y hy => ?_⟩, okJL_of fun x hx => ?_⟩
  · obtain ⟨p, hp, rfl⟩ := List.mem_map.1 hy
    exact (h2 p hp).1
  · obtain ⟨p, hp, rfl⟩ := List.mem_map.1 hx
    exact (h2 p hp).2
theorem okJ_lst {l : List JV} (h1 : l.length ≤ 65536) (h2 : ∀ v ∈ l, okJ v) : okJ (lstJ l) := by
  unfold lstJ
  rw [okJ]
  exact ⟨fun h => (by cases h), ⟨h1, by simp, fun y hy => by cases hy⟩, okJL_of h2⟩
theorem okJ_num {n : Int} (h0 : -9223372036854775808 ≤ n) (h1 : n ≤ 9223372036854775807) : okJ (numJ n) := okJ_lf 3 _ fun _ => by have := Lib.itoa_length_le n h0 h1; omega
theorem okJ_txt (s : Bs) : okJ (txtJ s) := okJ_lf 4 _ fun h => by cases h
theorem okJ_pla (os arch : Bs) : okJ (plaJ os arch) := okJ_obj (by show 2 ≤ 65536; omega) fun p hp => by
  simp only [List.mem_cons, List.not_mem_nil, or_false] at hp
  rcases hp with rfl | rfl
  · exact ⟨Nat.le_of_ble_eq_true rfl, okJ_txt _⟩
  · exact ⟨Nat.le_of_ble_eq_true rfl, okJ_txt _⟩
theorem okJ_full {d : DV} (hd : putD d) : okJ (fullJ d) := okJ_obj (by show 4 ≤ 65536; omega) fun p hp => by
  simp only [fldJ, List.cons_append, List.nil_append, List.mem_cons, List.not_mem_nil, or_false] at hp
  rcases hp with rfl | rfl | rfl | rfl
  · exact ⟨Nat.le_of_ble_eq_true rfl, okJ_txt _⟩
  · exact ⟨Nat.le_of_ble_eq_true rfl, okJ_txt _⟩
  · exact ⟨Nat.le_of_ble_eq_true rfl, okJ_num hd.2.1 hd.2.2⟩
  · exact ⟨Nat.le_of_ble_eq_true rfl, okJ_pla _ _⟩
theorem okJ_idx {l : List DV} (hl : l.length ≤ 32) (hp : ∀ d ∈ l, putD d) : okJ (idxJ l) := okJ_obj (by show 3 ≤ 65536; omega) fun p hq => by
  simp only [List.mem_cons, List.not_mem_nil, or_false] at hq
  rcases hq with rfl | rfl | rfl
  · exact ⟨Nat.le_of_ble_eq_true rfl, okJ_num (by omega) (by omega)⟩
  · exact ⟨Nat.le_of_ble_eq_true rfl, okJ_txt _⟩
  · refine ⟨Nat.le_of_ble_eq_true rfl, okJ_lst (by rw [List.length_map]; omega) fun v hv => ?_⟩
    obtain ⟨d, hd, rfl⟩ := List.mem_map.1 hv
    exact okJ_full (hp d hd)
theorem fldr3 {w : World} {g B : Nat} {k1 k2 k3 : Bs} {v1 v2 v3 : JV} {a1 b1 c1 d1 a2 b2 c2 d2 a3 b3 c3 d3 : Value} (h : rowC w g #[.string (str k1), a1, b1, c1, d1, .string (str k2), a2, b2, c2, d2, .string (str k3), a3, b3, c3, d3] 102) (hg : g < w.heap.size)
    (h1 : HoldsC w (fun q => B ≤ q ∧ q < w.heap.size) v1 a1 b1 c1 d1) (h2 : HoldsC w (fun q => B ≤ q ∧ q < w.heap.size) v2 a2 b2 c2 d2) (h3 : HoldsC w (fun q => B ≤ q ∧ q < w.heap.size) v3 a3 b3 c3 d3) : FldR w B [(k1, v1), (k2, v2), (k3, v3)] (some ⟨g, 0, none⟩) := by
  intro i k v hi
  rcases i with _ | _ | _ | i
  · simp only [List.getElem?_cons_zero, Option.some.injEq, Prod.mk.injEq] at hi
    obtain ⟨rfl, rfl⟩ := hi
    refine ⟨⟨g, 0, none⟩, _, _, _, _, rfl, hg, ?_, h1⟩
    intro j u hu
    rcases j with _ | _ | _ | _ | _ | j
    · exact (rowC_cell h 0).trans hu
    · exact (rowC_cell h 1).trans hu
    · exact (rowC_cell h 2).trans hu
    · exact (rowC_cell h 3).trans hu
    · exact (rowC_cell h 4).trans hu
    · simp at hu
  · simp only [List.getElem?_cons_succ, List.getElem?_cons_zero, Option.some.injEq, Prod.mk.injEq] at hi
    obtain ⟨rfl, rfl⟩ := hi
    refine ⟨⟨g, 0, none⟩, _, _, _, _, rfl, hg, ?_, h2⟩
    intro j u hu
    rcases j with _ | _ | _ | _ | _ | j
    · exact (rowC_cell h 5).trans hu
    · exact (rowC_cell h 6).trans hu
    · exact (rowC_cell h 7).trans hu
    · exact (rowC_cell h 8).trans hu
    · exact (rowC_cell h 9).trans hu
    · simp at hu
  · simp only [List.getElem?_cons_succ, List.getElem?_cons_zero, Option.some.injEq, Prod.mk.injEq] at hi
    obtain ⟨rfl, rfl⟩ := hi
    refine ⟨⟨g, 0, none⟩, _, _, _, _, rfl, hg, ?_, h3⟩
    intro j u hu
    rcases j with _ | _ | _ | _ | _ | j
    · exact (rowC_cell h 10).trans hu
    · exact (rowC_cell h 11).trans hu
    · exact (rowC_cell h 12).trans hu
    · exact (rowC_cell h 13).trans hu
    · exact (rowC_cell h 14).trans hu
    · simp at hu
  · simp at hi
@[reducible] def idxC (y : Option Addr) (N m : Nat) (z : Option Addr) (n : Nat) : Array Value := #[.string ⟨#[115, 99, 104, 101, 109, 97, 86, 101, 114, 115, 105, 111, 110]⟩, .int .i64 3, .string (str (Lib.itoa 2)), .slice none 0 0, .slice none 0 0, .string ⟨#[109, 101, 100, 105, 97, 84, 121, 112, 101]⟩, .int .i64 4, .string ⟨#[97, 112, 112, 108, 105, 99, 97, 116, 105, 111, 110, 47, 118, 110, 100, 46, 111, 99, 105, 46, 105, 109, 97, 103, 101, 46, 105, 110, 100, 101, 120, 46, 118, 49, 43, 106, 115, 111, 110]⟩, .slice none 0 0, .slice none 0 0, .string ⟨#[109, 97, 110, 105, 102, 101, 115, 116, 115]⟩, .int .i64 5, .string ⟨#[]⟩, .slice y N m, .slice z 0 n]
set_option maxRecDepth 100000 in
set_option maxHeartbeats 16000000 in
theorem putIndex_any (l : List DV) (x : Option Addr) (cc : Nat) (w : World) (hE : Env2 w) (hl : l.length ≤ 70368744177664) (hp : ∀ d ∈ l, putD d) (hL : eDess.at_ w (fun k => k < w.heap.size) l (.slice x l.length cc)) :
    Calls Tryz.prog 20 #[.slice x l.length cc] w fun e w' => e = .returned (.tuple #[.string (str (idxA l).1), .int .i64 ((idxA l).2 : Int)]) ∧ Below w.heap.size w w' := by
  obtain ⟨R, hR⟩ : ∃ R, R = idxA l := ⟨_, rfl⟩
  rw [← hR]
  have HR := Lib.hid hR
  have CM := omayBe_any l x cc w hE hl hL
  obtain ⟨M, hM⟩ : ∃ M, M = l.all mayD := ⟨_, rfl⟩
  rw [← hM] at CM
  have HM := Lib.hid hM
  have HE := Lib.hid hE
  have HP := Lib.hid hp
  have HL := Lib.hid hL
  clear hR hM hE hp hL
  go_enter Tryz.func20, Tryz.ntmps20
  cases M with
  | false =>
    have e0 : Hid (R = ([], 2)) := Lib.hid (by rw [HR.out]; unfold idxA; rw [if_pos HM.out.symm])
    go_wp2_with (go_at_call 49; ((with_reducible refine CM.mono ?_); rintro e w2 ⟨rfl, hb2⟩))
    go_ret2
    rw [e0.out]
    exact ⟨rfl, hb2⟩
  | true =>
    by_cases h32 : 32 < l.length
    · have e0 : Hid (R = ([], 63)) := Lib.hid (by rw [HR.out]; unfold idxA; rw [if_neg (by rw [← HM.out]; simp), if_pos h32])
      have h32' : (32 : Int) < (l.length : Int) := by omega
      go_wp2_with (go_at_call 49; ((with_reducible refine CM.mono ?_); rintro e w2 ⟨rfl, hb2⟩))
      go_ret2
      rw [e0.out]
      exact ⟨rfl, hb2⟩
    have e0 : Hid (R = printA (idxJ l)) := Lib.hid (by rw [HR.out]; unfold idxA; rw [if_neg (by rw [← HM.out]; simp), if_neg h32])
    have h32' : ¬ (32 : Int) < (l.length : Int) := by omega
    go_upto_region 5 with (go_at_call 49; ((with_reducible refine CM.mono ?_); rintro e w2 ⟨rfl, hb2⟩; have HB2 := Lib.hid hb2; clear hb2))
    have s2 := HB2.out.size
    have HBW : ∀ w', Gn w2 no w' → Below w.heap.size w w' := fun w' hg => HB2.out.trans ((hg.below (B := w.heap.size) s2 (fun _ _ h => h)))
    have CV : ∀ w', Gn w2 no w' → Calls Tryz.prog 51 #[.int .i64 2] w' fun e w3 => e = .returned (.agg #[.int .i64 3, .string (str (Lib.itoa 2)), .slice none 0 0, .slice none 0 0]) ∧ Gn w2 no w3 := fun w' hg =>
      (number_put 2 (by omega) (by omega) w' (HE.out.below (HBW w' hg))).mono (fun e w3 h => ⟨h.1, hg.call h.2⟩)
    have CT : ∀ w', Gn w2 no w' → Calls Tryz.prog 52 #[.string ⟨#[97, 112, 112, 108, 105, 99, 97, 116, 105, 111, 110, 47, 118, 110, 100, 46, 111, 99, 105, 46, 105, 109, 97, 103, 101, 46, 105, 110, 100, 101, 120, 46, 118, 49, 43, 106, 115, 111, 110]⟩] w' fun e w3 => e = .returned (.agg #[.int .i64 4, .string ⟨#[97, 112, 112, 108, 105, 99, 97, 116, 105, 111, 110, 47, 118, 110, 100, 46, 111, 99, 105, 46, 105, 109, 97, 103, 101, 46, 105, 110, 100, 101, 120, 46, 118, 49, 43, 106, 115, 111, 110]⟩, .slice none 0 0, .slice none 0 0]) ∧ Gn w2 no w3 := fun w' hg =>
      (text_put mIdx w').mono (fun e w3 h => ⟨h.1, hg.call h.2⟩)
    have CL : ∀ w', Gn w2 no w' → Calls Tryz.prog 54 #[.slice x l.length cc, .func (.func 59) #[] #[]] w' fun e w3 => ∃ y m z n, e = .returned (.agg #[.int .i64 5, .string ⟨#[]⟩, .slice y l.length m, .slice z 0 n]) ∧ HoldsC w3 (fun q => w.heap.size ≤ q ∧ q < w3.heap.size) (lstJ (l.map fullJ)) (.int .i64 5) (.string ⟨#[]⟩) (.slice y l.length m) (.slice z 0 n) ∧ Gn w2 no w3 := fun w' hg => by
      have hb := HBW w' hg
      refine (lsput_des putF_des l x cc w' (HE.out.below hb) (by omega) HP.out (eDess.mono (eDess.chg HL.out (Chg.of_below (s := no) hb) (fun _ _ h => h)) (fun k hk _ => Nat.lt_of_lt_of_le hk hb.size))).mono ?_
      rintro e w3 ⟨y, m, z, n, rfl, hV, hb3⟩
      have e1 : (lstJ (l.map fullJ)).items.length = l.length := by unfold lstJ; simp [JV.items]
      rw [e1] at hV ⊢
      exact ⟨y, m, z, n, rfl, HoldsC.mono (fun k hk hlt => ⟨Nat.le_trans hb.size hk.1, hlt⟩) _ _ _ _ _ hV, hg.call hb3⟩
    have CO : ∀ w' b y m z n, Gn w2 no w' → rowC w' b (idxC y l.length m z n) 102 → b < w'.heap.size → HoldsC w' (fun q => w.heap.size ≤ q ∧ q < w'.heap.size) (lstJ (l.map fullJ)) (.int .i64 5) (.string ⟨#[]⟩) (.slice y l.length m) (.slice z 0 n) → Calls Tryz.prog 50 #[.slice (some ⟨b, 0, none⟩) 3 3] w' fun e w3 => ∃ y m z n, e = .returned (.agg #[.int .i64 6, .string ⟨#[]⟩, .slice y 3 m, .slice z 3 n]) ∧ HoldsC w3 (fun q => q < w3.heap.size) (idxJ l) (.int .i64 6) (.string ⟨#[]⟩) (.slice y 3 m) (.slice z 3 n) ∧ Gn w2 no w3 := fun w' b y m z n hg h1 h2 h3 => by
      have hb := HBW w' hg
      refine (object_put [(kVer, numJ 2), (kMed, txtJ mIdx), (kMan, lstJ (l.map fullJ))] w.heap.size _ 3 w' hb.size (by show 3 ≤ 1000; omega) (fldr3 (k1 := kVer) (k2 := kMed) (k3 := kMan) h1 h2 (leaf_holds _ _ 3 (Lib.itoa 2) (by have := Lib.itoa_length_le 2 (by omega) (by omega); omega)) (leaf_holds _ _ 4 mIdx (by decide)) h3)).mono ?_
      rintro e w3 ⟨y, m, z, n, rfl, hV, hb3⟩
      exact ⟨y, m, z, n, rfl, HoldsC.mono (fun k hk hlt => hlt) _ _ _ _ _ hV, hg.call hb3⟩
    have CP : ∀ w' y m z n, Gn w2 no w' → HoldsC w' (fun q => q < w'.heap.size) (idxJ l) (.int .i64 6) (.string ⟨#[]⟩) (.slice y 3 m) (.slice z 3 n) → Calls Tryz.prog 29 #[.agg #[.int .i64 6, .string ⟨#[]⟩, .slice y 3 m, .slice z 3 n]] w' fun e w3 => e = .returned (.tuple #[.string (str R.1), .int .i64 (R.2 : Int)]) ∧ Gn w2 no w3 := fun w' y m z n hg hV => by
      rw [e0.out]
      refine (print_any (okJ_idx (by omega) HP.out) (HE.out.below (HBW w' hg)).env hV).mono ?_
      rintro e w3 ⟨rfl, hb3⟩
      exact ⟨rfl, hg.call hb3⟩
    have HBB := Lib.hid HBW
    clear HBW
    go_wp2_with (first
      | (go_at_call 51; ((with_reducible refine (CV _ (Gn.refl _ _)).mono ?_); rintro e v0 ⟨rfl, g0⟩))
      | (go_at_call 52; ((with_reducible refine (CT _ g0).mono ?_); rintro e v2 ⟨rfl, g2⟩))
      | (go_at_call 54; ((with_reducible refine (CL _ g2).mono ?_); rintro e v5 ⟨y, m, z, n, rfl, h5, g5⟩; have H5 := Lib.hid h5; clear h5))
      | (go_at_call 50; ((with_reducible refine (CO _ _ _ _ _ _ (Gn.alloc g5 _) (rowC_new _ _ _) (by rw [size_alloc]; omega) (HoldsC.mono (fun k hk _ => ⟨hk.1, by rw [size_alloc]; have := hk.2; omega⟩) _ _ _ _ _ (HoldsC.chg ((Chg.refl (fun _ => False) _).alloc _) (fun _ _ h => h) _ _ _ _ _ H5.out))).mono ?_); rintro e v8 ⟨y8, m8, z8, n8, rfl, h8, g8⟩; have H8 := Lib.hid h8; clear h8))
      | (go_at_call 29; ((with_reducible refine (CP _ _ _ _ _ g8 H8.out).mono ?_); rintro e v9 ⟨rfl, g9⟩)))
    go_ret2
    exact ⟨rfl, HBB.out _ g9⟩
end Go.Proofs.YtnkencdibniagaaGreatDoor

