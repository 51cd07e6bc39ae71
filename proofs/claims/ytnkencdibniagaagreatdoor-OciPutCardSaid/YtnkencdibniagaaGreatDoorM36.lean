/- Merged: OeD, OeE, OeF. -/
import Derived.Test.YtnkencdibniagaaGreatDoorM35
import Derived.Test.YtnkencdibniagaaGreatDoorM31
/- Layer 13: mayBe. -/
namespace Go.Proofs.YtnkencdibniagaaGreatDoor
open Go.RowKit

theorem all_not {l : List DV} {d : DV} (hm : d ∈ l) (h : mayD d = false) : l.all mayD = false := by
  rw [Bool.eq_false_iff]
  intro ha
  have := List.all_eq_true.1 ha d hm
  rw [h] at this
  cases this
theorem encLn_33 {d : DV} (hd : d.dig.length = 32) : (encL d)[33]? = some (.int .i64 d.size) := by
  unfold encL
  rw [List.append_assoc, List.getElem?_append_right (by simp), List.getElem?_append_right (by simp [hd])]
  simp [hd]
theorem encLn_34 {d : DV} (hd : d.dig.length = 32) : (encL d)[34]? = some (.string (str d.os)) := by
  unfold encL
  rw [List.append_assoc, List.getElem?_append_right (by simp), List.getElem?_append_right (by simp [hd])]
  simp [hd]
theorem encLn_35 {d : DV} (hd : d.dig.length = 32) : (encL d)[35]? = some (.string (str d.arch)) := by
  unfold encL
  rw [List.append_assoc, List.getElem?_append_right (by simp), List.getElem?_append_right (by simp [hd])]
  simp [hd]
set_option maxRecDepth 100000 in
set_option maxHeartbeats 16000000 in
theorem omayBe_any (l : List DV) (x : Option Addr) (cc : Nat) (w : World) (hE : Env2 w) (hl : l.length ≤ 70368744177664) (hL : eDess.at_ w (fun k => k < w.heap.size) l (.slice x l.length cc)) :
    Calls Tryz.prog 49 #[.slice x l.length cc] w fun e w' => e = .returned (.bool (l.all mayD)) ∧ Below w.heap.size w w' := by
  obtain ⟨N, hN⟩ : ∃ N, N = l.all mayD := ⟨_, rfl⟩
  rw [← hN]
  have HN := Lib.hid hN
  have HE := Lib.hid hE
  have HL := Lib.hid hL
  have HIP := Lib.hid info_P
  have HID := Lib.hid (fun (d : DV) (h : goodD d) => show (Tryz.prog.info? 28).map (·.size) = some (encD d).size by rw [encD_size d h]; exact info_D)
  have HSZ := Lib.hid (fun (d : DV) (h : goodD d) => show (encD zeroD).size = (encD d).size by rw [encD_size d h]; rfl)
  clear hN hL hE
  go_enter Tryz.func49, Tryz.ntmps49
  go_wp2
  go_loopg [7] l.length (fun gk s7 wr => ∃ j : Nat, s7 = .int .i64 (j : Int) ∧ Hid (gk = l.length - j) ∧ Hid (j ≤ l.length) ∧ Hid (∀ i d, i < j → l[i]? = some d → mayD d = true) ∧ Hid (Below w.heap.size w wr))
  case atStart => exact ⟨0, rfl, Lib.hid rfl, Lib.hid (Nat.zero_le _), Lib.hid (fun i d h => absurd h (Nat.not_lt_zero _)), Lib.hid (Below.refl _ _)⟩
  case round =>
    obtain ⟨j, rfl, HNj, HNL, HM, HBW⟩ := hrel
    have sw := HBW.out.size
    by_cases hj : j < l.length
    · have hj1 : (j : Int) < (l.length : Int) := by omega
      obtain ⟨d, hd⟩ : ∃ d, l[j]? = some d := ⟨_, List.getElem?_eq_getElem hj⟩
      obtain ⟨gd, ad, rfl, hab, hcs⟩ := dess_at HL.out hd
      have HGD := Lib.hid gd
      have HCS := Lib.hid (show ∀ i u, (encL d)[i]? = some u → wr.cell? ((ad.add (j * 36)).add i) = some u from fun i u hu => by
        rw [World.cell?_of_block (w := w) (w' := wr) (HBW.out.block _ (by rw [add_block, add_block]; exact hab))]
        exact hcs i u hu)
      have HDJ := Lib.hid hd
      have hjm : j ≤ 70368744177664 := by omega
      have HEL := Lib.hid (encD_list d)
      have HIL := Lib.hid (show (Tryz.prog.info? 28).map (·.size) = some (encL d).length by rw [encL_len gd.1]; exact info_D)
      clear gd hcs hd hj
      go_upto_region 4 with (first
        | ((with_reducible show wpList _ _ _ (⟨some 10, .load _ _, _, _, _, _⟩ :: _) _ _); refine wpList_load_at rfl 28 _ rfl (ad.add (j * 36)) rfl (encL d) _ HCS.out Tryz.underlying28 rfl HIL.out ?_)
        | ((with_reducible show wpList _ _ _ (⟨none, .store _ (.tmp 4) _, _, _, _, _⟩ :: _) _ _); refine wpList_store_last rfl 28 _ _ rfl wr.heap.size (encD d) rfl (by rw [HEL.out]; rfl) 28 (encD zeroD) rfl (HID.out d HGD.out) (HSZ.out d HGD.out) (encD_one _) ?_))
      obtain ⟨W1, hW1⟩ : ∃ W1, W1 = wr.alloc (.cells (encD d) 28) := ⟨_, rfl⟩
      rw [← hW1]
      have R1 : Hid (rowC W1 wr.heap.size (encD d) 28) := Lib.hid (by rw [hW1]; exact rowC_new _ _ _)
      have q0 : W1.cell? ⟨wr.heap.size, 0, none⟩ = some (.string (str d.media)) := by rw [rowC_cell R1.out, encD_list]; rfl
      have q33 : W1.cell? ⟨wr.heap.size, 33, none⟩ = some (.int .i64 d.size) := by rw [rowC_cell R1.out, encD_list, List.getElem?_toArray]; exact encLn_33 HGD.out.1
      have B1 : Hid (Below w.heap.size w W1) := Lib.hid (by rw [hW1]; exact HBW.out.alloc sw _)
      have l1 := rowC_lt R1.out
      have CV := Tryz.utf8_ValidString (str d.media) W1 (by rw [str_size]; have := HGD.out.2.1; omega) (HE.out.below B1.out).env.tabs
      rw [str_toList] at CV
      have HC := Lib.hid (fun w' (hb : Below W1.heap.size W1 w') => isText_any (d.os, d.arch) HGD.out.2.2.1 HGD.out.2.2.2 w' ((HE.out.below B1.out).below hb))
      have HR : Hid (∀ w', Below W1.heap.size W1 w' → w'.cell? ⟨wr.heap.size, 34, none⟩ = some (.string (str d.os)) ∧ w'.cell? ⟨wr.heap.size, 35, none⟩ = some (.string (str d.arch))) := Lib.hid (fun w' hb => by
        have h := rowC_below R1.out hb l1
        rw [encD_list] at h
        exact ⟨(rowC_cell h 34).trans ((List.getElem?_toArray ..).trans (encLn_34 HGD.out.1)), (rowC_cell h 35).trans ((List.getElem?_toArray ..).trans (encLn_35 HGD.out.1))⟩)
      have HD : Hid (mayD d = (decide (0 ≤ d.size) && decide (d.size ≤ 9007199254740992) && Lib.validD d.media && (Lib.validD d.os && Lib.validD d.arch))) := Lib.hid rfl
      have HNF : Hid (mayD d = false → N = false) := Lib.hid (fun h => HN.out.trans (all_not (List.mem_of_getElem? HDJ.out) h))
      obtain ⟨V1, hV1⟩ : ∃ V1, V1 = Lib.validD d.media := ⟨_, rfl⟩
      rw [← hV1] at CV HD
      clear hV1
      clear hW1
      by_cases ha : d.size < 0
      · have e0 : Hid (N = false) := Lib.hid (HNF.out (by rw [HD.out, decide_eq_false (by omega)]; rfl))
        clear CV
        go_wp2
        go_ret
        rw [e0.out]
        exact ⟨rfl, B1.out⟩
      by_cases hb : 9007199254740992 < d.size
      · have e0 : Hid (N = false) := Lib.hid (HNF.out (by rw [HD.out, decide_eq_false (p := d.size ≤ 9007199254740992) (by omega), Bool.and_false]; rfl))
        clear CV
        go_wp2
        go_ret
        rw [e0.out]
        exact ⟨rfl, B1.out⟩
      have HSZ1 := Lib.hid (show 0 ≤ d.size ∧ d.size ≤ 9007199254740992 by omega)
      cases V1 with
      | false =>
        have e0 : Hid (N = false) := Lib.hid (HNF.out (by rw [HD.out, Bool.and_false]; rfl))
        go_wp2_with (go_at_call 89; ((with_reducible refine CV.mono ?_); rintro e w2 ⟨rfl, hb2⟩; have HB2 := Lib.hid hb2; clear hb2))
        go_ret
        rw [e0.out]
        exact ⟨rfl, B1.out.trans (HB2.out.mono (by omega))⟩
      | true =>
        obtain ⟨V2, hV2⟩ : ∃ V2, V2 = (Lib.validD d.os && Lib.validD d.arch) := ⟨_, rfl⟩
        rw [← hV2] at HD
        have HC2 : Hid (∀ w', Below W1.heap.size W1 w' → Calls Tryz.prog 60 #[.agg #[.string (str d.os), .string (str d.arch)]] w' fun e w2 => e = .returned (.bool V2) ∧ Below w'.heap.size w' w2) := Lib.hid (by rw [hV2]; exact HC.out)
        clear hV2
        cases V2 with
        | false =>
          have e0 : Hid (N = false) := Lib.hid (HNF.out (by rw [HD.out, Bool.and_false]))
          go_wp2_with (first
            | (go_at_call 89; ((with_reducible refine CV.mono ?_); rintro e w2 ⟨rfl, hb2⟩; have HB2 := Lib.hid hb2; have s2 := hb2.size; have CP := HC2.out w2 hb2; obtain ⟨g34, g35⟩ := HR.out w2 hb2; clear hb2 CV))
            | (go_at_call 60; ((with_reducible refine CP.mono ?_); rintro e w3 ⟨rfl, hb3⟩; have HB3 := Lib.hid hb3; clear hb3)))
          go_ret
          rw [e0.out]
          exact ⟨rfl, (B1.out.trans (HB2.out.mono (by omega))).trans (HB3.out.mono (by omega))⟩
        | true =>
          have e1 : Hid (mayD d = true) := Lib.hid (by rw [HD.out, decide_eq_true HSZ1.out.1, decide_eq_true HSZ1.out.2]; rfl)
          go_wp2_with (first
            | (go_at_call 89; ((with_reducible refine CV.mono ?_); rintro e w2 ⟨rfl, hb2⟩; have HB2 := Lib.hid hb2; have s2 := hb2.size; have CP := HC2.out w2 hb2; obtain ⟨g34, g35⟩ := HR.out w2 hb2; clear hb2 CV))
            | (go_at_call 60; ((with_reducible refine CP.mono ?_); rintro e w3 ⟨rfl, hb3⟩; have HB3 := Lib.hid hb3; clear hb3)))
          go_roundg (l.length - (j + 1))
          case measure => rw [HNj.out]; omega
          case rel =>
            refine ⟨j + 1, rfl, Lib.hid rfl, Lib.hid (by omega), Lib.hid (fun i d' hi hd' => ?_), Lib.hid ((B1.out.trans (HB2.out.mono (by omega))).trans (HB3.out.mono (by omega)))⟩
            by_cases hij : i = j
            · subst hij
              rw [HDJ.out] at hd'
              injection hd' with hd'
              rw [← hd']
              exact e1.out
            · exact HM.out i d' (by omega) hd'
    · have hj1 : ¬ (j : Int) < (l.length : Int) := by omega
      have e0 : Hid (N = true) := Lib.hid (by
        rw [HN.out, List.all_eq_true]
        intro d hd
        obtain ⟨i, hi⟩ := List.getElem?_of_mem hd
        exact HM.out i d (by have := (List.getElem?_eq_some_iff.1 hi).1; omega) hi)
      clear hj
      go_wp2
      go_ret
      rw [e0.out]
      exact ⟨rfl, HBW.out⟩
end Go.Proofs.YtnkencdibniagaaGreatDoor

/- Layer 13: a list of descriptors, put. -/
namespace Go.Proofs.YtnkencdibniagaaGreatDoor
open Go.RowKit

theorem lst_putP {w w3 : World} {items : List JV} {B c N ci : Nat} {xi : Option Addr} {cs : Array Value} (hb : Below w.heap.size w w3) (hc : w.heap.size ≤ c) (hN : items.length = N)
    (hh : (Value.slice xi N ci = .slice none 0 0 ∧ items = []) ∨ ∃ (ad : Addr) (cap : Nat), Value.slice xi N ci = .slice (some ad) N cap ∧ HoldsR w3 (fun k => B ≤ k) items ad 0) (hcB : c < B) :
    PutP w (lstJ items) (.returned (.agg (row4 5 ⟨#[]⟩ xi N ci none 0 0))) (w3.setRow c cs) := by
  have cz : Chg (fun q => q = c) w3 (w3.setRow c cs) := (Chg.refl _ _).setRow _ _ (.inl rfl)
  have sz : (w3.setRow c cs).heap.size = w3.heap.size := setRow_size _ _ _
  have sb := hb.size
  subst hN
  refine ⟨xi, ci, none, 0, rfl, ?_, below_setRow hb hc _⟩
  show HoldsC _ _ (.mk 5 [] items []) (.int .i64 5) (.string (str [])) (.slice xi items.length ci) (.slice none 0 0)
  rw [HoldsC]
  refine ⟨rfl, rfl, by simp, .inl ⟨rfl, rfl⟩, ?_⟩
  rcases hh with ⟨h1, h2⟩ | ⟨ad, cap, h1, h2⟩
  · exact .inl ⟨h1, h2⟩
  · refine .inr ⟨ad, cap, h1, HoldsR.mono (fun q hq hlt => ⟨by have hq : B ≤ q := hq; omega, hlt⟩) _ _ _ (HoldsR.chg cz (fun q hq e => by have hq : B ≤ q := hq; omega) _ _ _ h2)⟩
/-- What puts one item. -/
structure PutF (f : FuncId) (J : DV → JV) : Prop where
  enter : ∀ (args : Array Value) (w : World), (callFunc f args).run Tryz.prog w = .ok (.enter f args) w
  call : ∀ (d : DV) (w : World), putD d → Env2 w → Calls Tryz.prog f #[.agg (encD d)] w fun e w' => PutP w (J d) e w'
theorem putF_des : PutF 59 fullJ := ⟨fun args w => by kernel_rfl, fun d w h hE => descriptor_put d h w hE⟩
theorem putF_pln : PutF 53 bareJ := ⟨fun args w => by kernel_rfl, fun d w h hE => plain_put d h w hE⟩
set_option maxRecDepth 100000 in
set_option maxHeartbeats 16000000 in
theorem lsput_des {f : FuncId} {J : DV → JV} (hf : PutF f J) (l : List DV) (x : Option Addr) (cc : Nat) (w : World) (hE : Env2 w) (hl : l.length ≤ 65536) (hp : ∀ d ∈ l, putD d) (hL : eDess.at_ w (fun k => k < w.heap.size) l (.slice x l.length cc)) :
    Calls Tryz.prog 54 #[.slice x l.length cc, .func (.func f) #[] #[]] w fun e w' => PutP w (lstJ (l.map J)) e w' := by
  have hEn := hf.enter
  have HI := Lib.hid info_V
  obtain ⟨i0, hi0, hz0, hz1, hz2⟩ := info_parts info_V3
  obtain ⟨wc, hwc⟩ : ∃ wc, wc = (w.alloc (.cells #[.int .i64 0, .string ⟨#[]⟩, .slice none 0 0, .slice none 0 0] 63)).alloc (.cells (row4 5 ⟨#[]⟩ none 0 0 none 0 0) 63) := ⟨_, rfl⟩
  have s1 := size_alloc w (.cells #[.int .i64 0, .string ⟨#[]⟩, .slice none 0 0, .slice none 0 0] 63)
  have Z1 : rowC wc w.heap.size zeroV4 63 := by rw [hwc]; exact rowC_alloc (rowC_new w _ _) _
  have R1 : rowC wc (w.heap.size + 1) (row4 5 ⟨#[]⟩ none 0 0 none 0 0) 63 := by rw [hwc, ← s1]; exact rowC_new _ _ _
  have B1 : Below w.heap.size w wc := by rw [hwc]; exact ((Below.refl _ _).alloc (Nat.le_refl _) _).alloc (by omega) _
  have S1 : wc.heap.size = w.heap.size + 2 := by rw [hwc, size_alloc, s1]
  have HWC := Lib.hid hwc
  have HZX := Lib.hid Z1
  have HCX := Lib.hid R1
  have HBX := Lib.hid B1
  have HL := Lib.hid hL
  have HP := Lib.hid hp
  have HE := Lib.hid hE
  have HFN := Lib.hid hf
  have HID := Lib.hid (fun (d : DV) (h : goodD d) => show (Tryz.prog.info? 28).map (·.size) = some (encD d).size by rw [encD_size d h]; exact info_D)
  have HSZ := Lib.hid (fun (d : DV) (h : goodD d) => show (encD zeroD).size = (encD d).size by rw [encD_size d h]; rfl)
  clear hwc Z1 R1 B1 hL hp hE hf
  go_enter Tryz.func54, Tryz.ntmps54
  go_upto_region 2 with (first
    | ((with_reducible show wpList _ _ _ (⟨some 8, .build _ _, _, _, _, _⟩ :: _) _ _); refine wpList_build_as rfl 63 _ rfl (row4 5 ⟨#[]⟩ none 0 0 none 0 0) (by kernel_rfl) ?_)
    | ((with_reducible show wpList _ _ _ (⟨none, .store _ (.tmp 5) _, _, _, _, _⟩ :: _) _ _); refine wpList_store_last rfl 63 _ _ rfl (w.heap.size + 1) (row4 5 ⟨#[]⟩ none 0 0 none 0 0) rfl rfl 63 zeroV4 (by rw [size_alloc]) HI.out rfl (row4_all _ _ _ _ _ _ _ _) ?_))
  rw [← HWC.out]
  have HBC := Lib.hid (show (w.heap.size + 1) < wc.heap.size by omega)
  go_wp2
  go_loopg [11] l.length (fun gk s11 wr => ∃ j : Nat, s11 = .int .i64 (j : Int) ∧ Hid (gk = l.length - j) ∧ Hid (j ≤ l.length) ∧ Hid (GrB wc (w.heap.size + 1) wc.heap.size 5 ⟨#[]⟩ (.slice none 0 0) ((l.take j).map J) wr))
  case atStart => exact ⟨0, rfl, Lib.hid rfl, Lib.hid (Nat.zero_le _), Lib.hid ⟨.slice none 0 0, Chg.refl _ _, HCX.out, RowJ.nil _ _ _⟩⟩
  case round =>
    obtain ⟨j, rfl, HN, HNL, HM⟩ := hrel
    by_cases hj : j < l.length
    · have hj1 : (j : Int) < (l.length : Int) := by omega
      obtain ⟨d, hd⟩ : ∃ d, l[j]? = some d := ⟨_, List.getElem?_eq_getElem hj⟩
      obtain ⟨gd, ad, rfl, hab, hcs⟩ := dess_at HL.out hd
      obtain ⟨I, hGr, hRb, hRJ⟩ := HM.out
      obtain ⟨⟨xs, F, ho, hIt, hF⟩, _⟩ := hRJ
      obtain ⟨xi, ci, rfl⟩ := owns_form ho
      have hln : ((l.take j).map J).length = j := by rw [List.length_map, List.length_take]; omega
      rw [hln] at ho hF hRb
      have sB := HBX.out.size
      have sG := hGr.size
      have hbcl := HBC.out
      have hwb : Below w.heap.size w wr := HBX.out.trans (hGr.below (by omega) (fun q hq e => by omega))
      have HCS := Lib.hid (show ∀ i u, (encL d)[i]? = some u → wr.cell? ((ad.add (j * 36)).add i) = some u from fun i u hu => by
        rw [World.cell?_of_block (w := w) (w' := wr) (hwb.block _ (by rw [add_block, add_block]; exact hab))]
        exact hcs i u hu)
      obtain ⟨W1, hW1⟩ : ∃ W1, W1 = wr.alloc (.cells (encD d) 28) := ⟨_, rfl⟩
      have s1 : W1.heap.size = wr.heap.size + 1 := by rw [hW1]; exact size_alloc _ _
      have R1 : rowC W1 wr.heap.size (encD d) 28 := by rw [hW1]; exact rowC_new _ _ _
      have c1 : Chg (fun _ => False) wr W1 := by rw [hW1]; exact (Chg.refl _ _).alloc _
      have RB1 := c1.rowC hRb id
      have hpd : putD d := HP.out d (List.mem_of_getElem? hd)
      obtain ⟨SB, hSB⟩ : ∃ SB : Nat → Prop, SB = fun q => q = (w.heap.size + 1) ∨ (Value.slice xi j ci).ownBlock = some q := ⟨_, rfl⟩
      have hb1 : ¬ SB wr.heap.size := by
        rw [hSB]
        rintro (e | e)
        · omega
        · have := (ho.lt _ e).2; omega
      have hsb0 : SB (w.heap.size + 1) := by rw [hSB]; exact .inl rfl
      have hsb1 : ∀ k, (Value.slice xi j ci).ownBlock = some k → SB k := fun k hk => by rw [hSB]; exact .inr hk
      clear hSB
      obtain ⟨X, hX⟩ : ∃ X, X = encL d := ⟨_, rfl⟩
      have hXa : X.toArray = encD d := by rw [hX, encD_list]
      obtain ⟨K2, hK2⟩ : ∃ K2, K2 = (J d).kind := ⟨_, rfl⟩
      obtain ⟨T2, hT2⟩ : ∃ T2, T2 = str (J d).text := ⟨_, rfl⟩
      obtain ⟨N2, hN2⟩ : ∃ N2, N2 = (J d).items.length := ⟨_, rfl⟩
      obtain ⟨N3, hN3⟩ : ∃ N3, N3 = (J d).keys.length := ⟨_, rfl⟩
      have C4 : ∀ w', Gn W1 SB w' → Chg (fun _ => False) W1 w' → Calls Tryz.prog f #[.agg X.toArray] w' fun e w2 => ∃ y2 m2 y3 m3, e = .returned (.agg #[.int .i64 K2, .string T2, .slice y2 N2 m2, .slice y3 N3 m3]) ∧ HoldsC w2 (fun k => W1.heap.size ≤ k ∧ k < w2.heap.size) (J d) (.int .i64 K2) (.string T2) (.slice y2 N2 m2) (.slice y3 N3 m3) ∧ Chg (fun _ => False) W1 w2 ∧ Gn W1 SB w2 := fun w' hg hc => by
        have hew : Env2 w' := HE.out.below (hwb.trans (((Chg.below c1 (B := w.heap.size) (by omega) (fun _ _ h => h)).trans (hc.below (B := w.heap.size) (by omega) (fun _ _ h => h)))))
        rw [hXa, hK2, hT2, hN2, hN3]
        refine (HFN.out.call d w' hpd hew).mono ?_
        rintro e w2 ⟨y, m, z, n, rfl, hV, hb⟩
        exact ⟨y, m, z, n, rfl, HoldsC.mono (fun k hk hlt => ⟨Nat.le_trans hc.size hk.1, hlt⟩) _ _ _ _ _ hV, hc.trans (Chg.of_below hb) (fun _ _ h => h), Gn.call hg hb⟩
      have iD : (Tryz.prog.info? 28).map (·.size) = some X.length := by
        rw [hX, encL_len gd.1]
        exact info_D
      have OS : ∀ w', Gn W1 SB w' → w'.rangeAt wr.heap.size 0 X ∧ True := fun w' h => ⟨by rw [hX]; exact (encD_pla gd.1 (h.row R1 hb1)).1, trivial⟩
      have HGD := Lib.hid gd
      have HGR := Lib.hid hGr
      have HRB := Lib.hid hRb
      have HO := Lib.hid ho
      have HIT1 := Lib.hid hIt
      have HF1 := Lib.hid hF
      have HLN := Lib.hid hln
      have HXV := Lib.hid hd
      have HRB1 := Lib.hid RB1
      have HC1 := Lib.hid c1
      have HW1 := Lib.hid hW1
      have HEL := Lib.hid (encD_list d)
      have HIL := Lib.hid (show (Tryz.prog.info? 28).map (·.size) = some (encL d).length by rw [encL_len gd.1]; exact info_D)
      have hjm : j ≤ 65536 := by omega
      clear hcs gd hGr hRb ho hIt hF hln hd R1 RB1 hW1 hwb HM hj hX hXa hK2 hT2 hN2 hN3 hpd
      go_upto_region 5 with (first
        | ((with_reducible show wpList _ _ _ (⟨some 14, .load _ _, _, _, _, _⟩ :: _) _ _); refine wpList_load_at rfl 28 _ rfl (ad.add (j * 36)) rfl (encL d) _ HCS.out Tryz.underlying28 rfl HIL.out ?_)
        | ((with_reducible show wpList _ _ _ (⟨none, .store _ (.tmp 7) _, _, _, _, _⟩ :: _) _ _); refine wpList_store_last rfl 28 _ _ rfl wr.heap.size (encD d) rfl (by rw [HEL.out]; rfl) 28 (encD zeroD) rfl (HID.out d HGD.out) (HSZ.out d HGD.out) (encD_one _) ?_))
      rw [← HW1.out]
      have SO : ∀ w', Gn W1 SB w' → Gn W1 SB w' := fun _ h => h
      have uD := Tryz.underlying28
      refine wp_region_noPanic ?_
      refine wp_region_held_drew (S := Gn W1 SB) (by kernel_rfl) (Gn.start _ _) (fun hHeld => ?_)
      have HCD : Hid (Chg (fun _ => False) W1 W1.drew) := Lib.hid (Chg.refl _ _).drew
      have L1 : W1.drew.cell? ⟨(w.heap.size + 1), 2, none⟩ = some (.slice xi j ci) := rowC_cell (rowC_drew HRB1.out) 2
      generalize W1.drew = wd at *
      refine wpAnyH_take (i := 0) (oi := { dst := some 15, op := Op.fieldAddr 63 (Operand.tmp 5) 2, type := 0, pos := "oci.go:388", after := #[], guard := none }) (v := ?_) rfl (by kernel_rfl) (by kernel_rfl) (by kernel_rfl) (fun _ _ _ h => h) (Or.inl ⟨by rfl, ?_⟩) (by assumption) ?_
      rotate_left
      · intro w hSw
        skip
        clear hSw
        go_simp
        try with_reducible rfl
      try simp only [Act.put, List.setIfInBounds_toArray, List.set_cons_zero, List.set_cons_succ]
      refine wpAnyH_take (i := 2) (oi := { dst := some 17, op := Op.move (Operand.tmp 1), type := 104, pos := "oci.go:388", after := #[], guard := none }) (v := ?_) rfl (by kernel_rfl) (by kernel_rfl) (by kernel_rfl) (fun _ _ _ h => h) (Or.inl ⟨by rfl, ?_⟩) (by assumption) ?_
      rotate_left
      · intro w hSw
        skip
        clear hSw
        go_simp
        try with_reducible rfl
      try simp only [Act.put, List.setIfInBounds_toArray, List.set_cons_zero, List.set_cons_succ]
      refine wpAnyH_take (i := 3) (oi := { dst := some 18, op := Op.load 28 (Operand.tmp 7), type := 28, pos := "oci.go:388", after := #[], guard := none }) (v := _) rfl (by kernel_rfl) (by kernel_rfl) (by kernel_rfl) (fun _ _ _ h => h) (yieldsIf_load_mid (by rfl) _ _ rfl _ _ rfl _ _ (by intro w hSw; have hSw := OS _ hSw; go_split_ands; assumption) (by assumption) rfl (by assumption)) (by assumption) ?_
      try simp only [Act.put, List.setIfInBounds_toArray, List.set_cons_zero, List.set_cons_succ]
      refine wpAnyH_ready (rs := [1, 4]) (by kernel_rfl) (by simp) ?_
      refine (AllReadyH.cons (o := { dst := some 16, op := Op.load 60 (Operand.tmp 15), type := 60, pos := "oci.go:388", after := #[{ on := 0, ground := Ground.data }], guard := none }) rfl (fun K hK => ?_) (AllReadyH.cons (o := { dst := some 19, op := Op.call { callee := Callee.value (Operand.tmp 17), args := #[Operand.tmp 18], argTypes := #[28] }, type := 63, pos := "oci.go:388", after := #[{ on := 2, ground := Ground.data }, { on := 3, ground := Ground.data }], guard := none }) rfl (fun K hK => ?_) AllReadyH.nil))
      · skip
        go_simp
        refine hK.out _ _ (SO _ (by first | assumption | exact Gn.alloc (by assumption) _ | exact Gn.cell (by assumption) _ _ (.inl hsb0) | exact Gn.call (by assumption) (by assumption))) (fun hHeld => ?_)
        clear hK K
        try simp only [Act.put, List.setIfInBounds_toArray, List.set_cons_zero, List.set_cons_succ]
        refine wpAnyH_ready (rs := [4]) (by kernel_rfl) (by simp) ?_
        refine (AllReadyH.cons (o := { dst := some 19, op := Op.call { callee := Callee.value (Operand.tmp 17), args := #[Operand.tmp 18], argTypes := #[28] }, type := 63, pos := "oci.go:388", after := #[{ on := 2, ground := Ground.data }, { on := 3, ground := Ground.data }], guard := none }) rfl (fun K hK => ?_) AllReadyH.nil)
        go_simp
        with_reducible refine (C4 _ hHeld HCD.out).mono ?_
        rintro e w4' ⟨y2, m2, y3, m3, rfl, hx4, hc4, m4'⟩
        have s4 := hc4.size
        have L2 : w4'.cell? ⟨(w.heap.size + 1), 2, none⟩ = some (.slice xi j ci) := rowC_cell (hc4.rowC HRB1.out id) 2
        have L3 : ∀ o, (w4'.alloc o).cell? ⟨(w.heap.size + 1), 2, none⟩ = some (.slice xi j ci) := fun o => rowC_cell ((hc4.alloc o).rowC HRB1.out id) 2
        have OW : ∀ o, (w4'.alloc o).ownsRow wc.heap.size 63 4 (.slice xi j ci) j xs := fun o => ((HC1.out.trans hc4 (fun _ _ h => h)).alloc o).owns HO.out (fun _ _ h => h)
        have SG : ∀ o w7, (w4'.alloc o).grownBy w7 (Value.slice xi j ci).ownBlock → Gn W1 SB w7 := fun o w7 hg => grown_bc m4' hsb1 hg
        have SZ : ∀ o w7, (w4'.alloc o).grownBy w7 (Value.slice xi j ci).ownBlock → w7.cell? ⟨(w.heap.size + 1), 2, none⟩ = some (.slice xi j ci) ∧ w7.frozen? ⟨(w.heap.size + 1), 2, none⟩ = false := fun o w7 hg => grown_at HO.out (by omega) ((hc4.alloc o).rowC HRB1.out id) hg
        refine hK.out _ _ (SO _ (by assumption)) (fun hHeld => ?_)
        clear hK K
        try simp only [Act.put, List.setIfInBounds_toArray, List.set_cons_zero, List.set_cons_succ]
        refine wpAnyH_ready (rs := [5]) (by kernel_rfl) (by simp) ?_
        refine (AllReadyH.cons (o := { dst := some 20, op := Op.buildSlice 60 1 #[(0, Operand.tmp 19)], type := 60, pos := "oci.go:388", after := #[{ on := 4, ground := Ground.data }], guard := none }) rfl (fun K hK => ?_) AllReadyH.nil)
        skip
        go_simp
        refine hK.out _ _ (SO _ (by first | assumption | exact Gn.alloc (by assumption) _ | exact Gn.cell (by assumption) _ _ (.inl hsb0) | exact Gn.call (by assumption) (by assumption))) (fun hHeld => ?_)
        clear hK K
        try simp only [Act.put, List.setIfInBounds_toArray, List.set_cons_zero, List.set_cons_succ]
        refine wpAnyH_ready (rs := [6]) (by kernel_rfl) (by simp) ?_
        refine (AllReadyH.cons (o := { dst := some 21, op := Op.call { callee := Callee.builtin Builtin.append, args := #[Operand.tmp 16, Operand.tmp 20], argTypes := #[60, 60] }, type := 60, pos := "oci.go:388", after := #[{ on := 1, ground := Ground.data }, { on := 5, ground := Ground.data }, { on := 4, ground := Ground.chain }], guard := none }) rfl (fun K hK => ?_) AllReadyH.nil)
        refine step_append_lies _ (by rfl) _ _ 60 (by rfl) wc.heap.size 63 i0 (.agg #[.int .i64 0, .string ⟨#[]⟩, .slice none 0 0, .slice none 0 0]) 4 72 Tryz.underlying60 hi0 hz0 hz1 hz2 (by rfl) (by decide) (.slice xi j ci) j xs (by rfl) (OW _) ⟨w4'.heap.size, 0, none⟩ 1 1 [.int .i64 K2, .string T2, .slice y2 N2 m2, .slice y3 N3 m3] (by rfl) (by rfl) (World.news_of_block (heap_alloc_new w4' _)) (fun u hu => all_one4 u hu) (by decide) (by unfold maxLen; omega) (by omega) (by rw [size_alloc]; omega) _ rfl ?_
        intro g cap w7 hown7 hgrow7 hat7 hlt7
        have S7 := SG _ _ hgrow7
        obtain ⟨z2, y2f⟩ := SZ _ _ hgrow7
        refine hK.out _ _ (SO _ (by first | assumption | exact Gn.alloc (by assumption) _ | exact Gn.cell (by assumption) _ _ (.inl hsb0) | exact Gn.call (by assumption) (by assumption))) (fun hHeld => ?_)
        clear hK K
        try simp only [Act.put, List.setIfInBounds_toArray, List.set_cons_zero, List.set_cons_succ]
        refine wpAnyH_take (i := 7) (oi := { dst := some 22, op := Op.fieldAddr 63 (Operand.tmp 5) 2, type := 0, pos := "oci.go:388", after := #[{ on := 0, ground := Ground.phase }, { on := 1, ground := Ground.phase }, { on := 2, ground := Ground.phase }, { on := 3, ground := Ground.phase }, { on := 4, ground := Ground.phase }, { on := 5, ground := Ground.phase }, { on := 6, ground := Ground.phase }], guard := none }) (v := ?_) rfl (by kernel_rfl) (by kernel_rfl) (by kernel_rfl) (fun _ _ _ h => h) (Or.inl ⟨by rfl, ?_⟩) (by assumption) ?_
        rotate_left
        · intro w hSw
          skip
          clear hSw
          go_simp
          try with_reducible rfl
        try simp only [Act.put, List.setIfInBounds_toArray, List.set_cons_zero, List.set_cons_succ]
        refine wpAnyH_ready (rs := [8]) (by kernel_rfl) (by simp) ?_
        refine (AllReadyH.cons (o := { dst := none, op := Op.store 60 (Operand.tmp 22) (Operand.tmp 21), type := 0, pos := "oci.go:388", after := #[{ on := 7, ground := Ground.data }, { on := 6, ground := Ground.data }, { on := 6, ground := Ground.chain }, { on := 0, ground := Ground.phase }, { on := 1, ground := Ground.phase }, { on := 2, ground := Ground.phase }, { on := 3, ground := Ground.phase }, { on := 4, ground := Ground.phase }, { on := 5, ground := Ground.phase }, { on := 6, ground := Ground.phase }], guard := none }) rfl (fun K hK => ?_) AllReadyH.nil)
        skip
        go_simp
        refine hK.out _ _ (SO _ (by first | assumption | exact Gn.alloc (by assumption) _ | exact Gn.cell (by assumption) _ _ (.inl hsb0) | exact Gn.call (by assumption) (by assumption))) (fun hHeld => ?_)
        clear hK K
        try simp only [Act.put, List.setIfInBounds_toArray, List.set_cons_zero, List.set_cons_succ]
        refine wpAnyH_done (by kernel_rfl) ?_ _
        refine NoPanic.normal ?_
        go_wp2_with (fail)
        go_roundg (l.length - (j + 1))
        case measure => rw [HN.out]; omega
        case rel =>
          refine ⟨j + 1, rfl, Lib.hid rfl, Lib.hid (by omega), Lib.hid ?_⟩
          rw [take_one HXV.out, List.map_append]
          exact row_round rfl hbcl HGR.out HRB.out HO.out HIT1.out (fun q hq => ⟨(HF1.out q hq).1, id, (HF1.out q hq).2.2⟩) HLN.out HC1.out hc4 hx4 hown7 hgrow7 (by rw [size_alloc] at hat7; exact hat7)
      · go_simp
        with_reducible refine (C4 _ hHeld HCD.out).mono ?_
        rintro e w4' ⟨y2, m2, y3, m3, rfl, hx4, hc4, m4'⟩
        have s4 := hc4.size
        have L2 : w4'.cell? ⟨(w.heap.size + 1), 2, none⟩ = some (.slice xi j ci) := rowC_cell (hc4.rowC HRB1.out id) 2
        have L3 : ∀ o, (w4'.alloc o).cell? ⟨(w.heap.size + 1), 2, none⟩ = some (.slice xi j ci) := fun o => rowC_cell ((hc4.alloc o).rowC HRB1.out id) 2
        have OW : ∀ o, (w4'.alloc o).ownsRow wc.heap.size 63 4 (.slice xi j ci) j xs := fun o => ((HC1.out.trans hc4 (fun _ _ h => h)).alloc o).owns HO.out (fun _ _ h => h)
        have SG : ∀ o w7, (w4'.alloc o).grownBy w7 (Value.slice xi j ci).ownBlock → Gn W1 SB w7 := fun o w7 hg => grown_bc m4' hsb1 hg
        have SZ : ∀ o w7, (w4'.alloc o).grownBy w7 (Value.slice xi j ci).ownBlock → w7.cell? ⟨(w.heap.size + 1), 2, none⟩ = some (.slice xi j ci) ∧ w7.frozen? ⟨(w.heap.size + 1), 2, none⟩ = false := fun o w7 hg => grown_at HO.out (by omega) ((hc4.alloc o).rowC HRB1.out id) hg
        refine hK.out _ _ (SO _ (by assumption)) (fun hHeld => ?_)
        clear hK K
        try simp only [Act.put, List.setIfInBounds_toArray, List.set_cons_zero, List.set_cons_succ]
        refine wpAnyH_ready (rs := [1, 5]) (by kernel_rfl) (by simp) ?_
        refine (AllReadyH.cons (o := { dst := some 16, op := Op.load 60 (Operand.tmp 15), type := 60, pos := "oci.go:388", after := #[{ on := 0, ground := Ground.data }], guard := none }) rfl (fun K hK => ?_) (AllReadyH.cons (o := { dst := some 20, op := Op.buildSlice 60 1 #[(0, Operand.tmp 19)], type := 60, pos := "oci.go:388", after := #[{ on := 4, ground := Ground.data }], guard := none }) rfl (fun K hK => ?_) AllReadyH.nil))
        · skip
          go_simp
          refine hK.out _ _ (SO _ (by first | assumption | exact Gn.alloc (by assumption) _ | exact Gn.cell (by assumption) _ _ (.inl hsb0) | exact Gn.call (by assumption) (by assumption))) (fun hHeld => ?_)
          clear hK K
          try simp only [Act.put, List.setIfInBounds_toArray, List.set_cons_zero, List.set_cons_succ]
          refine wpAnyH_ready (rs := [5]) (by kernel_rfl) (by simp) ?_
          refine (AllReadyH.cons (o := { dst := some 20, op := Op.buildSlice 60 1 #[(0, Operand.tmp 19)], type := 60, pos := "oci.go:388", after := #[{ on := 4, ground := Ground.data }], guard := none }) rfl (fun K hK => ?_) AllReadyH.nil)
          skip
          go_simp
          refine hK.out _ _ (SO _ (by first | assumption | exact Gn.alloc (by assumption) _ | exact Gn.cell (by assumption) _ _ (.inl hsb0) | exact Gn.call (by assumption) (by assumption))) (fun hHeld => ?_)
          clear hK K
          try simp only [Act.put, List.setIfInBounds_toArray, List.set_cons_zero, List.set_cons_succ]
          refine wpAnyH_ready (rs := [6]) (by kernel_rfl) (by simp) ?_
          refine (AllReadyH.cons (o := { dst := some 21, op := Op.call { callee := Callee.builtin Builtin.append, args := #[Operand.tmp 16, Operand.tmp 20], argTypes := #[60, 60] }, type := 60, pos := "oci.go:388", after := #[{ on := 1, ground := Ground.data }, { on := 5, ground := Ground.data }, { on := 4, ground := Ground.chain }], guard := none }) rfl (fun K hK => ?_) AllReadyH.nil)
          refine step_append_lies _ (by rfl) _ _ 60 (by rfl) wc.heap.size 63 i0 (.agg #[.int .i64 0, .string ⟨#[]⟩, .slice none 0 0, .slice none 0 0]) 4 72 Tryz.underlying60 hi0 hz0 hz1 hz2 (by rfl) (by decide) (.slice xi j ci) j xs (by rfl) (OW _) ⟨w4'.heap.size, 0, none⟩ 1 1 [.int .i64 K2, .string T2, .slice y2 N2 m2, .slice y3 N3 m3] (by rfl) (by rfl) (World.news_of_block (heap_alloc_new w4' _)) (fun u hu => all_one4 u hu) (by decide) (by unfold maxLen; omega) (by omega) (by rw [size_alloc]; omega) _ rfl ?_
          intro g cap w7 hown7 hgrow7 hat7 hlt7
          have S7 := SG _ _ hgrow7
          obtain ⟨z2, y2f⟩ := SZ _ _ hgrow7
          refine hK.out _ _ (SO _ (by first | assumption | exact Gn.alloc (by assumption) _ | exact Gn.cell (by assumption) _ _ (.inl hsb0) | exact Gn.call (by assumption) (by assumption))) (fun hHeld => ?_)
          clear hK K
          try simp only [Act.put, List.setIfInBounds_toArray, List.set_cons_zero, List.set_cons_succ]
          refine wpAnyH_take (i := 7) (oi := { dst := some 22, op := Op.fieldAddr 63 (Operand.tmp 5) 2, type := 0, pos := "oci.go:388", after := #[{ on := 0, ground := Ground.phase }, { on := 1, ground := Ground.phase }, { on := 2, ground := Ground.phase }, { on := 3, ground := Ground.phase }, { on := 4, ground := Ground.phase }, { on := 5, ground := Ground.phase }, { on := 6, ground := Ground.phase }], guard := none }) (v := ?_) rfl (by kernel_rfl) (by kernel_rfl) (by kernel_rfl) (fun _ _ _ h => h) (Or.inl ⟨by rfl, ?_⟩) (by assumption) ?_
          rotate_left
          · intro w hSw
            skip
            clear hSw
            go_simp
            try with_reducible rfl
          try simp only [Act.put, List.setIfInBounds_toArray, List.set_cons_zero, List.set_cons_succ]
          refine wpAnyH_ready (rs := [8]) (by kernel_rfl) (by simp) ?_
          refine (AllReadyH.cons (o := { dst := none, op := Op.store 60 (Operand.tmp 22) (Operand.tmp 21), type := 0, pos := "oci.go:388", after := #[{ on := 7, ground := Ground.data }, { on := 6, ground := Ground.data }, { on := 6, ground := Ground.chain }, { on := 0, ground := Ground.phase }, { on := 1, ground := Ground.phase }, { on := 2, ground := Ground.phase }, { on := 3, ground := Ground.phase }, { on := 4, ground := Ground.phase }, { on := 5, ground := Ground.phase }, { on := 6, ground := Ground.phase }], guard := none }) rfl (fun K hK => ?_) AllReadyH.nil)
          skip
          go_simp
          refine hK.out _ _ (SO _ (by first | assumption | exact Gn.alloc (by assumption) _ | exact Gn.cell (by assumption) _ _ (.inl hsb0) | exact Gn.call (by assumption) (by assumption))) (fun hHeld => ?_)
          clear hK K
          try simp only [Act.put, List.setIfInBounds_toArray, List.set_cons_zero, List.set_cons_succ]
          refine wpAnyH_done (by kernel_rfl) ?_ _
          refine NoPanic.normal ?_
          go_wp2_with (fail)
          go_roundg (l.length - (j + 1))
          case measure => rw [HN.out]; omega
          case rel =>
            refine ⟨j + 1, rfl, Lib.hid rfl, Lib.hid (by omega), Lib.hid ?_⟩
            rw [take_one HXV.out, List.map_append]
            exact row_round rfl hbcl HGR.out HRB.out HO.out HIT1.out (fun q hq => ⟨(HF1.out q hq).1, id, (HF1.out q hq).2.2⟩) HLN.out HC1.out hc4 hx4 hown7 hgrow7 (by rw [size_alloc] at hat7; exact hat7)
        · skip
          go_simp
          refine hK.out _ _ (SO _ (by first | assumption | exact Gn.alloc (by assumption) _ | exact Gn.cell (by assumption) _ _ (.inl hsb0) | exact Gn.call (by assumption) (by assumption))) (fun hHeld => ?_)
          clear hK K
          try simp only [Act.put, List.setIfInBounds_toArray, List.set_cons_zero, List.set_cons_succ]
          refine wpAnyH_ready (rs := [1]) (by kernel_rfl) (by simp) ?_
          refine (AllReadyH.cons (o := { dst := some 16, op := Op.load 60 (Operand.tmp 15), type := 60, pos := "oci.go:388", after := #[{ on := 0, ground := Ground.data }], guard := none }) rfl (fun K hK => ?_) AllReadyH.nil)
          skip
          go_simp
          refine hK.out _ _ (SO _ (by first | assumption | exact Gn.alloc (by assumption) _ | exact Gn.cell (by assumption) _ _ (.inl hsb0) | exact Gn.call (by assumption) (by assumption))) (fun hHeld => ?_)
          clear hK K
          try simp only [Act.put, List.setIfInBounds_toArray, List.set_cons_zero, List.set_cons_succ]
          refine wpAnyH_ready (rs := [6]) (by kernel_rfl) (by simp) ?_
          refine (AllReadyH.cons (o := { dst := some 21, op := Op.call { callee := Callee.builtin Builtin.append, args := #[Operand.tmp 16, Operand.tmp 20], argTypes := #[60, 60] }, type := 60, pos := "oci.go:388", after := #[{ on := 1, ground := Ground.data }, { on := 5, ground := Ground.data }, { on := 4, ground := Ground.chain }], guard := none }) rfl (fun K hK => ?_) AllReadyH.nil)
          refine step_append_lies _ (by rfl) _ _ 60 (by rfl) wc.heap.size 63 i0 (.agg #[.int .i64 0, .string ⟨#[]⟩, .slice none 0 0, .slice none 0 0]) 4 72 Tryz.underlying60 hi0 hz0 hz1 hz2 (by rfl) (by decide) (.slice xi j ci) j xs (by rfl) (OW _) ⟨w4'.heap.size, 0, none⟩ 1 1 [.int .i64 K2, .string T2, .slice y2 N2 m2, .slice y3 N3 m3] (by rfl) (by rfl) (World.news_of_block (heap_alloc_new w4' _)) (fun u hu => all_one4 u hu) (by decide) (by unfold maxLen; omega) (by omega) (by rw [size_alloc]; omega) _ rfl ?_
          intro g cap w7 hown7 hgrow7 hat7 hlt7
          have S7 := SG _ _ hgrow7
          obtain ⟨z2, y2f⟩ := SZ _ _ hgrow7
          refine hK.out _ _ (SO _ (by first | assumption | exact Gn.alloc (by assumption) _ | exact Gn.cell (by assumption) _ _ (.inl hsb0) | exact Gn.call (by assumption) (by assumption))) (fun hHeld => ?_)
          clear hK K
          try simp only [Act.put, List.setIfInBounds_toArray, List.set_cons_zero, List.set_cons_succ]
          refine wpAnyH_take (i := 7) (oi := { dst := some 22, op := Op.fieldAddr 63 (Operand.tmp 5) 2, type := 0, pos := "oci.go:388", after := #[{ on := 0, ground := Ground.phase }, { on := 1, ground := Ground.phase }, { on := 2, ground := Ground.phase }, { on := 3, ground := Ground.phase }, { on := 4, ground := Ground.phase }, { on := 5, ground := Ground.phase }, { on := 6, ground := Ground.phase }], guard := none }) (v := ?_) rfl (by kernel_rfl) (by kernel_rfl) (by kernel_rfl) (fun _ _ _ h => h) (Or.inl ⟨by rfl, ?_⟩) (by assumption) ?_
          rotate_left
          · intro w hSw
            skip
            clear hSw
            go_simp
            try with_reducible rfl
          try simp only [Act.put, List.setIfInBounds_toArray, List.set_cons_zero, List.set_cons_succ]
          refine wpAnyH_ready (rs := [8]) (by kernel_rfl) (by simp) ?_
          refine (AllReadyH.cons (o := { dst := none, op := Op.store 60 (Operand.tmp 22) (Operand.tmp 21), type := 0, pos := "oci.go:388", after := #[{ on := 7, ground := Ground.data }, { on := 6, ground := Ground.data }, { on := 6, ground := Ground.chain }, { on := 0, ground := Ground.phase }, { on := 1, ground := Ground.phase }, { on := 2, ground := Ground.phase }, { on := 3, ground := Ground.phase }, { on := 4, ground := Ground.phase }, { on := 5, ground := Ground.phase }, { on := 6, ground := Ground.phase }], guard := none }) rfl (fun K hK => ?_) AllReadyH.nil)
          skip
          go_simp
          refine hK.out _ _ (SO _ (by first | assumption | exact Gn.alloc (by assumption) _ | exact Gn.cell (by assumption) _ _ (.inl hsb0) | exact Gn.call (by assumption) (by assumption))) (fun hHeld => ?_)
          clear hK K
          try simp only [Act.put, List.setIfInBounds_toArray, List.set_cons_zero, List.set_cons_succ]
          refine wpAnyH_done (by kernel_rfl) ?_ _
          refine NoPanic.normal ?_
          go_wp2_with (fail)
          go_roundg (l.length - (j + 1))
          case measure => rw [HN.out]; omega
          case rel =>
            refine ⟨j + 1, rfl, Lib.hid rfl, Lib.hid (by omega), Lib.hid ?_⟩
            rw [take_one HXV.out, List.map_append]
            exact row_round rfl hbcl HGR.out HRB.out HO.out HIT1.out (fun q hq => ⟨(HF1.out q hq).1, id, (HF1.out q hq).2.2⟩) HLN.out HC1.out hc4 hx4 hown7 hgrow7 (by rw [size_alloc] at hat7; exact hat7)
    · have hj1 : ¬ (j : Int) < (l.length : Int) := by omega
      obtain ⟨I, hGr, hRb, hRJ⟩ := HM.out
      have hln : l.take j = l := List.take_of_length_le (by omega)
      rw [hln] at hRJ
      have hJ := hRJ.holds
      obtain ⟨⟨xs, F, ho, _, _⟩, _⟩ := hRJ
      obtain ⟨xi, ci, rfl⟩ := owns_form ho
      have sB := HBX.out.size
      have sG := hGr.size
      have hbcl := HBC.out
      have hwb : Below w.heap.size w wr := HBX.out.trans (hGr.below (by omega) (fun q hq e => by omega))
      have hzr := hGr.rowC HZX.out (by omega)
      rw [List.length_map] at hRb hJ
      have HJ := Lib.hid hJ
      have HRB := Lib.hid hRb
      have HWB := Lib.hid hwb
      have HZR := Lib.hid hzr
      clear hGr hRb hJ ho hwb hzr HM hj
      go_wp2_with (first
        | ((with_reducible show wpList _ _ _ (⟨some 24, .load _ _, _, _, _, _⟩ :: _) _ _); refine wpList_load_row rfl 63 _ rfl (w.heap.size + 1) rfl 63 (row4 5 ⟨#[]⟩ xi l.length ci none 0 0) (0, 0) _ HRB.out Tryz.underlying63 rfl HI.out ?_)
        | ((with_reducible show wpList _ _ _ (⟨none, .store _ (.tmp 4) _, _, _, _, _⟩ :: _) _ _); refine wpList_store_row rfl 63 _ _ rfl w.heap.size (row4 5 ⟨#[]⟩ xi l.length ci none 0 0) rfl rfl 63 zeroV4 HZR.out HI.out rfl (row4_all _ _ _ _ _ _ _ _) ?_))
      refine bodyPost_ret (results_cell_row rfl _ _ w.heap.size 63 (row4 5 ⟨#[]⟩ xi l.length ci none 0 0) (0, 0) _ rfl (rowC_setRow HZR.out _) Tryz.underlying63 rfl HI.out) rfl ?_
      exact lst_putP HWB.out (Nat.le_refl _) (by rw [List.length_map]) HJ.out (by omega)
end Go.Proofs.YtnkencdibniagaaGreatDoor

/- Layer 13: a list of digests, put. -/
namespace Go.Proofs.YtnkencdibniagaaGreatDoor
open Go.RowKit

def digJ (D : Bs) : JV := txtJ (textL D)
theorem enter_putdig (args : Array Value) (w : World) : (callFunc 62 args).run Tryz.prog w = .ok (.enter 62 args) w := by kernel_rfl
theorem digs_at {w : World} {F : Nat → Prop} {l : List Bs} {x : Option Addr} {n c : Nat} (h : eDigs.at_ w F l (.slice x n c)) {i : Nat} {d : Bs} (hi : l[i]? = some d) : d.length = 32 ∧ ∃ ad, x = some ad ∧ F ad.block ∧ ∀ j u, ((cells8 d).toList)[j]? = some u → w.cell? ((ad.add (i * 32)).add j) = some u := by
  rcases h with ⟨_, h2⟩ | ⟨ad, cap, h1, h2⟩
  · subst h2; simp at hi
  · cases h1
    obtain ⟨h3, h4, h5⟩ := h2 i d hi
    refine ⟨h4, ad, rfl, h3, fun j u hj => ?_⟩
    have := h5 j u hj
    rw [add_add, show i * 32 + j = 32 * i + j by omega]
    exact this
set_option maxRecDepth 100000 in
set_option maxHeartbeats 16000000 in
theorem lsput_dig (l : List Bs) (x : Option Addr) (cc : Nat) (w : World) (hE : Env2 w) (hl : l.length ≤ 65536) (hL : eDigs.at_ w (fun k => k < w.heap.size) l (.slice x l.length cc)) :
    Calls Tryz.prog 61 #[.slice x l.length cc, .func (.func 62) #[] #[]] w fun e w' => PutP w (lstJ (l.map digJ)) e w' := by
  have hEn := enter_putdig
  have HI := Lib.hid info_V
  obtain ⟨i0, hi0, hz0, hz1, hz2⟩ := info_parts info_V3
  obtain ⟨wc, hwc⟩ : ∃ wc, wc = (w.alloc (.cells #[.int .i64 0, .string ⟨#[]⟩, .slice none 0 0, .slice none 0 0] 63)).alloc (.cells (row4 5 ⟨#[]⟩ none 0 0 none 0 0) 63) := ⟨_, rfl⟩
  have s1 := size_alloc w (.cells #[.int .i64 0, .string ⟨#[]⟩, .slice none 0 0, .slice none 0 0] 63)
  have Z1 : rowC wc w.heap.size zeroV4 63 := by rw [hwc]; exact rowC_alloc (rowC_new w _ _) _
  have R1 : rowC wc (w.heap.size + 1) (row4 5 ⟨#[]⟩ none 0 0 none 0 0) 63 := by rw [hwc, ← s1]; exact rowC_new _ _ _
  have B1 : Below w.heap.size w wc := by rw [hwc]; exact ((Below.refl _ _).alloc (Nat.le_refl _) _).alloc (by omega) _
  have S1 : wc.heap.size = w.heap.size + 2 := by rw [hwc, size_alloc, s1]
  have HWC := Lib.hid hwc
  have HZX := Lib.hid Z1
  have HCX := Lib.hid R1
  have HBX := Lib.hid B1
  have HL := Lib.hid hL
  have HE := Lib.hid hE
  have HID := Lib.hid (fun (d : Bs) (h : d.length = 32) => show (Tryz.prog.info? 24).map (·.size) = some (cells8 d).size from info_Gc d h)
  have HSZ := Lib.hid (fun (d : Bs) (h : d.length = 32) => show (cells8 zero32).size = (cells8 d).size by rw [cells8_size, cells8_size, h]; rfl)
  clear hwc Z1 R1 B1 hL hE
  go_enter Tryz.func61, Tryz.ntmps61
  go_upto_region 2 with (first
    | ((with_reducible show wpList _ _ _ (⟨some 8, .build _ _, _, _, _, _⟩ :: _) _ _); refine wpList_build_as rfl 63 _ rfl (row4 5 ⟨#[]⟩ none 0 0 none 0 0) (by kernel_rfl) ?_)
    | ((with_reducible show wpList _ _ _ (⟨none, .store _ (.tmp 5) _, _, _, _, _⟩ :: _) _ _); refine wpList_store_last rfl 63 _ _ rfl (w.heap.size + 1) (row4 5 ⟨#[]⟩ none 0 0 none 0 0) rfl rfl 63 zeroV4 (by rw [size_alloc]) HI.out rfl (row4_all _ _ _ _ _ _ _ _) ?_))
  rw [← HWC.out]
  have HBC := Lib.hid (show (w.heap.size + 1) < wc.heap.size by omega)
  go_wp2
  go_loopg [11] l.length (fun gk s11 wr => ∃ j : Nat, s11 = .int .i64 (j : Int) ∧ Hid (gk = l.length - j) ∧ Hid (j ≤ l.length) ∧ Hid (GrB wc (w.heap.size + 1) wc.heap.size 5 ⟨#[]⟩ (.slice none 0 0) ((l.take j).map digJ) wr))
  case atStart => exact ⟨0, rfl, Lib.hid rfl, Lib.hid (Nat.zero_le _), Lib.hid ⟨.slice none 0 0, Chg.refl _ _, HCX.out, RowJ.nil _ _ _⟩⟩
  case round =>
    obtain ⟨j, rfl, HN, HNL, HM⟩ := hrel
    by_cases hj : j < l.length
    · have hj1 : (j : Int) < (l.length : Int) := by omega
      obtain ⟨d, hd⟩ : ∃ d, l[j]? = some d := ⟨_, List.getElem?_eq_getElem hj⟩
      obtain ⟨gd, ad, rfl, hab, hcs⟩ := digs_at HL.out hd
      obtain ⟨I, hGr, hRb, hRJ⟩ := HM.out
      obtain ⟨⟨xs, F, ho, hIt, hF⟩, _⟩ := hRJ
      obtain ⟨xi, ci, rfl⟩ := owns_form ho
      have hln : ((l.take j).map digJ).length = j := by rw [List.length_map, List.length_take]; omega
      rw [hln] at ho hF hRb
      have sB := HBX.out.size
      have sG := hGr.size
      have hbcl := HBC.out
      have hwb : Below w.heap.size w wr := HBX.out.trans (hGr.below (by omega) (fun q hq e => by omega))
      have HCS := Lib.hid (show ∀ i u, ((cells8 d).toList)[i]? = some u → wr.cell? ((ad.add (j * 32)).add i) = some u from fun i u hu => by
        rw [World.cell?_of_block (w := w) (w' := wr) (hwb.block _ (by rw [add_block, add_block]; exact hab))]
        exact hcs i u hu)
      obtain ⟨W1, hW1⟩ : ∃ W1, W1 = wr.alloc (.cells (cells8 d) 24) := ⟨_, rfl⟩
      have s1 : W1.heap.size = wr.heap.size + 1 := by rw [hW1]; exact size_alloc _ _
      have R1 : rowC W1 wr.heap.size (cells8 d) 24 := by rw [hW1]; exact rowC_new _ _ _
      have c1 : Chg (fun _ => False) wr W1 := by rw [hW1]; exact (Chg.refl _ _).alloc _
      have RB1 := c1.rowC hRb id
      obtain ⟨SB, hSB⟩ : ∃ SB : Nat → Prop, SB = fun q => q = (w.heap.size + 1) ∨ (Value.slice xi j ci).ownBlock = some q := ⟨_, rfl⟩
      have hb1 : ¬ SB wr.heap.size := by
        rw [hSB]
        rintro (e | e)
        · omega
        · have := (ho.lt _ e).2; omega
      have hsb0 : SB (w.heap.size + 1) := by rw [hSB]; exact .inl rfl
      have hsb1 : ∀ k, (Value.slice xi j ci).ownBlock = some k → SB k := fun k hk => by rw [hSB]; exact .inr hk
      clear hSB
      obtain ⟨X, hX⟩ : ∃ X, X = (cells8 d).toList := ⟨_, rfl⟩
      have hXa : X.toArray = cells8 d := by rw [hX]
      obtain ⟨K2, hK2⟩ : ∃ K2, K2 = (digJ d).kind := ⟨_, rfl⟩
      obtain ⟨T2, hT2⟩ : ∃ T2, T2 = str (digJ d).text := ⟨_, rfl⟩
      obtain ⟨N2, hN2⟩ : ∃ N2, N2 = (digJ d).items.length := ⟨_, rfl⟩
      obtain ⟨N3, hN3⟩ : ∃ N3, N3 = (digJ d).keys.length := ⟨_, rfl⟩
      have C4 : ∀ w', Gn W1 SB w' → Chg (fun _ => False) W1 w' → Calls Tryz.prog 62 #[.agg X.toArray] w' fun e w2 => ∃ y2 m2 y3 m3, e = .returned (.agg #[.int .i64 K2, .string T2, .slice y2 N2 m2, .slice y3 N3 m3]) ∧ HoldsC w2 (fun k => W1.heap.size ≤ k ∧ k < w2.heap.size) (digJ d) (.int .i64 K2) (.string T2) (.slice y2 N2 m2) (.slice y3 N3 m3) ∧ Chg (fun _ => False) W1 w2 ∧ Gn W1 SB w2 := fun w' hg hc => by
        rw [hXa, hK2, hT2, hN2, hN3]
        refine (digest_put d gd w').mono ?_
        rintro e w2 ⟨rfl, hb⟩
        have hV : HoldsC w2 (fun k => w'.heap.size ≤ k ∧ k < w2.heap.size) (digJ d) (.int .i64 (digJ d).kind) (.string (str (digJ d).text)) (.slice none (digJ d).items.length 0) (.slice none (digJ d).keys.length 0) := leaf_holds _ _ _ _ (by rw [textL_length, gd]; omega)
        exact ⟨none, 0, none, 0, rfl, HoldsC.mono (fun k hk hlt => ⟨Nat.le_trans hc.size hk.1, hlt⟩) _ _ _ _ _ hV, hc.trans (Chg.of_below hb) (fun _ _ h => h), Gn.call hg hb⟩
      have iD : (Tryz.prog.info? 24).map (·.size) = some X.length := by
        rw [hX, Array.length_toList]
        exact info_Gc d gd
      have OS : ∀ w', Gn W1 SB w' → w'.rangeAt wr.heap.size 0 X ∧ True := fun w' h => ⟨by rw [hX]; exact rowC_range (h.row R1 hb1) 0 _ (fun q u hq => by rw [Nat.zero_add, ← Array.getElem?_toList]; exact hq), trivial⟩
      have HGD := Lib.hid gd
      have HGR := Lib.hid hGr
      have HRB := Lib.hid hRb
      have HO := Lib.hid ho
      have HIT1 := Lib.hid hIt
      have HF1 := Lib.hid hF
      have HLN := Lib.hid hln
      have HXV := Lib.hid hd
      have HRB1 := Lib.hid RB1
      have HC1 := Lib.hid c1
      have HW1 := Lib.hid hW1
      have HEL := Lib.hid (show cells8 d = ((cells8 d).toList).toArray by simp)
      have HIL := Lib.hid (show (Tryz.prog.info? 24).map (·.size) = some ((cells8 d).toList).length by rw [Array.length_toList]; exact info_Gc d gd)
      have hjm : j ≤ 65536 := by omega
      clear hcs gd hGr hRb ho hIt hF hln hd R1 RB1 hW1 hwb HM hj hX hXa hK2 hT2 hN2 hN3
      go_upto_region 5 with (first
        | ((with_reducible show wpList _ _ _ (⟨some 14, .load _ _, _, _, _, _⟩ :: _) _ _); refine wpList_load_at rfl 24 _ rfl (ad.add (j * 32)) rfl ((cells8 d).toList) _ HCS.out Tryz.underlying24 rfl HIL.out ?_)
        | ((with_reducible show wpList _ _ _ (⟨none, .store _ (.tmp 7) _, _, _, _, _⟩ :: _) _ _); refine wpList_store_last rfl 24 _ _ rfl wr.heap.size (cells8 d) rfl rfl 24 (cells8 zero32) rfl (HID.out d HGD.out) (HSZ.out d HGD.out) (cells8_one _) ?_))
      rw [← HW1.out]
      have SO : ∀ w', Gn W1 SB w' → Gn W1 SB w' := fun _ h => h
      have uD := Tryz.underlying24
      refine wp_region_noPanic ?_
      refine wp_region_held_drew (S := Gn W1 SB) (by kernel_rfl) (Gn.start _ _) (fun hHeld => ?_)
      have HCD : Hid (Chg (fun _ => False) W1 W1.drew) := Lib.hid (Chg.refl _ _).drew
      have L1 : W1.drew.cell? ⟨(w.heap.size + 1), 2, none⟩ = some (.slice xi j ci) := rowC_cell (rowC_drew HRB1.out) 2
      generalize W1.drew = wd at *
      refine wpAnyH_take (i := 0) (oi := { dst := some 15, op := Op.fieldAddr 63 (Operand.tmp 5) 2, type := 0, pos := "oci.go:388", after := #[], guard := none }) (v := ?_) rfl (by kernel_rfl) (by kernel_rfl) (by kernel_rfl) (fun _ _ _ h => h) (Or.inl ⟨by rfl, ?_⟩) (by assumption) ?_
      rotate_left
      · intro w hSw
        skip
        clear hSw
        go_simp
        try with_reducible rfl
      try simp only [Act.put, List.setIfInBounds_toArray, List.set_cons_zero, List.set_cons_succ]
      refine wpAnyH_take (i := 2) (oi := { dst := some 17, op := Op.move (Operand.tmp 1), type := 112, pos := "oci.go:388", after := #[], guard := none }) (v := ?_) rfl (by kernel_rfl) (by kernel_rfl) (by kernel_rfl) (fun _ _ _ h => h) (Or.inl ⟨by rfl, ?_⟩) (by assumption) ?_
      rotate_left
      · intro w hSw
        skip
        clear hSw
        go_simp
        try with_reducible rfl
      try simp only [Act.put, List.setIfInBounds_toArray, List.set_cons_zero, List.set_cons_succ]
      refine wpAnyH_take (i := 3) (oi := { dst := some 18, op := Op.load 24 (Operand.tmp 7), type := 24, pos := "oci.go:388", after := #[], guard := none }) (v := _) rfl (by kernel_rfl) (by kernel_rfl) (by kernel_rfl) (fun _ _ _ h => h) (yieldsIf_load_mid (by rfl) _ _ rfl _ _ rfl _ _ (by intro w hSw; have hSw := OS _ hSw; go_split_ands; assumption) (by assumption) rfl (by assumption)) (by assumption) ?_
      try simp only [Act.put, List.setIfInBounds_toArray, List.set_cons_zero, List.set_cons_succ]
      refine wpAnyH_ready (rs := [1, 4]) (by kernel_rfl) (by simp) ?_
      refine (AllReadyH.cons (o := { dst := some 16, op := Op.load 60 (Operand.tmp 15), type := 60, pos := "oci.go:388", after := #[{ on := 0, ground := Ground.data }], guard := none }) rfl (fun K hK => ?_) (AllReadyH.cons (o := { dst := some 19, op := Op.call { callee := Callee.value (Operand.tmp 17), args := #[Operand.tmp 18], argTypes := #[24] }, type := 63, pos := "oci.go:388", after := #[{ on := 2, ground := Ground.data }, { on := 3, ground := Ground.data }], guard := none }) rfl (fun K hK => ?_) AllReadyH.nil))
      · skip
        go_simp
        refine hK.out _ _ (SO _ (by first | assumption | exact Gn.alloc (by assumption) _ | exact Gn.cell (by assumption) _ _ (.inl hsb0) | exact Gn.call (by assumption) (by assumption))) (fun hHeld => ?_)
        clear hK K
        try simp only [Act.put, List.setIfInBounds_toArray, List.set_cons_zero, List.set_cons_succ]
        refine wpAnyH_ready (rs := [4]) (by kernel_rfl) (by simp) ?_
        refine (AllReadyH.cons (o := { dst := some 19, op := Op.call { callee := Callee.value (Operand.tmp 17), args := #[Operand.tmp 18], argTypes := #[24] }, type := 63, pos := "oci.go:388", after := #[{ on := 2, ground := Ground.data }, { on := 3, ground := Ground.data }], guard := none }) rfl (fun K hK => ?_) AllReadyH.nil)
        go_simp
        with_reducible refine (C4 _ hHeld HCD.out).mono ?_
        rintro e w4' ⟨y2, m2, y3, m3, rfl, hx4, hc4, m4'⟩
        have s4 := hc4.size
        have L2 : w4'.cell? ⟨(w.heap.size + 1), 2, none⟩ = some (.slice xi j ci) := rowC_cell (hc4.rowC HRB1.out id) 2
        have L3 : ∀ o, (w4'.alloc o).cell? ⟨(w.heap.size + 1), 2, none⟩ = some (.slice xi j ci) := fun o => rowC_cell ((hc4.alloc o).rowC HRB1.out id) 2
        have OW : ∀ o, (w4'.alloc o).ownsRow wc.heap.size 63 4 (.slice xi j ci) j xs := fun o => ((HC1.out.trans hc4 (fun _ _ h => h)).alloc o).owns HO.out (fun _ _ h => h)
        have SG : ∀ o w7, (w4'.alloc o).grownBy w7 (Value.slice xi j ci).ownBlock → Gn W1 SB w7 := fun o w7 hg => grown_bc m4' hsb1 hg
        have SZ : ∀ o w7, (w4'.alloc o).grownBy w7 (Value.slice xi j ci).ownBlock → w7.cell? ⟨(w.heap.size + 1), 2, none⟩ = some (.slice xi j ci) ∧ w7.frozen? ⟨(w.heap.size + 1), 2, none⟩ = false := fun o w7 hg => grown_at HO.out (by omega) ((hc4.alloc o).rowC HRB1.out id) hg
        refine hK.out _ _ (SO _ (by assumption)) (fun hHeld => ?_)
        clear hK K
        try simp only [Act.put, List.setIfInBounds_toArray, List.set_cons_zero, List.set_cons_succ]
        refine wpAnyH_ready (rs := [5]) (by kernel_rfl) (by simp) ?_
        refine (AllReadyH.cons (o := { dst := some 20, op := Op.buildSlice 60 1 #[(0, Operand.tmp 19)], type := 60, pos := "oci.go:388", after := #[{ on := 4, ground := Ground.data }], guard := none }) rfl (fun K hK => ?_) AllReadyH.nil)
        skip
        go_simp
        refine hK.out _ _ (SO _ (by first | assumption | exact Gn.alloc (by assumption) _ | exact Gn.cell (by assumption) _ _ (.inl hsb0) | exact Gn.call (by assumption) (by assumption))) (fun hHeld => ?_)
        clear hK K
        try simp only [Act.put, List.setIfInBounds_toArray, List.set_cons_zero, List.set_cons_succ]
        refine wpAnyH_ready (rs := [6]) (by kernel_rfl) (by simp) ?_
        refine (AllReadyH.cons (o := { dst := some 21, op := Op.call { callee := Callee.builtin Builtin.append, args := #[Operand.tmp 16, Operand.tmp 20], argTypes := #[60, 60] }, type := 60, pos := "oci.go:388", after := #[{ on := 1, ground := Ground.data }, { on := 5, ground := Ground.data }, { on := 4, ground := Ground.chain }], guard := none }) rfl (fun K hK => ?_) AllReadyH.nil)
        refine step_append_lies _ (by rfl) _ _ 60 (by rfl) wc.heap.size 63 i0 (.agg #[.int .i64 0, .string ⟨#[]⟩, .slice none 0 0, .slice none 0 0]) 4 72 Tryz.underlying60 hi0 hz0 hz1 hz2 (by rfl) (by decide) (.slice xi j ci) j xs (by rfl) (OW _) ⟨w4'.heap.size, 0, none⟩ 1 1 [.int .i64 K2, .string T2, .slice y2 N2 m2, .slice y3 N3 m3] (by rfl) (by rfl) (World.news_of_block (heap_alloc_new w4' _)) (fun u hu => all_one4 u hu) (by decide) (by unfold maxLen; omega) (by omega) (by rw [size_alloc]; omega) _ rfl ?_
        intro g cap w7 hown7 hgrow7 hat7 hlt7
        have S7 := SG _ _ hgrow7
        obtain ⟨z2, y2f⟩ := SZ _ _ hgrow7
        refine hK.out _ _ (SO _ (by first | assumption | exact Gn.alloc (by assumption) _ | exact Gn.cell (by assumption) _ _ (.inl hsb0) | exact Gn.call (by assumption) (by assumption))) (fun hHeld => ?_)
        clear hK K
        try simp only [Act.put, List.setIfInBounds_toArray, List.set_cons_zero, List.set_cons_succ]
        refine wpAnyH_take (i := 7) (oi := { dst := some 22, op := Op.fieldAddr 63 (Operand.tmp 5) 2, type := 0, pos := "oci.go:388", after := #[{ on := 0, ground := Ground.phase }, { on := 1, ground := Ground.phase }, { on := 2, ground := Ground.phase }, { on := 3, ground := Ground.phase }, { on := 4, ground := Ground.phase }, { on := 5, ground := Ground.phase }, { on := 6, ground := Ground.phase }], guard := none }) (v := ?_) rfl (by kernel_rfl) (by kernel_rfl) (by kernel_rfl) (fun _ _ _ h => h) (Or.inl ⟨by rfl, ?_⟩) (by assumption) ?_
        rotate_left
        · intro w hSw
          skip
          clear hSw
          go_simp
          try with_reducible rfl
        try simp only [Act.put, List.setIfInBounds_toArray, List.set_cons_zero, List.set_cons_succ]
        refine wpAnyH_ready (rs := [8]) (by kernel_rfl) (by simp) ?_
        refine (AllReadyH.cons (o := { dst := none, op := Op.store 60 (Operand.tmp 22) (Operand.tmp 21), type := 0, pos := "oci.go:388", after := #[{ on := 7, ground := Ground.data }, { on := 6, ground := Ground.data }, { on := 6, ground := Ground.chain }, { on := 0, ground := Ground.phase }, { on := 1, ground := Ground.phase }, { on := 2, ground := Ground.phase }, { on := 3, ground := Ground.phase }, { on := 4, ground := Ground.phase }, { on := 5, ground := Ground.phase }, { on := 6, ground := Ground.phase }], guard := none }) rfl (fun K hK => ?_) AllReadyH.nil)
        skip
        go_simp
        refine hK.out _ _ (SO _ (by first | assumption | exact Gn.alloc (by assumption) _ | exact Gn.cell (by assumption) _ _ (.inl hsb0) | exact Gn.call (by assumption) (by assumption))) (fun hHeld => ?_)
        clear hK K
        try simp only [Act.put, List.setIfInBounds_toArray, List.set_cons_zero, List.set_cons_succ]
        refine wpAnyH_done (by kernel_rfl) ?_ _
        refine NoPanic.normal ?_
        go_wp2_with (fail)
        go_roundg (l.length - (j + 1))
        case measure => rw [HN.out]; omega
        case rel =>
          refine ⟨j + 1, rfl, Lib.hid rfl, Lib.hid (by omega), Lib.hid ?_⟩
          rw [take_one HXV.out, List.map_append]
          exact row_round rfl hbcl HGR.out HRB.out HO.out HIT1.out (fun q hq => ⟨(HF1.out q hq).1, id, (HF1.out q hq).2.2⟩) HLN.out HC1.out hc4 hx4 hown7 hgrow7 (by rw [size_alloc] at hat7; exact hat7)
      · go_simp
        with_reducible refine (C4 _ hHeld HCD.out).mono ?_
        rintro e w4' ⟨y2, m2, y3, m3, rfl, hx4, hc4, m4'⟩
        have s4 := hc4.size
        have L2 : w4'.cell? ⟨(w.heap.size + 1), 2, none⟩ = some (.slice xi j ci) := rowC_cell (hc4.rowC HRB1.out id) 2
        have L3 : ∀ o, (w4'.alloc o).cell? ⟨(w.heap.size + 1), 2, none⟩ = some (.slice xi j ci) := fun o => rowC_cell ((hc4.alloc o).rowC HRB1.out id) 2
        have OW : ∀ o, (w4'.alloc o).ownsRow wc.heap.size 63 4 (.slice xi j ci) j xs := fun o => ((HC1.out.trans hc4 (fun _ _ h => h)).alloc o).owns HO.out (fun _ _ h => h)
        have SG : ∀ o w7, (w4'.alloc o).grownBy w7 (Value.slice xi j ci).ownBlock → Gn W1 SB w7 := fun o w7 hg => grown_bc m4' hsb1 hg
        have SZ : ∀ o w7, (w4'.alloc o).grownBy w7 (Value.slice xi j ci).ownBlock → w7.cell? ⟨(w.heap.size + 1), 2, none⟩ = some (.slice xi j ci) ∧ w7.frozen? ⟨(w.heap.size + 1), 2, none⟩ = false := fun o w7 hg => grown_at HO.out (by omega) ((hc4.alloc o).rowC HRB1.out id) hg
        refine hK.out _ _ (SO _ (by assumption)) (fun hHeld => ?_)
        clear hK K
        try simp only [Act.put, List.setIfInBounds_toArray, List.set_cons_zero, List.set_cons_succ]
        refine wpAnyH_ready (rs := [1, 5]) (by kernel_rfl) (by simp) ?_
        refine (AllReadyH.cons (o := { dst := some 16, op := Op.load 60 (Operand.tmp 15), type := 60, pos := "oci.go:388", after := #[{ on := 0, ground := Ground.data }], guard := none }) rfl (fun K hK => ?_) (AllReadyH.cons (o := { dst := some 20, op := Op.buildSlice 60 1 #[(0, Operand.tmp 19)], type := 60, pos := "oci.go:388", after := #[{ on := 4, ground := Ground.data }], guard := none }) rfl (fun K hK => ?_) AllReadyH.nil))
        · skip
          go_simp
          refine hK.out _ _ (SO _ (by first | assumption | exact Gn.alloc (by assumption) _ | exact Gn.cell (by assumption) _ _ (.inl hsb0) | exact Gn.call (by assumption) (by assumption))) (fun hHeld => ?_)
          clear hK K
          try simp only [Act.put, List.setIfInBounds_toArray, List.set_cons_zero, List.set_cons_succ]
          refine wpAnyH_ready (rs := [5]) (by kernel_rfl) (by simp) ?_
          refine (AllReadyH.cons (o := { dst := some 20, op := Op.buildSlice 60 1 #[(0, Operand.tmp 19)], type := 60, pos := "oci.go:388", after := #[{ on := 4, ground := Ground.data }], guard := none }) rfl (fun K hK => ?_) AllReadyH.nil)
          skip
          go_simp
          refine hK.out _ _ (SO _ (by first | assumption | exact Gn.alloc (by assumption) _ | exact Gn.cell (by assumption) _ _ (.inl hsb0) | exact Gn.call (by assumption) (by assumption))) (fun hHeld => ?_)
          clear hK K
          try simp only [Act.put, List.setIfInBounds_toArray, List.set_cons_zero, List.set_cons_succ]
          refine wpAnyH_ready (rs := [6]) (by kernel_rfl) (by simp) ?_
          refine (AllReadyH.cons (o := { dst := some 21, op := Op.call { callee := Callee.builtin Builtin.append, args := #[Operand.tmp 16, Operand.tmp 20], argTypes := #[60, 60] }, type := 60, pos := "oci.go:388", after := #[{ on := 1, ground := Ground.data }, { on := 5, ground := Ground.data }, { on := 4, ground := Ground.chain }], guard := none }) rfl (fun K hK => ?_) AllReadyH.nil)
          refine step_append_lies _ (by rfl) _ _ 60 (by rfl) wc.heap.size 63 i0 (.agg #[.int .i64 0, .string ⟨#[]⟩, .slice none 0 0, .slice none 0 0]) 4 72 Tryz.underlying60 hi0 hz0 hz1 hz2 (by rfl) (by decide) (.slice xi j ci) j xs (by rfl) (OW _) ⟨w4'.heap.size, 0, none⟩ 1 1 [.int .i64 K2, .string T2, .slice y2 N2 m2, .slice y3 N3 m3] (by rfl) (by rfl) (World.news_of_block (heap_alloc_new w4' _)) (fun u hu => all_one4 u hu) (by decide) (by unfold maxLen; omega) (by omega) (by rw [size_alloc]; omega) _ rfl ?_
          intro g cap w7 hown7 hgrow7 hat7 hlt7
          have S7 := SG _ _ hgrow7
          obtain ⟨z2, y2f⟩ := SZ _ _ hgrow7
          refine hK.out _ _ (SO _ (by first | assumption | exact Gn.alloc (by assumption) _ | exact Gn.cell (by assumption) _ _ (.inl hsb0) | exact Gn.call (by assumption) (by assumption))) (fun hHeld => ?_)
          clear hK K
          try simp only [Act.put, List.setIfInBounds_toArray, List.set_cons_zero, List.set_cons_succ]
          refine wpAnyH_take (i := 7) (oi := { dst := some 22, op := Op.fieldAddr 63 (Operand.tmp 5) 2, type := 0, pos := "oci.go:388", after := #[{ on := 0, ground := Ground.phase }, { on := 1, ground := Ground.phase }, { on := 2, ground := Ground.phase }, { on := 3, ground := Ground.phase }, { on := 4, ground := Ground.phase }, { on := 5, ground := Ground.phase }, { on := 6, ground := Ground.phase }], guard := none }) (v := ?_) rfl (by kernel_rfl) (by kernel_rfl) (by kernel_rfl) (fun _ _ _ h => h) (Or.inl ⟨by rfl, ?_⟩) (by assumption) ?_
          rotate_left
          · intro w hSw
            skip
            clear hSw
            go_simp
            try with_reducible rfl
          try simp only [Act.put, List.setIfInBounds_toArray, List.set_cons_zero, List.set_cons_succ]
          refine wpAnyH_ready (rs := [8]) (by kernel_rfl) (by simp) ?_
          refine (AllReadyH.cons (o := { dst := none, op := Op.store 60 (Operand.tmp 22) (Operand.tmp 21), type := 0, pos := "oci.go:388", after := #[{ on := 7, ground := Ground.data }, { on := 6, ground := Ground.data }, { on := 6, ground := Ground.chain }, { on := 0, ground := Ground.phase }, { on := 1, ground := Ground.phase }, { on := 2, ground := Ground.phase }, { on := 3, ground := Ground.phase }, { on := 4, ground := Ground.phase }, { on := 5, ground := Ground.phase }, { on := 6, ground := Ground.phase }], guard := none }) rfl (fun K hK => ?_) AllReadyH.nil)
          skip
          go_simp
          refine hK.out _ _ (SO _ (by first | assumption | exact Gn.alloc (by assumption) _ | exact Gn.cell (by assumption) _ _ (.inl hsb0) | exact Gn.call (by assumption) (by assumption))) (fun hHeld => ?_)
          clear hK K
          try simp only [Act.put, List.setIfInBounds_toArray, List.set_cons_zero, List.set_cons_succ]
          refine wpAnyH_done (by kernel_rfl) ?_ _
          refine NoPanic.normal ?_
          go_wp2_with (fail)
          go_roundg (l.length - (j + 1))
          case measure => rw [HN.out]; omega
          case rel =>
            refine ⟨j + 1, rfl, Lib.hid rfl, Lib.hid (by omega), Lib.hid ?_⟩
            rw [take_one HXV.out, List.map_append]
            exact row_round rfl hbcl HGR.out HRB.out HO.out HIT1.out (fun q hq => ⟨(HF1.out q hq).1, id, (HF1.out q hq).2.2⟩) HLN.out HC1.out hc4 hx4 hown7 hgrow7 (by rw [size_alloc] at hat7; exact hat7)
        · skip
          go_simp
          refine hK.out _ _ (SO _ (by first | assumption | exact Gn.alloc (by assumption) _ | exact Gn.cell (by assumption) _ _ (.inl hsb0) | exact Gn.call (by assumption) (by assumption))) (fun hHeld => ?_)
          clear hK K
          try simp only [Act.put, List.setIfInBounds_toArray, List.set_cons_zero, List.set_cons_succ]
          refine wpAnyH_ready (rs := [1]) (by kernel_rfl) (by simp) ?_
          refine (AllReadyH.cons (o := { dst := some 16, op := Op.load 60 (Operand.tmp 15), type := 60, pos := "oci.go:388", after := #[{ on := 0, ground := Ground.data }], guard := none }) rfl (fun K hK => ?_) AllReadyH.nil)
          skip
          go_simp
          refine hK.out _ _ (SO _ (by first | assumption | exact Gn.alloc (by assumption) _ | exact Gn.cell (by assumption) _ _ (.inl hsb0) | exact Gn.call (by assumption) (by assumption))) (fun hHeld => ?_)
          clear hK K
          try simp only [Act.put, List.setIfInBounds_toArray, List.set_cons_zero, List.set_cons_succ]
          refine wpAnyH_ready (rs := [6]) (by kernel_rfl) (by simp) ?_
          refine (AllReadyH.cons (o := { dst := some 21, op := Op.call { callee := Callee.builtin Builtin.append, args := #[Operand.tmp 16, Operand.tmp 20], argTypes := #[60, 60] }, type := 60, pos := "oci.go:388", after := #[{ on := 1, ground := Ground.data }, { on := 5, ground := Ground.data }, { on := 4, ground := Ground.chain }], guard := none }) rfl (fun K hK => ?_) AllReadyH.nil)
          refine step_append_lies _ (by rfl) _ _ 60 (by rfl) wc.heap.size 63 i0 (.agg #[.int .i64 0, .string ⟨#[]⟩, .slice none 0 0, .slice none 0 0]) 4 72 Tryz.underlying60 hi0 hz0 hz1 hz2 (by rfl) (by decide) (.slice xi j ci) j xs (by rfl) (OW _) ⟨w4'.heap.size, 0, none⟩ 1 1 [.int .i64 K2, .string T2, .slice y2 N2 m2, .slice y3 N3 m3] (by rfl) (by rfl) (World.news_of_block (heap_alloc_new w4' _)) (fun u hu => all_one4 u hu) (by decide) (by unfold maxLen; omega) (by omega) (by rw [size_alloc]; omega) _ rfl ?_
          intro g cap w7 hown7 hgrow7 hat7 hlt7
          have S7 := SG _ _ hgrow7
          obtain ⟨z2, y2f⟩ := SZ _ _ hgrow7
          refine hK.out _ _ (SO _ (by first | assumption | exact Gn.alloc (by assumption) _ | exact Gn.cell (by assumption) _ _ (.inl hsb0) | exact Gn.call (by assumption) (by assumption))) (fun hHeld => ?_)
          clear hK K
          try simp only [Act.put, List.setIfInBounds_toArray, List.set_cons_zero, List.set_cons_succ]
          refine wpAnyH_take (i := 7) (oi := { dst := some 22, op := Op.fieldAddr 63 (Operand.tmp 5) 2, type := 0, pos := "oci.go:388", after := #[{ on := 0, ground := Ground.phase }, { on := 1, ground := Ground.phase }, { on := 2, ground := Ground.phase }, { on := 3, ground := Ground.phase }, { on := 4, ground := Ground.phase }, { on := 5, ground := Ground.phase }, { on := 6, ground := Ground.phase }], guard := none }) (v := ?_) rfl (by kernel_rfl) (by kernel_rfl) (by kernel_rfl) (fun _ _ _ h => h) (Or.inl ⟨by rfl, ?_⟩) (by assumption) ?_
          rotate_left
          · intro w hSw
            skip
            clear hSw
            go_simp
            try with_reducible rfl
          try simp only [Act.put, List.setIfInBounds_toArray, List.set_cons_zero, List.set_cons_succ]
          refine wpAnyH_ready (rs := [8]) (by kernel_rfl) (by simp) ?_
          refine (AllReadyH.cons (o := { dst := none, op := Op.store 60 (Operand.tmp 22) (Operand.tmp 21), type := 0, pos := "oci.go:388", after := #[{ on := 7, ground := Ground.data }, { on := 6, ground := Ground.data }, { on := 6, ground := Ground.chain }, { on := 0, ground := Ground.phase }, { on := 1, ground := Ground.phase }, { on := 2, ground := Ground.phase }, { on := 3, ground := Ground.phase }, { on := 4, ground := Ground.phase }, { on := 5, ground := Ground.phase }, { on := 6, ground := Ground.phase }], guard := none }) rfl (fun K hK => ?_) AllReadyH.nil)
          skip
          go_simp
          refine hK.out _ _ (SO _ (by first | assumption | exact Gn.alloc (by assumption) _ | exact Gn.cell (by assumption) _ _ (.inl hsb0) | exact Gn.call (by assumption) (by assumption))) (fun hHeld => ?_)
          clear hK K
          try simp only [Act.put, List.setIfInBounds_toArray, List.set_cons_zero, List.set_cons_succ]
          refine wpAnyH_done (by kernel_rfl) ?_ _
          refine NoPanic.normal ?_
          go_wp2_with (fail)
          go_roundg (l.length - (j + 1))
          case measure => rw [HN.out]; omega
          case rel =>
            refine ⟨j + 1, rfl, Lib.hid rfl, Lib.hid (by omega), Lib.hid ?_⟩
            rw [take_one HXV.out, List.map_append]
            exact row_round rfl hbcl HGR.out HRB.out HO.out HIT1.out (fun q hq => ⟨(HF1.out q hq).1, id, (HF1.out q hq).2.2⟩) HLN.out HC1.out hc4 hx4 hown7 hgrow7 (by rw [size_alloc] at hat7; exact hat7)
    · have hj1 : ¬ (j : Int) < (l.length : Int) := by omega
      obtain ⟨I, hGr, hRb, hRJ⟩ := HM.out
      have hln : l.take j = l := List.take_of_length_le (by omega)
      rw [hln] at hRJ
      have hJ := hRJ.holds
      obtain ⟨⟨xs, F, ho, _, _⟩, _⟩ := hRJ
      obtain ⟨xi, ci, rfl⟩ := owns_form ho
      have sB := HBX.out.size
      have sG := hGr.size
      have hbcl := HBC.out
      have hwb : Below w.heap.size w wr := HBX.out.trans (hGr.below (by omega) (fun q hq e => by omega))
      have hzr := hGr.rowC HZX.out (by omega)
      rw [List.length_map] at hRb hJ
      have HJ := Lib.hid hJ
      have HRB := Lib.hid hRb
      have HWB := Lib.hid hwb
      have HZR := Lib.hid hzr
      clear hGr hRb hJ ho hwb hzr HM hj
      go_wp2_with (first
        | ((with_reducible show wpList _ _ _ (⟨some 24, .load _ _, _, _, _, _⟩ :: _) _ _); refine wpList_load_row rfl 63 _ rfl (w.heap.size + 1) rfl 63 (row4 5 ⟨#[]⟩ xi l.length ci none 0 0) (0, 0) _ HRB.out Tryz.underlying63 rfl HI.out ?_)
        | ((with_reducible show wpList _ _ _ (⟨none, .store _ (.tmp 4) _, _, _, _, _⟩ :: _) _ _); refine wpList_store_row rfl 63 _ _ rfl w.heap.size (row4 5 ⟨#[]⟩ xi l.length ci none 0 0) rfl rfl 63 zeroV4 HZR.out HI.out rfl (row4_all _ _ _ _ _ _ _ _) ?_))
      refine bodyPost_ret (results_cell_row rfl _ _ w.heap.size 63 (row4 5 ⟨#[]⟩ xi l.length ci none 0 0) (0, 0) _ rfl (rowC_setRow HZR.out _) Tryz.underlying63 rfl HI.out) rfl ?_
      exact lst_putP HWB.out (Nat.le_refl _) (by rw [List.length_map]) HJ.out (by omega)
end Go.Proofs.YtnkencdibniagaaGreatDoor

