/- Merged: OeD, OeE, OeF, OeG, OeH, OeI. -/
import Derived.Test.YtlknngplnimdpaaGreatDoorM11
import Derived.Test.YtlknngplnimdpaaGreatDoorM09
import Derived.Test.YtlknngplnimdpaaGreatDoorM08
import Derived.Test.YtlknngplnimdpaaGreatDoorM10
/- Layer 13: mayBe. -/
namespace Go.Proofs.YtlknngplnimdpaaGreatDoor
open Go.RowKit

theorem all_not {l : List DV} {d : DV} (hm : d ∈ l) (h : mayD d = false) : l.all mayD = false := by
  rw [Bool.eq_false_iff]
  intro ha
  have := List.all_eq_true.1 ha d hm
  rw [h] at this
  cases this
theorem encLn_33 {d : DV} (hd : d.dig.length = 32) : (encL d)[33]? = some (.int .i64 d.size) := by
  unfold encL
  rw [List.append_assoc, List.getElem?_append_right (by simp), List.getElem?_append_right (by simp [hd])]
  simp [hd]
theorem encLn_34 {d : DV} (hd : d.dig.length = 32) : (encL d)[34]? = some (.string (str d.os)) := by
  unfold encL
  rw [List.append_assoc, List.getElem?_append_right (by simp), List.getElem?_append_right (by simp [hd])]
  simp [hd]
theorem encLn_35 {d : DV} (hd : d.dig.length = 32) : (encL d)[35]? = some (.string (str d.arch)) := by
  unfold encL
  rw [List.append_assoc, List.getElem?_append_right (by simp), List.getElem?_append_right (by simp [hd])]
  simp [hd]
set_option maxRecDepth 100000 in
set_option maxHeartbeats 16000000 in
theorem omayBe_any (l : List DV) (x : Option Addr) (cc : Nat) (w : World) (hE : Env2 w) (hl : l.length ≤ 70368744177664) (hL : eDess.at_ w (fun k => k < w.heap.size) l (.slice x l.length cc)) :
    Calls Tryz.prog 49 #[.slice x l.length cc] w fun e w' => e = .returned (.bool (l.all mayD)) ∧ Below w.heap.size w w' := by
  obtain ⟨N, hN⟩ : ∃ N, N = l.all mayD := ⟨_, rfl⟩
  rw [← hN]
  have HN := Lib.hid hN
  have HE := Lib.hid hE
  have HL := Lib.hid hL
  have HIP := Lib.hid info_P
  have HID := Lib.hid (fun (d : DV) (h : goodD d) => show (Tryz.prog.info? 28).map (·.size) = some (encD d).size by rw [encD_size d h]; exact info_D)
  have HSZ := Lib.hid (fun (d : DV) (h : goodD d) => show (encD zeroD).size = (encD d).size by rw [encD_size d h]; rfl)
  clear hN hL hE
  go_enter Tryz.func49, Tryz.ntmps49
  go_wp2
  go_loopg [7] l.length (fun gk s7 wr => ∃ j : Nat, s7 = .int .i64 (j : Int) ∧ Hid (gk = l.length - j) ∧ Hid (j ≤ l.length) ∧ Hid (∀ i d, i < j → l[i]? = some d → mayD d = true) ∧ Hid (Below w.heap.size w wr))
  case atStart => exact ⟨0, rfl, Lib.hid rfl, Lib.hid (Nat.zero_le _), Lib.hid (fun i d h => absurd h (Nat.not_lt_zero _)), Lib.hid (Below.refl _ _)⟩
  case round =>
    obtain ⟨j, rfl, HNj, HNL, HM, HBW⟩ := hrel
    have sw := HBW.out.size
    by_cases hj : j < l.length
    · have hj1 : (j : Int) < (l.length : Int) := by omega
      obtain ⟨d, hd⟩ : ∃ d, l[j]? = some d := ⟨_, List.getElem?_eq_getElem hj⟩
      obtain ⟨gd, ad, rfl, hab, hcs⟩ := dess_at HL.out hd
      have HGD := Lib.hid gd
      have HCS := Lib.hid (show ∀ i u, (encL d)[i]? = some u → wr.cell? ((ad.add (j * 36)).add i) = some u from fun i u hu => by
        rw [World.cell?_of_block (w := w) (w' := wr) (HBW.out.block _ (by rw [add_block, add_block]; exact hab))]
        exact hcs i u hu)
      have HDJ := Lib.hid hd
      have hjm : j ≤ 70368744177664 := by omega
      have HEL := Lib.hid (encD_list d)
      have HIL := Lib.hid (show (Tryz.prog.info? 28).map (·.size) = some (encL d).length by rw [encL_len gd.1]; exact info_D)
      clear gd hcs hd hj
      go_upto_region 4 with (first
        | ((with_reducible show wpList _ _ _ (⟨some 10, .load _ _, _, _, _, _⟩ :: _) _ _); refine wpList_load_at rfl 28 _ rfl (ad.add (j * 36)) rfl (encL d) _ HCS.out Tryz.underlying28 rfl HIL.out ?_)
        | ((with_reducible show wpList _ _ _ (⟨none, .store _ (.tmp 4) _, _, _, _, _⟩ :: _) _ _); refine wpList_store_last rfl 28 _ _ rfl wr.heap.size (encD d) rfl (by rw [HEL.out]; rfl) 28 (encD zeroD) rfl (HID.out d HGD.out) (HSZ.out d HGD.out) (encD_one _) ?_))
      obtain ⟨W1, hW1⟩ : ∃ W1, W1 = wr.alloc (.cells (encD d) 28) := ⟨_, rfl⟩
      rw [← hW1]
      have R1 : Hid (rowC W1 wr.heap.size (encD d) 28) := Lib.hid (by rw [hW1]; exact rowC_new _ _ _)
      have q0 : W1.cell? ⟨wr.heap.size, 0, none⟩ = some (.string (str d.media)) := by rw [rowC_cell R1.out, encD_list]; rfl
      have q33 : W1.cell? ⟨wr.heap.size, 33, none⟩ = some (.int .i64 d.size) := by rw [rowC_cell R1.out, encD_list, List.getElem?_toArray]; exact encLn_33 HGD.out.1
      have B1 : Hid (Below w.heap.size w W1) := Lib.hid (by rw [hW1]; exact HBW.out.alloc sw _)
      have l1 := rowC_lt R1.out
      have CV := Tryz.utf8_ValidString (str d.media) W1 (by rw [str_size]; have := HGD.out.2.1; omega) (HE.out.below B1.out).env.tabs
      rw [str_toList] at CV
      have HC := Lib.hid (fun w' (hb : Below W1.heap.size W1 w') => isText_any (d.os, d.arch) HGD.out.2.2.1 HGD.out.2.2.2 w' ((HE.out.below B1.out).below hb))
      have HR : Hid (∀ w', Below W1.heap.size W1 w' → w'.cell? ⟨wr.heap.size, 34, none⟩ = some (.string (str d.os)) ∧ w'.cell? ⟨wr.heap.size, 35, none⟩ = some (.string (str d.arch))) := Lib.hid (fun w' hb => by
        have h := rowC_below R1.out hb l1
        rw [encD_list] at h
        exact ⟨(rowC_cell h 34).trans ((List.getElem?_toArray ..).trans (encLn_34 HGD.out.1)), (rowC_cell h 35).trans ((List.getElem?_toArray ..).trans (encLn_35 HGD.out.1))⟩)
      have HD : Hid (mayD d = (decide (0 ≤ d.size) && decide (d.size ≤ 9007199254740992) && Lib.validD d.media && (Lib.validD d.os && Lib.validD d.arch))) := Lib.hid rfl
      have HNF : Hid (mayD d = false → N = false) := Lib.hid (fun h => HN.out.trans (all_not (List.mem_of_getElem? HDJ.out) h))
      obtain ⟨V1, hV1⟩ : ∃ V1, V1 = Lib.validD d.media := ⟨_, rfl⟩
      rw [← hV1] at CV HD
      clear hV1
      clear hW1
      by_cases ha : d.size < 0
      · have e0 : Hid (N = false) := Lib.hid (HNF.out (by rw [HD.out, decide_eq_false (by omega)]; rfl))
        clear CV
        go_wp2
        go_ret
        rw [e0.out]
        exact ⟨rfl, B1.out⟩
      by_cases hb : 9007199254740992 < d.size
      · have e0 : Hid (N = false) := Lib.hid (HNF.out (by rw [HD.out, decide_eq_false (p := d.size ≤ 9007199254740992) (by omega), Bool.and_false]; rfl))
        clear CV
        go_wp2
        go_ret
        rw [e0.out]
        exact ⟨rfl, B1.out⟩
      have HSZ1 := Lib.hid (show 0 ≤ d.size ∧ d.size ≤ 9007199254740992 by omega)
      cases V1 with
      | false =>
        have e0 : Hid (N = false) := Lib.hid (HNF.out (by rw [HD.out, Bool.and_false]; rfl))
        go_wp2_with (go_at_call 89; ((with_reducible refine CV.mono ?_); rintro e w2 ⟨rfl, hb2⟩; have HB2 := Lib.hid hb2; clear hb2))
        go_ret
        rw [e0.out]
        exact ⟨rfl, B1.out.trans (HB2.out.mono (by omega))⟩
      | true =>
        obtain ⟨V2, hV2⟩ : ∃ V2, V2 = (Lib.validD d.os && Lib.validD d.arch) := ⟨_, rfl⟩
        rw [← hV2] at HD
        have HC2 : Hid (∀ w', Below W1.heap.size W1 w' → Calls Tryz.prog 60 #[.agg #[.string (str d.os), .string (str d.arch)]] w' fun e w2 => e = .returned (.bool V2) ∧ Below w'.heap.size w' w2) := Lib.hid (by rw [hV2]; exact HC.out)
        clear hV2
        cases V2 with
        | false =>
          have e0 : Hid (N = false) := Lib.hid (HNF.out (by rw [HD.out, Bool.and_false]))
          go_wp2_with (first
            | (go_at_call 89; ((with_reducible refine CV.mono ?_); rintro e w2 ⟨rfl, hb2⟩; have HB2 := Lib.hid hb2; have s2 := hb2.size; have CP := HC2.out w2 hb2; obtain ⟨g34, g35⟩ := HR.out w2 hb2; clear hb2 CV))
            | (go_at_call 60; ((with_reducible refine CP.mono ?_); rintro e w3 ⟨rfl, hb3⟩; have HB3 := Lib.hid hb3; clear hb3)))
          go_ret
          rw [e0.out]
          exact ⟨rfl, (B1.out.trans (HB2.out.mono (by omega))).trans (HB3.out.mono (by omega))⟩
        | true =>
          have e1 : Hid (mayD d = true) := Lib.hid (by rw [HD.out, decide_eq_true HSZ1.out.1, decide_eq_true HSZ1.out.2]; rfl)
          go_wp2_with (first
            | (go_at_call 89; ((with_reducible refine CV.mono ?_); rintro e w2 ⟨rfl, hb2⟩; have HB2 := Lib.hid hb2; have s2 := hb2.size; have CP := HC2.out w2 hb2; obtain ⟨g34, g35⟩ := HR.out w2 hb2; clear hb2 CV))
            | (go_at_call 60; ((with_reducible refine CP.mono ?_); rintro e w3 ⟨rfl, hb3⟩; have HB3 := Lib.hid hb3; clear hb3)))
          go_roundg (l.length - (j + 1))
          case measure => rw [HNj.out]; omega
          case rel =>
            refine ⟨j + 1, rfl, Lib.hid rfl, Lib.hid (by omega), Lib.hid (fun i d' hi hd' => ?_), Lib.hid ((B1.out.trans (HB2.out.mono (by omega))).trans (HB3.out.mono (by omega)))⟩
            by_cases hij : i = j
            · subst hij
              rw [HDJ.out] at hd'
              injection hd' with hd'
              rw [← hd']
              exact e1.out
            · exact HM.out i d' (by omega) hd'
    · have hj1 : ¬ (j : Int) < (l.length : Int) := by omega
      have e0 : Hid (N = true) := Lib.hid (by
        rw [HN.out, List.all_eq_true]
        intro d hd
        obtain ⟨i, hi⟩ := List.getElem?_of_mem hd
        exact HM.out i d (by have := (List.getElem?_eq_some_iff.1 hi).1; omega) hi)
      clear hj
      go_wp2
      go_ret
      rw [e0.out]
      exact ⟨rfl, HBW.out⟩
end Go.Proofs.YtlknngplnimdpaaGreatDoor

/- Layer 13: a list of descriptors, put. -/
namespace Go.Proofs.YtlknngplnimdpaaGreatDoor
open Go.RowKit

theorem lst_putP {w w3 : World} {items : List JV} {B c N ci : Nat} {xi : Option Addr} {cs : Array Value} (hb : Below w.heap.size w w3) (hc : w.heap.size ≤ c) (hN : items.length = N)
    (hh : (Value.slice xi N ci = .slice none 0 0 ∧ items = []) ∨ ∃ (ad : Addr) (cap : Nat), Value.slice xi N ci = .slice (some ad) N cap ∧ HoldsR w3 (fun k => B ≤ k) items ad 0) (hcB : c < B) :
    PutP w (lstJ items) (.returned (.agg (row4 5 ⟨#[]⟩ xi N ci none 0 0))) (w3.setRow c cs) := by
  have cz : Chg (fun q => q = c) w3 (w3.setRow c cs) := (Chg.refl _ _).setRow _ _ (.inl rfl)
  have sz : (w3.setRow c cs).heap.size = w3.heap.size := setRow_size _ _ _
  have sb := hb.size
  subst hN
  refine ⟨xi, ci, none, 0, rfl, ?_, below_setRow hb hc _⟩
  show HoldsC _ _ (.mk 5 [] items []) (.int .i64 5) (.string (str [])) (.slice xi items.length ci) (.slice none 0 0)
  rw [HoldsC]
  refine ⟨rfl, rfl, by simp, .inl ⟨rfl, rfl⟩, ?_⟩
  rcases hh with ⟨h1, h2⟩ | ⟨ad, cap, h1, h2⟩
  · exact .inl ⟨h1, h2⟩
  · refine .inr ⟨ad, cap, h1, HoldsR.mono (fun q hq hlt => ⟨by have hq : B ≤ q := hq; omega, hlt⟩) _ _ _ (HoldsR.chg cz (fun q hq e => by have hq : B ≤ q := hq; omega) _ _ _ h2)⟩
/-- What puts one item. -/
structure PutF (f : FuncId) (J : DV → JV) : Prop where
  enter : ∀ (args : Array Value) (w : World), (callFunc f args).run Tryz.prog w = .ok (.enter f args) w
  call : ∀ (d : DV) (w : World), putD d → Env2 w → Calls Tryz.prog f #[.agg (encD d)] w fun e w' => PutP w (J d) e w'
theorem putF_des : PutF 59 fullJ := ⟨fun args w => by kernel_rfl, fun d w h hE => descriptor_put d h w hE⟩
theorem putF_pln : PutF 53 bareJ := ⟨fun args w => by kernel_rfl, fun d w h hE => plain_put d h w hE⟩
set_option maxRecDepth 100000 in
set_option maxHeartbeats 16000000 in
theorem lsput_des {f : FuncId} {J : DV → JV} (hf : PutF f J) (l : List DV) (x : Option Addr) (cc : Nat) (w : World) (hE : Env2 w) (hl : l.length ≤ 65536) (hp : ∀ d ∈ l, putD d) (hL : eDess.at_ w (fun k => k < w.heap.size) l (.slice x l.length cc)) :
    Calls Tryz.prog 54 #[.slice x l.length cc, .func (.func f) #[] #[]] w fun e w' => PutP w (lstJ (l.map J)) e w' := by
  have hEn := hf.enter
  have HI := Lib.hid info_V
  obtain ⟨i0, hi0, hz0, hz1, hz2⟩ := info_parts info_V3
  obtain ⟨wc, hwc⟩ : ∃ wc, wc = (w.alloc (.cells #[.int .i64 0, .string ⟨#[]⟩, .slice none 0 0, .slice none 0 0] 63)).alloc (.cells (row4 5 ⟨#[]⟩ none 0 0 none 0 0) 63) := ⟨_, rfl⟩
  have s1 := size_alloc w (.cells #[.int .i64 0, .string ⟨#[]⟩, .slice none 0 0, .slice none 0 0] 63)
  have Z1 : rowC wc w.heap.size zeroV4 63 := by rw [hwc]; exact rowC_alloc (rowC_new w _ _) _
  have R1 : rowC wc (w.heap.size + 1) (row4 5 ⟨#[]⟩ none 0 0 none 0 0) 63 := by rw [hwc, ← s1]; exact rowC_new _ _ _
  have B1 : Below w.heap.size w wc := by rw [hwc]; exact ((Below.refl _ _).alloc (Nat.le_refl _) _).alloc (by omega) _
  have S1 : wc.heap.size = w.heap.size + 2 := by rw [hwc, size_alloc, s1]
  have HWC := Lib.hid hwc
  have HZX := Lib.hid Z1
  have HCX := Lib.hid R1
  have HBX := Lib.hid B1
  have HL := Lib.hid hL
  have HP := Lib.hid hp
  have HE := Lib.hid hE
  have HFN := Lib.hid hf
  have HID := Lib.hid (fun (d : DV) (h : goodD d) => show (Tryz.prog.info? 28).map (·.size) = some (encD d).size by rw [encD_size d h]; exact info_D)
  have HSZ := Lib.hid (fun (d : DV) (h : goodD d) => show (encD zeroD).size = (encD d).size by rw [encD_size d h]; rfl)
  clear hwc Z1 R1 B1 hL hp hE hf
  go_enter Tryz.func54, Tryz.ntmps54
  go_upto_region 2 with (first
    | ((with_reducible show wpList _ _ _ (⟨some 8, .build _ _, _, _, _, _⟩ :: _) _ _); refine wpList_build_as rfl 63 _ rfl (row4 5 ⟨#[]⟩ none 0 0 none 0 0) (by kernel_rfl) ?_)
    | ((with_reducible show wpList _ _ _ (⟨none, .store _ (.tmp 5) _, _, _, _, _⟩ :: _) _ _); refine wpList_store_last rfl 63 _ _ rfl (w.heap.size + 1) (row4 5 ⟨#[]⟩ none 0 0 none 0 0) rfl rfl 63 zeroV4 (by rw [size_alloc]) HI.out rfl (row4_all _ _ _ _ _ _ _ _) ?_))
  rw [← HWC.out]
  have HBC := Lib.hid (show (w.heap.size + 1) < wc.heap.size by omega)
  go_wp2
  go_loopg [11] l.length (fun gk s11 wr => ∃ j : Nat, s11 = .int .i64 (j : Int) ∧ Hid (gk = l.length - j) ∧ Hid (j ≤ l.length) ∧ Hid (GrB wc (w.heap.size + 1) wc.heap.size 5 ⟨#[]⟩ (.slice none 0 0) ((l.take j).map J) wr))
  case atStart => exact ⟨0, rfl, Lib.hid rfl, Lib.hid (Nat.zero_le _), Lib.hid ⟨.slice none 0 0, Chg.refl _ _, HCX.out, RowJ.nil _ _ _⟩⟩
  case round =>
    obtain ⟨j, rfl, HN, HNL, HM⟩ := hrel
    by_cases hj : j < l.length
    · have hj1 : (j : Int) < (l.length : Int) := by omega
      obtain ⟨d, hd⟩ : ∃ d, l[j]? = some d := ⟨_, List.getElem?_eq_getElem hj⟩
      obtain ⟨gd, ad, rfl, hab, hcs⟩ := dess_at HL.out hd
      obtain ⟨I, hGr, hRb, hRJ⟩ := HM.out
      obtain ⟨⟨xs, F, ho, hIt, hF⟩, _⟩ := hRJ
      obtain ⟨xi, ci, rfl⟩ := owns_form ho
      have hln : ((l.take j).map J).length = j := by rw [List.length_map, List.length_take]; omega
      rw [hln] at ho hF hRb
      have sB := HBX.out.size
      have sG := hGr.size
      have hbcl := HBC.out
      have hwb : Below w.heap.size w wr := HBX.out.trans (hGr.below (by omega) (fun q hq e => by omega))
      have HCS := Lib.hid (show ∀ i u, (encL d)[i]? = some u → wr.cell? ((ad.add (j * 36)).add i) = some u from fun i u hu => by
        rw [World.cell?_of_block (w := w) (w' := wr) (hwb.block _ (by rw [add_block, add_block]; exact hab))]
        exact hcs i u hu)
      obtain ⟨W1, hW1⟩ : ∃ W1, W1 = wr.alloc (.cells (encD d) 28) := ⟨_, rfl⟩
      have s1 : W1.heap.size = wr.heap.size + 1 := by rw [hW1]; exact size_alloc _ _
      have R1 : rowC W1 wr.heap.size (encD d) 28 := by rw [hW1]; exact rowC_new _ _ _
      have c1 : Chg (fun _ => False) wr W1 := by rw [hW1]; exact (Chg.refl _ _).alloc _
      have RB1 := c1.rowC hRb id
      have hpd : putD d := HP.out d (List.mem_of_getElem? hd)
      obtain ⟨SB, hSB⟩ : ∃ SB : Nat → Prop, SB = fun q => q = (w.heap.size + 1) ∨ (Value.slice xi j ci).ownBlock = some q := ⟨_, rfl⟩
      have hb1 : ¬ SB wr.heap.size := by
        rw [hSB]
        rintro (e | e)
        · omega
        · have := (ho.lt _ e).2; omega
      have hsb0 : SB (w.heap.size + 1) := by rw [hSB]; exact .inl rfl
      have hsb1 : ∀ k, (Value.slice xi j ci).ownBlock = some k → SB k := fun k hk => by rw [hSB]; exact .inr hk
      clear hSB
      obtain ⟨X, hX⟩ : ∃ X, X = encL d := ⟨_, rfl⟩
      have hXa : X.toArray = encD d := by rw [hX, encD_list]
      obtain ⟨K2, hK2⟩ : ∃ K2, K2 = (J d).kind := ⟨_, rfl⟩
      obtain ⟨T2, hT2⟩ : ∃ T2, T2 = str (J d).text := ⟨_, rfl⟩
      obtain ⟨N2, hN2⟩ : ∃ N2, N2 = (J d).items.length := ⟨_, rfl⟩
      obtain ⟨N3, hN3⟩ : ∃ N3, N3 = (J d).keys.length := ⟨_, rfl⟩
      have C4 : ∀ w', Gn W1 SB w' → Chg (fun _ => False) W1 w' → Calls Tryz.prog f #[.agg X.toArray] w' fun e w2 => ∃ y2 m2 y3 m3, e = .returned (.agg #[.int .i64 K2, .string T2, .slice y2 N2 m2, .slice y3 N3 m3]) ∧ HoldsC w2 (fun k => W1.heap.size ≤ k ∧ k < w2.heap.size) (J d) (.int .i64 K2) (.string T2) (.slice y2 N2 m2) (.slice y3 N3 m3) ∧ Chg (fun _ => False) W1 w2 ∧ Gn W1 SB w2 := fun w' hg hc => by
        have hew : Env2 w' := HE.out.below (hwb.trans (((Chg.below c1 (B := w.heap.size) (by omega) (fun _ _ h => h)).trans (hc.below (B := w.heap.size) (by omega) (fun _ _ h => h)))))
        rw [hXa, hK2, hT2, hN2, hN3]
        refine (HFN.out.call d w' hpd hew).mono ?_
        rintro e w2 ⟨y, m, z, n, rfl, hV, hb⟩
        exact ⟨y, m, z, n, rfl, HoldsC.mono (fun k hk hlt => ⟨Nat.le_trans hc.size hk.1, hlt⟩) _ _ _ _ _ hV, hc.trans (Chg.of_below hb) (fun _ _ h => h), Gn.call hg hb⟩
      have iD : (Tryz.prog.info? 28).map (·.size) = some X.length := by
        rw [hX, encL_len gd.1]
        exact info_D
      have OS : ∀ w', Gn W1 SB w' → w'.rangeAt wr.heap.size 0 X ∧ True := fun w' h => ⟨by rw [hX]; exact (encD_pla gd.1 (h.row R1 hb1)).1, trivial⟩
      have HGD := Lib.hid gd
      have HGR := Lib.hid hGr
      have HRB := Lib.hid hRb
      have HO := Lib.hid ho
      have HIT1 := Lib.hid hIt
      have HF1 := Lib.hid hF
      have HLN := Lib.hid hln
      have HXV := Lib.hid hd
      have HRB1 := Lib.hid RB1
      have HC1 := Lib.hid c1
      have HW1 := Lib.hid hW1
      have HEL := Lib.hid (encD_list d)
      have HIL := Lib.hid (show (Tryz.prog.info? 28).map (·.size) = some (encL d).length by rw [encL_len gd.1]; exact info_D)
      have hjm : j ≤ 65536 := by omega
      clear hcs gd hGr hRb ho hIt hF hln hd R1 RB1 hW1 hwb HM hj hX hXa hK2 hT2 hN2 hN3 hpd
      go_upto_region 5 with (first
        | ((with_reducible show wpList _ _ _ (⟨some 14, .load _ _, _, _, _, _⟩ :: _) _ _); refine wpList_load_at rfl 28 _ rfl (ad.add (j * 36)) rfl (encL d) _ HCS.out Tryz.underlying28 rfl HIL.out ?_)
        | ((with_reducible show wpList _ _ _ (⟨none, .store _ (.tmp 7) _, _, _, _, _⟩ :: _) _ _); refine wpList_store_last rfl 28 _ _ rfl wr.heap.size (encD d) rfl (by rw [HEL.out]; rfl) 28 (encD zeroD) rfl (HID.out d HGD.out) (HSZ.out d HGD.out) (encD_one _) ?_))
      rw [← HW1.out]
      have SO : ∀ w', Gn W1 SB w' → Gn W1 SB w' := fun _ h => h
      have uD := Tryz.underlying28
      refine wp_region_noPanic ?_
      refine wp_region_held_drew (S := Gn W1 SB) (by kernel_rfl) (Gn.start _ _) (fun hHeld => ?_)
      have HCD : Hid (Chg (fun _ => False) W1 W1.drew) := Lib.hid (Chg.refl _ _).drew
      have L1 : W1.drew.cell? ⟨(w.heap.size + 1), 2, none⟩ = some (.slice xi j ci) := rowC_cell (rowC_drew HRB1.out) 2
      generalize W1.drew = wd at *
      refine wpAnyH_take (i := 0) (oi := { dst := some 15, op := Op.fieldAddr 63 (Operand.tmp 5) 2, type := 0, pos := "oci.go:388", after := #[], guard := none }) (v := ?_) rfl (by kernel_rfl) (by kernel_rfl) (by kernel_rfl) (fun _ _ _ h => h) (Or.inl ⟨by rfl, ?_⟩) (by assumption) ?_
      rotate_left
      · intro w hSw
        skip
        clear hSw
        go_simp
        try with_reducible rfl
      try simp only [Act.put, List.setIfInBounds_toArray, List.set_cons_zero, List.set_cons_succ]
      refine wpAnyH_take (i := 2) (oi := { dst := some 17, op := Op.move (Operand.tmp 1), type := 104, pos := "oci.go:388", after := #[], guard := none }) (v := ?_) rfl (by kernel_rfl) (by kernel_rfl) (by kernel_rfl) (fun _ _ _ h => h) (Or.inl ⟨by rfl, ?_⟩) (by assumption) ?_
      rotate_left
      · intro w hSw
        skip
        clear hSw
        go_simp
        try with_reducible rfl
      try simp only [Act.put, List.setIfInBounds_toArray, List.set_cons_zero, List.set_cons_succ]
      refine wpAnyH_take (i := 3) (oi := { dst := some 18, op := Op.load 28 (Operand.tmp 7), type := 28, pos := "oci.go:388", after := #[], guard := none }) (v := _) rfl (by kernel_rfl) (by kernel_rfl) (by kernel_rfl) (fun _ _ _ h => h) (yieldsIf_load_mid (by rfl) _ _ rfl _ _ rfl _ _ (by intro w hSw; have hSw := OS _ hSw; go_split_ands; assumption) (by assumption) rfl (by assumption)) (by assumption) ?_
      try simp only [Act.put, List.setIfInBounds_toArray, List.set_cons_zero, List.set_cons_succ]
      refine wpAnyH_ready (rs := [1, 4]) (by kernel_rfl) (by simp) ?_
      refine (AllReadyH.cons (o := { dst := some 16, op := Op.load 60 (Operand.tmp 15), type := 60, pos := "oci.go:388", after := #[{ on := 0, ground := Ground.data }], guard := none }) rfl (fun K hK => ?_) (AllReadyH.cons (o := { dst := some 19, op := Op.call { callee := Callee.value (Operand.tmp 17), args := #[Operand.tmp 18], argTypes := #[28] }, type := 63, pos := "oci.go:388", after := #[{ on := 2, ground := Ground.data }, { on := 3, ground := Ground.data }], guard := none }) rfl (fun K hK => ?_) AllReadyH.nil))
      · skip
        go_simp
        refine hK.out _ _ (SO _ (by first | assumption | exact Gn.alloc (by assumption) _ | exact Gn.cell (by assumption) _ _ (.inl hsb0) | exact Gn.call (by assumption) (by assumption))) (fun hHeld => ?_)
        clear hK K
        try simp only [Act.put, List.setIfInBounds_toArray, List.set_cons_zero, List.set_cons_succ]
        refine wpAnyH_ready (rs := [4]) (by kernel_rfl) (by simp) ?_
        refine (AllReadyH.cons (o := { dst := some 19, op := Op.call { callee := Callee.value (Operand.tmp 17), args := #[Operand.tmp 18], argTypes := #[28] }, type := 63, pos := "oci.go:388", after := #[{ on := 2, ground := Ground.data }, { on := 3, ground := Ground.data }], guard := none }) rfl (fun K hK => ?_) AllReadyH.nil)
        go_simp
        with_reducible refine (C4 _ hHeld HCD.out).mono ?_
        rintro e w4' ⟨y2, m2, y3, m3, rfl, hx4, hc4, m4'⟩
        have s4 := hc4.size
        have L2 : w4'.cell? ⟨(w.heap.size + 1), 2, none⟩ = some (.slice xi j ci) := rowC_cell (hc4.rowC HRB1.out id) 2
        have L3 : ∀ o, (w4'.alloc o).cell? ⟨(w.heap.size + 1), 2, none⟩ = some (.slice xi j ci) := fun o => rowC_cell ((hc4.alloc o).rowC HRB1.out id) 2
        have OW : ∀ o, (w4'.alloc o).ownsRow wc.heap.size 63 4 (.slice xi j ci) j xs := fun o => ((HC1.out.trans hc4 (fun _ _ h => h)).alloc o).owns HO.out (fun _ _ h => h)
        have SG : ∀ o w7, (w4'.alloc o).grownBy w7 (Value.slice xi j ci).ownBlock → Gn W1 SB w7 := fun o w7 hg => grown_bc m4' hsb1 hg
        have SZ : ∀ o w7, (w4'.alloc o).grownBy w7 (Value.slice xi j ci).ownBlock → w7.cell? ⟨(w.heap.size + 1), 2, none⟩ = some (.slice xi j ci) ∧ w7.frozen? ⟨(w.heap.size + 1), 2, none⟩ = false := fun o w7 hg => grown_at HO.out (by omega) ((hc4.alloc o).rowC HRB1.out id) hg
        refine hK.out _ _ (SO _ (by assumption)) (fun hHeld => ?_)
        clear hK K
        try simp only [Act.put, List.setIfInBounds_toArray, List.set_cons_zero, List.set_cons_succ]
        refine wpAnyH_ready (rs := [5]) (by kernel_rfl) (by simp) ?_
        refine (AllReadyH.cons (o := { dst := some 20, op := Op.buildSlice 60 1 #[(0, Operand.tmp 19)], type := 60, pos := "oci.go:388", after := #[{ on := 4, ground := Ground.data }], guard := none }) rfl (fun K hK => ?_) AllReadyH.nil)
        skip
        go_simp
        refine hK.out _ _ (SO _ (by first | assumption | exact Gn.alloc (by assumption) _ | exact Gn.cell (by assumption) _ _ (.inl hsb0) | exact Gn.call (by assumption) (by assumption))) (fun hHeld => ?_)
        clear hK K
        try simp only [Act.put, List.setIfInBounds_toArray, List.set_cons_zero, List.set_cons_succ]
        refine wpAnyH_ready (rs := [6]) (by kernel_rfl) (by simp) ?_
        refine (AllReadyH.cons (o := { dst := some 21, op := Op.call { callee := Callee.builtin Builtin.append, args := #[Operand.tmp 16, Operand.tmp 20], argTypes := #[60, 60] }, type := 60, pos := "oci.go:388", after := #[{ on := 1, ground := Ground.data }, { on := 5, ground := Ground.data }, { on := 4, ground := Ground.chain }], guard := none }) rfl (fun K hK => ?_) AllReadyH.nil)
        refine step_append_lies _ (by rfl) _ _ 60 (by rfl) wc.heap.size 63 i0 (.agg #[.int .i64 0, .string ⟨#[]⟩, .slice none 0 0, .slice none 0 0]) 4 72 Tryz.underlying60 hi0 hz0 hz1 hz2 (by rfl) (by decide) (.slice xi j ci) j xs (by rfl) (OW _) ⟨w4'.heap.size, 0, none⟩ 1 1 [.int .i64 K2, .string T2, .slice y2 N2 m2, .slice y3 N3 m3] (by rfl) (by rfl) (World.news_of_block (heap_alloc_new w4' _)) (fun u hu => all_one4 u hu) (by decide) (by unfold maxLen; omega) (by omega) (by rw [size_alloc]; omega) _ rfl ?_
        intro g cap w7 hown7 hgrow7 hat7 hlt7
        have S7 := SG _ _ hgrow7
        obtain ⟨z2, y2f⟩ := SZ _ _ hgrow7
        refine hK.out _ _ (SO _ (by first | assumption | exact Gn.alloc (by assumption) _ | exact Gn.cell (by assumption) _ _ (.inl hsb0) | exact Gn.call (by assumption) (by assumption))) (fun hHeld => ?_)
        clear hK K
        try simp only [Act.put, List.setIfInBounds_toArray, List.set_cons_zero, List.set_cons_succ]
        refine wpAnyH_take (i := 7) (oi := { dst := some 22, op := Op.fieldAddr 63 (Operand.tmp 5) 2, type := 0, pos := "oci.go:388", after := #[{ on := 0, ground := Ground.phase }, { on := 1, ground := Ground.phase }, { on := 2, ground := Ground.phase }, { on := 3, ground := Ground.phase }, { on := 4, ground := Ground.phase }, { on := 5, ground := Ground.phase }, { on := 6, ground := Ground.phase }], guard := none }) (v := ?_) rfl (by kernel_rfl) (by kernel_rfl) (by kernel_rfl) (fun _ _ _ h => h) (Or.inl ⟨by rfl, ?_⟩) (by assumption) ?_
        rotate_left
        · intro w hSw
          skip
          clear hSw
          go_simp
          try with_reducible rfl
        try simp only [Act.put, List.setIfInBounds_toArray, List.set_cons_zero, List.set_cons_succ]
        refine wpAnyH_ready (rs := [8]) (by kernel_rfl) (by simp) ?_
        refine (AllReadyH.cons (o := { dst := none, op := Op.store 60 (Operand.tmp 22) (Operand.tmp 21), type := 0, pos := "oci.go:388", after := #[{ on := 7, ground := Ground.data }, { on := 6, ground := Ground.data }, { on := 6, ground := Ground.chain }, { on := 0, ground := Ground.phase }, { on := 1, ground := Ground.phase }, { on := 2, ground := Ground.phase }, { on := 3, ground := Ground.phase }, { on := 4, ground := Ground.phase }, { on := 5, ground := Ground.phase }, { on := 6, ground := Ground.phase }], guard := none }) rfl (fun K hK => ?_) AllReadyH.nil)
        skip
        go_simp
        refine hK.out _ _ (SO _ (by first | assumption | exact Gn.alloc (by assumption) _ | exact Gn.cell (by assumption) _ _ (.inl hsb0) | exact Gn.call (by assumption) (by assumption))) (fun hHeld => ?_)
        clear hK K
        try simp only [Act.put, List.setIfInBounds_toArray, List.set_cons_zero, List.set_cons_succ]
        refine wpAnyH_done (by kernel_rfl) ?_ _
        refine NoPanic.normal ?_
        go_wp2_with (fail)
        go_roundg (l.length - (j + 1))
        case measure => rw [HN.out]; omega
        case rel =>
          refine ⟨j + 1, rfl, Lib.hid rfl, Lib.hid (by omega), Lib.hid ?_⟩
          rw [take_one HXV.out, List.map_append]
          exact row_round rfl hbcl HGR.out HRB.out HO.out HIT1.out (fun q hq => ⟨(HF1.out q hq).1, id, (HF1.out q hq).2.2⟩) HLN.out HC1.out hc4 hx4 hown7 hgrow7 (by rw [size_alloc] at hat7; exact hat7)
      · go_simp
        with_reducible refine (C4 _ hHeld HCD.out).mono ?_
        rintro e w4' ⟨y2, m2, y3, m3, rfl, hx4, hc4, m4'⟩
        have s4 := hc4.size
        have L2 : w4'.cell? ⟨(w.heap.size + 1), 2, none⟩ = some (.slice xi j ci) := rowC_cell (hc4.rowC HRB1.out id) 2
        have L3 : ∀ o, (w4'.alloc o).cell? ⟨(w.heap.size + 1), 2, none⟩ = some (.slice xi j ci) := fun o => rowC_cell ((hc4.alloc o).rowC HRB1.out id) 2
        have OW : ∀ o, (w4'.alloc o).ownsRow wc.heap.size 63 4 (.slice xi j ci) j xs := fun o => ((HC1.out.trans hc4 (fun _ _ h => h)).alloc o).owns HO.out (fun _ _ h => h)
        have SG : ∀ o w7, (w4'.alloc o).grownBy w7 (Value.slice xi j ci).ownBlock → Gn W1 SB w7 := fun o w7 hg => grown_bc m4' hsb1 hg
        have SZ : ∀ o w7, (w4'.alloc o).grownBy w7 (Value.slice xi j ci).ownBlock → w7.cell? ⟨(w.heap.size + 1), 2, none⟩ = some (.slice xi j ci) ∧ w7.frozen? ⟨(w.heap.size + 1), 2, none⟩ = false := fun o w7 hg => grown_at HO.out (by omega) ((hc4.alloc o).rowC HRB1.out id) hg
        refine hK.out _ _ (SO _ (by assumption)) (fun hHeld => ?_)
        clear hK K
        try simp only [Act.put, List.setIfInBounds_toArray, List.set_cons_zero, List.set_cons_succ]
        refine wpAnyH_ready (rs := [1, 5]) (by kernel_rfl) (by simp) ?_
        refine (AllReadyH.cons (o := { dst := some 16, op := Op.load 60 (Operand.tmp 15), type := 60, pos := "oci.go:388", after := #[{ on := 0, ground := Ground.data }], guard := none }) rfl (fun K hK => ?_) (AllReadyH.cons (o := { dst := some 20, op := Op.buildSlice 60 1 #[(0, Operand.tmp 19)], type := 60, pos := "oci.go:388", after := #[{ on := 4, ground := Ground.data }], guard := none }) rfl (fun K hK => ?_) AllReadyH.nil))
        · skip
          go_simp
          refine hK.out _ _ (SO _ (by first | assumption | exact Gn.alloc (by assumption) _ | exact Gn.cell (by assumption) _ _ (.inl hsb0) | exact Gn.call (by assumption) (by assumption))) (fun hHeld => ?_)
          clear hK K
          try simp only [Act.put, List.setIfInBounds_toArray, List.set_cons_zero, List.set_cons_succ]
          refine wpAnyH_ready (rs := [5]) (by kernel_rfl) (by simp) ?_
          refine (AllReadyH.cons (o := { dst := some 20, op := Op.buildSlice 60 1 #[(0, Operand.tmp 19)], type := 60, pos := "oci.go:388", after := #[{ on := 4, ground := Ground.data }], guard := none }) rfl (fun K hK => ?_) AllReadyH.nil)
          skip
          go_simp
          refine hK.out _ _ (SO _ (by first | assumption | exact Gn.alloc (by assumption) _ | exact Gn.cell (by assumption) _ _ (.inl hsb0) | exact Gn.call (by assumption) (by assumption))) (fun hHeld => ?_)
          clear hK K
          try simp only [Act.put, List.setIfInBounds_toArray, List.set_cons_zero, List.set_cons_succ]
          refine wpAnyH_ready (rs := [6]) (by kernel_rfl) (by simp) ?_
          refine (AllReadyH.cons (o := { dst := some 21, op := Op.call { callee := Callee.builtin Builtin.append, args := #[Operand.tmp 16, Operand.tmp 20], argTypes := #[60, 60] }, type := 60, pos := "oci.go:388", after := #[{ on := 1, ground := Ground.data }, { on := 5, ground := Ground.data }, { on := 4, ground := Ground.chain }], guard := none }) rfl (fun K hK => ?_) AllReadyH.nil)
          refine step_append_lies _ (by rfl) _ _ 60 (by rfl) wc.heap.size 63 i0 (.agg #[.int .i64 0, .string ⟨#[]⟩, .slice none 0 0, .slice none 0 0]) 4 72 Tryz.underlying60 hi0 hz0 hz1 hz2 (by rfl) (by decide) (.slice xi j ci) j xs (by rfl) (OW _) ⟨w4'.heap.size, 0, none⟩ 1 1 [.int .i64 K2, .string T2, .slice y2 N2 m2, .slice y3 N3 m3] (by rfl) (by rfl) (World.news_of_block (heap_alloc_new w4' _)) (fun u hu => all_one4 u hu) (by decide) (by unfold maxLen; omega) (by omega) (by rw [size_alloc]; omega) _ rfl ?_
          intro g cap w7 hown7 hgrow7 hat7 hlt7
          have S7 := SG _ _ hgrow7
          obtain ⟨z2, y2f⟩ := SZ _ _ hgrow7
          refine hK.out _ _ (SO _ (by first | assumption | exact Gn.alloc (by assumption) _ | exact Gn.cell (by assumption) _ _ (.inl hsb0) | exact Gn.call (by assumption) (by assumption))) (fun hHeld => ?_)
          clear hK K
          try simp only [Act.put, List.setIfInBounds_toArray, List.set_cons_zero, List.set_cons_succ]
          refine wpAnyH_take (i := 7) (oi := { dst := some 22, op := Op.fieldAddr 63 (Operand.tmp 5) 2, type := 0, pos := "oci.go:388", after := #[{ on := 0, ground := Ground.phase }, { on := 1, ground := Ground.phase }, { on := 2, ground := Ground.phase }, { on := 3, ground := Ground.phase }, { on := 4, ground := Ground.phase }, { on := 5, ground := Ground.phase }, { on := 6, ground := Ground.phase }], guard := none }) (v := ?_) rfl (by kernel_rfl) (by kernel_rfl) (by kernel_rfl) (fun _ _ _ h => h) (Or.inl ⟨by rfl, ?_⟩) (by assumption) ?_
          rotate_left
          · intro w hSw
            skip
            clear hSw
            go_simp
            try with_reducible rfl
          try simp only [Act.put, List.setIfInBounds_toArray, List.set_cons_zero, List.set_cons_succ]
          refine wpAnyH_ready (rs := [8]) (by kernel_rfl) (by simp) ?_
          refine (AllReadyH.cons (o := { dst := none, op := Op.store 60 (Operand.tmp 22) (Operand.tmp 21), type := 0, pos := "oci.go:388", after := #[{ on := 7, ground := Ground.data }, { on := 6, ground := Ground.data }, { on := 6, ground := Ground.chain }, { on := 0, ground := Ground.phase }, { on := 1, ground := Ground.phase }, { on := 2, ground := Ground.phase }, { on := 3, ground := Ground.phase }, { on := 4, ground := Ground.phase }, { on := 5, ground := Ground.phase }, { on := 6, ground := Ground.phase }], guard := none }) rfl (fun K hK => ?_) AllReadyH.nil)
          skip
          go_simp
          refine hK.out _ _ (SO _ (by first | assumption | exact Gn.alloc (by assumption) _ | exact Gn.cell (by assumption) _ _ (.inl hsb0) | exact Gn.call (by assumption) (by assumption))) (fun hHeld => ?_)
          clear hK K
          try simp only [Act.put, List.setIfInBounds_toArray, List.set_cons_zero, List.set_cons_succ]
          refine wpAnyH_done (by kernel_rfl) ?_ _
          refine NoPanic.normal ?_
          go_wp2_with (fail)
          go_roundg (l.length - (j + 1))
          case measure => rw [HN.out]; omega
          case rel =>
            refine ⟨j + 1, rfl, Lib.hid rfl, Lib.hid (by omega), Lib.hid ?_⟩
            rw [take_one HXV.out, List.map_append]
            exact row_round rfl hbcl HGR.out HRB.out HO.out HIT1.out (fun q hq => ⟨(HF1.out q hq).1, id, (HF1.out q hq).2.2⟩) HLN.out HC1.out hc4 hx4 hown7 hgrow7 (by rw [size_alloc] at hat7; exact hat7)
        · skip
          go_simp
          refine hK.out _ _ (SO _ (by first | assumption | exact Gn.alloc (by assumption) _ | exact Gn.cell (by assumption) _ _ (.inl hsb0) | exact Gn.call (by assumption) (by assumption))) (fun hHeld => ?_)
          clear hK K
          try simp only [Act.put, List.setIfInBounds_toArray, List.set_cons_zero, List.set_cons_succ]
          refine wpAnyH_ready (rs := [1]) (by kernel_rfl) (by simp) ?_
          refine (AllReadyH.cons (o := { dst := some 16, op := Op.load 60 (Operand.tmp 15), type := 60, pos := "oci.go:388", after := #[{ on := 0, ground := Ground.data }], guard := none }) rfl (fun K hK => ?_) AllReadyH.nil)
          skip
          go_simp
          refine hK.out _ _ (SO _ (by first | assumption | exact Gn.alloc (by assumption) _ | exact Gn.cell (by assumption) _ _ (.inl hsb0) | exact Gn.call (by assumption) (by assumption))) (fun hHeld => ?_)
          clear hK K
          try simp only [Act.put, List.setIfInBounds_toArray, List.set_cons_zero, List.set_cons_succ]
          refine wpAnyH_ready (rs := [6]) (by kernel_rfl) (by simp) ?_
          refine (AllReadyH.cons (o := { dst := some 21, op := Op.call { callee := Callee.builtin Builtin.append, args := #[Operand.tmp 16, Operand.tmp 20], argTypes := #[60, 60] }, type := 60, pos := "oci.go:388", after := #[{ on := 1, ground := Ground.data }, { on := 5, ground := Ground.data }, { on := 4, ground := Ground.chain }], guard := none }) rfl (fun K hK => ?_) AllReadyH.nil)
          refine step_append_lies _ (by rfl) _ _ 60 (by rfl) wc.heap.size 63 i0 (.agg #[.int .i64 0, .string ⟨#[]⟩, .slice none 0 0, .slice none 0 0]) 4 72 Tryz.underlying60 hi0 hz0 hz1 hz2 (by rfl) (by decide) (.slice xi j ci) j xs (by rfl) (OW _) ⟨w4'.heap.size, 0, none⟩ 1 1 [.int .i64 K2, .string T2, .slice y2 N2 m2, .slice y3 N3 m3] (by rfl) (by rfl) (World.news_of_block (heap_alloc_new w4' _)) (fun u hu => all_one4 u hu) (by decide) (by unfold maxLen; omega) (by omega) (by rw [size_alloc]; omega) _ rfl ?_
          intro g cap w7 hown7 hgrow7 hat7 hlt7
          have S7 := SG _ _ hgrow7
          obtain ⟨z2, y2f⟩ := SZ _ _ hgrow7
          refine hK.out _ _ (SO _ (by first | assumption | exact Gn.alloc (by assumption) _ | exact Gn.cell (by assumption) _ _ (.inl hsb0) | exact Gn.call (by assumption) (by assumption))) (fun hHeld => ?_)
          clear hK K
          try simp only [Act.put, List.setIfInBounds_toArray, List.set_cons_zero, List.set_cons_succ]
          refine wpAnyH_take (i := 7) (oi := { dst := some 22, op := Op.fieldAddr 63 (Operand.tmp 5) 2, type := 0, pos := "oci.go:388", after := #[{ on := 0, ground := Ground.phase }, { on := 1, ground := Ground.phase }, { on := 2, ground := Ground.phase }, { on := 3, ground := Ground.phase }, { on := 4, ground := Ground.phase }, { on := 5, ground := Ground.phase }, { on := 6, ground := Ground.phase }], guard := none }) (v := ?_) rfl (by kernel_rfl) (by kernel_rfl) (by kernel_rfl) (fun _ _ _ h => h) (Or.inl ⟨by rfl, ?_⟩) (by assumption) ?_
          rotate_left
          · intro w hSw
            skip
            clear hSw
            go_simp
            try with_reducible rfl
          try simp only [Act.put, List.setIfInBounds_toArray, List.set_cons_zero, List.set_cons_succ]
          refine wpAnyH_ready (rs := [8]) (by kernel_rfl) (by simp) ?_
          refine (AllReadyH.cons (o := { dst := none, op := Op.store 60 (Operand.tmp 22) (Operand.tmp 21), type := 0, pos := "oci.go:388", after := #[{ on := 7, ground := Ground.data }, { on := 6, ground := Ground.data }, { on := 6, ground := Ground.chain }, { on := 0, ground := Ground.phase }, { on := 1, ground := Ground.phase }, { on := 2, ground := Ground.phase }, { on := 3, ground := Ground.phase }, { on := 4, ground := Ground.phase }, { on := 5, ground := Ground.phase }, { on := 6, ground := Ground.phase }], guard := none }) rfl (fun K hK => ?_) AllReadyH.nil)
          skip
          go_simp
          refine hK.out _ _ (SO _ (by first | assumption | exact Gn.alloc (by assumption) _ | exact Gn.cell (by assumption) _ _ (.inl hsb0) | exact Gn.call (by assumption) (by assumption))) (fun hHeld => ?_)
          clear hK K
          try simp only [Act.put, List.setIfInBounds_toArray, List.set_cons_zero, List.set_cons_succ]
          refine wpAnyH_done (by kernel_rfl) ?_ _
          refine NoPanic.normal ?_
          go_wp2_with (fail)
          go_roundg (l.length - (j + 1))
          case measure => rw [HN.out]; omega
          case rel =>
            refine ⟨j + 1, rfl, Lib.hid rfl, Lib.hid (by omega), Lib.hid ?_⟩
            rw [take_one HXV.out, List.map_append]
            exact row_round rfl hbcl HGR.out HRB.out HO.out HIT1.out (fun q hq => ⟨(HF1.out q hq).1, id, (HF1.out q hq).2.2⟩) HLN.out HC1.out hc4 hx4 hown7 hgrow7 (by rw [size_alloc] at hat7; exact hat7)
    · have hj1 : ¬ (j : Int) < (l.length : Int) := by omega
      obtain ⟨I, hGr, hRb, hRJ⟩ := HM.out
      have hln : l.take j = l := List.take_of_length_le (by omega)
      rw [hln] at hRJ
      have hJ := hRJ.holds
      obtain ⟨⟨xs, F, ho, _, _⟩, _⟩ := hRJ
      obtain ⟨xi, ci, rfl⟩ := owns_form ho
      have sB := HBX.out.size
      have sG := hGr.size
      have hbcl := HBC.out
      have hwb : Below w.heap.size w wr := HBX.out.trans (hGr.below (by omega) (fun q hq e => by omega))
      have hzr := hGr.rowC HZX.out (by omega)
      rw [List.length_map] at hRb hJ
      have HJ := Lib.hid hJ
      have HRB := Lib.hid hRb
      have HWB := Lib.hid hwb
      have HZR := Lib.hid hzr
      clear hGr hRb hJ ho hwb hzr HM hj
      go_wp2_with (first
        | ((with_reducible show wpList _ _ _ (⟨some 24, .load _ _, _, _, _, _⟩ :: _) _ _); refine wpList_load_row rfl 63 _ rfl (w.heap.size + 1) rfl 63 (row4 5 ⟨#[]⟩ xi l.length ci none 0 0) (0, 0) _ HRB.out Tryz.underlying63 rfl HI.out ?_)
        | ((with_reducible show wpList _ _ _ (⟨none, .store _ (.tmp 4) _, _, _, _, _⟩ :: _) _ _); refine wpList_store_row rfl 63 _ _ rfl w.heap.size (row4 5 ⟨#[]⟩ xi l.length ci none 0 0) rfl rfl 63 zeroV4 HZR.out HI.out rfl (row4_all _ _ _ _ _ _ _ _) ?_))
      refine bodyPost_ret (results_cell_row rfl _ _ w.heap.size 63 (row4 5 ⟨#[]⟩ xi l.length ci none 0 0) (0, 0) _ rfl (rowC_setRow HZR.out _) Tryz.underlying63 rfl HI.out) rfl ?_
      exact lst_putP HWB.out (Nat.le_refl _) (by rw [List.length_map]) HJ.out (by omega)
end Go.Proofs.YtlknngplnimdpaaGreatDoor

/- Layer 13: a list of digests, put. -/
namespace Go.Proofs.YtlknngplnimdpaaGreatDoor
open Go.RowKit

def digJ (D : Bs) : JV := txtJ (textL D)
theorem enter_putdig (args : Array Value) (w : World) : (callFunc 62 args).run Tryz.prog w = .ok (.enter 62 args) w := by kernel_rfl
theorem digs_at {w : World} {F : Nat → Prop} {l : List Bs} {x : Option Addr} {n c : Nat} (h : eDigs.at_ w F l (.slice x n c)) {i : Nat} {d : Bs} (hi : l[i]? = some d) : d.length = 32 ∧ ∃ ad, x = some ad ∧ F ad.block ∧ ∀ j u, ((cells8 d).toList)[j]? = some u → w.cell? ((ad.add (i * 32)).add j) = some u := by
  rcases h with ⟨_, h2⟩ | ⟨ad, cap, h1, h2⟩
  · subst h2; simp at hi
  · cases h1
    obtain ⟨h3, h4, h5⟩ := h2 i d hi
    refine ⟨h4, ad, rfl, h3, fun j u hj => ?_⟩
    have := h5 j u hj
    rw [add_add, show i * 32 + j = 32 * i + j by omega]
    exact this
set_option maxRecDepth 100000 in
set_option maxHeartbeats 16000000 in
theorem lsput_dig (l : List Bs) (x : Option Addr) (cc : Nat) (w : World) (hE : Env2 w) (hl : l.length ≤ 65536) (hL : eDigs.at_ w (fun k => k < w.heap.size) l (.slice x l.length cc)) :
    Calls Tryz.prog 61 #[.slice x l.length cc, .func (.func 62) #[] #[]] w fun e w' => PutP w (lstJ (l.map digJ)) e w' := by
  have hEn := enter_putdig
  have HI := Lib.hid info_V
  obtain ⟨i0, hi0, hz0, hz1, hz2⟩ := info_parts info_V3
  obtain ⟨wc, hwc⟩ : ∃ wc, wc = (w.alloc (.cells #[.int .i64 0, .string ⟨#[]⟩, .slice none 0 0, .slice none 0 0] 63)).alloc (.cells (row4 5 ⟨#[]⟩ none 0 0 none 0 0) 63) := ⟨_, rfl⟩
  have s1 := size_alloc w (.cells #[.int .i64 0, .string ⟨#[]⟩, .slice none 0 0, .slice none 0 0] 63)
  have Z1 : rowC wc w.heap.size zeroV4 63 := by rw [hwc]; exact rowC_alloc (rowC_new w _ _) _
  have R1 : rowC wc (w.heap.size + 1) (row4 5 ⟨#[]⟩ none 0 0 none 0 0) 63 := by rw [hwc, ← s1]; exact rowC_new _ _ _
  have B1 : Below w.heap.size w wc := by rw [hwc]; exact ((Below.refl _ _).alloc (Nat.le_refl _) _).alloc (by omega) _
  have S1 : wc.heap.size = w.heap.size + 2 := by rw [hwc, size_alloc, s1]
  have HWC := Lib.hid hwc
  have HZX := Lib.hid Z1
  have HCX := Lib.hid R1
  have HBX := Lib.hid B1
  have HL := Lib.hid hL
  have HE := Lib.hid hE
  have HID := Lib.hid (fun (d : Bs) (h : d.length = 32) => show (Tryz.prog.info? 24).map (·.size) = some (cells8 d).size from info_Gc d h)
  have HSZ := Lib.hid (fun (d : Bs) (h : d.length = 32) => show (cells8 zero32).size = (cells8 d).size by rw [cells8_size, cells8_size, h]; rfl)
  clear hwc Z1 R1 B1 hL hE
  go_enter Tryz.func61, Tryz.ntmps61
  go_upto_region 2 with (first
    | ((with_reducible show wpList _ _ _ (⟨some 8, .build _ _, _, _, _, _⟩ :: _) _ _); refine wpList_build_as rfl 63 _ rfl (row4 5 ⟨#[]⟩ none 0 0 none 0 0) (by kernel_rfl) ?_)
    | ((with_reducible show wpList _ _ _ (⟨none, .store _ (.tmp 5) _, _, _, _, _⟩ :: _) _ _); refine wpList_store_last rfl 63 _ _ rfl (w.heap.size + 1) (row4 5 ⟨#[]⟩ none 0 0 none 0 0) rfl rfl 63 zeroV4 (by rw [size_alloc]) HI.out rfl (row4_all _ _ _ _ _ _ _ _) ?_))
  rw [← HWC.out]
  have HBC := Lib.hid (show (w.heap.size + 1) < wc.heap.size by omega)
  go_wp2
  go_loopg [11] l.length (fun gk s11 wr => ∃ j : Nat, s11 = .int .i64 (j : Int) ∧ Hid (gk = l.length - j) ∧ Hid (j ≤ l.length) ∧ Hid (GrB wc (w.heap.size + 1) wc.heap.size 5 ⟨#[]⟩ (.slice none 0 0) ((l.take j).map digJ) wr))
  case atStart => exact ⟨0, rfl, Lib.hid rfl, Lib.hid (Nat.zero_le _), Lib.hid ⟨.slice none 0 0, Chg.refl _ _, HCX.out, RowJ.nil _ _ _⟩⟩
  case round =>
    obtain ⟨j, rfl, HN, HNL, HM⟩ := hrel
    by_cases hj : j < l.length
    · have hj1 : (j : Int) < (l.length : Int) := by omega
      obtain ⟨d, hd⟩ : ∃ d, l[j]? = some d := ⟨_, List.getElem?_eq_getElem hj⟩
      obtain ⟨gd, ad, rfl, hab, hcs⟩ := digs_at HL.out hd
      obtain ⟨I, hGr, hRb, hRJ⟩ := HM.out
      obtain ⟨⟨xs, F, ho, hIt, hF⟩, _⟩ := hRJ
      obtain ⟨xi, ci, rfl⟩ := owns_form ho
      have hln : ((l.take j).map digJ).length = j := by rw [List.length_map, List.length_take]; omega
      rw [hln] at ho hF hRb
      have sB := HBX.out.size
      have sG := hGr.size
      have hbcl := HBC.out
      have hwb : Below w.heap.size w wr := HBX.out.trans (hGr.below (by omega) (fun q hq e => by omega))
      have HCS := Lib.hid (show ∀ i u, ((cells8 d).toList)[i]? = some u → wr.cell? ((ad.add (j * 32)).add i) = some u from fun i u hu => by
        rw [World.cell?_of_block (w := w) (w' := wr) (hwb.block _ (by rw [add_block, add_block]; exact hab))]
        exact hcs i u hu)
      obtain ⟨W1, hW1⟩ : ∃ W1, W1 = wr.alloc (.cells (cells8 d) 24) := ⟨_, rfl⟩
      have s1 : W1.heap.size = wr.heap.size + 1 := by rw [hW1]; exact size_alloc _ _
      have R1 : rowC W1 wr.heap.size (cells8 d) 24 := by rw [hW1]; exact rowC_new _ _ _
      have c1 : Chg (fun _ => False) wr W1 := by rw [hW1]; exact (Chg.refl _ _).alloc _
      have RB1 := c1.rowC hRb id
      obtain ⟨SB, hSB⟩ : ∃ SB : Nat → Prop, SB = fun q => q = (w.heap.size + 1) ∨ (Value.slice xi j ci).ownBlock = some q := ⟨_, rfl⟩
      have hb1 : ¬ SB wr.heap.size := by
        rw [hSB]
        rintro (e | e)
        · omega
        · have := (ho.lt _ e).2; omega
      have hsb0 : SB (w.heap.size + 1) := by rw [hSB]; exact .inl rfl
      have hsb1 : ∀ k, (Value.slice xi j ci).ownBlock = some k → SB k := fun k hk => by rw [hSB]; exact .inr hk
      clear hSB
      obtain ⟨X, hX⟩ : ∃ X, X = (cells8 d).toList := ⟨_, rfl⟩
      have hXa : X.toArray = cells8 d := by rw [hX]
      obtain ⟨K2, hK2⟩ : ∃ K2, K2 = (digJ d).kind := ⟨_, rfl⟩
      obtain ⟨T2, hT2⟩ : ∃ T2, T2 = str (digJ d).text := ⟨_, rfl⟩
      obtain ⟨N2, hN2⟩ : ∃ N2, N2 = (digJ d).items.length := ⟨_, rfl⟩
      obtain ⟨N3, hN3⟩ : ∃ N3, N3 = (digJ d).keys.length := ⟨_, rfl⟩
      have C4 : ∀ w', Gn W1 SB w' → Chg (fun _ => False) W1 w' → Calls Tryz.prog 62 #[.agg X.toArray] w' fun e w2 => ∃ y2 m2 y3 m3, e = .returned (.agg #[.int .i64 K2, .string T2, .slice y2 N2 m2, .slice y3 N3 m3]) ∧ HoldsC w2 (fun k => W1.heap.size ≤ k ∧ k < w2.heap.size) (digJ d) (.int .i64 K2) (.string T2) (.slice y2 N2 m2) (.slice y3 N3 m3) ∧ Chg (fun _ => False) W1 w2 ∧ Gn W1 SB w2 := fun w' hg hc => by
        rw [hXa, hK2, hT2, hN2, hN3]
        refine (digest_put d gd w').mono ?_
        rintro e w2 ⟨rfl, hb⟩
        have hV : HoldsC w2 (fun k => w'.heap.size ≤ k ∧ k < w2.heap.size) (digJ d) (.int .i64 (digJ d).kind) (.string (str (digJ d).text)) (.slice none (digJ d).items.length 0) (.slice none (digJ d).keys.length 0) := leaf_holds _ _ _ _ (by rw [textL_length, gd]; omega)
        exact ⟨none, 0, none, 0, rfl, HoldsC.mono (fun k hk hlt => ⟨Nat.le_trans hc.size hk.1, hlt⟩) _ _ _ _ _ hV, hc.trans (Chg.of_below hb) (fun _ _ h => h), Gn.call hg hb⟩
      have iD : (Tryz.prog.info? 24).map (·.size) = some X.length := by
        rw [hX, Array.length_toList]
        exact info_Gc d gd
      have OS : ∀ w', Gn W1 SB w' → w'.rangeAt wr.heap.size 0 X ∧ True := fun w' h => ⟨by rw [hX]; exact rowC_range (h.row R1 hb1) 0 _ (fun q u hq => by rw [Nat.zero_add, ← Array.getElem?_toList]; exact hq), trivial⟩
      have HGD := Lib.hid gd
      have HGR := Lib.hid hGr
      have HRB := Lib.hid hRb
      have HO := Lib.hid ho
      have HIT1 := Lib.hid hIt
      have HF1 := Lib.hid hF
      have HLN := Lib.hid hln
      have HXV := Lib.hid hd
      have HRB1 := Lib.hid RB1
      have HC1 := Lib.hid c1
      have HW1 := Lib.hid hW1
      have HEL := Lib.hid (show cells8 d = ((cells8 d).toList).toArray by simp)
      have HIL := Lib.hid (show (Tryz.prog.info? 24).map (·.size) = some ((cells8 d).toList).length by rw [Array.length_toList]; exact info_Gc d gd)
      have hjm : j ≤ 65536 := by omega
      clear hcs gd hGr hRb ho hIt hF hln hd R1 RB1 hW1 hwb HM hj hX hXa hK2 hT2 hN2 hN3
      go_upto_region 5 with (first
        | ((with_reducible show wpList _ _ _ (⟨some 14, .load _ _, _, _, _, _⟩ :: _) _ _); refine wpList_load_at rfl 24 _ rfl (ad.add (j * 32)) rfl ((cells8 d).toList) _ HCS.out Tryz.underlying24 rfl HIL.out ?_)
        | ((with_reducible show wpList _ _ _ (⟨none, .store _ (.tmp 7) _, _, _, _, _⟩ :: _) _ _); refine wpList_store_last rfl 24 _ _ rfl wr.heap.size (cells8 d) rfl rfl 24 (cells8 zero32) rfl (HID.out d HGD.out) (HSZ.out d HGD.out) (cells8_one _) ?_))
      rw [← HW1.out]
      have SO : ∀ w', Gn W1 SB w' → Gn W1 SB w' := fun _ h => h
      have uD := Tryz.underlying24
      refine wp_region_noPanic ?_
      refine wp_region_held_drew (S := Gn W1 SB) (by kernel_rfl) (Gn.start _ _) (fun hHeld => ?_)
      have HCD : Hid (Chg (fun _ => False) W1 W1.drew) := Lib.hid (Chg.refl _ _).drew
      have L1 : W1.drew.cell? ⟨(w.heap.size + 1), 2, none⟩ = some (.slice xi j ci) := rowC_cell (rowC_drew HRB1.out) 2
      generalize W1.drew = wd at *
      refine wpAnyH_take (i := 0) (oi := { dst := some 15, op := Op.fieldAddr 63 (Operand.tmp 5) 2, type := 0, pos := "oci.go:388", after := #[], guard := none }) (v := ?_) rfl (by kernel_rfl) (by kernel_rfl) (by kernel_rfl) (fun _ _ _ h => h) (Or.inl ⟨by rfl, ?_⟩) (by assumption) ?_
      rotate_left
      · intro w hSw
        skip
        clear hSw
        go_simp
        try with_reducible rfl
      try simp only [Act.put, List.setIfInBounds_toArray, List.set_cons_zero, List.set_cons_succ]
      refine wpAnyH_take (i := 2) (oi := { dst := some 17, op := Op.move (Operand.tmp 1), type := 112, pos := "oci.go:388", after := #[], guard := none }) (v := ?_) rfl (by kernel_rfl) (by kernel_rfl) (by kernel_rfl) (fun _ _ _ h => h) (Or.inl ⟨by rfl, ?_⟩) (by assumption) ?_
      rotate_left
      · intro w hSw
        skip
        clear hSw
        go_simp
        try with_reducible rfl
      try simp only [Act.put, List.setIfInBounds_toArray, List.set_cons_zero, List.set_cons_succ]
      refine wpAnyH_take (i := 3) (oi := { dst := some 18, op := Op.load 24 (Operand.tmp 7), type := 24, pos := "oci.go:388", after := #[], guard := none }) (v := _) rfl (by kernel_rfl) (by kernel_rfl) (by kernel_rfl) (fun _ _ _ h => h) (yieldsIf_load_mid (by rfl) _ _ rfl _ _ rfl _ _ (by intro w hSw; have hSw := OS _ hSw; go_split_ands; assumption) (by assumption) rfl (by assumption)) (by assumption) ?_
      try simp only [Act.put, List.setIfInBounds_toArray, List.set_cons_zero, List.set_cons_succ]
      refine wpAnyH_ready (rs := [1, 4]) (by kernel_rfl) (by simp) ?_
      refine (AllReadyH.cons (o := { dst := some 16, op := Op.load 60 (Operand.tmp 15), type := 60, pos := "oci.go:388", after := #[{ on := 0, ground := Ground.data }], guard := none }) rfl (fun K hK => ?_) (AllReadyH.cons (o := { dst := some 19, op := Op.call { callee := Callee.value (Operand.tmp 17), args := #[Operand.tmp 18], argTypes := #[24] }, type := 63, pos := "oci.go:388", after := #[{ on := 2, ground := Ground.data }, { on := 3, ground := Ground.data }], guard := none }) rfl (fun K hK => ?_) AllReadyH.nil))
      · skip
        go_simp
        refine hK.out _ _ (SO _ (by first | assumption | exact Gn.alloc (by assumption) _ | exact Gn.cell (by assumption) _ _ (.inl hsb0) | exact Gn.call (by assumption) (by assumption))) (fun hHeld => ?_)
        clear hK K
        try simp only [Act.put, List.setIfInBounds_toArray, List.set_cons_zero, List.set_cons_succ]
        refine wpAnyH_ready (rs := [4]) (by kernel_rfl) (by simp) ?_
        refine (AllReadyH.cons (o := { dst := some 19, op := Op.call { callee := Callee.value (Operand.tmp 17), args := #[Operand.tmp 18], argTypes := #[24] }, type := 63, pos := "oci.go:388", after := #[{ on := 2, ground := Ground.data }, { on := 3, ground := Ground.data }], guard := none }) rfl (fun K hK => ?_) AllReadyH.nil)
        go_simp
        with_reducible refine (C4 _ hHeld HCD.out).mono ?_
        rintro e w4' ⟨y2, m2, y3, m3, rfl, hx4, hc4, m4'⟩
        have s4 := hc4.size
        have L2 : w4'.cell? ⟨(w.heap.size + 1), 2, none⟩ = some (.slice xi j ci) := rowC_cell (hc4.rowC HRB1.out id) 2
        have L3 : ∀ o, (w4'.alloc o).cell? ⟨(w.heap.size + 1), 2, none⟩ = some (.slice xi j ci) := fun o => rowC_cell ((hc4.alloc o).rowC HRB1.out id) 2
        have OW : ∀ o, (w4'.alloc o).ownsRow wc.heap.size 63 4 (.slice xi j ci) j xs := fun o => ((HC1.out.trans hc4 (fun _ _ h => h)).alloc o).owns HO.out (fun _ _ h => h)
        have SG : ∀ o w7, (w4'.alloc o).grownBy w7 (Value.slice xi j ci).ownBlock → Gn W1 SB w7 := fun o w7 hg => grown_bc m4' hsb1 hg
        have SZ : ∀ o w7, (w4'.alloc o).grownBy w7 (Value.slice xi j ci).ownBlock → w7.cell? ⟨(w.heap.size + 1), 2, none⟩ = some (.slice xi j ci) ∧ w7.frozen? ⟨(w.heap.size + 1), 2, none⟩ = false := fun o w7 hg => grown_at HO.out (by omega) ((hc4.alloc o).rowC HRB1.out id) hg
        refine hK.out _ _ (SO _ (by assumption)) (fun hHeld => ?_)
        clear hK K
        try simp only [Act.put, List.setIfInBounds_toArray, List.set_cons_zero, List.set_cons_succ]
        refine wpAnyH_ready (rs := [5]) (by kernel_rfl) (by simp) ?_
        refine (AllReadyH.cons (o := { dst := some 20, op := Op.buildSlice 60 1 #[(0, Operand.tmp 19)], type := 60, pos := "oci.go:388", after := #[{ on := 4, ground := Ground.data }], guard := none }) rfl (fun K hK => ?_) AllReadyH.nil)
        skip
        go_simp
        refine hK.out _ _ (SO _ (by first | assumption | exact Gn.alloc (by assumption) _ | exact Gn.cell (by assumption) _ _ (.inl hsb0) | exact Gn.call (by assumption) (by assumption))) (fun hHeld => ?_)
        clear hK K
        try simp only [Act.put, List.setIfInBounds_toArray, List.set_cons_zero, List.set_cons_succ]
        refine wpAnyH_ready (rs := [6]) (by kernel_rfl) (by simp) ?_
        refine (AllReadyH.cons (o := { dst := some 21, op := Op.call { callee := Callee.builtin Builtin.append, args := #[Operand.tmp 16, Operand.tmp 20], argTypes := #[60, 60] }, type := 60, pos := "oci.go:388", after := #[{ on := 1, ground := Ground.data }, { on := 5, ground := Ground.data }, { on := 4, ground := Ground.chain }], guard := none }) rfl (fun K hK => ?_) AllReadyH.nil)
        refine step_append_lies _ (by rfl) _ _ 60 (by rfl) wc.heap.size 63 i0 (.agg #[.int .i64 0, .string ⟨#[]⟩, .slice none 0 0, .slice none 0 0]) 4 72 Tryz.underlying60 hi0 hz0 hz1 hz2 (by rfl) (by decide) (.slice xi j ci) j xs (by rfl) (OW _) ⟨w4'.heap.size, 0, none⟩ 1 1 [.int .i64 K2, .string T2, .slice y2 N2 m2, .slice y3 N3 m3] (by rfl) (by rfl) (World.news_of_block (heap_alloc_new w4' _)) (fun u hu => all_one4 u hu) (by decide) (by unfold maxLen; omega) (by omega) (by rw [size_alloc]; omega) _ rfl ?_
        intro g cap w7 hown7 hgrow7 hat7 hlt7
        have S7 := SG _ _ hgrow7
        obtain ⟨z2, y2f⟩ := SZ _ _ hgrow7
        refine hK.out _ _ (SO _ (by first | assumption | exact Gn.alloc (by assumption) _ | exact Gn.cell (by assumption) _ _ (.inl hsb0) | exact Gn.call (by assumption) (by assumption))) (fun hHeld => ?_)
        clear hK K
        try simp only [Act.put, List.setIfInBounds_toArray, List.set_cons_zero, List.set_cons_succ]
        refine wpAnyH_take (i := 7) (oi := { dst := some 22, op := Op.fieldAddr 63 (Operand.tmp 5) 2, type := 0, pos := "oci.go:388", after := #[{ on := 0, ground := Ground.phase }, { on := 1, ground := Ground.phase }, { on := 2, ground := Ground.phase }, { on := 3, ground := Ground.phase }, { on := 4, ground := Ground.phase }, { on := 5, ground := Ground.phase }, { on := 6, ground := Ground.phase }], guard := none }) (v := ?_) rfl (by kernel_rfl) (by kernel_rfl) (by kernel_rfl) (fun _ _ _ h => h) (Or.inl ⟨by rfl, ?_⟩) (by assumption) ?_
        rotate_left
        · intro w hSw
          skip
          clear hSw
          go_simp
          try with_reducible rfl
        try simp only [Act.put, List.setIfInBounds_toArray, List.set_cons_zero, List.set_cons_succ]
        refine wpAnyH_ready (rs := [8]) (by kernel_rfl) (by simp) ?_
        refine (AllReadyH.cons (o := { dst := none, op := Op.store 60 (Operand.tmp 22) (Operand.tmp 21), type := 0, pos := "oci.go:388", after := #[{ on := 7, ground := Ground.data }, { on := 6, ground := Ground.data }, { on := 6, ground := Ground.chain }, { on := 0, ground := Ground.phase }, { on := 1, ground := Ground.phase }, { on := 2, ground := Ground.phase }, { on := 3, ground := Ground.phase }, { on := 4, ground := Ground.phase }, { on := 5, ground := Ground.phase }, { on := 6, ground := Ground.phase }], guard := none }) rfl (fun K hK => ?_) AllReadyH.nil)
        skip
        go_simp
        refine hK.out _ _ (SO _ (by first | assumption | exact Gn.alloc (by assumption) _ | exact Gn.cell (by assumption) _ _ (.inl hsb0) | exact Gn.call (by assumption) (by assumption))) (fun hHeld => ?_)
        clear hK K
        try simp only [Act.put, List.setIfInBounds_toArray, List.set_cons_zero, List.set_cons_succ]
        refine wpAnyH_done (by kernel_rfl) ?_ _
        refine NoPanic.normal ?_
        go_wp2_with (fail)
        go_roundg (l.length - (j + 1))
        case measure => rw [HN.out]; omega
        case rel =>
          refine ⟨j + 1, rfl, Lib.hid rfl, Lib.hid (by omega), Lib.hid ?_⟩
          rw [take_one HXV.out, List.map_append]
          exact row_round rfl hbcl HGR.out HRB.out HO.out HIT1.out (fun q hq => ⟨(HF1.out q hq).1, id, (HF1.out q hq).2.2⟩) HLN.out HC1.out hc4 hx4 hown7 hgrow7 (by rw [size_alloc] at hat7; exact hat7)
      · go_simp
        with_reducible refine (C4 _ hHeld HCD.out).mono ?_
        rintro e w4' ⟨y2, m2, y3, m3, rfl, hx4, hc4, m4'⟩
        have s4 := hc4.size
        have L2 : w4'.cell? ⟨(w.heap.size + 1), 2, none⟩ = some (.slice xi j ci) := rowC_cell (hc4.rowC HRB1.out id) 2
        have L3 : ∀ o, (w4'.alloc o).cell? ⟨(w.heap.size + 1), 2, none⟩ = some (.slice xi j ci) := fun o => rowC_cell ((hc4.alloc o).rowC HRB1.out id) 2
        have OW : ∀ o, (w4'.alloc o).ownsRow wc.heap.size 63 4 (.slice xi j ci) j xs := fun o => ((HC1.out.trans hc4 (fun _ _ h => h)).alloc o).owns HO.out (fun _ _ h => h)
        have SG : ∀ o w7, (w4'.alloc o).grownBy w7 (Value.slice xi j ci).ownBlock → Gn W1 SB w7 := fun o w7 hg => grown_bc m4' hsb1 hg
        have SZ : ∀ o w7, (w4'.alloc o).grownBy w7 (Value.slice xi j ci).ownBlock → w7.cell? ⟨(w.heap.size + 1), 2, none⟩ = some (.slice xi j ci) ∧ w7.frozen? ⟨(w.heap.size + 1), 2, none⟩ = false := fun o w7 hg => grown_at HO.out (by omega) ((hc4.alloc o).rowC HRB1.out id) hg
        refine hK.out _ _ (SO _ (by assumption)) (fun hHeld => ?_)
        clear hK K
        try simp only [Act.put, List.setIfInBounds_toArray, List.set_cons_zero, List.set_cons_succ]
        refine wpAnyH_ready (rs := [1, 5]) (by kernel_rfl) (by simp) ?_
        refine (AllReadyH.cons (o := { dst := some 16, op := Op.load 60 (Operand.tmp 15), type := 60, pos := "oci.go:388", after := #[{ on := 0, ground := Ground.data }], guard := none }) rfl (fun K hK => ?_) (AllReadyH.cons (o := { dst := some 20, op := Op.buildSlice 60 1 #[(0, Operand.tmp 19)], type := 60, pos := "oci.go:388", after := #[{ on := 4, ground := Ground.data }], guard := none }) rfl (fun K hK => ?_) AllReadyH.nil))
        · skip
          go_simp
          refine hK.out _ _ (SO _ (by first | assumption | exact Gn.alloc (by assumption) _ | exact Gn.cell (by assumption) _ _ (.inl hsb0) | exact Gn.call (by assumption) (by assumption))) (fun hHeld => ?_)
          clear hK K
          try simp only [Act.put, List.setIfInBounds_toArray, List.set_cons_zero, List.set_cons_succ]
          refine wpAnyH_ready (rs := [5]) (by kernel_rfl) (by simp) ?_
          refine (AllReadyH.cons (o := { dst := some 20, op := Op.buildSlice 60 1 #[(0, Operand.tmp 19)], type := 60, pos := "oci.go:388", after := #[{ on := 4, ground := Ground.data }], guard := none }) rfl (fun K hK => ?_) AllReadyH.nil)
          skip
          go_simp
          refine hK.out _ _ (SO _ (by first | assumption | exact Gn.alloc (by assumption) _ | exact Gn.cell (by assumption) _ _ (.inl hsb0) | exact Gn.call (by assumption) (by assumption))) (fun hHeld => ?_)
          clear hK K
          try simp only [Act.put, List.setIfInBounds_toArray, List.set_cons_zero, List.set_cons_succ]
          refine wpAnyH_ready (rs := [6]) (by kernel_rfl) (by simp) ?_
          refine (AllReadyH.cons (o := { dst := some 21, op := Op.call { callee := Callee.builtin Builtin.append, args := #[Operand.tmp 16, Operand.tmp 20], argTypes := #[60, 60] }, type := 60, pos := "oci.go:388", after := #[{ on := 1, ground := Ground.data }, { on := 5, ground := Ground.data }, { on := 4, ground := Ground.chain }], guard := none }) rfl (fun K hK => ?_) AllReadyH.nil)
          refine step_append_lies _ (by rfl) _ _ 60 (by rfl) wc.heap.size 63 i0 (.agg #[.int .i64 0, .string ⟨#[]⟩, .slice none 0 0, .slice none 0 0]) 4 72 Tryz.underlying60 hi0 hz0 hz1 hz2 (by rfl) (by decide) (.slice xi j ci) j xs (by rfl) (OW _) ⟨w4'.heap.size, 0, none⟩ 1 1 [.int .i64 K2, .string T2, .slice y2 N2 m2, .slice y3 N3 m3] (by rfl) (by rfl) (World.news_of_block (heap_alloc_new w4' _)) (fun u hu => all_one4 u hu) (by decide) (by unfold maxLen; omega) (by omega) (by rw [size_alloc]; omega) _ rfl ?_
          intro g cap w7 hown7 hgrow7 hat7 hlt7
          have S7 := SG _ _ hgrow7
          obtain ⟨z2, y2f⟩ := SZ _ _ hgrow7
          refine hK.out _ _ (SO _ (by first | assumption | exact Gn.alloc (by assumption) _ | exact Gn.cell (by assumption) _ _ (.inl hsb0) | exact Gn.call (by assumption) (by assumption))) (fun hHeld => ?_)
          clear hK K
          try simp only [Act.put, List.setIfInBounds_toArray, List.set_cons_zero, List.set_cons_succ]
          refine wpAnyH_take (i := 7) (oi := { dst := some 22, op := Op.fieldAddr 63 (Operand.tmp 5) 2, type := 0, pos := "oci.go:388", after := #[{ on := 0, ground := Ground.phase }, { on := 1, ground := Ground.phase }, { on := 2, ground := Ground.phase }, { on := 3, ground := Ground.phase }, { on := 4, ground := Ground.phase }, { on := 5, ground := Ground.phase }, { on := 6, ground := Ground.phase }], guard := none }) (v := ?_) rfl (by kernel_rfl) (by kernel_rfl) (by kernel_rfl) (fun _ _ _ h => h) (Or.inl ⟨by rfl, ?_⟩) (by assumption) ?_
          rotate_left
          · intro w hSw
            skip
            clear hSw
            go_simp
            try with_reducible rfl
          try simp only [Act.put, List.setIfInBounds_toArray, List.set_cons_zero, List.set_cons_succ]
          refine wpAnyH_ready (rs := [8]) (by kernel_rfl) (by simp) ?_
          refine (AllReadyH.cons (o := { dst := none, op := Op.store 60 (Operand.tmp 22) (Operand.tmp 21), type := 0, pos := "oci.go:388", after := #[{ on := 7, ground := Ground.data }, { on := 6, ground := Ground.data }, { on := 6, ground := Ground.chain }, { on := 0, ground := Ground.phase }, { on := 1, ground := Ground.phase }, { on := 2, ground := Ground.phase }, { on := 3, ground := Ground.phase }, { on := 4, ground := Ground.phase }, { on := 5, ground := Ground.phase }, { on := 6, ground := Ground.phase }], guard := none }) rfl (fun K hK => ?_) AllReadyH.nil)
          skip
          go_simp
          refine hK.out _ _ (SO _ (by first | assumption | exact Gn.alloc (by assumption) _ | exact Gn.cell (by assumption) _ _ (.inl hsb0) | exact Gn.call (by assumption) (by assumption))) (fun hHeld => ?_)
          clear hK K
          try simp only [Act.put, List.setIfInBounds_toArray, List.set_cons_zero, List.set_cons_succ]
          refine wpAnyH_done (by kernel_rfl) ?_ _
          refine NoPanic.normal ?_
          go_wp2_with (fail)
          go_roundg (l.length - (j + 1))
          case measure => rw [HN.out]; omega
          case rel =>
            refine ⟨j + 1, rfl, Lib.hid rfl, Lib.hid (by omega), Lib.hid ?_⟩
            rw [take_one HXV.out, List.map_append]
            exact row_round rfl hbcl HGR.out HRB.out HO.out HIT1.out (fun q hq => ⟨(HF1.out q hq).1, id, (HF1.out q hq).2.2⟩) HLN.out HC1.out hc4 hx4 hown7 hgrow7 (by rw [size_alloc] at hat7; exact hat7)
        · skip
          go_simp
          refine hK.out _ _ (SO _ (by first | assumption | exact Gn.alloc (by assumption) _ | exact Gn.cell (by assumption) _ _ (.inl hsb0) | exact Gn.call (by assumption) (by assumption))) (fun hHeld => ?_)
          clear hK K
          try simp only [Act.put, List.setIfInBounds_toArray, List.set_cons_zero, List.set_cons_succ]
          refine wpAnyH_ready (rs := [1]) (by kernel_rfl) (by simp) ?_
          refine (AllReadyH.cons (o := { dst := some 16, op := Op.load 60 (Operand.tmp 15), type := 60, pos := "oci.go:388", after := #[{ on := 0, ground := Ground.data }], guard := none }) rfl (fun K hK => ?_) AllReadyH.nil)
          skip
          go_simp
          refine hK.out _ _ (SO _ (by first | assumption | exact Gn.alloc (by assumption) _ | exact Gn.cell (by assumption) _ _ (.inl hsb0) | exact Gn.call (by assumption) (by assumption))) (fun hHeld => ?_)
          clear hK K
          try simp only [Act.put, List.setIfInBounds_toArray, List.set_cons_zero, List.set_cons_succ]
          refine wpAnyH_ready (rs := [6]) (by kernel_rfl) (by simp) ?_
          refine (AllReadyH.cons (o := { dst := some 21, op := Op.call { callee := Callee.builtin Builtin.append, args := #[Operand.tmp 16, Operand.tmp 20], argTypes := #[60, 60] }, type := 60, pos := "oci.go:388", after := #[{ on := 1, ground := Ground.data }, { on := 5, ground := Ground.data }, { on := 4, ground := Ground.chain }], guard := none }) rfl (fun K hK => ?_) AllReadyH.nil)
          refine step_append_lies _ (by rfl) _ _ 60 (by rfl) wc.heap.size 63 i0 (.agg #[.int .i64 0, .string ⟨#[]⟩, .slice none 0 0, .slice none 0 0]) 4 72 Tryz.underlying60 hi0 hz0 hz1 hz2 (by rfl) (by decide) (.slice xi j ci) j xs (by rfl) (OW _) ⟨w4'.heap.size, 0, none⟩ 1 1 [.int .i64 K2, .string T2, .slice y2 N2 m2, .slice y3 N3 m3] (by rfl) (by rfl) (World.news_of_block (heap_alloc_new w4' _)) (fun u hu => all_one4 u hu) (by decide) (by unfold maxLen; omega) (by omega) (by rw [size_alloc]; omega) _ rfl ?_
          intro g cap w7 hown7 hgrow7 hat7 hlt7
          have S7 := SG _ _ hgrow7
          obtain ⟨z2, y2f⟩ := SZ _ _ hgrow7
          refine hK.out _ _ (SO _ (by first | assumption | exact Gn.alloc (by assumption) _ | exact Gn.cell (by assumption) _ _ (.inl hsb0) | exact Gn.call (by assumption) (by assumption))) (fun hHeld => ?_)
          clear hK K
          try simp only [Act.put, List.setIfInBounds_toArray, List.set_cons_zero, List.set_cons_succ]
          refine wpAnyH_take (i := 7) (oi := { dst := some 22, op := Op.fieldAddr 63 (Operand.tmp 5) 2, type := 0, pos := "oci.go:388", after := #[{ on := 0, ground := Ground.phase }, { on := 1, ground := Ground.phase }, { on := 2, ground := Ground.phase }, { on := 3, ground := Ground.phase }, { on := 4, ground := Ground.phase }, { on := 5, ground := Ground.phase }, { on := 6, ground := Ground.phase }], guard := none }) (v := ?_) rfl (by kernel_rfl) (by kernel_rfl) (by kernel_rfl) (fun _ _ _ h => h) (Or.inl ⟨by rfl, ?_⟩) (by assumption) ?_
          rotate_left
          · intro w hSw
            skip
            clear hSw
            go_simp
            try with_reducible rfl
          try simp only [Act.put, List.setIfInBounds_toArray, List.set_cons_zero, List.set_cons_succ]
          refine wpAnyH_ready (rs := [8]) (by kernel_rfl) (by simp) ?_
          refine (AllReadyH.cons (o := { dst := none, op := Op.store 60 (Operand.tmp 22) (Operand.tmp 21), type := 0, pos := "oci.go:388", after := #[{ on := 7, ground := Ground.data }, { on := 6, ground := Ground.data }, { on := 6, ground := Ground.chain }, { on := 0, ground := Ground.phase }, { on := 1, ground := Ground.phase }, { on := 2, ground := Ground.phase }, { on := 3, ground := Ground.phase }, { on := 4, ground := Ground.phase }, { on := 5, ground := Ground.phase }, { on := 6, ground := Ground.phase }], guard := none }) rfl (fun K hK => ?_) AllReadyH.nil)
          skip
          go_simp
          refine hK.out _ _ (SO _ (by first | assumption | exact Gn.alloc (by assumption) _ | exact Gn.cell (by assumption) _ _ (.inl hsb0) | exact Gn.call (by assumption) (by assumption))) (fun hHeld => ?_)
          clear hK K
          try simp only [Act.put, List.setIfInBounds_toArray, List.set_cons_zero, List.set_cons_succ]
          refine wpAnyH_done (by kernel_rfl) ?_ _
          refine NoPanic.normal ?_
          go_wp2_with (fail)
          go_roundg (l.length - (j + 1))
          case measure => rw [HN.out]; omega
          case rel =>
            refine ⟨j + 1, rfl, Lib.hid rfl, Lib.hid (by omega), Lib.hid ?_⟩
            rw [take_one HXV.out, List.map_append]
            exact row_round rfl hbcl HGR.out HRB.out HO.out HIT1.out (fun q hq => ⟨(HF1.out q hq).1, id, (HF1.out q hq).2.2⟩) HLN.out HC1.out hc4 hx4 hown7 hgrow7 (by rw [size_alloc] at hat7; exact hat7)
    · have hj1 : ¬ (j : Int) < (l.length : Int) := by omega
      obtain ⟨I, hGr, hRb, hRJ⟩ := HM.out
      have hln : l.take j = l := List.take_of_length_le (by omega)
      rw [hln] at hRJ
      have hJ := hRJ.holds
      obtain ⟨⟨xs, F, ho, _, _⟩, _⟩ := hRJ
      obtain ⟨xi, ci, rfl⟩ := owns_form ho
      have sB := HBX.out.size
      have sG := hGr.size
      have hbcl := HBC.out
      have hwb : Below w.heap.size w wr := HBX.out.trans (hGr.below (by omega) (fun q hq e => by omega))
      have hzr := hGr.rowC HZX.out (by omega)
      rw [List.length_map] at hRb hJ
      have HJ := Lib.hid hJ
      have HRB := Lib.hid hRb
      have HWB := Lib.hid hwb
      have HZR := Lib.hid hzr
      clear hGr hRb hJ ho hwb hzr HM hj
      go_wp2_with (first
        | ((with_reducible show wpList _ _ _ (⟨some 24, .load _ _, _, _, _, _⟩ :: _) _ _); refine wpList_load_row rfl 63 _ rfl (w.heap.size + 1) rfl 63 (row4 5 ⟨#[]⟩ xi l.length ci none 0 0) (0, 0) _ HRB.out Tryz.underlying63 rfl HI.out ?_)
        | ((with_reducible show wpList _ _ _ (⟨none, .store _ (.tmp 4) _, _, _, _, _⟩ :: _) _ _); refine wpList_store_row rfl 63 _ _ rfl w.heap.size (row4 5 ⟨#[]⟩ xi l.length ci none 0 0) rfl rfl 63 zeroV4 HZR.out HI.out rfl (row4_all _ _ _ _ _ _ _ _) ?_))
      refine bodyPost_ret (results_cell_row rfl _ _ w.heap.size 63 (row4 5 ⟨#[]⟩ xi l.length ci none 0 0) (0, 0) _ rfl (rowC_setRow HZR.out _) Tryz.underlying63 rfl HI.out) rfl ?_
      exact lst_putP HWB.out (Nat.le_refl _) (by rw [List.length_map]) HJ.out (by omega)
end Go.Proofs.YtlknngplnimdpaaGreatDoor

/- Layer 13: PutIndex. -/
namespace Go.Proofs.YtlknngplnimdpaaGreatDoor
open Go.RowKit

theorem okJ_lf (k : Int) (t : Bs) (h : k = 3 → t.length ≤ 70368744177664) : okJ (.mk k t [] []) := by
  rw [okJ]
  exact ⟨h, ⟨by simp, by simp, fun y hy => by cases hy⟩, okJL_of fun x hx => by cases hx⟩
theorem okJ_obj {l : List (Bs × JV)} (h1 : l.length ≤ 65536) (h2 : ∀ p ∈ l, p.1.length ≤ 262144 ∧ okJ p.2) : okJ (objJ l) := by
  unfold objJ
  rw [okJ]
  refine ⟨fun h => (by cases h), ⟨by rw [List.length_map]; exact h1, by rw [List.length_map]; exact h1, fun y hy => ?_⟩, okJL_of fun x hx => ?_⟩
  · obtain ⟨p, hp, rfl⟩ := List.mem_map.1 hy
    exact (h2 p hp).1
  · obtain ⟨p, hp, rfl⟩ := List.mem_map.1 hx
    exact (h2 p hp).2
theorem okJ_lst {l : List JV} (h1 : l.length ≤ 65536) (h2 : ∀ v ∈ l, okJ v) : okJ (lstJ l) := by
  unfold lstJ
  rw [okJ]
  exact ⟨fun h => (by cases h), ⟨h1, by simp, fun y hy => by cases hy⟩, okJL_of h2⟩
theorem okJ_num {n : Int} (h0 : -9223372036854775808 ≤ n) (h1 : n ≤ 9223372036854775807) : okJ (numJ n) := okJ_lf 3 _ fun _ => by have := Lib.itoa_length_le n h0 h1; omega
theorem okJ_txt (s : Bs) : okJ (txtJ s) := okJ_lf 4 _ fun h => by cases h
theorem okJ_bare {d : DV} (hd : putD d) : okJ (bareJ d) := okJ_obj (by show 3 ≤ 65536; omega) fun p hp => by
  simp only [fldJ, List.mem_cons, List.not_mem_nil, or_false] at hp
  rcases hp with rfl | rfl | rfl
  · exact ⟨Nat.le_of_ble_eq_true rfl, okJ_txt _⟩
  · exact ⟨Nat.le_of_ble_eq_true rfl, okJ_txt _⟩
  · exact ⟨Nat.le_of_ble_eq_true rfl, okJ_num hd.2.1 hd.2.2⟩
theorem okJ_pla (os arch : Bs) : okJ (plaJ os arch) := okJ_obj (by show 2 ≤ 65536; omega) fun p hp => by
  simp only [List.mem_cons, List.not_mem_nil, or_false] at hp
  rcases hp with rfl | rfl
  · exact ⟨Nat.le_of_ble_eq_true rfl, okJ_txt _⟩
  · exact ⟨Nat.le_of_ble_eq_true rfl, okJ_txt _⟩
theorem okJ_full {d : DV} (hd : putD d) : okJ (fullJ d) := okJ_obj (by show 4 ≤ 65536; omega) fun p hp => by
  simp only [fldJ, List.cons_append, List.nil_append, List.mem_cons, List.not_mem_nil, or_false] at hp
  rcases hp with rfl | rfl | rfl | rfl
  · exact ⟨Nat.le_of_ble_eq_true rfl, okJ_txt _⟩
  · exact ⟨Nat.le_of_ble_eq_true rfl, okJ_txt _⟩
  · exact ⟨Nat.le_of_ble_eq_true rfl, okJ_num hd.2.1 hd.2.2⟩
  · exact ⟨Nat.le_of_ble_eq_true rfl, okJ_pla _ _⟩
theorem okJ_idx {l : List DV} (hl : l.length ≤ 32) (hp : ∀ d ∈ l, putD d) : okJ (idxJ l) := okJ_obj (by show 3 ≤ 65536; omega) fun p hq => by
  simp only [List.mem_cons, List.not_mem_nil, or_false] at hq
  rcases hq with rfl | rfl | rfl
  · exact ⟨Nat.le_of_ble_eq_true rfl, okJ_num (by omega) (by omega)⟩
  · exact ⟨Nat.le_of_ble_eq_true rfl, okJ_txt _⟩
  · refine ⟨Nat.le_of_ble_eq_true rfl, okJ_lst (by rw [List.length_map]; omega) fun v hv => ?_⟩
    obtain ⟨d, hd, rfl⟩ := List.mem_map.1 hv
    exact okJ_full (hp d hd)
theorem fldr3 {w : World} {g B : Nat} {k1 k2 k3 : Bs} {v1 v2 v3 : JV} {a1 b1 c1 d1 a2 b2 c2 d2 a3 b3 c3 d3 : Value} (h : rowC w g #[.string (str k1), a1, b1, c1, d1, .string (str k2), a2, b2, c2, d2, .string (str k3), a3, b3, c3, d3] 102) (hg : g < w.heap.size)
    (h1 : HoldsC w (fun q => B ≤ q ∧ q < w.heap.size) v1 a1 b1 c1 d1) (h2 : HoldsC w (fun q => B ≤ q ∧ q < w.heap.size) v2 a2 b2 c2 d2) (h3 : HoldsC w (fun q => B ≤ q ∧ q < w.heap.size) v3 a3 b3 c3 d3) : FldR w B [(k1, v1), (k2, v2), (k3, v3)] (some ⟨g, 0, none⟩) := by
  intro i k v hi
  rcases i with _ | _ | _ | i
  · simp only [List.getElem?_cons_zero, Option.some.injEq, Prod.mk.injEq] at hi
    obtain ⟨rfl, rfl⟩ := hi
    refine ⟨⟨g, 0, none⟩, _, _, _, _, rfl, hg, ?_, h1⟩
    intro j u hu
    rcases j with _ | _ | _ | _ | _ | j
    · exact (rowC_cell h 0).trans hu
    · exact (rowC_cell h 1).trans hu
    · exact (rowC_cell h 2).trans hu
    · exact (rowC_cell h 3).trans hu
    · exact (rowC_cell h 4).trans hu
    · simp at hu
  · simp only [List.getElem?_cons_succ, List.getElem?_cons_zero, Option.some.injEq, Prod.mk.injEq] at hi
    obtain ⟨rfl, rfl⟩ := hi
    refine ⟨⟨g, 0, none⟩, _, _, _, _, rfl, hg, ?_, h2⟩
    intro j u hu
    rcases j with _ | _ | _ | _ | _ | j
    · exact (rowC_cell h 5).trans hu
    · exact (rowC_cell h 6).trans hu
    · exact (rowC_cell h 7).trans hu
    · exact (rowC_cell h 8).trans hu
    · exact (rowC_cell h 9).trans hu
    · simp at hu
  · simp only [List.getElem?_cons_succ, List.getElem?_cons_zero, Option.some.injEq, Prod.mk.injEq] at hi
    obtain ⟨rfl, rfl⟩ := hi
    refine ⟨⟨g, 0, none⟩, _, _, _, _, rfl, hg, ?_, h3⟩
    intro j u hu
    rcases j with _ | _ | _ | _ | _ | j
    · exact (rowC_cell h 10).trans hu
    · exact (rowC_cell h 11).trans hu
    · exact (rowC_cell h 12).trans hu
    · exact (rowC_cell h 13).trans hu
    · exact (rowC_cell h 14).trans hu
    · simp at hu
  · simp at hi
@[reducible] def idxC (y : Option Addr) (N m : Nat) (z : Option Addr) (n : Nat) : Array Value := #[.string ⟨#[115, 99, 104, 101, 109, 97, 86, 101, 114, 115, 105, 111, 110]⟩, .int .i64 3, .string (str (Lib.itoa 2)), .slice none 0 0, .slice none 0 0, .string ⟨#[109, 101, 100, 105, 97, 84, 121, 112, 101]⟩, .int .i64 4, .string ⟨#[97, 112, 112, 108, 105, 99, 97, 116, 105, 111, 110, 47, 118, 110, 100, 46, 111, 99, 105, 46, 105, 109, 97, 103, 101, 46, 105, 110, 100, 101, 120, 46, 118, 49, 43, 106, 115, 111, 110]⟩, .slice none 0 0, .slice none 0 0, .string ⟨#[109, 97, 110, 105, 102, 101, 115, 116, 115]⟩, .int .i64 5, .string ⟨#[]⟩, .slice y N m, .slice z 0 n]
set_option maxRecDepth 100000 in
set_option maxHeartbeats 16000000 in
theorem putIndex_any (l : List DV) (x : Option Addr) (cc : Nat) (w : World) (hE : Env2 w) (hl : l.length ≤ 70368744177664) (hp : ∀ d ∈ l, putD d) (hL : eDess.at_ w (fun k => k < w.heap.size) l (.slice x l.length cc)) :
    Calls Tryz.prog 20 #[.slice x l.length cc] w fun e w' => e = .returned (.tuple #[.string (str (idxA l).1), .int .i64 ((idxA l).2 : Int)]) ∧ Below w.heap.size w w' := by
  obtain ⟨R, hR⟩ : ∃ R, R = idxA l := ⟨_, rfl⟩
  rw [← hR]
  have HR := Lib.hid hR
  have CM := omayBe_any l x cc w hE hl hL
  obtain ⟨M, hM⟩ : ∃ M, M = l.all mayD := ⟨_, rfl⟩
  rw [← hM] at CM
  have HM := Lib.hid hM
  have HE := Lib.hid hE
  have HP := Lib.hid hp
  have HL := Lib.hid hL
  clear hR hM hE hp hL
  go_enter Tryz.func20, Tryz.ntmps20
  cases M with
  | false =>
    have e0 : Hid (R = ([], 2)) := Lib.hid (by rw [HR.out]; unfold idxA; rw [if_pos HM.out.symm])
    go_wp2_with (go_at_call 49; ((with_reducible refine CM.mono ?_); rintro e w2 ⟨rfl, hb2⟩))
    go_ret2
    rw [e0.out]
    exact ⟨rfl, hb2⟩
  | true =>
    by_cases h32 : 32 < l.length
    · have e0 : Hid (R = ([], 63)) := Lib.hid (by rw [HR.out]; unfold idxA; rw [if_neg (by rw [← HM.out]; simp), if_pos h32])
      have h32' : (32 : Int) < (l.length : Int) := by omega
      go_wp2_with (go_at_call 49; ((with_reducible refine CM.mono ?_); rintro e w2 ⟨rfl, hb2⟩))
      go_ret2
      rw [e0.out]
      exact ⟨rfl, hb2⟩
    have e0 : Hid (R = printA (idxJ l)) := Lib.hid (by rw [HR.out]; unfold idxA; rw [if_neg (by rw [← HM.out]; simp), if_neg h32])
    have h32' : ¬ (32 : Int) < (l.length : Int) := by omega
    go_upto_region 5 with (go_at_call 49; ((with_reducible refine CM.mono ?_); rintro e w2 ⟨rfl, hb2⟩; have HB2 := Lib.hid hb2; clear hb2))
    have s2 := HB2.out.size
    have HBW : ∀ w', Gn w2 no w' → Below w.heap.size w w' := fun w' hg => HB2.out.trans ((hg.below (B := w.heap.size) s2 (fun _ _ h => h)))
    have CV : ∀ w', Gn w2 no w' → Calls Tryz.prog 51 #[.int .i64 2] w' fun e w3 => e = .returned (.agg #[.int .i64 3, .string (str (Lib.itoa 2)), .slice none 0 0, .slice none 0 0]) ∧ Gn w2 no w3 := fun w' hg =>
      (number_put 2 (by omega) (by omega) w' (HE.out.below (HBW w' hg))).mono (fun e w3 h => ⟨h.1, hg.call h.2⟩)
    have CT : ∀ w', Gn w2 no w' → Calls Tryz.prog 52 #[.string ⟨#[97, 112, 112, 108, 105, 99, 97, 116, 105, 111, 110, 47, 118, 110, 100, 46, 111, 99, 105, 46, 105, 109, 97, 103, 101, 46, 105, 110, 100, 101, 120, 46, 118, 49, 43, 106, 115, 111, 110]⟩] w' fun e w3 => e = .returned (.agg #[.int .i64 4, .string ⟨#[97, 112, 112, 108, 105, 99, 97, 116, 105, 111, 110, 47, 118, 110, 100, 46, 111, 99, 105, 46, 105, 109, 97, 103, 101, 46, 105, 110, 100, 101, 120, 46, 118, 49, 43, 106, 115, 111, 110]⟩, .slice none 0 0, .slice none 0 0]) ∧ Gn w2 no w3 := fun w' hg =>
      (text_put mIdx w').mono (fun e w3 h => ⟨h.1, hg.call h.2⟩)
    have CL : ∀ w', Gn w2 no w' → Calls Tryz.prog 54 #[.slice x l.length cc, .func (.func 59) #[] #[]] w' fun e w3 => ∃ y m z n, e = .returned (.agg #[.int .i64 5, .string ⟨#[]⟩, .slice y l.length m, .slice z 0 n]) ∧ HoldsC w3 (fun q => w.heap.size ≤ q ∧ q < w3.heap.size) (lstJ (l.map fullJ)) (.int .i64 5) (.string ⟨#[]⟩) (.slice y l.length m) (.slice z 0 n) ∧ Gn w2 no w3 := fun w' hg => by
      have hb := HBW w' hg
      refine (lsput_des putF_des l x cc w' (HE.out.below hb) (by omega) HP.out (eDess.mono (eDess.chg HL.out (Chg.of_below (s := no) hb) (fun _ _ h => h)) (fun k hk _ => Nat.lt_of_lt_of_le hk hb.size))).mono ?_
      rintro e w3 ⟨y, m, z, n, rfl, hV, hb3⟩
      have e1 : (lstJ (l.map fullJ)).items.length = l.length := by unfold lstJ; simp [JV.items]
      rw [e1] at hV ⊢
      exact ⟨y, m, z, n, rfl, HoldsC.mono (fun k hk hlt => ⟨Nat.le_trans hb.size hk.1, hlt⟩) _ _ _ _ _ hV, hg.call hb3⟩
    have CO : ∀ w' b y m z n, Gn w2 no w' → rowC w' b (idxC y l.length m z n) 102 → b < w'.heap.size → HoldsC w' (fun q => w.heap.size ≤ q ∧ q < w'.heap.size) (lstJ (l.map fullJ)) (.int .i64 5) (.string ⟨#[]⟩) (.slice y l.length m) (.slice z 0 n) → Calls Tryz.prog 50 #[.slice (some ⟨b, 0, none⟩) 3 3] w' fun e w3 => ∃ y m z n, e = .returned (.agg #[.int .i64 6, .string ⟨#[]⟩, .slice y 3 m, .slice z 3 n]) ∧ HoldsC w3 (fun q => q < w3.heap.size) (idxJ l) (.int .i64 6) (.string ⟨#[]⟩) (.slice y 3 m) (.slice z 3 n) ∧ Gn w2 no w3 := fun w' b y m z n hg h1 h2 h3 => by
      have hb := HBW w' hg
      refine (object_put [(kVer, numJ 2), (kMed, txtJ mIdx), (kMan, lstJ (l.map fullJ))] w.heap.size _ 3 w' hb.size (by show 3 ≤ 1000; omega) (fldr3 (k1 := kVer) (k2 := kMed) (k3 := kMan) h1 h2 (leaf_holds _ _ 3 (Lib.itoa 2) (by have := Lib.itoa_length_le 2 (by omega) (by omega); omega)) (leaf_holds _ _ 4 mIdx (by decide)) h3)).mono ?_
      rintro e w3 ⟨y, m, z, n, rfl, hV, hb3⟩
      exact ⟨y, m, z, n, rfl, HoldsC.mono (fun k hk hlt => hlt) _ _ _ _ _ hV, hg.call hb3⟩
    have CP : ∀ w' y m z n, Gn w2 no w' → HoldsC w' (fun q => q < w'.heap.size) (idxJ l) (.int .i64 6) (.string ⟨#[]⟩) (.slice y 3 m) (.slice z 3 n) → Calls Tryz.prog 29 #[.agg #[.int .i64 6, .string ⟨#[]⟩, .slice y 3 m, .slice z 3 n]] w' fun e w3 => e = .returned (.tuple #[.string (str R.1), .int .i64 (R.2 : Int)]) ∧ Gn w2 no w3 := fun w' y m z n hg hV => by
      rw [e0.out]
      refine (print_any (okJ_idx (by omega) HP.out) (HE.out.below (HBW w' hg)).env hV).mono ?_
      rintro e w3 ⟨rfl, hb3⟩
      exact ⟨rfl, hg.call hb3⟩
    have HBB := Lib.hid HBW
    clear HBW
    go_wp2_with (first
      | (go_at_call 51; ((with_reducible refine (CV _ (Gn.refl _ _)).mono ?_); rintro e v0 ⟨rfl, g0⟩))
      | (go_at_call 52; ((with_reducible refine (CT _ g0).mono ?_); rintro e v2 ⟨rfl, g2⟩))
      | (go_at_call 54; ((with_reducible refine (CL _ g2).mono ?_); rintro e v5 ⟨y, m, z, n, rfl, h5, g5⟩; have H5 := Lib.hid h5; clear h5))
      | (go_at_call 50; ((with_reducible refine (CO _ _ _ _ _ _ (Gn.alloc g5 _) (rowC_new _ _ _) (by rw [size_alloc]; omega) (HoldsC.mono (fun k hk _ => ⟨hk.1, by rw [size_alloc]; have := hk.2; omega⟩) _ _ _ _ _ (HoldsC.chg ((Chg.refl (fun _ => False) _).alloc _) (fun _ _ h => h) _ _ _ _ _ H5.out))).mono ?_); rintro e v8 ⟨y8, m8, z8, n8, rfl, h8, g8⟩; have H8 := Lib.hid h8; clear h8))
      | (go_at_call 29; ((with_reducible refine (CP _ _ _ _ _ g8 H8.out).mono ?_); rintro e v9 ⟨rfl, g9⟩)))
    go_ret2
    exact ⟨rfl, HBB.out _ g9⟩
end Go.Proofs.YtlknngplnimdpaaGreatDoor

/- Layer 13: PutImage. -/
namespace Go.Proofs.YtlknngplnimdpaaGreatDoor
open Go.RowKit

theorem fldr2 {w : World} {g B : Nat} {k1 k2 : Bs} {v1 v2 : JV} {a1 b1 c1 d1 a2 b2 c2 d2 : Value} (h : rowC w g #[.string (str k1), a1, b1, c1, d1, .string (str k2), a2, b2, c2, d2] 102) (hg : g < w.heap.size)
    (h1 : HoldsC w (fun q => B ≤ q ∧ q < w.heap.size) v1 a1 b1 c1 d1) (h2 : HoldsC w (fun q => B ≤ q ∧ q < w.heap.size) v2 a2 b2 c2 d2) : FldR w B [(k1, v1), (k2, v2)] (some ⟨g, 0, none⟩) := by
  intro i k v hi
  rcases i with _ | _ | i
  · simp only [List.getElem?_cons_zero, Option.some.injEq, Prod.mk.injEq] at hi
    obtain ⟨rfl, rfl⟩ := hi
    refine ⟨⟨g, 0, none⟩, _, _, _, _, rfl, hg, ?_, h1⟩
    intro j u hu
    rcases j with _ | _ | _ | _ | _ | j
    · exact (rowC_cell h 0).trans hu
    · exact (rowC_cell h 1).trans hu
    · exact (rowC_cell h 2).trans hu
    · exact (rowC_cell h 3).trans hu
    · exact (rowC_cell h 4).trans hu
    · simp at hu
  · simp only [List.getElem?_cons_succ, List.getElem?_cons_zero, Option.some.injEq, Prod.mk.injEq] at hi
    obtain ⟨rfl, rfl⟩ := hi
    refine ⟨⟨g, 0, none⟩, _, _, _, _, rfl, hg, ?_, h2⟩
    intro j u hu
    rcases j with _ | _ | _ | _ | _ | j
    · exact (rowC_cell h 5).trans hu
    · exact (rowC_cell h 6).trans hu
    · exact (rowC_cell h 7).trans hu
    · exact (rowC_cell h 8).trans hu
    · exact (rowC_cell h 9).trans hu
    · simp at hu
  · simp at hi
def rooJ (l : List Bs) : JV := objJ [(kTyp, txtJ kLay), (kDif, lstJ (l.map digJ))]
theorem okJ_roo {l : List Bs} (hl : l.length ≤ 8) : okJ (rooJ l) := okJ_obj (by show 2 ≤ 65536; omega) fun p hq => by
  simp only [List.mem_cons, List.not_mem_nil, or_false] at hq
  rcases hq with rfl | rfl
  · exact ⟨Nat.le_of_ble_eq_true rfl, okJ_txt _⟩
  · refine ⟨Nat.le_of_ble_eq_true rfl, okJ_lst (by rw [List.length_map]; omega) fun v hv => ?_⟩
    obtain ⟨d, hd, rfl⟩ := List.mem_map.1 hv
    exact okJ_txt _
theorem okJ_img {p : Bs × Bs} {l : List Bs} (hl : l.length ≤ 8) : okJ (imgJ p l) := okJ_obj (by show 3 ≤ 65536; omega) fun q hq => by
  simp only [List.mem_cons, List.not_mem_nil, or_false] at hq
  rcases hq with rfl | rfl | rfl
  · exact ⟨Nat.le_of_ble_eq_true rfl, okJ_txt _⟩
  · exact ⟨Nat.le_of_ble_eq_true rfl, okJ_txt _⟩
  · exact ⟨Nat.le_of_ble_eq_true rfl, okJ_roo hl⟩
@[reducible] def rooC (y : Option Addr) (N m : Nat) (z : Option Addr) (n : Nat) : Array Value := #[.string ⟨#[116, 121, 112, 101]⟩, .int .i64 4, .string ⟨#[108, 97, 121, 101, 114, 115]⟩, .slice none 0 0, .slice none 0 0, .string ⟨#[100, 105, 102, 102, 95, 105, 100, 115]⟩, .int .i64 5, .string ⟨#[]⟩, .slice y N m, .slice z 0 n]
@[reducible] def imgC (p : Bs × Bs) (y : Option Addr) (m : Nat) (z : Option Addr) (n : Nat) : Array Value := #[.string ⟨#[97, 114, 99, 104, 105, 116, 101, 99, 116, 117, 114, 101]⟩, .int .i64 4, .string (str p.2), .slice none 0 0, .slice none 0 0, .string ⟨#[111, 115]⟩, .int .i64 4, .string (str p.1), .slice none 0 0, .slice none 0 0, .string ⟨#[114, 111, 111, 116, 102, 115]⟩, .int .i64 6, .string ⟨#[]⟩, .slice y 2 m, .slice z 2 n]
set_option maxRecDepth 100000 in
set_option maxHeartbeats 16000000 in
theorem putImage_any (p : Bs × Bs) (l : List Bs) (x : Option Addr) (cc : Nat) (w : World) (hE : Env2 w) (hl : l.length ≤ 70368744177664) (h1 : p.1.length ≤ 281474976710656) (h2 : p.2.length ≤ 281474976710656) (hL : eDigs.at_ w (fun k => k < w.heap.size) l (.slice x l.length cc)) :
    Calls Tryz.prog 22 #[.agg (row3 (str p.1) (str p.2) x l.length cc)] w fun e w' => e = .returned (.tuple #[.string (str (imgA p l).1), .int .i64 ((imgA p l).2 : Int)]) ∧ Below w.heap.size w w' := by
  obtain ⟨R, hR⟩ : ∃ R, R = imgA p l := ⟨_, rfl⟩
  rw [← hR]
  have HR := Lib.hid hR
  obtain ⟨W0, hW0⟩ : ∃ W0, W0 = w.alloc (.cells (row3 (str p.1) (str p.2) x l.length cc) 39) := ⟨_, rfl⟩
  have R0 : rowC W0 w.heap.size (row3 (str p.1) (str p.2) x l.length cc) 39 := by rw [hW0]; exact rowC_new w _ _
  have B0 : Below w.heap.size w W0 := by rw [hW0]; exact (Below.refl _ _).alloc (Nat.le_refl _) _
  have S0 : W0.heap.size = w.heap.size + 1 := by rw [hW0, size_alloc]
  have CI : Calls Tryz.prog 60 #[.agg #[.string (str p.1), .string (str p.2)]] W0 fun e w' => e = .returned (.bool (Lib.validD p.1 && Lib.validD p.2)) ∧ Below W0.heap.size W0 w' := isText_any p h1 h2 W0 (hE.below B0)
  obtain ⟨M, hM⟩ : ∃ M, M = (Lib.validD p.1 && Lib.validD p.2) := ⟨_, rfl⟩
  rw [← hM] at CI
  have HM := Lib.hid hM
  have HE := Lib.hid hE
  have HL := Lib.hid hL
  have HW0 := Lib.hid hW0
  have HR0 := Lib.hid R0
  have HB0 := Lib.hid B0
  have HIP := Lib.hid info_P
  have HP1 := Lib.hid h1
  have HP2 := Lib.hid h2
  have RG := Lib.hid (rowC_range R0 0 [.string (str p.1), .string (str p.2)] (fun i u hu => by
    rw [Nat.zero_add]
    rcases i with _ | _ | i
    · exact hu
    · exact hu
    · simp at hu))
  clear hR hM hE hL hW0 R0 B0 h1 h2
  go_enter Tryz.func22, Tryz.ntmps22
  go_upto_region 1 with (fail)
  rw [show w.alloc (.cells (row3 (str p.1) (str p.2) x l.length cc) 39) = W0 from HW0.out.symm]
  cases M with
  | false =>
    have e0 : Hid (R = ([], 2)) := Lib.hid (by rw [HR.out]; unfold imgA; rw [if_pos HM.out.symm])
    go_wp2_with (first
      | ((with_reducible show wpList _ _ _ (⟨some 5, .load _ _, _, _, _, _⟩ :: _) _ _); refine wpList_load_mid rfl 26 _ rfl w.heap.size 0 rfl [.string (str p.1), .string (str p.2)] _ RG.out Tryz.underlying26 rfl HIP.out ?_)
      | (go_at_call 60; ((with_reducible refine CI.mono ?_); rintro e w2 ⟨rfl, hb2⟩)))
    go_ret2
    rw [e0.out]
    exact ⟨rfl, HB0.out.trans (hb2.mono (by omega))⟩
  | true =>
    go_upto_region 3 with (first
      | ((with_reducible show wpList _ _ _ (⟨some 5, .load _ _, _, _, _, _⟩ :: _) _ _); refine wpList_load_mid rfl 26 _ rfl w.heap.size 0 rfl [.string (str p.1), .string (str p.2)] _ RG.out Tryz.underlying26 rfl HIP.out ?_)
      | (go_at_call 60; ((with_reducible refine CI.mono ?_); rintro e w2 ⟨rfl, hb2⟩; have HB2 := Lib.hid hb2; clear hb2)))
    have s2 := HB2.out.size
    have R2 := rowC_below HR0.out HB2.out (rowC_lt HR0.out)
    have q2 : w2.cell? ⟨w.heap.size, 2, none⟩ = some (.slice x l.length cc) := rowC_cell R2 2
    have HR2 := Lib.hid R2
    clear R2
    by_cases h8 : 8 < l.length
    · have e0 : Hid (R = ([], 63)) := Lib.hid (by rw [HR.out]; unfold imgA; rw [if_neg (by have := HM.out; simp at this; simp [this]), if_pos h8])
      have h8' : (8 : Int) < (l.length : Int) := by omega
      go_wp2
      go_ret2
      rw [e0.out]
      exact ⟨rfl, HB0.out.trans (HB2.out.mono (by omega))⟩
    have e0 : Hid (R = printA (imgJ p l)) := Lib.hid (by rw [HR.out]; unfold imgA; rw [if_neg (by have := HM.out; simp at this; simp [this]), if_neg h8])
    have h8' : ¬ (8 : Int) < (l.length : Int) := by omega
    go_upto_region 5 with (fail)
    have HBW : ∀ w', Gn w2 no w' → Below w.heap.size w w' := fun w' hg => (HB0.out.trans (HB2.out.mono (by omega))).trans ((hg.below (B := w.heap.size) (by omega) (fun _ _ h => h)))
    have CA : ∀ w', Gn w2 no w' → Calls Tryz.prog 52 #[.string (str p.2)] w' fun e w3 => e = .returned (.agg #[.int .i64 4, .string (str p.2), .slice none 0 0, .slice none 0 0]) ∧ Gn w2 no w3 := fun w' hg =>
      (text_put p.2 w').mono (fun e w3 h => ⟨h.1, hg.call h.2⟩)
    have CT : ∀ w', Gn w2 no w' → Calls Tryz.prog 52 #[.string (str p.1)] w' fun e w3 => e = .returned (.agg #[.int .i64 4, .string (str p.1), .slice none 0 0, .slice none 0 0]) ∧ Gn w2 no w3 := fun w' hg =>
      (text_put p.1 w').mono (fun e w3 h => ⟨h.1, hg.call h.2⟩)
    have CK : ∀ w', Gn w2 no w' → Calls Tryz.prog 52 #[.string ⟨#[108, 97, 121, 101, 114, 115]⟩] w' fun e w3 => e = .returned (.agg #[.int .i64 4, .string ⟨#[108, 97, 121, 101, 114, 115]⟩, .slice none 0 0, .slice none 0 0]) ∧ Gn w2 no w3 := fun w' hg =>
      (text_put kLay w').mono (fun e w3 h => ⟨h.1, hg.call h.2⟩)
    have CL : ∀ w', Gn w2 no w' → Calls Tryz.prog 61 #[.slice x l.length cc, .func (.func 62) #[] #[]] w' fun e w3 => ∃ y m z n, e = .returned (.agg #[.int .i64 5, .string ⟨#[]⟩, .slice y l.length m, .slice z 0 n]) ∧ HoldsC w3 (fun q => w.heap.size ≤ q ∧ q < w3.heap.size) (lstJ (l.map digJ)) (.int .i64 5) (.string ⟨#[]⟩) (.slice y l.length m) (.slice z 0 n) ∧ Gn w2 no w3 := fun w' hg => by
      have hb := HBW w' hg
      refine (lsput_dig l x cc w' (HE.out.below hb) (by omega) (eDigs.mono (eDigs.chg HL.out (Chg.of_below (s := no) hb) (fun _ _ h => h)) (fun k hk _ => Nat.lt_of_lt_of_le hk hb.size))).mono ?_
      rintro e w3 ⟨y, m, z, n, rfl, hV, hb3⟩
      have e1 : (lstJ (l.map digJ)).items.length = l.length := by unfold lstJ; simp [JV.items]
      rw [e1] at hV ⊢
      exact ⟨y, m, z, n, rfl, HoldsC.mono (fun k hk hlt => ⟨Nat.le_trans hb.size hk.1, hlt⟩) _ _ _ _ _ hV, hg.call hb3⟩
    have CO : ∀ w' b y m z n, Gn w2 no w' → rowC w' b (rooC y l.length m z n) 102 → b < w'.heap.size → HoldsC w' (fun q => w.heap.size ≤ q ∧ q < w'.heap.size) (lstJ (l.map digJ)) (.int .i64 5) (.string ⟨#[]⟩) (.slice y l.length m) (.slice z 0 n) → Calls Tryz.prog 50 #[.slice (some ⟨b, 0, none⟩) 2 2] w' fun e w3 => ∃ y m z n, e = .returned (.agg #[.int .i64 6, .string ⟨#[]⟩, .slice y 2 m, .slice z 2 n]) ∧ HoldsC w3 (fun q => w.heap.size ≤ q ∧ q < w3.heap.size) (rooJ l) (.int .i64 6) (.string ⟨#[]⟩) (.slice y 2 m) (.slice z 2 n) ∧ Gn w2 no w3 := fun w' b y m z n hg h1 h2 h3 => by
      have hb := HBW w' hg
      refine (object_put [(kTyp, txtJ kLay), (kDif, lstJ (l.map digJ))] w.heap.size _ 2 w' hb.size (by show 2 ≤ 1000; omega) (fldr2 (k1 := kTyp) (k2 := kDif) h1 h2 (leaf_holds _ _ 4 kLay (by decide)) h3)).mono ?_
      rintro e w3 ⟨y, m, z, n, rfl, hV, hb3⟩
      exact ⟨y, m, z, n, rfl, hV, hg.call hb3⟩
    have CQ : ∀ w' b y m z n, Gn w2 no w' → rowC w' b (imgC p y m z n) 102 → b < w'.heap.size → HoldsC w' (fun q => w.heap.size ≤ q ∧ q < w'.heap.size) (rooJ l) (.int .i64 6) (.string ⟨#[]⟩) (.slice y 2 m) (.slice z 2 n) → Calls Tryz.prog 50 #[.slice (some ⟨b, 0, none⟩) 3 3] w' fun e w3 => ∃ y m z n, e = .returned (.agg #[.int .i64 6, .string ⟨#[]⟩, .slice y 3 m, .slice z 3 n]) ∧ HoldsC w3 (fun q => q < w3.heap.size) (imgJ p l) (.int .i64 6) (.string ⟨#[]⟩) (.slice y 3 m) (.slice z 3 n) ∧ Gn w2 no w3 := fun w' b y m z n hg h1 h2 h3 => by
      have hb := HBW w' hg
      refine (object_put [(kArc, txtJ p.2), (kOS, txtJ p.1), (kRoo, rooJ l)] w.heap.size _ 3 w' hb.size (by show 3 ≤ 1000; omega) (fldr3 (k1 := kArc) (k2 := kOS) (k3 := kRoo) h1 h2 (leaf_holds _ _ 4 p.2 HP2.out) (leaf_holds _ _ 4 p.1 HP1.out) h3)).mono ?_
      rintro e w3 ⟨y, m, z, n, rfl, hV, hb3⟩
      exact ⟨y, m, z, n, rfl, HoldsC.mono (fun k hk hlt => hlt) _ _ _ _ _ hV, hg.call hb3⟩
    have CP : ∀ w' y m z n, Gn w2 no w' → HoldsC w' (fun q => q < w'.heap.size) (imgJ p l) (.int .i64 6) (.string ⟨#[]⟩) (.slice y 3 m) (.slice z 3 n) → Calls Tryz.prog 29 #[.agg #[.int .i64 6, .string ⟨#[]⟩, .slice y 3 m, .slice z 3 n]] w' fun e w3 => e = .returned (.tuple #[.string (str R.1), .int .i64 (R.2 : Int)]) ∧ Gn w2 no w3 := fun w' y m z n hg hV => by
      rw [e0.out]
      refine (print_any (okJ_img (by omega)) (HE.out.below (HBW w' hg)).env hV).mono ?_
      rintro e w3 ⟨rfl, hb3⟩
      exact ⟨rfl, hg.call hb3⟩
    have OS : ∀ w', Gn w2 no w' → w'.cell? ⟨w.heap.size, 0, none⟩ = some (.string (str p.1)) ∧ w'.cell? ⟨w.heap.size, 1, none⟩ = some (.string (str p.2)) ∧ w'.cell? ⟨w.heap.size, 2, none⟩ = some (.slice x l.length cc) := fun w' h => by
      have r := h.row HR2.out id
      exact ⟨rowC_cell r 0, rowC_cell r 1, rowC_cell r 2⟩
    have HBB := Lib.hid HBW
    clear HBW q2
    have SO : ∀ w', Gn w2 no w' → Gn w2 no w' := fun _ h => h
    refine wp_region_noPanic ?_
    refine wp_region_held_drew (S := Gn w2 no) (by kernel_rfl) (Gn.start _ _) (fun hHeld => ?_)
    generalize w2.drew = wd at *
    refine wpAnyH_take (i := 0) (oi := { dst := some 12, op := Op.fieldAddr 39 (Operand.tmp 1) 0, type := 0, pos := "oci.go:181", after := #[], guard := none }) (v := ?_) rfl (by kernel_rfl) (by kernel_rfl) (by kernel_rfl) (fun _ _ _ h => h) (Or.inl ⟨by rfl, ?_⟩) (by assumption) ?_
    rotate_left
    · intro w hSw
      skip
      clear hSw
      go_simp
      try with_reducible rfl
    try simp only [Act.put, List.setIfInBounds_toArray, List.set_cons_zero, List.set_cons_succ]
    refine wpAnyH_take (i := 1) (oi := { dst := some 13, op := Op.fieldAddr 26 (Operand.tmp 12) 1, type := 0, pos := "oci.go:181", after := #[{ on := 0, ground := Ground.data }], guard := none }) (v := ?_) rfl (by kernel_rfl) (by kernel_rfl) (by kernel_rfl) (fun _ _ _ h => h) (Or.inl ⟨by rfl, ?_⟩) (by assumption) ?_
    rotate_left
    · intro w hSw
      skip
      clear hSw
      go_simp
      try with_reducible rfl
    try simp only [Act.put, List.setIfInBounds_toArray, List.set_cons_zero, List.set_cons_succ]
    refine wpAnyH_take (i := 5) (oi := { dst := some 17, op := Op.fieldAddr 39 (Operand.tmp 1) 0, type := 0, pos := "oci.go:181", after := #[], guard := none }) (v := ?_) rfl (by kernel_rfl) (by kernel_rfl) (by kernel_rfl) (fun _ _ _ h => h) (Or.inl ⟨by rfl, ?_⟩) (by assumption) ?_
    rotate_left
    · intro w hSw
      skip
      clear hSw
      go_simp
      try with_reducible rfl
    try simp only [Act.put, List.setIfInBounds_toArray, List.set_cons_zero, List.set_cons_succ]
    refine wpAnyH_take (i := 6) (oi := { dst := some 18, op := Op.fieldAddr 26 (Operand.tmp 17) 0, type := 0, pos := "oci.go:181", after := #[{ on := 5, ground := Ground.data }], guard := none }) (v := ?_) rfl (by kernel_rfl) (by kernel_rfl) (by kernel_rfl) (fun _ _ _ h => h) (Or.inl ⟨by rfl, ?_⟩) (by assumption) ?_
    rotate_left
    · intro w hSw
      skip
      clear hSw
      go_simp
      try with_reducible rfl
    try simp only [Act.put, List.setIfInBounds_toArray, List.set_cons_zero, List.set_cons_succ]
    refine wpAnyH_take (i := 12) (oi := { dst := some 24, op := Op.fieldAddr 39 (Operand.tmp 1) 1, type := 0, pos := "oci.go:181", after := #[], guard := none }) (v := ?_) rfl (by kernel_rfl) (by kernel_rfl) (by kernel_rfl) (fun _ _ _ h => h) (Or.inl ⟨by rfl, ?_⟩) (by assumption) ?_
    rotate_left
    · intro w hSw
      skip
      clear hSw
      go_simp
      try with_reducible rfl
    try simp only [Act.put, List.setIfInBounds_toArray, List.set_cons_zero, List.set_cons_succ]
    refine wpAnyH_take (i := 2) (oi := { dst := some 14, op := Op.load 9 (Operand.tmp 13), type := 9, pos := "oci.go:181", after := #[{ on := 1, ground := Ground.data }], guard := none }) (v := ?_) rfl (by kernel_rfl) (by kernel_rfl) (by kernel_rfl) (fun _ _ _ h => h) (Or.inl ⟨by rfl, ?_⟩) (by assumption) ?_
    rotate_left
    · intro w hSw
      have hSw := OS _ hSw
      go_simp
      try with_reducible rfl
    try simp only [Act.put, List.setIfInBounds_toArray, List.set_cons_zero, List.set_cons_succ]
    refine wpAnyH_take (i := 7) (oi := { dst := some 19, op := Op.load 9 (Operand.tmp 18), type := 9, pos := "oci.go:181", after := #[{ on := 6, ground := Ground.data }], guard := none }) (v := ?_) rfl (by kernel_rfl) (by kernel_rfl) (by kernel_rfl) (fun _ _ _ h => h) (Or.inl ⟨by rfl, ?_⟩) (by assumption) ?_
    rotate_left
    · intro w hSw
      have hSw := OS _ hSw
      go_simp
      try with_reducible rfl
    try simp only [Act.put, List.setIfInBounds_toArray, List.set_cons_zero, List.set_cons_succ]
    refine wpAnyH_take (i := 13) (oi := { dst := some 25, op := Op.load 37 (Operand.tmp 24), type := 37, pos := "oci.go:181", after := #[{ on := 12, ground := Ground.data }], guard := none }) (v := ?_) rfl (by kernel_rfl) (by kernel_rfl) (by kernel_rfl) (fun _ _ _ h => h) (Or.inl ⟨by rfl, ?_⟩) (by assumption) ?_
    rotate_left
    · intro w hSw
      have hSw := OS _ hSw
      go_simp
      try with_reducible rfl
    try simp only [Act.put, List.setIfInBounds_toArray, List.set_cons_zero, List.set_cons_succ]
    refine wpAnyH_ready (rs := [3]) (by kernel_rfl) (by simp) ?_
    refine (AllReadyH.cons (o := { dst := some 15, op := Op.call { callee := Callee.value (Operand.func 52), args := #[Operand.tmp 14], argTypes := #[9] }, type := 63, pos := "oci.go:182", after := #[{ on := 2, ground := Ground.data }], guard := none }) rfl (fun K hK => ?_) AllReadyH.nil)
    go_simp
    with_reducible refine (CA _ hHeld).mono ?_
    rintro e w3' ⟨rfl, m3'⟩
    refine hK.out _ _ (SO _ (by assumption)) (fun hHeld => ?_)
    clear hK K
    try simp only [Act.put, List.setIfInBounds_toArray, List.set_cons_zero, List.set_cons_succ]
    refine wpAnyH_take (i := 4) (oi := { dst := some 16, op := Op.build 102 #[(0, Operand.const (Value.string { data := #[97, 114, 99, 104, 105, 116, 101, 99, 116, 117, 114, 101] })), (1, Operand.tmp 15)], type := 102, pos := "oci.go:181", after := #[{ on := 3, ground := Ground.data }], guard := none }) (v := ?_) rfl (by kernel_rfl) (by kernel_rfl) (by kernel_rfl) (fun _ _ _ h => h) (Or.inl ⟨by rfl, ?_⟩) (by assumption) ?_
    rotate_left
    · intro w hSw
      skip
      clear hSw
      go_simp
      try with_reducible rfl
    try simp only [Act.put, List.setIfInBounds_toArray, List.set_cons_zero, List.set_cons_succ]
    refine wpAnyH_ready (rs := [8]) (by kernel_rfl) (by simp) ?_
    refine (AllReadyH.cons (o := { dst := some 20, op := Op.call { callee := Callee.value (Operand.func 52), args := #[Operand.tmp 19], argTypes := #[9] }, type := 63, pos := "oci.go:183", after := #[{ on := 7, ground := Ground.data }, { on := 3, ground := Ground.chain }], guard := none }) rfl (fun K hK => ?_) AllReadyH.nil)
    go_simp
    with_reducible refine (CT _ hHeld).mono ?_
    rintro e w8' ⟨rfl, m8'⟩
    refine hK.out _ _ (SO _ (by assumption)) (fun hHeld => ?_)
    clear hK K
    try simp only [Act.put, List.setIfInBounds_toArray, List.set_cons_zero, List.set_cons_succ]
    refine wpAnyH_take (i := 9) (oi := { dst := some 21, op := Op.build 102 #[(0, Operand.const (Value.string { data := #[111, 115] })), (1, Operand.tmp 20)], type := 102, pos := "oci.go:181", after := #[{ on := 8, ground := Ground.data }], guard := none }) (v := ?_) rfl (by kernel_rfl) (by kernel_rfl) (by kernel_rfl) (fun _ _ _ h => h) (Or.inl ⟨by rfl, ?_⟩) (by assumption) ?_
    rotate_left
    · intro w hSw
      skip
      clear hSw
      go_simp
      try with_reducible rfl
    try simp only [Act.put, List.setIfInBounds_toArray, List.set_cons_zero, List.set_cons_succ]
    refine wpAnyH_ready (rs := [10]) (by kernel_rfl) (by simp) ?_
    refine (AllReadyH.cons (o := { dst := some 22, op := Op.call { callee := Callee.value (Operand.func 52), args := #[Operand.const (Value.string { data := #[108, 97, 121, 101, 114, 115] })], argTypes := #[9] }, type := 63, pos := "oci.go:185", after := #[{ on := 8, ground := Ground.chain }], guard := none }) rfl (fun K hK => ?_) AllReadyH.nil)
    go_simp
    with_reducible refine (CK _ hHeld).mono ?_
    rintro e w10' ⟨rfl, m10'⟩
    refine hK.out _ _ (SO _ (by assumption)) (fun hHeld => ?_)
    clear hK K
    try simp only [Act.put, List.setIfInBounds_toArray, List.set_cons_zero, List.set_cons_succ]
    refine wpAnyH_take (i := 11) (oi := { dst := some 23, op := Op.build 102 #[(0, Operand.const (Value.string { data := #[116, 121, 112, 101] })), (1, Operand.tmp 22)], type := 102, pos := "oci.go:181", after := #[{ on := 10, ground := Ground.data }], guard := none }) (v := ?_) rfl (by kernel_rfl) (by kernel_rfl) (by kernel_rfl) (fun _ _ _ h => h) (Or.inl ⟨by rfl, ?_⟩) (by assumption) ?_
    rotate_left
    · intro w hSw
      skip
      clear hSw
      go_simp
      try with_reducible rfl
    try simp only [Act.put, List.setIfInBounds_toArray, List.set_cons_zero, List.set_cons_succ]
    refine wpAnyH_ready (rs := [14]) (by kernel_rfl) (by simp) ?_
    refine (AllReadyH.cons (o := { dst := some 26, op := Op.call { callee := Callee.value (Operand.func 61), args := #[Operand.tmp 25, Operand.func 62], argTypes := #[37, 112] }, type := 63, pos := "oci.go:186", after := #[{ on := 13, ground := Ground.data }, { on := 10, ground := Ground.chain }], guard := none }) rfl (fun K hK => ?_) AllReadyH.nil)
    go_simp
    with_reducible refine (CL _ hHeld).mono ?_
    rintro e w14' ⟨y, m, z, n, rfl, h14, m14'⟩
    have H14 := Lib.hid h14; clear h14
    refine hK.out _ _ (SO _ (by assumption)) (fun hHeld => ?_)
    clear hK K
    try simp only [Act.put, List.setIfInBounds_toArray, List.set_cons_zero, List.set_cons_succ]
    refine wpAnyH_take (i := 15) (oi := { dst := some 27, op := Op.build 102 #[(0, Operand.const (Value.string { data := #[100, 105, 102, 102, 95, 105, 100, 115] })), (1, Operand.tmp 26)], type := 102, pos := "oci.go:181", after := #[{ on := 14, ground := Ground.data }], guard := none }) (v := ?_) rfl (by kernel_rfl) (by kernel_rfl) (by kernel_rfl) (fun _ _ _ h => h) (Or.inl ⟨by rfl, ?_⟩) (by assumption) ?_
    rotate_left
    · intro w hSw
      skip
      clear hSw
      go_simp
      try with_reducible rfl
    try simp only [Act.put, List.setIfInBounds_toArray, List.set_cons_zero, List.set_cons_succ]
    refine wpAnyH_ready (rs := [16]) (by kernel_rfl) (by simp) ?_
    refine (AllReadyH.cons (o := { dst := some 28, op := Op.buildSlice 158 2 #[(0, Operand.tmp 23), (1, Operand.tmp 27)], type := 158, pos := "oci.go:181", after := #[{ on := 11, ground := Ground.data }, { on := 15, ground := Ground.data }], guard := none }) rfl (fun K hK => ?_) AllReadyH.nil)
    skip
    go_simp
    refine hK.out _ _ (SO _ (by exact Gn.alloc hHeld _)) (fun hHeld => ?_)
    clear hK K
    try simp only [Act.put, List.setIfInBounds_toArray, List.set_cons_zero, List.set_cons_succ]
    refine wpAnyH_ready (rs := [17]) (by kernel_rfl) (by simp) ?_
    refine (AllReadyH.cons (o := { dst := some 29, op := Op.call { callee := Callee.value (Operand.func 50), args := #[Operand.tmp 28], argTypes := #[158] }, type := 63, pos := "oci.go:184", after := #[{ on := 16, ground := Ground.data }, { on := 14, ground := Ground.chain }], guard := none }) rfl (fun K hK => ?_) AllReadyH.nil)
    go_simp
    with_reducible refine (CO _ _ _ _ _ _ hHeld (rowC_new _ _ _) (by rw [size_alloc]; omega) (HoldsC.mono (fun k hk _ => ⟨hk.1, by rw [size_alloc]; have := hk.2; omega⟩) _ _ _ _ _ (HoldsC.chg ((Chg.refl (fun _ => False) _).alloc _) (fun _ _ h => h) _ _ _ _ _ H14.out))).mono ?_
    rintro e w17' ⟨y7, m7, z7, n7, rfl, h17, m17'⟩
    have H17 := Lib.hid h17; clear h17
    refine hK.out _ _ (SO _ (by assumption)) (fun hHeld => ?_)
    clear hK K
    try simp only [Act.put, List.setIfInBounds_toArray, List.set_cons_zero, List.set_cons_succ]
    refine wpAnyH_take (i := 18) (oi := { dst := some 30, op := Op.build 102 #[(0, Operand.const (Value.string { data := #[114, 111, 111, 116, 102, 115] })), (1, Operand.tmp 29)], type := 102, pos := "oci.go:181", after := #[{ on := 17, ground := Ground.data }], guard := none }) (v := ?_) rfl (by kernel_rfl) (by kernel_rfl) (by kernel_rfl) (fun _ _ _ h => h) (Or.inl ⟨by rfl, ?_⟩) (by assumption) ?_
    rotate_left
    · intro w hSw
      skip
      clear hSw
      go_simp
      try with_reducible rfl
    try simp only [Act.put, List.setIfInBounds_toArray, List.set_cons_zero, List.set_cons_succ]
    refine wpAnyH_ready (rs := [19]) (by kernel_rfl) (by simp) ?_
    refine (AllReadyH.cons (o := { dst := some 31, op := Op.buildSlice 158 3 #[(0, Operand.tmp 16), (1, Operand.tmp 21), (2, Operand.tmp 30)], type := 158, pos := "oci.go:181", after := #[{ on := 4, ground := Ground.data }, { on := 9, ground := Ground.data }, { on := 18, ground := Ground.data }], guard := none }) rfl (fun K hK => ?_) AllReadyH.nil)
    skip
    go_simp
    refine hK.out _ _ (SO _ (by exact Gn.alloc hHeld _)) (fun hHeld => ?_)
    clear hK K
    try simp only [Act.put, List.setIfInBounds_toArray, List.set_cons_zero, List.set_cons_succ]
    refine wpAnyH_ready (rs := [20]) (by kernel_rfl) (by simp) ?_
    refine (AllReadyH.cons (o := { dst := some 32, op := Op.call { callee := Callee.value (Operand.func 50), args := #[Operand.tmp 31], argTypes := #[158] }, type := 63, pos := "oci.go:181", after := #[{ on := 19, ground := Ground.data }, { on := 17, ground := Ground.chain }], guard := none }) rfl (fun K hK => ?_) AllReadyH.nil)
    go_simp
    with_reducible refine (CQ _ _ _ _ _ _ hHeld (rowC_new _ _ _) (by rw [size_alloc]; omega) (HoldsC.mono (fun k hk _ => ⟨hk.1, by rw [size_alloc]; have := hk.2; omega⟩) _ _ _ _ _ (HoldsC.chg ((Chg.refl (fun _ => False) _).alloc _) (fun _ _ h => h) _ _ _ _ _ H17.out))).mono ?_
    rintro e w20' ⟨y8, m8, z8, n8, rfl, h20, m20'⟩
    have H20 := Lib.hid h20; clear h20
    refine hK.out _ _ (SO _ (by assumption)) (fun hHeld => ?_)
    clear hK K
    try simp only [Act.put, List.setIfInBounds_toArray, List.set_cons_zero, List.set_cons_succ]
    refine wpAnyH_ready (rs := [21]) (by kernel_rfl) (by simp) ?_
    refine (AllReadyH.cons (o := { dst := some 33, op := Op.call { callee := Callee.value (Operand.func 29), args := #[Operand.tmp 32], argTypes := #[63] }, type := 50, pos := "oci.go:181", after := #[{ on := 20, ground := Ground.data }, { on := 20, ground := Ground.chain }], guard := none }) rfl (fun K hK => ?_) AllReadyH.nil)
    go_simp
    with_reducible refine (CP _ _ _ _ _ hHeld H20.out).mono ?_
    rintro e w21' ⟨rfl, m21'⟩
    refine hK.out _ _ (SO _ (by assumption)) (fun hHeld => ?_)
    clear hK K
    try simp only [Act.put, List.setIfInBounds_toArray, List.set_cons_zero, List.set_cons_succ]
    refine wpAnyH_take (i := 22) (oi := { dst := some 34, op := Op.extract (Operand.tmp 33) 0, type := 9, pos := "oci.go:181", after := #[{ on := 21, ground := Ground.data }], guard := none }) (v := ?_) rfl (by kernel_rfl) (by kernel_rfl) (by kernel_rfl) (fun _ _ _ h => h) (Or.inl ⟨by rfl, ?_⟩) (by assumption) ?_
    rotate_left
    · intro w hSw
      skip
      clear hSw
      go_simp
      try with_reducible rfl
    try simp only [Act.put, List.setIfInBounds_toArray, List.set_cons_zero, List.set_cons_succ]
    refine wpAnyH_take (i := 23) (oi := { dst := some 35, op := Op.extract (Operand.tmp 33) 1, type := 32, pos := "oci.go:181", after := #[{ on := 21, ground := Ground.data }], guard := none }) (v := ?_) rfl (by kernel_rfl) (by kernel_rfl) (by kernel_rfl) (fun _ _ _ h => h) (Or.inl ⟨by rfl, ?_⟩) (by assumption) ?_
    rotate_left
    · intro w hSw
      skip
      clear hSw
      go_simp
      try with_reducible rfl
    try simp only [Act.put, List.setIfInBounds_toArray, List.set_cons_zero, List.set_cons_succ]
    refine wpAnyH_take (i := 24) (oi := { dst := some 2, op := Op.assign (Operand.tmp 34), type := 9, pos := "oci.go:181", after := #[{ on := 22, ground := Ground.data }, { on := 21, ground := Ground.chain }, { on := 0, ground := Ground.phase }, { on := 1, ground := Ground.phase }, { on := 2, ground := Ground.phase }, { on := 3, ground := Ground.phase }, { on := 4, ground := Ground.phase }, { on := 5, ground := Ground.phase }, { on := 6, ground := Ground.phase }, { on := 7, ground := Ground.phase }, { on := 8, ground := Ground.phase }, { on := 9, ground := Ground.phase }, { on := 10, ground := Ground.phase }, { on := 11, ground := Ground.phase }, { on := 12, ground := Ground.phase }, { on := 13, ground := Ground.phase }, { on := 14, ground := Ground.phase }, { on := 15, ground := Ground.phase }, { on := 16, ground := Ground.phase }, { on := 17, ground := Ground.phase }, { on := 18, ground := Ground.phase }, { on := 19, ground := Ground.phase }, { on := 20, ground := Ground.phase }, { on := 21, ground := Ground.phase }, { on := 22, ground := Ground.phase }, { on := 23, ground := Ground.phase }], guard := none }) (v := ?_) rfl (by kernel_rfl) (by kernel_rfl) (by kernel_rfl) (fun _ _ _ h => h) (Or.inl ⟨by rfl, ?_⟩) (by assumption) ?_
    rotate_left
    · intro w hSw
      skip
      clear hSw
      go_simp
      try with_reducible rfl
    try simp only [Act.put, List.setIfInBounds_toArray, List.set_cons_zero, List.set_cons_succ]
    refine wpAnyH_take (i := 25) (oi := { dst := some 3, op := Op.assign (Operand.tmp 35), type := 32, pos := "oci.go:181", after := #[{ on := 23, ground := Ground.data }, { on := 24, ground := Ground.chain }, { on := 0, ground := Ground.phase }, { on := 1, ground := Ground.phase }, { on := 2, ground := Ground.phase }, { on := 3, ground := Ground.phase }, { on := 4, ground := Ground.phase }, { on := 5, ground := Ground.phase }, { on := 6, ground := Ground.phase }, { on := 7, ground := Ground.phase }, { on := 8, ground := Ground.phase }, { on := 9, ground := Ground.phase }, { on := 10, ground := Ground.phase }, { on := 11, ground := Ground.phase }, { on := 12, ground := Ground.phase }, { on := 13, ground := Ground.phase }, { on := 14, ground := Ground.phase }, { on := 15, ground := Ground.phase }, { on := 16, ground := Ground.phase }, { on := 17, ground := Ground.phase }, { on := 18, ground := Ground.phase }, { on := 19, ground := Ground.phase }, { on := 20, ground := Ground.phase }, { on := 21, ground := Ground.phase }, { on := 22, ground := Ground.phase }, { on := 23, ground := Ground.phase }, { on := 24, ground := Ground.phase }], guard := none }) (v := ?_) rfl (by kernel_rfl) (by kernel_rfl) (by kernel_rfl) (fun _ _ _ h => h) (Or.inl ⟨by rfl, ?_⟩) (by assumption) ?_
    rotate_left
    · intro w hSw
      skip
      clear hSw
      go_simp
      try with_reducible rfl
    try simp only [Act.put, List.setIfInBounds_toArray, List.set_cons_zero, List.set_cons_succ]
    refine wpAnyH_done (by kernel_rfl) ?_ _
    refine NoPanic.normal ?_
    go_wp2
    go_ret2
    exact ⟨rfl, HBB.out _ hHeld⟩
end Go.Proofs.YtlknngplnimdpaaGreatDoor

/- Layer 13: PutManifest. -/
namespace Go.Proofs.YtlknngplnimdpaaGreatDoor
open Go.RowKit

theorem fldr4 {w : World} {g B : Nat} {k1 k2 k3 k4 : Bs} {v1 v2 v3 v4 : JV} {a1 b1 c1 d1 a2 b2 c2 d2 a3 b3 c3 d3 a4 b4 c4 d4 : Value} (h : rowC w g #[.string (str k1), a1, b1, c1, d1, .string (str k2), a2, b2, c2, d2, .string (str k3), a3, b3, c3, d3, .string (str k4), a4, b4, c4, d4] 102) (hg : g < w.heap.size)
    (h1 : HoldsC w (fun q => B ≤ q ∧ q < w.heap.size) v1 a1 b1 c1 d1) (h2 : HoldsC w (fun q => B ≤ q ∧ q < w.heap.size) v2 a2 b2 c2 d2) (h3 : HoldsC w (fun q => B ≤ q ∧ q < w.heap.size) v3 a3 b3 c3 d3) (h4 : HoldsC w (fun q => B ≤ q ∧ q < w.heap.size) v4 a4 b4 c4 d4) : FldR w B [(k1, v1), (k2, v2), (k3, v3), (k4, v4)] (some ⟨g, 0, none⟩) := by
  intro i k v hi
  rcases i with _ | _ | _ | _ | i
  · simp only [List.getElem?_cons_zero, Option.some.injEq, Prod.mk.injEq] at hi
    obtain ⟨rfl, rfl⟩ := hi
    refine ⟨⟨g, 0, none⟩, _, _, _, _, rfl, hg, ?_, h1⟩
    intro j u hu
    rcases j with _ | _ | _ | _ | _ | j
    · exact (rowC_cell h 0).trans hu
    · exact (rowC_cell h 1).trans hu
    · exact (rowC_cell h 2).trans hu
    · exact (rowC_cell h 3).trans hu
    · exact (rowC_cell h 4).trans hu
    · simp at hu
  · simp only [List.getElem?_cons_succ, List.getElem?_cons_zero, Option.some.injEq, Prod.mk.injEq] at hi
    obtain ⟨rfl, rfl⟩ := hi
    refine ⟨⟨g, 0, none⟩, _, _, _, _, rfl, hg, ?_, h2⟩
    intro j u hu
    rcases j with _ | _ | _ | _ | _ | j
    · exact (rowC_cell h 5).trans hu
    · exact (rowC_cell h 6).trans hu
    · exact (rowC_cell h 7).trans hu
    · exact (rowC_cell h 8).trans hu
    · exact (rowC_cell h 9).trans hu
    · simp at hu
  · simp only [List.getElem?_cons_succ, List.getElem?_cons_zero, Option.some.injEq, Prod.mk.injEq] at hi
    obtain ⟨rfl, rfl⟩ := hi
    refine ⟨⟨g, 0, none⟩, _, _, _, _, rfl, hg, ?_, h3⟩
    intro j u hu
    rcases j with _ | _ | _ | _ | _ | j
    · exact (rowC_cell h 10).trans hu
    · exact (rowC_cell h 11).trans hu
    · exact (rowC_cell h 12).trans hu
    · exact (rowC_cell h 13).trans hu
    · exact (rowC_cell h 14).trans hu
    · simp at hu
  · simp only [List.getElem?_cons_succ, List.getElem?_cons_zero, Option.some.injEq, Prod.mk.injEq] at hi
    obtain ⟨rfl, rfl⟩ := hi
    refine ⟨⟨g, 0, none⟩, _, _, _, _, rfl, hg, ?_, h4⟩
    intro j u hu
    rcases j with _ | _ | _ | _ | _ | j
    · exact (rowC_cell h 15).trans hu
    · exact (rowC_cell h 16).trans hu
    · exact (rowC_cell h 17).trans hu
    · exact (rowC_cell h 18).trans hu
    · exact (rowC_cell h 19).trans hu
    · simp at hu
  · simp at hi
theorem okJ_man {c : DV} {l : List DV} (hl : l.length ≤ 8) (hc : putD c) (hp : ∀ d ∈ l, putD d) : okJ (manJ c l) := okJ_obj (by show 4 ≤ 65536; omega) fun q hq => by
  simp only [List.mem_cons, List.not_mem_nil, or_false] at hq
  rcases hq with rfl | rfl | rfl | rfl
  · exact ⟨Nat.le_of_ble_eq_true rfl, okJ_num (by omega) (by omega)⟩
  · exact ⟨Nat.le_of_ble_eq_true rfl, okJ_txt _⟩
  · exact ⟨Nat.le_of_ble_eq_true rfl, okJ_bare hc⟩
  · refine ⟨Nat.le_of_ble_eq_true rfl, okJ_lst (by rw [List.length_map]; omega) fun v hv => ?_⟩
    obtain ⟨d, hd, rfl⟩ := List.mem_map.1 hv
    exact okJ_bare (hp d hd)
theorem one_des {w : World} {g : Nat} {c : DV} (hc : goodD c) (h : rowC w g (encD c) 28) (hg : g < w.heap.size) : eDess.at_ w (fun k => k < w.heap.size) [c] (.slice (some ⟨g, 0, none⟩) [c].length 1) := by
  refine .inr ⟨⟨g, 0, none⟩, 1, rfl, fun i d hi => ?_⟩
  rcases i with _ | i
  · simp only [List.getElem?_cons_zero, Option.some.injEq] at hi
    subst hi
    refine ⟨hg, hc, fun j u hj => ?_⟩
    have hh := (rowC_cell h j).trans ((Array.getElem?_toList ..).symm.trans hj)
    rw [show 36 * 0 + j = j by omega]
    by_cases hj0 : j = 0
    · subst hj0
      simpa [Addr.add] using hh
    · simpa [Addr.add, hj0] using hh
  · simp at hi
theorem encM_range {w : World} {b : Nat} {c : DV} {t : Value} (hc : goodD c) (h : rowC w b (encM c t) 31) : w.rangeAt b 0 (encL c) ∧ w.cell? ⟨b, 36, none⟩ = some t := by
  refine ⟨rowC_range h 0 _ (fun j v hv => ?_), (rowC_cell h 36).trans (encM_36 hc t)⟩
  unfold encM
  rw [Nat.zero_add, List.getElem?_toArray, List.getElem?_append_left (List.getElem?_eq_some_iff.1 hv).1]
  exact hv
@[reducible] def manC (y6 : Option Addr) (a6 : Nat) (z6 : Option Addr) (b6 : Nat) (y : Option Addr) (N m : Nat) (z : Option Addr) (n : Nat) : Array Value := #[.string ⟨#[115, 99, 104, 101, 109, 97, 86, 101, 114, 115, 105, 111, 110]⟩, .int .i64 3, .string (str (Lib.itoa 2)), .slice none 0 0, .slice none 0 0, .string ⟨#[109, 101, 100, 105, 97, 84, 121, 112, 101]⟩, .int .i64 4, .string ⟨#[97, 112, 112, 108, 105, 99, 97, 116, 105, 111, 110, 47, 118, 110, 100, 46, 111, 99, 105, 46, 105, 109, 97, 103, 101, 46, 109, 97, 110, 105, 102, 101, 115, 116, 46, 118, 49, 43, 106, 115, 111, 110]⟩, .slice none 0 0, .slice none 0 0, .string ⟨#[99, 111, 110, 102, 105, 103]⟩, .int .i64 6, .string ⟨#[]⟩, .slice y6 3 a6, .slice z6 3 b6, .string ⟨#[108, 97, 121, 101, 114, 115]⟩, .int .i64 5, .string ⟨#[]⟩, .slice y N m, .slice z 0 n]
set_option maxRecDepth 100000 in
set_option maxHeartbeats 16000000 in
theorem putManifest_any (c : DV) (l : List DV) (x : Option Addr) (cc : Nat) (w : World) (hE : Env2 w) (hl : l.length ≤ 70368744177664) (hc : putD c) (hp : ∀ d ∈ l, putD d) (hL : eDess.at_ w (fun k => k < w.heap.size) l (.slice x l.length cc)) :
    Calls Tryz.prog 18 #[.agg (encM c (.slice x l.length cc))] w fun e w' => e = .returned (.tuple #[.string (str (manA c l).1), .int .i64 ((manA c l).2 : Int)]) ∧ Below w.heap.size w w' := by
  obtain ⟨R, hR⟩ : ∃ R, R = manA c l := ⟨_, rfl⟩
  rw [← hR]
  have HR := Lib.hid hR
  obtain ⟨W0, hW0⟩ : ∃ W0, W0 = w.alloc (.cells (encM c (.slice x l.length cc)) 31) := ⟨_, rfl⟩
  have R0 : rowC W0 w.heap.size (encM c (.slice x l.length cc)) 31 := by rw [hW0]; exact rowC_new w _ _
  have B0 : Below w.heap.size w W0 := by rw [hW0]; exact (Below.refl _ _).alloc (Nat.le_refl _) _
  have S0 : W0.heap.size = w.heap.size + 1 := by rw [hW0, size_alloc]
  obtain ⟨W1, hW1⟩ : ∃ W1, W1 = W0.alloc (.cells (encD c) 28) := ⟨_, rfl⟩
  have B1 : Below w.heap.size w W1 := by rw [hW1]; exact B0.alloc (by omega) _
  have S1 : W1.heap.size = w.heap.size + 2 := by rw [hW1, size_alloc, S0]
  have RD : rowC W1 W0.heap.size (encD c) 28 := by rw [hW1]; exact rowC_new _ _ _
  have RM : rowC W1 w.heap.size (encM c (.slice x l.length cc)) 31 := by rw [hW1]; exact rowC_alloc R0 _
  have CM : Calls Tryz.prog 49 #[.slice (some ⟨W0.heap.size, 0, none⟩) 1 1] W1 fun e w' => e = .returned (.bool ([c].all mayD)) ∧ Below W1.heap.size W1 w' := omayBe_any [c] (some ⟨W0.heap.size, 0, none⟩) 1 W1 (hE.below B1) (by show 1 ≤ 70368744177664; omega) (one_des hc.1 RD (by omega))
  have CN : ∀ w', Below W1.heap.size W1 w' → Calls Tryz.prog 49 #[.slice x l.length cc] w' fun e w2 => e = .returned (.bool (l.all mayD)) ∧ Below w'.heap.size w' w2 := fun w' hb => by
    have hb' : Below w.heap.size w w' := B1.trans (hb.mono (by omega))
    exact omayBe_any l x cc w' (hE.below hb') hl (eDess.mono (eDess.chg hL (Chg.of_below (s := no) hb') (fun _ _ h => h)) (fun k hk _ => Nat.lt_of_lt_of_le hk hb'.size))
  obtain ⟨M, hM⟩ : ∃ M, M = mayD c := ⟨_, rfl⟩
  have hM1 : [c].all mayD = M := by rw [hM]; simp
  rw [hM1, S0] at CM
  obtain ⟨M2, hM2⟩ : ∃ M2, M2 = l.all mayD := ⟨_, rfl⟩
  rw [← hM2] at CN
  have HM := Lib.hid hM
  have HM2 := Lib.hid hM2
  have HE := Lib.hid hE
  have HL := Lib.hid hL
  have HW0 := Lib.hid hW0
  have HW1 := Lib.hid hW1
  have HRM := Lib.hid RM
  have HR0 := Lib.hid R0
  have HB0 := Lib.hid B0
  have HB1 := Lib.hid B1
  have HPC := Lib.hid hc
  have HP := Lib.hid hp
  have RG := Lib.hid (encM_range hc.1 R0).1
  have q0 : W0.cell? ⟨w.heap.size, 36, none⟩ = some (.slice x l.length cc) := (encM_range hc.1 R0).2
  have HEL := Lib.hid (encD_list c)
  have HSZ : Hid ((encD c).size = 36) := Lib.hid (encD_size c hc.1)
  have HIL := Lib.hid (show (Tryz.prog.info? 28).map (·.size) = some (encL c).length by rw [encL_len hc.1.1]; exact info_D)
  have HIM := Lib.hid (show (Tryz.prog.info? 31).map (·.size) = some (encM c (.slice x l.length cc)).size by rw [info_M]; unfold encM; rw [List.size_toArray, List.length_append, encL_len hc.1.1]; rfl)
  obtain ⟨i0, hi0, hz0, hz1, hz2⟩ := info_parts info_des3
  clear hR hM hM1 hM2 hE hL hW0 hW1 RD RM R0 B0 B1 hc hp
  go_enter Tryz.func18, Tryz.ntmps18
  go_upto_region 1 with (fail)
  rw [show w.alloc (.cells (encM c (.slice x l.length cc)) 31) = W0 from HW0.out.symm]
  cases M with
  | false =>
    have e0 : Hid (R = ([], 2)) := Lib.hid (by rw [HR.out]; unfold manA; rw [if_pos (.inl HM.out.symm)])
    clear CN
    go_wp2_with (first
      | ((with_reducible show wpList _ _ _ (⟨some 6, .load _ _, _, _, _, _⟩ :: _) _ _); refine wpList_load_mid rfl 28 _ rfl w.heap.size 0 rfl (encL c) _ RG.out Tryz.underlying28 rfl HIL.out ?_)
      | ((with_reducible show wpList _ _ _ (⟨some 7, .buildSlice _ _ _, _, _, _, _⟩ :: _) _ _); refine wpList_oneR rfl 29 28 36 _ rfl (encD c) (by rw [HEL.out]; rfl) i0 _ Tryz.underlying29 hi0 hz0 hz1 HSZ.out (by decide) (by decide) ?_; rw [← HW1.out])
      | (go_at_call 49; ((with_reducible refine CM.mono ?_); rintro e w2 ⟨rfl, hb2⟩; have HB2 := Lib.hid hb2; clear hb2)))
    go_ret2
    rw [e0.out]
    exact ⟨rfl, HB1.out.trans (HB2.out.mono (by omega))⟩
  | true =>
    cases M2 with
    | false =>
      have e0 : Hid (R = ([], 2)) := Lib.hid (by rw [HR.out]; unfold manA; rw [if_pos (.inr HM2.out.symm)])
      go_wp2_with (first
        | ((with_reducible show wpList _ _ _ (⟨some 6, .load _ _, _, _, _, _⟩ :: _) _ _); refine wpList_load_mid rfl 28 _ rfl w.heap.size 0 rfl (encL c) _ RG.out Tryz.underlying28 rfl HIL.out ?_)
        | ((with_reducible show wpList _ _ _ (⟨some 7, .buildSlice _ _ _, _, _, _, _⟩ :: _) _ _); refine wpList_oneR rfl 29 28 36 _ rfl (encD c) (by rw [HEL.out]; rfl) i0 _ Tryz.underlying29 hi0 hz0 hz1 HSZ.out (by decide) (by decide) ?_; rw [← HW1.out])
        | (go_at_call 49; ((with_reducible refine CM.mono ?_); rintro e w2 ⟨rfl, hb2⟩; have HB2 := Lib.hid hb2; have s2 := hb2.size; have CW := CN w2 hb2; have q2 : w2.cell? ⟨w.heap.size, 36, none⟩ = some (.slice x l.length cc) := (encM_range HPC.out.1 (rowC_below HRM.out hb2 (by omega))).2; clear hb2 CM))
        | (go_at_call 49; ((with_reducible refine CW.mono ?_); rintro e w3 ⟨rfl, hb3⟩; have HB3 := Lib.hid hb3; have s3 := hb3.size; clear hb3)))
      go_ret2
      rw [e0.out]
      exact ⟨rfl, (HB1.out.trans (HB2.out.mono (by omega))).trans (HB3.out.mono (by omega))⟩
    | true =>
      go_upto_region 3 with (first
        | ((with_reducible show wpList _ _ _ (⟨some 6, .load _ _, _, _, _, _⟩ :: _) _ _); refine wpList_load_mid rfl 28 _ rfl w.heap.size 0 rfl (encL c) _ RG.out Tryz.underlying28 rfl HIL.out ?_)
        | ((with_reducible show wpList _ _ _ (⟨some 7, .buildSlice _ _ _, _, _, _, _⟩ :: _) _ _); refine wpList_oneR rfl 29 28 36 _ rfl (encD c) (by rw [HEL.out]; rfl) i0 _ Tryz.underlying29 hi0 hz0 hz1 HSZ.out (by decide) (by decide) ?_; rw [← HW1.out])
        | (go_at_call 49; ((with_reducible refine CM.mono ?_); rintro e w2 ⟨rfl, hb2⟩; have HB2 := Lib.hid hb2; have s2 := hb2.size; have CW := CN w2 hb2; have q2 : w2.cell? ⟨w.heap.size, 36, none⟩ = some (.slice x l.length cc) := (encM_range HPC.out.1 (rowC_below HRM.out hb2 (by omega))).2; clear hb2 CM))
        | (go_at_call 49; ((with_reducible refine CW.mono ?_); rintro e w3 ⟨rfl, hb3⟩; have HB3 := Lib.hid hb3; have s3 := hb3.size; clear hb3)))
      have R3 : Hid (rowC w3 w.heap.size (encM c (.slice x l.length cc)) 31) := Lib.hid (rowC_below (rowC_below HRM.out HB2.out (by omega)) HB3.out (by omega))
      have B3 : Hid (Below w.heap.size w w3) := Lib.hid ((HB1.out.trans (HB2.out.mono (by omega))).trans (HB3.out.mono (by omega)))
      have CF := fits_any c l x cc w3 HPC.out.1 (eDess.mono (eDess.chg HL.out (Chg.of_below (s := no) B3.out) (fun _ _ h => h)) (fun k hk _ => Nat.lt_of_lt_of_le hk B3.out.size))
      obtain ⟨K, hK⟩ : ∃ K, K = fitsN c l := ⟨_, rfl⟩
      rw [← hK] at CF
      have HK := Lib.hid hK
      clear hK q2 CW CN
      by_cases hk0 : K = 0
      rotate_left
      · have e0 : Hid (R = ([], K)) := Lib.hid (by rw [HR.out]; unfold manA; rw [if_neg (by rw [← HM.out, ← HM2.out]; simp), if_pos (by rw [← HK.out]; exact hk0), HK.out])
        have hk1 : ¬ ((K : Nat) : Int) = 0 := by omega
        have hk2 : (((K : Nat) : Int) != 0) = true := by simpa using hk0
        clear hk0
        go_wp2_with (first
          | ((with_reducible show wpList _ _ _ (⟨some 16, .load _ _, _, _, _, _⟩ :: _) _ _); refine wpList_load_row rfl 31 _ rfl w.heap.size rfl 31 (encM c (.slice x l.length cc)) (0, 0) _ R3.out Tryz.underlying31 rfl HIM.out ?_)
          | (go_at_call 36; ((with_reducible refine CF.mono ?_); rintro e w4 ⟨rfl, hb4⟩; have HB4 := Lib.hid hb4; clear hb4)))
        go_ret2
        rw [e0.out]
        exact ⟨rfl, B3.out.trans (HB4.out.mono B3.out.size)⟩
      have e0 : Hid (R = printA (manJ c l)) := Lib.hid (by rw [HR.out]; unfold manA; rw [if_neg (by rw [← HM.out, ← HM2.out]; simp), if_neg (by rw [← HK.out]; simp [hk0])])
      have hl8 : l.length ≤ 8 := by
        have h := HK.out
        rw [hk0] at h
        unfold fitsN at h
        by_cases h8 : 8 < l.length
        · rw [if_pos h8] at h; cases h
        · omega
      subst hk0
      go_upto_region 6 with (first
        | ((with_reducible show wpList _ _ _ (⟨some 16, .load _ _, _, _, _, _⟩ :: _) _ _); refine wpList_load_row rfl 31 _ rfl w.heap.size rfl 31 (encM c (.slice x l.length cc)) (0, 0) _ R3.out Tryz.underlying31 rfl HIM.out ?_)
        | (go_at_call 36; ((with_reducible refine CF.mono ?_); rintro e w4 ⟨rfl, hb4⟩; have HB4 := Lib.hid hb4; clear hb4)))
      have s3' := B3.out.size
      have s4 := HB4.out.size
      have R4 : Hid (rowC w4 w.heap.size (encM c (.slice x l.length cc)) 31) := Lib.hid (rowC_below R3.out HB4.out (rowC_lt R3.out))
      have HBW : ∀ w', Gn w4 no w' → Below w.heap.size w w' := fun w' hg => (B3.out.trans (HB4.out.mono s3')).trans ((hg.below (B := w.heap.size) (by omega) (fun _ _ h => h)))
      have CV : ∀ w', Gn w4 no w' → Calls Tryz.prog 51 #[.int .i64 2] w' fun e w3 => e = .returned (.agg #[.int .i64 3, .string (str (Lib.itoa 2)), .slice none 0 0, .slice none 0 0]) ∧ Gn w4 no w3 := fun w' hg =>
        (number_put 2 (by omega) (by omega) w' (HE.out.below (HBW w' hg))).mono (fun e w3 h => ⟨h.1, hg.call h.2⟩)
      have CT : ∀ w', Gn w4 no w' → Calls Tryz.prog 52 #[.string ⟨#[97, 112, 112, 108, 105, 99, 97, 116, 105, 111, 110, 47, 118, 110, 100, 46, 111, 99, 105, 46, 105, 109, 97, 103, 101, 46, 109, 97, 110, 105, 102, 101, 115, 116, 46, 118, 49, 43, 106, 115, 111, 110]⟩] w' fun e w3 => e = .returned (.agg #[.int .i64 4, .string ⟨#[97, 112, 112, 108, 105, 99, 97, 116, 105, 111, 110, 47, 118, 110, 100, 46, 111, 99, 105, 46, 105, 109, 97, 103, 101, 46, 109, 97, 110, 105, 102, 101, 115, 116, 46, 118, 49, 43, 106, 115, 111, 110]⟩, .slice none 0 0, .slice none 0 0]) ∧ Gn w4 no w3 := fun w' hg =>
        (text_put mMan w').mono (fun e w3 h => ⟨h.1, hg.call h.2⟩)
      obtain ⟨X, hX⟩ : ∃ X, X = encL c := ⟨_, rfl⟩
      have hXa : X.toArray = encD c := by rw [hX, encD_list]
      have CG : ∀ w', Gn w4 no w' → Calls Tryz.prog 53 #[.agg X.toArray] w' fun e w3 => ∃ y m z n, e = .returned (.agg #[.int .i64 6, .string ⟨#[]⟩, .slice y 3 m, .slice z 3 n]) ∧ HoldsC w3 (fun q => w.heap.size ≤ q ∧ q < w3.heap.size) (bareJ c) (.int .i64 6) (.string ⟨#[]⟩) (.slice y 3 m) (.slice z 3 n) ∧ Gn w4 no w3 := fun w' hg => by
        have hb := HBW w' hg
        rw [hXa]
        refine (plain_put c HPC.out w' (HE.out.below hb)).mono ?_
        rintro e w3 ⟨y, m, z, n, rfl, hV, hb3⟩
        exact ⟨y, m, z, n, rfl, HoldsC.mono (fun k hk hlt => ⟨Nat.le_trans hb.size hk.1, hlt⟩) _ _ _ _ _ hV, hg.call hb3⟩
      have CL : ∀ w', Gn w4 no w' → Calls Tryz.prog 54 #[.slice x l.length cc, .func (.func 53) #[] #[]] w' fun e w3 => ∃ y m z n, e = .returned (.agg #[.int .i64 5, .string ⟨#[]⟩, .slice y l.length m, .slice z 0 n]) ∧ HoldsC w3 (fun q => w.heap.size ≤ q ∧ q < w3.heap.size) (lstJ (l.map bareJ)) (.int .i64 5) (.string ⟨#[]⟩) (.slice y l.length m) (.slice z 0 n) ∧ Below w'.heap.size w' w3 ∧ Gn w4 no w3 := fun w' hg => by
        have hb := HBW w' hg
        refine (lsput_des putF_pln l x cc w' (HE.out.below hb) (by omega) HP.out (eDess.mono (eDess.chg HL.out (Chg.of_below (s := no) hb) (fun _ _ h => h)) (fun k hk _ => Nat.lt_of_lt_of_le hk hb.size))).mono ?_
        rintro e w3 ⟨y, m, z, n, rfl, hV, hb3⟩
        have e1 : (lstJ (l.map bareJ)).items.length = l.length := by unfold lstJ; simp [JV.items]
        rw [e1] at hV ⊢
        exact ⟨y, m, z, n, rfl, HoldsC.mono (fun k hk hlt => ⟨Nat.le_trans hb.size hk.1, hlt⟩) _ _ _ _ _ hV, hb3, hg.call hb3⟩
      have CO : ∀ w' b y6 a6 z6 b6 y m z n, Gn w4 no w' → rowC w' b (manC y6 a6 z6 b6 y l.length m z n) 102 → b < w'.heap.size → HoldsC w' (fun q => w.heap.size ≤ q ∧ q < w'.heap.size) (bareJ c) (.int .i64 6) (.string ⟨#[]⟩) (.slice y6 3 a6) (.slice z6 3 b6) → HoldsC w' (fun q => w.heap.size ≤ q ∧ q < w'.heap.size) (lstJ (l.map bareJ)) (.int .i64 5) (.string ⟨#[]⟩) (.slice y l.length m) (.slice z 0 n) → Calls Tryz.prog 50 #[.slice (some ⟨b, 0, none⟩) 4 4] w' fun e w3 => ∃ y m z n, e = .returned (.agg #[.int .i64 6, .string ⟨#[]⟩, .slice y 4 m, .slice z 4 n]) ∧ HoldsC w3 (fun q => q < w3.heap.size) (manJ c l) (.int .i64 6) (.string ⟨#[]⟩) (.slice y 4 m) (.slice z 4 n) ∧ Gn w4 no w3 := fun w' b y6 a6 z6 b6 y m z n hg h1 h2 h3 h4 => by
        have hb := HBW w' hg
        refine (object_put [(kVer, numJ 2), (kMed, txtJ mMan), (kCfg, bareJ c), (kLay, lstJ (l.map bareJ))] w.heap.size _ 4 w' hb.size (by show 4 ≤ 1000; omega) (fldr4 (k1 := kVer) (k2 := kMed) (k3 := kCfg) (k4 := kLay) h1 h2 (leaf_holds _ _ 3 (Lib.itoa 2) (by have := Lib.itoa_length_le 2 (by omega) (by omega); omega)) (leaf_holds _ _ 4 mMan (by decide)) h3 h4)).mono ?_
        rintro e w3 ⟨y, m, z, n, rfl, hV, hb3⟩
        exact ⟨y, m, z, n, rfl, HoldsC.mono (fun k hk hlt => hlt) _ _ _ _ _ hV, hg.call hb3⟩
      have CP : ∀ w' y m z n, Gn w4 no w' → HoldsC w' (fun q => q < w'.heap.size) (manJ c l) (.int .i64 6) (.string ⟨#[]⟩) (.slice y 4 m) (.slice z 4 n) → Calls Tryz.prog 29 #[.agg #[.int .i64 6, .string ⟨#[]⟩, .slice y 4 m, .slice z 4 n]] w' fun e w3 => e = .returned (.tuple #[.string (str R.1), .int .i64 (R.2 : Int)]) ∧ Gn w4 no w3 := fun w' y m z n hg hV => by
        rw [e0.out]
        refine (print_any (okJ_man hl8 HPC.out HP.out) (HE.out.below (HBW w' hg)).env hV).mono ?_
        rintro e w3 ⟨rfl, hb3⟩
        exact ⟨rfl, hg.call hb3⟩
      have OS : ∀ w', Gn w4 no w' → w'.rangeAt w.heap.size 0 X ∧ w'.cell? ⟨w.heap.size, 36, none⟩ = some (.slice x l.length cc) := fun w' h => by
        rw [hX]
        exact encM_range HPC.out.1 (h.row R4.out id)
      have iD : (Tryz.prog.info? 28).map (·.size) = some X.length := by rw [hX]; exact HIL.out
      have uD := Tryz.underlying28
      have HBB := Lib.hid HBW
      clear HBW hX hXa CF
      have SO : ∀ w', Gn w4 no w' → Gn w4 no w' := fun _ h => h
      refine wp_region_noPanic ?_
      refine wp_region_held_drew (S := Gn w4 no) (by kernel_rfl) (Gn.start _ _) (fun hHeld => ?_)
      generalize w4.drew = wd at *
      refine wpAnyH_take (i := 4) (oi := { dst := some 25, op := Op.fieldAddr 31 (Operand.tmp 1) 0, type := 0, pos := "oci.go:150", after := #[], guard := none }) (v := ?_) rfl (by kernel_rfl) (by kernel_rfl) (by kernel_rfl) (fun _ _ _ h => h) (Or.inl ⟨by rfl, ?_⟩) (by assumption) ?_
      rotate_left
      · intro w hSw
        skip
        clear hSw
        go_simp
        try with_reducible rfl
      try simp only [Act.put, List.setIfInBounds_toArray, List.set_cons_zero, List.set_cons_succ]
      refine wpAnyH_take (i := 8) (oi := { dst := some 29, op := Op.fieldAddr 31 (Operand.tmp 1) 1, type := 0, pos := "oci.go:150", after := #[], guard := none }) (v := ?_) rfl (by kernel_rfl) (by kernel_rfl) (by kernel_rfl) (fun _ _ _ h => h) (Or.inl ⟨by rfl, ?_⟩) (by assumption) ?_
      rotate_left
      · intro w hSw
        skip
        clear hSw
        go_simp
        try with_reducible rfl
      try simp only [Act.put, List.setIfInBounds_toArray, List.set_cons_zero, List.set_cons_succ]
      refine wpAnyH_take (i := 5) (oi := { dst := some 26, op := Op.load 28 (Operand.tmp 25), type := 28, pos := "oci.go:150", after := #[{ on := 4, ground := Ground.data }], guard := none }) (v := _) rfl (by kernel_rfl) (by kernel_rfl) (by kernel_rfl) (fun _ _ _ h => h) (yieldsIf_load_mid (by rfl) _ _ rfl _ _ rfl _ _ (by intro w hSw; have hSw := OS _ hSw; go_split_ands; assumption) (by assumption) rfl (by assumption)) (by assumption) ?_
      try simp only [Act.put, List.setIfInBounds_toArray, List.set_cons_zero, List.set_cons_succ]
      refine wpAnyH_take (i := 9) (oi := { dst := some 30, op := Op.load 29 (Operand.tmp 29), type := 29, pos := "oci.go:150", after := #[{ on := 8, ground := Ground.data }], guard := none }) (v := ?_) rfl (by kernel_rfl) (by kernel_rfl) (by kernel_rfl) (fun _ _ _ h => h) (Or.inl ⟨by rfl, ?_⟩) (by assumption) ?_
      rotate_left
      · intro w hSw
        have hSw := OS _ hSw
        go_simp
        try with_reducible rfl
      try simp only [Act.put, List.setIfInBounds_toArray, List.set_cons_zero, List.set_cons_succ]
      refine wpAnyH_ready (rs := [0]) (by kernel_rfl) (by simp) ?_
      refine (AllReadyH.cons (o := { dst := some 21, op := Op.call { callee := Callee.value (Operand.func 51), args := #[Operand.const (Value.int IntKind.i64 2)], argTypes := #[3] }, type := 63, pos := "oci.go:151", after := #[], guard := none }) rfl (fun K hK => ?_) AllReadyH.nil)
      go_simp
      with_reducible refine (CV _ hHeld).mono ?_
      rintro e w0' ⟨rfl, m0'⟩
      refine hK.out _ _ (SO _ (by assumption)) (fun hHeld => ?_)
      clear hK K
      try simp only [Act.put, List.setIfInBounds_toArray, List.set_cons_zero, List.set_cons_succ]
      refine wpAnyH_take (i := 1) (oi := { dst := some 22, op := Op.build 102 #[(0, Operand.const (Value.string { data := #[115, 99, 104, 101, 109, 97, 86, 101, 114, 115, 105, 111, 110] })), (1, Operand.tmp 21)], type := 102, pos := "oci.go:150", after := #[{ on := 0, ground := Ground.data }], guard := none }) (v := ?_) rfl (by kernel_rfl) (by kernel_rfl) (by kernel_rfl) (fun _ _ _ h => h) (Or.inl ⟨by rfl, ?_⟩) (by assumption) ?_
      rotate_left
      · intro w hSw
        skip
        clear hSw
        go_simp
        try with_reducible rfl
      try simp only [Act.put, List.setIfInBounds_toArray, List.set_cons_zero, List.set_cons_succ]
      refine wpAnyH_ready (rs := [2]) (by kernel_rfl) (by simp) ?_
      refine (AllReadyH.cons (o := { dst := some 23, op := Op.call { callee := Callee.value (Operand.func 52), args := #[Operand.const (Value.string { data := #[97, 112, 112, 108, 105, 99, 97, 116, 105, 111, 110, 47, 118, 110, 100, 46, 111, 99, 105, 46, 105, 109, 97, 103, 101, 46, 109, 97, 110, 105, 102, 101, 115, 116, 46, 118, 49, 43, 106, 115, 111, 110] })], argTypes := #[9] }, type := 63, pos := "oci.go:152", after := #[{ on := 0, ground := Ground.chain }], guard := none }) rfl (fun K hK => ?_) AllReadyH.nil)
      go_simp
      with_reducible refine (CT _ hHeld).mono ?_
      rintro e w2' ⟨rfl, m2'⟩
      refine hK.out _ _ (SO _ (by assumption)) (fun hHeld => ?_)
      clear hK K
      try simp only []
      refine wpAnyH_take (i := 3) (oi := { dst := some 24, op := Op.build 102 #[(0, Operand.const (Value.string { data := #[109, 101, 100, 105, 97, 84, 121, 112, 101] })), (1, Operand.tmp 23)], type := 102, pos := "oci.go:150", after := #[{ on := 2, ground := Ground.data }], guard := none }) (v := ?_) rfl (by kernel_rfl) (by kernel_rfl) (by kernel_rfl) (fun _ _ _ h => h) (Or.inl ⟨by rfl, ?_⟩) (by assumption) ?_
      rotate_left
      · intro w hSw
        skip
        clear hSw
        go_simp
        try with_reducible rfl
      try simp only [Act.put, List.setIfInBounds_toArray, List.set_cons_zero, List.set_cons_succ]
      refine wpAnyH_ready (rs := [6]) (by kernel_rfl) (by simp) ?_
      refine (AllReadyH.cons (o := { dst := some 27, op := Op.call { callee := Callee.value (Operand.func 53), args := #[Operand.tmp 26], argTypes := #[28] }, type := 63, pos := "oci.go:153", after := #[{ on := 5, ground := Ground.data }, { on := 2, ground := Ground.chain }], guard := none }) rfl (fun K hK => ?_) AllReadyH.nil)
      go_simp
      with_reducible refine (CG _ hHeld).mono ?_
      rintro e w6' ⟨y6, a6, z6, b6, rfl, h6, m6'⟩
      have H6 := Lib.hid h6; clear h6
      refine hK.out _ _ (SO _ (by assumption)) (fun hHeld => ?_)
      clear hK K
      try simp only [Act.put, List.setIfInBounds_toArray, List.set_cons_zero, List.set_cons_succ]
      refine wpAnyH_take (i := 7) (oi := { dst := some 28, op := Op.build 102 #[(0, Operand.const (Value.string { data := #[99, 111, 110, 102, 105, 103] })), (1, Operand.tmp 27)], type := 102, pos := "oci.go:150", after := #[{ on := 6, ground := Ground.data }], guard := none }) (v := ?_) rfl (by kernel_rfl) (by kernel_rfl) (by kernel_rfl) (fun _ _ _ h => h) (Or.inl ⟨by rfl, ?_⟩) (by assumption) ?_
      rotate_left
      · intro w hSw
        skip
        clear hSw
        go_simp
        try with_reducible rfl
      try simp only [Act.put, List.setIfInBounds_toArray, List.set_cons_zero, List.set_cons_succ]
      refine wpAnyH_ready (rs := [10]) (by kernel_rfl) (by simp) ?_
      refine (AllReadyH.cons (o := { dst := some 31, op := Op.call { callee := Callee.value (Operand.func 54), args := #[Operand.tmp 30, Operand.func 53], argTypes := #[29, 104] }, type := 63, pos := "oci.go:154", after := #[{ on := 9, ground := Ground.data }, { on := 6, ground := Ground.chain }], guard := none }) rfl (fun K hK => ?_) AllReadyH.nil)
      go_simp
      with_reducible refine (CL _ hHeld).mono ?_
      rintro e w10' ⟨y, m, z, n, rfl, h10, b10, m10'⟩
      have H10 := Lib.hid h10; have H6' := Lib.hid (HoldsC.mono (G := fun q => w.heap.size ≤ q ∧ q < w10'.heap.size) (fun k hk hlt => ⟨hk.1, hlt⟩) _ _ _ _ _ (HoldsC.chg (Chg.of_below (s := fun _ => False) b10) (fun _ _ h => h) _ _ _ _ _ H6.out)); clear h10 b10
      refine hK.out _ _ (SO _ (by assumption)) (fun hHeld => ?_)
      clear hK K
      try simp only [Act.put, List.setIfInBounds_toArray, List.set_cons_zero, List.set_cons_succ]
      refine wpAnyH_take (i := 11) (oi := { dst := some 32, op := Op.build 102 #[(0, Operand.const (Value.string { data := #[108, 97, 121, 101, 114, 115] })), (1, Operand.tmp 31)], type := 102, pos := "oci.go:150", after := #[{ on := 10, ground := Ground.data }], guard := none }) (v := ?_) rfl (by kernel_rfl) (by kernel_rfl) (by kernel_rfl) (fun _ _ _ h => h) (Or.inl ⟨by rfl, ?_⟩) (by assumption) ?_
      rotate_left
      · intro w hSw
        skip
        clear hSw
        go_simp
        try with_reducible rfl
      try simp only [Act.put, List.setIfInBounds_toArray, List.set_cons_zero, List.set_cons_succ]
      refine wpAnyH_ready (rs := [12]) (by kernel_rfl) (by simp) ?_
      refine (AllReadyH.cons (o := { dst := some 33, op := Op.buildSlice 158 4 #[(0, Operand.tmp 22), (1, Operand.tmp 24), (2, Operand.tmp 28), (3, Operand.tmp 32)], type := 158, pos := "oci.go:150", after := #[{ on := 1, ground := Ground.data }, { on := 3, ground := Ground.data }, { on := 7, ground := Ground.data }, { on := 11, ground := Ground.data }], guard := none }) rfl (fun K hK => ?_) AllReadyH.nil)
      skip
      go_simp
      refine hK.out _ _ (SO _ (by exact Gn.alloc hHeld _)) (fun hHeld => ?_)
      clear hK K
      try simp only [Act.put, List.setIfInBounds_toArray, List.set_cons_zero, List.set_cons_succ]
      refine wpAnyH_ready (rs := [13]) (by kernel_rfl) (by simp) ?_
      refine (AllReadyH.cons (o := { dst := some 34, op := Op.call { callee := Callee.value (Operand.func 50), args := #[Operand.tmp 33], argTypes := #[158] }, type := 63, pos := "oci.go:150", after := #[{ on := 12, ground := Ground.data }, { on := 10, ground := Ground.chain }], guard := none }) rfl (fun K hK => ?_) AllReadyH.nil)
      go_simp
      with_reducible refine (CO _ _ _ _ _ _ _ _ _ _ hHeld (rowC_new _ _ _) (by rw [size_alloc]; omega) (HoldsC.mono (fun k hk _ => ⟨hk.1, by rw [size_alloc]; have := hk.2; omega⟩) _ _ _ _ _ (HoldsC.chg ((Chg.refl (fun _ => False) _).alloc _) (fun _ _ h => h) _ _ _ _ _ H6'.out)) (HoldsC.mono (fun k hk _ => ⟨hk.1, by rw [size_alloc]; have := hk.2; omega⟩) _ _ _ _ _ (HoldsC.chg ((Chg.refl (fun _ => False) _).alloc _) (fun _ _ h => h) _ _ _ _ _ H10.out))).mono ?_
      rintro e w13' ⟨y8, m8, z8, n8, rfl, h13, m13'⟩
      have H13 := Lib.hid h13; clear h13
      refine hK.out _ _ (SO _ (by assumption)) (fun hHeld => ?_)
      clear hK K
      try simp only [Act.put, List.setIfInBounds_toArray, List.set_cons_zero, List.set_cons_succ]
      refine wpAnyH_ready (rs := [14]) (by kernel_rfl) (by simp) ?_
      refine (AllReadyH.cons (o := { dst := some 35, op := Op.call { callee := Callee.value (Operand.func 29), args := #[Operand.tmp 34], argTypes := #[63] }, type := 50, pos := "oci.go:150", after := #[{ on := 13, ground := Ground.data }, { on := 13, ground := Ground.chain }], guard := none }) rfl (fun K hK => ?_) AllReadyH.nil)
      go_simp
      with_reducible refine (CP _ _ _ _ _ hHeld H13.out).mono ?_
      rintro e w14' ⟨rfl, m14'⟩
      refine hK.out _ _ (SO _ (by assumption)) (fun hHeld => ?_)
      clear hK K
      try simp only [Act.put, List.setIfInBounds_toArray, List.set_cons_zero, List.set_cons_succ]
      refine wpAnyH_take (i := 15) (oi := { dst := some 36, op := Op.extract (Operand.tmp 35) 0, type := 9, pos := "oci.go:150", after := #[{ on := 14, ground := Ground.data }], guard := none }) (v := ?_) rfl (by kernel_rfl) (by kernel_rfl) (by kernel_rfl) (fun _ _ _ h => h) (Or.inl ⟨by rfl, ?_⟩) (by assumption) ?_
      rotate_left
      · intro w hSw
        skip
        clear hSw
        go_simp
        try with_reducible rfl
      try simp only [Act.put, List.setIfInBounds_toArray, List.set_cons_zero, List.set_cons_succ]
      refine wpAnyH_take (i := 16) (oi := { dst := some 37, op := Op.extract (Operand.tmp 35) 1, type := 32, pos := "oci.go:150", after := #[{ on := 14, ground := Ground.data }], guard := none }) (v := ?_) rfl (by kernel_rfl) (by kernel_rfl) (by kernel_rfl) (fun _ _ _ h => h) (Or.inl ⟨by rfl, ?_⟩) (by assumption) ?_
      rotate_left
      · intro w hSw
        skip
        clear hSw
        go_simp
        try with_reducible rfl
      try simp only [Act.put, List.setIfInBounds_toArray, List.set_cons_zero, List.set_cons_succ]
      refine wpAnyH_take (i := 17) (oi := { dst := some 2, op := Op.assign (Operand.tmp 36), type := 9, pos := "oci.go:150", after := #[{ on := 15, ground := Ground.data }, { on := 14, ground := Ground.chain }, { on := 0, ground := Ground.phase }, { on := 1, ground := Ground.phase }, { on := 2, ground := Ground.phase }, { on := 3, ground := Ground.phase }, { on := 4, ground := Ground.phase }, { on := 5, ground := Ground.phase }, { on := 6, ground := Ground.phase }, { on := 7, ground := Ground.phase }, { on := 8, ground := Ground.phase }, { on := 9, ground := Ground.phase }, { on := 10, ground := Ground.phase }, { on := 11, ground := Ground.phase }, { on := 12, ground := Ground.phase }, { on := 13, ground := Ground.phase }, { on := 14, ground := Ground.phase }, { on := 15, ground := Ground.phase }, { on := 16, ground := Ground.phase }], guard := none }) (v := ?_) rfl (by kernel_rfl) (by kernel_rfl) (by kernel_rfl) (fun _ _ _ h => h) (Or.inl ⟨by rfl, ?_⟩) (by assumption) ?_
      rotate_left
      · intro w hSw
        skip
        clear hSw
        go_simp
        try with_reducible rfl
      try simp only [Act.put, List.setIfInBounds_toArray, List.set_cons_zero, List.set_cons_succ]
      refine wpAnyH_take (i := 18) (oi := { dst := some 3, op := Op.assign (Operand.tmp 37), type := 32, pos := "oci.go:150", after := #[{ on := 16, ground := Ground.data }, { on := 17, ground := Ground.chain }, { on := 0, ground := Ground.phase }, { on := 1, ground := Ground.phase }, { on := 2, ground := Ground.phase }, { on := 3, ground := Ground.phase }, { on := 4, ground := Ground.phase }, { on := 5, ground := Ground.phase }, { on := 6, ground := Ground.phase }, { on := 7, ground := Ground.phase }, { on := 8, ground := Ground.phase }, { on := 9, ground := Ground.phase }, { on := 10, ground := Ground.phase }, { on := 11, ground := Ground.phase }, { on := 12, ground := Ground.phase }, { on := 13, ground := Ground.phase }, { on := 14, ground := Ground.phase }, { on := 15, ground := Ground.phase }, { on := 16, ground := Ground.phase }, { on := 17, ground := Ground.phase }], guard := none }) (v := ?_) rfl (by kernel_rfl) (by kernel_rfl) (by kernel_rfl) (fun _ _ _ h => h) (Or.inl ⟨by rfl, ?_⟩) (by assumption) ?_
      rotate_left
      · intro w hSw
        skip
        clear hSw
        go_simp
        try with_reducible rfl
      try simp only [Act.put, List.setIfInBounds_toArray, List.set_cons_zero, List.set_cons_succ]
      refine wpAnyH_done (by kernel_rfl) ?_ _
      refine NoPanic.normal ?_
      go_wp2
      go_ret2
      exact ⟨rfl, HBB.out _ hHeld⟩
end Go.Proofs.YtlknngplnimdpaaGreatDoor

