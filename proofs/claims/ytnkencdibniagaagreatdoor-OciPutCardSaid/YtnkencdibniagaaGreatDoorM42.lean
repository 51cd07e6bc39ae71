/- Merged: OhG, OhH, OhI. -/
import Derived.Test.YtnkencdibniagaaGreatDoorM41
import Derived.Test.YtnkencdibniagaaGreatDoorM36
import Derived.Test.YtnkencdibniagaaGreatDoorM31
import Derived.Test.YtnkencdibniagaaGreatDoorM37
/- Layer 13, the document's own side: may descriptors be; Check. -/
namespace Go.Proofs.YtnkencdibniagaaGreatDoor
open Go.RowKit

set_option maxRecDepth 100000 in
set_option maxHeartbeats 4000000 in
theorem rmay13_any (l : List DV) (x : Option Addr) (cc : Nat) (w : World) (hn : l.length ≤ 1000) (hs : ∀ d ∈ l, d.media.length ≤ 1000 ∧ d.os.length ≤ 1000 ∧ d.arch.length ≤ 1000) (hL : eDess.at_ w (fun k => k < w.heap.size) l (.slice x l.length cc)) :
    Calls Tryz.prog 55 #[.slice x l.length cc] w fun e w' => e = .returned (.bool (l.all mayD)) ∧ Below w.heap.size w w' := by
  obtain ⟨V, hV⟩ : ∃ V, V = l.all mayD := ⟨_, rfl⟩
  rw [← hV]
  have HV := Lib.hid hV
  have HL := Lib.hid hL
  have HS := Lib.hid hs
  have HID := Lib.hid (fun (d : DV) (h : goodD d) => show (Tryz.prog.info? 28).map (·.size) = some (encD d).size by rw [encD_size d h]; exact info_D)
  have HSZ := Lib.hid (fun (d : DV) (h : goodD d) => show (encD zeroD).size = (encD d).size by rw [encD_size d h]; rfl)
  obtain ⟨N, hN⟩ : ∃ N, N = l.length := ⟨_, rfl⟩
  have HN := Lib.hid hN
  rw [← hN] at hn ⊢
  clear hV hL hs hN
  go_enter Tryz.func55, Tryz.ntmps55
  go_wp2
  go_loopw [3] (fun i wr => ∃ k : Nat, i = .int .i64 (k : Int) ∧ k ≤ N ∧ Hid ((l.take k).all mayD = true) ∧ Hid (Below w.heap.size w wr)) (fun i _ => N - (intOf i).toNat)
  case atStart => exact ⟨0, rfl, Nat.zero_le _, Lib.hid rfl, Lib.hid (Below.refl _ _)⟩
  case round =>
    obtain ⟨k, rfl, hk, hT, hB⟩ := hrel
    have sw := hB.out.size
    by_cases hlt : k < N
    · have g0 : (k : Int) < (N : Int) := by omega
      obtain ⟨d, hd⟩ : ∃ d, l[k]? = some d := ⟨_, List.getElem?_eq_getElem (by rw [← HN.out]; exact hlt)⟩
      have hdm := List.mem_of_getElem? hd
      obtain ⟨b1, b2, b3⟩ := HS.out d hdm
      obtain ⟨gd, ad, rfl, hab, hcs⟩ := dess_at HL.out hd
      have HGD := Lib.hid gd
      have HCS := Lib.hid (show ∀ i u, (encL d)[i]? = some u → wr.cell? ((ad.add (k * 36)).add i) = some u from fun i u hu => by
        rw [World.cell?_of_block (w := w) (w' := wr) (hB.out.block _ (by rw [add_block, add_block]; exact hab))]
        exact hcs i u hu)
      have HEL := Lib.hid (encD_list d)
      have HIL := Lib.hid (show (Tryz.prog.info? 28).map (·.size) = some (encL d).length by rw [encL_len gd.1]; exact info_D)
      have HNF : Hid (mayD d = false → V = false) := Lib.hid (fun h => by
        rw [HV.out, List.all_eq_false]
        exact ⟨d, hdm, by rw [h]; exact Bool.false_ne_true⟩)
      have HNX : Hid (mayD d = true → (l.take (k + 1)).all mayD = true) := Lib.hid (fun h => by
        rw [List.take_add_one, hd, Option.toList_some, List.all_append, hT.out, Bool.true_and, List.all_cons, h]
        rfl)
      have C1 := fun w => rutf_any d.media (by omega) w
      have C2 := fun w => rutf_any d.os (by omega) w
      have C3 := fun w => rutf_any d.arch (by omega) w
      have HD : Hid (mayD d = (decide (0 ≤ d.size) && decide (d.size ≤ 9007199254740992) && Lib.validD d.media && (Lib.validD d.os && Lib.validD d.arch))) := Lib.hid rfl
      obtain ⟨V1, hV1⟩ : ∃ V1, V1 = Lib.validD d.media := ⟨_, rfl⟩
      obtain ⟨V2, hV2⟩ : ∃ V1, V1 = Lib.validD d.os := ⟨_, rfl⟩
      obtain ⟨V3, hV3⟩ : ∃ V1, V1 = Lib.validD d.arch := ⟨_, rfl⟩
      rw [← hV1] at C1 HD
      rw [← hV2] at C2 HD
      rw [← hV3] at C3 HD
      clear gd hcs hd hdm hab hT hV1 hV2 hV3 b1 b2 b3
      go_upto_region 5 with (first
        | ((with_reducible show wpList _ _ _ (⟨some 14, .load _ _, _, _, _, _⟩ :: _) _ _); refine wpList_load_at rfl 28 _ rfl (ad.add (k * 36)) rfl (encL d) _ HCS.out Tryz.underlying28 rfl HIL.out ?_)
        | ((with_reducible show wpList _ _ _ (⟨none, .store _ (.tmp 4) _, _, _, _, _⟩ :: _) _ _); refine wpList_store_last rfl 28 _ _ rfl wr.heap.size (encD d) rfl (by rw [HEL.out]; rfl) 28 (encD zeroD) rfl (HID.out d HGD.out) (HSZ.out d HGD.out) (encD_one d) ?_))
      obtain ⟨W1, hW1⟩ : ∃ W1, W1 = wr.alloc (.cells (encD d) 28) := ⟨_, rfl⟩
      rw [← hW1]
      have R1 : rowC W1 wr.heap.size (encD d) 28 := by rw [hW1]; exact rowC_new _ _ _
      have HB1 : Hid (Below w.heap.size w W1) := Lib.hid (by rw [hW1]; exact hB.out.alloc sw _)
      have HR : Hid (∀ w', Below W1.heap.size W1 w' → w'.cell? ⟨wr.heap.size, 0, none⟩ = some (.string (str d.media)) ∧ w'.cell? ⟨wr.heap.size, 33, none⟩ = some (.int .i64 d.size) ∧ w'.cell? ⟨wr.heap.size, 34, none⟩ = some (.string (str d.os)) ∧ w'.cell? ⟨wr.heap.size, 35, none⟩ = some (.string (str d.arch))) := Lib.hid (fun w' hb => by
        have h := rowC_below R1 hb (rowC_lt R1)
        exact ⟨(encD_range HGD.out.1 h).1, (encD_range HGD.out.1 h).2.2, (encD_pla HGD.out.1 h).2.1, (encD_pla HGD.out.1 h).2.2⟩)
      obtain ⟨q0, q33, q34, q35⟩ := HR.out W1 (Below.refl _ _)
      clear hW1 R1 HCS HEL HIL sw
      generalize str d.media = M at *
      generalize str d.os = OS at *
      generalize str d.arch = AR at *
      generalize d.size = z at *
      by_cases ha : z < 0
      · have e0 : Hid (V = false) := Lib.hid (HNF.out (by rw [HD.out, decide_eq_false (by omega)]; rfl))
        clear C1 C2 C3
        go_wp2
        go_ret
        exact ⟨by rw [e0.out]; rfl, HB1.out⟩
      by_cases hb : 9007199254740992 < z
      · have e0 : Hid (V = false) := Lib.hid (HNF.out (by rw [HD.out, decide_eq_false (show ¬ z ≤ 9007199254740992 by omega), Bool.and_false]; rfl))
        clear C1 C2 C3
        go_wp2
        go_ret
        exact ⟨by rw [e0.out]; rfl, HB1.out⟩
      have HD2 : Hid (mayD d = (V1 && (V2 && V3))) := Lib.hid (by rw [HD.out, decide_eq_true (show 0 ≤ z by omega), decide_eq_true (show z ≤ 9007199254740992 by omega)]; rfl)
      clear HD
      cases V1
      · have e0 : Hid (V = false) := Lib.hid (HNF.out (by rw [HD2.out]; rfl))
        clear C2 C3
        go_wp2_with (go_at_call 63; (with_reducible refine (C1 _).mono ?_); rintro e w2 ⟨rfl, b2⟩; have HB2 := Lib.hid (HB1.out.trans (b2.mono HB1.out.size)); clear b2)
        go_ret
        exact ⟨by rw [e0.out]; rfl, HB2.out⟩
      cases V2
      · have e0 : Hid (V = false) := Lib.hid (HNF.out (by rw [HD2.out]; rfl))
        clear C3
        go_wp2_with (go_at_call 63; first
          | ((with_reducible refine (C1 _).mono ?_); rintro e w2 ⟨rfl, b2⟩; obtain ⟨p0, p33, p34, p35⟩ := HR.out _ b2; have HB2 := Lib.hid b2; clear b2)
          | ((with_reducible refine (C2 _).mono ?_); rintro e w3 ⟨rfl, b3⟩; have HB3 := Lib.hid (HB2.out.trans (b3.mono HB2.out.size)); clear b3))
        go_ret
        exact ⟨by rw [e0.out]; rfl, HB1.out.trans (HB3.out.mono HB1.out.size)⟩
      cases V3
      · have e0 : Hid (V = false) := Lib.hid (HNF.out (by rw [HD2.out]; rfl))
        go_wp2_with (go_at_call 63; first
          | ((with_reducible refine (C1 _).mono ?_); rintro e w2 ⟨rfl, b2⟩; obtain ⟨p0, p33, p34, p35⟩ := HR.out _ b2; have HB2 := Lib.hid b2; clear b2)
          | ((with_reducible refine (C2 _).mono ?_); rintro e w3 ⟨rfl, b3⟩; have HB3 := Lib.hid (HB2.out.trans (b3.mono HB2.out.size)); obtain ⟨r0, r33, r34, r35⟩ := HR.out _ HB3.out; clear b3)
          | ((with_reducible refine (C3 _).mono ?_); rintro e w4 ⟨rfl, b4⟩; have HB4 := Lib.hid (HB3.out.trans (b4.mono HB3.out.size)); clear b4))
        go_ret
        exact ⟨by rw [e0.out]; rfl, HB1.out.trans (HB4.out.mono HB1.out.size)⟩
      have HNT : Hid ((l.take (k + 1)).all mayD = true) := Lib.hid (HNX.out (by rw [HD2.out]; rfl))
      go_wp2_with (go_at_call 63; first
        | ((with_reducible refine (C1 _).mono ?_); rintro e w2 ⟨rfl, b2⟩; obtain ⟨p0, p33, p34, p35⟩ := HR.out _ b2; have HB2 := Lib.hid b2; clear b2)
        | ((with_reducible refine (C2 _).mono ?_); rintro e w3 ⟨rfl, b3⟩; have HB3 := Lib.hid (HB2.out.trans (b3.mono HB2.out.size)); obtain ⟨r0, r33, r34, r35⟩ := HR.out _ HB3.out; clear b3)
        | ((with_reducible refine (C3 _).mono ?_); rintro e w4 ⟨rfl, b4⟩; have HB4 := Lib.hid (HB3.out.trans (b4.mono HB3.out.size)); clear b4))
      go_roundw
      case rel => exact ⟨k + 1, by go_num, by omega, HNT, Lib.hid (HB1.out.trans (HB4.out.mono HB1.out.size))⟩
      case measure => simp [intOf] <;> omega
    · obtain rfl : k = N := by omega
      have HF : Hid (V = true) := Lib.hid (by
        have h := hT.out
        rw [List.take_of_length_le (by rw [← HN.out]; omega)] at h
        rw [HV.out, h])
      clear hT
      go_wp2
      go_ret
      exact ⟨by rw [HF.out]; rfl, hB.out⟩
set_option maxRecDepth 100000 in
set_option maxHeartbeats 4000000 in
theorem rcheck_any (c : DV) (l : List DV) (x : Option Addr) (cc : Nat) (w : World) (hn : l.length ≤ 1000) (hc : goodD c) (hL : eDess.at_ w (fun k => k < w.heap.size) l (.slice x l.length cc)) :
    Calls Tryz.prog 41 #[.agg (encM c (.slice x l.length cc))] w fun e w' => e = .returned (.int .i64 (fitsN c l : Int)) ∧ Below w.heap.size w w' := by
  obtain ⟨W0, hW0⟩ : ∃ W0, W0 = w.alloc (.cells (encM c (.slice x l.length cc)) 31) := ⟨_, rfl⟩
  have R0 : rowC W0 w.heap.size (encM c (.slice x l.length cc)) 31 := by rw [hW0]; exact rowC_new w _ _
  have B0 : Below w.heap.size w W0 := by rw [hW0]; exact (Below.refl _ _).alloc (Nat.le_refl _) _
  have HR := Lib.hid (fun (w' : World) (hb : Below W0.heap.size W0 w') => show w'.cell? ⟨w.heap.size, 36, none⟩ = some (.slice x l.length cc) ∧ w'.cell? ⟨w.heap.size, 0, none⟩ = some (.string (str c.media)) from by
    have h := rowC_below R0 hb (rowC_lt R0)
    exact ⟨by rw [rowC_cell h]; exact encM_36 hc _, by rw [rowC_cell h]; exact encM_0 _ _⟩)
  obtain ⟨F, hF⟩ : ∃ N, N = fitsN c l := ⟨_, rfl⟩
  rw [← hF]
  have HF := Lib.hid hF
  have HW0 := Lib.hid hW0
  have HB0 := Lib.hid B0
  have HL := Lib.hid hL
  have CC := fun w => rkind_any c.media w
  obtain ⟨kc, hkc⟩ : ∃ k, k = kindN c.media := ⟨_, rfl⟩
  rw [← hkc] at CC
  have HKC := Lib.hid hkc
  obtain ⟨N, hN⟩ : ∃ N, N = l.length := ⟨_, rfl⟩
  have HN := Lib.hid hN
  rw [← hN] at hn HR HW0 ⊢
  obtain ⟨q36, q0⟩ := HR.out W0 (Below.refl _ _)
  clear hF hW0 R0 B0 hL hkc hN
  go_enter Tryz.func41, Tryz.ntmps41
  go_upto_region 1 with (fail)
  change Code.wp _ _ _ _ (w.alloc (.cells (encM c (.slice x N cc)) 31))
  rw [← HW0.out]
  by_cases h8 : 8 < N
  · have e0 : Hid (F = 63) := Lib.hid (by rw [HF.out]; unfold fitsN; rw [if_pos (by rw [← HN.out]; exact h8)])
    have h8' : (8 : Int) < (N : Int) := by omega
    clear h8
    go_wp2
    go_ret
    exact ⟨by rw [e0.out]; rfl, HB0.out⟩
  have h8' : ¬ (8 : Int) < (N : Int) := by omega
  have HFF : Hid (F = if kc = 3 ∧ l.all (fun d => kindN d.media == 4) = true then 0 else 72) := Lib.hid (by
    rw [HF.out, HKC.out]
    unfold fitsN
    rw [if_neg (by rw [← HN.out]; exact h8)]
    by_cases h1 : kindN c.media = 3
    · rw [if_neg (by simpa using h1)]
      by_cases h2 : l.all (fun d => kindN d.media == 4) = true
      · rw [if_pos h2, if_pos ⟨h1, h2⟩]
      · rw [if_neg h2, if_neg (fun h => h2 h.2)]
    · rw [if_pos h1, if_neg (fun h => h1 h.1)])
  clear HF h8
  go_upto_region 4 with (go_at_call 26; (with_reducible refine (CC _).mono ?_); rintro e w2 ⟨rfl, b2⟩; have HB2 := Lib.hid b2; clear b2)
  obtain ⟨b0, hb0⟩ : ∃ b, b = ((kc : Int) == 3) := ⟨_, rfl⟩
  rw [← hb0]
  have HB0' : Hid (b0 = (decide (kc = 3) && (l.take 0).all (fun d => kindN d.media == 4))) := Lib.hid (by
    rw [hb0, List.take_zero, List.all_nil, Bool.and_true]
    by_cases h : kc = 3
    · subst h; rfl
    · rw [decide_eq_false h, beq_eq_false_iff_ne]; omega)
  clear hb0 CC
  go_wp2
  go_loopw [4, 3] (fun i o wr => ∃ (k : Nat) (b : Bool), i = .int .i64 (k : Int) ∧ o = .bool b ∧ k ≤ N ∧ Hid (b = (decide (kc = 3) && (l.take k).all (fun d => kindN d.media == 4))) ∧ Hid (Below W0.heap.size W0 wr)) (fun i _ _ => N - (intOf i).toNat)
  case atStart => exact ⟨0, b0, rfl, rfl, Nat.zero_le _, HB0', HB2⟩
  case round =>
    obtain ⟨k, b, rfl, rfl, hk, hT, hB⟩ := hrel
    obtain ⟨r36, r0⟩ := HR.out wr hB.out
    by_cases hlt : k < N
    · have g0 : (k : Int) < (N : Int) := by omega
      obtain ⟨d, hd⟩ : ∃ d, l[k]? = some d := ⟨_, List.getElem?_eq_getElem (by rw [← HN.out]; exact hlt)⟩
      have hst : ∀ b', b' = (b && (kindN d.media == 4)) → b' = (decide (kc = 3) && (l.take (k + 1)).all (fun d => kindN d.media == 4)) := fun b' hb' => by
        rw [hb', hT.out, List.take_add_one, hd, Option.toList_some, List.all_append, Bool.and_assoc]
        simp
      cases b
      · have HX : Hid (false = (decide (kc = 3) && (l.take (k + 1)).all (fun d => kindN d.media == 4))) := Lib.hid (hst false rfl)
        clear hst hT hd
        go_wp2
        go_roundw
        case rel => exact ⟨k + 1, false, by go_num, rfl, by omega, HX, hB⟩
        case measure => simp [intOf] <;> omega
      · obtain ⟨gd, ad, rfl, hab, hcs⟩ := dess_at HL.out hd
        have qe : wr.cell? (ad.add (k * 36)) = some (.string (str d.media)) := by
          have h1 := hcs 0 (.string (str d.media)) rfl
          rw [add_add, Nat.add_zero] at h1
          rw [World.cell?_of_block (w := w) (w' := wr) ((HB0.out.trans (hB.out.mono HB0.out.size)).block _ (by rw [add_block]; exact hab))]
          exact h1
        have CD := fun w => rkind_any d.media w
        obtain ⟨kd, hkd⟩ : ∃ k, k = kindN d.media := ⟨_, rfl⟩
        rw [← hkd] at CD
        obtain ⟨b', hb'⟩ : ∃ b', b' = ((kd : Int) == 4) := ⟨_, rfl⟩
        have HX : Hid (b' = (decide (kc = 3) && (l.take (k + 1)).all (fun d => kindN d.media == 4))) := Lib.hid (hst b' (by
          rw [hb', ← hkd, Bool.true_and]
          by_cases h : kd = 4
          · subst h; rfl
          · rw [show (kd == 4) = false by simpa using h, beq_eq_false_iff_ne]; omega))
        have HBE := Lib.hid hb'
        clear hst hT hd gd hab hcs hkd hb'
        go_wp2_with (go_at_call 26; (with_reducible refine (CD _).mono ?_); rintro e w3 ⟨rfl, b3⟩; have HB3 := Lib.hid (hB.out.trans (b3.mono hB.out.size)); clear b3)
        go_roundw
        case rel => exact ⟨k + 1, _, by go_num, rfl, by omega, Lib.hid (by rw [← HBE.out]; exact HX.out), HB3⟩
        case measure => simp [intOf] <;> omega
    · obtain rfl : k = N := by omega
      have hT2 : b = (decide (kc = 3) && l.all (fun d => kindN d.media == 4)) := by
        have h := hT.out
        rwa [List.take_of_length_le (by rw [← HN.out]; omega)] at h
      have HE : Hid (F = if b = true then 0 else 72) := Lib.hid (by
        rw [HFF.out, hT2]
        simp only [Bool.and_eq_true, decide_eq_true_eq])
      clear hT hT2
      cases b
      · go_wp2
        go_ret
        exact ⟨by rw [HE.out]; rfl, HB0.out.trans (hB.out.mono HB0.out.size)⟩
      · go_wp2
        go_ret
        exact ⟨by rw [HE.out]; rfl, HB0.out.trans (hB.out.mono HB0.out.size)⟩
end Go.Proofs.YtnkencdibniagaaGreatDoor

/- Layer 13, the document's own PutIndex and PutImage. -/
namespace Go.Proofs.YtnkencdibniagaaGreatDoor
open Go.RowKit
attribute [local go_sem] wide_fn round_fn

/-- Descriptors that a law's list may hold. -/
def smallD (d : DV) : Prop := goodD d ∧ d.media.length ≤ 1000 ∧ d.os.length ≤ 1000 ∧ d.arch.length ≤ 1000
theorem okShow_of {d : DV} (h : smallD d) (hm : mayD d = true) : okShow d := ⟨h.1, hm, h.2.1, h.2.2.1, h.2.2.2, valid_text _⟩
theorem preI_lit : str preI = ⟨#[123, 34, 115, 99, 104, 101, 109, 97, 86, 101, 114, 115, 105, 111, 110, 34, 58, 50, 44, 34, 109, 101, 100, 105, 97, 84, 121, 112, 101, 34, 58, 34, 97, 112, 112, 108, 105, 99, 97, 116, 105, 111, 110, 47, 118, 110, 100, 46, 111, 99, 105, 46, 105, 109, 97, 103, 101, 46, 105, 110, 100, 101, 120, 46, 118, 49, 43, 106, 115, 111, 110, 34, 44, 34, 109, 97, 110, 105, 102, 101, 115, 116, 115, 34, 58]⟩ := by rfl
theorem preI_len : preI.length ≤ 200 := Nat.le_of_ble_eq_true rfl
set_option maxRecDepth 100000 in
set_option maxHeartbeats 4000000 in
theorem rputIndex_any (l : List DV) (x : Option Addr) (cc : Nat) (w : World) (hn : l.length ≤ 1000) (hs : ∀ d ∈ l, smallD d) (hL : eDess.at_ w (fun k => k < w.heap.size) l (.slice x l.length cc)) :
    Calls Tryz.prog 21 #[.slice x l.length cc] w fun e w' => e = .returned (.tuple #[.string (str (idxA l).1), .int .i64 ((idxA l).2 : Int)]) ∧ Below w.heap.size w w' := by
  have CM := rmay13_any l x cc w hn (fun d hd => (hs d hd).2) hL
  obtain ⟨V, hV⟩ : ∃ V, V = l.all mayD := ⟨_, rfl⟩
  rw [idxA_is]
  rw [← hV] at CM ⊢
  have HL := Lib.hid hL
  obtain ⟨N, hN⟩ : ∃ N, N = l.length := ⟨_, rfl⟩
  have HN := Lib.hid hN
  rw [← hN] at hn CM ⊢
  cases V
  · rw [if_pos rfl]
    have e : str ((([] : Bs), 2) : Bs × Nat).1 = ⟨#[]⟩ := rfl
    rw [e]
    clear hV hN hL hs
    go_enter Tryz.func21, Tryz.ntmps21
    go_wp2_with (go_at_call 55; (with_reducible refine CM.mono ?_); rintro e w2 ⟨rfl, b2⟩)
    go_ret2
    exact ⟨rfl, b2⟩
  rw [if_neg (by decide)]
  by_cases h3 : 32 < N
  · rw [if_pos h3]
    have e : str ((([] : Bs), 63) : Bs × Nat).1 = ⟨#[]⟩ := rfl
    rw [e]
    have g3 : (32 : Int) < (N : Int) := by omega
    clear hV hN hL hs h3
    go_enter Tryz.func21, Tryz.ntmps21
    go_wp2_with (go_at_call 55; (with_reducible refine CM.mono ?_); rintro e w2 ⟨rfl, b2⟩)
    go_ret2
    exact ⟨rfl, b2⟩
  rw [if_neg h3]
  have g3 : ¬ (32 : Int) < (N : Int) := by omega
  have hok : ∀ d ∈ l, okShow d := fun d hd => okShow_of (hs d hd) (List.all_eq_true.1 hV.symm d hd)
  have HC := Lib.hid (fun (w' : World) (hb : Below w.heap.size w w') => show Calls Tryz.prog 58 #[.slice x N cc, .bool true] w' fun e w'' => e = .returned (.string (str (listT l true))) ∧ Below w'.heap.size w' w'' from by
    rw [HN.out]
    exact rlist_any l true x cc w' (by rw [← HN.out]; exact hn) hok (eDess.mono (eDess.chg HL.out (Chg.of_below (s := no) hb) (fun _ _ h => h)) (fun _ _ hk => hk)))
  have hll := list_len hok true
  have hlz : (str (listT l true)).size ≤ 1000000 := by
    have : l.length * 18702 ≤ 32 * 18702 := Nat.mul_le_mul_right _ (by rw [← HN.out]; omega)
    rw [str_size]
    omega
  have hlz2 : (listT l true).length ≤ 1000000 := by rwa [str_size] at hlz
  have hpi := preI_len
  have CS := fun w => rshort_any (preI ++ listT l true ++ [125]) w (by simp only [List.length_append, List.length_singleton]; omega)
  have hcat : str (preI ++ listT l true ++ [125]) = str preI ++ str (listT l true) ++ ⟨#[125]⟩ := by rw [← str_append, ← str_append]; rfl
  rw [hcat] at CS
  obtain ⟨Z, hZ⟩ : ∃ Z, Z = shortT (preI ++ listT l true ++ [125]) := ⟨_, rfl⟩
  rw [← hZ] at CS ⊢
  have hpz : (str preI).size ≤ 200 := by rw [str_size]; exact hpi
  rw [preI_lit] at CS hpz
  obtain ⟨LT, hLT⟩ : ∃ LT, LT = str (listT l true) := ⟨_, rfl⟩
  rw [← hLT] at CS HC hlz
  clear hV hN hL hs hok h3 hll hcat hZ hLT hlz2 hpi
  go_enter Tryz.func21, Tryz.ntmps21
  go_upto_region 5 with (go_at_call 55; (with_reducible refine CM.mono ?_); rintro e w2 ⟨rfl, b2⟩)
  clear CM
  go_wp2_with (first
    | (go_at_call 58; (with_reducible refine (HC.out _ b2).mono ?_); rintro e w3 ⟨rfl, b3⟩)
    | (go_at_call 56; (with_reducible refine (CS _).mono ?_); rintro e w4 ⟨rfl, b4⟩))
  go_ret2
  exact ⟨rfl, b2.trans ((b3.trans (b4.mono b3.size)).mono b2.size)⟩
theorem preA_lit : str preA = ⟨#[123, 34, 97, 114, 99, 104, 105, 116, 101, 99, 116, 117, 114, 101, 34, 58]⟩ := by rfl
theorem osA_lit : str osA = ⟨#[44, 34, 111, 115, 34, 58]⟩ := by rfl
theorem rootA_lit : str rootA = ⟨#[44, 34, 114, 111, 111, 116, 102, 115, 34, 58, 123, 34, 116, 121, 112, 101, 34, 58, 34, 108, 97, 121, 101, 114, 115, 34, 44, 34, 100, 105, 102, 102, 95, 105, 100, 115, 34, 58, 91]⟩ := by rfl
theorem dig_step {l : List Bs} {k : Nat} {d : Bs} (h : l[k]? = some d) (hk : 0 < k) : sepT ((l.take (k + 1)).map fun d => qL (textL d)) = sepT ((l.take k).map fun d => qL (textL d)) ++ [44] ++ qL (textL d) := by
  rw [List.take_add_one, h, Option.toList_some, List.map_append, List.map_singleton, sepT_snoc, if_neg (fun e => by
    have h1 := congrArg List.length e
    have h2 := (List.getElem?_eq_some_iff.1 h).1
    rw [List.length_map, List.length_take, List.length_nil] at h1
    omega)]
  simp
theorem dig_first {l : List Bs} {d : Bs} (h : l[0]? = some d) : sepT ((l.take (0 + 1)).map fun d => qL (textL d)) = sepT ((l.take 0).map fun d => qL (textL d)) ++ qL (textL d) := by
  rw [List.take_add_one, h]
  simp [sepT]
theorem qdig_len {d : Bs} (h : d.length = 32) : (qL (textL d)).length ≤ 428 := by
  have h1 := qL_len (textL d)
  have h2 := textL_length d
  omega
set_option maxRecDepth 100000 in
set_option maxHeartbeats 4000000 in
theorem rputImage_any (p : Bs × Bs) (l : List Bs) (x : Option Addr) (cc : Nat) (w : World) (hn : l.length ≤ 1000) (h1 : p.1.length ≤ 1000) (h2 : p.2.length ≤ 1000) (hL : eDigs.at_ w (fun k => k < w.heap.size) l (.slice x l.length cc)) :
    Calls Tryz.prog 23 #[.agg (row3 (str p.1) (str p.2) x l.length cc)] w fun e w' => e = .returned (.tuple #[.string (str (imgA p l).1), .int .i64 ((imgA p l).2 : Int)]) ∧ Below w.heap.size w w' := by
  rw [imgA_is]
  have C1 := fun w => rutf_any p.1 (by omega) w
  have C2 := fun w => rutf_any p.2 (by omega) w
  have HL := Lib.hid hL
  obtain ⟨N, hN⟩ : ∃ N, N = l.length := ⟨_, rfl⟩
  have HN := Lib.hid hN
  rw [← hN] at hn ⊢
  obtain ⟨WA, hWA⟩ : ∃ W, W = w.alloc (.cells (row3 (str p.1) (str p.2) x N cc) 39) := ⟨_, rfl⟩
  have R0 : rowC WA w.heap.size (row3 (str p.1) (str p.2) x N cc) 39 := by rw [hWA]; exact rowC_new _ _ _
  have HB0 : Hid (Below w.heap.size w WA) := Lib.hid (by rw [hWA]; exact (Below.refl _ _).alloc (Nat.le_refl _) _)
  have HR := Lib.hid (fun (w' : World) (hb : Below WA.heap.size WA w') => show w'.cell? ⟨w.heap.size, 0, none⟩ = some (.string (str p.1)) ∧ w'.cell? ⟨w.heap.size, 1, none⟩ = some (.string (str p.2)) ∧ w'.cell? ⟨w.heap.size, 2, none⟩ = some (.slice x N cc) from by
    have h := rowC_below R0 hb (rowC_lt R0)
    exact ⟨rowC_cell h 0, rowC_cell h 1, rowC_cell h 2⟩)
  have HW := Lib.hid (show w.alloc (.cells #[.string (str p.1), .string (str p.2), .slice x N cc] 39) = WA from hWA.symm)
  obtain ⟨q0, q1, q2⟩ := HR.out WA (Below.refl _ _)
  obtain ⟨V1, hV1⟩ : ∃ V, V = Lib.validD p.1 := ⟨_, rfl⟩
  obtain ⟨V2, hV2⟩ : ∃ V, V = Lib.validD p.2 := ⟨_, rfl⟩
  rw [← hV1] at C1 ⊢
  rw [← hV2] at C2 ⊢
  have HV1 := Lib.hid hV1
  have HV2 := Lib.hid hV2
  have HS := Lib.hid (show p.1.length ≤ 1000 ∧ p.2.length ≤ 1000 from ⟨h1, h2⟩)
  obtain ⟨Z, hZ⟩ : ∃ Z, Z = if (V1 && V2) = false then (([] : Bs), 2) else if 8 < N then ([], 63) else shortT (imgX p l) := ⟨_, rfl⟩
  rw [← hZ]
  have HZ := Lib.hid hZ
  clear hV1 hV2 hN hL hWA R0 h1 h2 hZ
  show Calls _ _ #[.agg #[.string (str p.1), .string (str p.2), .slice x N cc]] _ _
  obtain ⟨OS, hOS⟩ : ∃ T, T = str p.1 := ⟨_, rfl⟩
  obtain ⟨AR, hAR⟩ : ∃ T, T = str p.2 := ⟨_, rfl⟩
  have HTX := Lib.hid (show OS = str p.1 ∧ AR = str p.2 from ⟨hOS, hAR⟩)
  rw [← hOS] at C1 q0 HR HW ⊢
  rw [← hAR] at C2 q1 HR HW ⊢
  clear hOS hAR
  have e2 : str ((([] : Bs), 2) : Bs × Nat).1 = ⟨#[]⟩ := rfl
  have e63 : str ((([] : Bs), 63) : Bs × Nat).1 = ⟨#[]⟩ := rfl
  have E2 := Lib.hid e2
  have E63 := Lib.hid e63
  clear e2 e63
  go_enter Tryz.func23, Tryz.ntmps23
  go_upto_region 1 with (fail)
  rw [HW.out]
  clear HW
  cases V1
  · have HE : Hid (Z = ([], 2)) := Lib.hid (by rw [HZ.out]; rfl)
    clear C2
    go_wp2_with (go_at_call 63; (with_reducible refine (C1 _).mono ?_); rintro e w2 ⟨rfl, b2⟩)
    go_ret2
    exact ⟨by rw [HE.out]; rfl, HB0.out.trans (b2.mono HB0.out.size)⟩
  cases V2
  · have HE : Hid (Z = ([], 2)) := Lib.hid (by rw [HZ.out]; rfl)
    go_wp2_with (go_at_call 63; first
      | ((with_reducible refine (C1 _).mono ?_); rintro e w2 ⟨rfl, b2⟩; obtain ⟨p0, p1, p2⟩ := HR.out _ b2; have HB2 := Lib.hid b2; clear b2)
      | ((with_reducible refine (C2 _).mono ?_); rintro e w3 ⟨rfl, b3⟩; have HB3 := Lib.hid (HB2.out.trans (b3.mono HB2.out.size)); clear b3))
    go_ret2
    exact ⟨by rw [HE.out]; rfl, HB0.out.trans (HB3.out.mono HB0.out.size)⟩
  go_upto_region 3 with (go_at_call 63; first
    | ((with_reducible refine (C1 _).mono ?_); rintro e w2 ⟨rfl, b2⟩; obtain ⟨p0, p1, p2⟩ := HR.out _ b2; have HB2 := Lib.hid b2; clear b2)
    | ((with_reducible refine (C2 _).mono ?_); rintro e w3 ⟨rfl, b3⟩; have HB3 := Lib.hid (HB2.out.trans (b3.mono HB2.out.size)); clear b3))
  obtain ⟨r0, r1, r2⟩ := HR.out _ HB3.out
  by_cases h8 : 8 < N
  · have g8 : (8 : Int) < (N : Int) := by omega
    have HE : Hid (Z = ([], 63)) := Lib.hid (by rw [HZ.out, if_neg (by decide), if_pos h8])
    clear h8 C1 C2
    go_wp2
    go_ret2
    exact ⟨by rw [HE.out]; rfl, HB0.out.trans (HB3.out.mono HB0.out.size)⟩
  have g8 : ¬ (8 : Int) < (N : Int) := by omega
  have HE : Hid (Z = shortT (imgX p l)) := Lib.hid (by rw [HZ.out, if_neg (by decide), if_neg h8])
  clear HZ h8 C1 C2
  clear p0 p1 p2 q0 q1 q2 HB2 E2 E63
  have s0 := fun (y : After WA) => (HR.out y.v y.h).1
  have s1 := fun (y : After WA) => (HR.out y.v y.h).2.1
  have mk : ∀ {f : FuncId} {args : Array Value} {X : Value}, (∀ w, Calls Tryz.prog f args w fun e w' => e = .returned X ∧ Below w.heap.size w w') → ∀ y : After WA, CallsIn Fence.wide 3 Tryz.prog f args y.v fun e w'' => e = .returned X ∧ ∃ z : After WA, w'' = z.v := fun C y =>
    (callsIn_wide.2 (C y.v)).mono fun e w'' ⟨he, hb⟩ => ⟨he, ⟨w'', y.h.trans (hb.mono y.h.size)⟩, rfl⟩
  have C5 := mk (fun w => rq_any p.2 (by have := HS.out.2; omega) HV2.out.symm w)
  have C6 := mk (fun w => rq_any p.1 (by have := HS.out.1; omega) HV1.out.symm w)
  rw [← HTX.out.2] at C5
  rw [← HTX.out.1] at C6
  have z5 : (str (qL p.2)).size ≤ 6100 := by have h := qL_len p.2; have h2 := HS.out.2; rw [str_size]; omega
  have z6 : (str (qL p.1)).size ≤ 6100 := by have h := qL_len p.1; have h2 := HS.out.1; rw [str_size]; omega
  obtain ⟨P0, hP0⟩ : ∃ P0, P0 = preA ++ qL p.2 ++ osA ++ qL p.1 ++ rootA := ⟨_, rfl⟩
  have HP0 := Lib.hid hP0
  have HS0 : Hid ((⟨#[123, 34, 97, 114, 99, 104, 105, 116, 101, 99, 116, 117, 114, 101, 34, 58]⟩ : ByteArray) ++ str (qL p.2) ++ ⟨#[44, 34, 111, 115, 34, 58]⟩ ++ str (qL p.1) ++ ⟨#[44, 34, 114, 111, 111, 116, 102, 115, 34, 58, 123, 34, 116, 121, 112, 101, 34, 58, 34, 108, 97, 121, 101, 114, 115, 34, 44, 34, 100, 105, 102, 102, 95, 105, 100, 115, 34, 58, 91]⟩ = str P0) := Lib.hid (by
    rw [hP0, ← preA_lit, ← osA_lit, ← rootA_lit, str_append, str_append, str_append, str_append])
  clear hP0 mk
  generalize str (qL p.2) = QA at *
  generalize str (qL p.1) = QO at *
  go_upto_region 5 with (fail)
  refine (wpIn_wide (n := 4)).1 ?_
  refine region_quiet (C := fun w' => ∃ y : After WA, w' = y.v) (by kernel_rfl) (by kernel_rfl) (by kernel_rfl) ⟨⟨w3.drew, HB3.out.drew⟩, rfl⟩ ?_
  iterate 4 (gi_big_quiet_step ((gi_at_call 64; exact C5 _)))
  iterate 9 (gi_big_quiet_step ((gi_at_call 64; exact C6 _)))
  refine wpQuietIn_nil ?_
  rintro _ ⟨y, rfl⟩
  have HY := Lib.hid y.h
  have zP : (str P0).size ≤ 13000 := by
    have h1 := qL_len p.2
    have h2 := qL_len p.1
    have h3 := HS.out
    have a1 : preA.length ≤ 100 := Nat.le_of_ble_eq_true rfl
    have a2 : osA.length ≤ 100 := Nat.le_of_ble_eq_true rfl
    have a3 : rootA.length ≤ 100 := Nat.le_of_ble_eq_true rfl
    rw [str_size, HP0.out]
    simp only [List.length_append]
    omega
  rw [HS0.out]
  clear C5 C6 s0 s1 z5 z6 HS0 HB3 r0 r1 r2
  generalize y.v = W1 at *
  gi_wp2
  go_wp2
  go_loopw [5, 4] (fun i s wr => ∃ (k : Nat) (O : ByteArray), i = .int .i64 (k : Int) ∧ s = .string O ∧ k ≤ N ∧ Hid (O = str (P0 ++ sepT ((l.take k).map fun d => qL (textL d)))) ∧ Hid (Below WA.heap.size WA wr)) (fun i _ _ => N - (RowKit.intOf i).toNat)
  case atStart => exact ⟨0, _, rfl, rfl, Nat.zero_le _, Lib.hid (by simp [sepT]), HY⟩
  case round =>
    obtain ⟨k, O, rfl, rfl, hk, hO, hB⟩ := hrel
    obtain ⟨_, _, r2⟩ := HR.out wr hB.out
    have oz : O.size ≤ k * 429 + 13000 := by
      have h1 := sepT_len 428 ((l.take k).map fun d => qL (textL d)) (fun x hx => by
        obtain ⟨d, hd, rfl⟩ := List.mem_map.1 hx
        obtain ⟨i, hi⟩ := List.mem_iff_getElem?.1 (List.mem_of_mem_take hd)
        exact qdig_len (digs_at HL.out hi).1)
      have h2 : (l.take k).length ≤ k := by rw [List.length_take]; omega
      rw [List.length_map] at h1
      have h3 : (l.take k).length * (428 + 1) ≤ k * 429 := Nat.mul_le_mul_right _ h2
      rw [str_size] at zP
      rw [hO.out, str_size, List.length_append]
      omega
    by_cases hlt : k < N
    · have g0 : (k : Int) < (N : Int) := by omega
      obtain ⟨d, hd⟩ : ∃ d, l[k]? = some d := ⟨_, List.getElem?_eq_getElem (by rw [← HN.out]; exact hlt)⟩
      obtain ⟨hdl, ad, rfl, hax, hcx⟩ := digs_at HL.out hd
      have HC := Lib.hid (show ∀ i u, (d.map byteV)[i]? = some u → wr.cell? ((ad.add (k * 32)).add i) = some u from fun i u hu => by
        rw [World.cell?_of_block (w := w) (w' := wr) ((HB0.out.trans (hB.out.mono HB0.out.size)).block _ (by rw [add_block, add_block]; exact hax))]
        exact hcx i u hu)
      have HI := Lib.hid (show (Tryz.prog.info? 24).map (·.size) = some (d.map byteV).length by rw [List.length_map, hdl]; exact info_G)
      have CT := fun w => show Calls Tryz.prog 65 #[.agg (d.map byteV).toArray] w fun e w' => e = .returned (.string (str (textL d))) ∧ Below w.heap.size w w' from rtext_any d w hdl
      have CQ := fun w => rq_any (textL d) (by rw [textL_length, hdl]; omega) (valid_text d) w
      have zQ : (str (qL (textL d))).size ≤ 428 := by rw [str_size]; exact qdig_len hdl
      obtain ⟨P, hP⟩ : ∃ P, P = str (qL (textL d)) := ⟨_, rfl⟩
      rw [← hP] at CQ zQ
      by_cases hk0 : k = 0
      · subst hk0
        have HX : Hid (O ++ P = str (P0 ++ sepT ((l.take (0 + 1)).map fun d => qL (textL d)))) := Lib.hid (by rw [dig_first hd, hO.out, hP, str_append, List.append_assoc])
        clear hP hd hax hcx hO hdl
        go_wp2_with (first
          | ((with_reducible show wpList _ _ _ (⟨some 50, .load _ _, _, _, _, _⟩ :: _) _ _); refine wpList_load_at rfl 24 _ rfl (ad.add (0 * 32)) rfl (d.map byteV) _ HC.out Tryz.underlying24 rfl HI.out ?_)
          | (go_at_call 65; (with_reducible refine (CT _).mono ?_); rintro e w4 ⟨rfl, b4⟩; have HB4 := Lib.hid (hB.out.trans (b4.mono hB.out.size)); clear b4)
          | (go_at_call 64; (with_reducible refine (CQ _).mono ?_); rintro e w5 ⟨rfl, b5⟩; have HB5 := Lib.hid (HB4.out.trans (b5.mono HB4.out.size)); clear b5))
        go_roundw
        case rel => exact ⟨0 + 1, _, by go_num, rfl, by omega, HX, HB5⟩
        case measure => simp [RowKit.intOf] <;> omega
      · have g2 : (0 : Int) < (k : Int) := by omega
        have HX : Hid (O ++ ⟨#[44]⟩ ++ P = str (P0 ++ sepT ((l.take (k + 1)).map fun d => qL (textL d)))) := Lib.hid (by rw [dig_step hd (by omega), hO.out, hP, show (⟨#[44]⟩ : ByteArray) = str [44] from rfl, str_append, str_append, List.append_assoc, List.append_assoc, List.append_assoc])
        clear hP hd hax hcx hO hk0 hdl
        go_wp2_with (first
          | ((with_reducible show wpList _ _ _ (⟨some 50, .load _ _, _, _, _, _⟩ :: _) _ _); refine wpList_load_at rfl 24 _ rfl (ad.add (k * 32)) rfl (d.map byteV) _ HC.out Tryz.underlying24 rfl HI.out ?_)
          | (go_at_call 65; (with_reducible refine (CT _).mono ?_); rintro e w4 ⟨rfl, b4⟩; have HB4 := Lib.hid (hB.out.trans (b4.mono hB.out.size)); clear b4)
          | (go_at_call 64; (with_reducible refine (CQ _).mono ?_); rintro e w5 ⟨rfl, b5⟩; have HB5 := Lib.hid (HB4.out.trans (b5.mono HB4.out.size)); clear b5))
        go_roundw
        case rel => exact ⟨k + 1, _, by go_num, rfl, by omega, HX, HB5⟩
        case measure => simp [RowKit.intOf] <;> omega
    · obtain rfl : k = N := by omega
      have hcat : O ++ ⟨#[93, 125, 125]⟩ = str (imgX p l) := by
        rw [hO.out, List.take_of_length_le (by rw [← HN.out]; omega), show (⟨#[93, 125, 125]⟩ : ByteArray) = str [93, 125, 125] from rfl, str_append, HP0.out]
        rfl
      have hsz : (imgX p l).length ≤ 100000000 := by
        have h := congrArg ByteArray.size hcat
        rw [ByteArray.size_append, str_size] at h
        have a3 : (⟨#[93, 125, 125]⟩ : ByteArray).size = 3 := rfl
        omega
      have CS := fun w => rshort_any (imgX p l) w hsz
      rw [← hcat, ← HE.out] at CS
      clear hO hcat hsz
      go_wp2_with (go_at_call 56; (with_reducible refine (CS _).mono ?_); rintro e w4 ⟨rfl, b4⟩)
      go_ret2
      exact ⟨rfl, HB0.out.trans ((hB.out.trans (b4.mono hB.out.size)).mono HB0.out.size)⟩
end Go.Proofs.YtnkencdibniagaaGreatDoor

/- Layer 13, the document's own PutManifest. -/
namespace Go.Proofs.YtnkencdibniagaaGreatDoor
open Go.RowKit
attribute [local go_sem] wide_fn round_fn

theorem preM_lit : str preM = ⟨#[123, 34, 115, 99, 104, 101, 109, 97, 86, 101, 114, 115, 105, 111, 110, 34, 58, 50, 44, 34, 109, 101, 100, 105, 97, 84, 121, 112, 101, 34, 58, 34, 97, 112, 112, 108, 105, 99, 97, 116, 105, 111, 110, 47, 118, 110, 100, 46, 111, 99, 105, 46, 105, 109, 97, 103, 101, 46, 109, 97, 110, 105, 102, 101, 115, 116, 46, 118, 49, 43, 106, 115, 111, 110, 34, 44, 34, 99, 111, 110, 102, 105, 103, 34, 58]⟩ := by rfl
theorem midM_lit : str midM = ⟨#[44, 34, 108, 97, 121, 101, 114, 115, 34, 58]⟩ := by rfl
set_option maxRecDepth 100000 in
set_option maxHeartbeats 4000000 in
theorem rputMan_any (c : DV) (l : List DV) (x : Option Addr) (cc : Nat) (w : World) (hn : l.length ≤ 1000) (hc : smallD c) (hs : ∀ d ∈ l, smallD d) (hL : eDess.at_ w (fun k => k < w.heap.size) l (.slice x l.length cc)) :
    Calls Tryz.prog 19 #[.agg (encM c (.slice x l.length cc))] w fun e w' => e = .returned (.tuple #[.string (str (manA c l).1), .int .i64 ((manA c l).2 : Int)]) ∧ Below w.heap.size w w' := by
  obtain ⟨i0, hi0, hz0, hz1, hz2⟩ := info_parts info_des3
  rw [manA_is]
  obtain ⟨V1, hV1⟩ : ∃ V, V = mayD c := ⟨_, rfl⟩
  obtain ⟨V2, hV2⟩ : ∃ V, V = l.all mayD := ⟨_, rfl⟩
  obtain ⟨F, hF⟩ : ∃ F, F = fitsN c l := ⟨_, rfl⟩
  rw [← hV1, ← hV2, ← hF]
  obtain ⟨Z, hZ⟩ : ∃ Z, Z = if V1 = false ∨ V2 = false then (([] : Bs), 2) else if F ≠ 0 then ([], F) else shortT (preM ++ showT c false ++ midM ++ listT l false ++ [125]) := ⟨_, rfl⟩
  rw [← hZ]
  have HZ := Lib.hid hZ
  have HV := Lib.hid (show V1 = mayD c ∧ V2 = l.all mayD from ⟨hV1, hV2⟩)
  obtain ⟨W0, hW0⟩ : ∃ W0, W0 = w.alloc (.cells (encM c (.slice x l.length cc)) 31) := ⟨_, rfl⟩
  have R0 : rowC W0 w.heap.size (encM c (.slice x l.length cc)) 31 := by rw [hW0]; exact rowC_new w _ _
  have HB0 : Hid (Below w.heap.size w W0) := Lib.hid (by rw [hW0]; exact (Below.refl _ _).alloc (Nat.le_refl _) _)
  have hcl : (encL c).length = 36 := encL_len hc.1.1
  have HR := Lib.hid (fun (w' : World) (hb : Below W0.heap.size W0 w') => show rowC w' w.heap.size (encM c (.slice x l.length cc)) 31 ∧ w'.cell? ⟨w.heap.size, 36, none⟩ = some (.slice x l.length cc) ∧ w'.rangeAt w.heap.size 0 (encL c) from by
    have h := rowC_below R0 hb (rowC_lt R0)
    refine ⟨h, by rw [rowC_cell h]; exact encM_36 hc.1 _, rowC_range h 0 _ (fun j v hj => ?_)⟩
    unfold encM
    rw [Nat.zero_add, List.getElem?_toArray, List.getElem?_append_left (List.getElem?_eq_some_iff.1 hj).1]
    exact hj)
  have HLW := Lib.hid (fun (w' : World) (hb : Below W0.heap.size W0 w') => show eDess.at_ w' (fun k => k < w'.heap.size) l (.slice x l.length cc) from eDess.mono (eDess.chg hL (Chg.of_below (s := no) (HB0.out.trans (hb.mono HB0.out.size))) (fun _ _ h => h)) (fun _ _ hk => hk))
  have HC := Lib.hid hc
  have HS := Lib.hid hs
  obtain ⟨N, hN⟩ : ∃ N, N = l.length := ⟨_, rfl⟩
  have HN := Lib.hid hN
  have HIL := Lib.hid (show (Tryz.prog.info? 28).map (·.size) = some (encL c).length by rw [hcl]; exact info_D)
  have HIM := Lib.hid (show (Tryz.prog.info? 31).map (·.size) = some (encM c (.slice x l.length cc)).size by unfold encM; rw [List.size_toArray, List.length_append, hcl]; exact info_M)
  have HEL := Lib.hid (encD_list c)
  have HW0 := Lib.hid hW0
  have H36 := Lib.hid (show (encL c).toArray.size = 36 by rw [List.size_toArray, hcl])
  have CM1 := Lib.hid (fun (w' : World) (g : Nat) (h : rowC w' g (encL c).toArray 28) (hg : g < w'.heap.size) => show Calls Tryz.prog 55 #[.slice (some ⟨g, 0, none⟩) 1 1] w' fun e w'' => e = .returned (.bool V1) ∧ Below w'.heap.size w' w'' from by
    have h2 := rmay13_any [c] (some ⟨g, 0, none⟩) 1 w' (by simp) (fun d hd => by rw [List.mem_singleton.1 hd]; exact HC.out.2) (one_des HC.out.1 (by rw [HEL.out]; exact h) hg)
    rw [show [c].all mayD = V1 by rw [HV.out.1]; simp] at h2
    exact h2)
  have CM2 := Lib.hid (fun (w' : World) (hb : Below W0.heap.size W0 w') => show Calls Tryz.prog 55 #[.slice x N cc] w' fun e w'' => e = .returned (.bool V2) ∧ Below w'.heap.size w' w'' from by
    have h2 := rmay13_any l x cc w' hn (fun d hd => (HS.out d hd).2) (HLW.out w' hb)
    rw [← HV.out.2, ← HN.out] at h2
    exact h2)
  have CK := Lib.hid (fun (w' : World) (hb : Below W0.heap.size W0 w') => show Calls Tryz.prog 41 #[.agg (encM c (.slice x N cc))] w' fun e w'' => e = .returned (.int .i64 (F : Int)) ∧ Below w'.heap.size w' w'' from by
    have h2 := rcheck_any c l x cc w' hn HC.out.1 (HLW.out w' hb)
    rw [← hF, ← HN.out] at h2
    exact h2)
  rw [← hN] at HR HIM HW0 ⊢
  clear hV1 hV2 hF hZ hW0 R0 hL hc hs hN hcl
  go_enter Tryz.func19, Tryz.ntmps19
  go_upto_region 1 with (fail)
  change Code.wp _ _ _ _ (w.alloc (.cells (encM c (.slice x N cc)) 31))
  rw [← HW0.out]
  cases V1
  · have HE : Hid (Z = ([], 2)) := Lib.hid (by rw [HZ.out, if_pos (.inl rfl)])
    go_wp2_with (first
    | ((with_reducible show wpList _ _ _ (⟨some 6, .load _ _, _, _, _, _⟩ :: _) _ _); refine wpList_load_mid rfl 28 _ rfl w.heap.size 0 rfl (encL c) _ (HR.out W0 (Below.refl _ _)).2.2 Tryz.underlying28 rfl HIL.out ?_)
    | ((with_reducible show wpList _ _ _ (⟨some 7, .buildSlice _ _ _, _, _, _, _⟩ :: _) _ _); refine wpList_oneR rfl 29 28 36 _ rfl (encL c).toArray rfl i0 _ Tryz.underlying29 hi0 hz0 hz1 H36.out (by decide) (by decide) ?_)
    | (go_at_call 55; (with_reducible refine (CM1.out _ W0.heap.size (rowC_new _ _ _) (by rw [size_alloc]; exact Nat.lt_succ_self _)).mono ?_); rintro e w2 ⟨rfl, b2⟩; have HB2 := Lib.hid (((Below.refl W0.heap.size W0).alloc (Nat.le_refl _) (.cells (encL c).toArray 28)).trans (b2.mono (by rw [size_alloc]; exact Nat.le_succ _))); have q36 := (HR.out _ HB2.out).2.1; clear b2))
    go_ret2
    exact ⟨by rw [HE.out]; rfl, HB0.out.trans (HB2.out.mono HB0.out.size)⟩
  cases V2
  · have HE : Hid (Z = ([], 2)) := Lib.hid (by rw [HZ.out, if_pos (.inr rfl)])
    go_wp2_with (first
    | ((with_reducible show wpList _ _ _ (⟨some 6, .load _ _, _, _, _, _⟩ :: _) _ _); refine wpList_load_mid rfl 28 _ rfl w.heap.size 0 rfl (encL c) _ (HR.out W0 (Below.refl _ _)).2.2 Tryz.underlying28 rfl HIL.out ?_)
    | ((with_reducible show wpList _ _ _ (⟨some 7, .buildSlice _ _ _, _, _, _, _⟩ :: _) _ _); refine wpList_oneR rfl 29 28 36 _ rfl (encL c).toArray rfl i0 _ Tryz.underlying29 hi0 hz0 hz1 H36.out (by decide) (by decide) ?_)
    | (go_at_call 55; (with_reducible refine (CM1.out _ W0.heap.size (rowC_new _ _ _) (by rw [size_alloc]; exact Nat.lt_succ_self _)).mono ?_); rintro e w2 ⟨rfl, b2⟩; have HB2 := Lib.hid (((Below.refl W0.heap.size W0).alloc (Nat.le_refl _) (.cells (encL c).toArray 28)).trans (b2.mono (by rw [size_alloc]; exact Nat.le_succ _))); have q36 := (HR.out _ HB2.out).2.1; clear b2)
    | (go_at_call 55; (with_reducible refine (CM2.out _ HB2.out).mono ?_); rintro e w3 ⟨rfl, b3⟩; have HB3 := Lib.hid (HB2.out.trans (b3.mono HB2.out.size)); clear b3))
    go_ret2
    exact ⟨by rw [HE.out]; rfl, HB0.out.trans (HB3.out.mono HB0.out.size)⟩
  go_upto_region 3 with (first
    | ((with_reducible show wpList _ _ _ (⟨some 6, .load _ _, _, _, _, _⟩ :: _) _ _); refine wpList_load_mid rfl 28 _ rfl w.heap.size 0 rfl (encL c) _ (HR.out W0 (Below.refl _ _)).2.2 Tryz.underlying28 rfl HIL.out ?_)
    | ((with_reducible show wpList _ _ _ (⟨some 7, .buildSlice _ _ _, _, _, _, _⟩ :: _) _ _); refine wpList_oneR rfl 29 28 36 _ rfl (encL c).toArray rfl i0 _ Tryz.underlying29 hi0 hz0 hz1 H36.out (by decide) (by decide) ?_)
    | (go_at_call 55; (with_reducible refine (CM1.out _ W0.heap.size (rowC_new _ _ _) (by rw [size_alloc]; exact Nat.lt_succ_self _)).mono ?_); rintro e w2 ⟨rfl, b2⟩; have HB2 := Lib.hid (((Below.refl W0.heap.size W0).alloc (Nat.le_refl _) (.cells (encL c).toArray 28)).trans (b2.mono (by rw [size_alloc]; exact Nat.le_succ _))); have q36 := (HR.out _ HB2.out).2.1; clear b2)
    | (go_at_call 55; (with_reducible refine (CM2.out _ HB2.out).mono ?_); rintro e w3 ⟨rfl, b3⟩; have HB3 := Lib.hid (HB2.out.trans (b3.mono HB2.out.size)); clear b3))
  have hZ2 : Z = if F ≠ 0 then ([], F) else shortT (preM ++ showT c false ++ midM ++ listT l false ++ [125]) := by rw [HZ.out, if_neg (by decide)]
  have HZ2 := Lib.hid hZ2
  have hm1 : mayD c = true := HV.out.1.symm
  have hm2 := List.all_eq_true.1 HV.out.2.symm
  have HM := Lib.hid (show okShow c ∧ ∀ d ∈ l, okShow d from ⟨okShow_of HC.out hm1, fun d hd => okShow_of (HS.out d hd) (hm2 d hd)⟩)
  clear q36 hZ2 hm1 hm2 HZ HV CM1 CM2
  go_upto_region 4 with (first
    | ((with_reducible show wpList _ _ _ (⟨some 16, .load _ _, _, _, _, _⟩ :: _) _ _); refine wpList_load_row rfl 31 _ rfl w.heap.size rfl 31 (encM c (.slice x N cc)) (0, 0) _ (HR.out _ HB3.out).1 Tryz.underlying31 rfl HIM.out ?_)
    | (go_at_call 41; (with_reducible refine (CK.out _ HB3.out).mono ?_); rintro e w4 ⟨rfl, b4⟩; have HB4 := Lib.hid (HB3.out.trans (b4.mono HB3.out.size)); clear b4))
  by_cases hF : F = 0
  rotate_left
  · have HE : Hid (Z = ([], F)) := Lib.hid (by rw [HZ2.out, if_pos hF])
    have g1 : ((F : Int) == 0) = false := by rw [beq_eq_false_iff_ne]; omega
    have g2 : ¬ (F : Int) = 0 := by omega
    clear hF
    go_wp2
    go_ret2
    exact ⟨by rw [HE.out]; rfl, HB0.out.trans (HB4.out.mono HB0.out.size)⟩
  subst hF
  have HE : Hid (Z = shortT (preM ++ showT c false ++ midM ++ listT l false ++ [125])) := Lib.hid (by rw [HZ2.out, if_neg (by decide)])
  clear HZ2 CK HB2 HB3
  have q36 := fun (y : After W0) => (HR.out y.v y.h).2.1
  have HRG := Lib.hid (fun (y : After W0) => (HR.out y.v y.h).2.2)
  have mk : ∀ {f : FuncId} {args : Array Value} {X : Value}, (∀ y : After W0, Calls Tryz.prog f args y.v fun e w' => e = .returned X ∧ Below y.v.heap.size y.v w') → ∀ y : After W0, CallsIn Fence.wide 3 Tryz.prog f args y.v fun e w'' => e = .returned X ∧ ∃ z : After W0, w'' = z.v := fun C y =>
    (callsIn_wide.2 (C y)).mono fun e w'' ⟨he, hb⟩ => ⟨he, ⟨w'', y.h.trans (hb.mono y.h.size)⟩, rfl⟩
  have hn2 : N ≤ 1000 := by rw [HN.out]; exact hn
  have C1 := mk (fun y => rshow_any c false HM.out.1 y.v)
  rw [encD_list] at C1
  have C2 := mk (fun y => rlist_any l false x cc y.v hn HM.out.2 (HLW.out _ y.h))
  rw [← HN.out] at C2
  have hl1 := show_len HM.out.1 false
  have hl2 := list_len HM.out.2 false
  have hl3 : l.length * 18702 ≤ 1000 * 18702 := Nat.mul_le_mul_right _ hn
  have a1 : preM.length ≤ 200 := Nat.le_of_ble_eq_true rfl
  have a2 : midM.length ≤ 200 := Nat.le_of_ble_eq_true rfl
  have C3 := mk (fun y => rshort_any (preM ++ showT c false ++ midM ++ listT l false ++ [125]) y.v (by simp only [List.length_append, List.length_singleton]; omega))
  have hcat : str (preM ++ showT c false ++ midM ++ listT l false ++ [125]) = ⟨#[123, 34, 115, 99, 104, 101, 109, 97, 86, 101, 114, 115, 105, 111, 110, 34, 58, 50, 44, 34, 109, 101, 100, 105, 97, 84, 121, 112, 101, 34, 58, 34, 97, 112, 112, 108, 105, 99, 97, 116, 105, 111, 110, 47, 118, 110, 100, 46, 111, 99, 105, 46, 105, 109, 97, 103, 101, 46, 109, 97, 110, 105, 102, 101, 115, 116, 46, 118, 49, 43, 106, 115, 111, 110, 34, 44, 34, 99, 111, 110, 102, 105, 103, 34, 58]⟩ ++ str (showT c false) ++ ⟨#[44, 34, 108, 97, 121, 101, 114, 115, 34, 58]⟩ ++ str (listT l false) ++ ⟨#[125]⟩ := by
    rw [← str_append, ← str_append, ← str_append, ← str_append, preM_lit, midM_lit]
    rfl
  rw [hcat, ← HE.out] at C3
  have z1 : (str (showT c false)).size ≤ 20000 := by rw [str_size]; omega
  have z2 : (str (listT l false)).size ≤ 20000000 := by rw [str_size]; omega
  clear hcat hl1 hl2 hl3 a1 a2 mk
  generalize str (showT c false) = T1 at *
  generalize str (listT l false) = T2 at *
  go_upto_region 6 with (fail)
  refine (wpIn_wide (n := 4)).1 ?_
  refine region_quiet (C := fun w' => ∃ y : After W0, w' = y.v) (by kernel_rfl) (by kernel_rfl) (by kernel_rfl) ⟨⟨w4.drew, HB4.out.drew⟩, rfl⟩ ?_
  gi_big_quiet_step (fail)
  refine wpQuietIn_load_midG (fun _ => trivial) rfl 28 _ rfl w.heap.size 0 rfl (encL c) _ (by rintro _ ⟨y, rfl⟩; exact HRG.out y) Tryz.underlying28 rfl HIL.out ?_
  simp only [Act.put, List.setIfInBounds_toArray, List.set_cons_zero, List.set_cons_succ]
  gi_big_quiet_step ((gi_at_call 57; exact C1 _))
  iterate 2 (gi_big_quiet_step (fail))
  iterate 2 (gi_big_quiet_step (fail))
  gi_big_quiet_step ((gi_at_call 58; exact C2 _))
  iterate 2 (gi_big_quiet_step (fail))
  gi_big_quiet_step ((gi_at_call 56; exact C3 _))
  iterate 4 (gi_big_quiet_step (fail))
  refine wpQuietIn_nil ?_
  rintro _ ⟨y, rfl⟩
  have HY := Lib.hid y.h
  clear C1 C2 C3 q36 HRG
  generalize y.v = W1 at *
  gi_wp2
  go_wp2
  go_ret2
  exact ⟨rfl, HB0.out.trans (HY.out.mono HB0.out.size)⟩
end Go.Proofs.YtnkencdibniagaaGreatDoor

