/- Layer 11: an object. -/
import Derived.Test.YtcepemgalammhaaGreatDoorJtU
namespace Go.Proofs.YtcepemgalammhaaGreatDoor
open Go.RowKit

theorem enter_object1 (args : Array Value) (w : World) : (callFunc 62 args).run Tryz.prog w = .ok (.enter 62 args) w := by kernel_rfl
theorem part_object {n lev bL br bm bv q mp : Nat} (V : ValOk n) (hlev : lev + 1 ≤ 16) (S : Bs) (hS : okS S) (hq : 10 ≤ q) (o1 : q < br) (o2 : br < bv) (o3 : bv < mp) (o4 : mp < bm) (o5 : bm < bL) :
    Part q S (lev + 1) (fun k => k = q ∨ k = mp ∨ k = bv ∨ bL ≤ k) (StO bL br bm bv q mp) (WkV bv) (fun acc r => acc.length + r.length ≤ 65536) 62 #[.pointer (some ⟨br, 0, none⟩), .pointer (some ⟨bm, 0, none⟩), .pointer (some ⟨bv, 0, none⟩)] (stepO n (valP n (lev + 1))) where
  enter := enter_object1
  weak := fun a w h => by
    obtain ⟨I, K, hr, hk, ⟨xs, F, ho, _, _⟩, _⟩ := h.row
    obtain ⟨x, c, rfl⟩ := owns_form ho
    obtain ⟨x, c, rfl⟩ := owns_form hk
    exact ⟨_, _, _, _, _, _, _, _, hr⟩
  kept := fun a w1 w2 h hc => h.kept o1 o2 o3 o4 o5 hc
  own := .inl rfl
  env := fun k hk => by omega
  sub := fun a r x hs hB => by have := hs.length_le; omega
  go := fun a r a' x hB hs => by
    unfold stepO at hs
    cases hk : keyP n (a.map (·.1)) r with
    | none => rw [hk] at hs; cases hs
    | some K =>
      rw [hk] at hs
      cases K with
      | bad code y => cases hs
      | ok t y =>
        have h1 := (key_ok hk).2.2
        cases hv : valP n (lev + 1) y with
        | none => simp only [hv] at hs; cases hs
        | some Q =>
          simp only [hv] at hs
          cases Q with
          | bad code z => cases hs
          | ok v z =>
            have hlt := (val_ok n (lev + 1) y v z hlev hv).2.2
            cases hs
            rw [List.length_append, List.length_singleton]
            omega
  call := fun a r R w1 hE h hst hB hs => object1_any V hlev S hS hq o1 o2 o3 o4 o5 a r R w1 hE h hst hB hs
theorem keys_holds {w : World} {bL n : Nat} {K : Value} {keys : List Bs} (h : w.ownsRow bL 9 1 K n (keysV keys)) (hn : n = keys.length) : HoldsK w (fun k => bL ≤ k ∧ k < w.heap.size) keys K := by
  subst hn
  have hl := h.lt
  rcases h.2 with ⟨hv, hn⟩ | ⟨g, cap, cur, hv, hb, _⟩
  · exact .inl ⟨hv, List.eq_nil_of_length_eq_zero hn⟩
  · refine .inr ⟨⟨g, 0, none⟩, cap, hv, fun i hi => ⟨⟨hb, (hl g (by rw [hv]; rfl)).2⟩, ?_⟩⟩
    have := h.cells (g := g) (by rw [hv]; rfl) i (.string (str (keys.getD i []))) (by
      unfold keysV
      rw [List.getElem?_map, List.getElem?_eq_getElem hi, List.getD_eq_getElem?_getD, List.getElem?_eq_getElem hi]
      rfl)
    simpa [Addr.add] using this
theorem object_parts {n lev q bL br bm bv mp res : Nat} {w w1 : World} {S l : Bs} {R : Res JV} (V : ValOk n) (hS : okS S) (hE : Env w1) (hq : 10 ≤ q) (hqw : q < w.heap.size) (h : RdAt w1 q S l lev) (hlev : lev ≤ 16) (hne : l ≠ [])
    (hC : Chg (· = q) w w1) (hbr : w.heap.size ≤ br) (o2 : br < bv) (o3 : bv < mp) (o4 : mp < bm) (o5 : bm < bL) (hres : w.heap.size ≤ res) (hn3 : res ≠ bv) (hn4 : res ≠ mp) (hn5 : res < bL) (hbL : w1.heap.size = bL)
    (hB : rowC w1 br #[.pointer (some ⟨q, 0, none⟩)] 47) (hM : rowC w1 bm #[.map (some mp)] 125) (hSet : SetM w1 mp []) (hV : rowC w1 bv #[.int .i64 6, .string ⟨#[]⟩, .slice none 0 0, .slice none 0 0] 27) (hZ : rowC w1 res zeroV4 27)
    (hR : (if lev = 16 then some (.bad 11 l) else (partsP 125 (stepO n (valP n (lev + 1))) n true [] l.tail).map (Res.map mkO)) = some R) :
    Calls Tryz.prog 60 #[.pointer (some ⟨q, 0, none⟩), .int .u8 125, .func (.func 62) #[] #[.pointer (some ⟨br, 0, none⟩), .pointer (some ⟨bm, 0, none⟩), .pointer (some ⟨bv, 0, none⟩)]] w1 fun e w3 => boxed w bv res q S l lev R e w3 := by
  by_cases h16 : lev = 16
  · rw [if_pos h16, Option.some.injEq] at hR
    subst h16
    refine (parts_deep h).mono ?_
    rintro e w2 ⟨rfl, rfl⟩
    refine ⟨6, ⟨#[]⟩, none, 0, 0, none, 0, 0, _, rfl, Lib.hid ⟨hV, hZ, fun w' hc => ?_⟩⟩
    exact saysV_bad hR.symm ⟨_, _, _, _, _, _, _, _, rfl⟩ ⟨⟨l, 16, h.chg hc (by omega), List.suffix_refl _⟩, hC.trans hc (fun k hk e => by omega)⟩
  · rw [if_neg h16] at hR
    cases hp : partsP 125 (stepO n (valP n (lev + 1))) n true [] l.tail with
    | none => rw [hp] at hR; cases hR
    | some Q =>
      rw [hp] at hR
      have hR' : R = Res.map mkO Q := (Option.some.inj hR).symm
      have hl := h.suf.length_le
      have hSS := hS
      unfold okS at hSS
      have P := part_object (lev := lev) (br := br) (bm := bm) (bv := bv) (bL := bL) (q := q) (mp := mp) V (by omega) S hS hq (by omega) o2 o3 o4 o5
      refine (parts_any (a := ([] : List (Bs × JV))) hS hE hq h (by omega) hne (.inr rfl) 125 rfl P ⟨by omega, hB, hM, hSet, _, _, hV, World.ownsRow_nil _ _ _ _, RowJ.nil _ _ _⟩ (show [].length + l.tail.length ≤ 65536 by rw [List.length_tail]; simp; omega) hp).mono ?_
      intro e w3 hA
      cases Q with
      | bad code x =>
        obtain ⟨rfl, ⟨y, l2, h2, hs⟩, hc, ⟨k, t, x1, n1, c1, x2, n2, c2, hrow⟩⟩ := hA
        refine ⟨k, t, x1, n1, c1, x2, n2, c2, _, rfl, Lib.hid ⟨hrow, hc.rowC hZ (by omega), fun w' hc' => ?_⟩⟩
        exact saysV_bad hR' ⟨_, _, _, _, _, _, _, _, rfl⟩ ⟨⟨y, l2, h2.chg hc' (by omega), hs⟩, (hC.trans hc (fun k hk e => by omega)).trans hc' (fun k hk e => by omega)⟩
      | ok acc x =>
        obtain ⟨rfl, h2, hst, hc, hs⟩ := hA
        obtain ⟨I, K, hr, hk, hj⟩ := hst.row
        obtain ⟨ai, ci, rfl⟩ := owns_form hj.ex.choose_spec.choose_spec.1
        obtain ⟨ak, ck, rfl⟩ := owns_form hk
        refine ⟨6, ⟨#[]⟩, ai, _, ci, ak, _, ck, _, rfl, Lib.hid ⟨hr, hc.rowC hZ (by omega), fun w' hc' => ?_⟩⟩
        have hj' := (hj.chg hc' (fun k hk => .inl (by omega))).holds
        have hk' := keys_holds (hc'.owns hk (fun g hg e => by have := (hk.lt g hg).1; omega)) (keys := acc.map (·.1)) (by rw [List.length_map])
        refine saysV_ok hR' ⟨_, _, _, _, rfl, ?_⟩ ⟨h2.chg hc' (by omega), (hC.trans hc (fun k hk e => by omega)).trans hc' (fun k hk e => by omega)⟩
        unfold mkO
        rw [HoldsC]
        refine ⟨rfl, rfl, by simp, hk'.mono (fun k hk hlt => ⟨by have := hC.size; omega, hlt⟩), ?_⟩
        rcases hj' with ⟨h5, h6⟩ | ⟨ad, cap, h5, h6⟩
        · exact .inl ⟨h5, h6⟩
        · exact .inr ⟨ad, cap, h5, HoldsR.mono (fun k hk hlt => ⟨by have := hC.size; omega, hlt⟩) _ _ _ h6⟩
set_option maxRecDepth 100000 in
set_option maxHeartbeats 4000000 in
theorem object_any {n lev q : Nat} {w : World} {S l : Bs} {R : Res JV} (V : ValOk n) (hS : okS S) (hE : Env w) (hq : 10 ≤ q) (h : RdAt w q S l lev) (hlev : lev ≤ 16) (hne : l ≠ [])
    (hR : (if lev = 16 then some (.bad 11 l) else (partsP 125 (stepO n (valP n (lev + 1))) n true [] l.tail).map (Res.map mkO)) = some R) :
    Calls Tryz.prog 42 #[.pointer (some ⟨q, 0, none⟩)] w fun e w' => saysV w q S l lev R e w' := by
  have hqw := h.lt
  obtain ⟨W0, hW0⟩ : ∃ W0, W0 = ((w.alloc (.cells #[.pointer (some ⟨q, 0, none⟩)] 47)).alloc (.cells #[.int .i64 0, .string ⟨#[]⟩, .slice none 0 0, .slice none 0 0] 27)).alloc (.cells #[.int .i64 6, .string ⟨#[]⟩, .slice none 0 0, .slice none 0 0] 27) := ⟨_, rfl⟩
  have hs0 : W0.heap.size = w.heap.size + 1 + 1 + 1 := by rw [hW0]; simp
  obtain ⟨W1, hW1⟩ : ∃ W1, W1 = (W0.alloc (.map #[] 0)).alloc (.cells #[.map (some (w.heap.size + 1 + 1 + 1))] 125) := ⟨_, rfl⟩
  have hs1 : W1.heap.size = w.heap.size + 1 + 1 + 1 + 1 + 1 := by rw [hW1]; simp [hs0]
  have A0 : Chg (fun _ => False) w W1 := by rw [hW1, hW0]; exact (((((Chg.refl _ w).alloc _).alloc _).alloc _).alloc _).alloc _
  have B0 : rowC W1 w.heap.size #[.pointer (some ⟨q, 0, none⟩)] 47 := by rw [hW1, hW0]; exact rowC_alloc (rowC_alloc (rowC_alloc (rowC_alloc (rowC_new w _ _) _) _) _) _
  have R0 : rowC W1 (w.heap.size + 1) zeroV4 27 := by
    rw [hW1, hW0, ← size_alloc w (.cells #[.pointer (some ⟨q, 0, none⟩)] 47)]
    exact rowC_alloc (rowC_alloc (rowC_alloc (rowC_new _ _ _) _) _) _
  have V0' : rowC W0 (w.heap.size + 1 + 1) #[.int .i64 6, .string ⟨#[]⟩, .slice none 0 0, .slice none 0 0] 27 := by
    rw [hW0, ← size_alloc w (.cells #[.pointer (some ⟨q, 0, none⟩)] 47), ← size_alloc (w.alloc _) (.cells #[.int .i64 0, .string ⟨#[]⟩, .slice none 0 0, .slice none 0 0] 27)]
    exact rowC_new _ _ _
  have V0 : rowC W1 (w.heap.size + 1 + 1) #[.int .i64 6, .string ⟨#[]⟩, .slice none 0 0, .slice none 0 0] 27 := by rw [hW1]; exact rowC_alloc (rowC_alloc V0' _) _
  have S0 : SetM W1 (w.heap.size + 1 + 1 + 1) [] := by
    rw [hW1, ← hs0]
    exact World.ownsMap.alloc (World.ownsMap_made W0 _ _ _) _
  have M0 : rowC W1 (w.heap.size + 1 + 1 + 1 + 1) #[.map (some (w.heap.size + 1 + 1 + 1))] 125 := by
    rw [hW1, ← hs0, ← size_alloc W0 (.map #[] 0)]
    exact rowC_new _ _ _
  have E0 : Env W1 := hE.chg A0 (fun _ _ => id)
  have H0 : RdAt W1 q S l lev := h.chg A0 (fun e => e)
  have C := object_parts (bL := W1.heap.size) V hS E0 hq hqw H0 hlev hne (A0.mono (fun k _ hk => hk.elim)) (br := w.heap.size) (bv := w.heap.size + 1 + 1) (mp := w.heap.size + 1 + 1 + 1) (bm := w.heap.size + 1 + 1 + 1 + 1) (res := w.heap.size + 1) (Nat.le_refl _) (by omega) (by omega) (by omega) (by omega) (by omega) (by omega) (by omega) (by omega) rfl B0 M0 S0 V0 R0 hR
  have HW0 := Lib.hid hW0
  have HW1 := Lib.hid hW1
  have HI := Lib.hid info_V
  have c0 := rowC_cell B0 0
  have HS0 := Lib.hid hs0
  have hmm := @run_makeMap Tryz.prog
  clear hR hW0 hW1 A0 B0 R0 V0' V0 S0 M0 E0 H0 hs0 hs1 h hE
  go_enter Tryz.func42, Tryz.ntmps42
  go_upto_region 2 with (fail)
  rw [← HW0.out]
  go_upto_region 3 with (fail)
  rw [HS0.out, ← HW1.out]
  go_wp2_with (first
    | (go_at_call 60; ((with_reducible refine C.mono ?_); rintro e w3 ⟨k, t, x1, n1, c1, x2, n2, c2, ev, rfl, HB⟩))
    | ((with_reducible show wpList _ _ _ (⟨some 12, .load _ (.tmp 4), _, _, _, _⟩ :: _) _ _); refine wpList_load_row rfl 27 _ rfl (w.heap.size + 1 + 1) rfl 27 (row4 k t x1 n1 c1 x2 n2 c2) (0, 0) _ HB.out.1 Tryz.underlying27 rfl HI.out ?_)
    | ((with_reducible show wpList _ _ _ (⟨none, .store _ (.tmp 2) _, _, _, _, _⟩ :: _) _ _); refine wpList_store_row rfl 27 _ _ rfl (w.heap.size + 1) (row4 k t x1 n1 c1 x2 n2 c2) rfl rfl 27 zeroV4 HB.out.2.1 HI.out rfl (row4_all _ _ _ _ _ _ _ _) ?_))
  refine bodyPost_ret (results_row_tmp rfl _ _ (w.heap.size + 1) 27 (row4 k t x1 n1 c1 x2 n2 c2) _ rfl (rowC_setRow HB.out.2.1 _) Tryz.underlying27 rfl HI.out ev rfl) rfl ?_
  exact HB.out.2.2 _ ((Chg.refl _ _).setRow _ _ (.inl rfl))
end Go.Proofs.YtcepemgalammhaaGreatDoor
