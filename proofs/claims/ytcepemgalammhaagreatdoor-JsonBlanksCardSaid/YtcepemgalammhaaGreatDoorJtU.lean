/- Layer 11: an item of an object is read. -/
import Derived.Test.YtcepemgalammhaaGreatDoorJtT
namespace Go.Proofs.YtcepemgalammhaaGreatDoor
open Go.RowKit
attribute [local go_sem ↓] Go.wp_at_zero Go.wp_at_succ

theorem step_len {n lev : Nat} {acc : List (Bs × JV)} {r : Bs} {R : Res (List (Bs × JV))} (h : stepO n (valP n lev) acc r = some R) : ∃ K, keyP n (acc.map (·.1)) r = some K ∧ match K with
    | .bad code x => R = .bad code x
    | .ok _ x => ∃ Q, valP n lev x = some Q := by
  unfold stepO at h
  cases hk : keyP n (acc.map (·.1)) r with
  | none => rw [hk] at h; cases h
  | some K =>
    refine ⟨K, rfl, ?_⟩
    rw [hk] at h
    cases K with
    | bad code x => exact (Option.some.inj h).symm
    | ok t x =>
      cases hv : valP n lev x with
      | none => simp only [hv] at h; cases h
      | some Q => exact ⟨Q, hv⟩
set_option maxRecDepth 100000 in
set_option maxHeartbeats 8000000 in
theorem object1_any {n lev bL br bm bv q mp : Nat} (V : ValOk n) (hlev : lev ≤ 16) (S : Bs) (hS : okS S) (hq : 10 ≤ q) (o1 : q < br) (o2 : br < bv) (o3 : bv < mp) (o4 : mp < bm) (o5 : bm < bL)
    (acc : List (Bs × JV)) (r : Bs) (R : Res (List (Bs × JV))) (w1 : World) (hE : Env w1) (h : RdAt w1 q S r lev) (hst : StO bL br bm bv q mp acc w1) (hBd : acc.length + r.length ≤ 65536) (hR : stepO n (valP n lev) acc r = some R) :
    Calls Tryz.prog 62 #[.pointer (some ⟨br, 0, none⟩), .pointer (some ⟨bm, 0, none⟩), .pointer (some ⟨bv, 0, none⟩)] w1 fun e w2 => saysA w1 q S r lev (fun k => k = q ∨ k = mp ∨ k = bv ∨ bL ≤ k) (StO bL br bm bv q mp) (WkV bv) R e w2 := by
  obtain ⟨KK, hk, hKK⟩ := step_len hR
  have CK := key_any hS hE hq h hst.set (by rw [List.length_map]; omega) hk
  have b0 : w1.cell? ⟨br, 0, none⟩ = some (.pointer (some ⟨q, 0, none⟩)) := rowC_cell hst.box 0
  have b1 : w1.cell? ⟨bm, 0, none⟩ = some (.map (some mp)) := rowC_cell hst.map 0
  cases KK with
  | bad code x =>
    unfold saysK errAt errV at CK
    have HKK := Lib.hid (show R = .bad code x from hKK)
    have HST := Lib.hid hst
    clear hk hKK hR hst h hE V
    go_enter Tryz.func62, Tryz.ntmps62
    go_wp2_with (go_at_call 63; ((with_reducible refine CK.mono ?_); rintro e w2 ⟨rfl, h2, c2⟩))
    go_ret
    obtain ⟨y, ly, hy1, hy2⟩ := h2
    obtain ⟨I, K, hr, hko, hj⟩ := HST.out.row
    obtain ⟨xs, F, ho, _, _⟩ := hj.ex
    obtain ⟨ai, ci, rfl⟩ := owns_form ho
    obtain ⟨ak, ck, rfl⟩ := owns_form hko
    exact saysA_bad HKK.out ⟨y, ly, hy1, hy2⟩ (c2.mono (fun k _ hk => by rcases hk with e | e; exact .inl e; exact .inr (.inl e))) ⟨_, _, _, _, _, _, _, _, c2.rowC hr (by omega)⟩
  | ok t x =>
    obtain ⟨Q, hv⟩ := hKK
    unfold saysK at CK
    have CV := fun (w2 : World) (h2 : RdAt w2 q S x lev) (c2 : Chg (fun k => k = q ∨ k = mp) w1 w2) => V w2 q S x lev Q hS (hE.chg c2 (fun k hk e => by omega)) hq h2 hlev hv
    have FIN := Lib.hid (fun (hx : x <:+ r) (w2 w3 w5 w' : World) (a b c d ev I I' K K' : Value) => obj1_fin (w2 := w2) (w3 := w3) (w5 := w5) (w' := w') (a := a) (b := b) (c := c) (d := d) (ev := ev) (I := I) (I' := I') (K := K) (K' := K') hlev o1 o2 o3 o4 o5 h hst hk hx hv hR)
    have hxl := (key_ok hk).2.2
    have HST := Lib.hid hst
    have HBD := Lib.hid hBd
    have HHr := Lib.hid h.suf
    obtain ⟨I, K, hr0, hko0, hj0⟩ := hst.row
    obtain ⟨m, hm⟩ : ∃ m, m = acc.length := ⟨_, rfl⟩
    have hml : m ≤ 65536 := by omega
    obtain ⟨⟨xs, F, ho0, hI0, hF⟩, hIn⟩ := hj0
    rw [List.length_map, ← hm] at ho0
    rw [← hm] at hko0
    obtain ⟨ai, ci, rfl⟩ := owns_form ho0
    obtain ⟨ak, ck, rfl⟩ := owns_form hko0
    have hlx := ItemsC.len _ _ hI0
    rw [List.length_map, ← hm] at hlx
    have HM := Lib.hid hm
    have HR0 := Lib.hid hr0
    have HKO0 := Lib.hid hko0
    have HO0 := Lib.hid ho0
    have HI0 := Lib.hid (ItemsC.mono (G := fun k => F k ∧ k < w1.heap.size) (fun k hk hlt => ⟨hk, hlt⟩) _ xs hI0)
    have HF := Lib.hid hF
    have HIN := Lib.hid hIn
    have HKV : Hid ((Value.slice ak m ck).ownBlock ≠ some bv) := Lib.hid (fun e => by have := (hko0.lt _ e).1; omega)
    have HIV : Hid ((Value.slice ai m ci).ownBlock ≠ some bv) := Lib.hid (fun e => by have := (ho0.lt _ e).1; omega)
    have HKL := Lib.hid (fun k (e : (Value.slice ak m ck).ownBlock = some k) => hko0.lt k e)
    have HIL := Lib.hid (fun k (e : (Value.slice ai m ci).ownBlock = some k) => ho0.lt k e)
    have HXL := Lib.hid hlx
    have hle := hst.le
    obtain ⟨i0, hi0, hz0, hz1, hz2⟩ := info_parts info_V3
    obtain ⟨j0, ji0, jz0, jz1, jz2⟩ := info_parts info_S1
    clear hk hv hR hst h hE V hm hr0 hko0 ho0 hI0 hF hIn hlx hBd
    go_enter Tryz.func62, Tryz.ntmps62
    go_upto_region 5 with (first
      | (go_at_call 63; ((with_reducible refine CK.mono ?_); rintro e w2 ⟨rfl, htl, h2, hset, c2⟩; have b2 := rowC_cell (c2.rowC HST.out.box (by omega)) 0; have C := CV w2 h2 c2; have H2 := Lib.hid h2; have HSET := Lib.hid hset; have C2 := Lib.hid c2; clear h2 hset c2))
      | (go_at_call 21; ((with_reducible refine C.mono ?_); rintro e w3 VV; obtain ⟨k, t0, x1, n1, c1, x2, n2, c2, ev, rfl, HG⟩ := saysV_all VV; clear VV)))
    have HXR := Lib.hid (suf_of H2.out.suf HHr.out (by omega))
    have hr3 := HG.out.1.rowC (C2.out.rowC HR0.out (by omega)) (by omega)
    have hko3 := HG.out.1.owns (C2.out.owns HKO0.out (fun g hg e => by have := (HKO0.out.lt g hg).1; omega)) (fun g hg e => by have := (HKO0.out.lt g hg).1; omega)
    have ho3 := HG.out.1.owns (C2.out.owns HO0.out (fun g hg e => by have := (HO0.out.lt g hg).1; omega)) (fun g hg e => by have := (HO0.out.lt g hg).1; omega)
    have hI3 := ItemsC.chg HG.out.1 (fun k hk e => by have := (HF.out k hk.1).1; omega) _ xs (ItemsC.chg C2.out (fun k hk e => by have := (HF.out k hk.1).1; omega) _ xs HI0.out)
    have s13 : w1.heap.size ≤ w3.heap.size := Nat.le_trans C2.out.size HG.out.1.size
    obtain ⟨W, hW⟩ : ∃ W, W = w3.alloc (Obj.cells #[.int .i64 k, .string t0, .slice x1 n1 c1, .slice x2 n2 c2] 27) := ⟨_, rfl⟩
    have hbv3 := rowC_lt hr3
    have hck : W.cell? ⟨bv, 3, none⟩ = some (.slice ak m ck) := by rw [hW]; exact rowC_cell (rowC_alloc hr3 _) 3
    have hsz : W.heap.size = w3.heap.size + 1 := by rw [hW]; exact size_alloc _ _
    have hkoW : W.ownsRow bL 9 1 (.slice ak m ck) m (keysV (acc.map (·.1))) := by rw [hW]; exact hko3.alloc _
    have HRW : Hid (rowC W bv #[.int .i64 6, .string ⟨#[]⟩, .slice ai m ci, .slice ak m ck] 27) := by rw [hW]; exact Lib.hid (rowC_alloc hr3 _)
    have HXW : Hid (rowC W w3.heap.size #[.int .i64 k, .string t0, .slice x1 n1 c1, .slice x2 n2 c2] 27) := by rw [hW]; exact Lib.hid (rowC_new w3 _ _)
    have HOW : Hid (W.ownsRow bL 27 4 (.slice ai m ci) m xs) := by rw [hW]; exact Lib.hid (ho3.alloc _)
    have HCW : Hid (Chg (fun _ => False) w3 W) := by rw [hW]; exact Lib.hid ((Chg.refl _ _).alloc _)
    have HI3 := Lib.hid hI3
    have HS3 := Lib.hid s13
    rw [← hW]
    have hbLW : bL ≤ W.heap.size := by omega
    have hWs : w3.heap.size < W.heap.size := by omega
    have hbvW : bv < W.heap.size := by omega
    have HSZ := Lib.hid hsz
    clear hsz hW hr3 hko3 ho3 hI3 b0 b1 b2 C CV CK hxl
    go_upto_region 6 with ((with_reducible show wpList _ _ _ (⟨some 25, _, _, _, _, _⟩ :: _) _ _); refine wpList_append_lies _ rfl _ _ 25 rfl bL 9 j0 (.string ⟨#[]⟩) 1 16 Tryz.underlying25 ji0 jz0 jz1 jz2 rfl (by decide) (.slice ak m ck) m (keysV (acc.map (·.1))) rfl (hkoW.alloc _) ⟨W.heap.size, 0, none⟩ 1 1 [.string (str t)] rfl rfl (World.news_of_block (heap_alloc_new W _)) (by intro u hu; simp at hu; rw [hu]; rfl) (by decide) (by unfold maxLen; omega) (by omega) (by rw [size_alloc]; omega) _ rfl ?_; intro gk capk w4 hown4 hgrow4 hat4 hlt4; have r4 := row_far (rowC_alloc HRW.out _) hgrow4 HKV.out; have cbk := rowC_cell r4 3; have fbk := rowC_free r4 3; have R4 := Lib.hid r4; clear r4; have HK4 := Lib.hid hown4; have HG4 := Lib.hid hgrow4; have HA4 := Lib.hid hat4; clear hown4 hgrow4 hat4)
    have hat4 := HA4.out
    rw [size_alloc] at hat4
    have gkv : ¬ bv = gk := by
      intro e
      subst e
      rcases hat4 with e | e
      · exact HKV.out e
      · omega
    have hI4 : ∀ k, (Value.slice ak m ck).ownBlock = some k → (Value.slice ai m ci).ownBlock ≠ some k := HIN.out
    have hIg : (Value.slice ai m ci).ownBlock ≠ some gk := by
      intro e
      rcases hat4 with e4 | e4
      · exact HIN.out gk e4 e
      · have := (HIL.out gk e).2; have := HS3.out; omega
    have glo : gk < w1.heap.size ∨ w3.heap.size < gk := by
      rcases hat4 with e4 | e4
      · exact .inl (HKL.out gk e4).2
      · exact .inr (by omega)
    have hc34 : Chg (fun k => (Value.slice ak m ck).ownBlock = some k) w3 w4 := ((HCW.out.mono (fun k _ hk => hk.elim)).alloc _).grown HG4.out (fun k hk => .inl hk)
    have hX4 : rowC w4 w3.heap.size #[.int .i64 k, .string t0, .slice x1 n1 c1, .slice x2 n2 c2] 27 := row_far (rowC_alloc HXW.out _) HG4.out (fun e => by have := (HKL.out _ e).2; have := HS3.out; omega)
    have hO4 : w4.ownsRow bL 27 4 (.slice ai m ci) m xs := ((Chg.refl (fun k => (Value.slice ak m ck).ownBlock = some k) _).grown HG4.out (fun k hk => .inl hk)).owns (HOW.out.alloc _) (fun g hg e => HIN.out g e hg)
    have setb : Chg (fun k => k = bv) w4 (w4.setCell ⟨bv, 3, none⟩ (.slice (some ⟨gk, 0, none⟩) (m + 1) capk)) := (Chg.refl _ w4).cellq _ _
    obtain ⟨W5, hW5⟩ : ∃ W5, W5 = w4.setCell ⟨bv, 3, none⟩ (.slice (some ⟨gk, 0, none⟩) (m + 1) capk) := ⟨_, rfl⟩
    have hs5 : w3.heap.size < W5.heap.size := by rw [hW5]; have := setb.size; have := rowC_lt hX4; omega
    have R5 : Hid (rowC W5 bv #[.int .i64 6, .string ⟨#[]⟩, .slice ai m ci, .slice (some ⟨gk, 0, none⟩) (m + 1) capk] 27) := by rw [hW5]; exact Lib.hid (rowC_set R4.out 3 _)
    rw [← hW5] at setb
    have C5 : Hid (Chg (fun k => (Value.slice ak m ck).ownBlock = some k ∨ k = bv) w3 W5) := Lib.hid ((hc34.mono (t := fun k => (Value.slice ak m ck).ownBlock = some k ∨ k = bv) (fun k _ hk => .inl hk)).trans setb (fun k _ hk => .inr hk))
    have X5 := setb.rowC hX4 (by omega)
    have hoW := setb.owns hO4 (fun g hg e => HIV.out (by rw [← e]; exact hg))
    have K5 := Lib.hid (setb.owns HK4.out (fun g hg e => gkv (by simp only [Value.ownBlock, Option.some.injEq] at hg; rw [← e, hg])))
    have I5 := Lib.hid (ItemsC.chg C5.out (fun k hk e => by
      rcases e with e | e
      · exact (HF.out k hk.1).2.1 e
      · have := (HF.out k hk.1).1; omega) _ xs HI3.out)
    have g5 : gk < W5.heap.size := by rw [hW5]; exact Nat.lt_of_lt_of_le hlt4 ((Chg.refl (fun k => k = bv) w4).cellq 3 _).size
    rw [← hW5]
    have hcv : W5.cell? ⟨bv, 2, none⟩ = some (.slice ai m ci) := rowC_cell R5.out 2
    have hfv : W5.frozen? ⟨bv, 2, none⟩ = false := rowC_free R5.out 2
    have hx0 : W5.cell? ⟨w3.heap.size, 0, none⟩ = some (.int .i64 k) := rowC_cell X5 0
    have hx1 : W5.cell? ⟨w3.heap.size, 1, none⟩ = some (.string t0) := rowC_cell X5 1
    have hx2 : W5.cell? ⟨w3.heap.size, 2, none⟩ = some (.slice x1 n1 c1) := rowC_cell X5 2
    have hx3 : W5.cell? ⟨w3.heap.size, 3, none⟩ = some (.slice x2 n2 c2) := rowC_cell X5 3
    have hIbv := HIV.out
    have hIbx : (Value.slice ai m ci).ownBlock ≠ some w3.heap.size := fun e => by have := (HIL.out _ e).2; have := HS3.out; omega
    have hbv5 : bv < W5.heap.size := rowC_lt R5.out
    have hbL5 : bL ≤ W5.heap.size := by have := HSZ.out; omega
    have hxbv : ¬ w3.heap.size = bv := by omega
    have hbvx : ¬ bv = w3.heap.size := by omega
    have m0 : (0 : Int) ≤ (m : Int) := by omega
    have m1 : (m : Int) < ((m + 1 : Nat) : Int) := by omega
    have m2 : (m : Int) < (m : Int) + 1 := by omega
    have GKV := Lib.hid gkv
    have HIG := Lib.hid hIg
    have GLO := Lib.hid glo
    have HOW5 := Lib.hid hoW
    clear hW5 setb hc34 hX4 hO4 X5 gkv hI4 hIg glo hat4 hlt4 cbk fbk hck hkoW hbLW hWs hbvW hbv3
    go_region_law (refine step_append_lies _ (by rfl) _ _ _ (by rfl) bL 27 i0 _ 4 72 Tryz.underlying24 hi0 hz0 hz1 hz2 rfl (by omega) (.slice ai m ci) m xs (by rfl) ((hoW.alloc _).drew) ⟨W5.heap.size, 0, none⟩ 1 1 [.int .i64 0, .string ⟨#[]⟩, .slice none 0 0, .slice none 0 0] (by rfl) (by rfl) (World.news_of_block (cs := #[.int .i64 0, .string ⟨#[]⟩, .slice none 0 0, .slice none 0 0]) (t := 27) (fr := (0, 0)) (heap_alloc_new W5 _)) (by simp [Value.oneCell']) (by omega) (by unfold maxLen; omega) (by omega) (by simp; omega) (W5.heap.size + 1) (by simp) ?_; intro g cap w6 hown hgrow hat hltg; obtain ⟨q0, q1, q2, q3⟩ := row_cells4 hown HXL.out; obtain ⟨z1, z2, z3, z4⟩ := apart_g hat hIbv hIbx hbv5 hs5; have y0 := ((hgrow.cell_far ⟨w3.heap.size, 0, none⟩ (by simp; omega) (Ne.symm hIbx)).trans (World.cell?_alloc_old W5 _ ⟨w3.heap.size, 0, none⟩ (by show w3.heap.size ≠ _; omega))).trans hx0; have y1 := ((hgrow.cell_far ⟨w3.heap.size, 1, none⟩ (by simp; omega) (Ne.symm hIbx)).trans (World.cell?_alloc_old W5 _ ⟨w3.heap.size, 1, none⟩ (by show w3.heap.size ≠ _; omega))).trans hx1; have y2 := ((hgrow.cell_far ⟨w3.heap.size, 2, none⟩ (by simp; omega) (Ne.symm hIbx)).trans (World.cell?_alloc_old W5 _ ⟨w3.heap.size, 2, none⟩ (by show w3.heap.size ≠ _; omega))).trans hx2; have y3 := ((hgrow.cell_far ⟨w3.heap.size, 3, none⟩ (by simp; omega) (Ne.symm hIbx)).trans (World.cell?_alloc_old W5 _ ⟨w3.heap.size, 3, none⟩ (by show w3.heap.size ≠ _; omega))).trans hx3; have cbv := ((hgrow.cell_far ⟨bv, 2, none⟩ (by simp; omega) (Ne.symm hIbv)).trans (World.cell?_alloc_old W5 _ ⟨bv, 2, none⟩ (by show bv ≠ _; omega))).trans hcv; have pbv := ((hgrow.frozen_far ⟨bv, 2, none⟩ (by simp; omega) (Ne.symm hIbv)).trans (World.frozen?_alloc_old W5 _ ⟨bv, 2, none⟩ (by show bv ≠ _; omega))).trans hfv; have p0 := hown.frozenAt (m * 4); have p1 := hown.frozenAt (m * 4 + 1); have p2 := hown.frozenAt (m * 4 + 2); have p3 := hown.frozenAt (m * 4 + 3); have HN := Lib.hid hown; have HGR := Lib.hid hgrow; have HAT := Lib.hid hat; clear hown hgrow hat hltg)
    all_goals (go_wp2; go_ret)
    all_goals (
      have hc6 : Chg (fun k => (Value.slice ai m ci).ownBlock = some k) W5 w6 := (((Chg.refl _ W5).alloc _).drew).grown HGR.out (fun k hk => .inl hk)
      obtain ⟨PA, PB⟩ := item_put (k0 := 6) (a := .int .i64 k) (b := .string t0) (c := .slice x1 n1 c1) (d := .slice x2 n2 c2) (lo := w2.heap.size) (hi := w3.heap.size) (own := fun k => (Value.slice (some ⟨gk, 0, none⟩) (m + 1) capk).ownBlock = some k) (by omega) (Nat.le_trans hle C2.out.size) (by omega) I5.out (fun k hk => ⟨(HF.out k hk.1).1, fun e => by
          simp only [Value.ownBlock, Option.some.injEq] at e
          have := hk.2
          have := HS3.out
          rcases HA4.out with e4 | e4
          · exact (HF.out k hk.1).2.1 (by rw [← e]; exact e4)
          · rw [size_alloc] at e4; have := HSZ.out; omega, (HF.out k hk.1).2.2⟩) (by rw [List.length_map]; exact HM.out) (fun k hk => ⟨(HIL.out k hk).1, Nat.lt_of_lt_of_le (HIL.out k hk).2 C2.out.size⟩) (fun k hk e => HIG.out (by simp only [Value.ownBlock, Option.some.injEq] at hk; rw [hk]; exact e))
          (fun k hk => by simp only [Value.ownBlock, Option.some.injEq] at hk; have := GLO.out; have := C2.out.size; omega) (fun k hk => by simp only [Value.ownBlock, Option.some.injEq] at hk; omega) R5.out HN.out hc6 (by rcases HAT.out with e | e; exact .inl e; exact .inr (by omega))
      have FF := fun w' hP => FIN.out HXR.out w2 w3 W5 w' (.int .i64 k) (.string t0) (.slice x1 n1 c1) (.slice x2 n2 c2) ev (.slice ai m ci) (.slice (some ⟨g, 0, none⟩) (m + 1) cap) (.slice ak m ck) (.slice (some ⟨gk, 0, none⟩) (m + 1) capk) C2.out HSET.out HG.out.2 HG.out.1 C5.out (fun k hk => (HKL.out k hk).1) (fun k hk => (HIL.out k hk).1) hP (by rw [← HM.out]; exact K5.out)
        (fun k hk e => HIG.out (by simp only [Value.ownBlock, Option.some.injEq] at hk; rw [hk]; exact e)) (fun v hv => HoldsC.chg C5.out (fun k hk e => by
          have := C2.out.size
          rcases e with e | e
          · have := (HKL.out k e).2; omega
          · omega) v _ _ _ _ hv) ⟨_, _, _, rfl⟩ ⟨_, _, _, rfl⟩
      show saysA w1 q S r lev (fun k => k = q ∨ k = mp ∨ k = bv ∨ bL ≤ k) (StO bL br bm bv q mp) (WkV bv) R (.returned ev) _
      first
      | (with_reducible exact FF _ PA)
      | (with_reducible exact FF _ PB))
end Go.Proofs.YtcepemgalammhaaGreatDoor
