/- Merged: JtU, JtV, JtW, JtX, JtY, JtZ. -/
import Derived.Test.YtafmokpplnmbgaaGreatDoorM08
import Derived.Test.YtafmokpplnmbgaaGreatDoorShelf
import Derived.LaidEql
import Derived.Stop.Asserts
import Derived.RowKitTokens
/- Layer 11: an item of an object is read. -/
namespace Go.Proofs.YtafmokpplnmbgaaGreatDoor
open Go.RowKit
attribute [local go_sem ↓] Go.wp_at_zero Go.wp_at_succ

theorem step_len {n lev : Nat} {acc : List (Bs × JV)} {r : Bs} {R : Res (List (Bs × JV))} (h : stepO n (valP n lev) acc r = some R) : ∃ K, keyP n (acc.map (·.1)) r = some K ∧ match K with
    | .bad code x => R = .bad code x
    | .ok _ x => ∃ Q, valP n lev x = some Q := by
  unfold stepO at h
  cases hk : keyP n (acc.map (·.1)) r with
  | none => rw [hk] at h; cases h
  | some K =>
    refine ⟨K, rfl, ?_⟩
    rw [hk] at h
    cases K with
    | bad code x => exact (Option.some.inj h).symm
    | ok t x =>
      cases hv : valP n lev x with
      | none => simp only [hv] at h; cases h
      | some Q => exact ⟨Q, hv⟩
set_option maxRecDepth 100000 in
set_option maxHeartbeats 8000000 in
theorem object1_any {n lev bL br bm bv q mp : Nat} (V : ValOk n) (hlev : lev ≤ 16) (S : Bs) (hS : okS S) (hq : 10 ≤ q) (o1 : q < br) (o2 : br < bv) (o3 : bv < mp) (o4 : mp < bm) (o5 : bm < bL)
    (acc : List (Bs × JV)) (r : Bs) (R : Res (List (Bs × JV))) (w1 : World) (hE : Env w1) (h : RdAt w1 q S r lev) (hst : StO bL br bm bv q mp acc w1) (hBd : acc.length + r.length ≤ 65536) (hR : stepO n (valP n lev) acc r = some R) :
    Calls Tryz.prog 62 #[.pointer (some ⟨br, 0, none⟩), .pointer (some ⟨bm, 0, none⟩), .pointer (some ⟨bv, 0, none⟩)] w1 fun e w2 => saysA w1 q S r lev (fun k => k = q ∨ k = mp ∨ k = bv ∨ bL ≤ k) (StO bL br bm bv q mp) (WkV bv) R e w2 := by
  obtain ⟨KK, hk, hKK⟩ := step_len hR
  have CK := key_any hS hE hq h hst.set (by rw [List.length_map]; omega) hk
  have b0 : w1.cell? ⟨br, 0, none⟩ = some (.pointer (some ⟨q, 0, none⟩)) := rowC_cell hst.box 0
  have b1 : w1.cell? ⟨bm, 0, none⟩ = some (.map (some mp)) := rowC_cell hst.map 0
  cases KK with
  | bad code x =>
    unfold saysK errAt errV at CK
    have HKK := Lib.hid (show R = .bad code x from hKK)
    have HST := Lib.hid hst
    clear hk hKK hR hst h hE V
    go_enter Tryz.func62, Tryz.ntmps62
    go_wp2_with (go_at_call 63; ((with_reducible refine CK.mono ?_); rintro e w2 ⟨rfl, h2, c2⟩))
    go_ret
    obtain ⟨y, ly, hy1, hy2⟩ := h2
    obtain ⟨I, K, hr, hko, hj⟩ := HST.out.row
    obtain ⟨xs, F, ho, _, _⟩ := hj.ex
    obtain ⟨ai, ci, rfl⟩ := owns_form ho
    obtain ⟨ak, ck, rfl⟩ := owns_form hko
    exact saysA_bad HKK.out ⟨y, ly, hy1, hy2⟩ (c2.mono (fun k _ hk => by rcases hk with e | e; exact .inl e; exact .inr (.inl e))) ⟨_, _, _, _, _, _, _, _, c2.rowC hr (by omega)⟩
  | ok t x =>
    obtain ⟨Q, hv⟩ := hKK
    unfold saysK at CK
    have CV := fun (w2 : World) (h2 : RdAt w2 q S x lev) (c2 : Chg (fun k => k = q ∨ k = mp) w1 w2) => V w2 q S x lev Q hS (hE.chg c2 (fun k hk e => by omega)) hq h2 hlev hv
    have FIN := Lib.hid (fun (hx : x <:+ r) (w2 w3 w5 w' : World) (a b c d ev I I' K K' : Value) => obj1_fin (w2 := w2) (w3 := w3) (w5 := w5) (w' := w') (a := a) (b := b) (c := c) (d := d) (ev := ev) (I := I) (I' := I') (K := K) (K' := K') hlev o1 o2 o3 o4 o5 h hst hk hx hv hR)
    have hxl := (key_ok hk).2.2
    have HST := Lib.hid hst
    have HBD := Lib.hid hBd
    have HHr := Lib.hid h.suf
    obtain ⟨I, K, hr0, hko0, hj0⟩ := hst.row
    obtain ⟨m, hm⟩ : ∃ m, m = acc.length := ⟨_, rfl⟩
    have hml : m ≤ 65536 := by omega
    obtain ⟨⟨xs, F, ho0, hI0, hF⟩, hIn⟩ := hj0
    rw [List.length_map, ← hm] at ho0
    rw [← hm] at hko0
    obtain ⟨ai, ci, rfl⟩ := owns_form ho0
    obtain ⟨ak, ck, rfl⟩ := owns_form hko0
    have hlx := ItemsC.len _ _ hI0
    rw [List.length_map, ← hm] at hlx
    have HM := Lib.hid hm
    have HR0 := Lib.hid hr0
    have HKO0 := Lib.hid hko0
    have HO0 := Lib.hid ho0
    have HI0 := Lib.hid (ItemsC.mono (G := fun k => F k ∧ k < w1.heap.size) (fun k hk hlt => ⟨hk, hlt⟩) _ xs hI0)
    have HF := Lib.hid hF
    have HIN := Lib.hid hIn
    have HKV : Hid ((Value.slice ak m ck).ownBlock ≠ some bv) := Lib.hid (fun e => by have := (hko0.lt _ e).1; omega)
    have HIV : Hid ((Value.slice ai m ci).ownBlock ≠ some bv) := Lib.hid (fun e => by have := (ho0.lt _ e).1; omega)
    have HKL := Lib.hid (fun k (e : (Value.slice ak m ck).ownBlock = some k) => hko0.lt k e)
    have HIL := Lib.hid (fun k (e : (Value.slice ai m ci).ownBlock = some k) => ho0.lt k e)
    have HXL := Lib.hid hlx
    have hle := hst.le
    obtain ⟨i0, hi0, hz0, hz1, hz2⟩ := info_parts info_V3
    obtain ⟨j0, ji0, jz0, jz1, jz2⟩ := info_parts info_S1
    clear hk hv hR hst h hE V hm hr0 hko0 ho0 hI0 hF hIn hlx hBd
    go_enter Tryz.func62, Tryz.ntmps62
    go_upto_region 5 with (first
      | (go_at_call 63; ((with_reducible refine CK.mono ?_); rintro e w2 ⟨rfl, htl, h2, hset, c2⟩; have b2 := rowC_cell (c2.rowC HST.out.box (by omega)) 0; have C := CV w2 h2 c2; have H2 := Lib.hid h2; have HSET := Lib.hid hset; have C2 := Lib.hid c2; clear h2 hset c2))
      | (go_at_call 25; ((with_reducible refine C.mono ?_); rintro e w3 VV; obtain ⟨k, t0, x1, n1, c1, x2, n2, c2, ev, rfl, HG⟩ := saysV_all VV; clear VV)))
    have HXR := Lib.hid (suf_of H2.out.suf HHr.out (by omega))
    have hr3 := HG.out.1.rowC (C2.out.rowC HR0.out (by omega)) (by omega)
    have hko3 := HG.out.1.owns (C2.out.owns HKO0.out (fun g hg e => by have := (HKO0.out.lt g hg).1; omega)) (fun g hg e => by have := (HKO0.out.lt g hg).1; omega)
    have ho3 := HG.out.1.owns (C2.out.owns HO0.out (fun g hg e => by have := (HO0.out.lt g hg).1; omega)) (fun g hg e => by have := (HO0.out.lt g hg).1; omega)
    have hI3 := ItemsC.chg HG.out.1 (fun k hk e => by have := (HF.out k hk.1).1; omega) _ xs (ItemsC.chg C2.out (fun k hk e => by have := (HF.out k hk.1).1; omega) _ xs HI0.out)
    have s13 : w1.heap.size ≤ w3.heap.size := Nat.le_trans C2.out.size HG.out.1.size
    obtain ⟨W, hW⟩ : ∃ W, W = w3.alloc (Obj.cells #[.int .i64 k, .string t0, .slice x1 n1 c1, .slice x2 n2 c2] 27) := ⟨_, rfl⟩
    have hbv3 := rowC_lt hr3
    have hck : W.cell? ⟨bv, 3, none⟩ = some (.slice ak m ck) := by rw [hW]; exact rowC_cell (rowC_alloc hr3 _) 3
    have hsz : W.heap.size = w3.heap.size + 1 := by rw [hW]; exact size_alloc _ _
    have hkoW : W.ownsRow bL 9 1 (.slice ak m ck) m (keysV (acc.map (·.1))) := by rw [hW]; exact hko3.alloc _
    have HRW : Hid (rowC W bv #[.int .i64 6, .string ⟨#[]⟩, .slice ai m ci, .slice ak m ck] 27) := by rw [hW]; exact Lib.hid (rowC_alloc hr3 _)
    have HXW : Hid (rowC W w3.heap.size #[.int .i64 k, .string t0, .slice x1 n1 c1, .slice x2 n2 c2] 27) := by rw [hW]; exact Lib.hid (rowC_new w3 _ _)
    have HOW : Hid (W.ownsRow bL 27 4 (.slice ai m ci) m xs) := by rw [hW]; exact Lib.hid (ho3.alloc _)
    have HCW : Hid (Chg (fun _ => False) w3 W) := by rw [hW]; exact Lib.hid ((Chg.refl _ _).alloc _)
    have HI3 := Lib.hid hI3
    have HS3 := Lib.hid s13
    rw [← hW]
    have hbLW : bL ≤ W.heap.size := by omega
    have hWs : w3.heap.size < W.heap.size := by omega
    have hbvW : bv < W.heap.size := by omega
    have HSZ := Lib.hid hsz
    clear hsz hW hr3 hko3 ho3 hI3 b0 b1 b2 C CV CK hxl
    go_upto_region 6 with ((with_reducible show wpList _ _ _ (⟨some 25, _, _, _, _, _⟩ :: _) _ _); refine wpList_append_lies _ rfl _ _ 25 rfl bL 9 j0 (.string ⟨#[]⟩) 1 16 Tryz.underlying25 ji0 jz0 jz1 jz2 rfl (by decide) (.slice ak m ck) m (keysV (acc.map (·.1))) rfl (hkoW.alloc _) ⟨W.heap.size, 0, none⟩ 1 1 [.string (str t)] rfl rfl (World.news_of_block (heap_alloc_new W _)) (by intro u hu; simp at hu; rw [hu]; rfl) (by decide) (by unfold maxLen; omega) (by omega) (by rw [size_alloc]; omega) _ rfl ?_; intro gk capk w4 hown4 hgrow4 hat4 hlt4; have r4 := row_far (rowC_alloc HRW.out _) hgrow4 HKV.out; have cbk := rowC_cell r4 3; have fbk := rowC_free r4 3; have R4 := Lib.hid r4; clear r4; have HK4 := Lib.hid hown4; have HG4 := Lib.hid hgrow4; have HA4 := Lib.hid hat4; clear hown4 hgrow4 hat4)
    have hat4 := HA4.out
    rw [size_alloc] at hat4
    have gkv : ¬ bv = gk := by
      intro e
      subst e
      rcases hat4 with e | e
      · exact HKV.out e
      · omega
    have hI4 : ∀ k, (Value.slice ak m ck).ownBlock = some k → (Value.slice ai m ci).ownBlock ≠ some k := HIN.out
    have hIg : (Value.slice ai m ci).ownBlock ≠ some gk := by
      intro e
      rcases hat4 with e4 | e4
      · exact HIN.out gk e4 e
      · have := (HIL.out gk e).2; have := HS3.out; omega
    have glo : gk < w1.heap.size ∨ w3.heap.size < gk := by
      rcases hat4 with e4 | e4
      · exact .inl (HKL.out gk e4).2
      · exact .inr (by omega)
    have hc34 : Chg (fun k => (Value.slice ak m ck).ownBlock = some k) w3 w4 := ((HCW.out.mono (fun k _ hk => hk.elim)).alloc _).grown HG4.out (fun k hk => .inl hk)
    have hX4 : rowC w4 w3.heap.size #[.int .i64 k, .string t0, .slice x1 n1 c1, .slice x2 n2 c2] 27 := row_far (rowC_alloc HXW.out _) HG4.out (fun e => by have := (HKL.out _ e).2; have := HS3.out; omega)
    have hO4 : w4.ownsRow bL 27 4 (.slice ai m ci) m xs := ((Chg.refl (fun k => (Value.slice ak m ck).ownBlock = some k) _).grown HG4.out (fun k hk => .inl hk)).owns (HOW.out.alloc _) (fun g hg e => HIN.out g e hg)
    have setb : Chg (fun k => k = bv) w4 (w4.setCell ⟨bv, 3, none⟩ (.slice (some ⟨gk, 0, none⟩) (m + 1) capk)) := (Chg.refl _ w4).cellq _ _
    obtain ⟨W5, hW5⟩ : ∃ W5, W5 = w4.setCell ⟨bv, 3, none⟩ (.slice (some ⟨gk, 0, none⟩) (m + 1) capk) := ⟨_, rfl⟩
    have hs5 : w3.heap.size < W5.heap.size := by rw [hW5]; have := setb.size; have := rowC_lt hX4; omega
    have R5 : Hid (rowC W5 bv #[.int .i64 6, .string ⟨#[]⟩, .slice ai m ci, .slice (some ⟨gk, 0, none⟩) (m + 1) capk] 27) := by rw [hW5]; exact Lib.hid (rowC_set R4.out 3 _)
    rw [← hW5] at setb
    have C5 : Hid (Chg (fun k => (Value.slice ak m ck).ownBlock = some k ∨ k = bv) w3 W5) := Lib.hid ((hc34.mono (t := fun k => (Value.slice ak m ck).ownBlock = some k ∨ k = bv) (fun k _ hk => .inl hk)).trans setb (fun k _ hk => .inr hk))
    have X5 := setb.rowC hX4 (by omega)
    have hoW := setb.owns hO4 (fun g hg e => HIV.out (by rw [← e]; exact hg))
    have K5 := Lib.hid (setb.owns HK4.out (fun g hg e => gkv (by simp only [Value.ownBlock, Option.some.injEq] at hg; rw [← e, hg])))
    have I5 := Lib.hid (ItemsC.chg C5.out (fun k hk e => by
      rcases e with e | e
      · exact (HF.out k hk.1).2.1 e
      · have := (HF.out k hk.1).1; omega) _ xs HI3.out)
    have g5 : gk < W5.heap.size := by rw [hW5]; exact Nat.lt_of_lt_of_le hlt4 ((Chg.refl (fun k => k = bv) w4).cellq 3 _).size
    rw [← hW5]
    have hcv : W5.cell? ⟨bv, 2, none⟩ = some (.slice ai m ci) := rowC_cell R5.out 2
    have hfv : W5.frozen? ⟨bv, 2, none⟩ = false := rowC_free R5.out 2
    have hx0 : W5.cell? ⟨w3.heap.size, 0, none⟩ = some (.int .i64 k) := rowC_cell X5 0
    have hx1 : W5.cell? ⟨w3.heap.size, 1, none⟩ = some (.string t0) := rowC_cell X5 1
    have hx2 : W5.cell? ⟨w3.heap.size, 2, none⟩ = some (.slice x1 n1 c1) := rowC_cell X5 2
    have hx3 : W5.cell? ⟨w3.heap.size, 3, none⟩ = some (.slice x2 n2 c2) := rowC_cell X5 3
    have hIbv := HIV.out
    have hIbx : (Value.slice ai m ci).ownBlock ≠ some w3.heap.size := fun e => by have := (HIL.out _ e).2; have := HS3.out; omega
    have hbv5 : bv < W5.heap.size := rowC_lt R5.out
    have hbL5 : bL ≤ W5.heap.size := by have := HSZ.out; omega
    have hxbv : ¬ w3.heap.size = bv := by omega
    have hbvx : ¬ bv = w3.heap.size := by omega
    have m0 : (0 : Int) ≤ (m : Int) := by omega
    have m1 : (m : Int) < ((m + 1 : Nat) : Int) := by omega
    have m2 : (m : Int) < (m : Int) + 1 := by omega
    have GKV := Lib.hid gkv
    have HIG := Lib.hid hIg
    have GLO := Lib.hid glo
    have HOW5 := Lib.hid hoW
    clear hW5 setb hc34 hX4 hO4 X5 gkv hI4 hIg glo hat4 hlt4 cbk fbk hck hkoW hbLW hWs hbvW hbv3
    go_region_law (refine step_append_lies _ (by rfl) _ _ _ (by rfl) bL 27 i0 _ 4 72 Tryz.underlying24 hi0 hz0 hz1 hz2 rfl (by omega) (.slice ai m ci) m xs (by rfl) ((hoW.alloc _).drew) ⟨W5.heap.size, 0, none⟩ 1 1 [.int .i64 0, .string ⟨#[]⟩, .slice none 0 0, .slice none 0 0] (by rfl) (by rfl) (World.news_of_block (cs := #[.int .i64 0, .string ⟨#[]⟩, .slice none 0 0, .slice none 0 0]) (t := 27) (fr := (0, 0)) (heap_alloc_new W5 _)) (by simp [Value.oneCell']) (by omega) (by unfold maxLen; omega) (by omega) (by simp; omega) (W5.heap.size + 1) (by simp) ?_; intro g cap w6 hown hgrow hat hltg; obtain ⟨q0, q1, q2, q3⟩ := row_cells4 hown HXL.out; obtain ⟨z1, z2, z3, z4⟩ := apart_g hat hIbv hIbx hbv5 hs5; have y0 := ((hgrow.cell_far ⟨w3.heap.size, 0, none⟩ (by simp; omega) (Ne.symm hIbx)).trans (World.cell?_alloc_old W5 _ ⟨w3.heap.size, 0, none⟩ (by show w3.heap.size ≠ _; omega))).trans hx0; have y1 := ((hgrow.cell_far ⟨w3.heap.size, 1, none⟩ (by simp; omega) (Ne.symm hIbx)).trans (World.cell?_alloc_old W5 _ ⟨w3.heap.size, 1, none⟩ (by show w3.heap.size ≠ _; omega))).trans hx1; have y2 := ((hgrow.cell_far ⟨w3.heap.size, 2, none⟩ (by simp; omega) (Ne.symm hIbx)).trans (World.cell?_alloc_old W5 _ ⟨w3.heap.size, 2, none⟩ (by show w3.heap.size ≠ _; omega))).trans hx2; have y3 := ((hgrow.cell_far ⟨w3.heap.size, 3, none⟩ (by simp; omega) (Ne.symm hIbx)).trans (World.cell?_alloc_old W5 _ ⟨w3.heap.size, 3, none⟩ (by show w3.heap.size ≠ _; omega))).trans hx3; have cbv := ((hgrow.cell_far ⟨bv, 2, none⟩ (by simp; omega) (Ne.symm hIbv)).trans (World.cell?_alloc_old W5 _ ⟨bv, 2, none⟩ (by show bv ≠ _; omega))).trans hcv; have pbv := ((hgrow.frozen_far ⟨bv, 2, none⟩ (by simp; omega) (Ne.symm hIbv)).trans (World.frozen?_alloc_old W5 _ ⟨bv, 2, none⟩ (by show bv ≠ _; omega))).trans hfv; have p0 := hown.frozenAt (m * 4); have p1 := hown.frozenAt (m * 4 + 1); have p2 := hown.frozenAt (m * 4 + 2); have p3 := hown.frozenAt (m * 4 + 3); have HN := Lib.hid hown; have HGR := Lib.hid hgrow; have HAT := Lib.hid hat; clear hown hgrow hat hltg)
    all_goals (go_wp2; go_ret)
    all_goals (
      have hc6 : Chg (fun k => (Value.slice ai m ci).ownBlock = some k) W5 w6 := (((Chg.refl _ W5).alloc _).drew).grown HGR.out (fun k hk => .inl hk)
      obtain ⟨PA, PB⟩ := item_put (k0 := 6) (a := .int .i64 k) (b := .string t0) (c := .slice x1 n1 c1) (d := .slice x2 n2 c2) (lo := w2.heap.size) (hi := w3.heap.size) (own := fun k => (Value.slice (some ⟨gk, 0, none⟩) (m + 1) capk).ownBlock = some k) (by omega) (Nat.le_trans hle C2.out.size) (by omega) I5.out (fun k hk => ⟨(HF.out k hk.1).1, fun e => by
          simp only [Value.ownBlock, Option.some.injEq] at e
          have := hk.2
          have := HS3.out
          rcases HA4.out with e4 | e4
          · exact (HF.out k hk.1).2.1 (by rw [← e]; exact e4)
          · rw [size_alloc] at e4; have := HSZ.out; omega, (HF.out k hk.1).2.2⟩) (by rw [List.length_map]; exact HM.out) (fun k hk => ⟨(HIL.out k hk).1, Nat.lt_of_lt_of_le (HIL.out k hk).2 C2.out.size⟩) (fun k hk e => HIG.out (by simp only [Value.ownBlock, Option.some.injEq] at hk; rw [hk]; exact e))
          (fun k hk => by simp only [Value.ownBlock, Option.some.injEq] at hk; have := GLO.out; have := C2.out.size; omega) (fun k hk => by simp only [Value.ownBlock, Option.some.injEq] at hk; omega) R5.out HN.out hc6 (by rcases HAT.out with e | e; exact .inl e; exact .inr (by omega))
      have FF := fun w' hP => FIN.out HXR.out w2 w3 W5 w' (.int .i64 k) (.string t0) (.slice x1 n1 c1) (.slice x2 n2 c2) ev (.slice ai m ci) (.slice (some ⟨g, 0, none⟩) (m + 1) cap) (.slice ak m ck) (.slice (some ⟨gk, 0, none⟩) (m + 1) capk) C2.out HSET.out HG.out.2 HG.out.1 C5.out (fun k hk => (HKL.out k hk).1) (fun k hk => (HIL.out k hk).1) hP (by rw [← HM.out]; exact K5.out)
        (fun k hk e => HIG.out (by simp only [Value.ownBlock, Option.some.injEq] at hk; rw [hk]; exact e)) (fun v hv => HoldsC.chg C5.out (fun k hk e => by
          have := C2.out.size
          rcases e with e | e
          · have := (HKL.out k e).2; omega
          · omega) v _ _ _ _ hv) ⟨_, _, _, rfl⟩ ⟨_, _, _, rfl⟩
      show saysA w1 q S r lev (fun k => k = q ∨ k = mp ∨ k = bv ∨ bL ≤ k) (StO bL br bm bv q mp) (WkV bv) R (.returned ev) _
      first
      | (with_reducible exact FF _ PA)
      | (with_reducible exact FF _ PB))
end Go.Proofs.YtafmokpplnmbgaaGreatDoor

/- Layer 11: an object. -/
namespace Go.Proofs.YtafmokpplnmbgaaGreatDoor
open Go.RowKit

theorem enter_object1 (args : Array Value) (w : World) : (callFunc 62 args).run Tryz.prog w = .ok (.enter 62 args) w := by kernel_rfl
theorem part_object {n lev bL br bm bv q mp : Nat} (V : ValOk n) (hlev : lev + 1 ≤ 16) (S : Bs) (hS : okS S) (hq : 10 ≤ q) (o1 : q < br) (o2 : br < bv) (o3 : bv < mp) (o4 : mp < bm) (o5 : bm < bL) :
    Part q S (lev + 1) (fun k => k = q ∨ k = mp ∨ k = bv ∨ bL ≤ k) (StO bL br bm bv q mp) (WkV bv) (fun acc r => acc.length + r.length ≤ 65536) 62 #[.pointer (some ⟨br, 0, none⟩), .pointer (some ⟨bm, 0, none⟩), .pointer (some ⟨bv, 0, none⟩)] (stepO n (valP n (lev + 1))) where
  enter := enter_object1
  weak := fun a w h => by
    obtain ⟨I, K, hr, hk, ⟨xs, F, ho, _, _⟩, _⟩ := h.row
    obtain ⟨x, c, rfl⟩ := owns_form ho
    obtain ⟨x, c, rfl⟩ := owns_form hk
    exact ⟨_, _, _, _, _, _, _, _, hr⟩
  kept := fun a w1 w2 h hc => h.kept o1 o2 o3 o4 o5 hc
  own := .inl rfl
  env := fun k hk => by omega
  sub := fun a r x hs hB => by have := hs.length_le; omega
  go := fun a r a' x hB hs => by
    unfold stepO at hs
    cases hk : keyP n (a.map (·.1)) r with
    | none => rw [hk] at hs; cases hs
    | some K =>
      rw [hk] at hs
      cases K with
      | bad code y => cases hs
      | ok t y =>
        have h1 := (key_ok hk).2.2
        cases hv : valP n (lev + 1) y with
        | none => simp only [hv] at hs; cases hs
        | some Q =>
          simp only [hv] at hs
          cases Q with
          | bad code z => cases hs
          | ok v z =>
            have hlt := (val_ok n (lev + 1) y v z hlev hv).2.2
            cases hs
            rw [List.length_append, List.length_singleton]
            omega
  call := fun a r R w1 hE h hst hB hs => object1_any V hlev S hS hq o1 o2 o3 o4 o5 a r R w1 hE h hst hB hs
theorem keys_holds {w : World} {bL n : Nat} {K : Value} {keys : List Bs} (h : w.ownsRow bL 9 1 K n (keysV keys)) (hn : n = keys.length) : HoldsK w (fun k => bL ≤ k ∧ k < w.heap.size) keys K := by
  subst hn
  have hl := h.lt
  rcases h.2 with ⟨hv, hn⟩ | ⟨g, cap, cur, hv, hb, _⟩
  · exact .inl ⟨hv, List.eq_nil_of_length_eq_zero hn⟩
  · refine .inr ⟨⟨g, 0, none⟩, cap, hv, fun i hi => ⟨⟨hb, (hl g (by rw [hv]; rfl)).2⟩, ?_⟩⟩
    have := h.cells (g := g) (by rw [hv]; rfl) i (.string (str (keys.getD i []))) (by
      unfold keysV
      rw [List.getElem?_map, List.getElem?_eq_getElem hi, List.getD_eq_getElem?_getD, List.getElem?_eq_getElem hi]
      rfl)
    simpa [Addr.add] using this
theorem object_parts {n lev q bL br bm bv mp res : Nat} {w w1 : World} {S l : Bs} {R : Res JV} (V : ValOk n) (hS : okS S) (hE : Env w1) (hq : 10 ≤ q) (hqw : q < w.heap.size) (h : RdAt w1 q S l lev) (hlev : lev ≤ 16) (hne : l ≠ [])
    (hC : Chg (· = q) w w1) (hbr : w.heap.size ≤ br) (o2 : br < bv) (o3 : bv < mp) (o4 : mp < bm) (o5 : bm < bL) (hres : w.heap.size ≤ res) (hn3 : res ≠ bv) (hn4 : res ≠ mp) (hn5 : res < bL) (hbL : w1.heap.size = bL)
    (hB : rowC w1 br #[.pointer (some ⟨q, 0, none⟩)] 56) (hM : rowC w1 bm #[.map (some mp)] 124) (hSet : SetM w1 mp []) (hV : rowC w1 bv #[.int .i64 6, .string ⟨#[]⟩, .slice none 0 0, .slice none 0 0] 27) (hZ : rowC w1 res zeroV4 27)
    (hR : (if lev = 16 then some (.bad 11 l) else (partsP 125 (stepO n (valP n (lev + 1))) n true [] l.tail).map (Res.map mkO)) = some R) :
    Calls Tryz.prog 60 #[.pointer (some ⟨q, 0, none⟩), .int .u8 125, .func (.func 62) #[] #[.pointer (some ⟨br, 0, none⟩), .pointer (some ⟨bm, 0, none⟩), .pointer (some ⟨bv, 0, none⟩)]] w1 fun e w3 => boxed w bv res q S l lev R e w3 := by
  by_cases h16 : lev = 16
  · rw [if_pos h16, Option.some.injEq] at hR
    subst h16
    refine (parts_deep h).mono ?_
    rintro e w2 ⟨rfl, rfl⟩
    refine ⟨6, ⟨#[]⟩, none, 0, 0, none, 0, 0, _, rfl, Lib.hid ⟨hV, hZ, fun w' hc => ?_⟩⟩
    exact saysV_bad hR.symm ⟨_, _, _, _, _, _, _, _, rfl⟩ ⟨⟨l, 16, h.chg hc (by omega), List.suffix_refl _⟩, hC.trans hc (fun k hk e => by omega)⟩
  · rw [if_neg h16] at hR
    cases hp : partsP 125 (stepO n (valP n (lev + 1))) n true [] l.tail with
    | none => rw [hp] at hR; cases hR
    | some Q =>
      rw [hp] at hR
      have hR' : R = Res.map mkO Q := (Option.some.inj hR).symm
      have hl := h.suf.length_le
      have hSS := hS
      unfold okS at hSS
      have P := part_object (lev := lev) (br := br) (bm := bm) (bv := bv) (bL := bL) (q := q) (mp := mp) V (by omega) S hS hq (by omega) o2 o3 o4 o5
      refine (parts_any (a := ([] : List (Bs × JV))) hS hE hq h (by omega) hne (.inr rfl) 125 rfl P ⟨by omega, hB, hM, hSet, _, _, hV, World.ownsRow_nil _ _ _ _, RowJ.nil _ _ _⟩ (show [].length + l.tail.length ≤ 65536 by rw [List.length_tail]; simp; omega) hp).mono ?_
      intro e w3 hA
      cases Q with
      | bad code x =>
        obtain ⟨rfl, ⟨y, l2, h2, hs⟩, hc, ⟨k, t, x1, n1, c1, x2, n2, c2, hrow⟩⟩ := hA
        refine ⟨k, t, x1, n1, c1, x2, n2, c2, _, rfl, Lib.hid ⟨hrow, hc.rowC hZ (by omega), fun w' hc' => ?_⟩⟩
        exact saysV_bad hR' ⟨_, _, _, _, _, _, _, _, rfl⟩ ⟨⟨y, l2, h2.chg hc' (by omega), hs⟩, (hC.trans hc (fun k hk e => by omega)).trans hc' (fun k hk e => by omega)⟩
      | ok acc x =>
        obtain ⟨rfl, h2, hst, hc, hs⟩ := hA
        obtain ⟨I, K, hr, hk, hj⟩ := hst.row
        obtain ⟨ai, ci, rfl⟩ := owns_form hj.ex.choose_spec.choose_spec.1
        obtain ⟨ak, ck, rfl⟩ := owns_form hk
        refine ⟨6, ⟨#[]⟩, ai, _, ci, ak, _, ck, _, rfl, Lib.hid ⟨hr, hc.rowC hZ (by omega), fun w' hc' => ?_⟩⟩
        have hj' := (hj.chg hc' (fun k hk => .inl (by omega))).holds
        have hk' := keys_holds (hc'.owns hk (fun g hg e => by have := (hk.lt g hg).1; omega)) (keys := acc.map (·.1)) (by rw [List.length_map])
        refine saysV_ok hR' ⟨_, _, _, _, rfl, ?_⟩ ⟨h2.chg hc' (by omega), (hC.trans hc (fun k hk e => by omega)).trans hc' (fun k hk e => by omega)⟩
        unfold mkO
        rw [HoldsC]
        refine ⟨rfl, rfl, by simp, hk'.mono (fun k hk hlt => ⟨by have := hC.size; omega, hlt⟩), ?_⟩
        rcases hj' with ⟨h5, h6⟩ | ⟨ad, cap, h5, h6⟩
        · exact .inl ⟨h5, h6⟩
        · exact .inr ⟨ad, cap, h5, HoldsR.mono (fun k hk hlt => ⟨by have := hC.size; omega, hlt⟩) _ _ _ h6⟩
set_option maxRecDepth 100000 in
set_option maxHeartbeats 4000000 in
theorem object_any {n lev q : Nat} {w : World} {S l : Bs} {R : Res JV} (V : ValOk n) (hS : okS S) (hE : Env w) (hq : 10 ≤ q) (h : RdAt w q S l lev) (hlev : lev ≤ 16) (hne : l ≠ [])
    (hR : (if lev = 16 then some (.bad 11 l) else (partsP 125 (stepO n (valP n (lev + 1))) n true [] l.tail).map (Res.map mkO)) = some R) :
    Calls Tryz.prog 45 #[.pointer (some ⟨q, 0, none⟩)] w fun e w' => saysV w q S l lev R e w' := by
  have hqw := h.lt
  obtain ⟨W0, hW0⟩ : ∃ W0, W0 = ((w.alloc (.cells #[.pointer (some ⟨q, 0, none⟩)] 56)).alloc (.cells #[.int .i64 0, .string ⟨#[]⟩, .slice none 0 0, .slice none 0 0] 27)).alloc (.cells #[.int .i64 6, .string ⟨#[]⟩, .slice none 0 0, .slice none 0 0] 27) := ⟨_, rfl⟩
  have hs0 : W0.heap.size = w.heap.size + 1 + 1 + 1 := by rw [hW0]; simp
  obtain ⟨W1, hW1⟩ : ∃ W1, W1 = (W0.alloc (.map #[] 0)).alloc (.cells #[.map (some (w.heap.size + 1 + 1 + 1))] 124) := ⟨_, rfl⟩
  have hs1 : W1.heap.size = w.heap.size + 1 + 1 + 1 + 1 + 1 := by rw [hW1]; simp [hs0]
  have A0 : Chg (fun _ => False) w W1 := by rw [hW1, hW0]; exact (((((Chg.refl _ w).alloc _).alloc _).alloc _).alloc _).alloc _
  have B0 : rowC W1 w.heap.size #[.pointer (some ⟨q, 0, none⟩)] 56 := by rw [hW1, hW0]; exact rowC_alloc (rowC_alloc (rowC_alloc (rowC_alloc (rowC_new w _ _) _) _) _) _
  have R0 : rowC W1 (w.heap.size + 1) zeroV4 27 := by
    rw [hW1, hW0, ← size_alloc w (.cells #[.pointer (some ⟨q, 0, none⟩)] 56)]
    exact rowC_alloc (rowC_alloc (rowC_alloc (rowC_new _ _ _) _) _) _
  have V0' : rowC W0 (w.heap.size + 1 + 1) #[.int .i64 6, .string ⟨#[]⟩, .slice none 0 0, .slice none 0 0] 27 := by
    rw [hW0, ← size_alloc w (.cells #[.pointer (some ⟨q, 0, none⟩)] 56), ← size_alloc (w.alloc _) (.cells #[.int .i64 0, .string ⟨#[]⟩, .slice none 0 0, .slice none 0 0] 27)]
    exact rowC_new _ _ _
  have V0 : rowC W1 (w.heap.size + 1 + 1) #[.int .i64 6, .string ⟨#[]⟩, .slice none 0 0, .slice none 0 0] 27 := by rw [hW1]; exact rowC_alloc (rowC_alloc V0' _) _
  have S0 : SetM W1 (w.heap.size + 1 + 1 + 1) [] := by
    rw [hW1, ← hs0]
    exact World.ownsMap.alloc (World.ownsMap_made W0 _ _ _) _
  have M0 : rowC W1 (w.heap.size + 1 + 1 + 1 + 1) #[.map (some (w.heap.size + 1 + 1 + 1))] 124 := by
    rw [hW1, ← hs0, ← size_alloc W0 (.map #[] 0)]
    exact rowC_new _ _ _
  have E0 : Env W1 := hE.chg A0 (fun _ _ => id)
  have H0 : RdAt W1 q S l lev := h.chg A0 (fun e => e)
  have C := object_parts (bL := W1.heap.size) V hS E0 hq hqw H0 hlev hne (A0.mono (fun k _ hk => hk.elim)) (br := w.heap.size) (bv := w.heap.size + 1 + 1) (mp := w.heap.size + 1 + 1 + 1) (bm := w.heap.size + 1 + 1 + 1 + 1) (res := w.heap.size + 1) (Nat.le_refl _) (by omega) (by omega) (by omega) (by omega) (by omega) (by omega) (by omega) (by omega) rfl B0 M0 S0 V0 R0 hR
  have HW0 := Lib.hid hW0
  have HW1 := Lib.hid hW1
  have HI := Lib.hid info_V
  have c0 := rowC_cell B0 0
  have HS0 := Lib.hid hs0
  have hmm := @run_makeMap Tryz.prog
  clear hR hW0 hW1 A0 B0 R0 V0' V0 S0 M0 E0 H0 hs0 hs1 h hE
  go_enter Tryz.func45, Tryz.ntmps45
  go_upto_region 2 with (fail)
  rw [← HW0.out]
  go_upto_region 3 with (fail)
  rw [HS0.out, ← HW1.out]
  go_wp2_with (first
    | (go_at_call 60; ((with_reducible refine C.mono ?_); rintro e w3 ⟨k, t, x1, n1, c1, x2, n2, c2, ev, rfl, HB⟩))
    | ((with_reducible show wpList _ _ _ (⟨some 12, .load _ (.tmp 4), _, _, _, _⟩ :: _) _ _); refine wpList_load_row rfl 27 _ rfl (w.heap.size + 1 + 1) rfl 27 (row4 k t x1 n1 c1 x2 n2 c2) (0, 0) _ HB.out.1 Tryz.underlying27 rfl HI.out ?_)
    | ((with_reducible show wpList _ _ _ (⟨none, .store _ (.tmp 2) _, _, _, _, _⟩ :: _) _ _); refine wpList_store_row rfl 27 _ _ rfl (w.heap.size + 1) (row4 k t x1 n1 c1 x2 n2 c2) rfl rfl 27 zeroV4 HB.out.2.1 HI.out rfl (row4_all _ _ _ _ _ _ _ _) ?_))
  refine bodyPost_ret (results_row_tmp rfl _ _ (w.heap.size + 1) 27 (row4 k t x1 n1 c1 x2 n2 c2) _ rfl (rowC_setRow HB.out.2.1 _) Tryz.underlying27 rfl HI.out ev rfl) rfl ?_
  exact HB.out.2.2 _ ((Chg.refl _ _).setRow _ _ (.inl rfl))
end Go.Proofs.YtafmokpplnmbgaaGreatDoor

/- Layer 11: a value. -/
namespace Go.Proofs.YtafmokpplnmbgaaGreatDoor
open Go.RowKit

theorem clone_any (s : ByteArray) (w : World) (hlim : s.size ≤ 281474976710656) : Calls Tryz.prog 47 #[.string s] w fun e w' => e = .returned (.string s) ∧ Below w.heap.size w w' := by
  have C := Tryz.stringslite_Clone s w hlim
  go_enter Tryz.func47, Tryz.ntmps47
  go_wp2_with (go_at_call 65; ((with_reducible refine C.mono ?_); rintro e w2 ⟨rfl, hb⟩))
  go_ret
  exact ⟨rfl, hb⟩
/-- Four cells and an error, ready for the end of the walk; res: the result's cell. -/
def readyV (w : World) (res q : Nat) (S l : Bs) (lev : Nat) (R : Res JV) (e : Ending) (w3 : World) : Prop :=
  ∃ (k : Int) (t : ByteArray) (x1 : Option Addr) (n1 c1 : Nat) (x2 : Option Addr) (n2 c2 : Nat) (ev : Value), e = .returned (.tuple #[.agg (row4 k t x1 n1 c1 x2 n2 c2), ev]) ∧ Hid (rowC w3 res zeroV4 27 ∧
    ∀ w', Chg (· = res) w3 w' → saysV w q S l lev R (.returned (.tuple #[.agg (row4 k t x1 n1 c1 x2 n2 c2), ev])) w')
theorem readyV_of {w w2 w3 : World} {res q lev : Nat} {S l d : Bs} {R : Res JV} {e : Ending} (hc : Chg (· = q) w w2) (hqw : q < w.heap.size) (hres : w.heap.size ≤ res) (hZ : rowC w2 res zeroV4 27) (hs : d <:+ l) (h : saysV w2 q S d lev R e w3) : readyV w res q S l lev R e w3 := by
  have lres := rowC_lt hZ
  have hsz := hc.size
  cases R with
  | ok v x =>
    obtain ⟨V, rfl, ⟨a, b, c, d, rfl, h2⟩, h3⟩ := h
    obtain ⟨rfl, rfl, ⟨x, cap, rfl⟩, y, cap', rfl⟩ := h2.form
    refine ⟨_, _, _, _, _, _, _, _, _, rfl, Lib.hid ⟨h3.2.rowC hZ (by omega), fun w' hc' => ?_⟩⟩
    refine ⟨_, rfl, ⟨_, _, _, _, rfl, ?_⟩, h3.1.chg hc' (by omega), (hc.two h3.2).trans hc' (fun k hk e => by omega)⟩
    exact HoldsC.mono (fun k hk hlt => ⟨by omega, hlt⟩) _ _ _ _ _ (HoldsC.chg hc' (fun k hk e => by omega) _ _ _ _ _ h2)
  | bad code x =>
    obtain ⟨V, rfl, ⟨k, t, x1, n1, c1, x2, n2, c2, rfl⟩, ⟨y, l2, h2, hs2⟩, h3⟩ := h
    exact ⟨_, _, _, _, _, _, _, _, _, rfl, Lib.hid ⟨h3.rowC hZ (by omega), fun w' hc' => ⟨_, rfl, ⟨_, _, _, _, _, _, _, _, rfl⟩, ⟨y, l2, h2.chg hc' (by omega), hs2.trans hs⟩, (hc.two h3).trans hc' (fun k hk e => by omega)⟩⟩⟩
/-- A text and an error, likewise. -/
def readyT (w : World) (res q : Nat) (S l : Bs) (lev : Nat) (R : Res JV) (e : Ending) (w3 : World) : Prop :=
  ∃ (t : ByteArray) (ev : Value), e = .returned (.tuple #[.string t, ev]) ∧ Hid (rowC w3 res zeroV4 27 ∧
    ∀ w', Chg (· = res) w3 w' → saysV w q S l lev R (.returned (.tuple #[.agg (row4 4 t none 0 0 none 0 0), ev])) w')
theorem readyT_of {w w2 w3 : World} {res q lev : Nat} {S l d : Bs} {Q : Res Bs} {R : Res JV} {e : Ending} (hS : okS S) (hR : R = Res.map (fun t => .mk 4 t [] []) Q) (hc : Chg (· = q) w w2) (hqw : q < w.heap.size) (hres : w.heap.size ≤ res) (hZ : rowC w2 res zeroV4 27) (hs : d <:+ l) (h : saysT w2 q S d lev Q e w3) : readyT w res q S l lev R e w3 := by
  have lres := rowC_lt hZ
  have hsz := hc.size
  have hSS := hS
  unfold okS at hSS
  cases Q with
  | ok t x =>
    obtain ⟨rfl, hl, h3⟩ := h
    refine ⟨_, _, rfl, Lib.hid ⟨h3.2.rowC hZ (by omega), fun w' hc' => ?_⟩⟩
    exact saysV_ok hR (holds_text _ _ 4 (by omega)) ⟨h3.1.chg hc' (by omega), (hc.two h3.2).trans hc' (fun k hk e => by omega)⟩
  | bad code x =>
    obtain ⟨rfl, ⟨y, l2, h2, hs2⟩, h3⟩ := h
    exact ⟨_, _, rfl, Lib.hid ⟨h3.rowC hZ (by omega), fun w' hc' => saysV_bad hR ⟨_, _, _, _, _, _, _, _, rfl⟩ ⟨⟨y, l2, h2.chg hc' (by omega), hs2.trans hs⟩, (hc.two h3).trans hc' (fun k hk e => by omega)⟩⟩⟩
/-- An error alone, behind a number. -/
def readyN (w : World) (res q : Nat) (S l d : Bs) (lev : Nat) (R : Res JV) (e : Ending) (w3 : World) : Prop :=
  ∃ (ev : Value) (y : Bs) (l2 : Nat), e = .returned ev ∧ RdAt w3 q S y l2 ∧ y <:+ d ∧ Hid (rowC w3 res zeroV4 27 ∧
    ∀ w', Chg (· = res) w3 w' → saysV w q S l lev R (.returned (.tuple #[.agg (row4 3 (str (d.take (d.length - y.length))) none 0 0 none 0 0), ev])) w')
theorem num_suf {d x : Bs} (h : numP d = .ok () x) : x <:+ d := by
  obtain ⟨u, h1, _⟩ := num_pre h
  exact ⟨u, h1.symm⟩
theorem readyN_of {w w2 w3 : World} {res q lev : Nat} {S l d : Bs} {R : Res JV} {e : Ending} (hS : okS S) (hR : R = mkN d) (hc : Chg (· = q) w w2) (hqw : q < w.heap.size) (hres : w.heap.size ≤ res) (hZ : rowC w2 res zeroV4 27) (hs : d <:+ l) (hl : d <:+ S) (h : saysU w2 q S d lev (numP d) e w3) : readyN w res q S l d lev R e w3 := by
  have lres := rowC_lt hZ
  have hsz := hc.size
  have hSS := hS
  unfold okS at hSS
  have hdl := hl.length_le
  unfold mkN at hR
  cases hn : numP d with
  | ok u x =>
    rw [hn] at hR h
    obtain ⟨rfl, h3⟩ := h
    refine ⟨_, x, lev, rfl, h3.1, num_suf hn, Lib.hid ⟨h3.2.rowC hZ (by omega), fun w' hc' => ?_⟩⟩
    exact saysV_ok hR (holds_text _ _ 3 (by rw [List.length_take]; omega)) ⟨h3.1.chg hc' (by omega), (hc.two h3.2).trans hc' (fun k hk e => by omega)⟩
  | bad code x =>
    rw [hn] at hR h
    obtain ⟨rfl, ⟨y, l2, h2, hs2⟩, h3⟩ := h
    exact ⟨_, y, l2, rfl, h2, hs2, Lib.hid ⟨h3.rowC hZ (by omega), fun w' hc' => saysV_bad hR ⟨_, _, _, _, _, _, _, _, rfl⟩ ⟨⟨y, l2, h2.chg hc' (by omega), hs2.trans hs⟩, (hc.two h3).trans hc' (fun k hk e => by omega)⟩⟩⟩
/-- What was read of a text. -/
theorem part_text {S d y : Bs} (h : d <:+ S) (hy : y <:+ d) : (str S).extract (S.length - d.length) (S.length - y.length) = str (d.take (d.length - y.length)) := by
  obtain ⟨p, rfl⟩ := h
  obtain ⟨u, rfl⟩ := hy
  refine bytes_toList ?_
  rw [show (p ++ (u ++ y)).length - (u ++ y).length = p.length by simp, show (p ++ (u ++ y)).length - y.length = p.length + u.length by simp; omega, show (u ++ y).length - y.length = u.length by simp]
  simp [str, ByteArray.data_extract]
end Go.Proofs.YtafmokpplnmbgaaGreatDoor

/- Layer 11: a value's reading, by what stands first. -/
namespace Go.Proofs.YtafmokpplnmbgaaGreatDoor
open Go.RowKit

theorem value_zero : ValOk 0 := fun w q S l lev R hS hE hq h hlev hv => by cases hv
theorem u8_is {a b : UInt8} (h : a = b) : (a.toNat : Int) = (b.toNat : Int) := by rw [h]
set_option maxRecDepth 100000 in
set_option maxHeartbeats 8000000 in
theorem value_succ {n : Nat} (V : ValOk n) : ValOk (n + 1) := by
  intro w q S l lev R hS hE hq h hlev hv
  have hv' : valB n lev (valP n (lev + 1)) (dropB l) = some R := hv
  have hqw := h.lt
  obtain ⟨W0, hW0⟩ : ∃ W0, W0 = w.alloc (.cells #[.int .i64 0, .string ⟨#[]⟩, .slice none 0 0, .slice none 0 0] 27) := ⟨_, rfl⟩
  have R0 : rowC W0 w.heap.size zeroV4 27 := by rw [hW0]; exact rowC_new w _ _
  have A0 : Chg (· = q) w W0 := by rw [hW0]; exact (Chg.refl _ w).alloc _
  have E0 : Env W0 := hE.q A0 hq
  have H0 : RdAt W0 q S l lev := by rw [hW0]; exact h.below ((Below.refl _ _).alloc (Nat.le_refl _) _)
  have hB := blanks_any H0 hS.T
  have HSf := Lib.hid (dropB_suf l)
  have hls := h.suf
  generalize dropB l = d at hv' hB HSf
  have hds := HSf.out.trans hls
  have HN := fun w1 (h1 : RdAt w1 q S d lev) => next_any h1
  have HR0 := Lib.hid R0
  have HA0 := Lib.hid A0
  have HE0 := Lib.hid E0
  have HW0 := Lib.hid hW0
  have HI := Lib.hid info_V
  unfold valB at hv'
  clear hW0 R0 A0 E0 H0 hE h hv
  by_cases e110 : hd d = 110
  · rw [if_pos e110, Option.some.injEq] at hv'
    have hb : ((hd d).toNat : Int) = 110 := u8_is e110
    clear e110
    subst hv'
    have C := fun (n' : Nat) (w1 : World) (h1 : RdAt w1 q S d lev) (c1 : Chg (· = q) W0 w1) => (show Calls Tryz.prog 42 #[.pointer (some ⟨q, 0, none⟩), .int .i64 0] (w1.drewN n') (fun e w3 => readyV w w.heap.size q S l lev _ e w3) from (word_any hS.T ((HE0.out.q c1 hq).drewN n') hq (⟨h1.row, h1.suf⟩ : RdAt (w1.drewN n') q S d lev) 0 (by decide)).mono (fun e w3 hh => readyV_of (HA0.out.two (c1.drewN n')) hqw (Nat.le_refl _) ((c1.drewN n').rowC HR0.out (by omega)) HSf.out hh))
    go_enter Tryz.func25, Tryz.ntmps25
    go_upto_region 1 with (fail)
    rw [← HW0.out]
    go_wp2_with (first
      | (go_at_call 26; ((with_reducible refine hB.mono ?_); rintro e w1 ⟨rfl, h1, c1⟩))
      | (go_at_call 41; ((with_reducible refine (HN _ h1).mono ?_); rintro e w2 ⟨rfl, n', rfl⟩; have CC := C n' w1 h1 c1; clear h1; rw [hb]))
      | (go_at_call 42; ((with_reducible refine CC.mono ?_); rintro e w3 ⟨k, t, x1, n1, c1', x2, n2, c2', ev, rfl, HB⟩))
      | ((with_reducible show wpList _ _ _ (⟨none, .store _ (.tmp 2) _, _, _, _, _⟩ :: _) _ _); refine wpList_store_row rfl 27 _ _ rfl w.heap.size (row4 k t x1 n1 c1' x2 n2 c2') rfl rfl 27 zeroV4 HB.out.1 HI.out rfl (row4_all _ _ _ _ _ _ _ _) ?_))
    refine bodyPost_ret (results_row_tmp rfl _ _ w.heap.size 27 (row4 k t x1 n1 c1' x2 n2 c2') _ rfl (rowC_setRow HB.out.1 _) Tryz.underlying27 rfl HI.out ev rfl) rfl ?_
    exact HB.out.2 _ ((Chg.refl _ _).setRow _ _ (.inl rfl))
  rw [if_neg e110] at hv'
  by_cases e102 : hd d = 102
  · rw [if_pos e102, Option.some.injEq] at hv'
    have hb : ((hd d).toNat : Int) = 102 := u8_is e102
    clear e102
    subst hv'
    have C := fun (n' : Nat) (w1 : World) (h1 : RdAt w1 q S d lev) (c1 : Chg (· = q) W0 w1) => (show Calls Tryz.prog 42 #[.pointer (some ⟨q, 0, none⟩), .int .i64 1] (w1.drewN n') (fun e w3 => readyV w w.heap.size q S l lev _ e w3) from (word_any hS.T ((HE0.out.q c1 hq).drewN n') hq (⟨h1.row, h1.suf⟩ : RdAt (w1.drewN n') q S d lev) 1 (by decide)).mono (fun e w3 hh => readyV_of (HA0.out.two (c1.drewN n')) hqw (Nat.le_refl _) ((c1.drewN n').rowC HR0.out (by omega)) HSf.out hh))
    go_enter Tryz.func25, Tryz.ntmps25
    go_upto_region 1 with (fail)
    rw [← HW0.out]
    go_wp2_with (first
      | (go_at_call 26; ((with_reducible refine hB.mono ?_); rintro e w1 ⟨rfl, h1, c1⟩))
      | (go_at_call 41; ((with_reducible refine (HN _ h1).mono ?_); rintro e w2 ⟨rfl, n', rfl⟩; have CC := C n' w1 h1 c1; clear h1; rw [hb]))
      | (go_at_call 42; ((with_reducible refine CC.mono ?_); rintro e w3 ⟨k, t, x1, n1, c1', x2, n2, c2', ev, rfl, HB⟩))
      | ((with_reducible show wpList _ _ _ (⟨none, .store _ (.tmp 2) _, _, _, _, _⟩ :: _) _ _); refine wpList_store_row rfl 27 _ _ rfl w.heap.size (row4 k t x1 n1 c1' x2 n2 c2') rfl rfl 27 zeroV4 HB.out.1 HI.out rfl (row4_all _ _ _ _ _ _ _ _) ?_))
    refine bodyPost_ret (results_row_tmp rfl _ _ w.heap.size 27 (row4 k t x1 n1 c1' x2 n2 c2') _ rfl (rowC_setRow HB.out.1 _) Tryz.underlying27 rfl HI.out ev rfl) rfl ?_
    exact HB.out.2 _ ((Chg.refl _ _).setRow _ _ (.inl rfl))
  rw [if_neg e102] at hv'
  by_cases e116 : hd d = 116
  · rw [if_pos e116, Option.some.injEq] at hv'
    have hb : ((hd d).toNat : Int) = 116 := u8_is e116
    clear e116
    subst hv'
    have C := fun (n' : Nat) (w1 : World) (h1 : RdAt w1 q S d lev) (c1 : Chg (· = q) W0 w1) => (show Calls Tryz.prog 42 #[.pointer (some ⟨q, 0, none⟩), .int .i64 2] (w1.drewN n') (fun e w3 => readyV w w.heap.size q S l lev _ e w3) from (word_any hS.T ((HE0.out.q c1 hq).drewN n') hq (⟨h1.row, h1.suf⟩ : RdAt (w1.drewN n') q S d lev) 2 (by decide)).mono (fun e w3 hh => readyV_of (HA0.out.two (c1.drewN n')) hqw (Nat.le_refl _) ((c1.drewN n').rowC HR0.out (by omega)) HSf.out hh))
    go_enter Tryz.func25, Tryz.ntmps25
    go_upto_region 1 with (fail)
    rw [← HW0.out]
    go_wp2_with (first
      | (go_at_call 26; ((with_reducible refine hB.mono ?_); rintro e w1 ⟨rfl, h1, c1⟩))
      | (go_at_call 41; ((with_reducible refine (HN _ h1).mono ?_); rintro e w2 ⟨rfl, n', rfl⟩; have CC := C n' w1 h1 c1; clear h1; rw [hb]))
      | (go_at_call 42; ((with_reducible refine CC.mono ?_); rintro e w3 ⟨k, t, x1, n1, c1', x2, n2, c2', ev, rfl, HB⟩))
      | ((with_reducible show wpList _ _ _ (⟨none, .store _ (.tmp 2) _, _, _, _, _⟩ :: _) _ _); refine wpList_store_row rfl 27 _ _ rfl w.heap.size (row4 k t x1 n1 c1' x2 n2 c2') rfl rfl 27 zeroV4 HB.out.1 HI.out rfl (row4_all _ _ _ _ _ _ _ _) ?_))
    refine bodyPost_ret (results_row_tmp rfl _ _ w.heap.size 27 (row4 k t x1 n1 c1' x2 n2 c2') _ rfl (rowC_setRow HB.out.1 _) Tryz.underlying27 rfl HI.out ev rfl) rfl ?_
    exact HB.out.2 _ ((Chg.refl _ _).setRow _ _ (.inl rfl))
  rw [if_neg e116] at hv'
  by_cases e34 : hd d = 34
  · rw [if_pos e34] at hv'
    have hb : ((hd d).toNat : Int) = 34 := u8_is e34
    clear e34
    cases hq0 : quoP n d with
    | none => rw [hq0] at hv'; cases hv'
    | some Q =>
    rw [hq0] at hv'
    have hR := (Option.some.inj hv').symm
    have C := fun (n' : Nat) (w1 : World) (h1 : RdAt w1 q S d lev) (c1 : Chg (· = q) W0 w1) => (show Calls Tryz.prog 43 #[.pointer (some ⟨q, 0, none⟩)] (w1.drewN n') (fun e w3 => readyT w w.heap.size q S l lev R e w3) from (quoted_any hS ((HE0.out.q c1 hq).drewN n') hq (⟨h1.row, h1.suf⟩ : RdAt (w1.drewN n') q S d lev) hq0).mono (fun e w3 hh => readyT_of hS hR (HA0.out.two (c1.drewN n')) hqw (Nat.le_refl _) ((c1.drewN n').rowC HR0.out (by omega)) HSf.out hh))
    clear hR hq0
    go_enter Tryz.func25, Tryz.ntmps25
    go_upto_region 1 with (fail)
    rw [← HW0.out]
    go_wp2_with (first
      | (go_at_call 26; ((with_reducible refine hB.mono ?_); rintro e w1 ⟨rfl, h1, c1⟩))
      | (go_at_call 41; ((with_reducible refine (HN _ h1).mono ?_); rintro e w2 ⟨rfl, n', rfl⟩; have CC := C n' w1 h1 c1; clear h1; rw [hb]))
      | (go_at_call 43; ((with_reducible refine CC.mono ?_); rintro e w3 ⟨t, ev, rfl, HB⟩))
      | ((with_reducible show wpList _ _ _ (⟨none, .store _ (.tmp 2) _, _, _, _, _⟩ :: _) _ _); refine wpList_store_row rfl 27 _ _ rfl w.heap.size (row4 4 t none 0 0 none 0 0) rfl rfl 27 zeroV4 HB.out.1 HI.out rfl (row4_all _ _ _ _ _ _ _ _) ?_))
    refine bodyPost_ret (results_row_tmp rfl _ _ w.heap.size 27 (row4 4 t none 0 0 none 0 0) _ rfl (rowC_setRow HB.out.1 _) Tryz.underlying27 rfl HI.out ev rfl) rfl ?_
    exact HB.out.2 _ ((Chg.refl _ _).setRow _ _ (.inl rfl))
  rw [if_neg e34] at hv'
  by_cases e91 : hd d = 91
  · rw [if_pos e91] at hv'
    have hb : ((hd d).toNat : Int) = 91 := u8_is e91
    have hne : d ≠ [] := by rintro rfl; exact absurd e91 (by decide)
    have C := fun (n' : Nat) (w1 : World) (h1 : RdAt w1 q S d lev) (c1 : Chg (· = q) W0 w1) => (show Calls Tryz.prog 44 #[.pointer (some ⟨q, 0, none⟩)] (w1.drewN n') (fun e w3 => readyV w w.heap.size q S l lev R e w3) from (list_any V hS ((HE0.out.q c1 hq).drewN n') hq (⟨h1.row, h1.suf⟩ : RdAt (w1.drewN n') q S d lev) hlev hne hv').mono (fun e w3 hh => readyV_of (HA0.out.two (c1.drewN n')) hqw (Nat.le_refl _) ((c1.drewN n').rowC HR0.out (by omega)) HSf.out hh))
    go_enter Tryz.func25, Tryz.ntmps25
    go_upto_region 1 with (fail)
    rw [← HW0.out]
    go_wp2_with (first
      | (go_at_call 26; ((with_reducible refine hB.mono ?_); rintro e w1 ⟨rfl, h1, c1⟩))
      | (go_at_call 41; ((with_reducible refine (HN _ h1).mono ?_); rintro e w2 ⟨rfl, n', rfl⟩; have CC := C n' w1 h1 c1; clear h1; rw [hb]))
      | (go_at_call 44; ((with_reducible refine CC.mono ?_); rintro e w3 ⟨k, t, x1, n1, c1', x2, n2, c2', ev, rfl, HB⟩))
      | ((with_reducible show wpList _ _ _ (⟨none, .store _ (.tmp 2) _, _, _, _, _⟩ :: _) _ _); refine wpList_store_row rfl 27 _ _ rfl w.heap.size (row4 k t x1 n1 c1' x2 n2 c2') rfl rfl 27 zeroV4 HB.out.1 HI.out rfl (row4_all _ _ _ _ _ _ _ _) ?_))
    refine bodyPost_ret (results_row_tmp rfl _ _ w.heap.size 27 (row4 k t x1 n1 c1' x2 n2 c2') _ rfl (rowC_setRow HB.out.1 _) Tryz.underlying27 rfl HI.out ev rfl) rfl ?_
    exact HB.out.2 _ ((Chg.refl _ _).setRow _ _ (.inl rfl))
  rw [if_neg e91] at hv'
  by_cases e123 : hd d = 123
  · rw [if_pos e123] at hv'
    have hb : ((hd d).toNat : Int) = 123 := u8_is e123
    have hne : d ≠ [] := by rintro rfl; exact absurd e123 (by decide)
    have C := fun (n' : Nat) (w1 : World) (h1 : RdAt w1 q S d lev) (c1 : Chg (· = q) W0 w1) => (show Calls Tryz.prog 45 #[.pointer (some ⟨q, 0, none⟩)] (w1.drewN n') (fun e w3 => readyV w w.heap.size q S l lev R e w3) from (object_any V hS ((HE0.out.q c1 hq).drewN n') hq (⟨h1.row, h1.suf⟩ : RdAt (w1.drewN n') q S d lev) hlev hne hv').mono (fun e w3 hh => readyV_of (HA0.out.two (c1.drewN n')) hqw (Nat.le_refl _) ((c1.drewN n').rowC HR0.out (by omega)) HSf.out hh))
    go_enter Tryz.func25, Tryz.ntmps25
    go_upto_region 1 with (fail)
    rw [← HW0.out]
    go_wp2_with (first
      | (go_at_call 26; ((with_reducible refine hB.mono ?_); rintro e w1 ⟨rfl, h1, c1⟩))
      | (go_at_call 41; ((with_reducible refine (HN _ h1).mono ?_); rintro e w2 ⟨rfl, n', rfl⟩; have CC := C n' w1 h1 c1; clear h1; rw [hb]))
      | (go_at_call 45; ((with_reducible refine CC.mono ?_); rintro e w3 ⟨k, t, x1, n1, c1', x2, n2, c2', ev, rfl, HB⟩))
      | ((with_reducible show wpList _ _ _ (⟨none, .store _ (.tmp 2) _, _, _, _, _⟩ :: _) _ _); refine wpList_store_row rfl 27 _ _ rfl w.heap.size (row4 k t x1 n1 c1' x2 n2 c2') rfl rfl 27 zeroV4 HB.out.1 HI.out rfl (row4_all _ _ _ _ _ _ _ _) ?_))
    refine bodyPost_ret (results_row_tmp rfl _ _ w.heap.size 27 (row4 k t x1 n1 c1' x2 n2 c2') _ rfl (rowC_setRow HB.out.1 _) Tryz.underlying27 rfl HI.out ev rfl) rfl ?_
    exact HB.out.2 _ ((Chg.refl _ _).setRow _ _ (.inl rfl))
  rw [if_neg e123] at hv'
  have hR := (Option.some.inj hv').symm
  have f110 : ¬ ((hd d).toNat : Int) = 110 := u8_ne e110
  have f102 : ¬ ((hd d).toNat : Int) = 102 := u8_ne e102
  have f116 : ¬ ((hd d).toNat : Int) = 116 := u8_ne e116
  have f34 : ¬ ((hd d).toNat : Int) = 34 := u8_ne e34
  have f91 : ¬ ((hd d).toNat : Int) = 91 := u8_ne e91
  have f123 : ¬ ((hd d).toNat : Int) = 123 := u8_ne e123
  have C := fun (n' : Nat) (w1 : World) (h1 : RdAt w1 q S d lev) (c1 : Chg (· = q) W0 w1) => (show Calls Tryz.prog 46 #[.pointer (some ⟨q, 0, none⟩)] (w1.drewN n') (fun e w3 => readyN w w.heap.size q S l d lev R e w3) from (number_any hS.T (⟨h1.row, h1.suf⟩ : RdAt (w1.drewN n') q S d lev)).mono (fun e w3 hh => readyN_of hS hR (HA0.out.two (c1.drewN n')) hqw (Nat.le_refl _) ((c1.drewN n').rowC HR0.out (by omega)) HSf.out hds hh))
  generalize ((hd d).toNat : Int) = b at HN f110 f102 f116 f34 f91 f123
  have HDS := Lib.hid hds
  have hdl := hds.length_le
  have hSS := hS
  unfold okS at hSS
  have hsz := str_size S
  clear hv' hR hds hls V e110 e102 e116 e34 e91 e123
  go_enter Tryz.func25, Tryz.ntmps25
  go_upto_region 1 with (fail)
  rw [← HW0.out]
  go_upto_region 18 with (first
    | (go_at_call 26; ((with_reducible refine hB.mono ?_); rintro e w1 ⟨rfl, h1, c1⟩))
    | (go_at_call 41; ((with_reducible refine (HN _ h1).mono ?_); rintro e w2 ⟨rfl, n', rfl⟩; have CC := C n' w1 h1 c1; have d1 := (⟨h1.row, h1.suf⟩ : RdAt (w1.drewN n') q S d lev).cell.2.1; clear h1))
    | (go_at_call 46; ((with_reducible refine CC.mono ?_); rintro e w3 ⟨ev, y, l2, rfl, h3, hy, HB⟩)))
  have HPT := part_text HDS.out hy
  have hyl := hy.length_le
  obtain ⟨g0, g1, _⟩ := h3.cell
  have HH3 := Lib.hid h3
  have hqr : ¬ w.heap.size = q := by omega
  have hqr2 : ¬ q = w.heap.size := by omega
  generalize hkd : S.length - d.length = kd at HPT
  generalize hky : S.length - y.length = ky at HPT g1
  have hky2 : ky ≤ (str S).size := by omega
  have hkk : kd ≤ ky := by omega
  have hcl : (str (d.take (d.length - y.length))).size ≤ 281474976710656 := by rw [str_size, List.length_take]; omega
  have CL := fun w4 => clone_any (str (d.take (d.length - y.length))) w4 hcl
  generalize d.take (d.length - y.length) = T0 at HPT CL HB hcl
  have hw3 := h3.lt
  have i0 : (0 : Int) ≤ (kd : Int) := by omega
  have i1 : (kd : Int) ≤ (ky : Int) := by omega
  have i2 : (ky : Int) ≤ ((str S).size : Int) := by omega
  clear hsz hcl
  have HHB := Lib.hid HB.out.1
  have hzl := rowC_lt HB.out.1
  go_region_held3 (fun w' => w'.cell? ⟨q, 0, none⟩ = some (.string (str S)) ∧ w'.cell? ⟨q, 1, none⟩ = some (.int .i64 (ky : Int)))
    (first
      | exact ⟨k0, k1⟩
      | exact ⟨cell_chg (s := (· = w.heap.size)) (((((Chg.refl _ w4).cellq 0 _).cellq 1 _).cellq 2 _).cellq 3 _) k0 hqr2, cell_chg (s := (· = w.heap.size)) (((((Chg.refl _ w4).cellq 0 _).cellq 1 _).cellq 2 _).cellq 3 _) k1 hqr2⟩
      | go_keep)
    ((go_at_call 47; (with_reducible refine (CL _).mono ?_); rintro e w4 ⟨rfl, hb4⟩; have c4 := (Chg.of_below (s := fun _ => False) hb4); have k0 := (c4.rowC HH3.out.row id |> fun r => rowC_cell r 0); have k1 := hky ▸ (c4.rowC HH3.out.row id |> fun r => rowC_cell r 1); have Z4 := c4.rowC HHB.out id; have z0 : w4.cell? ⟨w.heap.size, 0, none⟩ = some (.int .i64 0) := rowC_cell Z4 0; have z1 : w4.cell? ⟨w.heap.size, 1, none⟩ = some (.string ⟨#[]⟩) := rowC_cell Z4 1; have z2 : w4.cell? ⟨w.heap.size, 2, none⟩ = some (.slice none 0 0) := rowC_cell Z4 2; have z3 : w4.cell? ⟨w.heap.size, 3, none⟩ = some (.slice none 0 0) := rowC_cell Z4 3; have y0 := rowC_free Z4 0; have y1 := rowC_free Z4 1; have y2 := rowC_free Z4 2; have y3 := rowC_free Z4 3))
  all_goals (
    go_wp2
    have r4 : rowC ((((w4.setCell ⟨w.heap.size, 0, none⟩ (.int .i64 3)).setCell ⟨w.heap.size, 1, none⟩ (.string (str T0))).setCell ⟨w.heap.size, 2, none⟩ (.slice none 0 0)).setCell ⟨w.heap.size, 3, none⟩ (.slice none 0 0)) w.heap.size (row4 3 (str T0) none 0 0 none 0 0) 27 := rowC_set (rowC_set (rowC_set (rowC_set Z4 0 _) 1 _) 2 _) 3 _
    have c5 : Chg (· = w.heap.size) w3 ((((w4.setCell ⟨w.heap.size, 0, none⟩ (.int .i64 3)).setCell ⟨w.heap.size, 1, none⟩ (.string (str T0))).setCell ⟨w.heap.size, 2, none⟩ (.slice none 0 0)).setCell ⟨w.heap.size, 3, none⟩ (.slice none 0 0)) := (((Chg.refl (· = w.heap.size) w3).drew.trans c4 (fun _ _ e => e.elim)).trans (((((Chg.refl (· = w.heap.size) w4).cellq 0 _).cellq 1 _).cellq 2 _).cellq 3 _) (fun _ _ e => e))
    refine bodyPost_ret (results_row_tmp rfl _ _ w.heap.size 27 (row4 3 (str T0) none 0 0 none 0 0) _ rfl r4 Tryz.underlying27 rfl HI.out ev rfl) rfl ?_
    exact HB.out.2 _ c5)
theorem value_all : ∀ n, ValOk n
  | 0 => value_zero
  | n + 1 => value_succ (value_all n)
end Go.Proofs.YtafmokpplnmbgaaGreatDoor

/- Layer 11: all of a text. -/
namespace Go.Proofs.YtafmokpplnmbgaaGreatDoor
open Go.RowKit

set_option maxRecDepth 100000 in
set_option maxHeartbeats 8000000 in
theorem rall_any {n : Nat} {w : World} {q : Nat} {S : Bs} {R : Res JV} (hS : okS S) (hE : Env w) (hq : 10 ≤ q) (h : RdAt w q S S 0) (hR : allP n S = some R) :
    Calls Tryz.prog 17 #[.pointer (some ⟨q, 0, none⟩)] w fun e w' => saysV w q S S 0 R e w' := by
  have hqw := h.lt
  obtain ⟨W0, hW0⟩ : ∃ W0, W0 = w.alloc (.cells #[.int .i64 0, .string ⟨#[]⟩, .slice none 0 0, .slice none 0 0] 27) := ⟨_, rfl⟩
  have R0 : rowC W0 w.heap.size zeroV4 27 := by rw [hW0]; exact rowC_new w _ _
  have A0 : Chg (· = q) w W0 := by rw [hW0]; exact (Chg.refl _ w).alloc _
  have E0 : Env W0 := hE.q A0 hq
  have H0 : RdAt W0 q S S 0 := by rw [hW0]; exact h.below ((Below.refl _ _).alloc (Nat.le_refl _) _)
  have s0 : W0.heap.size = w.heap.size + 1 := by rw [hW0]; exact size_alloc _ _
  unfold allP at hR
  cases hv : valP n 0 S with
  | none => rw [hv] at hR; cases hR
  | some Q =>
    rw [hv] at hR
    have C := value_all n W0 q S S 0 Q hS E0 hq H0 (by decide) hv
    have HR0 := Lib.hid R0
    have HA0 := Lib.hid A0
    have HW0 := Lib.hid hW0
    have HI := Lib.hid info_V
    have HS0 := Lib.hid s0
    clear hW0 R0 A0 E0 H0 hE h hv s0
    cases Q with
    | bad code x =>
      have HQ := Lib.hid (show R = .bad code x from (Option.some.inj hR).symm)
      unfold saysV errAt errV at C
      clear hR
      go_enter Tryz.func17, Tryz.ntmps17
      go_upto_region 1 with (fail)
      rw [← HW0.out]
      go_wp2_with (first
        | (go_at_call 25; ((with_reducible refine C.mono ?_); rintro e w2 ⟨V, rfl, ⟨k, t, x1, n1, c1, x2, n2, c2, rfl⟩, hb⟩; have HZ := Lib.hid (rowC_alloc (hb.2.rowC HR0.out (by omega)) (Obj.cells #[.int .i64 k, .string t, .slice x1 n1 c1, .slice x2 n2 c2] 27)); have HB := Lib.hid hb; clear hb))
        | ((with_reducible show wpList _ _ _ (⟨none, .store _ (.tmp 2) _, _, _, _, _⟩ :: _) _ _); refine wpList_store_row rfl 27 _ _ rfl w.heap.size zeroV4 rfl rfl 27 zeroV4 HZ.out HI.out rfl zeroV4_all ?_))
      refine bodyPost_ret (results_row_tmp rfl _ _ w.heap.size 27 zeroV4 _ rfl (rowC_setRow HZ.out _) Tryz.underlying27 rfl HI.out (errV code (S.length - x.length)) rfl) rfl ?_
      obtain ⟨⟨y, l2, h2, hs⟩, hc⟩ := HB.out
      have cc : Chg (· = w.heap.size) w2 ((w2.alloc (Obj.cells #[.int .i64 k, .string t, .slice x1 n1 c1, .slice x2 n2 c2] 27)).setRow w.heap.size zeroV4) := ((Chg.refl _ w2).alloc _).setRow _ _ (.inl rfl)
      exact saysV_bad HQ.out zero_four ⟨⟨y, l2, h2.chg cc (by omega), hs⟩, (HA0.out.two hc).trans cc (fun k hk e => by omega)⟩
    | ok v x =>
      change (if dropB x = [] then some (Res.ok v []) else some (Res.bad 10 (dropB x))) = some R at hR
      have HB3 := fun (w3 : World) (h3 : RdAt w3 q S x 0) => blanks_any h3 hS.T
      unfold saysV at C
      have hxe : (dropB x = [] ∧ S.length - (dropB x).length = S.length) ∨ (dropB x ≠ [] ∧ (dropB x <:+ S → S.length - (dropB x).length < S.length)) := by
        by_cases he : dropB x = []
        · exact .inl ⟨he, by rw [he]; rfl⟩
        · exact .inr ⟨he, fun hs => by have := List.length_pos_iff.2 he; have := hs.length_le; omega⟩
      have HXD := Lib.hid (dropB_suf x)
      rcases hxe with ⟨he, hl⟩ | ⟨he, hl⟩
      · have HQ := Lib.hid (show R = .ok v [] by rw [if_pos he] at hR; exact (Option.some.inj hR).symm)
        rw [he] at HB3
        have hlt : ¬ ((S.length : Int) < (S.length : Int)) := by omega
        have hsz := str_size S
        clear hR hl he
        go_enter Tryz.func17, Tryz.ntmps17
        go_upto_region 1 with (fail)
        rw [← HW0.out]
        go_upto_region 5 with (first
          | (go_at_call 25; ((with_reducible refine C.mono ?_); rintro e w2 ⟨V, rfl, ⟨a, b, c, d, rfl, hH⟩, hb⟩; obtain ⟨rfl, rfl, ⟨x1, c1, rfl⟩, x2, c2, rfl⟩ := hH.form; have HH := Lib.hid hH; have HZ := Lib.hid (rowC_alloc (hb.2.rowC HR0.out (by omega)) (Obj.cells #[.int .i64 v.kind, .string (str v.text), .slice x1 v.items.length c1, .slice x2 v.keys.length c2] 27)); have BB := HB3 (w2.alloc (Obj.cells #[.int .i64 v.kind, .string (str v.text), .slice x1 v.items.length c1, .slice x2 v.keys.length c2] 27)) (hb.1.chg ((Chg.refl (fun _ => False) w2).alloc _) id); have HB := Lib.hid hb; clear hb hH))
          | (go_at_call 26; ((with_reducible refine BB.mono ?_); rintro e w3 ⟨rfl, h3, c3⟩; have HC3 := Lib.hid c3; have HH3 := Lib.hid h3; clear c3)))
        obtain ⟨g0, g1, _⟩ := h3.cell
        rw [show S.length - ([] : Bs).length = S.length from rfl] at g1
        have hlq : ((S.length : Int) < ((str S).size : Int)) = False := by rw [hsz]; simp
        have hw2 : W0.heap.size ≤ w2.heap.size := HB.out.2.size
        have hqn : ¬ w2.heap.size = q := by have := HS0.out; omega
        have R3 := Lib.hid (HC3.out.rowC HZ.out (by omega))
        have X3 := Lib.hid (HC3.out.rowC (rowC_new w2 (row4 v.kind (str v.text) x1 v.items.length c1 x2 v.keys.length c2) 27) hqn)
        clear h3 hsz
        go_quiet (fail)
        go_wp2_with (first
          | ((with_reducible show wpList _ _ _ (⟨some 33, .load _ (.tmp 4), _, _, _, _⟩ :: _) _ _); refine wpList_load_row rfl 27 _ rfl w2.heap.size rfl 27 (row4 v.kind (str v.text) x1 v.items.length c1 x2 v.keys.length c2) (0, 0) _ (rowC_drewN X3.out _) Tryz.underlying27 rfl HI.out ?_)
          | ((with_reducible show wpList _ _ _ (⟨none, .store _ (.tmp 2) _, _, _, _, _⟩ :: _) _ _); refine wpList_store_row rfl 27 _ _ rfl w.heap.size (row4 v.kind (str v.text) x1 v.items.length c1 x2 v.keys.length c2) rfl rfl 27 zeroV4 (rowC_drewN R3.out _) HI.out rfl (row4_all _ _ _ _ _ _ _ _) ?_))
        refine bodyPost_ret (results_row_tmp rfl _ _ w.heap.size 27 (row4 v.kind (str v.text) x1 v.items.length c1 x2 v.keys.length c2) _ rfl (rowC_setRow (rowC_drewN R3.out _) _) Tryz.underlying27 rfl HI.out .nilIface rfl) rfl ?_
        have c23 : Chg (fun k => k = q ∨ k = w.heap.size) w2 ((w3.drewN nq).setRow w.heap.size (row4 v.kind (str v.text) x1 v.items.length c1 x2 v.keys.length c2)) := ((((Chg.refl _ w2).alloc _).trans HC3.out (fun k _ e => .inl e)).drewN nq).setRow _ _ (.inl (.inr rfl))
        have hs0 := HS0.out
        refine saysV_ok HQ.out ⟨_, _, _, _, rfl, HoldsC.mono (fun k hk hlt => ⟨by omega, hlt⟩) _ _ _ _ _ (HoldsC.chg c23 (fun k hk e => by omega) _ _ _ _ _ HH.out)⟩ ⟨RdAt.chg (s := (· = w.heap.size)) (w := w3.drewN nq) ⟨HH3.out.row, HH3.out.suf⟩ ((Chg.refl _ _).setRow _ _ (.inl rfl)) (by omega), (HA0.out.two HB.out.2).trans c23 (fun k hk e => by omega)⟩
      · have HQ := Lib.hid (show R = .bad 10 (dropB x) by rw [if_neg he] at hR; exact (Option.some.inj hR).symm)
        generalize dropB x = d at HB3 HQ HXD hl
        have hsz := str_size S
        clear hR he
        go_enter Tryz.func17, Tryz.ntmps17
        go_upto_region 1 with (fail)
        rw [← HW0.out]
        go_upto_region 5 with (first
          | (go_at_call 25; ((with_reducible refine C.mono ?_); rintro e w2 ⟨V, rfl, ⟨a, b, c, d', rfl, hH⟩, hb⟩; obtain ⟨rfl, rfl, ⟨x1, c1, rfl⟩, x2, c2, rfl⟩ := hH.form; have HZ := Lib.hid (rowC_alloc (hb.2.rowC HR0.out (by omega)) (Obj.cells #[.int .i64 v.kind, .string (str v.text), .slice x1 v.items.length c1, .slice x2 v.keys.length c2] 27)); have BB := HB3 (w2.alloc (Obj.cells #[.int .i64 v.kind, .string (str v.text), .slice x1 v.items.length c1, .slice x2 v.keys.length c2] 27)) (hb.1.chg ((Chg.refl (fun _ => False) w2).alloc _) id); have HB := Lib.hid hb; clear hb hH))
          | (go_at_call 26; ((with_reducible refine BB.mono ?_); rintro e w3 ⟨rfl, h3, c3⟩; have HC3 := Lib.hid c3; have HH3 := Lib.hid h3; clear c3)))
        obtain ⟨g0, g1, _⟩ := h3.cell
        have hkl := hl h3.suf
        generalize hk : S.length - d.length = k at g1 hkl
        have HK := Lib.hid hk
        have hlq : ((k : Int) < ((str S).size : Int)) := by rw [hsz]; omega
        have hw2 : W0.heap.size ≤ w2.heap.size := HB.out.2.size
        have R3 := Lib.hid (HC3.out.rowC HZ.out (by omega))
        clear h3 hsz hl hk
        go_quiet (fail)
        have g1' : (w3.drewN nq).cell? ⟨q, 1, none⟩ = some (.int .i64 (k : Int)) := g1
        go_wp2_with (first
          | (go_at_call 27; ((with_reducible refine (unfit_any k _ rfl _).mono ?_); rintro e w4 ⟨rfl, rfl⟩; unfold errV))
          | ((with_reducible show wpList _ _ _ (⟨none, .store _ (.tmp 2) _, _, _, _, _⟩ :: _) _ _); refine wpList_store_row rfl 27 _ _ rfl w.heap.size zeroV4 rfl rfl 27 zeroV4 (rowC_drewN R3.out _) HI.out rfl zeroV4_all ?_))
        refine bodyPost_ret (results_row_tmp rfl _ _ w.heap.size 27 zeroV4 _ rfl (rowC_setRow (rowC_drewN R3.out _) _) Tryz.underlying27 rfl HI.out (errV 10 k) rfl) rfl ?_
        have c23 : Chg (fun k => k = q ∨ k = w.heap.size) w2 ((w3.drewN nq).setRow w.heap.size zeroV4) := ((((Chg.refl _ w2).alloc _).trans HC3.out (fun k _ e => .inl e)).drewN nq).setRow _ _ (.inl (.inr rfl))
        have := saysV_bad (w := w) (w' := (w3.drewN nq).setRow w.heap.size zeroV4) (q := q) (S := S) (r := S) (lev := 0) HQ.out zero_four ⟨⟨d, 0, RdAt.chg (s := (· = w.heap.size)) (w := w3.drewN nq) ⟨HH3.out.row, HH3.out.suf⟩ ((Chg.refl _ _).setRow _ _ (.inl rfl)) (by omega), HXD.out.trans HB.out.1.suf⟩, (HA0.out.two HB.out.2).trans c23 (fun k hk e => by omega)⟩
        unfold errAt at this
        rw [HK.out] at this
        exact this
end Go.Proofs.YtafmokpplnmbgaaGreatDoor

/- Layer 11: errors.As at the reader's error. -/
namespace Go.Proofs.YtafmokpplnmbgaaGreatDoor
open Go.RowKit Go.Extern.Stop Go.Stop Go.Extern

/-- errors.As(nil, target). -/
theorem as_nil (t : Value) (w : World) :
    Calls Tryz.prog 18 #[.nilIface, t] w fun e w' => e = .returned (.bool false) ∧ w' = w := by
  go_enter Tryz.func18, Tryz.ntmps18
  go_wp2
  go_ret
  exact ⟨rfl, rfl⟩
theorem jz_valueOfP (t : Addr) (w : World) : (ReflectliteValue.unpack (.iface 66 (.pointer (some t)))).run Tryz.prog w
    = .ok (.agg #[.pointer (some ⟨10, 66, none⟩), .pointer (some ⟨w.heap.size, 0, none⟩), .int .u64 150]) (w.alloc (.cells #[.pointer (some t)] 66)) := by kernel_rfl
theorem jz_typeP (a : Addr) (w : World) : (ReflectliteValue.methodAny (ReflectliteValue.valueError "reflectlite.Value.Type" 0) (fun t _ _ _ => ReflectliteType.toType t) #[.agg #[.pointer (some ⟨10, 66, none⟩), .pointer (some a), .int .u64 150]]).run Tryz.prog w
    = .ok (.iface 105 (.agg #[.pointer (some ⟨10, 66, none⟩)])) w := by kernel_rfl
theorem jz_kindP (w : World) : ((ReflectliteType.abiMethod fun t => (fun a : Nat => Value.int IntKind.u8 (a : Int)) <$> Rtype.kind t) #[.pointer (some ⟨10, 66, none⟩)]).run Tryz.prog w = .ok (.int .u8 22) w := by kernel_rfl
theorem jz_kindS (w : World) : ((ReflectliteType.abiMethod fun t => (fun a : Nat => Value.int IntKind.u8 (a : Int)) <$> Rtype.kind t) #[.pointer (some ⟨10, 64, none⟩)]).run Tryz.prog w = .ok (.int .u8 25) w := by kernel_rfl
theorem rlm (z : Sem Value) (f : TypeId → Addr → Nat → Nat → Sem Value) (v : Value) :
    ReflectliteValue.method z f #[v] = (do match ← ReflectliteValue.parts v with | none => z | some (t, a, fl) => f t a fl (fl % 32)) := rfl
theorem jz_partsP (a : Addr) (w : World) : (ReflectliteValue.parts (.agg #[.pointer (some ⟨10, 66, none⟩), .pointer (some a), .int .u64 150])).run Tryz.prog w = .ok (some (66, a, 150)) w := by kernel_rfl
theorem jz_isNil (a p : Addr) (W : World) (ha : W.cell? a = some (.pointer (some p))) :
    (ReflectliteValue.method (ReflectliteValue.valueError "reflectlite.Value.IsNil" 0) ReflectliteValue.isNil #[.agg #[.pointer (some ⟨10, 66, none⟩), .pointer (some a), .int .u64 150]]).run Tryz.prog W = .ok (.bool false) W := by
  rw [rlm]
  simp only [Sem.run_bind, jz_partsP, Result.andThen]
  simp [ReflectliteValue.isNil, loadVar, isAgg, underlying, Tryz.underlying66, ha, Result.andThen]
theorem jz_elemT (w : World) : (ReflectliteType.method ReflectliteType.elem #[.agg #[.pointer (some ⟨10, 66, none⟩)]]).run Tryz.prog w = .ok (.iface 105 (.agg #[.pointer (some ⟨10, 64, none⟩)])) w := by kernel_rfl
theorem jz_implements (w : World) : (ReflectliteType.relation "Implements" ReflectliteType.implements_ #[.agg #[.pointer (some ⟨10, 64, none⟩)], .iface 105 (.agg #[.pointer (some ⟨10, 60, none⟩)])]).run Tryz.prog w = .ok (.bool true) w := by kernel_rfl
theorem jz_typeOf (v : Value) (w : World) : (ReflectliteType.typeOf #[.iface 64 v]).run Tryz.prog w = .ok (.iface 105 (.agg #[.pointer (some ⟨10, 64, none⟩)])) w := by kernel_rfl
theorem jz_assignable (w : World) : (ReflectliteType.relation "AssignableTo" ReflectliteType.assignableTo #[.agg #[.pointer (some ⟨10, 64, none⟩)], .iface 105 (.agg #[.pointer (some ⟨10, 64, none⟩)])]).run Tryz.prog w = .ok (.bool true) w := by kernel_rfl
theorem jz_valueOfS (a b : Int) (w : World) : (ReflectliteValue.unpack (.iface 64 (.agg #[.int .i64 a, .int .i64 b]))).run Tryz.prog w
    = .ok (.agg #[.pointer (some ⟨10, 64, none⟩), .pointer (some ⟨w.heap.size, 0, none⟩), .int .u64 153]) (w.alloc (.cells #[.int .i64 a, .int .i64 b] 64)) := by kernel_rfl
theorem jz_elemOf (w : World) : (Rtype.elem? 66).run Tryz.prog w = .ok (some 64) w := by kernel_rfl
theorem jz_mkS (p : Addr) (w : World) : (ReflectliteValue.mk 64 p ReflectliteValue.flagAddr).run Tryz.prog w = .ok (.agg #[.pointer (some ⟨10, 64, none⟩), .pointer (some p), .int .u64 409]) w := by kernel_rfl
theorem jz_elemV (a p : Addr) (W : World) (ha : W.cell? a = some (.pointer (some p))) :
    (ReflectliteValue.method (ReflectliteValue.valueError "reflectlite.Value.Elem" 0) ReflectliteValue.elem #[.agg #[.pointer (some ⟨10, 66, none⟩), .pointer (some a), .int .u64 150]]).run Tryz.prog W
      = .ok (.agg #[.pointer (some ⟨10, 64, none⟩), .pointer (some p), .int .u64 409]) W := by
  rw [rlm]
  simp only [Sem.run_bind, jz_partsP, Result.andThen]
  simp [ReflectliteValue.elem, loadVar, isAgg, underlying, Tryz.underlying66, ha, Result.andThen, jz_elemOf, jz_mkS]
end Go.Proofs.YtafmokpplnmbgaaGreatDoor

