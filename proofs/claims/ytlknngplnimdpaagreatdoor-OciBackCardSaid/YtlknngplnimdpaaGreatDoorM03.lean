/- Merged: JtU, JtV, OdB, OdC, Stp, Gn. -/
import Derived.Test.YtlknngplnimdpaaGreatDoorM02
import Derived.Test.YtlknngplnimdpaaGreatDoorM01
import Derived.Deep.AppendLies
import Derived.BigQuiet
import Derived.Test.YtlknngplnimdpaaGreatDoorShelf
import Derived.Test.YtlknngplnimdpaaGreatDoorRow
import Derived.Test.YtlknngplnimdpaaGreatDoorChg
import Derived.Deep.MidRow
/- Layer 11: an item of an object is read. -/
namespace Go.Proofs.YtlknngplnimdpaaGreatDoor
open Go.RowKit
attribute [local go_sem ↓] Go.wp_at_zero Go.wp_at_succ

theorem step_len {n lev : Nat} {acc : List (Bs × JV)} {r : Bs} {R : Res (List (Bs × JV))} (h : stepO n (valP n lev) acc r = some R) : ∃ K, keyP n (acc.map (·.1)) r = some K ∧ match K with
    | .bad code x => R = .bad code x
    | .ok _ x => ∃ Q, valP n lev x = some Q := by
  unfold stepO at h
  cases hk : keyP n (acc.map (·.1)) r with
  | none => rw [hk] at h; cases h
  | some K =>
    refine ⟨K, rfl, ?_⟩
    rw [hk] at h
    cases K with
    | bad code x => exact (Option.some.inj h).symm
    | ok t x =>
      cases hv : valP n lev x with
      | none => simp only [hv] at h; cases h
      | some Q => exact ⟨Q, hv⟩
set_option maxRecDepth 100000 in
set_option maxHeartbeats 8000000 in
theorem object1_any {n lev bL br bm bv q mp : Nat} (V : ValOk n) (hlev : lev ≤ 16) (S : Bs) (hS : okS S) (hq : 10 ≤ q) (o1 : q < br) (o2 : br < bv) (o3 : bv < mp) (o4 : mp < bm) (o5 : bm < bL)
    (acc : List (Bs × JV)) (r : Bs) (R : Res (List (Bs × JV))) (w1 : World) (hE : Env w1) (h : RdAt w1 q S r lev) (hst : StO bL br bm bv q mp acc w1) (hBd : acc.length + r.length ≤ 65536) (hR : stepO n (valP n lev) acc r = some R) :
    Calls Tryz.prog 159 #[.pointer (some ⟨br, 0, none⟩), .pointer (some ⟨bm, 0, none⟩), .pointer (some ⟨bv, 0, none⟩)] w1 fun e w2 => saysA w1 q S r lev (fun k => k = q ∨ k = mp ∨ k = bv ∨ bL ≤ k) (StO bL br bm bv q mp) (WkV bv) R e w2 := by
  obtain ⟨KK, hk, hKK⟩ := step_len hR
  have CK := key_any hS hE hq h hst.set (by rw [List.length_map]; omega) hk
  have b0 : w1.cell? ⟨br, 0, none⟩ = some (.pointer (some ⟨q, 0, none⟩)) := rowC_cell hst.box 0
  have b1 : w1.cell? ⟨bm, 0, none⟩ = some (.map (some mp)) := rowC_cell hst.map 0
  cases KK with
  | bad code x =>
    unfold saysK errAt errV at CK
    have HKK := Lib.hid (show R = .bad code x from hKK)
    have HST := Lib.hid hst
    clear hk hKK hR hst h hE V
    go_enter Tryz.func159, Tryz.ntmps159
    go_wp2_with (go_at_call 160; ((with_reducible refine CK.mono ?_); rintro e w2 ⟨rfl, h2, c2⟩))
    go_ret
    obtain ⟨y, ly, hy1, hy2⟩ := h2
    obtain ⟨I, K, hr, hko, hj⟩ := HST.out.row
    obtain ⟨xs, F, ho, _, _⟩ := hj.ex
    obtain ⟨ai, ci, rfl⟩ := owns_form ho
    obtain ⟨ak, ck, rfl⟩ := owns_form hko
    exact saysA_bad HKK.out ⟨y, ly, hy1, hy2⟩ (c2.mono (fun k _ hk => by rcases hk with e | e; exact .inl e; exact .inr (.inl e))) ⟨_, _, _, _, _, _, _, _, c2.rowC hr (by omega)⟩
  | ok t x =>
    obtain ⟨Q, hv⟩ := hKK
    unfold saysK at CK
    have CV := fun (w2 : World) (h2 : RdAt w2 q S x lev) (c2 : Chg (fun k => k = q ∨ k = mp) w1 w2) => V w2 q S x lev Q hS (hE.chg c2 (fun k hk e => by omega)) hq h2 hlev hv
    have FIN := Lib.hid (fun (hx : x <:+ r) (w2 w3 w5 w' : World) (a b c d ev I I' K K' : Value) => obj1_fin (w2 := w2) (w3 := w3) (w5 := w5) (w' := w') (a := a) (b := b) (c := c) (d := d) (ev := ev) (I := I) (I' := I') (K := K) (K' := K') hlev o1 o2 o3 o4 o5 h hst hk hx hv hR)
    have hxl := (key_ok hk).2.2
    have HST := Lib.hid hst
    have HBD := Lib.hid hBd
    have HHr := Lib.hid h.suf
    obtain ⟨I, K, hr0, hko0, hj0⟩ := hst.row
    obtain ⟨m, hm⟩ : ∃ m, m = acc.length := ⟨_, rfl⟩
    have hml : m ≤ 65536 := by omega
    obtain ⟨⟨xs, F, ho0, hI0, hF⟩, hIn⟩ := hj0
    rw [List.length_map, ← hm] at ho0
    rw [← hm] at hko0
    obtain ⟨ai, ci, rfl⟩ := owns_form ho0
    obtain ⟨ak, ck, rfl⟩ := owns_form hko0
    have hlx := ItemsC.len _ _ hI0
    rw [List.length_map, ← hm] at hlx
    have HM := Lib.hid hm
    have HR0 := Lib.hid hr0
    have HKO0 := Lib.hid hko0
    have HO0 := Lib.hid ho0
    have HI0 := Lib.hid (ItemsC.mono (G := fun k => F k ∧ k < w1.heap.size) (fun k hk hlt => ⟨hk, hlt⟩) _ xs hI0)
    have HF := Lib.hid hF
    have HIN := Lib.hid hIn
    have HKV : Hid ((Value.slice ak m ck).ownBlock ≠ some bv) := Lib.hid (fun e => by have := (hko0.lt _ e).1; omega)
    have HIV : Hid ((Value.slice ai m ci).ownBlock ≠ some bv) := Lib.hid (fun e => by have := (ho0.lt _ e).1; omega)
    have HKL := Lib.hid (fun k (e : (Value.slice ak m ck).ownBlock = some k) => hko0.lt k e)
    have HIL := Lib.hid (fun k (e : (Value.slice ai m ci).ownBlock = some k) => ho0.lt k e)
    have HXL := Lib.hid hlx
    have hle := hst.le
    obtain ⟨i0, hi0, hz0, hz1, hz2⟩ := info_parts info_V3
    obtain ⟨j0, ji0, jz0, jz1, jz2⟩ := info_parts info_S1
    clear hk hv hR hst h hE V hm hr0 hko0 ho0 hI0 hF hIn hlx hBd
    go_enter Tryz.func159, Tryz.ntmps159
    go_upto_region 5 with (first
      | (go_at_call 160; ((with_reducible refine CK.mono ?_); rintro e w2 ⟨rfl, htl, h2, hset, c2⟩; have b2 := rowC_cell (c2.rowC HST.out.box (by omega)) 0; have C := CV w2 h2 c2; have H2 := Lib.hid h2; have HSET := Lib.hid hset; have C2 := Lib.hid c2; clear h2 hset c2))
      | (go_at_call 98; ((with_reducible refine C.mono ?_); rintro e w3 VV; obtain ⟨k, t0, x1, n1, c1, x2, n2, c2, ev, rfl, HG⟩ := saysV_all VV; clear VV)))
    have HXR := Lib.hid (suf_of H2.out.suf HHr.out (by omega))
    have hr3 := HG.out.1.rowC (C2.out.rowC HR0.out (by omega)) (by omega)
    have hko3 := HG.out.1.owns (C2.out.owns HKO0.out (fun g hg e => by have := (HKO0.out.lt g hg).1; omega)) (fun g hg e => by have := (HKO0.out.lt g hg).1; omega)
    have ho3 := HG.out.1.owns (C2.out.owns HO0.out (fun g hg e => by have := (HO0.out.lt g hg).1; omega)) (fun g hg e => by have := (HO0.out.lt g hg).1; omega)
    have hI3 := ItemsC.chg HG.out.1 (fun k hk e => by have := (HF.out k hk.1).1; omega) _ xs (ItemsC.chg C2.out (fun k hk e => by have := (HF.out k hk.1).1; omega) _ xs HI0.out)
    have s13 : w1.heap.size ≤ w3.heap.size := Nat.le_trans C2.out.size HG.out.1.size
    obtain ⟨W, hW⟩ : ∃ W, W = w3.alloc (Obj.cells #[.int .i64 k, .string t0, .slice x1 n1 c1, .slice x2 n2 c2] 63) := ⟨_, rfl⟩
    have hbv3 := rowC_lt hr3
    have hck : W.cell? ⟨bv, 3, none⟩ = some (.slice ak m ck) := by rw [hW]; exact rowC_cell (rowC_alloc hr3 _) 3
    have hsz : W.heap.size = w3.heap.size + 1 := by rw [hW]; exact size_alloc _ _
    have hkoW : W.ownsRow bL 9 1 (.slice ak m ck) m (keysV (acc.map (·.1))) := by rw [hW]; exact hko3.alloc _
    have HRW : Hid (rowC W bv #[.int .i64 6, .string ⟨#[]⟩, .slice ai m ci, .slice ak m ck] 63) := by rw [hW]; exact Lib.hid (rowC_alloc hr3 _)
    have HXW : Hid (rowC W w3.heap.size #[.int .i64 k, .string t0, .slice x1 n1 c1, .slice x2 n2 c2] 63) := by rw [hW]; exact Lib.hid (rowC_new w3 _ _)
    have HOW : Hid (W.ownsRow bL 63 4 (.slice ai m ci) m xs) := by rw [hW]; exact Lib.hid (ho3.alloc _)
    have HCW : Hid (Chg (fun _ => False) w3 W) := by rw [hW]; exact Lib.hid ((Chg.refl _ _).alloc _)
    have HI3 := Lib.hid hI3
    have HS3 := Lib.hid s13
    rw [← hW]
    have hbLW : bL ≤ W.heap.size := by omega
    have hWs : w3.heap.size < W.heap.size := by omega
    have hbvW : bv < W.heap.size := by omega
    have HSZ := Lib.hid hsz
    clear hsz hW hr3 hko3 ho3 hI3 b0 b1 b2 C CV CK hxl
    go_upto_region 6 with ((with_reducible show wpList _ _ _ (⟨some 25, _, _, _, _, _⟩ :: _) _ _); refine wpList_append_lies _ rfl _ _ 61 rfl bL 9 j0 (.string ⟨#[]⟩) 1 16 Tryz.underlying61 ji0 jz0 jz1 jz2 rfl (by decide) (.slice ak m ck) m (keysV (acc.map (·.1))) rfl (hkoW.alloc _) ⟨W.heap.size, 0, none⟩ 1 1 [.string (str t)] rfl rfl (World.news_of_block (heap_alloc_new W _)) (by intro u hu; simp at hu; rw [hu]; rfl) (by decide) (by unfold maxLen; omega) (by omega) (by rw [size_alloc]; omega) _ rfl ?_; intro gk capk w4 hown4 hgrow4 hat4 hlt4; have r4 := row_far (rowC_alloc HRW.out _) hgrow4 HKV.out; have cbk := rowC_cell r4 3; have fbk := rowC_free r4 3; have R4 := Lib.hid r4; clear r4; have HK4 := Lib.hid hown4; have HG4 := Lib.hid hgrow4; have HA4 := Lib.hid hat4; clear hown4 hgrow4 hat4)
    have hat4 := HA4.out
    rw [size_alloc] at hat4
    have gkv : ¬ bv = gk := by
      intro e
      subst e
      rcases hat4 with e | e
      · exact HKV.out e
      · omega
    have hI4 : ∀ k, (Value.slice ak m ck).ownBlock = some k → (Value.slice ai m ci).ownBlock ≠ some k := HIN.out
    have hIg : (Value.slice ai m ci).ownBlock ≠ some gk := by
      intro e
      rcases hat4 with e4 | e4
      · exact HIN.out gk e4 e
      · have := (HIL.out gk e).2; have := HS3.out; omega
    have glo : gk < w1.heap.size ∨ w3.heap.size < gk := by
      rcases hat4 with e4 | e4
      · exact .inl (HKL.out gk e4).2
      · exact .inr (by omega)
    have hc34 : Chg (fun k => (Value.slice ak m ck).ownBlock = some k) w3 w4 := ((HCW.out.mono (fun k _ hk => hk.elim)).alloc _).grown HG4.out (fun k hk => .inl hk)
    have hX4 : rowC w4 w3.heap.size #[.int .i64 k, .string t0, .slice x1 n1 c1, .slice x2 n2 c2] 63 := row_far (rowC_alloc HXW.out _) HG4.out (fun e => by have := (HKL.out _ e).2; have := HS3.out; omega)
    have hO4 : w4.ownsRow bL 63 4 (.slice ai m ci) m xs := ((Chg.refl (fun k => (Value.slice ak m ck).ownBlock = some k) _).grown HG4.out (fun k hk => .inl hk)).owns (HOW.out.alloc _) (fun g hg e => HIN.out g e hg)
    have setb : Chg (fun k => k = bv) w4 (w4.setCell ⟨bv, 3, none⟩ (.slice (some ⟨gk, 0, none⟩) (m + 1) capk)) := (Chg.refl _ w4).cellq _ _
    obtain ⟨W5, hW5⟩ : ∃ W5, W5 = w4.setCell ⟨bv, 3, none⟩ (.slice (some ⟨gk, 0, none⟩) (m + 1) capk) := ⟨_, rfl⟩
    have hs5 : w3.heap.size < W5.heap.size := by rw [hW5]; have := setb.size; have := rowC_lt hX4; omega
    have R5 : Hid (rowC W5 bv #[.int .i64 6, .string ⟨#[]⟩, .slice ai m ci, .slice (some ⟨gk, 0, none⟩) (m + 1) capk] 63) := by rw [hW5]; exact Lib.hid (rowC_set R4.out 3 _)
    rw [← hW5] at setb
    have C5 : Hid (Chg (fun k => (Value.slice ak m ck).ownBlock = some k ∨ k = bv) w3 W5) := Lib.hid ((hc34.mono (t := fun k => (Value.slice ak m ck).ownBlock = some k ∨ k = bv) (fun k _ hk => .inl hk)).trans setb (fun k _ hk => .inr hk))
    have X5 := setb.rowC hX4 (by omega)
    have hoW := setb.owns hO4 (fun g hg e => HIV.out (by rw [← e]; exact hg))
    have K5 := Lib.hid (setb.owns HK4.out (fun g hg e => gkv (by simp only [Value.ownBlock, Option.some.injEq] at hg; rw [← e, hg])))
    have I5 := Lib.hid (ItemsC.chg C5.out (fun k hk e => by
      rcases e with e | e
      · exact (HF.out k hk.1).2.1 e
      · have := (HF.out k hk.1).1; omega) _ xs HI3.out)
    have g5 : gk < W5.heap.size := by rw [hW5]; exact Nat.lt_of_lt_of_le hlt4 ((Chg.refl (fun k => k = bv) w4).cellq 3 _).size
    rw [← hW5]
    have hcv : W5.cell? ⟨bv, 2, none⟩ = some (.slice ai m ci) := rowC_cell R5.out 2
    have hfv : W5.frozen? ⟨bv, 2, none⟩ = false := rowC_free R5.out 2
    have hx0 : W5.cell? ⟨w3.heap.size, 0, none⟩ = some (.int .i64 k) := rowC_cell X5 0
    have hx1 : W5.cell? ⟨w3.heap.size, 1, none⟩ = some (.string t0) := rowC_cell X5 1
    have hx2 : W5.cell? ⟨w3.heap.size, 2, none⟩ = some (.slice x1 n1 c1) := rowC_cell X5 2
    have hx3 : W5.cell? ⟨w3.heap.size, 3, none⟩ = some (.slice x2 n2 c2) := rowC_cell X5 3
    have hIbv := HIV.out
    have hIbx : (Value.slice ai m ci).ownBlock ≠ some w3.heap.size := fun e => by have := (HIL.out _ e).2; have := HS3.out; omega
    have hbv5 : bv < W5.heap.size := rowC_lt R5.out
    have hbL5 : bL ≤ W5.heap.size := by have := HSZ.out; omega
    have hxbv : ¬ w3.heap.size = bv := by omega
    have hbvx : ¬ bv = w3.heap.size := by omega
    have m0 : (0 : Int) ≤ (m : Int) := by omega
    have m1 : (m : Int) < ((m + 1 : Nat) : Int) := by omega
    have m2 : (m : Int) < (m : Int) + 1 := by omega
    have GKV := Lib.hid gkv
    have HIG := Lib.hid hIg
    have GLO := Lib.hid glo
    have HOW5 := Lib.hid hoW
    clear hW5 setb hc34 hX4 hO4 X5 gkv hI4 hIg glo hat4 hlt4 cbk fbk hck hkoW hbLW hWs hbvW hbv3
    go_region_law (refine step_append_lies _ (by rfl) _ _ _ (by rfl) bL 63 i0 _ 4 72 Tryz.underlying60 hi0 hz0 hz1 hz2 rfl (by omega) (.slice ai m ci) m xs (by rfl) ((hoW.alloc _).drew) ⟨W5.heap.size, 0, none⟩ 1 1 [.int .i64 0, .string ⟨#[]⟩, .slice none 0 0, .slice none 0 0] (by rfl) (by rfl) (World.news_of_block (cs := #[.int .i64 0, .string ⟨#[]⟩, .slice none 0 0, .slice none 0 0]) (t := 63) (fr := (0, 0)) (heap_alloc_new W5 _)) (by simp [Value.oneCell']) (by omega) (by unfold maxLen; omega) (by omega) (by simp; omega) (W5.heap.size + 1) (by simp) ?_; intro g cap w6 hown hgrow hat hltg; obtain ⟨q0, q1, q2, q3⟩ := row_cells4 hown HXL.out; obtain ⟨z1, z2, z3, z4⟩ := apart_g hat hIbv hIbx hbv5 hs5; have y0 := ((hgrow.cell_far ⟨w3.heap.size, 0, none⟩ (by simp; omega) (Ne.symm hIbx)).trans (World.cell?_alloc_old W5 _ ⟨w3.heap.size, 0, none⟩ (by show w3.heap.size ≠ _; omega))).trans hx0; have y1 := ((hgrow.cell_far ⟨w3.heap.size, 1, none⟩ (by simp; omega) (Ne.symm hIbx)).trans (World.cell?_alloc_old W5 _ ⟨w3.heap.size, 1, none⟩ (by show w3.heap.size ≠ _; omega))).trans hx1; have y2 := ((hgrow.cell_far ⟨w3.heap.size, 2, none⟩ (by simp; omega) (Ne.symm hIbx)).trans (World.cell?_alloc_old W5 _ ⟨w3.heap.size, 2, none⟩ (by show w3.heap.size ≠ _; omega))).trans hx2; have y3 := ((hgrow.cell_far ⟨w3.heap.size, 3, none⟩ (by simp; omega) (Ne.symm hIbx)).trans (World.cell?_alloc_old W5 _ ⟨w3.heap.size, 3, none⟩ (by show w3.heap.size ≠ _; omega))).trans hx3; have cbv := ((hgrow.cell_far ⟨bv, 2, none⟩ (by simp; omega) (Ne.symm hIbv)).trans (World.cell?_alloc_old W5 _ ⟨bv, 2, none⟩ (by show bv ≠ _; omega))).trans hcv; have pbv := ((hgrow.frozen_far ⟨bv, 2, none⟩ (by simp; omega) (Ne.symm hIbv)).trans (World.frozen?_alloc_old W5 _ ⟨bv, 2, none⟩ (by show bv ≠ _; omega))).trans hfv; have p0 := hown.frozenAt (m * 4); have p1 := hown.frozenAt (m * 4 + 1); have p2 := hown.frozenAt (m * 4 + 2); have p3 := hown.frozenAt (m * 4 + 3); have HN := Lib.hid hown; have HGR := Lib.hid hgrow; have HAT := Lib.hid hat; clear hown hgrow hat hltg)
    all_goals (go_wp2; go_ret)
    all_goals (
      have hc6 : Chg (fun k => (Value.slice ai m ci).ownBlock = some k) W5 w6 := (((Chg.refl _ W5).alloc _).drew).grown HGR.out (fun k hk => .inl hk)
      obtain ⟨PA, PB⟩ := item_put (k0 := 6) (a := .int .i64 k) (b := .string t0) (c := .slice x1 n1 c1) (d := .slice x2 n2 c2) (lo := w2.heap.size) (hi := w3.heap.size) (own := fun k => (Value.slice (some ⟨gk, 0, none⟩) (m + 1) capk).ownBlock = some k) (by omega) (Nat.le_trans hle C2.out.size) (by omega) I5.out (fun k hk => ⟨(HF.out k hk.1).1, fun e => by
          simp only [Value.ownBlock, Option.some.injEq] at e
          have := hk.2
          have := HS3.out
          rcases HA4.out with e4 | e4
          · exact (HF.out k hk.1).2.1 (by rw [← e]; exact e4)
          · rw [size_alloc] at e4; have := HSZ.out; omega, (HF.out k hk.1).2.2⟩) (by rw [List.length_map]; exact HM.out) (fun k hk => ⟨(HIL.out k hk).1, Nat.lt_of_lt_of_le (HIL.out k hk).2 C2.out.size⟩) (fun k hk e => HIG.out (by simp only [Value.ownBlock, Option.some.injEq] at hk; rw [hk]; exact e))
          (fun k hk => by simp only [Value.ownBlock, Option.some.injEq] at hk; have := GLO.out; have := C2.out.size; omega) (fun k hk => by simp only [Value.ownBlock, Option.some.injEq] at hk; omega) R5.out HN.out hc6 (by rcases HAT.out with e | e; exact .inl e; exact .inr (by omega))
      have FF := fun w' hP => FIN.out HXR.out w2 w3 W5 w' (.int .i64 k) (.string t0) (.slice x1 n1 c1) (.slice x2 n2 c2) ev (.slice ai m ci) (.slice (some ⟨g, 0, none⟩) (m + 1) cap) (.slice ak m ck) (.slice (some ⟨gk, 0, none⟩) (m + 1) capk) C2.out HSET.out HG.out.2 HG.out.1 C5.out (fun k hk => (HKL.out k hk).1) (fun k hk => (HIL.out k hk).1) hP (by rw [← HM.out]; exact K5.out)
        (fun k hk e => HIG.out (by simp only [Value.ownBlock, Option.some.injEq] at hk; rw [hk]; exact e)) (fun v hv => HoldsC.chg C5.out (fun k hk e => by
          have := C2.out.size
          rcases e with e | e
          · have := (HKL.out k e).2; omega
          · omega) v _ _ _ _ hv) ⟨_, _, _, rfl⟩ ⟨_, _, _, rfl⟩
      show saysA w1 q S r lev (fun k => k = q ∨ k = mp ∨ k = bv ∨ bL ≤ k) (StO bL br bm bv q mp) (WkV bv) R (.returned ev) _
      first
      | (with_reducible exact FF _ PA)
      | (with_reducible exact FF _ PB))
end Go.Proofs.YtlknngplnimdpaaGreatDoor

/- Layer 11: an object. -/
namespace Go.Proofs.YtlknngplnimdpaaGreatDoor
open Go.RowKit

theorem enter_object1 (args : Array Value) (w : World) : (callFunc 159 args).run Tryz.prog w = .ok (.enter 159 args) w := by kernel_rfl
theorem part_object {n lev bL br bm bv q mp : Nat} (V : ValOk n) (hlev : lev + 1 ≤ 16) (S : Bs) (hS : okS S) (hq : 10 ≤ q) (o1 : q < br) (o2 : br < bv) (o3 : bv < mp) (o4 : mp < bm) (o5 : bm < bL) :
    Part q S (lev + 1) (fun k => k = q ∨ k = mp ∨ k = bv ∨ bL ≤ k) (StO bL br bm bv q mp) (WkV bv) (fun acc r => acc.length + r.length ≤ 65536) 159 #[.pointer (some ⟨br, 0, none⟩), .pointer (some ⟨bm, 0, none⟩), .pointer (some ⟨bv, 0, none⟩)] (stepO n (valP n (lev + 1))) where
  enter := enter_object1
  weak := fun a w h => by
    obtain ⟨I, K, hr, hk, ⟨xs, F, ho, _, _⟩, _⟩ := h.row
    obtain ⟨x, c, rfl⟩ := owns_form ho
    obtain ⟨x, c, rfl⟩ := owns_form hk
    exact ⟨_, _, _, _, _, _, _, _, hr⟩
  kept := fun a w1 w2 h hc => h.kept o1 o2 o3 o4 o5 hc
  own := .inl rfl
  env := fun k hk => by omega
  sub := fun a r x hs hB => by have := hs.length_le; omega
  go := fun a r a' x hB hs => by
    unfold stepO at hs
    cases hk : keyP n (a.map (·.1)) r with
    | none => rw [hk] at hs; cases hs
    | some K =>
      rw [hk] at hs
      cases K with
      | bad code y => cases hs
      | ok t y =>
        have h1 := (key_ok hk).2.2
        cases hv : valP n (lev + 1) y with
        | none => simp only [hv] at hs; cases hs
        | some Q =>
          simp only [hv] at hs
          cases Q with
          | bad code z => cases hs
          | ok v z =>
            have hlt := (val_ok n (lev + 1) y v z hlev hv).2.2
            cases hs
            rw [List.length_append, List.length_singleton]
            omega
  call := fun a r R w1 hE h hst hB hs => object1_any V hlev S hS hq o1 o2 o3 o4 o5 a r R w1 hE h hst hB hs
theorem keys_holds {w : World} {bL n : Nat} {K : Value} {keys : List Bs} (h : w.ownsRow bL 9 1 K n (keysV keys)) (hn : n = keys.length) : HoldsK w (fun k => bL ≤ k ∧ k < w.heap.size) keys K := by
  subst hn
  have hl := h.lt
  rcases h.2 with ⟨hv, hn⟩ | ⟨g, cap, cur, hv, hb, _⟩
  · exact .inl ⟨hv, List.eq_nil_of_length_eq_zero hn⟩
  · refine .inr ⟨⟨g, 0, none⟩, cap, hv, fun i hi => ⟨⟨hb, (hl g (by rw [hv]; rfl)).2⟩, ?_⟩⟩
    have := h.cells (g := g) (by rw [hv]; rfl) i (.string (str (keys.getD i []))) (by
      unfold keysV
      rw [List.getElem?_map, List.getElem?_eq_getElem hi, List.getD_eq_getElem?_getD, List.getElem?_eq_getElem hi]
      rfl)
    simpa [Addr.add] using this
theorem object_parts {n lev q bL br bm bv mp res : Nat} {w w1 : World} {S l : Bs} {R : Res JV} (V : ValOk n) (hS : okS S) (hE : Env w1) (hq : 10 ≤ q) (hqw : q < w.heap.size) (h : RdAt w1 q S l lev) (hlev : lev ≤ 16) (hne : l ≠ [])
    (hC : Chg (· = q) w w1) (hbr : w.heap.size ≤ br) (o2 : br < bv) (o3 : bv < mp) (o4 : mp < bm) (o5 : bm < bL) (hres : w.heap.size ≤ res) (hn3 : res ≠ bv) (hn4 : res ≠ mp) (hn5 : res < bL) (hbL : w1.heap.size = bL)
    (hB : rowC w1 br #[.pointer (some ⟨q, 0, none⟩)] 118) (hM : rowC w1 bm #[.map (some mp)] 231) (hSet : SetM w1 mp []) (hV : rowC w1 bv #[.int .i64 6, .string ⟨#[]⟩, .slice none 0 0, .slice none 0 0] 63) (hZ : rowC w1 res zeroV4 63)
    (hR : (if lev = 16 then some (.bad 11 l) else (partsP 125 (stepO n (valP n (lev + 1))) n true [] l.tail).map (Res.map mkO)) = some R) :
    Calls Tryz.prog 157 #[.pointer (some ⟨q, 0, none⟩), .int .u8 125, .func (.func 159) #[] #[.pointer (some ⟨br, 0, none⟩), .pointer (some ⟨bm, 0, none⟩), .pointer (some ⟨bv, 0, none⟩)]] w1 fun e w3 => boxed w bv res q S l lev R e w3 := by
  by_cases h16 : lev = 16
  · rw [if_pos h16, Option.some.injEq] at hR
    subst h16
    refine (parts_deep h).mono ?_
    rintro e w2 ⟨rfl, rfl⟩
    refine ⟨6, ⟨#[]⟩, none, 0, 0, none, 0, 0, _, rfl, Lib.hid ⟨hV, hZ, fun w' hc => ?_⟩⟩
    exact saysV_bad hR.symm ⟨_, _, _, _, _, _, _, _, rfl⟩ ⟨⟨l, 16, h.chg hc (by omega), List.suffix_refl _⟩, hC.trans hc (fun k hk e => by omega)⟩
  · rw [if_neg h16] at hR
    cases hp : partsP 125 (stepO n (valP n (lev + 1))) n true [] l.tail with
    | none => rw [hp] at hR; cases hR
    | some Q =>
      rw [hp] at hR
      have hR' : R = Res.map mkO Q := (Option.some.inj hR).symm
      have hl := h.suf.length_le
      have hSS := hS
      unfold okS at hSS
      have P := part_object (lev := lev) (br := br) (bm := bm) (bv := bv) (bL := bL) (q := q) (mp := mp) V (by omega) S hS hq (by omega) o2 o3 o4 o5
      refine (parts_any (a := ([] : List (Bs × JV))) hS hE hq h (by omega) hne (.inr rfl) 125 rfl P ⟨by omega, hB, hM, hSet, _, _, hV, World.ownsRow_nil _ _ _ _, RowJ.nil _ _ _⟩ (show [].length + l.tail.length ≤ 65536 by rw [List.length_tail]; simp; omega) hp).mono ?_
      intro e w3 hA
      cases Q with
      | bad code x =>
        obtain ⟨rfl, ⟨y, l2, h2, hs⟩, hc, ⟨k, t, x1, n1, c1, x2, n2, c2, hrow⟩⟩ := hA
        refine ⟨k, t, x1, n1, c1, x2, n2, c2, _, rfl, Lib.hid ⟨hrow, hc.rowC hZ (by omega), fun w' hc' => ?_⟩⟩
        exact saysV_bad hR' ⟨_, _, _, _, _, _, _, _, rfl⟩ ⟨⟨y, l2, h2.chg hc' (by omega), hs⟩, (hC.trans hc (fun k hk e => by omega)).trans hc' (fun k hk e => by omega)⟩
      | ok acc x =>
        obtain ⟨rfl, h2, hst, hc, hs⟩ := hA
        obtain ⟨I, K, hr, hk, hj⟩ := hst.row
        obtain ⟨ai, ci, rfl⟩ := owns_form hj.ex.choose_spec.choose_spec.1
        obtain ⟨ak, ck, rfl⟩ := owns_form hk
        refine ⟨6, ⟨#[]⟩, ai, _, ci, ak, _, ck, _, rfl, Lib.hid ⟨hr, hc.rowC hZ (by omega), fun w' hc' => ?_⟩⟩
        have hj' := (hj.chg hc' (fun k hk => .inl (by omega))).holds
        have hk' := keys_holds (hc'.owns hk (fun g hg e => by have := (hk.lt g hg).1; omega)) (keys := acc.map (·.1)) (by rw [List.length_map])
        refine saysV_ok hR' ⟨_, _, _, _, rfl, ?_⟩ ⟨h2.chg hc' (by omega), (hC.trans hc (fun k hk e => by omega)).trans hc' (fun k hk e => by omega)⟩
        unfold mkO
        rw [HoldsC]
        refine ⟨rfl, rfl, by simp, hk'.mono (fun k hk hlt => ⟨by have := hC.size; omega, hlt⟩), ?_⟩
        rcases hj' with ⟨h5, h6⟩ | ⟨ad, cap, h5, h6⟩
        · exact .inl ⟨h5, h6⟩
        · exact .inr ⟨ad, cap, h5, HoldsR.mono (fun k hk hlt => ⟨by have := hC.size; omega, hlt⟩) _ _ _ h6⟩
set_option maxRecDepth 100000 in
set_option maxHeartbeats 4000000 in
theorem object_any {n lev q : Nat} {w : World} {S l : Bs} {R : Res JV} (V : ValOk n) (hS : okS S) (hE : Env w) (hq : 10 ≤ q) (h : RdAt w q S l lev) (hlev : lev ≤ 16) (hne : l ≠ [])
    (hR : (if lev = 16 then some (.bad 11 l) else (partsP 125 (stepO n (valP n (lev + 1))) n true [] l.tail).map (Res.map mkO)) = some R) :
    Calls Tryz.prog 136 #[.pointer (some ⟨q, 0, none⟩)] w fun e w' => saysV w q S l lev R e w' := by
  have hqw := h.lt
  obtain ⟨W0, hW0⟩ : ∃ W0, W0 = ((w.alloc (.cells #[.pointer (some ⟨q, 0, none⟩)] 118)).alloc (.cells #[.int .i64 0, .string ⟨#[]⟩, .slice none 0 0, .slice none 0 0] 63)).alloc (.cells #[.int .i64 6, .string ⟨#[]⟩, .slice none 0 0, .slice none 0 0] 63) := ⟨_, rfl⟩
  have hs0 : W0.heap.size = w.heap.size + 1 + 1 + 1 := by rw [hW0]; simp
  obtain ⟨W1, hW1⟩ : ∃ W1, W1 = (W0.alloc (.map #[] 0)).alloc (.cells #[.map (some (w.heap.size + 1 + 1 + 1))] 231) := ⟨_, rfl⟩
  have hs1 : W1.heap.size = w.heap.size + 1 + 1 + 1 + 1 + 1 := by rw [hW1]; simp [hs0]
  have A0 : Chg (fun _ => False) w W1 := by rw [hW1, hW0]; exact (((((Chg.refl _ w).alloc _).alloc _).alloc _).alloc _).alloc _
  have B0 : rowC W1 w.heap.size #[.pointer (some ⟨q, 0, none⟩)] 118 := by rw [hW1, hW0]; exact rowC_alloc (rowC_alloc (rowC_alloc (rowC_alloc (rowC_new w _ _) _) _) _) _
  have R0 : rowC W1 (w.heap.size + 1) zeroV4 63 := by
    rw [hW1, hW0, ← size_alloc w (.cells #[.pointer (some ⟨q, 0, none⟩)] 118)]
    exact rowC_alloc (rowC_alloc (rowC_alloc (rowC_new _ _ _) _) _) _
  have V0' : rowC W0 (w.heap.size + 1 + 1) #[.int .i64 6, .string ⟨#[]⟩, .slice none 0 0, .slice none 0 0] 63 := by
    rw [hW0, ← size_alloc w (.cells #[.pointer (some ⟨q, 0, none⟩)] 118), ← size_alloc (w.alloc _) (.cells #[.int .i64 0, .string ⟨#[]⟩, .slice none 0 0, .slice none 0 0] 63)]
    exact rowC_new _ _ _
  have V0 : rowC W1 (w.heap.size + 1 + 1) #[.int .i64 6, .string ⟨#[]⟩, .slice none 0 0, .slice none 0 0] 63 := by rw [hW1]; exact rowC_alloc (rowC_alloc V0' _) _
  have S0 : SetM W1 (w.heap.size + 1 + 1 + 1) [] := by
    rw [hW1, ← hs0]
    exact World.ownsMap.alloc (World.ownsMap_made W0 _ _ _) _
  have M0 : rowC W1 (w.heap.size + 1 + 1 + 1 + 1) #[.map (some (w.heap.size + 1 + 1 + 1))] 231 := by
    rw [hW1, ← hs0, ← size_alloc W0 (.map #[] 0)]
    exact rowC_new _ _ _
  have E0 : Env W1 := hE.chg A0 (fun _ _ => id)
  have H0 : RdAt W1 q S l lev := h.chg A0 (fun e => e)
  have C := object_parts (bL := W1.heap.size) V hS E0 hq hqw H0 hlev hne (A0.mono (fun k _ hk => hk.elim)) (br := w.heap.size) (bv := w.heap.size + 1 + 1) (mp := w.heap.size + 1 + 1 + 1) (bm := w.heap.size + 1 + 1 + 1 + 1) (res := w.heap.size + 1) (Nat.le_refl _) (by omega) (by omega) (by omega) (by omega) (by omega) (by omega) (by omega) (by omega) rfl B0 M0 S0 V0 R0 hR
  have HW0 := Lib.hid hW0
  have HW1 := Lib.hid hW1
  have HI := Lib.hid info_V
  have c0 := rowC_cell B0 0
  have HS0 := Lib.hid hs0
  have hmm := @run_makeMap Tryz.prog
  clear hR hW0 hW1 A0 B0 R0 V0' V0 S0 M0 E0 H0 hs0 hs1 h hE
  go_enter Tryz.func136, Tryz.ntmps136
  go_upto_region 2 with (fail)
  rw [← HW0.out]
  go_upto_region 3 with (fail)
  rw [HS0.out, ← HW1.out]
  go_wp2_with (first
    | (go_at_call 157; ((with_reducible refine C.mono ?_); rintro e w3 ⟨k, t, x1, n1, c1, x2, n2, c2, ev, rfl, HB⟩))
    | ((with_reducible show wpList _ _ _ (⟨some 12, .load _ (.tmp 4), _, _, _, _⟩ :: _) _ _); refine wpList_load_row rfl 63 _ rfl (w.heap.size + 1 + 1) rfl 63 (row4 k t x1 n1 c1 x2 n2 c2) (0, 0) _ HB.out.1 Tryz.underlying63 rfl HI.out ?_)
    | ((with_reducible show wpList _ _ _ (⟨none, .store _ (.tmp 2) _, _, _, _, _⟩ :: _) _ _); refine wpList_store_row rfl 63 _ _ rfl (w.heap.size + 1) (row4 k t x1 n1 c1 x2 n2 c2) rfl rfl 63 zeroV4 HB.out.2.1 HI.out rfl (row4_all _ _ _ _ _ _ _ _) ?_))
  refine bodyPost_ret (results_row_tmp rfl _ _ (w.heap.size + 1) 63 (row4 k t x1 n1 c1 x2 n2 c2) _ rfl (rowC_setRow HB.out.2.1 _) Tryz.underlying63 rfl HI.out ev rfl) rfl ?_
  exact HB.out.2.2 _ ((Chg.refl _ _).setRow _ _ (.inl rfl))
end Go.Proofs.YtlknngplnimdpaaGreatDoor

/- Layer 13: an item is put to a row of values, copied out of a row of its own; where a key stands; keys, cloned. -/
namespace Go.Proofs.YtlknngplnimdpaaGreatDoor
open Go.RowKit

/-- An item is put to the end of what was gathered: all four cells at once. -/
theorem RowJ.app {w w' : World} {bL : Nat} {I : Value} {acc : List JV} {own : Nat → Prop} {x : JV} {a b c d : Value} {lo hi g cap n : Nat} {xs : List Value} {F : Nat → Prop}
    (hI : ItemsC w F acc xs) (hF : ∀ k, F k → bL ≤ k ∧ ¬ own k ∧ I.ownBlock ≠ some k) (hn : acc.length = n)
    (hx : HoldsC w (fun k => lo ≤ k ∧ k < hi) x a b c d) (hlo : bL ≤ lo) (hhi : hi ≤ w.heap.size) (hown : ∀ k, own k → k < lo ∨ hi ≤ k) (hIo : ∀ k, I.ownBlock = some k → k < lo)
    (h1 : w'.ownsRow bL 63 4 (.slice (some ⟨g, 0, none⟩) (n + 1) cap) (n + 1) (xs ++ [a, b, c, d])) (hc1 : Chg (fun k => I.ownBlock = some k) w w') (hat : I.ownBlock = some g ∨ w.heap.size ≤ g) (hno : ¬ own g) :
    RowJ w' bL (.slice (some ⟨g, 0, none⟩) (n + 1) cap) (acc ++ [x]) own := by
  have ne1 : ∀ k, ((F k ∧ k < w.heap.size) ∨ (lo ≤ k ∧ k < hi)) → ¬ I.ownBlock = some k := by
    rintro k (⟨hk, _⟩ | ⟨hk1, _⟩) e
    · exact (hF k hk).2.2 e
    · have := hIo k e; omega
  refine ⟨⟨xs ++ [a, b, c, d], fun k => (F k ∧ k < w.heap.size) ∨ (lo ≤ k ∧ k < hi), ?_, ItemsC.snoc ?_ acc xs ?_, ?_⟩, ?_⟩
  · rw [List.length_append, List.length_singleton, hn]
    exact h1
  · exact HoldsC.chg hc1 ne1 x _ _ _ _ (HoldsC.mono (fun k hk _ => .inr hk) x _ _ _ _ hx)
  · exact ItemsC.chg hc1 ne1 acc xs (ItemsC.mono (fun k hk hlt => .inl ⟨hk, hlt⟩) acc xs hI)
  · rintro k (⟨hk, hlt⟩ | ⟨hk1, hk2⟩)
    · refine ⟨(hF k hk).1, (hF k hk).2.1, fun e => ?_⟩
      simp only [Value.ownBlock, Option.some.injEq] at e
      subst e
      rcases hat with hat | hat
      · exact (hF _ hk).2.2 hat
      · omega
    · refine ⟨by omega, fun ho => by have := hown k ho; omega, fun e => ?_⟩
      simp only [Value.ownBlock, Option.some.injEq] at e
      subst e
      rcases hat with hat | hat
      · have := hIo _ hat; omega
      · omega
  · intro k hk e
    simp only [Value.ownBlock, Option.some.injEq] at e
    subst e
    exact hno hk
/-- A value that is gathered in a box: what a round that puts an item to it leaves. bL: the blocks of the call's own, from the loop on. -/
def GrB (W : World) (bc bL : Nat) (k : Int) (T : ByteArray) (D : Value) (acc : List JV) (w : World) : Prop :=
  ∃ I, Chg (fun q => q = bc) W w ∧ rowC w bc #[.int .i64 k, .string T, I, D] 63 ∧ RowJ w bL I acc (fun _ => False)
theorem row_round {W wr W1 w5 w7 : World} {bc bL j g cap ci n2 c2 n3 c3 : Nat} {k k2 : Int} {T t2 : ByteArray} {D : Value} {xi y2 y3 : Option Addr} {acc : List JV} {x : JV} {xs : List Value} {F : Nat → Prop} {o2 : Obj}
    (hW : W.heap.size = bL) (hbc : bc < bL) (hG : Chg (fun q => q = bc) W wr) (hR : rowC wr bc #[.int .i64 k, .string T, .slice xi j ci, D] 63)
    (ho : wr.ownsRow bL 63 4 (.slice xi j ci) j xs) (hI : ItemsC wr F acc xs) (hF : ∀ q, F q → bL ≤ q ∧ ¬ False ∧ (Value.slice xi j ci).ownBlock ≠ some q) (hn : acc.length = j)
    (h1 : Chg (fun _ => False) wr W1) (h5 : Chg (fun _ => False) W1 w5) (hx : HoldsC w5 (fun q => W1.heap.size ≤ q ∧ q < w5.heap.size) x (.int .i64 k2) (.string t2) (.slice y2 n2 c2) (.slice y3 n3 c3))
    (ho7 : w7.ownsRow bL 63 4 (.slice (some ⟨g, 0, none⟩) (j + 1) cap) (j + 1) (xs ++ [.int .i64 k2, .string t2, .slice y2 n2 c2, .slice y3 n3 c3])) (hg7 : (w5.alloc o2).grownBy w7 (Value.slice xi j ci).ownBlock) (hat : (Value.slice xi j ci).ownBlock = some g ∨ g = w5.heap.size + 1) :
    GrB W bc bL k T D (acc ++ [x]) (w7.setCell ⟨bc, 2, none⟩ (.slice (some ⟨g, 0, none⟩) (j + 1) cap)) := by
  have s1 := h1.size
  have s5 := h5.size
  have sw := hG.size
  have sa : (w5.alloc o2).heap.size = w5.heap.size + 1 := size_alloc _ _
  have c15 : Chg (fun _ => False) wr (w5.alloc o2) := (h1.trans h5 (fun _ _ h => h)).alloc _
  have hIlt : ∀ q, (Value.slice xi j ci).ownBlock = some q → bL ≤ q ∧ q < wr.heap.size := fun q hq => ho.lt q hq
  have c7 : Chg (fun q => (Value.slice xi j ci).ownBlock = some q) (w5.alloc o2) w7 := (Chg.refl _ _).grown hg7 (fun q hq => .inl hq)
  have cw7 : Chg (fun q => (Value.slice xi j ci).ownBlock = some q) wr w7 := (c15.mono (fun _ _ h => h.elim)).trans c7 (fun q _ hq => hq)
  have hnbc : (Value.slice xi j ci).ownBlock ≠ some bc := fun e => by have := (hIlt bc e).1; omega
  have r7 := cw7.rowC hR hnbc
  refine ⟨_, ?_, rowC_set r7 2 _, ?_⟩
  · exact (hG.trans cw7 (fun q hq e => by have := (hIlt q e).1; omega)).cellq 2 _
  · refine RowJ.chg ?_ ((Chg.refl (fun q => q = bc) w7).cellq 2 _) (fun q hq => .inl (by omega))
    refine RowJ.app (ItemsC.chg c15 (fun _ _ h => h) acc xs (ItemsC.mono (G := fun q => F q ∧ q < wr.heap.size) (fun q hq hlt => ⟨hq, hlt⟩) acc xs hI)) (fun q hq => hF q hq.1) hn (HoldsC.chg ((Chg.refl (fun _ => False) w5).alloc o2) (fun _ _ h => h) x _ _ _ _ hx) (by omega) (by omega) (fun q hq => hq.elim) (fun q hq => by have := (hIlt q hq).2; omega) ho7 c7 ?_ id
    rcases hat with hat | hat
    · exact .inl hat
    · exact .inr (by omega)
/-- Where a key stands first. -/
def fstK : List Bs → Bs → Nat → Int
  | [], _, _ => -1
  | k :: ks, key, i => if k = key then (i : Int) else fstK ks key (i + 1)
theorem fstK_le : ∀ (ks : List Bs) (key : Bs) (i : Nat), fstK ks key i = -1 ∨ ((i : Int) ≤ fstK ks key i ∧ fstK ks key i < (i + ks.length : Nat))
  | [], _, _ => .inl rfl
  | k :: ks, key, i => by
    rw [fstK]
    by_cases h : k = key
    · rw [if_pos h]
      exact .inr ⟨by omega, by rw [List.length_cons]; omega⟩
    · rw [if_neg h]
      rcases fstK_le ks key (i + 1) with e | ⟨e1, e2⟩
      · exact .inl e
      · refine .inr ⟨by omega, ?_⟩
        rw [List.length_cons]
        omega
theorem getL_fst : ∀ (ks : List Bs) (xs : List JV) (key : Bs) (i : Nat), getL ks xs key = if fstK ks key i < 0 then none else xs[(fstK ks key i).toNat - i]?
  | [], xs, key, i => by rw [fstK, if_pos (by decide)]; simp [getL]
  | k :: ks, [], key, i => by
    rw [show getL (k :: ks) [] key = none by simp [getL]]
    split
    · rfl
    · simp
  | k :: ks, x :: xs, key, i => by
    rw [getL, fstK]
    by_cases h : k = key
    · rw [if_pos h, if_pos h, if_neg (by omega)]
      simp
    · rw [if_neg h, if_neg h, getL_fst ks xs key (i + 1)]
      rcases fstK_le ks key (i + 1) with e | ⟨e1, e2⟩
      · rw [e, if_pos (by decide), if_pos (by decide)]
      · rw [if_neg (by omega), if_neg (by omega), show (fstK ks key (i + 1)).toNat - i = ((fstK ks key (i + 1)).toNat - (i + 1)) + 1 by omega, List.getElem?_cons_succ]
theorem fstK_step {ks : List Bs} {key : Bs} {n : Nat} (hn : n < ks.length) (h : ks.getD n [] ≠ key) : fstK (ks.drop n) key n = fstK (ks.drop (n + 1)) key (n + 1) := by
  rw [List.drop_eq_getElem_cons hn, fstK, if_neg]
  rw [List.getD_eq_getElem?_getD, List.getElem?_eq_getElem hn] at h
  exact h
theorem fstK_hit {ks : List Bs} {key : Bs} {n : Nat} (hn : n < ks.length) (h : ks.getD n [] = key) : fstK (ks.drop n) key n = (n : Int) := by
  rw [List.drop_eq_getElem_cons hn, fstK, if_pos]
  rw [List.getD_eq_getElem?_getD, List.getElem?_eq_getElem hn] at h
  exact h
set_option maxRecDepth 100000 in
set_option maxHeartbeats 4000000 in
/-- slices.Index, of texts. -/
theorem sindex_any {w : World} {F : Nat → Prop} {keys : List Bs} {key : Bs} {x : Option Addr} {c : Nat} (hx : ∀ i, i < keys.length → ∃ ad, x = some ad ∧ F ad.block ∧ w.cell? (ad.add i) = some (.string (str (keys.getD i [])))) (hl : keys.length ≤ 65536) :
    Calls Tryz.prog 112 #[.slice x keys.length c, .string (str key)] w fun e w' => e = .returned (.int .i64 (fstK keys key 0)) ∧ Below w.heap.size w w' := by
  have HX := Lib.hid hx
  have HL := Lib.hid hl
  clear hx hl
  go_enter Tryz.func112, Tryz.ntmps112
  go_wp2
  go_loopg [8] keys.length (fun kk s8 wr => ∃ n : Nat, s8 = .int .i64 (n : Int) ∧ Hid (kk = keys.length - n) ∧ Hid (n ≤ keys.length) ∧ Hid (fstK keys key 0 = fstK (keys.drop n) key n) ∧ Hid (∃ m, wr = w.drewN m))
  case atStart => exact ⟨0, rfl, Lib.hid rfl, Lib.hid (Nat.zero_le _), Lib.hid (by rw [List.drop_zero]), Lib.hid ⟨0, rfl⟩⟩
  case round =>
    obtain ⟨n, rfl, HN, HNL, HK, HM⟩ := hrel
    by_cases hn : n < keys.length
    · obtain ⟨ad, rfl, _, h1⟩ := HX.out n hn
      have hn1 : (n : Int) < (keys.length : Int) := by omega
      have hn2 : (n : Int) + 1 ≤ 65536 := by have := HL.out; omega
      have e1 : wr.cell? (ad.add n) = some (.string (str (keys.getD n []))) := by obtain ⟨m, rfl⟩ := HM.out; exact h1
      have HKK := Lib.hid (show n + 1 ≤ keys.length from hn)
      by_cases hk : keys.getD n [] = key
      · have HR := Lib.hid (HK.out.trans (fstK_hit hn hk))
        rw [hk] at e1
        clear hn h1 hk
        go_wp2
        go_ret
        obtain ⟨m, rfl⟩ := HM.out
        rw [HR.out]
        exact ⟨rfl, below_drewN (Below.refl _ _) _⟩
      · have HR := Lib.hid (HK.out.trans (fstK_step hn hk))
        have hnb : ((str key).toList == (str (keys.getD n [])).toList) = false := by rw [eq_texts]; exact decide_eq_false (fun e => hk e.symm)
        generalize keys.getD n [] = kt at *
        clear hn h1 hk
        go_wp2
        go_roundg (keys.length - (n + 1))
        case measure => rw [HN.out]; have := HKK.out; omega
        case rel => exact ⟨n + 1, rfl, Lib.hid rfl, HKK, HR, HM⟩
    · have hn1 : ¬ (n : Int) < (keys.length : Int) := by omega
      have HR : Hid (fstK keys key 0 = -1) := Lib.hid (by rw [HK.out, List.drop_eq_nil_of_le (by omega)]; rfl)
      clear hn
      go_wp2
      go_ret
      obtain ⟨m, rfl⟩ := HM.out
      rw [HR.out]
      exact ⟨rfl, below_drewN (Below.refl _ _) _⟩
end Go.Proofs.YtlknngplnimdpaaGreatDoor

/- Layer 13: keys, cloned. -/
namespace Go.Proofs.YtlknngplnimdpaaGreatDoor
open Go.RowKit

theorem nil_none (n c : Nat) (w : World) : (binOp .eql 61 (.slice none n c) (.slice none 0 0)).run Tryz.prog w = .ok (.bool true) w := by
  rw [Lib.run_eql_slice_nil w _ _ none n c 0 0 Tryz.underlying61]
  rfl
theorem nil_some (ad : Addr) (n c : Nat) (w : World) : (binOp .eql 61 (.slice (some ad) n c) (.slice none 0 0)).run Tryz.prog w = .ok (.bool false) w := by
  rw [Lib.run_eql_slice_nil w _ _ (some ad) n c 0 0 Tryz.underlying61]
  rfl
set_option maxRecDepth 100000 in
set_option maxHeartbeats 4000000 in
/-- slices.Clone, of keys. -/
theorem clonek_any {w : World} {F : Nat → Prop} {keys : List Bs} {V : Value} (hK : HoldsK w F keys V) (hl : keys.length ≤ 65536) :
    Calls Tryz.prog 147 #[V] w fun e w' => ∃ y m d, e = .returned (.slice y m d) ∧ HoldsK w' (fun k => w.heap.size ≤ k ∧ k < w'.heap.size) keys (.slice y m d) ∧ Below w.heap.size w w' := by
  rcases hK with ⟨rfl, rfl⟩ | ⟨ad, cap, rfl, hc⟩
  · have q0 := nil_none
    go_enter Tryz.func147, Tryz.ntmps147
    go_wp2
    go_ret
    exact ⟨none, 0, 0, rfl, .inl ⟨rfl, rfl⟩, Below.refl _ _⟩
  · have q0 := nil_some
    have A := Lib.hid hc
    have hle : keys.length ≤ maxLen := by unfold maxLen; omega
    obtain ⟨i0, hi, hz0, hz1, hz2⟩ := info_parts info_S1
    clear hc
    go_enter Tryz.func147, Tryz.ntmps147
    go_wp2_with ((with_reducible show wpList _ _ _ (⟨some 7, _, _, _, _, _⟩ :: _) _ _); refine wpList_append_own _ rfl _ _ 61 rfl w.heap.size 9 i0 (.string ⟨#[]⟩) 1 16 Tryz.underlying61 hi hz0 hz1 hz2 rfl (by decide) _ _ _ rfl (World.ownsRow_made w #[] 0 (Nat.le_refl _) (Nat.zero_le _) rfl) ad keys.length cap (keysV keys) rfl ?qc1 ?qc2 ?qc3 ?qc4 ?qc5 ?qc6 ?_)
    case qc1 => unfold keysV; simp
    case qc2 =>
      intro j u hj
      unfold keysV at hj
      rw [List.getElem?_map, Option.map_eq_some_iff] at hj
      obtain ⟨t, ht, rfl⟩ := hj
      have hjl := (List.getElem?_eq_some_iff.1 ht).1
      have h1 := (A.out j hjl).2
      rw [List.getD_eq_getElem?_getD, ht] at h1
      exact Lib.cell?_alloc_some _ h1
    case qc3 => intro u hu; unfold keysV at hu; obtain ⟨x, _, rfl⟩ := List.mem_map.1 hu; rfl
    case qc4 => unfold maxLen; omega
    case qc5 => omega
    case qc6 => simp
    intro v' w1 hown hgrow hnil
    go_wp2
    go_ret
    have ho : w1.ownsRow w.heap.size 9 1 v' keys.length (keysV keys) := by simpa using hown
    obtain ⟨y, d, rfl⟩ := owns_form ho
    exact ⟨y, _, d, rfl, keys_holds ho rfl, ((Below.refl _ w).alloc (Nat.le_refl _) _).grown hgrow (by simp) (by intro k hk; simp [Value.ownBlock] at hk; omega)⟩
end Go.Proofs.YtlknngplnimdpaaGreatDoor

/- Generic: a whole row is stored at a step of a region that draws its order. -/
namespace Go.Proofs.YtlknngplnimdpaaGreatDoor
open Go.RowKit

theorem step_store_row {P : Program} {ops : Array Oper} {o : Oper} {a : Act} {w : World} {K : Act → World → Prop} {Q : Exit → Act → World → Prop} {E : Prop} (hgd : o.guard = none) (ty : TypeId) (x y : Operand) (ho : o.op = .store ty x y)
    (g : Nat) (cells : Array Value) (hx : a.eval x = .pointer (some ⟨g, 0, none⟩)) (hy : a.eval y = .agg cells)
    (t : TypeId) (old : Array Value) (hg : w.heap[g]? = some (.cells old t (0, 0))) (hi : (P.info? ty).map (·.size) = some cells.size)
    (hold : old.size = cells.size) (h1 : cells.all (·.oneCell') = true)
    (h : K (a.put o.dst undef) (w.setRow g cells)) : if Region.wanted o (yielded ops a.tmps) = true then Oper.wp P o a w K Q else E := by
  have hw : Region.wanted o (yielded ops a.tmps) = true := by simp [Region.wanted, hgd]
  rw [if_pos hw]
  exact wp_store_row ty x y ho g cells hx hy t old hg hi hold h1 h
end Go.Proofs.YtlknngplnimdpaaGreatDoor

/- Generic: a world that has grown from another, but for some blocks that may have been written. -/
namespace Go.Proofs.YtlknngplnimdpaaGreatDoor
open Go.RowKit

/-- No block. -/
abbrev no : Nat → Prop := fun _ => False
def Gn (W : World) (s : Nat → Prop) (w : World) : Prop := Chg s W w
theorem Gn.start (W : World) (s : Nat → Prop) : Gn W s W.drew := (Chg.refl _ _).drew
theorem Gn.refl (W : World) (s : Nat → Prop) : Gn W s W := Chg.refl _ _
theorem Gn.alloc {W w : World} {s : Nat → Prop} (h : Gn W s w) (o : Obj) : Gn W s (w.alloc o) := Chg.alloc h o
theorem Gn.drew {W w : World} {s : Nat → Prop} (h : Gn W s w) : Gn W s w.drew := Chg.drew h
theorem Gn.call {W w w' : World} {s : Nat → Prop} (h : Gn W s w) (hb : Below w.heap.size w w') : Gn W s w' := Chg.then_below h hb
theorem Gn.grown {W w w' : World} {s : Nat → Prop} (h : Gn W s w) {row : Option Nat} (g : w.grownBy w' row) (hr : ∀ k, row = some k → s k ∨ W.heap.size ≤ k) : Gn W s w' := Chg.grown h g hr
theorem Gn.set {W w : World} {s : Nat → Prop} (h : Gn W s w) (g : Nat) (cs : Array Value) (hg : s g ∨ W.heap.size ≤ g) : Gn W s (w.setRow g cs) := Chg.setRow h g cs hg
theorem Gn.cell {W w : World} {s : Nat → Prop} (h : Gn W s w) (p : Addr) (v : Value) (hg : s p.block ∨ W.heap.size ≤ p.block) : Gn W s (w.setCell p v) := Chg.setCell h p v hg
theorem Gn.row {W w : World} {s : Nat → Prop} {b : Nat} {cs : Array Value} {t : TypeId} (h : Gn W s w) (hr : rowC W b cs t) (hne : ¬ s b) : rowC w b cs t := Chg.rowC h hr hne
theorem Gn.size {W w : World} {s : Nat → Prop} (h : Gn W s w) : W.heap.size ≤ w.heap.size := Chg.size h
theorem Gn.below {W w : World} {s : Nat → Prop} (h : Gn W s w) {B : Nat} (hB : B ≤ W.heap.size) (hr : ∀ k, k < B → ¬ s k) : Below B W w := Chg.below h hB hr
theorem rowC_range {w : World} {b : Nat} {cs : Array Value} {t : TypeId} (h : rowC w b cs t) (o : Nat) (l : List Value) (hl : ∀ j v, l[j]? = some v → cs[o + j]? = some v) : w.rangeAt b o l := fun j v hj => by
  rw [rowC_cell h]
  exact hl j v hj
end Go.Proofs.YtlknngplnimdpaaGreatDoor

