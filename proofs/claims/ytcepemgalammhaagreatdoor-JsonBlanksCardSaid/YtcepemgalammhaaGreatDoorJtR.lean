/- Layer 11: an item of a list is read. -/
import Derived.Test.YtcepemgalammhaaGreatDoorJtQ
namespace Go.Proofs.YtcepemgalammhaaGreatDoor
open Go.RowKit
attribute [local go_sem ↓] Go.wp_at_zero Go.wp_at_succ

theorem row_cells4 {w : World} {bL g m cap : Nat} {xs : List Value} {a b c d : Value} {t : TypeId} (h : w.ownsRow bL t 4 (.slice (some ⟨g, 0, none⟩) (m + 1) cap) (m + 1) (xs ++ [a, b, c, d])) (hl : xs.length = m * 4) :
    w.cell? ⟨g, m * 4, none⟩ = some a ∧ w.cell? ⟨g, m * 4 + 1, none⟩ = some b ∧ w.cell? ⟨g, m * 4 + 2, none⟩ = some c ∧ w.cell? ⟨g, m * 4 + 3, none⟩ = some d := by
  refine ⟨?_, ?_, ?_, ?_⟩
  · rw [h.cellAt _ (by omega), List.getElem?_append_right (by omega), show m * 4 - xs.length = 0 by omega]; rfl
  · rw [h.cellAt _ (by omega), List.getElem?_append_right (by omega), show m * 4 + 1 - xs.length = 1 by omega]; rfl
  · rw [h.cellAt _ (by omega), List.getElem?_append_right (by omega), show m * 4 + 2 - xs.length = 2 by omega]; rfl
  · rw [h.cellAt _ (by omega), List.getElem?_append_right (by omega), show m * 4 + 3 - xs.length = 3 by omega]; rfl
theorem apart_g {I : Value} {g bv bx H : Nat} (hat : I.ownBlock = some g ∨ g = H + 1) (h1 : I.ownBlock ≠ some bv) (h2 : I.ownBlock ≠ some bx) (hb : bv < H) (hx : bx < H) : ¬ g = bv ∧ ¬ bv = g ∧ ¬ g = bx ∧ ¬ bx = g := by
  have k1 : ¬ g = bv := by
    intro e
    subst e
    rcases hat with h | h
    · exact h1 h
    · omega
  have k2 : ¬ g = bx := by
    intro e
    subst e
    rcases hat with h | h
    · exact h2 h
    · omega
  exact ⟨k1, fun e => k1 e.symm, k2, fun e => k2 e.symm⟩
/-- A value lies there. -/
def WkV (bv : Nat) (w : World) : Prop := ∃ (k : Int) (t : ByteArray) (x1 : Option Addr) (n1 c1 : Nat) (x2 : Option Addr) (n2 c2 : Nat), rowC w bv #[.int .i64 k, .string t, .slice x1 n1 c1, .slice x2 n2 c2] 27
/-- An item is put to a list's value: what holds behind the two stores, in either order. -/
def putJ (w2 w' : World) (bL br bv q lo : Nat) (acc : List JV) (I I' a b c d : Value) : Prop :=
  Chg (fun k => I.ownBlock = some k ∨ k = bv) w2 w' ∧ rowC w' br #[.pointer (some ⟨q, 0, none⟩)] 47 ∧ rowC w' bv #[.int .i64 5, .string ⟨#[]⟩, I', .slice none 0 0] 27 ∧
    ∀ v, HoldsC w2 (fun k => lo ≤ k ∧ k < w2.heap.size) v a b c d → RowJ w' bL I' (acc ++ [v]) (fun k => k = br ∨ k = bv)
theorem list1_put {w2 w4 : World} {bL br bv q lo m g cap : Nat} {acc : List JV} {I a b c d : Value} {xs : List Value} {F : Nat → Prop} (hne : br ≠ bv) (hlo : bL ≤ lo) (hbr : br < lo) (hbv : bv < lo)
    (hI : ItemsC w2 F acc xs) (hF : ∀ k, F k → bL ≤ k ∧ ¬ (k = br ∨ k = bv) ∧ I.ownBlock ≠ some k) (hm : m = acc.length) (hIo : ∀ k, I.ownBlock = some k → k < lo) (hIn : ∀ k, k = br ∨ k = bv → I.ownBlock ≠ some k)
    (hB : rowC w2 br #[.pointer (some ⟨q, 0, none⟩)] 47) (hR : rowC w2 bv #[.int .i64 5, .string ⟨#[]⟩, I, .slice none 0 0] 27)
    (hN : w4.ownsRow bL 27 4 (.slice (some ⟨g, 0, none⟩) (m + 1) cap) (m + 1) (xs ++ [.int .i64 0, .string ⟨#[]⟩, .slice none 0 0, .slice none 0 0]))
    (hc : Chg (fun k => I.ownBlock = some k) w2 w4) (hat : I.ownBlock = some g ∨ w2.heap.size ≤ g) :
    putJ w2 (((((w4.setCell ⟨g, m * 4, none⟩ a).setCell ⟨g, m * 4 + 1, none⟩ b).setCell ⟨g, m * 4 + 2, none⟩ c).setCell ⟨g, m * 4 + 3, none⟩ d).setCell ⟨bv, 2, none⟩ (.slice (some ⟨g, 0, none⟩) (m + 1) cap)) bL br bv q lo acc I (.slice (some ⟨g, 0, none⟩) (m + 1) cap) a b c d ∧
    putJ w2 (((((w4.setCell ⟨bv, 2, none⟩ (.slice (some ⟨g, 0, none⟩) (m + 1) cap)).setCell ⟨g, m * 4, none⟩ a).setCell ⟨g, m * 4 + 1, none⟩ b).setCell ⟨g, m * 4 + 2, none⟩ c).setCell ⟨g, m * 4 + 3, none⟩ d) bL br bv q lo acc I (.slice (some ⟨g, 0, none⟩) (m + 1) cap) a b c d := by
  have lbr := rowC_lt hB
  have lbv := rowC_lt hR
  have gn : ∀ k, k = br ∨ k = bv → ¬ k = g := by
    intro k hk e
    subst e
    rcases hat with hat | hat
    · exact hIn _ hk hat
    · rcases hk with rfl | rfl <;> omega
  have gbr : ¬ br = g := gn br (.inl rfl)
  have gbv : ¬ bv = g := gn bv (.inr rfl)
  have hg4 : I.ownBlock = some g ∨ w2.heap.size ≤ g := hat
  have b4 := hc.rowC hB (hIn br (.inl rfl))
  have r4 := hc.rowC hR (hIn bv (.inr rfl))
  have set4c : ∀ x : World, Chg (fun k => k = g) x ((((x.setCell ⟨g, m * 4, none⟩ a).setCell ⟨g, m * 4 + 1, none⟩ b).setCell ⟨g, m * 4 + 2, none⟩ c).setCell ⟨g, m * 4 + 3, none⟩ d) := fun x => ((((Chg.refl _ x).cellq _ _).cellq _ _).cellq _ _).cellq _ _
  have setb : ∀ (x : World) (v : Value), Chg (fun k => k = bv) x (x.setCell ⟨bv, 2, none⟩ v) := fun x v => (Chg.refl _ x).cellq _ _
  have own_lt : ∀ k, k = br ∨ k = bv → k < lo ∨ w2.heap.size ≤ k := by rintro k (rfl | rfl) <;> exact .inl (by assumption)
  refine ⟨⟨?_, ?_, ?_, fun v hv => ?_⟩, ⟨?_, ?_, ?_, fun v hv => ?_⟩⟩
  · exact ((hc.mono (t := fun k => I.ownBlock = some k ∨ k = bv) (fun k _ hk => .inl hk)).trans (set4c w4) (fun k hk e => by subst e; rcases hat with hat | hat; exact .inl hat; omega)).trans (setb _ _) (fun k _ hk => .inr hk)
  · exact (setb _ _).rowC ((set4c w4).rowC b4 gbr) hne
  · exact rowC_set ((set4c w4).rowC r4 gbv) 2 _
  · refine RowJ.chg (RowJ.put hI hF hm.symm hv hlo (Nat.le_refl _) own_lt hIo hN (hc.mono (fun k _ hk => .inl hk)) hat (fun hk => gn g hk rfl)) (setb _ _) (fun k hk => .inr (.inr hk))
  · exact ((hc.mono (t := fun k => I.ownBlock = some k ∨ k = bv) (fun k _ hk => .inl hk)).trans (setb w4 _) (fun k _ hk => .inr hk)).trans (set4c _) (fun k hk e => by subst e; rcases hat with hat | hat; exact .inl hat; omega)
  · exact (set4c _).rowC ((setb _ _).rowC b4 hne) gbr
  · exact (set4c _).rowC (rowC_set r4 2 _) gbv
  · refine RowJ.put hI hF hm.symm hv hlo (Nat.le_refl _) own_lt hIo ((setb w4 _).owns hN (fun k hk e => ?_)) ((hc.mono (t := fun k => I.ownBlock = some k ∨ (k = br ∨ k = bv) ∨ k < bL) (fun k _ hk => .inl hk)).trans (setb w4 _) (fun k _ hk => .inr (.inl (.inr hk)))) hat (fun hk => gn g hk rfl)
    simp only [Value.ownBlock, Option.some.injEq] at hk
    exact gbv (by rw [← e, hk])
/-- What the walk's end asks, once for all its ways. -/
theorem list1_fin {n lev bL br bv q : Nat} {S : Bs} (hlev : lev ≤ 16) (hqb : q < bL) (hbv : bv ≠ q) {acc : List JV} {r : Bs} {R : Res (List JV)} {w1 w2 w' : World} (hle1 : bL ≤ w1.heap.size) (h : RdAt w1 q S r lev) {Q : Res JV} (hv : valP n lev r = some Q)
    (hR : stepL (valP n lev) acc r = some R) {a b c d ev I I' : Value} (hG : gotV w1 q S r lev Q a b c d ev w2) (hC : Chg (· = q) w1 w2)
    (hI0 : ∀ k, I.ownBlock = some k → bL ≤ k) (hP : putJ w2 w' bL br bv q w1.heap.size acc I I' a b c d) (hf : ∃ x n c, I' = .slice x n c) :
    saysA w1 q S r lev (fun k => k = q ∨ k = bv ∨ bL ≤ k) (StL bL br bv q) (WkV bv) R (.returned ev) w' := by
  obtain ⟨hc, hbox, hrow, hj⟩ := hP
  have hq2 : ¬ (I.ownBlock = some q ∨ q = bv) := by
    rintro (e | e)
    · have := hI0 q e; omega
    · exact hbv e.symm
  have hcc : Chg (fun k => k = q ∨ k = bv ∨ bL ≤ k) w1 w' := (hC.mono (fun k _ hk => .inl hk)).trans hc (fun k _ hk => by
    rcases hk with e | e
    · exact .inr (.inr (hI0 k e))
    · exact .inr (.inl e))
  have hle := Nat.le_trans hle1 (Nat.le_trans hC.size hc.size)
  unfold stepL at hR
  rw [hv] at hR
  cases Q with
  | ok v x =>
    obtain ⟨rfl, hH, h2, _⟩ := hG
    have hlt := (val_ok n lev r v x hlev hv).2.2
    exact saysA_ok (Option.some.inj hR).symm (h2.chg hc hq2) ⟨hle, hbox, _, hrow, hj v hH⟩ hcc (suf_of h2.suf h.suf (by omega))
  | bad code x =>
    obtain ⟨rfl, ⟨y, l2, h2, hs⟩, _⟩ := hG
    exact saysA_bad (Option.some.inj hR).symm ⟨y, l2, h2.chg hc hq2, hs⟩ hcc (by obtain ⟨x, n, c, rfl⟩ := hf; exact ⟨_, _, _, _, _, _, _, _, hrow⟩)
set_option maxRecDepth 100000 in
set_option maxHeartbeats 8000000 in
theorem list1_any {n lev bL br bv q : Nat} (V : ValOk n) (hlev : lev ≤ 16) (S : Bs) (hS : okS S) (hq : 10 ≤ q) (hqb : q < bL) (hbr : br ≠ q) (hbv : bv ≠ q) (hne : br ≠ bv)
    (acc : List JV) (r : Bs) (R : Res (List JV)) (w1 : World) (hE : Env w1) (h : RdAt w1 q S r lev) (hst : StL bL br bv q acc w1) (hBd : acc.length + r.length ≤ 65536) (hR : stepL (valP n lev) acc r = some R) :
    Calls Tryz.prog 61 #[.pointer (some ⟨br, 0, none⟩), .pointer (some ⟨bv, 0, none⟩)] w1 fun e w2 => saysA w1 q S r lev (fun k => k = q ∨ k = bv ∨ bL ≤ k) (StL bL br bv q) (WkV bv) R e w2 := by
  cases hv : valP n lev r with
  | none => unfold stepL at hR; rw [hv] at hR; cases hR
  | some Q =>
    have C := V w1 q S r lev Q hS hE hq h hlev hv
    have b0 : w1.cell? ⟨br, 0, none⟩ = some (.pointer (some ⟨q, 0, none⟩)) := rowC_cell hst.box 0
    have FIN := Lib.hid (fun (w2 w' : World) (a b c d ev I I' : Value) => list1_fin (br := br) (w2 := w2) (w' := w') (a := a) (b := b) (c := c) (d := d) (ev := ev) (I := I) (I' := I') hlev hqb hbv hst.le h hv hR)
    have HLO := Lib.hid (rowC_lt hst.box)
    have HLb := Lib.hid hst.le
    have hbLw1 := hst.le
    obtain ⟨I, hr0, ⟨⟨xs, F, ho0, hI0, hF⟩, hIn⟩⟩ := hst.row
    have HLV := Lib.hid (rowC_lt hr0)
    have HIO := Lib.hid (fun k (hk : I.ownBlock = some k) => (ho0.lt k hk).2)
    have HR0 := Lib.hid hr0
    have HO0 := Lib.hid ho0
    have HI0 := Lib.hid hI0
    have HF := Lib.hid hF
    have HIN := Lib.hid hIn
    have HB0 := Lib.hid hst.box
    have hml : acc.length ≤ 65536 := by omega
    clear hR hv V hst h hE hBd hr0 ho0 hI0 hF hIn
    go_enter Tryz.func61, Tryz.ntmps61
    go_wp2_with (go_at_call 21; ((with_reducible refine C.mono ?_); rintro e w2 V; obtain ⟨k, t, x1, n1, c1, x2, n2, c2, ev, rfl, HG⟩ := saysV_all V; clear V))
    have hr := HG.out.1.rowC HR0.out hbv
    have ho := HG.out.1.owns HO0.out (fun g hg e => by have := (HO0.out.lt g hg).1; omega)
    have hI := ItemsC.chg HG.out.1 (fun k hk e => by have := (HF.out k hk).1; omega) acc xs HI0.out
    have hb := HG.out.1.rowC HB0.out hbr
    have hIn := HIN.out
    obtain ⟨m, hm⟩ : ∃ m, m = acc.length := ⟨_, rfl⟩
    have hxl := ItemsC.len acc xs hI
    rw [← hm] at ho hml hxl
    obtain ⟨ai, capi, rfl⟩ := owns_form ho
    have hbvl := rowC_lt hr
    have HXL := Lib.hid hxl
    have HI := Lib.hid hI
    have HM := Lib.hid hm
    have HB := Lib.hid hb
    have HR2 := Lib.hid hr
    have HOW := Lib.hid ho
    have Hs1 := Lib.hid (HG.out.1.size)
    have hbLw : bL ≤ w2.heap.size := Nat.le_trans hbLw1 Hs1.out
    obtain ⟨i0, hi0, hz0, hz1, hz2⟩ := info_parts info_V3
    obtain ⟨W, hW⟩ : ∃ W, W = w2.alloc (Obj.cells #[.int .i64 k, .string t, .slice x1 n1 c1, .slice x2 n2 c2] 27) := ⟨_, rfl⟩
    have hcv : W.cell? ⟨bv, 2, none⟩ = some (.slice ai m capi) := by rw [hW]; exact rowC_cell (rowC_alloc hr _) 2
    have hx0 : W.cell? ⟨w2.heap.size, 0, none⟩ = some (.int .i64 k) := by rw [hW]; exact rowC_cell (rowC_new w2 _ _) 0
    have hx1 : W.cell? ⟨w2.heap.size, 1, none⟩ = some (.string t) := by rw [hW]; exact rowC_cell (rowC_new w2 _ _) 1
    have hx2 : W.cell? ⟨w2.heap.size, 2, none⟩ = some (.slice x1 n1 c1) := by rw [hW]; exact rowC_cell (rowC_new w2 _ _) 2
    have hx3 : W.cell? ⟨w2.heap.size, 3, none⟩ = some (.slice x2 n2 c2) := by rw [hW]; exact rowC_cell (rowC_new w2 _ _) 3
    have hsz : W.heap.size = w2.heap.size + 1 := by rw [hW]; exact size_alloc _ _
    have hoW : W.ownsRow bL 27 4 (.slice ai m capi) m xs := by rw [hW]; exact ho.alloc _
    have hfv : W.frozen? ⟨bv, 2, none⟩ = false := by rw [hW]; exact rowC_free (rowC_alloc hr _) 2
    have HCW : Hid (Chg (fun _ => False) w2 W) := by rw [hW]; exact Lib.hid ((Chg.refl _ _).alloc _)
    rw [← hW]
    have hIbv := hIn bv (.inr rfl)
    have hIbx : (Value.slice ai m capi).ownBlock ≠ some w2.heap.size := fun e => by have := (ho.lt _ e).2; omega
    have hWs : w2.heap.size < W.heap.size := by omega
    have hbvW : bv < W.heap.size := by omega
    have hxbv : ¬ w2.heap.size = bv := by omega
    have hbvx : ¬ bv = w2.heap.size := by omega
    have m0 : (0 : Int) ≤ (m : Int) := by omega
    have m1 : (m : Int) < ((m + 1 : Nat) : Int) := by omega
    have m2 : (m : Int) < (m : Int) + 1 := by omega
    clear hW hm hI hIn hr hb ho b0 C hxl hsz
    go_region_law? (refine step_append_lies _ (by rfl) _ _ _ (by rfl) bL 27 i0 _ 4 72 Tryz.underlying24 hi0 hz0 hz1 hz2 rfl (by omega) (.slice ai m capi) m xs (by rfl) ((hoW.alloc _).drew) ⟨W.heap.size, 0, none⟩ 1 1 [.int .i64 0, .string ⟨#[]⟩, .slice none 0 0, .slice none 0 0] (by rfl) (by rfl) (World.news_of_block (cs := #[.int .i64 0, .string ⟨#[]⟩, .slice none 0 0, .slice none 0 0]) (t := 27) (fr := (0, 0)) (heap_alloc_new W _)) (by simp [Value.oneCell']) (by omega) (by unfold maxLen; omega) (by omega) (by simp; omega) (W.heap.size + 1) (by simp) ?_; intro g cap w4 hown hgrow hat hltg; obtain ⟨q0, q1, q2, q3⟩ := row_cells4 hown HXL.out; obtain ⟨z1, z2, z3, z4⟩ := apart_g hat hIbv hIbx hbvW hWs; have y0 := ((hgrow.cell_far ⟨w2.heap.size, 0, none⟩ (by simp; omega) (Ne.symm hIbx)).trans (World.cell?_alloc_old W _ ⟨w2.heap.size, 0, none⟩ (by show w2.heap.size ≠ _; omega))).trans hx0; have y1 := ((hgrow.cell_far ⟨w2.heap.size, 1, none⟩ (by simp; omega) (Ne.symm hIbx)).trans (World.cell?_alloc_old W _ ⟨w2.heap.size, 1, none⟩ (by show w2.heap.size ≠ _; omega))).trans hx1; have y2 := ((hgrow.cell_far ⟨w2.heap.size, 2, none⟩ (by simp; omega) (Ne.symm hIbx)).trans (World.cell?_alloc_old W _ ⟨w2.heap.size, 2, none⟩ (by show w2.heap.size ≠ _; omega))).trans hx2; have y3 := ((hgrow.cell_far ⟨w2.heap.size, 3, none⟩ (by simp; omega) (Ne.symm hIbx)).trans (World.cell?_alloc_old W _ ⟨w2.heap.size, 3, none⟩ (by show w2.heap.size ≠ _; omega))).trans hx3; have cbv := ((hgrow.cell_far ⟨bv, 2, none⟩ (by simp; omega) (Ne.symm hIbv)).trans (World.cell?_alloc_old W _ ⟨bv, 2, none⟩ (by show bv ≠ _; omega))).trans hcv; have pbv := ((hgrow.frozen_far ⟨bv, 2, none⟩ (by simp; omega) (Ne.symm hIbv)).trans (World.frozen?_alloc_old W _ ⟨bv, 2, none⟩ (by show bv ≠ _; omega))).trans hfv; have p0 := hown.frozenAt (m * 4); have p1 := hown.frozenAt (m * 4 + 1); have p2 := hown.frozenAt (m * 4 + 2); have p3 := hown.frozenAt (m * 4 + 3); have HN := Lib.hid hown; have HGR := Lib.hid hgrow; have HAT := Lib.hid hat; have HLT := Lib.hid hltg; clear hown hgrow hat hltg)
    all_goals (go_wp2; go_ret)
    all_goals (
      have hc4 : Chg (fun k => (Value.slice ai m capi).ownBlock = some k) w2 w4 := (((HCW.out.mono (fun k _ hk => hk.elim)).alloc _).drew).grown HGR.out (fun k hk => .inl hk)
      obtain ⟨PA, PB⟩ := list1_put (a := .int .i64 k) (b := .string t) (c := .slice x1 n1 c1) (d := .slice x2 n2 c2) (q := q) (lo := w1.heap.size) hne HLb.out HLO.out HLV.out HI.out HF.out HM.out HIO.out HIN.out HB.out HR2.out HN.out hc4 (by rcases HAT.out with e | e; exact .inl e; exact .inr (by omega))
      show saysA w1 q S r lev (fun k => k = q ∨ k = bv ∨ bL ≤ k) (StL bL br bv q) (WkV bv) R (.returned ev) _
      first
      | (with_reducible exact FIN.out w2 _ (.int .i64 k) (.string t) (.slice x1 n1 c1) (.slice x2 n2 c2) ev (.slice ai m capi) (.slice (some ⟨g, 0, none⟩) (m + 1) cap) HG.out.2 HG.out.1 (fun k hk => (HOW.out.lt k hk).1) PA ⟨_, _, _, rfl⟩)
      | (with_reducible exact FIN.out w2 _ (.int .i64 k) (.string t) (.slice x1 n1 c1) (.slice x2 n2 c2) ev (.slice ai m capi) (.slice (some ⟨g, 0, none⟩) (m + 1) cap) HG.out.2 HG.out.1 (fun k hk => (HOW.out.lt k hk).1) PB ⟨_, _, _, rfl⟩))
end Go.Proofs.YtcepemgalammhaaGreatDoor
