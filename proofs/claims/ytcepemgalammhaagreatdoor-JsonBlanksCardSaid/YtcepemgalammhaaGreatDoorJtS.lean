/- Layer 11: a list. -/
import Derived.Test.YtcepemgalammhaaGreatDoorJtR
namespace Go.Proofs.YtcepemgalammhaaGreatDoor
open Go.RowKit

theorem enter_list1 (args : Array Value) (w : World) : (callFunc 61 args).run Tryz.prog w = .ok (.enter 61 args) w := by kernel_rfl
theorem part_list {n lev bL br bv q : Nat} (V : ValOk n) (hlev : lev + 1 ≤ 16) (S : Bs) (hS : okS S) (hq : 10 ≤ q) (hqb : q < bL) (hbr : br ≠ q) (hbv : bv ≠ q) (hb10 : 10 ≤ bv) (hne : br ≠ bv) :
    Part q S (lev + 1) (fun k => k = q ∨ k = bv ∨ bL ≤ k) (StL bL br bv q) (WkV bv) (fun acc r => acc.length + r.length ≤ 65536) 61 #[.pointer (some ⟨br, 0, none⟩), .pointer (some ⟨bv, 0, none⟩)] (stepL (valP n (lev + 1))) where
  enter := enter_list1
  weak := fun a w h => by
    obtain ⟨I, hr, ⟨⟨xs, F, ho, _, _⟩, _⟩⟩ := h.row
    obtain ⟨x, c, rfl⟩ := owns_form ho
    exact ⟨_, _, _, _, _, _, _, _, hr⟩
  kept := fun a w1 w2 h hc => h.kept hc hqb hbr hbv
  own := .inl rfl
  env := fun k hk => by omega
  sub := fun a r x hs hB => by have := hs.length_le; omega
  go := fun a r a' x hB hs => by
    unfold stepL at hs
    cases hv : valP n (lev + 1) r with
    | none => rw [hv] at hs; cases hs
    | some Q =>
      rw [hv] at hs
      cases Q with
      | bad code y => cases hs
      | ok v y =>
        have hlt := (val_ok n (lev + 1) r v y hlev hv).2.2
        cases hs
        rw [List.length_append, List.length_singleton]
        omega
  call := fun a r R w1 hE h hst hB hs => list1_any V hlev S hS hq hqb hbr hbv hne a r R w1 hE h hst hB hs
/-- What a bracket's reading says, ready for the end of the walk: bv: the value gathered; res: the result's cell. -/
def boxed (w : World) (bv res q : Nat) (S l : Bs) (lev : Nat) (R : Res JV) (e : Ending) (w3 : World) : Prop :=
  ∃ (k : Int) (t : ByteArray) (x1 : Option Addr) (n1 c1 : Nat) (x2 : Option Addr) (n2 c2 : Nat) (ev : Value), e = .returned ev ∧ Hid (rowC w3 bv (row4 k t x1 n1 c1 x2 n2 c2) 27 ∧ rowC w3 res zeroV4 27 ∧
    ∀ w', Chg (· = res) w3 w' → saysV w q S l lev R (.returned (.tuple #[.agg (row4 k t x1 n1 c1 x2 n2 c2), ev])) w')
theorem list_parts {n lev q bL br bv res : Nat} {w w1 : World} {S l : Bs} {R : Res JV} (V : ValOk n) (hS : okS S) (hE : Env w1) (hq : 10 ≤ q) (hqw : q < w.heap.size) (h : RdAt w1 q S l lev) (hlev : lev ≤ 16) (hne : l ≠ [])
    (hC : Chg (· = q) w w1) (hbr : w.heap.size ≤ br) (hbv : w.heap.size ≤ bv) (hres : w.heap.size ≤ res) (hn1 : br ≠ bv) (hn3 : res ≠ bv) (hbL : w1.heap.size = bL)
    (hB : rowC w1 br #[.pointer (some ⟨q, 0, none⟩)] 47) (hV : rowC w1 bv #[.int .i64 5, .string ⟨#[]⟩, .slice none 0 0, .slice none 0 0] 27) (hZ : rowC w1 res zeroV4 27)
    (hR : (if lev = 16 then some (.bad 11 l) else (partsP 93 (stepL (valP n (lev + 1))) n true [] l.tail).map (Res.map mkL)) = some R) :
    Calls Tryz.prog 60 #[.pointer (some ⟨q, 0, none⟩), .int .u8 93, .func (.func 61) #[] #[.pointer (some ⟨br, 0, none⟩), .pointer (some ⟨bv, 0, none⟩)]] w1 fun e w3 => boxed w bv res q S l lev R e w3 := by
  have lres := rowC_lt hZ
  have hqw1 := Nat.lt_of_lt_of_le hqw hC.size
  by_cases h16 : lev = 16
  · rw [if_pos h16, Option.some.injEq] at hR
    subst h16
    refine (parts_deep h).mono ?_
    rintro e w2 ⟨rfl, rfl⟩
    refine ⟨5, ⟨#[]⟩, none, 0, 0, none, 0, 0, _, rfl, Lib.hid ⟨hV, hZ, fun w' hc => ?_⟩⟩
    exact saysV_bad hR.symm ⟨_, _, _, _, _, _, _, _, rfl⟩ ⟨⟨l, 16, h.chg hc (by omega), List.suffix_refl _⟩, hC.trans hc (fun k hk e => by omega)⟩
  · rw [if_neg h16] at hR
    cases hp : partsP 93 (stepL (valP n (lev + 1))) n true [] l.tail with
    | none => rw [hp] at hR; cases hR
    | some Q =>
      rw [hp] at hR
      have hR' : R = Res.map mkL Q := (Option.some.inj hR).symm
      have hl := h.suf.length_le
      have hSS := hS
      unfold okS at hSS
      have P := part_list (lev := lev) (br := br) (bv := bv) (bL := bL) (q := q) V (by omega) S hS hq (by omega) (by omega) (by omega) (by omega) hn1
      refine (parts_any hS hE hq h (by omega) hne (.inl rfl) 93 rfl P ⟨by omega, hB, _, hV, RowJ.nil _ _ _⟩ (show [].length + l.tail.length ≤ 65536 by rw [List.length_tail]; simp; omega) hp).mono ?_
      intro e w3 hA
      cases Q with
      | bad code x =>
        obtain ⟨rfl, ⟨y, l2, h2, hs⟩, hc, ⟨k, t, x1, n1, c1, x2, n2, c2, hrow⟩⟩ := hA
        refine ⟨k, t, x1, n1, c1, x2, n2, c2, _, rfl, Lib.hid ⟨hrow, hc.rowC hZ (by omega), fun w' hc' => ?_⟩⟩
        exact saysV_bad hR' ⟨_, _, _, _, _, _, _, _, rfl⟩ ⟨⟨y, l2, h2.chg hc' (by omega), hs⟩, (hC.trans hc (fun k hk e => by omega)).trans hc' (fun k hk e => by omega)⟩
      | ok acc x =>
        obtain ⟨rfl, h2, hst, hc, hs⟩ := hA
        obtain ⟨I, hr, hj⟩ := hst.row
        obtain ⟨ai, ci, rfl⟩ := owns_form hj.ex.choose_spec.choose_spec.1
        refine ⟨5, ⟨#[]⟩, ai, acc.length, ci, none, 0, 0, _, rfl, Lib.hid ⟨hr, hc.rowC hZ (by omega), fun w' hc' => ?_⟩⟩
        have hj' := (hj.chg hc' (fun k hk => .inl (by omega))).holds
        refine saysV_ok hR' ⟨_, _, _, _, rfl, ?_⟩ ⟨h2.chg hc' (by omega), (hC.trans hc (fun k hk e => by omega)).trans hc' (fun k hk e => by omega)⟩
        unfold mkL
        rw [HoldsC]
        refine ⟨rfl, rfl, by simp, .inl ⟨rfl, rfl⟩, ?_⟩
        rcases hj' with ⟨h5, h6⟩ | ⟨ad, cap, h5, h6⟩
        · exact .inl ⟨h5, h6⟩
        · exact .inr ⟨ad, cap, h5, HoldsR.mono (fun k hk hlt => ⟨by have := hC.size; omega, hlt⟩) _ _ _ h6⟩
set_option maxRecDepth 100000 in
set_option maxHeartbeats 4000000 in
theorem list_any {n lev q : Nat} {w : World} {S l : Bs} {R : Res JV} (V : ValOk n) (hS : okS S) (hE : Env w) (hq : 10 ≤ q) (h : RdAt w q S l lev) (hlev : lev ≤ 16) (hne : l ≠ [])
    (hR : (if lev = 16 then some (.bad 11 l) else (partsP 93 (stepL (valP n (lev + 1))) n true [] l.tail).map (Res.map mkL)) = some R) :
    Calls Tryz.prog 41 #[.pointer (some ⟨q, 0, none⟩)] w fun e w' => saysV w q S l lev R e w' := by
  have hqw := h.lt
  obtain ⟨W0, hW0⟩ : ∃ W0, W0 = ((w.alloc (.cells #[.pointer (some ⟨q, 0, none⟩)] 47)).alloc (.cells #[.int .i64 0, .string ⟨#[]⟩, .slice none 0 0, .slice none 0 0] 27)).alloc (.cells #[.int .i64 5, .string ⟨#[]⟩, .slice none 0 0, .slice none 0 0] 27) := ⟨_, rfl⟩
  have hs0 : W0.heap.size = w.heap.size + 1 + 1 + 1 := by rw [hW0]; simp
  have A0 : Chg (· = q) w W0 := by rw [hW0]; exact (((Chg.refl _ w).alloc _).alloc _).alloc _
  have B0 : rowC W0 w.heap.size #[.pointer (some ⟨q, 0, none⟩)] 47 := by rw [hW0]; exact rowC_alloc (rowC_alloc (rowC_new w _ _) _) _
  have R0 : rowC W0 (w.heap.size + 1) zeroV4 27 := by
    rw [hW0, ← size_alloc w (.cells #[.pointer (some ⟨q, 0, none⟩)] 47)]
    exact rowC_alloc (rowC_new _ _ _) _
  have V0 : rowC W0 (w.heap.size + 1 + 1) #[.int .i64 5, .string ⟨#[]⟩, .slice none 0 0, .slice none 0 0] 27 := by
    rw [hW0, ← size_alloc w (.cells #[.pointer (some ⟨q, 0, none⟩)] 47), ← size_alloc (w.alloc _) (.cells #[.int .i64 0, .string ⟨#[]⟩, .slice none 0 0, .slice none 0 0] 27)]
    exact rowC_new _ _ _
  have E0 : Env W0 := hE.q A0 hq
  have H0 : RdAt W0 q S l lev := h.chg (s := fun _ => False) (by rw [hW0]; exact (((Chg.refl _ w).alloc _).alloc _).alloc _) (fun e => e)
  have C := list_parts (bL := W0.heap.size) V hS E0 hq hqw H0 hlev hne A0 (br := w.heap.size) (bv := w.heap.size + 1 + 1) (res := w.heap.size + 1) (Nat.le_refl _) (by omega) (by omega) (by omega) (by omega) rfl B0 V0 R0 hR
  have HW0 := Lib.hid hW0
  have HI := Lib.hid info_V
  have c0 := rowC_cell B0 0
  clear hR hW0 A0 B0 R0 V0 E0 H0 hs0 h hE
  go_enter Tryz.func41, Tryz.ntmps41
  go_upto_region 2 with (fail)
  rw [← HW0.out]
  go_wp2_with (first
    | (go_at_call 60; ((with_reducible refine C.mono ?_); rintro e w3 ⟨k, t, x1, n1, c1, x2, n2, c2, ev, rfl, HB⟩))
    | ((with_reducible show wpList _ _ _ (⟨some 10, .load _ (.tmp 4), _, _, _, _⟩ :: _) _ _); refine wpList_load_row rfl 27 _ rfl (w.heap.size + 1 + 1) rfl 27 (row4 k t x1 n1 c1 x2 n2 c2) (0, 0) _ HB.out.1 Tryz.underlying27 rfl HI.out ?_)
    | ((with_reducible show wpList _ _ _ (⟨none, .store _ (.tmp 2) _, _, _, _, _⟩ :: _) _ _); refine wpList_store_row rfl 27 _ _ rfl (w.heap.size + 1) (row4 k t x1 n1 c1 x2 n2 c2) rfl rfl 27 zeroV4 HB.out.2.1 HI.out rfl (row4_all _ _ _ _ _ _ _ _) ?_))
  refine bodyPost_ret (results_row_tmp rfl _ _ (w.heap.size + 1) 27 (row4 k t x1 n1 c1 x2 n2 c2) _ rfl (rowC_setRow HB.out.2.1 _) Tryz.underlying27 rfl HI.out ev rfl) rfl ?_
  exact HB.out.2.2 _ ((Chg.refl _ _).setRow _ _ (.inl rfl))
end Go.Proofs.YtcepemgalammhaaGreatDoor
