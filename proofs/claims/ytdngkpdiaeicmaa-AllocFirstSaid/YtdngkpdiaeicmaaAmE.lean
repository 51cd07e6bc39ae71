/- Layer 8: the program's map: Give. -/
import Derived.BigQuiet
import Derived.Sort.QuietIn
import Derived.Test.YtdngkpdiaeicmaaAmD
namespace Go.Proofs.Ytdngkpdiaeicmaa
open Go.RowKit Go.Shelf
attribute [local go_sem] Oper.semAt_some

theorem rowC_own {A B : World} {row : Option Nat} {b : Nat} {cs : Array Value} {t : TypeId} (h : rowC A b cs t) (hg : A.grownBy B row) (hr : ∀ r, row = some r → ∃ o : Obj, A.heap[r]? = some o ∧ o.isCells = false) : rowC B b cs t := by
  refine (hg.block b (rowC_lt h) (fun e => ?_)).trans h
  obtain ⟨o, ho, hc⟩ := hr b e.symm
  unfold rowC at h
  rw [h] at ho
  obtain rfl := Option.some.inj ho
  cases hc
theorem ImpM.own {A B : World} {row : Option Nat} {q r : Nat} {L : List Bool} (h : ImpM A q r L) (hg : A.grownBy B row) (hr : ∀ r, row = some r → ∃ o : Obj, A.heap[r]? = some o ∧ o.isCells = false) : ImpM B q r L :=
  ⟨rowC_own h.q hg hr, rowC_own h.r hg hr, h.lo, h.hi⟩
theorem blk_isI {l : List (Int × Int)} : ∀ y ∈ blkL l, isI y := by
  intro y hy
  unfold blkL at hy
  obtain ⟨x, _, hy⟩ := List.mem_flatMap.1 hy
  unfold blkX at hy
  obtain ⟨j, _, rfl⟩ := List.mem_map.1 hy
  unfold isI wrap64
  omega
/-- Give's world: the map, what is left of it, the answer. -/
structure GiveM (W w : World) (q r R Bl : Nat) (L M : List Bool) (b : Bool) : Prop where
  i : ImpM w q r L
  bl : Below W.heap.size W w
  l : rowC w Bl #[.string (str (packL M))] 9
  r : rowC w R #[.bool b] 4
theorem GiveM.own {W A B : World} {row : Option Nat} {q r R Bl : Nat} {L M : List Bool} {b : Bool} (h : GiveM W A q r R Bl L M b) (hg : A.grownBy B row) (hr : ∀ k, row = some k → W.heap.size ≤ k ∧ ∃ o : Obj, A.heap[k]? = some o ∧ o.isCells = false) : GiveM W B q r R Bl L M b :=
  ⟨h.i.own hg (fun k e => (hr k e).2), h.bl.grown hg h.bl.size (fun k e => (hr k e).1), rowC_own h.l hg (fun k e => (hr k e).2), rowC_own h.r hg (fun k e => (hr k e).2)⟩
theorem GiveM.below {W w w' : World} {q r R Bl : Nat} {L M : List Bool} {b : Bool} (h : GiveM W w q r R Bl L M b) (hb : Below w.heap.size w w') : GiveM W w' q r R Bl L M b :=
  ⟨h.i.below hb, h.bl.trans (hb.mono h.bl.size), rowC_below h.l hb (rowC_lt h.l), rowC_below h.r hb (rowC_lt h.r)⟩
/-- .. with less left. -/
theorem GiveM.left {W w : World} {q r R Bl : Nat} {L M : List Bool} {b : Bool} (h : GiveM W w q r R Bl L M b) (hR : R ≠ Bl) (hB : W.heap.size ≤ Bl) (hq : q ≠ Bl) (hr : r ≠ Bl) (K : List Bool) :
    GiveM W (w.setCell ⟨Bl, 0, none⟩ (.string (str (packL K)))) q r R Bl L K b :=
  ⟨⟨rowC_other h.i.q _ _ hq, rowC_other h.i.r _ _ hr, h.i.lo, h.i.hi⟩, h.bl.setCell (p := ⟨Bl, 0, none⟩) hB _, rowC_set h.l 0 _, rowC_other h.r _ _ hR⟩
theorem GiveM.answer {W w : World} {q r R Bl : Nat} {L M : List Bool} {b : Bool} (h : GiveM W w q r R Bl L M b) (hR : Bl ≠ R) (hB : W.heap.size ≤ R) (hq : q ≠ R) (hr : r ≠ R) (c : Bool) :
    GiveM W (w.setCell ⟨R, 0, none⟩ (.bool c)) q r R Bl L M c :=
  ⟨⟨rowC_other h.i.q _ _ hq, rowC_other h.i.r _ _ hr, h.i.lo, h.i.hi⟩, h.bl.setCell (p := ⟨R, 0, none⟩) hB _, rowC_other h.l _ _ hR, rowC_set h.r 0 _⟩
/-- Has of a map's text. -/
theorem hasV_pack (M : List Bool) (x : Int) : hasV (str (packL M)) x = (decide (0 ≤ x) && M.getD x.toNat false) := by
  by_cases h : 0 ≤ x
  · obtain ⟨j, rfl⟩ : ∃ j : Nat, x = j := ⟨x.toNat, by omega⟩
    rw [pack_has, Int.toNat_natCast, decide_eq_true h, Bool.true_and]
  · rw [hasV_out (inT_no (fun hh => h hh.1)), decide_eq_false h, Bool.false_and]
theorem KeepsOthers.below {W W' : World} {B : Nat} (h : Below B W W') (hB : W.heap.size ≤ B) : KeepsOthers W W' :=
  ⟨h.size, fun _ _ hk _ => (h.block _ (Nat.lt_of_lt_of_le (Array.getElem?_eq_some_iff.1 hk).1 hB)).trans hk⟩
set_option maxRecDepth 100000 in
set_option maxHeartbeats 4000000 in
theorem give_empty {w : World} {q : Nat} {L : List Bool} {o : Nat → Prop} {x : Value} {l : List (Int × Int)} (h : ImpInv w q L o) (hx : ExtAt w x l) (hb : someE l = true) :
    Calls Try.prog 12 #[.pointer (some ⟨q, 0, none⟩), x] w fun e w' => e = .returned (.bool (giveR L l).1) ∧ InvPost ImpInv w q o (giveR L l).2 w' := by
  have HR := Lib.hid (show giveR L l = (false, L) by unfold giveR; rw [giveL_empty hb])
  obtain ⟨r, h, rfl⟩ := h
  have al : Below w.heap.size w (w.alloc (.cells #[.bool false] 4)) := (Below.refl _ _).alloc (Nat.le_refl _) _
  have CN := mnone_any (h.below al).cell.1
  obtain ⟨a, cap, rfl⟩ := hx.form
  have CC := contains_any rfl (hx.below al)
  rw [hb] at CC
  have HI := Lib.hid h
  have HB := Lib.hid al
  have r0 := rowC_new w #[.bool false] 4
  have HS := Lib.hid (rowC_lt r0)
  have HR0 := Lib.hid r0
  clear h hx hb al r0
  generalize l.length = N at *
  go_enter Try.func12, Try.ntmps12
  go_wp2_with (first
    | (go_at_call 28; ((with_reducible refine (CN).mono ?_); rintro e w1 ⟨rfl, rfl⟩))
    | (go_at_call 29; ((with_reducible refine (CC).mono ?_); rintro e w2 ⟨rfl, b2⟩); have r2 := rowC_below HR0.out b2 HS.out; have c2 := rowC_cell r2 0; have f2 := rowC_free r2 0))
  have hc5 := rowC_cell (rowC_set r2 0 (.bool false)) 0
  have hw := HB.out.size
  refine bodyPost_ret (v := .bool false) (by simp [results, Try.f12, go_sem, hc5]) rfl ⟨retBool (by rw [HR.out]), ?_⟩
  rw [HR.out]
  have hfin : Below w.heap.size w (w2.setCell ⟨w.heap.size, 0, none⟩ (.bool false)) := (HB.out.trans (b2.mono hw)).setCell (p := ⟨w.heap.size, 0, none⟩) (Nat.le_refl _) _
  exact ⟨impOwn q r, ⟨r, HI.out.below hfin, rfl⟩, Chg.of_below hfin, fun k hk => .inl hk⟩
set_option maxRecDepth 100000 in
set_option maxHeartbeats 4000000 in
theorem give_full {w : World} {q : Nat} {L : List Bool} {o : Nat → Prop} {x : Value} {l : List (Int × Int)} (h : ImpInv w q L o) (hx : ExtAt w x l) (hok : extOk l) (hb : someE l = false) :
    Calls Try.prog 12 #[.pointer (some ⟨q, 0, none⟩), x] w fun e w' => e = .returned (.bool (giveR L l).1) ∧ InvPost ImpInv w q o (giveR L l).2 w' := by
  obtain ⟨r, h, rfl⟩ := h
  have al : Below w.heap.size w (w.alloc (.cells #[.bool false] 4)) := (Below.refl _ _).alloc (Nat.le_refl _) _
  have CN := mnone_any (h.below al).cell.1
  obtain ⟨a, cap, rfl⟩ := hx.form
  have CC := contains_any rfl (hx.below al)
  rw [hb] at CC
  have HI := Lib.hid h
  have HX := Lib.hid hx
  have HB := Lib.hid al
  have r0 := rowC_new w #[.bool false] 4
  have HS := Lib.hid (rowC_lt r0)
  have HR0 := Lib.hid r0
  have HOK := Lib.hid hok
  have hgB := giveB_all (M := L) (l := l) h.hi (fun x hx => by
    obtain ⟨k, hk, rfl⟩ := List.getElem_of_mem hx
    have h1 := hok k hk
    rw [List.getD_eq_getElem?_getD, List.getElem?_eq_getElem hk] at h1
    refine ⟨?_, h1.1⟩
    by_cases e : 1 ≤ (l[k]).2
    · exact e
    · have : someE l = true := by
        unfold someE
        rw [List.any_eq_true]
        exact ⟨_, List.getElem_mem hk, by rw [decide_eq_true_eq]; omega⟩
      rw [hb] at this; cases this)
  have HG := Lib.hid hgB
  obtain ⟨N, hN⟩ : ∃ N, N = l.length := ⟨_, rfl⟩
  rw [← hN] at CC HX ⊢
  have HN := Lib.hid hN
  clear h hx hb al r0 hok hgB hN
  refine (callsIn_wide (n := 4)).1 ?_
  refine callsIn_of_wp_marks Try.func12 rfl trivial ?_ rfl
  simp only [Try.ntmps12, List.size_toArray, List.length_cons, List.length_nil, Nat.reduceAdd, Nat.reduceSub, Array.replicate_succ, Array.replicate_zero, List.push_toArray, List.append_toArray, List.nil_append, List.cons_append]
  gi_wp2_with (first
    | (refine ⟨trivial, ?_⟩; gi_at_call 28; refine (callsIn_wide.2 (CN)).mono ?_; rintro e w' ⟨rfl, rfl⟩)
    | (refine ⟨trivial, ?_⟩; gi_at_call 29; refine (callsIn_wide.2 (CC)).mono ?_; rintro e w2 ⟨rfl, b2⟩; have B2 := Lib.hid (HB.out.trans (b2.mono HB.out.size)); have I2 := Lib.hid (HI.out.below B2.out); have R2 := Lib.hid (rowC_below HR0.out b2 HS.out); have c0 := I2.out.cell.1; have c1 := I2.out.cell.2.2; clear b2)
    | (refine ⟨trivial, ?_⟩; gi_at_call 31; refine (blocks_call _ _ _ _ _).mono ?_; rintro e w3 ⟨rfl, rfl⟩))
  clear CN CC
  have hlt := rowC_lt R2.out
  have hw2 := B2.out.size
  have hqr := I2.out.lt
  have hq2 := HI.out.lt
  have M0 : GiveM w ((w2.alloc (.cells #[.string (str (packL L))] 9)).alloc (.cells #[.slice a N cap] 33)) q r w.heap.size w2.heap.size L L false := by
    have a1 : Below w2.heap.size w2 (w2.alloc (.cells #[.string (str (packL L))] 9)) := (Below.refl _ _).alloc (Nat.le_refl _) _
    have a2 : Below w2.heap.size w2 ((w2.alloc (.cells #[.string (str (packL L))] 9)).alloc (.cells #[.slice a N cap] 33)) := a1.alloc (by rw [size_alloc]; omega) _
    exact ⟨I2.out.below a2, B2.out.trans (a2.mono hw2), rowC_alloc (rowC_new w2 _ _) _, rowC_below R2.out a2 (rowC_lt R2.out)⟩
  have cs := rowC_cell (rowC_new (w2.alloc (.cells #[.string (str (packL L))] 9)) #[.slice a N cap] 33) 0
  rw [size_alloc] at cs
  replace cs : ((w2.alloc (.cells #[.string (str (packL L))] 9)).alloc (.cells #[.slice a N cap] 33)).cell? ⟨w2.heap.size + 1, 0, none⟩ = some (.slice a N cap) := cs
  have hs3 : w2.heap.size + 1 < ((w2.alloc (.cells #[.string (str (packL L))] 9)).alloc (.cells #[.slice a N cap] 33)).heap.size := by rw [size_alloc, size_alloc]; omega
  have B03 := Lib.hid M0.bl
  have hxl : ∀ ad, a = some ad → 0 < N → ad.block < w.heap.size := fun ad e hn => by
    subst e
    obtain ⟨ad', h1, h2, _⟩ := HX.out.at (k := 0) (by have := HN.out; omega)
    obtain rfl := Option.some.inj h1
    exact h2
  have HXL := Lib.hid hxl
  generalize (w2.alloc (.cells #[.string (str (packL L))] 9)).alloc (.cells #[.slice a N cap] 33) = w3 at *
  obtain ⟨Bl, hBl⟩ : ∃ Bl, Bl = w2.heap.size := ⟨_, rfl⟩
  obtain ⟨R, hR⟩ : ∃ R, R = w.heap.size := ⟨_, rfl⟩
  rw [← hBl] at M0 cs hs3 ⊢ hlt hw2 hqr
  rw [← hR] at M0 hlt hw2 HXL hq2
  have HM0 := Lib.hid M0
  have hqR : q < R := by rw [hR]; exact HI.out.lt q (.inl rfl)
  have hrR : r < R := by rw [hR]; exact HI.out.lt r (.inr rfl)
  rw [show w.heap.size = R from hR.symm]
  have HRe := Lib.hid hR
  clear hBl M0 hxl c0 c1 hqr hq2 HR0 HS R2 I2 B2 hR
  have HX3 := Lib.hid (HX.out.below B03.out)
  refine wpIn_rangeFunc_ownF rfl (by omega) (gf := 47) (lb := #[.pointer (some ⟨Bl + 1, 0, none⟩)]) rfl trivial (enters_of Try.func47 (by kernel_rfl) rfl)
    (blocks_stops (P := isI) 3 (by omega) (Bl + 1) N cap a l (fun k => k = Bl ∨ k = R) HN.out blk_isI HOK.out w3 (fun k hk => by rcases hk with rfl | rfl <;> omega) cs HX3.out (fun ad e hn => by have := HXL.out ad e hn; omega))
    (fun h h' => h.trans h') (fun W l o o' _ h hc _ => KeepsBut.put _ W l o o' h hc) (Below.refl _ _) (fun _ => rfl)
    (fun pre W => ∃ M, giveB L (valsP pre) = some M ∧ GiveM w W q r R Bl L M false)
    (fun c pre W => c = .ret ∧ giveB L (valsP pre) = none ∧ ∃ M, GiveM w W q r R Bl L M false)
    (fun pre A B row ⟨M, h1, h2⟩ hg hr => ⟨M, h1, h2.own hg (fun k e => ⟨by have := (hr k e).1; have := HRe.out; omega, (hr k e).2⟩)⟩)
    (fun c pre A B row ⟨h0, h1, M, h2⟩ hg hr => ⟨h0, h1, M, h2.own hg (fun k e => ⟨by have := (hr k e).1; have := HRe.out; omega, (hr k e).2⟩)⟩)
    ⟨L, rfl, HM0.out⟩
    (fun x => { tmps := #[.pointer (some ⟨q, 0, none⟩), .slice a N cap, undef, undef, .pointer (some ⟨R, 0, none⟩), .pointer (some ⟨Bl, 0, none⟩), .int .i64 x.1, .pointer (some ⟨q, 0, none⟩), .bool false, .bool false, .slice a N cap, .bool false, .bool false,
      .pointer (some ⟨q, 0, none⟩), .pointer (some ⟨q, 0, none⟩), .pointer (some ⟨q, 0, none⟩), .pointer (some ⟨r, 0, none⟩), .pointer (some ⟨r, 0, none⟩), .pointer (some ⟨r, 1, none⟩), .string (str (packL L)), .slice a N cap,
      .func (.func 47) #[] #[.pointer (some ⟨Bl + 1, 0, none⟩)], .int .i64 x.1, undef, undef, undef, undef, undef, undef, undef, undef, undef, undef, undef, undef, undef, undef], defers := [] }) ?assign ?body ?done ?stop
  case assign =>
    intro l x W K hK
    gi_wp2
    simpa using hK
  case body =>
    rintro l2 pre x W ⟨M, hM, hG⟩ _
    have hML := giveB_length hM
    have hM4 : M.length ≤ 4096 := by rw [hML]; exact hG.i.hi
    have HS := giveB_snoc L (valsP pre) x.1
    rw [hM, ← valsP_snoc] at HS
    replace HS : giveB L (valsP (pre ++ [x])) = if 0 ≤ x.1 ∧ M.getD x.1.toNat false = true then some (M.set x.1.toNat false) else none := HS
    obtain ⟨y, hy⟩ : ∃ y : Int, y = x.1 := ⟨_, rfl⟩
    have hyI : isI y := by rw [hy]; exact x.2
    rw [← hy] at HS ⊢
    have cL := rowC_cell hG.l 0
    have fL := rowC_free hG.l 0
    have cR := rowC_cell hG.r 0
    have fR := rowC_free hG.r 0
    have CH := has_any (str (packL M)) y W hyI.2
    rw [hasV_pack] at CH
    have HG := Lib.hid hG
    have HS2 := Lib.hid HS
    clear HS hG hM hy HX HX3 HOK hs3 cs
    by_cases hb : 0 ≤ y ∧ M.getD y.toNat false = true
    · obtain ⟨hy0, hb1⟩ := hb
      rw [decide_eq_true hy0, hb1, Bool.true_and] at CH
      have hj : y.toNat < M.length := by
        by_cases e : y.toNat < M.length
        · exact e
        · rw [getD_beyond (by omega)] at hb1; cases hb1
      have CW := fun w => with_any (str (packL M)) y false w (pack_le hM4) hyI.2
      rw [show withV (str (packL M)) y false = str (packL (M.set y.toNat false)) by
        have := pack_with M y.toNat false hj
        rwa [Int.toNat_of_nonneg hy0] at this] at CW
      have HS3 := Lib.hid (show giveB L (valsP (pre ++ [x])) = some (M.set y.toNat false) by rw [HS2.out, if_pos ⟨hy0, hb1⟩])
      clear HS2 hb1 hj hyI
      gi_wp2_with (first
        | (refine ⟨trivial, ?_⟩; gi_at_call 32; refine (CallsIn.inRound l2 (callsIn_wide.2 CH)).mono ?_; rintro e w5 ⟨rfl, n5, rfl⟩; have G5 := Lib.hid (HG.out.below (below_drewN (Below.refl _ _) n5)); have cL5 := rowC_cell G5.out.l 0; clear cL)
        | (refine ⟨trivial, ?_⟩; gi_at_call 33; refine (CallsIn.inRound l2 (callsIn_wide.2 (CW _))).mono ?_; rintro e w6 ⟨rfl, b6⟩; have G6 := Lib.hid (G5.out.below b6); have cL6 := rowC_cell G6.out.l 0; have fL6 := rowC_free G6.out.l 0; have B6 := Lib.hid b6; clear b6 cL5))
      refine ⟨(KeepsOthers.below (B := W.heap.size) (below_drewN (Below.refl _ _) n5) (Nat.le_refl _)).trans ((KeepsOthers.below B6.out (Nat.le_refl _)).trans (KeepsOthers.setCell _ _ _)),
        KeepsBut.chg ((((Chg.refl _ W).drewN n5).then_below B6.out).setCell ⟨Bl, 0, none⟩ _ (.inl (.inl rfl))),
        ⟨_, HS3.out, ?_⟩⟩
      exact G6.out.left (by omega) (by have := HRe.out; omega) (by omega) (by omega) _
    · have hb2 : (decide (0 ≤ y) && M.getD y.toNat false) = false := by
        rw [Bool.eq_false_iff]
        intro hh
        rw [Bool.and_eq_true, decide_eq_true_eq] at hh
        exact hb hh
      rw [hb2] at CH
      have HS3 := Lib.hid (show giveB L (valsP (pre ++ [x])) = none by rw [HS2.out, if_neg hb])
      clear HS2 hb hb2 hyI
      gi_wp2_with (refine ⟨trivial, ?_⟩; gi_at_call 32; refine (CallsIn.inRound l2 (callsIn_wide.2 CH)).mono ?_; rintro e w5 ⟨rfl, n5, rfl⟩; have G5 := Lib.hid (HG.out.below (below_drewN (Below.refl _ _) n5)); have cR5 := rowC_cell G5.out.r 0; have fR5 := rowC_free G5.out.r 0; clear cL cR)
      refine ⟨(KeepsOthers.below (B := W.heap.size) (below_drewN (Below.refl _ _) n5) (Nat.le_refl _)).trans (KeepsOthers.setCell _ _ _), rfl, HS3.out, M, ?_⟩
      exact G5.out.answer (by omega) (by have := HRe.out; omega) (by omega) (by omega) _
  case done =>
    rintro D ys W hD hys ⟨M, hM, hG⟩ hK
    rw [hys, HG.out] at hM
    have HR := Lib.hid (show giveR L l = (true, M) by unfold giveR; rw [hM])
    have hML := giveL_length hM
    obtain ⟨cq, c0, c1⟩ := hG.i.cell
    have f1 := rowC_free hG.i.r 1
    have cL := rowC_cell hG.l 0
    have cR := rowC_cell hG.r 0
    have fR := rowC_free hG.r 0
    have HGM := Lib.hid hG
    have HK := Lib.hid hK
    have HD := Lib.hid hD
    have HML := Lib.hid hML
    clear hM hys hG hK hD hML HX HX3 HOK HG hs3 cs c0
    gi_wp2
    refine wpIn_wide.2 ?_
    go_still_tail 7, (by kernel_rfl)
    change wpList _ _ _ _ _ W.drew
    have cq' : W.drew.cell? ⟨q, 0, none⟩ = some (.pointer (some ⟨r, 0, none⟩)) := cq
    have f1' : W.drew.frozen? ⟨r, 1, none⟩ = false := f1
    have fR' : W.drew.frozen? ⟨R, 0, none⟩ = false := fR
    have c1' : W.drew.cell? ⟨r, 1, none⟩ = some (.string (str (packL L))) := c1
    have cR' : W.drew.cell? ⟨R, 0, none⟩ = some (.bool false) := cR
    have HG2 := Lib.hid (show GiveM w W.drew q r R Bl L M false from HGM.out.below (Below.refl _ _).drew)
    have HK2 := Lib.hid (show W.drew.heap[D]? = some (.deferred (some [])) from HK.out)
    clear cq f1 c1 cL cR fR HGM HK
    generalize W.drew = W2 at *
    go_wp2
    gi_wp2
    have h1 : ImpM ((W2.setCell ⟨r, 1, none⟩ (.string (str (packL M)))).setCell ⟨R, 0, none⟩ (.bool true)) q r M := by
      have hq := HG2.out.i.q
      have hr := HG2.out.i.r
      have h2 := rowC_set hr 1 (.string (str (packL M)))
      refine ⟨rowC_other (rowC_other hq _ _ HG2.out.i.ne) _ _ (show q ≠ R by omega), rowC_other ?_ _ _ (show r ≠ R by omega), by rw [HML.out]; exact HG2.out.i.lo, by rw [HML.out]; exact HG2.out.i.hi⟩
      unfold impC
      rw [HML.out]
      exact h2
    have hc1 : Chg (impOwn q r) w ((W2.setCell ⟨r, 1, none⟩ (.string (str (packL M)))).setCell ⟨R, 0, none⟩ (.bool true)) :=
      ((Chg.of_below HG2.out.bl).setCell ⟨r, 1, none⟩ _ (.inl (.inr rfl))).setCell ⟨R, 0, none⟩ _ (.inr (by have := HRe.out; show w.heap.size ≤ R; omega))
    have hk3 := ((KeepsOthers.setCell (W2.setCell ⟨r, 1, none⟩ (.string (str (packL M)))) ⟨R, 0, none⟩ (.bool true))).same D _ (((KeepsOthers.setCell W2 ⟨r, 1, none⟩ (.string (str (packL M))))).same D _ HK2.out rfl) rfl
    have c5 : ((W2.setCell ⟨r, 1, none⟩ (.string (str (packL M)))).setCell ⟨R, 0, none⟩ (.bool true)).cell? ⟨R, 0, none⟩ = some (.bool true) := rowC_cell (rowC_set (rowC_other HG2.out.r ⟨r, 1, none⟩ _ (show R ≠ r by omega)) 0 (.bool true)) 0
    refine ⟨by simp, .inl ⟨_, _, rfl, run_takeDeferred hk3, ?_⟩⟩
    have hg5 := grownBy_putObj' ((W2.setCell ⟨r, 1, none⟩ (.string (str (packL M)))).setCell ⟨R, 0, none⟩ (.bool true)) D (.deferred none)
    have hr5 : ∀ k, some D = some k → ∃ o : Obj, ((W2.setCell ⟨r, 1, none⟩ (.string (str (packL M)))).setCell ⟨R, 0, none⟩ (.bool true)).heap[k]? = some o ∧ o.isCells = false := fun k e => by cases e; exact ⟨_, hk3, rfl⟩
    have h4 := cell_kept c5 hg5 hr5
    refine ⟨.bool true, by simp [results, Try.f12, go_sem, h4], retBool (by rw [HR.out]), ?_⟩
    rw [HR.out]
    exact ⟨impOwn q r, ⟨r, h1.own hg5 hr5, rfl⟩, hc1.grown hg5 (fun k e => .inr (by cases e; have := HD.out; have := B03.out.size; omega)), fun k hk => .inl hk⟩
  case stop =>
    rintro D c pre W hD hpre ⟨rfl, hno, M, hG⟩ hK
    obtain ⟨t, ht⟩ := hpre
    have HR := Lib.hid (show giveR L l = (false, L) by
      have : giveB L (blkL l) = none := by rw [← ht, giveB_append, hno]
      rw [HG.out] at this
      unfold giveR
      rw [this])
    have cR := rowC_cell hG.r 0
    have HGM := Lib.hid hG
    have HD := Lib.hid hD
    clear hno hG hD ht HX HX3 HOK HG hs3 cs
    gi_wp2
    refine ⟨by simp, .inl ⟨_, _, rfl, run_takeDeferred hK, ?_⟩⟩
    have hg5 := grownBy_putObj' W D (.deferred none)
    have hr5 : ∀ k, some D = some k → ∃ o : Obj, W.heap[k]? = some o ∧ o.isCells = false := fun k e => by cases e; exact ⟨_, hK, rfl⟩
    have h4 := cell_kept cR hg5 hr5
    refine ⟨.bool false, by simp [results, Try.f12, go_sem, h4], retBool (by rw [HR.out]), ?_⟩
    rw [HR.out]
    exact ⟨impOwn q r, ⟨r, HGM.out.i.own hg5 hr5, rfl⟩, (Chg.of_below HGM.out.bl).grown hg5 (fun k e => .inr (by cases e; have := HD.out; have := B03.out.size; omega)), fun k hk => .inl hk⟩
theorem give_any {w : World} {q : Nat} {L : List Bool} {o : Nat → Prop} {x : Value} {l : List (Int × Int)} (h : ImpInv w q L o) (hx : ExtAt w x l) (hok : extOk l) :
    Calls Try.prog 12 #[.pointer (some ⟨q, 0, none⟩), x] w fun e w' => e = .returned (.bool (giveR L l).1) ∧ InvPost ImpInv w q o (giveR L l).2 w' := by
  cases hb : someE l
  · exact give_full h hx hok hb
  · exact give_empty h hx hb
end Go.Proofs.Ytdngkpdiaeicmaa
