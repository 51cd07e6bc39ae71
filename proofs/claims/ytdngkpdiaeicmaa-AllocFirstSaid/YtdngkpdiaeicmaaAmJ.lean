/- Layer 8: the program's map: Take. -/
import Derived.Test.YtdngkpdiaeicmaaAmI
namespace Go.Proofs.Ytdngkpdiaeicmaa
open Go.RowKit Go.Shelf
attribute [local go_sem] Oper.semAt_some wide_fn round_fn

theorem After.imp {w : World} {q r : Nat} {L : List Bool} (h : ImpM w q r L) (x : After w) : ImpM x.v q r L := h.below x.h
/-- Take's world: the map, the box of its pointer, the extents. -/
structure TakeM (W w : World) (q r Bm : Nat) (M : List Bool) (v : Value) (E : List (Nat × Nat)) : Prop where
  i : ImpM w q r M
  c : Chg (· = r) W w
  b : rowC w Bm #[.pointer (some ⟨q, 0, none⟩)] 25
  o : OwnsE w W.heap.size v E
theorem TakeM.own {W A B : World} {row : Option Nat} {q r Bm : Nat} {M : List Bool} {v : Value} {E : List (Nat × Nat)} (h : TakeM W A q r Bm M v E) (hg : A.grownBy B row) (hr : ∀ k, row = some k → W.heap.size ≤ k ∧ ∃ o : Obj, A.heap[k]? = some o ∧ o.isCells = false) : TakeM W B q r Bm M v E :=
  ⟨h.i.own hg (fun k e => (hr k e).2), h.c.grown hg (fun k e => .inr (hr k e).1), rowC_own h.b hg (fun k e => (hr k e).2), owns_own h.o hg (fun k e => (hr k e).2)⟩
theorem TakeM.below {W w w' : World} {q r Bm : Nat} {M : List Bool} {v : Value} {E : List (Nat × Nat)} (h : TakeM W w q r Bm M v E) (hb : Below w.heap.size w w') : TakeM W w' q r Bm M v E :=
  ⟨h.i.below hb, h.c.then_below hb, rowC_below h.b hb (rowC_lt h.b), (Chg.of_below (s := fun _ => False) hb).owns h.o (fun _ _ => id)⟩
/-- .. with other blocks in use. -/
theorem TakeM.set {W w : World} {q r Bm : Nat} {M : List Bool} {v : Value} {E : List (Nat × Nat)} (h : TakeM W w q r Bm M v E) (hB : Bm ≠ r) {K : List Bool} (hK : K.length = M.length) :
    TakeM W (w.setCell ⟨r, 1, none⟩ (.string (str (packL K)))) q r Bm K v E := by
  refine ⟨⟨rowC_other h.i.q _ _ h.i.ne, ?_, by rw [hK]; exact h.i.lo, by rw [hK]; exact h.i.hi⟩, h.c.setCell ⟨r, 1, none⟩ _ (.inl rfl), rowC_other h.b _ _ hB, ((Chg.refl (· = r) w).setCell ⟨r, 1, none⟩ _ (.inl rfl)).owns h.o (owns_ne h.o h.i.r (by decide))⟩
  have h2 := rowC_set h.i.r 1 (.string (str (packL K)))
  unfold impC at h2 ⊢
  rw [hK]
  exact h2
theorem lowL_in {L : List Bool} {m : Nat} (h : firstL L m = none) : lowL L 0 m = extsL L m := by unfold extsL; rw [h]
set_option maxRecDepth 100000 in
set_option maxHeartbeats 4000000 in
theorem take_less {w : World} {q : Nat} {L : List Bool} {o : Nat → Prop} (n : Int) (h : ImpInv w q L o) (hn : n < 1 ∨ (L.length : Int) - (usedL L : Int) < n) (hI : isI n) :
    Calls Try.prog 15 #[.pointer (some ⟨q, 0, none⟩), .int .i64 n] w fun e w' => e = .returned (.tuple #[.slice none 0 0, .bool false]) ∧ Below w.heap.size w w' := by
  obtain ⟨r, h, rfl⟩ := h
  have al : Below w.heap.size w (w.alloc (.cells #[.pointer (some ⟨q, 0, none⟩)] 25)) := (Below.refl _ _).alloc (Nat.le_refl _) _
  have h1 := h.below al
  have r0 := rowC_new w #[.pointer (some ⟨q, 0, none⟩)] 25
  have HB := Lib.hid al
  have hul := usedL_le L
  have hL4 := h.hi
  obtain ⟨w1, hw1⟩ : ∃ w1, w1 = w.alloc (.cells #[.pointer (some ⟨q, 0, none⟩)] 25) := ⟨_, rfl⟩
  rw [← hw1] at h1 r0 HB
  have cM : ∀ x : After w1, x.v.cell? ⟨w.heap.size, 0, none⟩ = some (.pointer (some ⟨q, 0, none⟩)) := fun x => rowC_cell (rowC_below r0 x.h (rowC_lt r0)) 0
  have cQ : ∀ x : After w1, x.v.cell? ⟨q, 0, none⟩ = some (.pointer (some ⟨r, 0, none⟩)) := fun x => (x.imp h1).cell.1
  have cS : ∀ x : After w1, x.v.cell? ⟨r, 0, none⟩ = some (.int .i64 (L.length : Int)) := fun x => (x.imp h1).cell.2.1
  have CN : ∀ x : After w1, CallsIn Fence.wide 3 Try.prog 28 #[.pointer (some ⟨q, 0, none⟩)] x.v fun e w'' => e = .returned (.bool false) ∧ ∃ y : After w1, w'' = y.v := fun x =>
    (callsIn_wide.2 (mnone_any (x.imp h1).cell.1)).mono fun e w'' ⟨he, hw⟩ => ⟨he, x, hw.symm⟩
  have CU : ∀ x : After w1, CallsIn Fence.wide 3 Try.prog 18 #[.pointer (some ⟨q, 0, none⟩)] x.v fun e w'' => e = .returned (.int .i64 (usedL L : Int)) ∧ ∃ y : After w1, w'' = y.v := fun x =>
    (callsIn_wide.2 (used_any ⟨r, x.imp h1, rfl⟩)).mono fun e w'' ⟨he, hb⟩ => ⟨he, ⟨w'', x.h.trans (hb.mono x.h.size)⟩, rfl⟩
  generalize usedL L = U at *
  generalize L.length = N at *
  obtain ⟨i1, i2⟩ := hI
  clear h h1 r0
  by_cases hn1 : n < 1
  · clear hn
    refine (callsIn_wide (n := 4)).1 ?_
    refine callsIn_of_wp_marks Try.func15 rfl trivial ?_ rfl
    simp only [Try.ntmps15, List.size_toArray, List.length_cons, List.length_nil, Nat.reduceAdd, Nat.reduceSub, Array.replicate_succ, Array.replicate_zero, List.push_toArray, List.append_toArray, List.nil_append, List.cons_append]
    gi_wp2_with fail
    rw [← hw1]
    refine region_quiet (C := fun w' => ∃ x : After w1, w' = x.v) (by kernel_rfl) (by kernel_rfl) (by kernel_rfl) ⟨⟨w1.drew, (Below.refl _ _).drew⟩, rfl⟩ ?_
    repeat (gi_big_quiet_step (first | (gi_at_call 28; exact CN _) | (gi_at_call 18; exact CU _)))
    refine wpQuietIn_nil ?_
    rintro _ ⟨x, rfl⟩
    have HX := Lib.hid (HB.out.trans (x.h.mono HB.out.size))
    clear CN CU cM cQ cS hw1
    gi_wp2
    exact ⟨_, results_tmp2 rfl _ _ _, rfl, HX.out⟩
  · have hd1 : decide (n < 1) = false := decide_eq_false hn1
    have hd2 : decide ((N : Int) - (U : Int) < n) = true := by rw [decide_eq_true_eq]; omega
    have hn3 : (N : Int) - (U : Int) < n := by omega
    clear hn
    refine (callsIn_wide (n := 4)).1 ?_
    refine callsIn_of_wp_marks Try.func15 rfl trivial ?_ rfl
    simp only [Try.ntmps15, List.size_toArray, List.length_cons, List.length_nil, Nat.reduceAdd, Nat.reduceSub, Array.replicate_succ, Array.replicate_zero, List.push_toArray, List.append_toArray, List.nil_append, List.cons_append]
    gi_wp2_with fail
    rw [← hw1]
    refine region_quiet (C := fun w' => ∃ x : After w1, w' = x.v) (by kernel_rfl) (by kernel_rfl) (by kernel_rfl) ⟨⟨w1.drew, (Below.refl _ _).drew⟩, rfl⟩ ?_
    repeat (gi_big_quiet_step (first | (gi_at_call 28; exact CN _) | (gi_at_call 18; exact CU _)))
    refine wpQuietIn_nil ?_
    rintro _ ⟨x, rfl⟩
    have HX := Lib.hid (HB.out.trans (x.h.mono HB.out.size))
    clear CN CU cM cQ cS hw1
    gi_wp2
    exact ⟨_, results_tmp2 rfl _ _ _, rfl, HX.out⟩
set_option maxRecDepth 100000 in
set_option maxHeartbeats 8000000 in
theorem take_more {w : World} {q : Nat} {L : List Bool} {o : Nat → Prop} (n : Int) (h : ImpInv w q L o) (hn : ¬ (n < 1 ∨ (L.length : Int) - (usedL L : Int) < n)) (hI : isI n) :
    Calls Try.prog 15 #[.pointer (some ⟨q, 0, none⟩), .int .i64 n] w fun e w' => ∃ x, e = .returned (.tuple #[x, .bool (takeL L n).2.1]) ∧ OwnsE w' w.heap.size x (takeL L n).1 ∧ ∃ o', ImpInv w' q (takeL L n).2.2 o' ∧ Chg o w w' ∧ (∀ k, o' k → o k ∨ w.heap.size ≤ k) ∧ ∀ g, x.ownBlock = some g → ¬ o' g := by
  obtain ⟨r, h, rfl⟩ := h
  have al : Below w.heap.size w (w.alloc (.cells #[.pointer (some ⟨q, 0, none⟩)] 25)) := (Below.refl _ _).alloc (Nat.le_refl _) _
  have h1 := h.below al
  have r0 := rowC_new w #[.pointer (some ⟨q, 0, none⟩)] 25
  have HB := Lib.hid al
  have hul := usedL_le L
  have hL4 := h.hi
  obtain ⟨w1, hw1⟩ : ∃ w1, w1 = w.alloc (.cells #[.pointer (some ⟨q, 0, none⟩)] 25) := ⟨_, rfl⟩
  rw [← hw1] at h1 r0 HB
  have cM : ∀ x : After w1, x.v.cell? ⟨w.heap.size, 0, none⟩ = some (.pointer (some ⟨q, 0, none⟩)) := fun x => rowC_cell (rowC_below r0 x.h (rowC_lt r0)) 0
  have cQ : ∀ x : After w1, x.v.cell? ⟨q, 0, none⟩ = some (.pointer (some ⟨r, 0, none⟩)) := fun x => (x.imp h1).cell.1
  have cS : ∀ x : After w1, x.v.cell? ⟨r, 0, none⟩ = some (.int .i64 (L.length : Int)) := fun x => (x.imp h1).cell.2.1
  have CN : ∀ x : After w1, CallsIn Fence.wide 3 Try.prog 28 #[.pointer (some ⟨q, 0, none⟩)] x.v fun e w'' => e = .returned (.bool false) ∧ ∃ y : After w1, w'' = y.v := fun x =>
    (callsIn_wide.2 (mnone_any (x.imp h1).cell.1)).mono fun e w'' ⟨he, hw⟩ => ⟨he, x, hw.symm⟩
  have CU : ∀ x : After w1, CallsIn Fence.wide 3 Try.prog 18 #[.pointer (some ⟨q, 0, none⟩)] x.v fun e w'' => e = .returned (.int .i64 (usedL L : Int)) ∧ ∃ y : After w1, w'' = y.v := fun x =>
    (callsIn_wide.2 (used_any ⟨r, x.imp h1, rfl⟩)).mono fun e w'' ⟨he, hb⟩ => ⟨he, ⟨w'', x.h.trans (hb.mono x.h.size)⟩, rfl⟩
  obtain ⟨m, rfl⟩ : ∃ m : Nat, n = m := ⟨n.toNat, by omega⟩
  have hm1 : 1 ≤ m := by omega
  have hm4 : m ≤ 4096 := by omega
  have HTL := Lib.hid (show takeL L m = if 8 < (extsL L m).length then ([], false, L) else (extsL L m, true, markL L (extsL L m) true) by unfold takeL; rw [if_neg hn, Int.toNat_natCast])
  have hd1 : decide ((m : Int) < 1) = false := by rw [decide_eq_false_iff_not]; omega
  have hd2 : decide ((L.length : Int) - (usedL L : Int) < (m : Int)) = false := by rw [decide_eq_false_iff_not]; omega
  have HI := Lib.hid h
  have H1 := Lib.hid h1
  have HR0 := Lib.hid r0
  have CT := Lib.hid (fun (x : After w1) => together_any (x.imp h1) m hm1 hm4)
  obtain ⟨N, hN⟩ : ∃ N, N = L.length := ⟨_, rfl⟩
  rw [← hN] at hd2 cS hL4 hul
  have HN := Lib.hid hN
  generalize usedL L = U at *
  clear h h1 r0 hn hI hN
  refine (callsIn_wide (n := 4)).1 ?_
  refine callsIn_of_wp_marks Try.func15 rfl trivial ?_ rfl
  simp only [Try.ntmps15, List.size_toArray, List.length_cons, List.length_nil, Nat.reduceAdd, Nat.reduceSub, Array.replicate_succ, Array.replicate_zero, List.push_toArray, List.append_toArray, List.nil_append, List.cons_append]
  gi_wp2_with fail
  rw [← hw1]
  refine region_quiet (C := fun w' => ∃ x : After w1, w' = x.v) (by kernel_rfl) (by kernel_rfl) (by kernel_rfl) ⟨⟨w1.drew, (Below.refl _ _).drew⟩, rfl⟩ ?_
  repeat (gi_big_quiet_step (first | (gi_at_call 28; exact CN _) | (gi_at_call 18; exact CU _)))
  refine wpQuietIn_nil ?_
  rintro _ ⟨x, rfl⟩
  have cM2 := cM x
  have cQ2 := cQ x
  have CT2 := CT.out x
  have HX := Lib.hid (HB.out.trans (x.h.mono HB.out.size))
  have H2 := Lib.hid (x.imp H1.out)
  have HR2 := Lib.hid (rowC_below HR0.out x.h (rowC_lt HR0.out))
  clear CN CU cM cQ cS hw1 CT HR0
  generalize x.v = w2 at *
  cases hf : firstL L m with
  | some i =>
    have hl : (extsL L m).length = 1 := by unfold extsL; rw [hf]; rfl
    have CT3 : Calls Try.prog 34 #[.pointer (some ⟨r, 0, none⟩), .int .i64 (m : Int)] w2 fun e w' => ∃ a cap, e = .returned (.slice a 1 cap) ∧ OwnsE w' w2.heap.size (.slice a 1 cap) (extsL L m) ∧ Below w2.heap.size w2 w' := CT2.mono fun e w' ⟨v, he, ho, hb⟩ => by
      rw [show togL L m = extsL L m by unfold extsL togL; rw [hf]] at ho
      obtain ⟨a, cap, rfl⟩ := OwnsE.form ho
      rw [hl] at he ho
      exact ⟨a, cap, he, ho, hb⟩
    have HLn := Lib.hid hl
    clear CT2 hf hl
    gi_wp2_with (first
      | (gi_at_call 34; refine (callsIn_wide.2 CT3).mono ?_; rintro e w3 ⟨a3, cap3, rfl, o3, b3⟩; have O3 := Lib.hid (owns_up o3 HX.out.size); have HX3 := Lib.hid (HX.out.trans (b3.mono HX.out.size)); have H3 := Lib.hid (H2.out.below b3); have HR3 := Lib.hid (rowC_below HR2.out b3 (rowC_lt HR2.out)); clear CT3 o3 b3)
      | (gi_at_call 31; refine (blocks_call _ _ _ _ _).mono ?_; rintro e w5 ⟨rfl, rfl⟩))
    have al6 : Below w3.heap.size w3 (w3.alloc (.cells #[.slice a3 1 cap3] 33)) := (Below.refl _ _).alloc (Nat.le_refl _) _
    have M0 : TakeM w (w3.alloc (.cells #[.slice a3 1 cap3] 33)) q r w.heap.size L (.slice a3 1 cap3) (extsL L m) :=
      ⟨H3.out.below al6, Chg.of_below (HX3.out.trans (al6.mono HX3.out.size)), rowC_below HR3.out al6 (rowC_lt HR3.out), (Chg.of_below (s := fun _ => False) al6).owns O3.out (fun _ _ => id)⟩
    have cs : (w3.alloc (.cells #[.slice a3 1 cap3] 33)).cell? ⟨w3.heap.size, 0, none⟩ = some (.slice a3 1 cap3) := rowC_cell (rowC_new w3 #[.slice a3 1 cap3] 33) 0
    have hs6 : w3.heap.size < (w3.alloc (.cells #[.slice a3 1 cap3] 33)).heap.size := by rw [size_alloc]; omega
    have hrB : r < w.heap.size := HI.out.lt r (.inr rfl)
    have hwB := HX3.out.size
    generalize w3.alloc (.cells #[.slice a3 1 cap3] 33) = w6 at *
    obtain ⟨Bs, hBs⟩ : ∃ Bs, Bs = w3.heap.size := ⟨_, rfl⟩
    obtain ⟨B, hB⟩ : ∃ B, B = w.heap.size := ⟨_, rfl⟩
    rw [← hB] at M0 hrB hwB
    rw [← hBs] at cs hs6 hwB ⊢
    rw [show w.heap.size = B from hB.symm]
    have HM0 := Lib.hid M0
    have HBe := Lib.hid hB
    have hEl : 1 = (extsL L m).length := HLn.out.symm
    have hX6 : ExtAt w6 (.slice a3 1 cap3) (toI (extsL L m)) := M0.o.ext (by rw [← hEl]; unfold maxLen; omega)
    have HEl := Lib.hid hEl
    have HX6 := Lib.hid hX6
    have hin : ∀ x ∈ extsL L m, x.1 + x.2 ≤ N := fun x hx => by rw [HN.out]; exact exts_in hx
    have HIN := Lib.hid hin
    have hok : extOk (toI (extsL L m)) := toI_ok (fun x hx => by have := hin x hx; omega)
    have HOK := Lib.hid hok
    have hns : ∀ ad, a3 = some ad → 0 < 1 → ¬ ad.block = r := fun ad e _ => by
      have h1 := M0.o.lt ad.block (by rw [e]; rfl)
      rw [← hB] at h1
      omega
    have HNS := Lib.hid hns
    clear M0 hB hBs al6 hEl hX6 hin hok hns al
    refine wpIn_rangeFunc_ownF rfl (by omega) (gf := 47) (lb := #[.pointer (some ⟨Bs, 0, none⟩)]) rfl trivial (enters_of Try.func47 (by kernel_rfl) rfl)
      (blocks_stops (P := fun y => 0 ≤ y ∧ y < (N : Int)) 3 (by omega) Bs 1 cap3 a3 (toI (extsL L m)) (fun k => k = r) (by rw [toI_length]; exact HEl.out) (blk_in HIN.out hL4) HOK.out w6 (fun k hk => by subst hk; omega) cs HX6.out HNS.out)
      (fun h h' => h.trans h') (fun W l o o' _ h hc _ => KeepsBut.put _ W l o o' h hc) (Below.refl _ _) (fun _ => rfl)
      (fun pre W => TakeM w W q r B (setAll L (valsP pre)) (.slice a3 1 cap3) (extsL L m))
      (fun _ _ _ => False)
      (fun pre A C row h hg hr => h.own hg (fun k e => ⟨by have := (hr k e).1; have := HBe.out; omega, (hr k e).2⟩))
      (fun _ _ _ _ _ h _ _ => h)
      HM0.out
      (fun x => { tmps := #[.pointer (some ⟨q, 0, none⟩), .int .i64 (m : Int), .pointer (some ⟨B, 0, none⟩), undef, .slice none 0 0, .bool false, .slice a3 1 cap3, .int .i64 x.1, .pointer (some ⟨q, 0, none⟩), .bool false, .bool false, .int .i64 (m : Int), .bool false, .bool false, .bool false, .int .i64 (m : Int), .pointer (some ⟨q, 0, none⟩), .pointer (some ⟨q, 0, none⟩), .pointer (some ⟨q, 0, none⟩), .pointer (some ⟨r, 0, none⟩), .pointer (some ⟨r, 0, none⟩), .pointer (some ⟨r, 0, none⟩), .int .i64 (N : Int), .pointer (some ⟨q, 0, none⟩), .int .i64 (U : Int), .int .i64 ((N : Int) - (U : Int)), .bool false, .bool false, .pointer (some ⟨q, 0, none⟩), .pointer (some ⟨q, 0, none⟩), .pointer (some ⟨q, 0, none⟩), .pointer (some ⟨r, 0, none⟩), .int .i64 (m : Int), .slice a3 1 cap3, .slice a3 1 cap3, .int .i64 1, .bool false, undef, undef, undef, undef, undef, undef, .slice a3 1 cap3, .int .i64 1, .bool false, .slice a3 1 cap3, .func (.func 47) #[] #[.pointer (some ⟨Bs, 0, none⟩)], .int .i64 x.1, undef, undef, undef, undef, undef, undef, undef, undef, undef, undef, undef, undef, undef, undef, undef, undef], defers := [] }) ?assign ?body ?done ?stop
    case assign =>
      intro l x W K hK
      gi_wp2
      simpa using hK
    case body =>
      rintro l2 pre ⟨y, hy0, hyN⟩ W hG _
      dsimp only
      obtain ⟨M, hM⟩ : ∃ M, M = setAll L (valsP pre) := ⟨_, rfl⟩
      have hML : M.length = N := by rw [hM, setAll_length, HN.out]
      rw [← hM] at hG
      have HS := Lib.hid (show setAll L (valsP (pre ++ [⟨y, hy0, hyN⟩])) = M.set y.toNat true by rw [valsP_snoc, setAll_append, ← hM]; rfl)
      have hj : y.toNat < M.length := by omega
      have hw := pack_with M y.toNat true hj
      rw [Int.toNat_of_nonneg hy0] at hw
      have cM : ∀ z : After W, z.v.cell? ⟨B, 0, none⟩ = some (.pointer (some ⟨q, 0, none⟩)) := fun z => rowC_cell (hG.below z.h).b 0
      have cQ : ∀ z : After W, z.v.cell? ⟨q, 0, none⟩ = some (.pointer (some ⟨r, 0, none⟩)) := fun z => (z.imp hG.i).cell.1
      have cS : ∀ z : After W, z.v.cell? ⟨r, 1, none⟩ = some (.string (str (packL M))) := fun z => (z.imp hG.i).cell.2.2
      have CW : ∀ z : After W, CallsIn (Fence.wide.inRound l2) 1 Try.prog 33 #[.string (str (packL M)), .int .i64 y, .bool true] z.v fun e w'' => e = .returned (.string (str (packL (M.set y.toNat true)))) ∧ ∃ z' : After W, w'' = z'.v := fun z =>
        CallsIn.inRound l2 ((callsIn_wide.2 (with_any (str (packL M)) y true z.v (pack_le (by omega)) (by omega))).mono fun e w'' ⟨he, hb⟩ => ⟨by rw [he, hw], ⟨w'', z.h.trans (hb.mono z.h.size)⟩, rfl⟩)
      have HG := Lib.hid hG
      have HML := Lib.hid hML
      clear hG hM hML hj hw HX6 HM0 HOK HIN HNS cs hs6
      gi_wp2_with fail
      refine region_quiet_tail (C := fun w' => ∃ z : After W, w' = z.v) 13 (by kernel_rfl) (by kernel_rfl) (by kernel_rfl) ⟨⟨W.drew, (Below.refl _ _).drew⟩, rfl⟩ ?_
      simp only [List.take_succ_cons, List.take_zero, List.drop_succ_cons, List.drop_zero]
      repeat (gi_big_quiet_step ((gi_at_call 33; exact CW _)))
      refine wpQuietIn_nil ?_
      rintro _ ⟨z, rfl⟩
      have HG7 := Lib.hid (HG.out.below z.h)
      have HKO := Lib.hid (KeepsOthers.below z.h (Nat.le_refl _))
      have HCH := Lib.hid (Chg.of_below (s := fun k => k = r) z.h)
      have cS7 := HG7.out.i.cell.2.2
      have fS7 := rowC_free HG7.out.i.r 1
      clear cM cQ cS CW HG
      generalize z.v = w7 at *
      gi_wp2
      refine ⟨HKO.out.trans (KeepsOthers.setCell _ _ _), KeepsBut.chg (HCH.out.setCell ⟨r, 1, none⟩ _ (.inl rfl)), ?_⟩
      dsimp only
      rw [HS.out]
      exact HG7.out.set (by omega) (by rw [List.length_set])
    case done =>
      rintro D ys W hD hys hG hK
      rw [hys, setAll_mark _ _ (fun x hx => by have := HIN.out x hx; omega)] at hG
      have HRes := Lib.hid (show takeL L m = (extsL L m, true, markL L (extsL L m) true) by rw [HTL.out, if_neg (by rw [← HEl.out]; omega)])
      have HG := Lib.hid hG
      have HD := Lib.hid hD
      clear hys hG hD HX6 HM0 HOK HIN HNS cs
      gi_wp2
      refine ⟨by simp, .inl ⟨_, _, rfl, run_takeDeferred hK, ?_⟩⟩
      have hg5 := grownBy_putObj' W D (.deferred none)
      have hr5 : ∀ k, some D = some k → w.heap.size ≤ k ∧ ∃ o : Obj, W.heap[k]? = some o ∧ o.isCells = false := fun k e => by cases e; exact ⟨by have := HD.out; have := HBe.out; omega, _, hK, rfl⟩
      have hG2 := HG.out.own hg5 hr5
      refine ⟨_, results_tmp2 rfl _ _ _, .slice a3 1 cap3, by rw [HRes.out]; rfl, by rw [HRes.out]; exact hG2.o, impOwn q r, ⟨r, by rw [HRes.out]; exact hG2.i, rfl⟩, hG2.c.mono (fun k _ hk => .inr hk), fun k hk => .inl hk, fun g hg hgo => ?_⟩
      have h1 := hG2.o.lt g hg
      have h2 := HI.out.lt g hgo
      omega
    case stop =>
      rintro D c pre W _ _ h _
      exact h.elim
  | none =>
    have CT3 : Calls Try.prog 34 #[.pointer (some ⟨r, 0, none⟩), .int .i64 (m : Int)] w2 fun e w' => ∃ a cap, e = .returned (.slice a 0 cap) ∧ Below w2.heap.size w2 w' := CT2.mono fun e w' ⟨v, he, ho, hb⟩ => by
      rw [show togL L m = [] by unfold togL; rw [hf]] at ho
      obtain ⟨a, cap, rfl⟩ := OwnsE.form ho
      exact ⟨a, cap, he, hb⟩
    have CL := Lib.hid (fun w' (h' : ImpM w' q r L) => lowest_any h' m hm4)
    rw [lowL_in hf] at CL
    obtain ⟨E, hE⟩ : ∃ E, E = (extsL L m).length := ⟨_, rfl⟩
    have HLn := Lib.hid hE
    have hE4 : E ≤ 4096 := by
      have h1 := lowL_in hf
      rw [hE, ← h1, ← low_free_all]
      refine Nat.le_trans (addAll_le _ _) ?_
      have h2 := freeF_le L 0
      rw [List.length_take, List.length_nil]
      omega
    clear CT2 hf hE
    by_cases h8 : 8 < E
    · gi_wp2_with (first
        | (gi_at_call 34; refine (callsIn_wide.2 CT3).mono ?_; rintro e w3 ⟨a3, cap3, rfl, b3⟩; have HX3 := Lib.hid (HX.out.trans (b3.mono HX.out.size)); have H3 := Lib.hid (H2.out.below b3); have HR3 := Lib.hid (rowC_below HR2.out b3 (rowC_lt HR2.out)); have cM3 := rowC_cell HR3.out 0; have cQ3 := H3.out.cell.1; clear CT3 b3)
        | (gi_at_call 35; refine (callsIn_wide.2 (CL.out _ H3.out)).mono ?_; rintro e w4 ⟨v, rfl, o4, b4⟩; obtain ⟨a4, cap4, rfl⟩ := OwnsE.form o4; rw [← HLn.out] at o4 ⊢; have HX4 := Lib.hid (HX3.out.trans (b4.mono HX3.out.size)); have H4 := Lib.hid (H3.out.below b4); have HR4 := Lib.hid (rowC_below HR3.out b4 (rowC_lt HR3.out)); have O4 := Lib.hid (owns_up o4 HX3.out.size); clear o4 b4))
      have HRes := Lib.hid (show takeL L m = ([], false, L) by rw [HTL.out, if_pos (by rw [← HLn.out]; exact h8)])
      refine ⟨_, results_tmp2 rfl _ _ _, .slice none 0 0, by rw [HRes.out]; rfl, by rw [HRes.out]; exact OwnsE.nil _ _, impOwn q r, ⟨r, by rw [HRes.out]; exact H4.out, rfl⟩, Chg.of_below HX4.out, fun k hk => .inl hk, fun g hg => by cases hg⟩
    · have hd8 : decide ((8 : Int) < (E : Int)) = false := by rw [decide_eq_false_iff_not]; omega
      gi_wp2_with (first
        | (gi_at_call 34; refine (callsIn_wide.2 CT3).mono ?_; rintro e w3 ⟨a3, cap3, rfl, b3⟩; have HX3 := Lib.hid (HX.out.trans (b3.mono HX.out.size)); have H3 := Lib.hid (H2.out.below b3); have HR3 := Lib.hid (rowC_below HR2.out b3 (rowC_lt HR2.out)); have cM3 := rowC_cell HR3.out 0; have cQ3 := H3.out.cell.1; clear CT3 b3)
        | (gi_at_call 35; refine (callsIn_wide.2 (CL.out _ H3.out)).mono ?_; rintro e w4 ⟨v, rfl, o4, b4⟩; obtain ⟨a4, cap4, rfl⟩ := OwnsE.form o4; rw [← HLn.out] at o4 ⊢; have HX4 := Lib.hid (HX3.out.trans (b4.mono HX3.out.size)); have H4 := Lib.hid (H3.out.below b4); have HR4 := Lib.hid (rowC_below HR3.out b4 (rowC_lt HR3.out)); have O4 := Lib.hid (owns_up o4 HX3.out.size); clear o4 b4)
        | (gi_at_call 31; refine (blocks_call _ _ _ _ _).mono ?_; rintro e w5 ⟨rfl, rfl⟩))
      have al6 : Below w4.heap.size w4 (w4.alloc (.cells #[.slice a4 E cap4] 33)) := (Below.refl _ _).alloc (Nat.le_refl _) _
      have M0 : TakeM w (w4.alloc (.cells #[.slice a4 E cap4] 33)) q r w.heap.size L (.slice a4 E cap4) (extsL L m) :=
        ⟨H4.out.below al6, Chg.of_below (HX4.out.trans (al6.mono HX4.out.size)), rowC_below HR4.out al6 (rowC_lt HR4.out), (Chg.of_below (s := fun _ => False) al6).owns O4.out (fun _ _ => id)⟩
      have cs : (w4.alloc (.cells #[.slice a4 E cap4] 33)).cell? ⟨w4.heap.size, 0, none⟩ = some (.slice a4 E cap4) := rowC_cell (rowC_new w4 #[.slice a4 E cap4] 33) 0
      have hs6 : w4.heap.size < (w4.alloc (.cells #[.slice a4 E cap4] 33)).heap.size := by rw [size_alloc]; omega
      have hrB : r < w.heap.size := HI.out.lt r (.inr rfl)
      have hwB := HX4.out.size
      generalize w4.alloc (.cells #[.slice a4 E cap4] 33) = w6 at *
      obtain ⟨Bs, hBs⟩ : ∃ Bs, Bs = w4.heap.size := ⟨_, rfl⟩
      obtain ⟨B, hB⟩ : ∃ B, B = w.heap.size := ⟨_, rfl⟩
      rw [← hB] at M0 hrB hwB
      rw [← hBs] at cs hs6 hwB ⊢
      rw [show w.heap.size = B from hB.symm]
      have HM0 := Lib.hid M0
      have HBe := Lib.hid hB
      have hEl : E = (extsL L m).length := HLn.out
      have hX6 : ExtAt w6 (.slice a4 E cap4) (toI (extsL L m)) := M0.o.ext (by rw [← hEl]; unfold maxLen; omega)
      have HEl := Lib.hid hEl
      have HX6 := Lib.hid hX6
      have hin : ∀ x ∈ extsL L m, x.1 + x.2 ≤ N := fun x hx => by rw [HN.out]; exact exts_in hx
      have HIN := Lib.hid hin
      have hok : extOk (toI (extsL L m)) := toI_ok (fun x hx => by have := hin x hx; omega)
      have HOK := Lib.hid hok
      have hns : ∀ ad, a4 = some ad → 0 < E → ¬ ad.block = r := fun ad e _ => by
        have h1 := M0.o.lt ad.block (by rw [e]; rfl)
        rw [← hB] at h1
        omega
      have HNS := Lib.hid hns
      clear M0 hB hBs al6 hEl hX6 hin hok hns al
      refine wpIn_rangeFunc_ownF rfl (by omega) (gf := 47) (lb := #[.pointer (some ⟨Bs, 0, none⟩)]) rfl trivial (enters_of Try.func47 (by kernel_rfl) rfl)
        (blocks_stops (P := fun y => 0 ≤ y ∧ y < (N : Int)) 3 (by omega) Bs E cap4 a4 (toI (extsL L m)) (fun k => k = r) (by rw [toI_length]; exact HEl.out) (blk_in HIN.out hL4) HOK.out w6 (fun k hk => by subst hk; omega) cs HX6.out HNS.out)
        (fun h h' => h.trans h') (fun W l o o' _ h hc _ => KeepsBut.put _ W l o o' h hc) (Below.refl _ _) (fun _ => rfl)
        (fun pre W => TakeM w W q r B (setAll L (valsP pre)) (.slice a4 E cap4) (extsL L m))
        (fun _ _ _ => False)
        (fun pre A C row h hg hr => h.own hg (fun k e => ⟨by have := (hr k e).1; have := HBe.out; omega, (hr k e).2⟩))
        (fun _ _ _ _ _ h _ _ => h)
        HM0.out
        (fun x => { tmps := #[.pointer (some ⟨q, 0, none⟩), .int .i64 (m : Int), .pointer (some ⟨B, 0, none⟩), undef, .slice none 0 0, .bool false, .slice a4 E cap4, .int .i64 x.1, .pointer (some ⟨q, 0, none⟩), .bool false, .bool false, .int .i64 (m : Int), .bool false, .bool false, .bool false, .int .i64 (m : Int), .pointer (some ⟨q, 0, none⟩), .pointer (some ⟨q, 0, none⟩), .pointer (some ⟨q, 0, none⟩), .pointer (some ⟨r, 0, none⟩), .pointer (some ⟨r, 0, none⟩), .pointer (some ⟨r, 0, none⟩), .int .i64 (N : Int), .pointer (some ⟨q, 0, none⟩), .int .i64 (U : Int), .int .i64 ((N : Int) - (U : Int)), .bool false, .bool false, .pointer (some ⟨q, 0, none⟩), .pointer (some ⟨q, 0, none⟩), .pointer (some ⟨q, 0, none⟩), .pointer (some ⟨r, 0, none⟩), .int .i64 (m : Int), .slice a3 0 cap3, .slice a3 0 cap3, .int .i64 0, .bool true, .pointer (some ⟨q, 0, none⟩), .pointer (some ⟨q, 0, none⟩), .pointer (some ⟨q, 0, none⟩), .pointer (some ⟨r, 0, none⟩), .int .i64 (m : Int), .slice a4 E cap4, .slice a4 E cap4, .int .i64 (E : Int), .bool false, .slice a4 E cap4, .func (.func 47) #[] #[.pointer (some ⟨Bs, 0, none⟩)], .int .i64 x.1, undef, undef, undef, undef, undef, undef, undef, undef, undef, undef, undef, undef, undef, undef, undef, undef], defers := [] }) ?assign ?body ?done ?stop
      case assign =>
        intro l x W K hK
        gi_wp2
        simpa using hK
      case body =>
        rintro l2 pre ⟨y, hy0, hyN⟩ W hG _
        dsimp only
        obtain ⟨M, hM⟩ : ∃ M, M = setAll L (valsP pre) := ⟨_, rfl⟩
        have hML : M.length = N := by rw [hM, setAll_length, HN.out]
        rw [← hM] at hG
        have HS := Lib.hid (show setAll L (valsP (pre ++ [⟨y, hy0, hyN⟩])) = M.set y.toNat true by rw [valsP_snoc, setAll_append, ← hM]; rfl)
        have hj : y.toNat < M.length := by omega
        have hw := pack_with M y.toNat true hj
        rw [Int.toNat_of_nonneg hy0] at hw
        have cM : ∀ z : After W, z.v.cell? ⟨B, 0, none⟩ = some (.pointer (some ⟨q, 0, none⟩)) := fun z => rowC_cell (hG.below z.h).b 0
        have cQ : ∀ z : After W, z.v.cell? ⟨q, 0, none⟩ = some (.pointer (some ⟨r, 0, none⟩)) := fun z => (z.imp hG.i).cell.1
        have cS : ∀ z : After W, z.v.cell? ⟨r, 1, none⟩ = some (.string (str (packL M))) := fun z => (z.imp hG.i).cell.2.2
        have CW : ∀ z : After W, CallsIn (Fence.wide.inRound l2) 1 Try.prog 33 #[.string (str (packL M)), .int .i64 y, .bool true] z.v fun e w'' => e = .returned (.string (str (packL (M.set y.toNat true)))) ∧ ∃ z' : After W, w'' = z'.v := fun z =>
          CallsIn.inRound l2 ((callsIn_wide.2 (with_any (str (packL M)) y true z.v (pack_le (by omega)) (by omega))).mono fun e w'' ⟨he, hb⟩ => ⟨by rw [he, hw], ⟨w'', z.h.trans (hb.mono z.h.size)⟩, rfl⟩)
        have HG := Lib.hid hG
        have HML := Lib.hid hML
        clear hG hM hML hj hw HX6 HM0 HOK HIN HNS cs hs6
        gi_wp2_with fail
        refine region_quiet_tail (C := fun w' => ∃ z : After W, w' = z.v) 13 (by kernel_rfl) (by kernel_rfl) (by kernel_rfl) ⟨⟨W.drew, (Below.refl _ _).drew⟩, rfl⟩ ?_
        simp only [List.take_succ_cons, List.take_zero, List.drop_succ_cons, List.drop_zero]
        repeat (gi_big_quiet_step ((gi_at_call 33; exact CW _)))
        refine wpQuietIn_nil ?_
        rintro _ ⟨z, rfl⟩
        have HG7 := Lib.hid (HG.out.below z.h)
        have HKO := Lib.hid (KeepsOthers.below z.h (Nat.le_refl _))
        have HCH := Lib.hid (Chg.of_below (s := fun k => k = r) z.h)
        have cS7 := HG7.out.i.cell.2.2
        have fS7 := rowC_free HG7.out.i.r 1
        clear cM cQ cS CW HG
        generalize z.v = w7 at *
        gi_wp2
        refine ⟨HKO.out.trans (KeepsOthers.setCell _ _ _), KeepsBut.chg (HCH.out.setCell ⟨r, 1, none⟩ _ (.inl rfl)), ?_⟩
        dsimp only
        rw [HS.out]
        exact HG7.out.set (by omega) (by rw [List.length_set])
      case done =>
        rintro D ys W hD hys hG hK
        rw [hys, setAll_mark _ _ (fun x hx => by have := HIN.out x hx; omega)] at hG
        have HRes := Lib.hid (show takeL L m = (extsL L m, true, markL L (extsL L m) true) by rw [HTL.out, if_neg (by rw [← HEl.out]; omega)])
        have HG := Lib.hid hG
        have HD := Lib.hid hD
        clear hys hG hD HX6 HM0 HOK HIN HNS cs
        gi_wp2
        refine ⟨by simp, .inl ⟨_, _, rfl, run_takeDeferred hK, ?_⟩⟩
        have hg5 := grownBy_putObj' W D (.deferred none)
        have hr5 : ∀ k, some D = some k → w.heap.size ≤ k ∧ ∃ o : Obj, W.heap[k]? = some o ∧ o.isCells = false := fun k e => by cases e; exact ⟨by have := HD.out; have := HBe.out; omega, _, hK, rfl⟩
        have hG2 := HG.out.own hg5 hr5
        refine ⟨_, results_tmp2 rfl _ _ _, .slice a4 E cap4, by rw [HRes.out]; rfl, by rw [HRes.out]; exact hG2.o, impOwn q r, ⟨r, by rw [HRes.out]; exact hG2.i, rfl⟩, hG2.c.mono (fun k _ hk => .inr hk), fun k hk => .inl hk, fun g hg hgo => ?_⟩
        have h1 := hG2.o.lt g hg
        have h2 := HI.out.lt g hgo
        omega
      case stop =>
        rintro D c pre W _ _ h _
        exact h.elim
end Go.Proofs.Ytdngkpdiaeicmaa
