/- Layer 17: ChainidTell walked. -/
import Derived.Test.YtemnfnmkhfgopaaDoorChH
namespace Go.Proofs.YtemnfnmkhfgopaaDoor
open Go.RowKit
attribute [local go_sem] wide_fn round_fn

set_option maxRecDepth 100000 in
set_option maxHeartbeats 16000000 in
theorem tell_any (a b : List (List UInt8)) (x y : Option Addr) (c d : Nat) (w : World) (L : Laid w) (ha : a.length ≤ maxLen) (hb : b.length ≤ maxLen) (hA : DgE.At w x a) (hB : DgE.At w y b) :
    Calls Tryd.prog 3 #[.slice x a.length c, .slice y b.length d] w fun e w' => e = .returned (.bool true) ∧ Below w.heap.size w w' := by
  have CC := Lib.hid (chained_any w L)
  by_cases hs : 12 < a.length ∨ 12 < b.length
  · have hn2 : a.length ≤ 9223372036854775807 := by unfold maxLen at ha; omega
    have hm2 : b.length ≤ 9223372036854775807 := by unfold maxLen at hb; omega
    generalize a.length = N at *
    generalize b.length = M at *
    clear ha hb
    rcases hs with hs | hs
    · go_enter Tryd.func3, Tryd.ntmps3
      go_wp2_with (go_at_call 5; ((with_reducible refine (CC.out).mono ?_); rintro e w1 ⟨rfl, hb1⟩))
      go_ret
      exact ⟨rfl, hb1⟩
    · by_cases h2 : 12 < N
      · go_enter Tryd.func3, Tryd.ntmps3
        go_wp2_with (go_at_call 5; ((with_reducible refine (CC.out).mono ?_); rintro e w1 ⟨rfl, hb1⟩))
        go_ret
        exact ⟨rfl, hb1⟩
      · go_enter Tryd.func3, Tryd.ntmps3
        go_wp2_with (go_at_call 5; ((with_reducible refine (CC.out).mono ?_); rintro e w1 ⟨rfl, hb1⟩))
        go_ret
        exact ⟨rfl, hb1⟩
  · obtain ⟨hN12, hM12⟩ : a.length ≤ 12 ∧ b.length ≤ 12 := by omega
    have hlen := chainsL_length a
    have h32 := Lib.hid (topD_length hA.ok)
    have HA32 := Lib.hid hA.ok
    -- what each call tells, in whatever world of more blocks
    have KO := Lib.hid fun (v : World) (h : Below w.heap.size w v) => of_any a x c v (L.below h L.lt) (by omega) (hA.far h (Nat.le_refl _))
    have KR := Lib.hid fun (v : World) (h : Below w.heap.size w v) => rof_any a x c v (by omega) (hA.far h (Nat.le_refl _))
    have KT := Lib.hid fun (v : World) (h : Below w.heap.size w v) => top_any a x c v (L.below h L.lt) (by omega) (hA.far h (Nat.le_refl _))
    have KS := Lib.hid fun (v : World) (h : Below w.heap.size w v) => shared_any a b x y c d v ha hb (hA.far h (Nat.le_refl _)) (hB.far h (Nat.le_refl _))
    have KU := Lib.hid fun (v : World) (h : Below w.heap.size w v) => rshared_any a b x y c d v ha hb (hA.far h (Nat.le_refl _)) (hB.far h (Nat.le_refl _))
    have KC := Lib.hid fun (v : World) (h : Below w.heap.size w v) => chained_any v (L.below h L.lt)
    have HA := Lib.hid hA
    have HB := Lib.hid hB
    have LW := Lib.hid L
    obtain ⟨N, hN⟩ : ∃ N, N = a.length := ⟨_, rfl⟩
    obtain ⟨M, hM⟩ : ∃ M, M = b.length := ⟨_, rfl⟩
    rw [← hN] at KO KR KT KS KU hN12 hlen ⊢
    rw [← hM] at KS KU hM12 ⊢
    have HN := Lib.hid hN
    have HM := Lib.hid hM
    have HT : Hid (N = 0 → topD a = List.replicate 32 0) := Lib.hid fun h0 => by unfold topD; rw [if_pos (by omega)]
    have HU : Hid (∀ m, N = m + 1 → topD a = (chainsL a).getD m []) := Lib.hid fun m h0 => by unfold topD; rw [if_neg (by omega), show a.length - 1 = m by omega]
    have HCK := Lib.hid (chainsL_mem hA.ok)
    clear hs hA hB L ha hb hN hM CC
    obtain ⟨D, hD⟩ : ∃ D, D = topD a := ⟨_, rfl⟩
    rw [← hD] at KT HT HU h32
    clear hD
    obtain ⟨S, hS⟩ : ∃ S, S = shareL a b := ⟨_, rfl⟩
    rw [← hS] at KS KU
    clear hS
    have hge1 : ¬ 12 < N := by omega
    have hge2 : ¬ 12 < M := by omega
    have HB0 := Lib.hid (Below.refl w.heap.size w)
    have HID := Lib.hid (info_digest (l := D) h32.out)
    have HLEN := Lib.hid hlen
    clear hlen
    have hdN : ∀ K : Nat, decide (0 < K) = decide ((0 : Int) < (K : Int)) := fun K => by
      by_cases h : 0 < K
      · rw [decide_eq_true h, decide_eq_true (by omega)]
      · rw [decide_eq_false h, decide_eq_false (by omega)]
    go_enter Tryd.func3, Tryd.ntmps3
    go_upto_region 4 with (first
      | (go_at_call 6; ((with_reducible refine (KR.out _ HB0.out).mono ?_); rintro e w1 ⟨v1, rfl, o1, b1⟩)))
    obtain ⟨a1, cap1, hv1⟩ := o1.form
    rw [HLEN.out] at hv1
    subst hv1
    have O1 := Lib.hid o1
    have B1 : Hid (Below w.heap.size w w1) := Lib.hid b1
    clear o1 b1 KR
    have hb : (decide (0 < N) != decide ((0 : Int) < (N : Int))) = false := by rw [hdN N]; simp
    have hss : ((S : Int) != (S : Int)) = false := by simp
    clear hdN
    go_upto_region 5 with (first
      | (go_at_call 7; ((with_reducible refine (KT.out _ B1.out).mono ?_); rintro e w2 ⟨rfl, b2⟩))
      | ((with_reducible show wpList _ _ _ (⟨none, _, _, _, _, _⟩ :: _) _ _); refine wpList_store_last rfl 26 _ _ rfl w2.heap.size (cells8 D) rfl rfl 26 _ rfl HID.out (by rw [cells8_size, h32.out]; rfl) (cells8_one _) ?_))
    have hX := b2.size
    have RX := rowC_new w2 (cells8 D) 26
    have BX : Below w.heap.size w (w2.alloc (.cells (cells8 D) 26)) := (B1.out.trans (b2.mono B1.out.size)).alloc (Nat.le_trans B1.out.size b2.size) _
    have OX := (O1.out.below b2).alloc (.cells (cells8 D) 26)
    generalize hq : w2.alloc (.cells (cells8 D) 26) = w3 at *
    obtain ⟨q, hqq⟩ : ∃ q, q = w2.heap.size := ⟨_, rfl⟩
    rw [← hqq] at RX ⊢
    have R3 := Lib.hid RX
    have B3 := Lib.hid BX
    have O3 := Lib.hid OX
    have HQ3 := Lib.hid (rowC_lt RX)
    clear hq hqq RX BX OX O1 B1 b2 hX KT
    have KSM : Hid (∀ (v : World) (x1 x2 : Option Addr) (c1 c2 : Nat), DgE.At v x1 (chainsL a) → DgE.At v x2 (chainsL a) →
        Calls Tryd.prog 8 #[.slice x1 N c1, .slice x2 N c2] v fun e w' => e = .returned (.bool true) ∧ Below v.heap.size v w') := Lib.hid fun v x1 x2 c1 c2 h1 h2 => by
      have := same_any (chainsL a) (chainsL a) x1 x2 c1 c2 v (by rw [HLEN.out]; unfold maxLen; omega) h1 h2
      rwa [HLEN.out, decide_eq_true rfl] at this
    go_upto_region 7 with (first
      | (go_at_call 9; ((with_reducible refine (KO.out _ B3.out).mono ?_); rintro e w4 ⟨v4, rfl, o4, b4⟩; obtain ⟨a4, cap4, hv4⟩ := o4.form; rw [HLEN.out] at hv4; subst hv4; have A4 := o4.at; have A1 := (O3.out.below b4).at; have B4 := B3.out.trans (b4.mono B3.out.size)))
      | (go_at_call 8; ((with_reducible refine (KSM.out _ _ _ _ _ A4 A1).mono ?_); rintro e w5 ⟨rfl, b5⟩; have B5 := B4.trans (b5.mono B4.size)))
      | (go_at_call 10; ((with_reducible refine (KS.out _ B5).mono ?_); rintro e w6 ⟨rfl, b6⟩; have B6 := B5.trans (b6.mono B5.size)))
      | (go_at_call 11; ((with_reducible refine (KU.out _ B6).mono ?_); rintro e w7 ⟨rfl, b7⟩; have B7 := B6.trans (b7.mono B6.size))))
    have b37 : Below w3.heap.size w3 w7 := b4.trans (((b5.trans (b6.mono b5.size)).trans (b7.mono (Nat.le_trans b5.size b6.size))).mono b4.size)
    have R7 := Lib.hid (rowC_below R3.out b37 HQ3.out)
    have A7 := Lib.hid (O3.out.below b37).at
    have B7' := Lib.hid B7
    have HQ7 : Hid (q < w7.heap.size) := Lib.hid (Nat.lt_of_lt_of_le HQ3.out b37.size)
    clear b4 b5 b6 b7 B4 B5 B6 B7 A1 A4 o4 b37 R3 O3 HQ3 KSM KS KU KO B3
    have HRQ : Hid (∀ w', (∃ k, w' = w7.drewN k) → ∀ j v, (D.map byteV)[j]? = some v → w'.cell? ((⟨q, 0, none⟩ : Addr).add j) = some v) := Lib.hid fun w' ⟨k, hk⟩ => by
      subst hk
      exact dig_at R7.out
    have HIL := Lib.hid (info_dig32 h32.out)
    have gd := guard_digest
    have qD : ∀ w, (Op.equalIn 10000 26 (.agg (D.map byteV).toArray) (.agg (D.map byteV).toArray)).run Tryd.prog w = .ok true w := fun w => (eq_digest w 9998 h32.out h32.out).trans (by rw [decide_eq_true rfl])
    generalize hβ : decide (0 < N) = β
    cases β with
    | false =>
      rw [decide_eq_false_iff_not] at hβ
      obtain rfl : N = 0 := by omega
      have HD0 := Lib.hid (HT.out rfl)
      refine (wpIn_wide (n := 4)).1 ?_
      refine region_quiet_drew (by kernel_rfl) (by kernel_rfl) (by kernel_rfl) ?_
      have qZ : ∀ w, (Op.equalIn 10000 26 (.agg (D.map byteV).toArray) (.agg #[Value.int IntKind.u8 0, Value.int IntKind.u8 0, Value.int IntKind.u8 0, Value.int IntKind.u8 0, Value.int IntKind.u8 0, Value.int IntKind.u8 0, Value.int IntKind.u8 0, Value.int IntKind.u8 0, Value.int IntKind.u8 0, Value.int IntKind.u8 0, Value.int IntKind.u8 0, Value.int IntKind.u8 0, Value.int IntKind.u8 0, Value.int IntKind.u8 0, Value.int IntKind.u8 0, Value.int IntKind.u8 0, Value.int IntKind.u8 0, Value.int IntKind.u8 0, Value.int IntKind.u8 0, Value.int IntKind.u8 0, Value.int IntKind.u8 0, Value.int IntKind.u8 0, Value.int IntKind.u8 0, Value.int IntKind.u8 0, Value.int IntKind.u8 0, Value.int IntKind.u8 0, Value.int IntKind.u8 0, Value.int IntKind.u8 0, Value.int IntKind.u8 0, Value.int IntKind.u8 0, Value.int IntKind.u8 0, Value.int IntKind.u8 0])).run Tryd.prog w = .ok true w := fun w => (eq_digest w 9998 (l := D) (m := List.replicate 32 0) h32.out rfl).trans (by rw [decide_eq_true HD0.out])
      iterate 15 gi_big_quiet_step (fail)
      refine ls_wpQuiet_load (fun _ => trivial) rfl 26 _ rfl ⟨q, 0, none⟩ rfl (D.map byteV) _ HRQ.out Tryd.underlying26 rfl HIL.out ?_
      simp only [Act.put, List.setIfInBounds_toArray, List.set_cons_zero, List.set_cons_succ]
      iterate 4 gi_big_quiet_step (fail)
      refine wpQuietIn_nil ?_
      rintro _ ⟨n, rfl⟩
      have B8 := Lib.hid (below_drewN B7'.out n)
      clear gd qD qZ HRQ
      generalize w7.drewN n = w8 at *
      gi_wp2
      go_wp2
      go_loopw [8] (fun i wr => i = .int .i64 0 ∧ Below w.heap.size w wr) (fun _ _ => 0)
      case atStart => exact ⟨rfl, B8.out⟩
      case round =>
        obtain ⟨rfl, hbr⟩ := hrel
        have HBR := Lib.hid hbr
        clear hbr
        go_wp2_with (go_at_call 5; ((with_reducible refine (KC.out _ HBR.out).mono ?_); rintro e w9 ⟨rfl, b9⟩))
        go_ret
        exact ⟨rfl, HBR.out.trans (b9.mono HBR.out.size)⟩
    | true =>
      rw [decide_eq_true_eq] at hβ
      obtain ⟨m, hNm⟩ : ∃ m, N = m + 1 := ⟨N - 1, by omega⟩
      have HD0 := Lib.hid (HU.out m hNm)
      have hY : (chainsL a)[m]? = some D := by
        have h1 : m < (chainsL a).length := by rw [HLEN.out]; omega
        rw [HD0.out, List.getD_eq_getElem?_getD, List.getElem?_eq_getElem h1]; rfl
      obtain ⟨_, ad1, rfl, hblk, hcell⟩ := A7.out m D hY
      have HC1 : Hid (∀ w', (∃ k, w' = w7.drewN k) → ∀ j v, (D.map byteV)[j]? = some v → w'.cell? ((ad1.add (m * 32)).add j) = some v) := Lib.hid fun w' ⟨k, hk⟩ => by
        subst hk
        exact hcell
      have hm1 : ((N : Int) - 1) = (m : Int) := by omega
      have hm2 : m < N := by omega
      clear hY hcell hb hNm
      refine (wpIn_wide (n := 4)).1 ?_
      refine region_quiet_drew (by kernel_rfl) (by kernel_rfl) (by kernel_rfl) ?_
      iterate 2 gi_big_quiet_step (fail)
      refine ls_wpQuiet_load (fun _ => trivial) rfl 26 _ rfl ⟨q, 0, none⟩ rfl (D.map byteV) _ HRQ.out Tryd.underlying26 rfl HIL.out ?_
      simp only [Act.put, List.setIfInBounds_toArray, List.set_cons_zero, List.set_cons_succ]
      iterate 5 gi_big_quiet_step (fail)
      refine ls_wpQuiet_load (fun _ => trivial) rfl 26 _ rfl (ad1.add (m * 32)) rfl (D.map byteV) _ HC1.out Tryd.underlying26 rfl HIL.out ?_
      simp only [Act.put, List.setIfInBounds_toArray, List.set_cons_zero, List.set_cons_succ]
      iterate 11 gi_big_quiet_step (fail)
      refine wpQuietIn_nil ?_
      rintro _ ⟨n, rfl⟩
      have B8 := Lib.hid (below_drewN B7'.out n)
      clear gd qD HRQ HC1 hm1 hm2 hblk HD0 HIL
      generalize w7.drewN n = w8 at *
      gi_wp2
      go_wp2
      go_loopw [8] (fun i wr => ∃ k : Nat, k ≤ N ∧ k ≤ M ∧ i = .int .i64 k ∧ Below w.heap.size w wr) (fun i _ => N - (intOf i).toNat)
      case atStart => exact ⟨0, by omega, by omega, rfl, B8.out⟩
      case round =>
        obtain ⟨k, hk, hkM, rfl, hbr⟩ := hrel
        have HBR := Lib.hid hbr
        clear hbr
        by_cases h1 : k < N
        · by_cases h2 : k < M
          · obtain ⟨P, hP, hP32, ad, rfl, hblkA, hcA⟩ := DgAt_get (HA.out.far HBR.out (Nat.le_refl _)) (k := k) (by rw [← HN.out]; exact h1)
            obtain ⟨R, hR, hR32, bd, rfl, hblkB, hcB⟩ := DgAt_get (HB.out.far HBR.out (Nat.le_refl _)) (k := k) (by rw [← HM.out]; exact h2)
            have HIA := Lib.hid (info_dig32 hP32)
            have HIB := Lib.hid (info_dig32 hR32)
            have HCA : Hid (∀ w', (∃ y : Afters wr, w' = y.v) → ∀ j v, (P.map byteV)[j]? = some v → w'.cell? ((ad.add (k * 32)).add j) = some v) := Lib.hid fun w' ⟨y, hy⟩ j v hv => by
              subst hy
              rw [ls_cell_far y.h (by rw [ls_add_blk, ls_add_blk]; exact hblkA)]
              exact hcA j v hv
            have HCB : Hid (∀ w', (∃ y : Afters wr, w' = y.v) → ∀ j v, (R.map byteV)[j]? = some v → w'.cell? ((bd.add (k * 32)).add j) = some v) := Lib.hid fun w' ⟨y, hy⟩ j v hv => by
              subst hy
              rw [ls_cell_far y.h (by rw [ls_add_blk, ls_add_blk]; exact hblkB)]
              exact hcB j v hv
            have LR : Hid (Laid wr) := Lib.hid (LW.out.below HBR.out LW.out.lt)
            have CN : ∀ y : Afters wr, CallsIn Fence.wide 3 Tryd.prog 12 #[.agg (cells8 P), .agg (cells8 R)] y.v fun e w'' => e = .returned (.agg (cells8 (nextL P R))) ∧ ∃ z : Afters wr, w'' = z.v := fun y =>
              (callsIn_wide.2 (next_any P R y.v (LR.out.far y.h) hP32 hR32)).mono fun e w'' ⟨he, hb⟩ => ⟨he, ⟨w'', y.h.trans (hb.mono y.h.size)⟩, rfl⟩
            have CM : ∀ y : Afters wr, CallsIn Fence.wide 3 Tryd.prog 13 #[.agg (cells8 P), .agg (cells8 R)] y.v fun e w'' => e = .returned (.agg (cells8 (nextL P R))) ∧ ∃ z : Afters wr, w'' = z.v := fun y =>
              (callsIn_wide.2 (rnext_any P R y.v hP32 hR32)).mono fun e w'' ⟨he, hb⟩ => ⟨he, ⟨w'', y.h.trans (hb.mono y.h.size)⟩, rfl⟩
            have hX32 := nextL_length P R
            generalize nextL P R = X at *
            have gd := guard_digest
            have qX : ∀ w, (Op.equalIn 10000 26 (.agg (cells8 X)) (.agg (cells8 X))).run Tryd.prog w = .ok true w := fun w => (eq_digest w 9998 hX32 hX32).trans (by rw [decide_eq_true rfl])
            clear hP hR hcA hcB hblkA hblkB hP32 hR32
            go_upto_region 12 with (fail)
            refine (wpIn_wide (n := 4)).1 ?_
            refine region_quiet (C := fun w' => ∃ y : Afters wr, w' = y.v) (by kernel_rfl) (by kernel_rfl) (by kernel_rfl) ⟨⟨wr.drew, (Below.refl _ _).drew⟩, rfl⟩ ?_
            iterate 3 gi_big_quiet_step (fail)
            refine ls_wpQuiet_load (fun _ => trivial) rfl 26 _ rfl (ad.add (k * 32)) rfl (P.map byteV) _ HCA.out Tryd.underlying26 rfl HIA.out ?_
            simp only [Act.put, List.setIfInBounds_toArray, List.set_cons_zero, List.set_cons_succ]
            iterate 3 gi_big_quiet_step (fail)
            refine ls_wpQuiet_load (fun _ => trivial) rfl 26 _ rfl (bd.add (k * 32)) rfl (R.map byteV) _ HCB.out Tryd.underlying26 rfl HIB.out ?_
            simp only [Act.put, List.setIfInBounds_toArray, List.set_cons_zero, List.set_cons_succ]
            gi_big_quiet_step ((gi_at_call 12; exact CN _))
            iterate 3 gi_big_quiet_step (fail)
            refine ls_wpQuiet_load (fun _ => trivial) rfl 26 _ rfl (ad.add (k * 32)) rfl (P.map byteV) _ HCA.out Tryd.underlying26 rfl HIA.out ?_
            simp only [Act.put, List.setIfInBounds_toArray, List.set_cons_zero, List.set_cons_succ]
            iterate 3 gi_big_quiet_step (fail)
            refine ls_wpQuiet_load (fun _ => trivial) rfl 26 _ rfl (bd.add (k * 32)) rfl (R.map byteV) _ HCB.out Tryd.underlying26 rfl HIB.out ?_
            simp only [Act.put, List.setIfInBounds_toArray, List.set_cons_zero, List.set_cons_succ]
            gi_big_quiet_step ((gi_at_call 13; exact CM _))
            gi_big_quiet_step (fail)
            refine wpQuietIn_nil ?_
            rintro _ ⟨y, rfl⟩
            have HB9 := Lib.hid (HBR.out.trans (y.h.mono HBR.out.size))
            clear CN CM gd qX HCA HCB
            generalize y.v = w9 at *
            gi_wp2
            go_wp2
            go_roundw
            case rel => exact ⟨k + 1, by omega, by omega, by go_num, HB9.out⟩
            case measure => simp [intOf]; omega
          · go_wp2_with (go_at_call 5; ((with_reducible refine (KC.out _ HBR.out).mono ?_); rintro e w9 ⟨rfl, b9⟩))
            go_ret
            exact ⟨rfl, HBR.out.trans (b9.mono HBR.out.size)⟩
        · go_wp2_with (go_at_call 5; ((with_reducible refine (KC.out _ HBR.out).mono ?_); rintro e w9 ⟨rfl, b9⟩))
          go_ret
          exact ⟨rfl, HBR.out.trans (b9.mono HBR.out.size)⟩
end Go.Proofs.YtemnfnmkhfgopaaDoor
