/- Layer 17: ChainidShared walked. -/
import Derived.Test.YtemnfnmkhfgopaaDoorChI
namespace Go.Proofs.YtemnfnmkhfgopaaDoor
open Go.RowKit
attribute [local go_sem] wide_fn round_fn

theorem getD_take {l : List (List UInt8)} {n i : Nat} (h : i < n) : (l.take n).getD i [] = l.getD i [] := by
  rw [List.getD_eq_getElem?_getD, List.getD_eq_getElem?_getD, List.getElem?_take, if_pos h]
/-- What the walk asks of the lists. -/
structure ShP (F X Y : List (List UInt8)) (n : Nat) : Prop where
  lo : F.length ≤ n
  lx : n ≤ X.length
  ly : n ≤ Y.length
  p : ∀ i, i < n → (chainsL X).getD i [] = (chainsL Y).getD i []
  x : ∀ i, i < n → X.getD i [] = Y.getD i []
  f : ∀ i, i < F.length → (chainsL F).getD i [] = (chainsL X).getD i []
  e : n = min X.length Y.length ∨ X.getD n [] ≠ Y.getD n []
theorem shp_of (F A B : List (List UInt8)) : ShP F (F ++ A) (F ++ B) (shareL (F ++ A) (F ++ B)) := by
  have h1 := shareL_le (F ++ A) (F ++ B)
  have h2 := shareL_take (F ++ A) (F ++ B)
  have h3 := chainsL_same _ _ _ h2
  refine ⟨shareL_front F A B, h1.1, h1.2, fun i hi => ?_, fun i hi => ?_, fun i hi => ?_, ?_⟩
  · rw [← getD_take hi, h3, getD_take hi]
  · rw [← getD_take hi, h2, getD_take hi]
  · have : (chainsL (F ++ A)).take F.length = chainsL F := by rw [chainsL_take, List.take_left]
    rw [← this, getD_take hi]
  · rcases shareL_ne (F ++ A) (F ++ B) with h | h | h
    · left; omega
    · left; omega
    · exact .inr h
theorem bdec {p : Prop} [Decidable p] (h : ¬ p) : decide p = false := decide_eq_false h
set_option maxRecDepth 100000 in
set_option maxHeartbeats 16000000 in
theorem cshared_any (F A B : List (List UInt8)) (x y z : Option Addr) (c d e : Nat) (w : World) (L : Laid w) (hf : F.length ≤ maxLen) (ha : A.length ≤ maxLen) (hb : B.length ≤ maxLen) (hF : DgE.At w x F) (hA : DgE.At w y A) (hB : DgE.At w z B) :
    Calls Tryd.prog 4 #[.slice x F.length c, .slice y A.length d, .slice z B.length e] w fun e w' => e = .returned (.bool true) ∧ Below w.heap.size w w' := by
  have CC := Lib.hid (chained_any w L)
  by_cases hs : 8 < F.length ∨ 4 < A.length ∨ 4 < B.length
  · have hn2 : F.length ≤ 9223372036854775807 := by unfold maxLen at hf; omega
    have hm2 : A.length ≤ 9223372036854775807 := by unfold maxLen at ha; omega
    have hk2 : B.length ≤ 9223372036854775807 := by unfold maxLen at hb; omega
    generalize F.length = N at *
    generalize A.length = M at *
    generalize B.length = K at *
    clear hf ha hb
    by_cases h1 : 8 < N
    · go_enter Tryd.func4, Tryd.ntmps4
      go_wp2_with (go_at_call 5; ((with_reducible refine (CC.out).mono ?_); rintro e w1 ⟨rfl, hb1⟩))
      go_ret
      exact ⟨rfl, hb1⟩
    · by_cases h2 : 4 < M
      · go_enter Tryd.func4, Tryd.ntmps4
        go_wp2_with (go_at_call 5; ((with_reducible refine (CC.out).mono ?_); rintro e w1 ⟨rfl, hb1⟩))
        go_ret
        exact ⟨rfl, hb1⟩
      · have h3 : 4 < K := by omega
        go_enter Tryd.func4, Tryd.ntmps4
        go_wp2_with (go_at_call 5; ((with_reducible refine (CC.out).mono ?_); rintro e w1 ⟨rfl, hb1⟩))
        go_ret
        exact ⟨rfl, hb1⟩
  · obtain ⟨hN8, hM4, hK4⟩ : F.length ≤ 8 ∧ A.length ≤ 4 ∧ B.length ≤ 4 := by omega
    have HP := Lib.hid (shp_of F A B)
    have hlx : (F ++ A).length = F.length + A.length := List.length_append
    have hly : (F ++ B).length = F.length + B.length := List.length_append
    have HF := Lib.hid hF
    have HA := Lib.hid hA
    have HB := Lib.hid hB
    have LW := Lib.hid L
    have HB0 := Lib.hid (Below.refl w.heap.size w)
    have HFL : Hid (∃ n, n = F.length) := Lib.hid ⟨_, rfl⟩
    obtain ⟨N, hN⟩ := HFL.out
    obtain ⟨M, hM⟩ : ∃ n, n = A.length := ⟨_, rfl⟩
    obtain ⟨K, hK⟩ : ∃ n, n = B.length := ⟨_, rfl⟩
    have HN := Lib.hid hN
    have HM := Lib.hid hM
    have HK := Lib.hid hK
    rw [← hN, ← hM] at hlx
    rw [← hN, ← hK] at hly
    rw [← hN] at hN8
    rw [← hM] at hM4
    rw [← hK] at hK4
    rw [← hN, ← hM, ← hK]
    have HLX := Lib.hid hlx
    have HLY := Lib.hid hly
    have hg1 : ¬ 8 < N := by omega
    have hg2 : ¬ 4 < M := by omega
    have hg3 : ¬ 4 < K := by omega
    clear hs hF hA hB L hf ha hb hN hM hK HFL CC hlx hly
    go_enter Tryd.func4, Tryd.ntmps4
    go_upto_region 3 with (fail)
    have ON := Els.Own.nil (E := DgE) w w.heap.size
    have qf : Hid (([] : List (List UInt8)).length + F.length ≤ maxLen ∧ (([] : List (List UInt8)).length + F.length) * DgE.bytes ≤ 140737488355328) := Lib.hid (by
      rw [← HN.out]; unfold maxLen; simp [DgE]; omega)
    have qa : Hid (([] ++ F : List (List UInt8)).length + A.length ≤ maxLen ∧ (([] ++ F : List (List UInt8)).length + A.length) * DgE.bytes ≤ 140737488355328) := Lib.hid (by
      rw [List.nil_append, ← HN.out, ← HM.out]; unfold maxLen; simp [DgE]; omega)
    have qb : Hid (([] ++ F : List (List UInt8)).length + B.length ≤ maxLen ∧ (([] ++ F : List (List UInt8)).length + B.length) * DgE.bytes ≤ 140737488355328) := Lib.hid (by
      rw [List.nil_append, ← HN.out, ← HK.out]; unfold maxLen; simp [DgE]; omega)
    go_upto_region 4 with (first
      | ((with_reducible show wpList _ _ _ (⟨some 29, _, _, _, _, _⟩ :: _) _ _); refine Els.wpList_append (E := DgE) rfl _ _ rfl w.heap.size (.slice none 0 0) [] rfl ON x N c F rfl HN.out HF.out qf.out.1 qf.out.2 (Nat.le_refl _) ?_; intro v1 w1 o1 g1 b1;
          have B1 : Below w.heap.size w w1 := (Below.refl _ _).grown g1 (Nat.le_refl _) (fun j hj => by cases hj); obtain ⟨a1, cap1, hv1⟩ := o1.form; rw [List.nil_append, ← HN.out] at hv1; subst hv1; have HB1 := Lib.hid B1; have HO1 := Lib.hid o1; clear g1 b1 B1 o1)
      | ((with_reducible show wpList _ _ _ (⟨some 31, _, _, _, _, _⟩ :: _) _ _); refine Els.wpList_append (E := DgE) rfl _ _ rfl w.heap.size (.slice a1 N cap1) ([] ++ F) rfl HO1.out y M d A rfl HM.out (HA.out.far HB1.out (Nat.le_refl _)) qa.out.1 qa.out.2 HB1.out.size ?_; intro v2 w2 o2 g2 b2;
          have B2 : Below w.heap.size w w2 := HB1.out.grown g2 HB1.out.size (fun j hj => (HO1.out.lt j hj).1); obtain ⟨a2, cap2, hv2⟩ := o2.form; rw [List.nil_append, HLX.out] at hv2; subst hv2; rw [List.nil_append] at o2; have HB2 := Lib.hid B2; have HO2 := Lib.hid o2; clear g2 b2 B2 o2 HO1; have ON2 := Els.Own.nil (E := DgE) w2 w2.heap.size)
      | ((with_reducible show wpList _ _ _ (⟨some 33, _, _, _, _, _⟩ :: _) _ _); refine Els.wpList_append (E := DgE) rfl _ _ rfl w2.heap.size (.slice none 0 0) [] rfl ON2 x N c F rfl HN.out (HF.out.far HB2.out (Nat.le_refl _)) qf.out.1 qf.out.2 (Nat.le_refl _) ?_; intro v3 w3 o3 g3 b3;
          have B3 : Below w2.heap.size w2 w3 := (Below.refl _ _).grown g3 (Nat.le_refl _) (fun j hj => by cases hj); obtain ⟨a3, cap3, hv3⟩ := o3.form; rw [List.nil_append, ← HN.out] at hv3; subst hv3; have HB3 := Lib.hid B3; have HO3 := Lib.hid o3; clear g3 b3 B3 o3)
      | ((with_reducible show wpList _ _ _ (⟨some 35, _, _, _, _, _⟩ :: _) _ _); refine Els.wpList_append (E := DgE) rfl _ _ rfl w2.heap.size (.slice a3 N cap3) ([] ++ F) rfl HO3.out z K e B rfl HK.out (HB.out.far (HB2.out.trans (HB3.out.mono HB2.out.size)) (Nat.le_refl _)) qb.out.1 qb.out.2 HB3.out.size ?_; intro v4 w4 o4 g4 b4;
          have B4 : Below w2.heap.size w2 w4 := HB3.out.grown g4 HB3.out.size (fun j hj => (HO3.out.lt j hj).1); obtain ⟨a4, cap4, hv4⟩ := o4.form; rw [List.nil_append, HLY.out] at hv4; subst hv4; rw [List.nil_append] at o4; have HB4 := Lib.hid B4; have HO4 := Lib.hid o4; clear g4 b4 B4 o4 HO3))
    have AX := Lib.hid (HO2.out.at.far HB4.out (Nat.le_refl _))
    have AY := Lib.hid HO4.out.at
    have AF := Lib.hid (HF.out.far (HB2.out.trans (HB4.out.mono HB2.out.size)) (Nat.le_refl _))
    have HW4 : Hid (Below w.heap.size w w4) := Lib.hid (HB2.out.trans (HB4.out.mono HB2.out.size))
    clear ON ON2 HO2 HO4 HB1 HB2 HB3 HB4 qf qa qb HA HB HF HB0
    obtain ⟨n, hn⟩ : ∃ n, n = shareL (F ++ A) (F ++ B) := ⟨_, rfl⟩
    have KS := Lib.hid fun (v : World) (h : Below w4.heap.size w4 v) => shared_any (F ++ A) (F ++ B) a2 a4 cap2 cap4 v (by rw [HLX.out]; unfold maxLen; omega) (by rw [HLY.out]; unfold maxLen; omega) (AX.out.far h (Nat.le_refl _)) (AY.out.far h (Nat.le_refl _))
    rw [← hn, HLX.out, HLY.out] at KS
    rw [← hn] at HP
    have L4 : Hid (Laid w4) := Lib.hid (LW.out.below HW4.out LW.out.lt)
    have KX := Lib.hid fun (v : World) (h : Below w4.heap.size w4 v) => of_any (F ++ A) a2 cap2 v (L4.out.far h) (by rw [HLX.out]; omega) (AX.out.far h (Nat.le_refl _))
    have KY := Lib.hid fun (v : World) (h : Below w4.heap.size w4 v) => of_any (F ++ B) a4 cap4 v (L4.out.far h) (by rw [HLY.out]; omega) (AY.out.far h (Nat.le_refl _))
    have KF := Lib.hid fun (v : World) (h : Below w4.heap.size w4 v) => of_any F x c v (L4.out.far h) (by rw [← HN.out]; omega) (AF.out.far h (Nat.le_refl _))
    have KC := Lib.hid fun (v : World) (h : Below w4.heap.size w4 v) => chained_any v (L4.out.far h)
    rw [HLX.out] at KX
    rw [HLY.out] at KY
    rw [← HN.out] at KF
    have CX := Lib.hid ((chainsL_length (F ++ A)).trans HLX.out)
    have CY := Lib.hid ((chainsL_length (F ++ B)).trans HLY.out)
    have CF := Lib.hid ((chainsL_length F).trans HN.out.symm)
    have hnl : N ≤ n := by rw [HN.out]; exact HP.out.lo
    have hnx : n ≤ N + M := by rw [← HLX.out]; exact HP.out.lx
    have hny : n ≤ N + K := by rw [← HLY.out]; exact HP.out.ly
    have hne : Hid (n = min (N + M) (N + K) ∨ (F ++ A).getD n [] ≠ (F ++ B).getD n []) := Lib.hid (by have := HP.out.e; rw [HLX.out, HLY.out] at this; exact this)
    have hz1 : N + M ≤ 12 := by omega
    have hz2 : N + K ≤ 12 := by omega
    generalize F ++ A = X at *
    generalize F ++ B = Y at *
    generalize N + M = P at *
    generalize N + K = Q at *
    have HB4 := Lib.hid (Below.refl w4.heap.size w4)
    clear hn hM4 hK4 LW
    go_upto_region 5 with ((go_at_call 10; ((with_reducible refine (KS.out _ HB4.out).mono ?_); rintro e w5 ⟨rfl, b5⟩)))
    have HB5 := Lib.hid b5
    clear b5
    go_upto_region 6 with (first
      | (go_at_call 9; ((with_reducible refine (KX.out _ HB5.out).mono ?_); rintro e w6 ⟨v6, rfl, o6, b6⟩; obtain ⟨a6, cap6, hv6⟩ := o6.form; rw [CX.out] at hv6; subst hv6; have A6 := Lib.hid o6.at; have HB6 := Lib.hid (HB5.out.trans (b6.mono HB5.out.size)); clear o6 b6))
      | (go_at_call 9; ((with_reducible refine (KY.out _ HB6.out).mono ?_); rintro e w7 ⟨v7, rfl, o7, b7⟩; obtain ⟨a7, cap7, hv7⟩ := o7.form; rw [CY.out] at hv7; subst hv7; have A7 := Lib.hid o7.at; have HB7 := Lib.hid (HB6.out.trans (b7.mono HB6.out.size)); have A67 := Lib.hid (A6.out.far b7 (Nat.le_refl _)); clear o7 b7))
      | (go_at_call 9; ((with_reducible refine (KF.out _ HB7.out).mono ?_); rintro e w8 ⟨v8, rfl, o8, b8⟩; obtain ⟨a8, cap8, hv8⟩ := o8.form; rw [CF.out] at hv8; subst hv8; have PF := Lib.hid o8.at; have HB8 := Lib.hid (HB7.out.trans (b8.mono HB7.out.size)); have PX := Lib.hid (A67.out.far b8 (Nat.le_refl _)); have PY := Lib.hid (A7.out.far b8 (Nat.le_refl _)); clear o8 b8)))
    have AX8 := Lib.hid (AX.out.far HB8.out (Nat.le_refl _))
    have AY8 := Lib.hid (AY.out.far HB8.out (Nat.le_refl _))
    obtain ⟨r, hr⟩ : ∃ r, r = min P Q := ⟨_, rfl⟩
    have hmi : min (P : Int) (Q : Int) = (r : Int) := by omega
    have hnr : n ≤ r := by omega
    rw [← hr] at hne
    have HRR := Lib.hid hr
    have e1 : ¬ n < N := by omega
    have e2 : ¬ r < n := by omega
    clear hr KS KX KY KF A6 A7 A67 HB5 HB6 HB7 AX AY AF HB4
    go_wp2
    go_loopw [13] (fun i wr => ∃ k : Nat, k ≤ n ∧ i = .int .i64 k ∧ Below w8.heap.size w8 wr) (fun i _ => n - (intOf i).toNat)
    case atStart => exact ⟨0, by omega, rfl, Below.refl _ _⟩
    case round =>
      obtain ⟨k, hk, rfl, hbr⟩ := hrel
      have HBR := Lib.hid hbr
      have HBW : Hid (Below w4.heap.size w4 wr) := Lib.hid (HB8.out.trans (hbr.mono HB8.out.size))
      clear hbr
      have gd := guard_digest
      by_cases h1 : k < n
      · have HPp := Lib.hid (HP.out.p k h1)
        have HPx := Lib.hid (HP.out.x k h1)
        have hkP : k < P := by omega
        have hkQ : k < Q := by omega
        obtain ⟨V1, hV1, hV132, d6, rfl, _, hcV1⟩ := DgAt_get (PX.out.far HBR.out (Nat.le_refl _)) (k := k) (by rw [CX.out]; exact hkP)
        obtain ⟨V2, hV2, hV232, d7, rfl, _, hcV2⟩ := DgAt_get (PY.out.far HBR.out (Nat.le_refl _)) (k := k) (by rw [CY.out]; exact hkQ)
        obtain ⟨U1, hU1, hU132, d2, rfl, _, hcU1⟩ := DgAt_get (AX8.out.far HBR.out (Nat.le_refl _)) (k := k) (by rw [HLX.out]; exact hkP)
        obtain ⟨U2, hU2, hU232, d4, rfl, _, hcU2⟩ := DgAt_get (AY8.out.far HBR.out (Nat.le_refl _)) (k := k) (by rw [HLY.out]; exact hkQ)
        obtain rfl : V1 = V2 := by rw [hV1, hV2]; exact HPp.out
        obtain rfl : U1 = U2 := by rw [hU1, hU2]; exact HPx.out
        have HV := Lib.hid hV1
        have Hd6 : Hid (∀ w', (∃ q, w' = wr.drewN q) → ∀ j v, (V1.map byteV)[j]? = some v → w'.cell? ((d6.add (k * 32)).add j) = some v) := Lib.hid fun w' ⟨q, hq⟩ => by subst hq; exact hcV1
        have Hd7 : Hid (∀ w', (∃ q, w' = wr.drewN q) → ∀ j v, (V1.map byteV)[j]? = some v → w'.cell? ((d7.add (k * 32)).add j) = some v) := Lib.hid fun w' ⟨q, hq⟩ => by subst hq; exact hcV2
        have Hd2 : Hid (∀ w', (∃ q, w' = wr.drewN q) → ∀ j v, (U1.map byteV)[j]? = some v → w'.cell? ((d2.add (k * 32)).add j) = some v) := Lib.hid fun w' ⟨q, hq⟩ => by subst hq; exact hcU1
        have Hd4 : Hid (∀ w', (∃ q, w' = wr.drewN q) → ∀ j v, (U1.map byteV)[j]? = some v → w'.cell? ((d4.add (k * 32)).add j) = some v) := Lib.hid fun w' ⟨q, hq⟩ => by subst hq; exact hcU2
        have HIV := Lib.hid (info_dig32 hV132)
        have HIU := Lib.hid (info_dig32 hU132)
        have qV : ∀ w, (Op.equalIn 10000 26 (.agg (V1.map byteV).toArray) (.agg (V1.map byteV).toArray)).run Tryd.prog w = .ok true w := fun w => (eq_digest w 9998 hV132 hV132).trans (by rw [decide_eq_true rfl])
        have qU : ∀ w, (Op.equalIn 10000 26 (.agg (U1.map byteV).toArray) (.agg (U1.map byteV).toArray)).run Tryd.prog w = .ok true w := fun w => (eq_digest w 9998 hU132 hU132).trans (by rw [decide_eq_true rfl])
        have HV32 := Lib.hid hV132
        clear hV1 hV2 hU1 hU2 hcV1 hcV2 hcU1 hcU2 hV132 hV232 hU132 hU232 HPp HPx
        by_cases hkN : k < N
        · obtain ⟨V3, hV3, _, d8, rfl, _, hcV3⟩ := DgAt_get (PF.out.far HBR.out (Nat.le_refl _)) (k := k) (by rw [CF.out]; exact hkN)
          obtain rfl : V3 = V1 := by rw [hV3, HV.out]; exact HP.out.f k (by rw [← HN.out]; exact hkN)
          have Hd8 : Hid (∀ w', (∃ q, w' = wr.drewN q) → ∀ j v, (V3.map byteV)[j]? = some v → w'.cell? ((d8.add (k * 32)).add j) = some v) := Lib.hid fun w' ⟨q, hq⟩ => by subst hq; exact hcV3
          clear hV3 hcV3
          go_upto_region 11 with (fail)
          refine (wpIn_wide (n := 4)).1 ?_
          refine region_quiet_drew (by kernel_rfl) (by kernel_rfl) (by kernel_rfl) ?_
          iterate 3 gi_big_quiet_step (fail)
          refine ls_wpQuiet_load (fun _ => trivial) rfl 26 _ rfl (d6.add (k * 32)) rfl (V3.map byteV) _ Hd6.out Tryd.underlying26 rfl HIV.out ?_
          simp only [Act.put, List.setIfInBounds_toArray, List.set_cons_zero, List.set_cons_succ]
          iterate 3 gi_big_quiet_step (fail)
          refine ls_wpQuiet_load (fun _ => trivial) rfl 26 _ rfl (d7.add (k * 32)) rfl (V3.map byteV) _ Hd7.out Tryd.underlying26 rfl HIV.out ?_
          simp only [Act.put, List.setIfInBounds_toArray, List.set_cons_zero, List.set_cons_succ]
          iterate 5 gi_big_quiet_step (fail)
          refine ls_wpQuiet_load (fun _ => trivial) rfl 26 _ rfl (d2.add (k * 32)) rfl (U1.map byteV) _ Hd2.out Tryd.underlying26 rfl HIU.out ?_
          simp only [Act.put, List.setIfInBounds_toArray, List.set_cons_zero, List.set_cons_succ]
          iterate 3 gi_big_quiet_step (fail)
          refine ls_wpQuiet_load (fun _ => trivial) rfl 26 _ rfl (d4.add (k * 32)) rfl (U1.map byteV) _ Hd4.out Tryd.underlying26 rfl HIU.out ?_
          simp only [Act.put, List.setIfInBounds_toArray, List.set_cons_zero, List.set_cons_succ]
          iterate 11 gi_big_quiet_step (fail)
          refine ls_wpQuiet_load (fun _ => trivial) rfl 26 _ rfl (d8.add (k * 32)) rfl (V3.map byteV) _ Hd8.out Tryd.underlying26 rfl HIV.out ?_
          simp only [Act.put, List.setIfInBounds_toArray, List.set_cons_zero, List.set_cons_succ]
          iterate 3 gi_big_quiet_step (fail)
          refine ls_wpQuiet_load (fun _ => trivial) rfl 26 _ rfl (d6.add (k * 32)) rfl (V3.map byteV) _ Hd6.out Tryd.underlying26 rfl HIV.out ?_
          simp only [Act.put, List.setIfInBounds_toArray, List.set_cons_zero, List.set_cons_succ]
          iterate 3 gi_big_quiet_step (fail)
          refine wpQuietIn_nil ?_
          rintro _ ⟨m, rfl⟩
          have HB9 := Lib.hid (below_drewN HBR.out m)
          clear gd qV qU Hd6 Hd7 Hd2 Hd4 Hd8
          generalize wr.drewN m = w9 at *
          gi_wp2
          go_wp2
          go_roundw
          case rel => exact ⟨k + 1, by omega, by go_num, HB9.out⟩
          case measure => simp [intOf]; omega
        · go_upto_region 11 with (fail)
          refine (wpIn_wide (n := 4)).1 ?_
          refine region_quiet_drew (by kernel_rfl) (by kernel_rfl) (by kernel_rfl) ?_
          iterate 3 gi_big_quiet_step (fail)
          refine ls_wpQuiet_load (fun _ => trivial) rfl 26 _ rfl (d6.add (k * 32)) rfl (V1.map byteV) _ Hd6.out Tryd.underlying26 rfl HIV.out ?_
          simp only [Act.put, List.setIfInBounds_toArray, List.set_cons_zero, List.set_cons_succ]
          iterate 3 gi_big_quiet_step (fail)
          refine ls_wpQuiet_load (fun _ => trivial) rfl 26 _ rfl (d7.add (k * 32)) rfl (V1.map byteV) _ Hd7.out Tryd.underlying26 rfl HIV.out ?_
          simp only [Act.put, List.setIfInBounds_toArray, List.set_cons_zero, List.set_cons_succ]
          iterate 5 gi_big_quiet_step (fail)
          refine ls_wpQuiet_load (fun _ => trivial) rfl 26 _ rfl (d2.add (k * 32)) rfl (U1.map byteV) _ Hd2.out Tryd.underlying26 rfl HIU.out ?_
          simp only [Act.put, List.setIfInBounds_toArray, List.set_cons_zero, List.set_cons_succ]
          iterate 3 gi_big_quiet_step (fail)
          refine ls_wpQuiet_load (fun _ => trivial) rfl 26 _ rfl (d4.add (k * 32)) rfl (U1.map byteV) _ Hd4.out Tryd.underlying26 rfl HIU.out ?_
          simp only [Act.put, List.setIfInBounds_toArray, List.set_cons_zero, List.set_cons_succ]
          iterate 19 gi_big_quiet_step (fail)
          refine wpQuietIn_nil ?_
          rintro _ ⟨m, rfl⟩
          have HB9 := Lib.hid (below_drewN HBR.out m)
          clear gd qV qU Hd6 Hd7 Hd2 Hd4
          generalize wr.drewN m = w9 at *
          gi_wp2
          go_wp2
          go_roundw
          case rel => exact ⟨k + 1, by omega, by go_num, HB9.out⟩
          case measure => simp [intOf]; omega
      · obtain rfl : k = n := by omega
        have CE : ∀ y : Afters wr, CallsIn Fence.wide 3 Tryd.prog 5 #[] y.v fun e w'' => e = .returned (.bool true) ∧ ∃ z : Afters wr, w'' = z.v := fun y =>
          (callsIn_wide.2 (KC.out y.v (HBW.out.trans (y.h.mono HBW.out.size)))).mono fun e w'' ⟨he, hb⟩ => ⟨he, ⟨w'', y.h.trans (hb.mono y.h.size)⟩, rfl⟩
        have HWR : Hid (Below w.heap.size w wr) := Lib.hid (HW4.out.trans (HBW.out.mono HW4.out.size))
        by_cases hkr : k = r
        · subst hkr
          have hq : ((k : Int) == (k : Int)) = true := beq_self_eq_true _
          go_upto_region 13 with (fail)
          refine (wpIn_wide (n := 4)).1 ?_
          refine region_quiet (C := fun w' => ∃ y : Afters wr, w' = y.v) (by kernel_rfl) (by kernel_rfl) (by kernel_rfl) ⟨⟨wr.drew, (Below.refl _ _).drew⟩, rfl⟩ ?_
          iterate 19 gi_big_quiet_step (fail)
          gi_big_quiet_step ((gi_at_call 5; exact CE _))
          iterate 2 gi_big_quiet_step (fail)
          refine wpQuietIn_nil ?_
          rintro _ ⟨y, rfl⟩
          have HE := Lib.hid (HWR.out.trans (y.h.mono HWR.out.size))
          clear CE gd
          generalize y.v = w9 at *
          gi_wp2
          go_wp2
          go_ret
          exact ⟨rfl, HE.out⟩
        · have hkP : k < P := by have := HRR.out; omega
          have hkQ : k < Q := by have := HRR.out; omega
          have hq : ((k : Int) == (r : Int)) = false := beq_eq_false_iff_ne.2 (by omega)
          have hxy := hne.out.resolve_left hkr
          obtain ⟨U1, hU1, hU132, d2, rfl, hb2, hc2⟩ := DgAt_get (AX8.out.far HBR.out (Nat.le_refl _)) (k := k) (by rw [HLX.out]; exact hkP)
          obtain ⟨U2, hU2, hU232, d4, rfl, hb4, hc4⟩ := DgAt_get (AY8.out.far HBR.out (Nat.le_refl _)) (k := k) (by rw [HLY.out]; exact hkQ)
          rw [← hU1, ← hU2] at hxy
          have Hd2 : Hid (∀ w', (∃ y : Afters wr, w' = y.v) → ∀ j v, (U1.map byteV)[j]? = some v → w'.cell? ((d2.add (k * 32)).add j) = some v) := Lib.hid fun w' ⟨y, hy⟩ j v hv => by
            subst hy
            rw [ls_cell_far y.h (by rw [ls_add_blk, ls_add_blk]; exact hb2)]
            exact hc2 j v hv
          have Hd4 : Hid (∀ w', (∃ y : Afters wr, w' = y.v) → ∀ j v, (U2.map byteV)[j]? = some v → w'.cell? ((d4.add (k * 32)).add j) = some v) := Lib.hid fun w' ⟨y, hy⟩ j v hv => by
            subst hy
            rw [ls_cell_far y.h (by rw [ls_add_blk, ls_add_blk]; exact hb4)]
            exact hc4 j v hv
          have HI1 := Lib.hid (info_dig32 hU132)
          have HI2 := Lib.hid (info_dig32 hU232)
          have qU : ∀ w, (Op.equalIn 10000 26 (.agg (U1.map byteV).toArray) (.agg (U2.map byteV).toArray)).run Tryd.prog w = .ok false w := fun w => (eq_digest w 9998 hU132 hU232).trans (by rw [decide_eq_false hxy])
          clear hU1 hU2 hU132 hU232 hb2 hb4 hc2 hc4 hxy hkr
          go_upto_region 13 with (fail)
          refine (wpIn_wide (n := 4)).1 ?_
          refine region_quiet (C := fun w' => ∃ y : Afters wr, w' = y.v) (by kernel_rfl) (by kernel_rfl) (by kernel_rfl) ⟨⟨wr.drew, (Below.refl _ _).drew⟩, rfl⟩ ?_
          iterate 11 gi_big_quiet_step (fail)
          refine ls_wpQuiet_load (fun _ => trivial) rfl 26 _ rfl (d2.add (k * 32)) rfl (U1.map byteV) _ Hd2.out Tryd.underlying26 rfl HI1.out ?_
          simp only [Act.put, List.setIfInBounds_toArray, List.set_cons_zero, List.set_cons_succ]
          iterate 3 gi_big_quiet_step (fail)
          refine ls_wpQuiet_load (fun _ => trivial) rfl 26 _ rfl (d4.add (k * 32)) rfl (U2.map byteV) _ Hd4.out Tryd.underlying26 rfl HI2.out ?_
          simp only [Act.put, List.setIfInBounds_toArray, List.set_cons_zero, List.set_cons_succ]
          iterate 3 gi_big_quiet_step (fail)
          gi_big_quiet_step ((gi_at_call 5; exact CE _))
          iterate 2 gi_big_quiet_step (fail)
          refine wpQuietIn_nil ?_
          rintro _ ⟨y, rfl⟩
          have HE := Lib.hid (HWR.out.trans (y.h.mono HWR.out.size))
          clear CE gd qU Hd2 Hd4
          generalize y.v = w9 at *
          gi_wp2
          go_wp2
          go_ret
          exact ⟨rfl, HE.out⟩
end Go.Proofs.YtemnfnmkhfgopaaDoor
