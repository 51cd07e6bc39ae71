/- Merged: TtC, TtD. -/
import Derived.Test.YtoallfcpnbhhiaaGreatDoorM12
/- Layer 16: the program's mayBe. -/
namespace Go.Proofs.YtoallfcpnbhhiaaGreatDoor
open Go.RowKit

set_option maxRecDepth 100000 in
set_option maxHeartbeats 8000000 in
theorem mayN_any (x : Nd) (hp : x.path.length ≤ 900000) (w : World) :
    Calls Tryz.prog 29 #[.agg #[.string (str x.path), .int .i64 x.kind, .int .i64 x.mode, .string (str x.data)]] w fun e w' => e = .returned (.bool (mayN x)) ∧ Below w.heap.size w w' := by
  have CC := fun w => clean_any x.path hp w
  have HM : Hid (mayN x = (!decide (x.path = []) && (decide (0 ≤ x.mode) && (decide (x.mode ≤ 4095) && (decide (cleanL x.path = (x.path, 0)) && kindN x))))) := Lib.hid rfl
  have HK : Hid (kindN x = if x.kind = 1 then decide (x.data.length ≤ 65536) else if x.kind = 2 then decide (x.data = []) else if x.kind = 4 then !decide (x.data = []) && decide (x.data.length ≤ 200) else false) := Lib.hid rfl
  have q0 := eq_lit x.path []
  have q0b := empty_lit x.path
  have q1 := eq_lit x.data []
  have q1b := empty_lit x.data
  have q2 := eq_strs (cleanL x.path).1 x.path
  have zd := str_size x.data
  have HC : Hid (decide (cleanL x.path = (x.path, 0)) = (decide ((cleanL x.path).1 = x.path) && decide ((cleanL x.path).2 = 0))) := Lib.hid (by
    rw [Bool.eq_iff_iff, decide_eq_true_eq, Bool.and_eq_true, decide_eq_true_eq, decide_eq_true_eq]
    exact ⟨fun h => by rw [h]; exact ⟨rfl, rfl⟩, fun ⟨h1, h2⟩ => Prod.ext h1 h2⟩)
  have HB := Lib.hid ((Below.refl w.heap.size w).alloc (Nat.le_refl _) (.cells #[.string (str x.path), .int .i64 x.kind, .int .i64 x.mode, .string (str x.data)] 32))
  have HZ := Lib.hid (rowC_new w #[.string (str x.path), .int .i64 x.kind, .int .i64 x.mode, .string (str x.data)] 32)
  generalize hbp : decide (x.path = []) = bp at *
  generalize hbd : decide (x.data = []) = bd at *
  generalize hbc : decide ((cleanL x.path).1 = x.path) = bc at *
  generalize (cleanL x.path).1 = CP at *
  generalize (cleanL x.path).2 = CE at *
  generalize str x.path = NM at *
  generalize str x.data = DT at *
  generalize str CP = CS at *
  generalize hk : x.kind = k at *
  generalize hm : x.mode = m at *
  generalize hl : x.data.length = dl at *
  clear hk hm hl hbp hbd hbc
  cases bp with
  | true =>
    have HR : Hid (mayN x = false) := Lib.hid (by rw [HM.out]; rfl)
    clear HM HK HC
    go_enter Tryz.func29, Tryz.ntmps29
    go_wp2
    go_ret
    exact ⟨by rw [HR.out]; rfl, HB.out⟩
  | false =>
    by_cases h1 : m < 0
    · have e1 : decide (0 ≤ m) = false := decide_eq_false (by omega)
      have HR : Hid (mayN x = false) := Lib.hid (by rw [HM.out, e1]; rfl)
      clear HM HK HC
      go_enter Tryz.func29, Tryz.ntmps29
      go_wp2
      go_ret
      exact ⟨by rw [HR.out]; rfl, HB.out⟩
    · by_cases h2 : 4095 < m
      · have e1 : decide (m ≤ 4095) = false := decide_eq_false (by omega)
        have HR : Hid (mayN x = false) := Lib.hid (by rw [HM.out, e1]; simp)
        clear HM HK HC
        go_enter Tryz.func29, Tryz.ntmps29
        go_wp2
        go_ret
        exact ⟨by rw [HR.out]; rfl, HB.out⟩
      · have HM2 : Hid (mayN x = (bc && decide (CE = 0) && kindN x)) := Lib.hid (by rw [HM.out, HC.out, decide_eq_true (show 0 ≤ m by omega), decide_eq_true (show m ≤ 4095 by omega)]; rfl)
        clear HM HC
        have HM := HM2
        have HC := HM2
        clear HM2
        by_cases h3 : CE = 0
        rotate_left
        · have g3 : (CE != 0) = true := by rw [bne_iff_ne]; exact h3
          have HR : Hid (mayN x = false) := Lib.hid (by rw [HM.out, decide_eq_false h3]; simp)
          clear HM HK HC
          go_enter Tryz.func29, Tryz.ntmps29
          go_wp2_with (go_at_call 44; ((with_reducible refine (CC _).mono ?_); rintro e w1 ⟨rfl, hB1⟩; have HB1 := Lib.hid (HB.out.trans (hB1.mono HB.out.size)); have HZ1 := Lib.hid (rowC_below HZ.out hB1 (rowC_lt HZ.out)); have d0 := rowC_cell HZ1.out 0; have d1 := rowC_cell HZ1.out 1; have d3 := rowC_cell HZ1.out 3; clear hB1))
          go_ret
          exact ⟨by rw [HR.out]; rfl, HB1.out⟩
        subst h3
        cases bc with
        | false =>
          have q3 : (CS.toList != NM.toList) = true := by rw [bne, q2]; rfl
          have HR : Hid (mayN x = false) := Lib.hid (by rw [HM.out]; rfl)
          clear HM HK HC
          go_enter Tryz.func29, Tryz.ntmps29
          go_wp2_with (go_at_call 44; ((with_reducible refine (CC _).mono ?_); rintro e w1 ⟨rfl, hB1⟩; have HB1 := Lib.hid (HB.out.trans (hB1.mono HB.out.size)); have HZ1 := Lib.hid (rowC_below HZ.out hB1 (rowC_lt HZ.out)); have d0 := rowC_cell HZ1.out 0; have d1 := rowC_cell HZ1.out 1; have d3 := rowC_cell HZ1.out 3; clear hB1))
          go_ret
          exact ⟨by rw [HR.out]; rfl, HB1.out⟩
        | true =>
          have q3 : (CS.toList != NM.toList) = false := by rw [bne, q2]; rfl
          have HM3 : Hid (mayN x = kindN x) := Lib.hid (by rw [HM.out]; rfl)
          clear HM HC
          have HM := HM3
          have HC := HM3
          clear HM3
          by_cases k1 : k = 1
          · subst k1
            have HR : Hid (mayN x = decide (dl ≤ 65536)) := Lib.hid (by rw [HM.out, HK.out, if_pos rfl])
            clear HM HK HC
            go_enter Tryz.func29, Tryz.ntmps29
            go_wp2_with (go_at_call 44; ((with_reducible refine (CC _).mono ?_); rintro e w1 ⟨rfl, hB1⟩; have HB1 := Lib.hid (HB.out.trans (hB1.mono HB.out.size)); have HZ1 := Lib.hid (rowC_below HZ.out hB1 (rowC_lt HZ.out)); have d0 := rowC_cell HZ1.out 0; have d1 := rowC_cell HZ1.out 1; have d3 := rowC_cell HZ1.out 3; clear hB1))
            go_ret
            exact ⟨by rw [HR.out]; exact retB (decide_eq_decide.2 (by omega)), HB1.out⟩
          by_cases k2 : k = 2
          · subst k2
            have g1 : ((2 : Int) == 1) = false := rfl
            have HR : Hid (mayN x = bd) := Lib.hid (by rw [HM.out, HK.out, if_neg (by decide), if_pos rfl])
            clear HM HK HC
            go_enter Tryz.func29, Tryz.ntmps29
            go_wp2_with (go_at_call 44; ((with_reducible refine (CC _).mono ?_); rintro e w1 ⟨rfl, hB1⟩; have HB1 := Lib.hid (HB.out.trans (hB1.mono HB.out.size)); have HZ1 := Lib.hid (rowC_below HZ.out hB1 (rowC_lt HZ.out)); have d0 := rowC_cell HZ1.out 0; have d1 := rowC_cell HZ1.out 1; have d3 := rowC_cell HZ1.out 3; clear hB1))
            go_ret
            exact ⟨by rw [HR.out]; rfl, HB1.out⟩
          by_cases k4 : k = 4
          · subst k4
            have g1 : ((4 : Int) == 1) = false := rfl
            have g2 : ((4 : Int) == 2) = false := rfl
            have q5 : (DT.toList != []) = !bd := by rw [bne, q1]
            cases bd with
            | true =>
              have HR : Hid (mayN x = false) := Lib.hid (by rw [HM.out, HK.out, if_neg (by decide), if_neg (by decide), if_pos rfl]; rfl)
              clear HM HK HC
              go_enter Tryz.func29, Tryz.ntmps29
              go_wp2_with (go_at_call 44; ((with_reducible refine (CC _).mono ?_); rintro e w1 ⟨rfl, hB1⟩; have HB1 := Lib.hid (HB.out.trans (hB1.mono HB.out.size)); have HZ1 := Lib.hid (rowC_below HZ.out hB1 (rowC_lt HZ.out)); have d0 := rowC_cell HZ1.out 0; have d1 := rowC_cell HZ1.out 1; have d3 := rowC_cell HZ1.out 3; clear hB1))
              go_ret
              exact ⟨by rw [HR.out]; rfl, HB1.out⟩
            | false =>
              have HR : Hid (mayN x = decide (dl ≤ 200)) := Lib.hid (by rw [HM.out, HK.out, if_neg (by decide), if_neg (by decide), if_pos rfl]; rfl)
              clear HM HK HC
              go_enter Tryz.func29, Tryz.ntmps29
              go_wp2_with (go_at_call 44; ((with_reducible refine (CC _).mono ?_); rintro e w1 ⟨rfl, hB1⟩; have HB1 := Lib.hid (HB.out.trans (hB1.mono HB.out.size)); have HZ1 := Lib.hid (rowC_below HZ.out hB1 (rowC_lt HZ.out)); have d0 := rowC_cell HZ1.out 0; have d1 := rowC_cell HZ1.out 1; have d3 := rowC_cell HZ1.out 3; clear hB1))
              go_ret
              exact ⟨by rw [HR.out]; exact retB (decide_eq_decide.2 (by omega)), HB1.out⟩
          have g1 : (k == 1) = false := by rw [beq_eq_false_iff_ne]; exact k1
          have g2 : (k == 2) = false := by rw [beq_eq_false_iff_ne]; exact k2
          have g4 : (k == 4) = false := by rw [beq_eq_false_iff_ne]; exact k4
          have HR : Hid (mayN x = false) := Lib.hid (by rw [HM.out, HK.out, if_neg k1, if_neg k2, if_neg k4])
          clear HM HK HC
          go_enter Tryz.func29, Tryz.ntmps29
          go_wp2_with (go_at_call 44; ((with_reducible refine (CC _).mono ?_); rintro e w1 ⟨rfl, hB1⟩; have HB1 := Lib.hid (HB.out.trans (hB1.mono HB.out.size)); have HZ1 := Lib.hid (rowC_below HZ.out hB1 (rowC_lt HZ.out)); have d0 := rowC_cell HZ1.out 0; have d1 := rowC_cell HZ1.out 1; have d3 := rowC_cell HZ1.out 3; clear hB1))
          go_ret
          exact ⟨by rw [HR.out]; rfl, HB1.out⟩
end Go.Proofs.YtoallfcpnbhhiaaGreatDoor
#print axioms Go.Proofs.YtoallfcpnbhhiaaGreatDoor.mayN_any

/- Layer 16: two nodes compared; the search of a path among rising ones. -/
namespace Go.Proofs.YtoallfcpnbhhiaaGreatDoor
open Go.RowKit

theorem compare_any (a b : List UInt8) (w : World) :
    Calls Tryz.prog 48 #[.string (str a), .string (str b)] w fun e w' => e = .returned (.int .i64 (Lib.compareBytes a b)) ∧ w = w' :=
  (Tryz.strings_Compare (str a) (str b) w).mono fun _ _ ⟨h1, h2⟩ => ⟨h1, h2.symm⟩
theorem cmpF_any (x : Nd) (t : List UInt8) (w : World) :
    Calls Tryz.prog 47 #[.agg #[.string (str x.path), .int .i64 x.kind, .int .i64 x.mode, .string (str x.data)], .string (str t)] w fun e w' =>
      e = .returned (.int .i64 (Lib.compareBytes x.path t)) ∧ Below w.heap.size w w' := by
  have C := fun w => compare_any x.path t w
  have HB := Lib.hid ((Below.refl w.heap.size w).alloc (Nat.le_refl _) (.cells #[.string (str x.path), .int .i64 x.kind, .int .i64 x.mode, .string (str x.data)] 32))
  generalize str x.path = A at *
  generalize str t = B at *
  generalize str x.data = D at *
  go_enter Tryz.func47, Tryz.ntmps47
  go_wp2_with (go_at_call 48; ((with_reducible refine (C _).mono ?_); rintro e w1 ⟨rfl, rfl⟩))
  go_ret
  exact ⟨rfl, HB.out⟩
set_option maxRecDepth 100000 in
set_option maxHeartbeats 8000000 in
theorem bsearch_any (l : List Nd) (t : List UInt8) (ad : Option Addr) (c : Nat) (hl : l.length ≤ 1000000) (hs : l.Pairwise fun a b => bytesBefore a.path b.path = true) (w : World) (h : NodesAt w ad l) :
    Calls Tryz.prog 46 #[.slice ad l.length c, .string (str t), .func (.func 47) #[] #[]] w fun e w' =>
      (∃ (i : Nat) (b : Bool), e = .returned (.tuple #[.int .i64 (i : Int), .bool b]) ∧ (b = true → ∃ x, l[i]? = some x ∧ x.path = t) ∧ (b = false → ∀ x ∈ l, x.path ≠ t)) ∧ Below w.heap.size w w' := by
  have eg : ∀ args w, (callFunc 47 args).run Tryz.prog w = .ok (.enter 47 args) w := enters_of Tryz.func47 (by kernel_rfl) rfl
  have HI := Lib.hid info_nd4
  have HS : Hid (∀ (i j : Nat) (x y : Nd), i < j → l[i]? = some x → l[j]? = some y → bytesBefore x.path y.path = true) := Lib.hid fun i j x y hij hx hy => by
    obtain ⟨h1, rfl⟩ := List.getElem?_eq_some_iff.1 hx
    obtain ⟨h2, rfl⟩ := List.getElem?_eq_some_iff.1 hy
    exact List.pairwise_iff_getElem.1 hs i j h1 h2 hij
  have HN := Lib.hid h
  have HG : Hid (∀ i, i < l.length → ∃ x, l[i]? = some x) := Lib.hid fun i hi => ⟨_, List.getElem?_eq_getElem hi⟩
  have HM : Hid (∀ x ∈ l, ∃ i, i < l.length ∧ l[i]? = some x) := Lib.hid fun x hx => by
    obtain ⟨i, hi, e⟩ := List.getElem_of_mem hx
    exact ⟨i, hi, by rw [List.getElem?_eq_getElem hi, e]⟩
  have HLT : Hid (∀ (k : Nat) (x : Nd), l[k]? = some x → k < l.length) := Lib.hid fun k x hx => (List.getElem?_eq_some_iff.1 hx).1
  obtain ⟨N, hNN⟩ : ∃ N, N = l.length := ⟨_, rfl⟩
  rw [← hNN] at hl HG HM HLT ⊢
  clear h hs hNN
  go_enter Tryz.func46, Tryz.ntmps46
  go_upto_region 3 with (fail)
  go_loopw [9, 10, 11] (fun i j m wr => ∃ a b : Nat, a ≤ b ∧ b ≤ N ∧ i = .int .i64 a ∧ j = .int .i64 b ∧ Hid (∀ k x, k < a → l[k]? = some x → bytesBefore x.path t = true) ∧ Hid (∀ k x, b ≤ k → l[k]? = some x → bytesBefore x.path t = false) ∧ Hid (Below w.heap.size w wr)) (fun i j _ _ => (intOf j).toNat - (intOf i).toNat)
  case atStart => exact ⟨0, N, Nat.zero_le _, Nat.le_refl _, rfl, rfl, Lib.hid (fun k x hk => by omega), Lib.hid (fun k x hk hx => absurd (HLT.out k x hx) (by omega)), Lib.hid (Below.refl _ _)⟩
  case round =>
    obtain ⟨a, b, hab, hbN, rfl, rfl, h1, h2, hB⟩ := hrel
    by_cases hlt : a < b
    · have g1 : (a : Int) < (b : Int) := by omega
      obtain ⟨m, hm⟩ : ∃ m, m = (a + b) / 2 := ⟨_, rfl⟩
      have hma : a ≤ m ∧ m < b := by omega
      obtain ⟨x, hx⟩ := HG.out m (by omega)
      have HX := Lib.hid hx
      obtain ⟨ax, rfl, hax, hcx⟩ := HN.out m x hx
      have HCX : Hid (∀ W, Below w.heap.size w W → ∀ j u, (ndV x)[j]? = some u → W.cell? ((ax.add (m * 4)).add j) = some u) := Lib.hid fun W hb j u hu => by
        rw [cell_far hb (by rw [add_blk, add_blk]; exact hax)]
        exact hcx j u hu
      have CX : ∀ W, Calls Tryz.prog 47 #[.agg (ndV x).toArray, .string (str t)] W fun e w' => e = .returned (.int .i64 (Lib.compareBytes x.path t)) ∧ Below W.heap.size W w' := fun W => cmpF_any x t W
      have wr1 : IntKind.u64.wrap ((a : Int) + (b : Int)) = ((a + b : Nat) : Int) := by simp [IntKind.wrap, IntKind.bits, IntKind.signed]; omega
      have HMI := Lib.hid (show ((a : Int) + (b : Int)) / 2 = (m : Int) by omega)
      have hm0 : (0 : Int) ≤ (m : Int) := by omega
      have hmN : (m : Int) < (N : Int) := by omega
      have HCN := Lib.hid (cmp_neg x.path t)
      clear hcx hx hm
      go_upto_region 5 with (fail)
      rw [HMI.out]
      obtain ⟨cv, hcv⟩ : ∃ cv, cv = Lib.compareBytes x.path t := ⟨_, rfl⟩
      rw [← hcv] at CX HCN
      cases hbx : bytesBefore x.path t with
      | true =>
        have g2 : cv < 0 := by have := HCN.out; rw [hbx] at this; exact of_decide_eq_true this
        have HL : Hid (∀ k y, k < m + 1 → l[k]? = some y → bytesBefore y.path t = true) := Lib.hid fun k y hk hy => by
          by_cases e : k = m
          · subst e
            have := HX.out.symm.trans hy
            cases this
            exact hbx
          · exact bb_trans (HS.out k m y x (by omega) hy HX.out) hbx
        clear hbx hcv
        go_wp2_with (first
          | ((with_reducible show wpList _ _ _ (⟨some 28, .load _ _, _, _, _, _⟩ :: _) _ _); refine wpList_load_at rfl 32 _ rfl (ax.add (m * 4)) rfl (ndV x) _ (HCX.out _ hB.out) Tryz.underlying32 rfl HI.out ?_)
          | (go_at_fn 47; (refine (CX _).mono ?_; rintro e w1 ⟨rfl, hB1⟩; have hBx := Lib.hid (hB.out.trans (hB1.mono hB.out.size)); clear hB1)))
        go_roundw
        case rel => exact ⟨m + 1, b, by omega, hbN, by go_num, rfl, HL, h2, hBx⟩
        case measure => simp [intOf]; omega
      | false =>
        have g2 : ¬ cv < 0 := by have := HCN.out; rw [hbx] at this; exact of_decide_eq_false this
        have HL : Hid (∀ k y, m ≤ k → l[k]? = some y → bytesBefore y.path t = false) := Lib.hid fun k y hk hy => by
          by_cases e : k = m
          · subst e
            have := HX.out.symm.trans hy
            cases this
            exact hbx
          · cases h : bytesBefore y.path t
            · rfl
            · have := bb_trans (HS.out m k x y (by omega) HX.out hy) h
              rw [hbx] at this
              cases this
        clear hbx hcv
        go_wp2_with (first
          | ((with_reducible show wpList _ _ _ (⟨some 28, .load _ _, _, _, _, _⟩ :: _) _ _); refine wpList_load_at rfl 32 _ rfl (ax.add (m * 4)) rfl (ndV x) _ (HCX.out _ hB.out) Tryz.underlying32 rfl HI.out ?_)
          | (go_at_fn 47; (refine (CX _).mono ?_; rintro e w1 ⟨rfl, hB1⟩; have hBx := Lib.hid (hB.out.trans (hB1.mono hB.out.size)); clear hB1)))
        go_roundw
        case rel => exact ⟨a, m, by omega, by omega, rfl, rfl, h1, HL, hBx⟩
        case measure => simp [intOf]; omega
    · obtain rfl : a = b := by omega
      by_cases hN : a < N
      · have g1 : (a : Int) < (N : Int) := by omega
        have a0 : (0 : Int) ≤ (a : Int) := by omega
        obtain ⟨x, hx⟩ := HG.out a hN
        have HX := Lib.hid hx
        obtain ⟨ax, rfl, hax, hcx⟩ := HN.out a x hx
        have HCX : Hid (∀ W, Below w.heap.size w W → ∀ j u, (ndV x)[j]? = some u → W.cell? ((ax.add (a * 4)).add j) = some u) := Lib.hid fun W hb j u hu => by
          rw [cell_far hb (by rw [add_blk, add_blk]; exact hax)]
          exact hcx j u hu
        have CX : ∀ W, Calls Tryz.prog 47 #[.agg (ndV x).toArray, .string (str t)] W fun e w' => e = .returned (.int .i64 (Lib.compareBytes x.path t)) ∧ Below W.heap.size W w' := fun W => cmpF_any x t W
        have HCZ := Lib.hid (cmp_zero x.path t)
        have HFA : Hid (x.path ≠ t → ∀ y ∈ l, y.path ≠ t) := Lib.hid fun hne y hy e => by
          obtain ⟨k, hk, hky⟩ := HM.out y hy
          rcases Nat.lt_trichotomy k a with h | h | h
          · have := h1.out k y h hky
            rw [e, bb_irr] at this
            cases this
          · subst h
            have := hx.symm.trans hky
            cases this
            exact hne e
          · have h3 := HS.out a k x y h hx hky
            rw [e, h2.out a x (Nat.le_refl _) hx] at h3
            cases h3
        clear hcx hx
        obtain ⟨cv, hcv⟩ : ∃ cv, cv = Lib.compareBytes x.path t := ⟨_, rfl⟩
        rw [← hcv] at CX HCZ
        clear hcv
        by_cases hz : cv = 0
        · subst hz
          have HP := Lib.hid (HCZ.out.1 rfl)
          go_wp2_with (first
            | ((with_reducible show wpList _ _ _ (⟨some 44, .load _ _, _, _, _, _⟩ :: _) _ _); refine wpList_load_at rfl 32 _ rfl (ax.add (a * 4)) rfl (ndV x) _ (HCX.out _ hB.out) Tryz.underlying32 rfl HI.out ?_)
            | (go_at_fn 47; (refine (CX _).mono ?_; rintro e w1 ⟨rfl, hB1⟩; have hBx := Lib.hid (hB.out.trans (hB1.mono hB.out.size)); clear hB1)))
          go_ret2
          exact ⟨⟨a, true, rfl, fun _ => ⟨x, HX.out, HP.out⟩, fun h => by cases h⟩, hBx.out⟩
        · have gz : (cv == 0) = false := by rw [beq_eq_false_iff_ne]; exact hz
          have HP := Lib.hid (fun e => hz (HCZ.out.2 e))
          go_wp2_with (first
            | ((with_reducible show wpList _ _ _ (⟨some 44, .load _ _, _, _, _, _⟩ :: _) _ _); refine wpList_load_at rfl 32 _ rfl (ax.add (a * 4)) rfl (ndV x) _ (HCX.out _ hB.out) Tryz.underlying32 rfl HI.out ?_)
            | (go_at_fn 47; (refine (CX _).mono ?_; rintro e w1 ⟨rfl, hB1⟩; have hBx := Lib.hid (hB.out.trans (hB1.mono hB.out.size)); clear hB1)))
          go_ret2
          exact ⟨⟨a, false, rfl, fun h => (by cases h), fun _ => HFA.out HP.out⟩, hBx.out⟩
      · obtain rfl : a = N := by omega
        have HFA : Hid (∀ y ∈ l, y.path ≠ t) := Lib.hid fun y hy e => by
          obtain ⟨k, hk, hky⟩ := HM.out y hy
          have := h1.out k y hk hky
          rw [e, bb_irr] at this
          cases this
        go_wp2
        go_ret2
        exact ⟨⟨a, false, rfl, fun h => (by cases h), fun _ => HFA.out⟩, hB.out⟩
end Go.Proofs.YtoallfcpnbhhiaaGreatDoor
#print axioms Go.Proofs.YtoallfcpnbhhiaaGreatDoor.bsearch_any

