/- Merged: TtD, TtE. -/
import Derived.Test.YtbjgmkjinnbokaaGreatDoorM10
/- Layer 16: two nodes compared; the search of a path among rising ones. -/
namespace Go.Proofs.YtbjgmkjinnbokaaGreatDoor
open Go.RowKit

theorem compare_any (a b : List UInt8) (w : World) :
    Calls Tryz.prog 30 #[.string (str a), .string (str b)] w fun e w' => e = .returned (.int .i64 (Lib.compareBytes a b)) ∧ w = w' :=
  (Tryz.strings_Compare (str a) (str b) w).mono fun _ _ ⟨h1, h2⟩ => ⟨h1, h2.symm⟩
theorem cmpF_any (x : Nd) (t : List UInt8) (w : World) :
    Calls Tryz.prog 38 #[.agg #[.string (str x.path), .int .i64 x.kind, .int .i64 x.mode, .string (str x.data)], .string (str t)] w fun e w' =>
      e = .returned (.int .i64 (Lib.compareBytes x.path t)) ∧ Below w.heap.size w w' := by
  have C := fun w => compare_any x.path t w
  have HB := Lib.hid ((Below.refl w.heap.size w).alloc (Nat.le_refl _) (.cells #[.string (str x.path), .int .i64 x.kind, .int .i64 x.mode, .string (str x.data)] 41))
  generalize str x.path = A at *
  generalize str t = B at *
  generalize str x.data = D at *
  go_enter Tryz.func38, Tryz.ntmps38
  go_wp2_with (go_at_call 30; ((with_reducible refine (C _).mono ?_); rintro e w1 ⟨rfl, rfl⟩))
  go_ret
  exact ⟨rfl, HB.out⟩
set_option maxRecDepth 100000 in
set_option maxHeartbeats 8000000 in
theorem bsearch_any (l : List Nd) (t : List UInt8) (ad : Option Addr) (c : Nat) (hl : l.length ≤ 1000000) (hs : l.Pairwise fun a b => bytesBefore a.path b.path = true) (w : World) (h : NodesAt w ad l) :
    Calls Tryz.prog 37 #[.slice ad l.length c, .string (str t), .func (.func 38) #[] #[]] w fun e w' =>
      (∃ (i : Nat) (b : Bool), e = .returned (.tuple #[.int .i64 (i : Int), .bool b]) ∧ (b = true → ∃ x, l[i]? = some x ∧ x.path = t) ∧ (b = false → ∀ x ∈ l, x.path ≠ t)) ∧ Below w.heap.size w w' := by
  have eg : ∀ args w, (callFunc 38 args).run Tryz.prog w = .ok (.enter 38 args) w := enters_of Tryz.func38 (by kernel_rfl) rfl
  have HI := Lib.hid info_nd4
  have HS : Hid (∀ (i j : Nat) (x y : Nd), i < j → l[i]? = some x → l[j]? = some y → bytesBefore x.path y.path = true) := Lib.hid fun i j x y hij hx hy => by
    obtain ⟨h1, rfl⟩ := List.getElem?_eq_some_iff.1 hx
    obtain ⟨h2, rfl⟩ := List.getElem?_eq_some_iff.1 hy
    exact List.pairwise_iff_getElem.1 hs i j h1 h2 hij
  have HN := Lib.hid h
  have HG : Hid (∀ i, i < l.length → ∃ x, l[i]? = some x) := Lib.hid fun i hi => ⟨_, List.getElem?_eq_getElem hi⟩
  have HM : Hid (∀ x ∈ l, ∃ i, i < l.length ∧ l[i]? = some x) := Lib.hid fun x hx => by
    obtain ⟨i, hi, e⟩ := List.getElem_of_mem hx
    exact ⟨i, hi, by rw [List.getElem?_eq_getElem hi, e]⟩
  have HLT : Hid (∀ (k : Nat) (x : Nd), l[k]? = some x → k < l.length) := Lib.hid fun k x hx => (List.getElem?_eq_some_iff.1 hx).1
  obtain ⟨N, hNN⟩ : ∃ N, N = l.length := ⟨_, rfl⟩
  rw [← hNN] at hl HG HM HLT ⊢
  clear h hs hNN
  go_enter Tryz.func37, Tryz.ntmps37
  go_upto_region 3 with (fail)
  go_loopw [9, 10, 11] (fun i j m wr => ∃ a b : Nat, a ≤ b ∧ b ≤ N ∧ i = .int .i64 a ∧ j = .int .i64 b ∧ Hid (∀ k x, k < a → l[k]? = some x → bytesBefore x.path t = true) ∧ Hid (∀ k x, b ≤ k → l[k]? = some x → bytesBefore x.path t = false) ∧ Hid (Below w.heap.size w wr)) (fun i j _ _ => (intOf j).toNat - (intOf i).toNat)
  case atStart => exact ⟨0, N, Nat.zero_le _, Nat.le_refl _, rfl, rfl, Lib.hid (fun k x hk => by omega), Lib.hid (fun k x hk hx => absurd (HLT.out k x hx) (by omega)), Lib.hid (Below.refl _ _)⟩
  case round =>
    obtain ⟨a, b, hab, hbN, rfl, rfl, h1, h2, hB⟩ := hrel
    by_cases hlt : a < b
    · have g1 : (a : Int) < (b : Int) := by omega
      obtain ⟨m, hm⟩ : ∃ m, m = (a + b) / 2 := ⟨_, rfl⟩
      have hma : a ≤ m ∧ m < b := by omega
      obtain ⟨x, hx⟩ := HG.out m (by omega)
      have HX := Lib.hid hx
      obtain ⟨ax, rfl, hax, hcx⟩ := HN.out m x hx
      have HCX : Hid (∀ W, Below w.heap.size w W → ∀ j u, (ndV x)[j]? = some u → W.cell? ((ax.add (m * 4)).add j) = some u) := Lib.hid fun W hb j u hu => by
        rw [cell_far hb (by rw [add_blk, add_blk]; exact hax)]
        exact hcx j u hu
      have CX : ∀ W, Calls Tryz.prog 38 #[.agg (ndV x).toArray, .string (str t)] W fun e w' => e = .returned (.int .i64 (Lib.compareBytes x.path t)) ∧ Below W.heap.size W w' := fun W => cmpF_any x t W
      have wr1 : IntKind.u64.wrap ((a : Int) + (b : Int)) = ((a + b : Nat) : Int) := by simp [IntKind.wrap, IntKind.bits, IntKind.signed]; omega
      have HMI := Lib.hid (show ((a : Int) + (b : Int)) / 2 = (m : Int) by omega)
      have hm0 : (0 : Int) ≤ (m : Int) := by omega
      have hmN : (m : Int) < (N : Int) := by omega
      have HCN := Lib.hid (cmp_neg x.path t)
      clear hcx hx hm
      go_upto_region 5 with (fail)
      rw [HMI.out]
      obtain ⟨cv, hcv⟩ : ∃ cv, cv = Lib.compareBytes x.path t := ⟨_, rfl⟩
      rw [← hcv] at CX HCN
      cases hbx : bytesBefore x.path t with
      | true =>
        have g2 : cv < 0 := by have := HCN.out; rw [hbx] at this; exact of_decide_eq_true this
        have HL : Hid (∀ k y, k < m + 1 → l[k]? = some y → bytesBefore y.path t = true) := Lib.hid fun k y hk hy => by
          by_cases e : k = m
          · subst e
            have := HX.out.symm.trans hy
            cases this
            exact hbx
          · exact bb_trans (HS.out k m y x (by omega) hy HX.out) hbx
        clear hbx hcv
        go_wp2_with (first
          | ((with_reducible show wpList _ _ _ (⟨some 28, .load _ _, _, _, _, _⟩ :: _) _ _); refine wpList_load_at rfl 41 _ rfl (ax.add (m * 4)) rfl (ndV x) _ (HCX.out _ hB.out) Tryz.underlying41 rfl HI.out ?_)
          | (go_at_fn 38; (refine (CX _).mono ?_; rintro e w1 ⟨rfl, hB1⟩; have hBx := Lib.hid (hB.out.trans (hB1.mono hB.out.size)); clear hB1)))
        go_roundw
        case rel => exact ⟨m + 1, b, by omega, hbN, by go_num, rfl, HL, h2, hBx⟩
        case measure => simp [intOf]; omega
      | false =>
        have g2 : ¬ cv < 0 := by have := HCN.out; rw [hbx] at this; exact of_decide_eq_false this
        have HL : Hid (∀ k y, m ≤ k → l[k]? = some y → bytesBefore y.path t = false) := Lib.hid fun k y hk hy => by
          by_cases e : k = m
          · subst e
            have := HX.out.symm.trans hy
            cases this
            exact hbx
          · cases h : bytesBefore y.path t
            · rfl
            · have := bb_trans (HS.out m k x y (by omega) HX.out hy) h
              rw [hbx] at this
              cases this
        clear hbx hcv
        go_wp2_with (first
          | ((with_reducible show wpList _ _ _ (⟨some 28, .load _ _, _, _, _, _⟩ :: _) _ _); refine wpList_load_at rfl 41 _ rfl (ax.add (m * 4)) rfl (ndV x) _ (HCX.out _ hB.out) Tryz.underlying41 rfl HI.out ?_)
          | (go_at_fn 38; (refine (CX _).mono ?_; rintro e w1 ⟨rfl, hB1⟩; have hBx := Lib.hid (hB.out.trans (hB1.mono hB.out.size)); clear hB1)))
        go_roundw
        case rel => exact ⟨a, m, by omega, by omega, rfl, rfl, h1, HL, hBx⟩
        case measure => simp [intOf]; omega
    · obtain rfl : a = b := by omega
      by_cases hN : a < N
      · have g1 : (a : Int) < (N : Int) := by omega
        have a0 : (0 : Int) ≤ (a : Int) := by omega
        obtain ⟨x, hx⟩ := HG.out a hN
        have HX := Lib.hid hx
        obtain ⟨ax, rfl, hax, hcx⟩ := HN.out a x hx
        have HCX : Hid (∀ W, Below w.heap.size w W → ∀ j u, (ndV x)[j]? = some u → W.cell? ((ax.add (a * 4)).add j) = some u) := Lib.hid fun W hb j u hu => by
          rw [cell_far hb (by rw [add_blk, add_blk]; exact hax)]
          exact hcx j u hu
        have CX : ∀ W, Calls Tryz.prog 38 #[.agg (ndV x).toArray, .string (str t)] W fun e w' => e = .returned (.int .i64 (Lib.compareBytes x.path t)) ∧ Below W.heap.size W w' := fun W => cmpF_any x t W
        have HCZ := Lib.hid (cmp_zero x.path t)
        have HFA : Hid (x.path ≠ t → ∀ y ∈ l, y.path ≠ t) := Lib.hid fun hne y hy e => by
          obtain ⟨k, hk, hky⟩ := HM.out y hy
          rcases Nat.lt_trichotomy k a with h | h | h
          · have := h1.out k y h hky
            rw [e, bb_irr] at this
            cases this
          · subst h
            have := hx.symm.trans hky
            cases this
            exact hne e
          · have h3 := HS.out a k x y h hx hky
            rw [e, h2.out a x (Nat.le_refl _) hx] at h3
            cases h3
        clear hcx hx
        obtain ⟨cv, hcv⟩ : ∃ cv, cv = Lib.compareBytes x.path t := ⟨_, rfl⟩
        rw [← hcv] at CX HCZ
        clear hcv
        by_cases hz : cv = 0
        · subst hz
          have HP := Lib.hid (HCZ.out.1 rfl)
          go_wp2_with (first
            | ((with_reducible show wpList _ _ _ (⟨some 44, .load _ _, _, _, _, _⟩ :: _) _ _); refine wpList_load_at rfl 41 _ rfl (ax.add (a * 4)) rfl (ndV x) _ (HCX.out _ hB.out) Tryz.underlying41 rfl HI.out ?_)
            | (go_at_fn 38; (refine (CX _).mono ?_; rintro e w1 ⟨rfl, hB1⟩; have hBx := Lib.hid (hB.out.trans (hB1.mono hB.out.size)); clear hB1)))
          go_ret2
          exact ⟨⟨a, true, rfl, fun _ => ⟨x, HX.out, HP.out⟩, fun h => by cases h⟩, hBx.out⟩
        · have gz : (cv == 0) = false := by rw [beq_eq_false_iff_ne]; exact hz
          have HP := Lib.hid (fun e => hz (HCZ.out.2 e))
          go_wp2_with (first
            | ((with_reducible show wpList _ _ _ (⟨some 44, .load _ _, _, _, _, _⟩ :: _) _ _); refine wpList_load_at rfl 41 _ rfl (ax.add (a * 4)) rfl (ndV x) _ (HCX.out _ hB.out) Tryz.underlying41 rfl HI.out ?_)
            | (go_at_fn 38; (refine (CX _).mono ?_; rintro e w1 ⟨rfl, hB1⟩; have hBx := Lib.hid (hB.out.trans (hB1.mono hB.out.size)); clear hB1)))
          go_ret2
          exact ⟨⟨a, false, rfl, fun h => (by cases h), fun _ => HFA.out HP.out⟩, hBx.out⟩
      · obtain rfl : a = N := by omega
        have HFA : Hid (∀ y ∈ l, y.path ≠ t) := Lib.hid fun y hy e => by
          obtain ⟨k, hk, hky⟩ := HM.out y hy
          have := h1.out k y hk hky
          rw [e, bb_irr] at this
          cases this
        go_wp2
        go_ret2
        exact ⟨⟨a, false, rfl, fun h => (by cases h), fun _ => HFA.out⟩, hB.out⟩
end Go.Proofs.YtbjgmkjinnbokaaGreatDoor
#print axioms Go.Proofs.YtbjgmkjinnbokaaGreatDoor.bsearch_any

/- Layer 16: the program's mayFollow and Check. -/
namespace Go.Proofs.YtbjgmkjinnbokaaGreatDoor
open Go.RowKit

theorem addr_zero (a : Addr) : a.add 0 = a := by unfold Addr.add; rw [if_pos rfl]
theorem addr_pos (a : Addr) {j : Nat} (h : j ≠ 0) : a.add j = ⟨a.block, a.off + j, none⟩ := by unfold Addr.add; rw [if_neg h]
theorem less_is : ∀ a b : List UInt8, Op.bytesLess a b = bytesBefore a b
  | [], [] => rfl
  | [], _ :: _ => rfl
  | _ :: _, [] => rfl
  | x :: r, y :: s => by unfold Op.bytesLess bytesBefore; rw [less_is r s]
theorem less_str (a b : List UInt8) : Op.bytesLess (str a).toList (str b).toList = bytesBefore a b := by rw [show (str a).toList = a by rw [Lib.toList_data]; rfl, show (str b).toList = b by rw [Lib.toList_data]; rfl, less_is]
theorem any_found {l : List Nd} (hs : l.Pairwise fun a b => bytesBefore a.path b.path = true) {i : Nat} {x : Nd} (hx : l[i]? = some x) {t : List UInt8} (ht : x.path = t) : (l.any fun m => decide (m.path = t ∧ m.kind = 2)) = decide (x.kind = 2) := by
  rw [Bool.eq_iff_iff, List.any_eq_true, decide_eq_true_eq]
  constructor
  · rintro ⟨y, hy, he⟩
    obtain ⟨h1, h2⟩ := of_decide_eq_true he
    obtain ⟨j, hj, rfl⟩ := List.getElem_of_mem hy
    obtain ⟨hi, rfl⟩ := List.getElem?_eq_some_iff.1 hx
    rcases Nat.lt_trichotomy i j with h | h | h
    · exact absurd (ht.trans h1.symm) (bb_ne (List.pairwise_iff_getElem.1 hs i j hi hj h))
    · subst h; exact h2
    · exact absurd (h1.trans ht.symm) (bb_ne (List.pairwise_iff_getElem.1 hs j i hj hi h))
  · intro h
    exact ⟨x, List.mem_of_getElem? hx, decide_eq_true ⟨ht, h⟩⟩
theorem any_none {l : List Nd} {t : List UInt8} (h : ∀ x ∈ l, x.path ≠ t) : (l.any fun m => decide (m.path = t ∧ m.kind = 2)) = false := by
  rw [Bool.eq_false_iff]
  intro e
  obtain ⟨y, hy, he⟩ := List.any_eq_true.1 e
  exact h y hy (of_decide_eq_true he).1
set_option maxRecDepth 100000 in
set_option maxHeartbeats 8000000 in
theorem follow_any (l : List Nd) (p : List UInt8) (ad : Option Addr) (c : Nat) (hl : l.length ≤ 1000000) (hp : p.length ≤ 1000000) (hs : l.Pairwise fun a b => bytesBefore a.path b.path = true) (w : World) (h : NodesAt w ad l) :
    Calls Tryz.prog 24 #[.slice ad l.length c, .string (str p)] w fun e w' => e = .returned (.bool (followN l p)) ∧ Below w.heap.size w w' := by
  have CP := fun W => parent_any p hp W
  have HF : Hid (followN l p = ((match l.getLast? with | some m => bytesBefore m.path p | none => true) && (decide (parentL p = []) || l.any fun m => decide (m.path = parentL p ∧ m.kind = 2)))) := Lib.hid rfl
  have HI := Lib.hid info_nd4
  have HN := Lib.hid h
  have HB := Lib.hid (Below.refl w.heap.size w)
  have CS := fun W (hW : NodesAt W ad l) => bsearch_any l (parentL p) ad c hl hs W hW
  have HAF : Hid (∀ {i : Nat} {x : Nd}, l[i]? = some x → x.path = parentL p → (l.any fun m => decide (m.path = parentL p ∧ m.kind = 2)) = decide (x.kind = 2)) := Lib.hid fun hx ht => any_found hs hx ht
  have HAN : Hid ((∀ x ∈ l, x.path ≠ parentL p) → (l.any fun m => decide (m.path = parentL p ∧ m.kind = 2)) = false) := Lib.hid any_none
  have HLT : Hid (∀ (k : Nat) (x : Nd), l[k]? = some x → k < l.length) := Lib.hid fun k x hx => (List.getElem?_eq_some_iff.1 hx).1
  have q0 := eq_lit (parentL p) []
  have q0b := empty_lit (parentL p)
  generalize hbp : decide (parentL p = []) = bp at *
  clear hbp
  by_cases h0 : l.length = 0
  · have HFT : Hid (followN l p = (bp || l.any fun m => decide (m.path = parentL p ∧ m.kind = 2))) := Lib.hid (by rw [HF.out, List.eq_nil_of_length_eq_zero h0]; rfl)
    clear HF
    rw [h0] at CS HLT ⊢
    go_enter Tryz.func24, Tryz.ntmps24
    go_upto_region 4 with (fail)
    generalize str (parentL p) = PS at *
    generalize str p = SP at *
    cases bp with
    | true =>
      have HR : Hid (followN l p = true) := Lib.hid (by rw [HFT.out]; rfl)
      go_wp2_with (go_at_call 36; ((with_reducible refine (CP _).mono ?_); rintro e w1 ⟨rfl, hB1⟩; have HB1 := Lib.hid (HB.out.trans (hB1.mono HB.out.size)); have HN1 := Lib.hid (HN.out.below hB1); clear hB1))
      go_ret
      exact ⟨by rw [HR.out]; rfl, HB1.out⟩
    | false =>
      have HR : Hid (followN l p = l.any fun m => decide (m.path = parentL p ∧ m.kind = 2)) := Lib.hid (by rw [HFT.out]; rfl)
      go_upto_region 8 with (first
        | (go_at_call 36; ((with_reducible refine (CP _).mono ?_); rintro e w1 ⟨rfl, hB1⟩; have HB1 := Lib.hid (HB.out.trans (hB1.mono HB.out.size)); have HN1 := Lib.hid (HN.out.below hB1); clear hB1))
        | (go_at_call 37; (refine (CS _ HN1.out).mono ?_; rintro e w2 ⟨⟨i, b, rfl, hb1, hb2⟩, hB2⟩; have HB2 := Lib.hid (HB1.out.trans (hB2.mono HB1.out.size)); have HN2 := Lib.hid (HN1.out.below hB2); clear hB2; have HX1 := Lib.hid hb1; have HX2 := Lib.hid hb2; clear hb1 hb2)))
      cases b with
      | false =>
        have HR2 := Lib.hid (HR.out.trans (HAN.out (HX2.out rfl)))
        go_wp2
        go_ret
        exact ⟨by rw [HR2.out]; rfl, HB2.out⟩
      | true =>
        obtain ⟨x, hx, hxp⟩ := HX1.out rfl
        have HR2 := Lib.hid (HR.out.trans (HAF.out hx hxp))
        obtain ⟨ax2, e2, hax2, hcx2⟩ := HN2.out i x hx
        have hi := HLT.out i x hx
        exact absurd hi (by omega)
  · obtain ⟨m, hm⟩ : ∃ m, l.length = m + 1 := ⟨l.length - 1, by omega⟩
    obtain ⟨x0, hx0⟩ : ∃ x, l[m]? = some x := ⟨_, List.getElem?_eq_getElem (by omega)⟩
    have hlast : l.getLast? = some x0 := by rw [List.getLast?_eq_getElem?, hm]; exact hx0
    obtain ⟨ax, rfl, hax, hcx⟩ := h m x0 hx0
    rw [hm] at CS HLT ⊢
    have hm0 : (0 : Int) ≤ (m : Int) := by omega
    have hm1 : (m : Int) < (m : Int) + 1 := by omega
    have d0 : w.cell? (ax.add (m * 4)) = some (.string (str x0.path)) := by have := hcx 0 _ rfl; rwa [addr_zero] at this
    have qb := less_str x0.path p
    cases hbb : bytesBefore x0.path p with
    | false =>
      have HR : Hid (followN l p = false) := Lib.hid (by rw [HF.out, hlast]; show (bytesBefore x0.path p && _) = false; rw [hbb]; rfl)
      rw [hbb] at qb
      clear HF hlast hbb h hcx hx0 hs
      generalize str x0.path = S0 at *
      generalize str p = SP at *
      go_enter Tryz.func24, Tryz.ntmps24
      go_wp2
      go_ret
      exact ⟨by rw [HR.out]; rfl, HB.out⟩
    | true =>
      have HFT : Hid (followN l p = (bp || l.any fun m => decide (m.path = parentL p ∧ m.kind = 2))) := Lib.hid (by rw [HF.out, hlast]; show (bytesBefore x0.path p && _) = _; rw [hbb]; rfl)
      rw [hbb] at qb
      clear HF hlast hbb h hcx hx0 hs
      generalize str x0.path = S0 at *
      go_enter Tryz.func24, Tryz.ntmps24
      go_upto_region 4 with (fail)
      generalize str (parentL p) = PS at *
      generalize str p = SP at *
      cases bp with
      | true =>
        have HR : Hid (followN l p = true) := Lib.hid (by rw [HFT.out]; rfl)
        go_wp2_with (go_at_call 36; ((with_reducible refine (CP _).mono ?_); rintro e w1 ⟨rfl, hB1⟩; have HB1 := Lib.hid (HB.out.trans (hB1.mono HB.out.size)); have HN1 := Lib.hid (HN.out.below hB1); clear hB1))
        go_ret
        exact ⟨by rw [HR.out]; rfl, HB1.out⟩
      | false =>
        have HR : Hid (followN l p = l.any fun m => decide (m.path = parentL p ∧ m.kind = 2)) := Lib.hid (by rw [HFT.out]; rfl)
        go_upto_region 8 with (first
          | (go_at_call 36; ((with_reducible refine (CP _).mono ?_); rintro e w1 ⟨rfl, hB1⟩; have HB1 := Lib.hid (HB.out.trans (hB1.mono HB.out.size)); have HN1 := Lib.hid (HN.out.below hB1); clear hB1))
          | (go_at_call 37; (refine (CS _ HN1.out).mono ?_; rintro e w2 ⟨⟨i, b, rfl, hb1, hb2⟩, hB2⟩; have HB2 := Lib.hid (HB1.out.trans (hB2.mono HB1.out.size)); have HN2 := Lib.hid (HN1.out.below hB2); clear hB2; have HX1 := Lib.hid hb1; have HX2 := Lib.hid hb2; clear hb1 hb2)))
        cases b with
        | false =>
          have HR2 := Lib.hid (HR.out.trans (HAN.out (HX2.out rfl)))
          go_wp2
          go_ret
          exact ⟨by rw [HR2.out]; rfl, HB2.out⟩
        | true =>
          obtain ⟨x, hx, hxp⟩ := HX1.out rfl
          have HR2 := Lib.hid (HR.out.trans (HAF.out hx hxp))
          obtain ⟨ax2, e2, hax2, hcx2⟩ := HN2.out i x hx
          have hi := HLT.out i x hx
          skip
          obtain rfl : ax = ax2 := Option.some.inj e2
          clear e2
          have d1 : w2.cell? ⟨(ax.add (i * 4)).block, (ax.add (i * 4)).off + 1, none⟩ = some (.int .i64 x.kind) := by have := hcx2 1 _ rfl; rwa [addr_pos _ (by decide)] at this
          have i0 : (0 : Int) ≤ (i : Int) := by omega
          have i1 : (i : Int) < (m : Int) + 1 := by omega
          clear hcx2 hax2 hx hxp HX1 HX2
          go_wp2
          go_ret
          exact ⟨by rw [HR2.out]; rfl, HB2.out⟩
end Go.Proofs.YtbjgmkjinnbokaaGreatDoor
#print axioms Go.Proofs.YtbjgmkjinnbokaaGreatDoor.follow_any

