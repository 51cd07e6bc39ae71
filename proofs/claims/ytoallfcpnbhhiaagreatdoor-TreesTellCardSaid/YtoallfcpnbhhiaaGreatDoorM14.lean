/- Merged: TtE, TtN. -/
import Derived.Test.YtoallfcpnbhhiaaGreatDoorM13
import Derived.Test.YtoallfcpnbhhiaaGreatDoorM06
/- Layer 16: the program's mayFollow and Check. -/
namespace Go.Proofs.YtoallfcpnbhhiaaGreatDoor
open Go.RowKit

theorem addr_zero (a : Addr) : a.add 0 = a := by unfold Addr.add; rw [if_pos rfl]
theorem addr_pos (a : Addr) {j : Nat} (h : j ≠ 0) : a.add j = ⟨a.block, a.off + j, none⟩ := by unfold Addr.add; rw [if_neg h]
theorem less_is : ∀ a b : List UInt8, Op.bytesLess a b = bytesBefore a b
  | [], [] => rfl
  | [], _ :: _ => rfl
  | _ :: _, [] => rfl
  | x :: r, y :: s => by unfold Op.bytesLess bytesBefore; rw [less_is r s]
theorem less_str (a b : List UInt8) : Op.bytesLess (str a).toList (str b).toList = bytesBefore a b := by rw [show (str a).toList = a by rw [Lib.toList_data]; rfl, show (str b).toList = b by rw [Lib.toList_data]; rfl, less_is]
theorem any_found {l : List Nd} (hs : l.Pairwise fun a b => bytesBefore a.path b.path = true) {i : Nat} {x : Nd} (hx : l[i]? = some x) {t : List UInt8} (ht : x.path = t) : (l.any fun m => decide (m.path = t ∧ m.kind = 2)) = decide (x.kind = 2) := by
  rw [Bool.eq_iff_iff, List.any_eq_true, decide_eq_true_eq]
  constructor
  · rintro ⟨y, hy, he⟩
    obtain ⟨h1, h2⟩ := of_decide_eq_true he
    obtain ⟨j, hj, rfl⟩ := List.getElem_of_mem hy
    obtain ⟨hi, rfl⟩ := List.getElem?_eq_some_iff.1 hx
    rcases Nat.lt_trichotomy i j with h | h | h
    · exact absurd (ht.trans h1.symm) (bb_ne (List.pairwise_iff_getElem.1 hs i j hi hj h))
    · subst h; exact h2
    · exact absurd (h1.trans ht.symm) (bb_ne (List.pairwise_iff_getElem.1 hs j i hj hi h))
  · intro h
    exact ⟨x, List.mem_of_getElem? hx, decide_eq_true ⟨ht, h⟩⟩
theorem any_none {l : List Nd} {t : List UInt8} (h : ∀ x ∈ l, x.path ≠ t) : (l.any fun m => decide (m.path = t ∧ m.kind = 2)) = false := by
  rw [Bool.eq_false_iff]
  intro e
  obtain ⟨y, hy, he⟩ := List.any_eq_true.1 e
  exact h y hy (of_decide_eq_true he).1
set_option maxRecDepth 100000 in
set_option maxHeartbeats 8000000 in
theorem follow_any (l : List Nd) (p : List UInt8) (ad : Option Addr) (c : Nat) (hl : l.length ≤ 1000000) (hp : p.length ≤ 1000000) (hs : l.Pairwise fun a b => bytesBefore a.path b.path = true) (w : World) (h : NodesAt w ad l) :
    Calls Tryz.prog 30 #[.slice ad l.length c, .string (str p)] w fun e w' => e = .returned (.bool (followN l p)) ∧ Below w.heap.size w w' := by
  have CP := fun W => parent_any p hp W
  have HF : Hid (followN l p = ((match l.getLast? with | some m => bytesBefore m.path p | none => true) && (decide (parentL p = []) || l.any fun m => decide (m.path = parentL p ∧ m.kind = 2)))) := Lib.hid rfl
  have HI := Lib.hid info_nd4
  have HN := Lib.hid h
  have HB := Lib.hid (Below.refl w.heap.size w)
  have CS := fun W (hW : NodesAt W ad l) => bsearch_any l (parentL p) ad c hl hs W hW
  have HAF : Hid (∀ {i : Nat} {x : Nd}, l[i]? = some x → x.path = parentL p → (l.any fun m => decide (m.path = parentL p ∧ m.kind = 2)) = decide (x.kind = 2)) := Lib.hid fun hx ht => any_found hs hx ht
  have HAN : Hid ((∀ x ∈ l, x.path ≠ parentL p) → (l.any fun m => decide (m.path = parentL p ∧ m.kind = 2)) = false) := Lib.hid any_none
  have HLT : Hid (∀ (k : Nat) (x : Nd), l[k]? = some x → k < l.length) := Lib.hid fun k x hx => (List.getElem?_eq_some_iff.1 hx).1
  have q0 := eq_lit (parentL p) []
  have q0b := empty_lit (parentL p)
  generalize hbp : decide (parentL p = []) = bp at *
  clear hbp
  by_cases h0 : l.length = 0
  · have HFT : Hid (followN l p = (bp || l.any fun m => decide (m.path = parentL p ∧ m.kind = 2))) := Lib.hid (by rw [HF.out, List.eq_nil_of_length_eq_zero h0]; rfl)
    clear HF
    rw [h0] at CS HLT ⊢
    go_enter Tryz.func30, Tryz.ntmps30
    go_upto_region 4 with (fail)
    generalize str (parentL p) = PS at *
    generalize str p = SP at *
    cases bp with
    | true =>
      have HR : Hid (followN l p = true) := Lib.hid (by rw [HFT.out]; rfl)
      go_wp2_with (go_at_call 45; ((with_reducible refine (CP _).mono ?_); rintro e w1 ⟨rfl, hB1⟩; have HB1 := Lib.hid (HB.out.trans (hB1.mono HB.out.size)); have HN1 := Lib.hid (HN.out.below hB1); clear hB1))
      go_ret
      exact ⟨by rw [HR.out]; rfl, HB1.out⟩
    | false =>
      have HR : Hid (followN l p = l.any fun m => decide (m.path = parentL p ∧ m.kind = 2)) := Lib.hid (by rw [HFT.out]; rfl)
      go_upto_region 8 with (first
        | (go_at_call 45; ((with_reducible refine (CP _).mono ?_); rintro e w1 ⟨rfl, hB1⟩; have HB1 := Lib.hid (HB.out.trans (hB1.mono HB.out.size)); have HN1 := Lib.hid (HN.out.below hB1); clear hB1))
        | (go_at_call 46; (refine (CS _ HN1.out).mono ?_; rintro e w2 ⟨⟨i, b, rfl, hb1, hb2⟩, hB2⟩; have HB2 := Lib.hid (HB1.out.trans (hB2.mono HB1.out.size)); have HN2 := Lib.hid (HN1.out.below hB2); clear hB2; have HX1 := Lib.hid hb1; have HX2 := Lib.hid hb2; clear hb1 hb2)))
      cases b with
      | false =>
        have HR2 := Lib.hid (HR.out.trans (HAN.out (HX2.out rfl)))
        go_wp2
        go_ret
        exact ⟨by rw [HR2.out]; rfl, HB2.out⟩
      | true =>
        obtain ⟨x, hx, hxp⟩ := HX1.out rfl
        have HR2 := Lib.hid (HR.out.trans (HAF.out hx hxp))
        obtain ⟨ax2, e2, hax2, hcx2⟩ := HN2.out i x hx
        have hi := HLT.out i x hx
        exact absurd hi (by omega)
  · obtain ⟨m, hm⟩ : ∃ m, l.length = m + 1 := ⟨l.length - 1, by omega⟩
    obtain ⟨x0, hx0⟩ : ∃ x, l[m]? = some x := ⟨_, List.getElem?_eq_getElem (by omega)⟩
    have hlast : l.getLast? = some x0 := by rw [List.getLast?_eq_getElem?, hm]; exact hx0
    obtain ⟨ax, rfl, hax, hcx⟩ := h m x0 hx0
    rw [hm] at CS HLT ⊢
    have hm0 : (0 : Int) ≤ (m : Int) := by omega
    have hm1 : (m : Int) < (m : Int) + 1 := by omega
    have d0 : w.cell? (ax.add (m * 4)) = some (.string (str x0.path)) := by have := hcx 0 _ rfl; rwa [addr_zero] at this
    have qb := less_str x0.path p
    cases hbb : bytesBefore x0.path p with
    | false =>
      have HR : Hid (followN l p = false) := Lib.hid (by rw [HF.out, hlast]; show (bytesBefore x0.path p && _) = false; rw [hbb]; rfl)
      rw [hbb] at qb
      clear HF hlast hbb h hcx hx0 hs
      generalize str x0.path = S0 at *
      generalize str p = SP at *
      go_enter Tryz.func30, Tryz.ntmps30
      go_wp2
      go_ret
      exact ⟨by rw [HR.out]; rfl, HB.out⟩
    | true =>
      have HFT : Hid (followN l p = (bp || l.any fun m => decide (m.path = parentL p ∧ m.kind = 2))) := Lib.hid (by rw [HF.out, hlast]; show (bytesBefore x0.path p && _) = _; rw [hbb]; rfl)
      rw [hbb] at qb
      clear HF hlast hbb h hcx hx0 hs
      generalize str x0.path = S0 at *
      go_enter Tryz.func30, Tryz.ntmps30
      go_upto_region 4 with (fail)
      generalize str (parentL p) = PS at *
      generalize str p = SP at *
      cases bp with
      | true =>
        have HR : Hid (followN l p = true) := Lib.hid (by rw [HFT.out]; rfl)
        go_wp2_with (go_at_call 45; ((with_reducible refine (CP _).mono ?_); rintro e w1 ⟨rfl, hB1⟩; have HB1 := Lib.hid (HB.out.trans (hB1.mono HB.out.size)); have HN1 := Lib.hid (HN.out.below hB1); clear hB1))
        go_ret
        exact ⟨by rw [HR.out]; rfl, HB1.out⟩
      | false =>
        have HR : Hid (followN l p = l.any fun m => decide (m.path = parentL p ∧ m.kind = 2)) := Lib.hid (by rw [HFT.out]; rfl)
        go_upto_region 8 with (first
          | (go_at_call 45; ((with_reducible refine (CP _).mono ?_); rintro e w1 ⟨rfl, hB1⟩; have HB1 := Lib.hid (HB.out.trans (hB1.mono HB.out.size)); have HN1 := Lib.hid (HN.out.below hB1); clear hB1))
          | (go_at_call 46; (refine (CS _ HN1.out).mono ?_; rintro e w2 ⟨⟨i, b, rfl, hb1, hb2⟩, hB2⟩; have HB2 := Lib.hid (HB1.out.trans (hB2.mono HB1.out.size)); have HN2 := Lib.hid (HN1.out.below hB2); clear hB2; have HX1 := Lib.hid hb1; have HX2 := Lib.hid hb2; clear hb1 hb2)))
        cases b with
        | false =>
          have HR2 := Lib.hid (HR.out.trans (HAN.out (HX2.out rfl)))
          go_wp2
          go_ret
          exact ⟨by rw [HR2.out]; rfl, HB2.out⟩
        | true =>
          obtain ⟨x, hx, hxp⟩ := HX1.out rfl
          have HR2 := Lib.hid (HR.out.trans (HAF.out hx hxp))
          obtain ⟨ax2, e2, hax2, hcx2⟩ := HN2.out i x hx
          have hi := HLT.out i x hx
          skip
          obtain rfl : ax = ax2 := Option.some.inj e2
          clear e2
          have d1 : w2.cell? ⟨(ax.add (i * 4)).block, (ax.add (i * 4)).off + 1, none⟩ = some (.int .i64 x.kind) := by have := hcx2 1 _ rfl; rwa [addr_pos _ (by decide)] at this
          have i0 : (0 : Int) ≤ (i : Int) := by omega
          have i1 : (i : Int) < (m : Int) + 1 := by omega
          clear hcx2 hax2 hx hxp HX1 HX2
          go_wp2
          go_ret
          exact ⟨by rw [HR2.out]; rfl, HB2.out⟩
end Go.Proofs.YtoallfcpnbhhiaaGreatDoor
#print axioms Go.Proofs.YtoallfcpnbhhiaaGreatDoor.follow_any

/- Layer 16, plainly: what a tree is, node by node; rising paths. -/
namespace Go.Proofs.YtoallfcpnbhhiaaGreatDoor

theorem treeF_iff : ∀ (l a : List Nd), treeF a l = true ↔ ∀ k x, l[k]? = some x → mayN x = true ∧ followN (a ++ l.take k) x.path = true
  | [], a => by simp [treeF]
  | n :: r, a => by
    unfold treeF
    rw [Bool.and_eq_true, Bool.and_eq_true, treeF_iff r (a ++ [n])]
    constructor
    · rintro ⟨h1, h2, h3⟩ k x hx
      cases k with
      | zero =>
        simp only [List.getElem?_cons_zero, Option.some.injEq] at hx
        subst hx
        rw [List.take_zero, List.append_nil]
        exact ⟨h1, h2⟩
      | succ k =>
        rw [List.getElem?_cons_succ] at hx
        have := h3 k x hx
        rw [List.append_assoc] at this
        rw [List.take_succ_cons]
        exact this
    · intro h
      refine ⟨(h 0 n rfl).1, ?_, fun k x hx => ?_⟩
      · have := (h 0 n rfl).2
        rwa [List.take_zero, List.append_nil] at this
      · have := h (k + 1) x (by rw [List.getElem?_cons_succ]; exact hx)
        rw [List.take_succ_cons] at this
        rw [List.append_assoc]
        exact this
theorem treeB_iff (l : List Nd) : treeB l = true ↔ ∀ k x, l[k]? = some x → mayN x = true ∧ followN (l.take k) x.path = true := by
  have := treeF_iff l []
  simpa [treeB] using this
theorem treeB_not {l : List Nd} {k : Nat} {x : Nd} (hx : l[k]? = some x) (h : (mayN x && followN (l.take k) x.path) = false) : treeB l = false := by
  cases e : treeB l
  · rfl
  · obtain ⟨h1, h2⟩ := (treeB_iff l).1 e k x hx
    rw [h1, h2] at h
    cases h
theorem rise_nodes {l : List Nd} (h : ∀ k x, l[k]? = some x → followN (l.take k) x.path = true) : l.Pairwise fun a b => bytesBefore a.path b.path = true := by
  have step : ∀ k (h1 : k + 1 < l.length), bytesBefore (l[k]'(by omega)).path l[k + 1].path = true := fun k h1 => by
    have := h (k + 1) _ (List.getElem?_eq_getElem h1)
    unfold followN at this
    rw [Bool.and_eq_true] at this
    have e : (l.take (k + 1)).getLast? = some (l[k]'(by omega)) := by
      rw [List.getLast?_eq_getElem?, List.length_take, show min (k + 1) l.length - 1 = k by omega, List.getElem?_take, if_pos (by omega), List.getElem?_eq_getElem (by omega)]
    rw [e] at this
    exact this.1
  rw [List.pairwise_iff_getElem]
  intro i j hi hj hij
  obtain ⟨m, rfl⟩ := Nat.le.dest (Nat.succ_le_of_lt hij)
  clear hij
  induction m with
  | zero => exact step i hj
  | succ m ih => exact bb_trans (ih (by omega)) (step (i + 1 + m) (by omega))
theorem rise_take {l : List Nd} {k : Nat} (h : ∀ j x, j < k → l[j]? = some x → followN (l.take j) x.path = true) : (l.take k).Pairwise fun a b => bytesBefore a.path b.path = true := by
  refine rise_nodes fun j x hx => ?_
  rw [List.getElem?_take] at hx
  split at hx
  · rename_i hj
    rw [List.take_take, Nat.min_eq_left (by omega)]
    exact h j x hj hx
  · cases hx
theorem tree_rise {l : List Nd} (h : treeB l = true) : l.Pairwise fun a b => bytesBefore a.path b.path = true := rise_nodes fun k x hx => ((treeB_iff l).1 h k x hx).2
end Go.Proofs.YtoallfcpnbhhiaaGreatDoor
#print axioms Go.Proofs.YtoallfcpnbhhiaaGreatDoor.rise_take

