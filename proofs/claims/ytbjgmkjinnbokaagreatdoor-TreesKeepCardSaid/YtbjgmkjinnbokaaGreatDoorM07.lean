/- Merged: PtF, PtG. -/
import Derived.Test.YtbjgmkjinnbokaaGreatDoorM06
import Derived.RangeFuncOwn
/- Layer 14: the program's stack of parts. -/
namespace Go.Proofs.YtbjgmkjinnbokaaGreatDoor
open Go.RowKit

/-- A stack in memory: 100 of its parts at most are kept, the others are counted. -/
def StkAt (w : World) (base B : Nat) (l : List (List UInt8)) : Prop :=
  ∃ v, rowC w B #[v, .int .i64 ((l.length - 100 : Nat) : Int)] 102 ∧ OwnsC w base v (l.take 100)
/-- What a call on it changes. -/
def stkS (base B : Nat) : Nat → Prop := fun k => k = B ∨ base ≤ k
structure StkC (base B : Nat) (w w' : World) : Prop where
  chg : Chg (stkS base B) w w'
  ko : KeepsOthers w w'
theorem StkC.refl (base B : Nat) (w : World) : StkC base B w w := ⟨Chg.refl _ _, KeepsOthers.refl _⟩
theorem StkC.set {base B : Nat} {w w' : World} (h : StkC base B w w') (i : Nat) (v : Value) : StkC base B w (w'.setCell ⟨B, i, none⟩ v) := ⟨h.chg.setCell _ _ (.inl (.inl rfl)), h.ko.trans (KeepsOthers.setCell _ _ _)⟩
theorem OwnsC.cellsAt {w : World} {base : Nat} {v : Value} {l : List (List UInt8)} (h : OwnsC w base v l) : ∀ (j : Nat) (o : Obj), v.ownBlock = some j → w.heap[j]? = some o → o.isCells = true := by
  intro j o hj ho
  rcases h with ⟨rfl, _⟩ | ⟨g, cap, cur, rfl, _, hg, _⟩
  · cases hj
  · simp [Value.ownBlock] at hj
    subst hj
    rw [hg] at ho
    cases ho
    rfl
theorem own_far {w : World} {base B : Nat} {v : Value} {l : List (List UInt8)} (h : OwnsC w base v l) (hB : B < base) : v.ownBlock ≠ some B := fun e => by
  have := (h.block B e).1
  omega
theorem StkAt.chg {w w' : World} {base B : Nat} {l : List (List UInt8)} (h : StkAt w base B l) {s : Nat → Prop} (hc : Chg s w w') (hs : ∀ k, stkS base B k → k < w.heap.size → ¬ s k) : StkAt w' base B l := by
  obtain ⟨v, hr, ho⟩ := h
  refine ⟨v, hc.rowC hr (hs B (.inl rfl) (rowC_lt hr)), ho.kept fun g hg hlt _ => hc.block g hlt (hs g (.inr hg) hlt)⟩
theorem wpList_append_c {w : World} {ops : Array Oper} {rest : List Oper} {o : Oper} {a : Act} {Q : Exit → Act → World → Prop} (hgd : o.guard = none) (s x : Operand)
    (ho : o.op = .call { callee := .builtin .append, args := #[s, x], argTypes := #[100, 100] })
    (base : Nat) (v : Value) (l : List (List UInt8)) (hs : a.eval s = v) (hown : OwnsC w base v l)
    (ad : Addr) (c : Nat) (y : List UInt8) (hx : a.eval x = .slice (some ad) 1 c) (hc : w.cell? (ad.add 0) = some (.string (str y)))
    (hl : l.length ≤ 1000000) (hbase : base ≤ w.heap.size)
    (h : ∀ v' w', OwnsC w' base v' (l ++ [y]) → w.grownBy w' v.ownBlock → wpList Tryz.prog ops Q rest (a.put o.dst v') w') :
    wpList Tryz.prog ops Q (o :: rest) a w := by
  refine wpList_plain hgd fun K hK => ?_
  obtain ⟨v', w', hr, h2, h3⟩ := run_append_c w base v l hown ad c y hc hl hbase o.type
  unfold Oper.wp execOp
  simp only [ho, resolve, invoke, builtin, Sem.run_bind, Sem.run_pure, Result.andThen_ok, List.map_toArray, List.map_cons, List.map_nil, hs, hx, hr]
  exact hK _ _ (h v' w' h2 h3)
theorem row_two {w : World} {B : Nat} {x y : Value} {t : TypeId} (h : rowC w B #[x, y] t) : (w.cell? ⟨B, 0, none⟩ = some x ∧ w.frozen? ⟨B, 0, none⟩ = false) ∧ (w.cell? ⟨B, 1, none⟩ = some y ∧ w.frozen? ⟨B, 1, none⟩ = false) :=
  ⟨⟨rowC_cell h 0, rowC_free h 0⟩, ⟨rowC_cell h 1, rowC_free h 1⟩⟩
theorem take_drop {l : List (List UInt8)} (h : 100 < l.length) : l.dropLast.take 100 = l.take 100 := by
  rw [List.dropLast_eq_take, List.take_take]
  congr 1
  omega
theorem add_zero_addr (g : Nat) : (⟨g, 0, none⟩ : Addr).add 0 = ⟨g, 0, none⟩ := by unfold Addr.add; split <;> simp_all
set_option maxRecDepth 100000 in
set_option maxHeartbeats 2000000 in
theorem cut_any (base B : Nat) (l : List (List UInt8)) (hl : l.length ≤ 1000000) (hB : B < base) (w : World) (hk : StkAt w base B l) :
    Calls Tryz.prog 80 #[.pointer (some ⟨B, 0, none⟩)] w fun e w' => e = .returned (.bool (!decide (l = []))) ∧ StkAt w' base B l.dropLast ∧ StkC base B w w' := by
  obtain ⟨v, hr, ho⟩ := hk
  obtain ⟨⟨e0, f0⟩, ⟨e1, f1⟩⟩ := row_two hr
  have HR := Lib.hid hr
  have HO := Lib.hid ho
  by_cases h1 : 100 < l.length
  · obtain ⟨M, hM⟩ : ∃ M, l.length - 100 = M + 1 := ⟨l.length - 101, by omega⟩
    have HM := Lib.hid hM
    rw [hM] at e1
    have g1 : (0 : Int) < ((M + 1 : Nat) : Int) := by omega
    have g2 : ((M + 1 : Nat) : Int) ≤ 1000000 := by omega
    have HL := Lib.hid h1
    have HV := Lib.hid (show (!decide (l = [])) = true by rw [decide_eq_false (by rintro rfl; simp at h1)]; rfl)
    clear hr ho hM h1
    go_enter Tryz.func80, Tryz.ntmps80
    go_wp2
    go_ret
    refine ⟨retB HV.out.symm, ⟨v, ?_, ?_⟩, ?_⟩
    · have h2 := rowC_set HR.out 1 (.int .i64 ((M : Nat) : Int))
      have h3 : l.dropLast.length - 100 = M := by rw [List.length_dropLast]; have := HM.out; omega
      rw [h3]
      have h4 : ((M + 1 : Nat) : Int) - 1 = (M : Int) := by omega
      simpa [h4] using h2
    · rw [take_drop HL.out]
      exact HO.out.kept fun g hg hlt _ => heap_setCell_other _ _ g _ (by show g ≠ B; omega)
    · exact (StkC.refl _ _ _).set _ _
  · have hM : l.length - 100 = 0 := by omega
    have ht : l.take 100 = l := List.take_of_length_le (by omega)
    rw [ht] at ho HO
    rw [hM] at e1 HR
    obtain ⟨a, cap, rfl, hcap, hmax⟩ := ho.form
    have hmax2 : cap ≤ 9223372036854775807 := by unfold maxLen at hmax; omega
    by_cases h2 : l = []
    · subst h2
      go_enter Tryz.func80, Tryz.ntmps80
      go_wp2
      go_ret
      exact ⟨rfl, ⟨_, HR.out, HO.out⟩, StkC.refl _ _ _⟩
    · have HV := Lib.hid (show (!decide (l = [])) = true by rw [decide_eq_false h2]; rfl)
      have hpos := List.length_pos_iff.2 h2
      obtain ⟨M, hM2⟩ : ∃ M, l.length = M + 1 := ⟨l.length - 1, by omega⟩
      have HC := Lib.hid (HO.out.cut h2)
      rw [hM2] at e0 hcap hl HR HC
      rw [show M + 1 - 1 = M by omega] at HC
      have g1 : ¬ (((M + 1 : Nat) : Int) - 1 < 0) := by omega
      have g2 : (M : Int) ≤ (cap : Int) := by omega
      have g3 : (0 : Int) ≤ (M : Int) := by omega
      have HL := Lib.hid (show l.dropLast.length - 100 = 0 ∧ l.dropLast.take 100 = l.dropLast from ⟨by rw [List.length_dropLast]; omega, List.take_of_length_le (by rw [List.length_dropLast]; omega)⟩)
      clear hr ho hM h1 h2 ht hpos hM2
      go_enter Tryz.func80, Tryz.ntmps80
      go_wp2
      go_ret
      refine ⟨retB HV.out.symm, ⟨.slice a M M, ?_, ?_⟩, ?_⟩
      · rw [HL.out.1]
        simpa using rowC_set HR.out 0 (.slice a M M)
      · rw [HL.out.2]
        exact HC.out.kept fun g hg hlt _ => heap_setCell_other _ _ g _ (by show g ≠ B; omega)
      · exact (StkC.refl _ _ _).set _ _
theorem take_more {l : List (List UInt8)} (h : 100 ≤ l.length) (x : List UInt8) : (l ++ [x]).take 100 = l.take 100 := List.take_append_of_le_length h
set_option maxRecDepth 100000 in
set_option maxHeartbeats 2000000 in
theorem put_any (base B : Nat) (l : List (List UInt8)) (x : List UInt8) (hl : l.length ≤ 1000000) (hB : B < base) (w : World) (hw : base ≤ w.heap.size) (hk : StkAt w base B l) :
    Calls Tryz.prog 82 #[.pointer (some ⟨B, 0, none⟩), .string (str x)] w fun e w' => e = .returned (.tuple #[]) ∧ StkAt w' base B (l ++ [x]) ∧ StkC base B w w' := by
  obtain ⟨v, hr, ho⟩ := hk
  obtain ⟨⟨e0, f0⟩, ⟨e1, f1⟩⟩ := row_two hr
  have HR := Lib.hid hr
  have HO := Lib.hid ho
  by_cases h1 : 100 ≤ l.length
  · obtain ⟨M, hM⟩ : ∃ M, l.length - 100 = M := ⟨_, rfl⟩
    have HM := Lib.hid (show (l ++ [x]).length - 100 = M + 1 by rw [List.length_append, List.length_singleton]; omega)
    have HT := Lib.hid (take_more h1 x)
    have hlen : (l.take 100).length = 100 := by rw [List.length_take]; omega
    rw [hM] at e1 HR
    obtain ⟨a, cap, rfl, hcap, hmax⟩ := ho.form
    rw [hlen] at e0 HR
    have g2 : (M : Int) ≤ 1000000 := by omega
    have HLEN := Lib.hid hlen
    clear hr ho hM h1 hlen
    go_enter Tryz.func82, Tryz.ntmps82
    go_wp2
    refine bodyPost_ret (results_none rfl _ _ _) rfl ?_
    refine ⟨rfl, ⟨.slice a 100 cap, ?_, ?_⟩, ?_⟩
    · rw [HM.out]
      simpa using rowC_set HR.out 1 (.int .i64 ((M : Int) + 1))
    · have h7 := HO.out
      rw [HLEN.out] at h7
      rw [HT.out]
      exact h7.kept fun g hg hlt _ => heap_setCell_other _ _ g _ (by show g ≠ B; omega)
    · exact (StkC.refl _ _ _).set _ _
  · have hM : l.length - 100 = 0 := by omega
    have ht : l.take 100 = l := List.take_of_length_le (by omega)
    have HT := Lib.hid (show (l ++ [x]).length - 100 = 0 ∧ (l ++ [x]).take 100 = l ++ [x] from ⟨by rw [List.length_append, List.length_singleton]; omega, List.take_of_length_le (by rw [List.length_append, List.length_singleton]; omega)⟩)
    rw [ht] at ho HO
    rw [hM] at e1 HR
    obtain ⟨a, cap, rfl, hcap, hmax⟩ := ho.form
    obtain ⟨N, hN⟩ : ∃ N, N = l.length := ⟨_, rfl⟩
    have HN := Lib.hid hN
    rw [← hN] at e0 HR HO
    have g1 : ((N : Int) == 100) = false := by rw [beq_eq_false_iff_ne]; omega
    have hfar := own_far HO.out hB
    have HF := Lib.hid hfar
    have HW := Lib.hid hw
    clear hr ho hM h1 ht hN hcap hmax hfar
    go_enter Tryz.func82, Tryz.ntmps82
    go_wp2_with ((with_reducible show wpList _ _ _ (⟨some 24, _, _, _, _, _⟩ :: _) _ _); refine wpList_append_c rfl (.tmp 21) (.tmp 23) rfl base (.slice a N cap) l rfl (HO.out.below ((Below.refl _ _).alloc (Nat.le_refl _) _)) _ 1 x rfl (by rw [add_zero_addr]; exact (rowC_cell (rowC_new _ _ _) 0)) (by have := HN.out; omega) (by rw [size_alloc]; have := HW.out; omega) ?_; intro v' w6 hown6 hgrow6; obtain ⟨a6, cap6, rfl, _, _⟩ := hown6.form; have HO6 := Lib.hid hown6; have HG6 := Lib.hid hgrow6; have hr6 : rowC w6 B #[.slice a N cap, .int .i64 0] 102 := ((hgrow6.block B (by rw [size_alloc]; have := rowC_lt HR.out; omega) (fun e => HF.out e.symm)).trans (rowC_alloc HR.out _)); obtain ⟨⟨e6, f6⟩, _⟩ := row_two hr6; have HR6 := Lib.hid hr6; clear hown6 hgrow6 hr6)
    go_end0
    refine ⟨rfl, ⟨.slice a6 (l ++ [x]).length cap6, ?_, ?_⟩, ?_⟩
    · rw [HT.out.1]
      simpa using rowC_set HR6.out 0 (.slice a6 (l ++ [x]).length cap6)
    · rw [HT.out.2]
      exact HO6.out.kept fun g hg hlt _ => heap_setCell_other _ _ g _ (by show g ≠ B; omega)
    · have c1 : Chg (stkS base B) w w6 := ((Chg.refl _ w).alloc _).grown HG6.out (fun k hk => .inl (.inr ((HO.out.block k hk).1)))
      have c2 : KeepsOthers w w6 := (KeepsOthers.alloc w _).trans (KeepsOthers.of_grownBy HG6.out (fun j o hj hh => (HO.out.below ((Below.refl _ _).alloc (Nat.le_refl _) _)).cellsAt j o hj hh))
      exact (StkC.mk c1 c2).set _ _
end Go.Proofs.YtbjgmkjinnbokaaGreatDoor

/- Layer 14: the program's step: what a path's next part says. -/
namespace Go.Proofs.YtbjgmkjinnbokaaGreatDoor
open Go.RowKit

set_option maxRecDepth 100000 in
set_option maxHeartbeats 2000000 in
theorem step_any (base B : Nat) (l : List (List UInt8)) (x : List UInt8) (hl : l.length ≤ 1000000) (hB : B < base) (w : World) (hw : base ≤ w.heap.size) (hk : StkAt w base B l) :
    Calls Tryz.prog 54 #[.pointer (some ⟨B, 0, none⟩), .string (str x)] w fun e w' => e = .returned (.bool (stepP (some l) x).isSome) ∧ (∀ l', stepP (some l) x = some l' → StkAt w' base B l') ∧ StkC base B w w' := by
  have q1 : (str x).toList.isEmpty = decide (x = []) := empty_lit x
  have q2 : ((str x).toList == [46]) = decide (x = [46]) := eq_lit x [46]
  have q3 : ((str x).toList == [46, 46]) = decide (x = [46, 46]) := eq_lit x [46, 46]
  have C1 := fun w hk => cut_any base B l hl hB w hk
  have C2 := fun w hw hk => put_any base B l x hl hB w hw hk
  have C3 := fun w => contains_any x 0 w
  have HK := Lib.hid hk
  have HW := Lib.hid hw
  have HS : Hid (stepP (some l) x = if x = [] ∨ x = [46] then some l else if x = [46, 46] then (if l = [] then none else some l.dropLast) else if (0 : UInt8) ∈ x then none else some (l ++ [x])) := Lib.hid rfl
  by_cases h1 : x = []
  · have HV := Lib.hid (show stepP (some l) x = some l by rw [HS.out, if_pos (.inl h1)])
    rw [decide_eq_true h1] at q1
    clear h1 hk HS C1 C2 C3
    go_enter Tryz.func54, Tryz.ntmps54
    go_wp2
    go_ret
    exact ⟨retB (by rw [HV.out]; rfl), fun l' h => (by rw [HV.out] at h; cases h; exact HK.out), StkC.refl _ _ _⟩
  rw [decide_eq_false h1] at q1
  by_cases h2 : x = [46]
  · have HV := Lib.hid (show stepP (some l) x = some l by rw [HS.out, if_pos (.inr h2)])
    rw [decide_eq_true h2] at q2
    clear h1 h2 hk HS C1 C2 C3
    go_enter Tryz.func54, Tryz.ntmps54
    go_wp2
    go_ret
    exact ⟨retB (by rw [HV.out]; rfl), fun l' h => (by rw [HV.out] at h; cases h; exact HK.out), StkC.refl _ _ _⟩
  rw [decide_eq_false h2] at q2
  have h12 : ¬ (x = [] ∨ x = [46]) := by rintro (h | h); exact h1 h; exact h2 h
  by_cases h3 : x = [46, 46]
  · have HV := Lib.hid (show stepP (some l) x = if l = [] then none else some l.dropLast by rw [HS.out, if_neg h12, if_pos h3])
    rw [decide_eq_true h3] at q3
    clear h1 h2 h3 h12 HS C2 C3
    have CC := C1 w hk
    clear C1 hk
    generalize hb : (!decide (l = [])) = b at *
    have HB := Lib.hid hb
    clear hb
    go_enter Tryz.func54, Tryz.ntmps54
    go_wp2_with (go_at_call 80; ((with_reducible refine CC.mono ?_); rintro e w1 ⟨rfl, hs1, hc1⟩))
    go_ret
    refine ⟨retB ?_, fun l' h => ?_, hc1⟩
    · rw [HV.out, ← HB.out]
      by_cases h0 : l = []
      · rw [if_pos h0, decide_eq_true h0]; rfl
      · rw [if_neg h0, decide_eq_false h0]; rfl
    · rw [HV.out] at h
      by_cases h0 : l = []
      · rw [if_pos h0] at h; cases h
      · rw [if_neg h0] at h; cases h; exact hs1
  rw [decide_eq_false h3] at q3
  by_cases h4 : (0 : UInt8) ∈ x
  · have HV := Lib.hid (show stepP (some l) x = none by rw [HS.out, if_neg h12, if_neg h3, if_pos h4])
    rw [decide_eq_true h4] at C3
    clear h1 h2 h3 h4 h12 HS C1 C2 hk
    go_enter Tryz.func54, Tryz.ntmps54
    go_wp2_with (go_at_call 81; ((with_reducible refine (C3 _).mono ?_); rintro e w1 ⟨rfl, rfl⟩))
    go_ret
    exact ⟨retB (by rw [HV.out]; rfl), fun l' h => (by rw [HV.out] at h; cases h), StkC.refl _ _ _⟩
  · have HV := Lib.hid (show stepP (some l) x = some (l ++ [x]) by rw [HS.out, if_neg h12, if_neg h3, if_neg h4])
    rw [decide_eq_false h4] at C3
    have CC := C2 w hw hk
    clear h1 h2 h3 h4 h12 HS C1 C2 hk
    go_enter Tryz.func54, Tryz.ntmps54
    go_wp2_with (first
      | (go_at_call 81; ((with_reducible refine (C3 _).mono ?_); rintro e w1 ⟨rfl, rfl⟩))
      | (go_at_call 82; ((with_reducible refine CC.mono ?_); rintro e w1 ⟨rfl, hs1, hc1⟩)))
    go_ret
    exact ⟨retB (by rw [HV.out]; rfl), fun l' h => (by rw [HV.out] at h; cases h; exact hs1), hc1⟩
end Go.Proofs.YtbjgmkjinnbokaaGreatDoor

