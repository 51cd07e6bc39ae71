/- Layer 12: the document's 'Check'. -/
import Derived.Test.YtldbfjcfobdkpaaDoorRfF
namespace Go.Proofs.YtldbfjcfobdkpaaDoor
open Go.RowKit

/-- A whole array out of the middle of a row, where a guard may stand ahead of it. -/
theorem wpList_load_midG {P : Program} {ops : Array Oper} {rest : List Oper} {o : Oper} {a : Act} {w : World} {Q : Exit → Act → World → Prop} (hw : Region.wanted o (yielded ops a.tmps) = true) (ty : TypeId) (x : Operand) (ho : o.op = .load ty x)
    (b k : Nat) (hx : a.eval x = .pointer (some ⟨b, k, none⟩)) (cs : List Value) (d : TypeDesc) (hc : w.rangeAt b k cs)
    (hu : P.underlying ty = some d) (hd : d.isRow = true) (hi : (P.info? ty).map (·.size) = some cs.length)
    (h : wpList P ops Q rest (a.put o.dst (.agg cs.toArray)) w) : wpList P ops Q (o :: rest) a w := by
  rw [wpList, if_pos hw]
  exact .inl (wp_load_mid ty x ho b k hx cs d hc hu hd hi h)
theorem info_ref {r : RR} (h : r.ok) : (Tryd.prog.info? 26).map (·.size) = some (refC r).size := by rw [refC_size h]; kernel_rfl
theorem check_no {r : RR} (h : mayR r = false) : checkR r = 10 := by unfold checkR; rw [h]; rfl
theorem check_yes {r : RR} (h : mayR r = true) : checkR r = 0 := by unfold checkR; rw [h]; rfl
set_option maxRecDepth 100000 in
set_option maxHeartbeats 16000000 in
theorem rcheck_any (r : RR) (w : World) (h : r.ok) :
    Calls Tryd.prog 16 #[.agg (refC r)] w fun e w' => e = .returned (.int .i64 (checkR r)) ∧ Below w.heap.size w w' := by
  have r0 : refAt (w.alloc (.cells (refC r) 26)) w.heap.size r := rowC_new w _ _
  have al : Below w.heap.size w (w.alloc (.cells (refC r) 26)) := (Below.refl _ _).alloc (Nat.le_refl _) _
  obtain ⟨c0, c1, c2, c3⟩ := r0.cells h
  have b0 := h.dom
  have b1 := h.path
  have b2 := h.tag
  have CD := fun w => domain_any r.dom w (by omega)
  have CF : ∀ w : World, Calls Tryd.prog 22 #[.string (str r.dom ++ ⟨#[47]⟩)] w fun e w' => e = .returned (.string (str (frontR (r.dom ++ [47])))) ∧ Below w.heap.size w w' := fun w => by
    have := front_any (r.dom ++ [47]) w (by rw [List.length_append, List.length_singleton]; omega)
    rw [← str_append] at this
    exact this
  have CP := fun w => path_any r.path w (by omega)
  have CC := fun w => cutC r.path 47 47 rfl w (by omega)
  have CO : ∀ w : World, Calls Tryd.prog 32 #[.string (str r.tag), .string ⟨#[97, 98, 99, 100, 101, 102, 103, 104, 105, 106, 107, 108, 109, 110, 111, 112, 113, 114, 115, 116, 117, 118, 119, 120, 121, 122, 48, 49, 50, 51, 52, 53, 54, 55, 56, 57, 65, 66, 67, 68, 69, 70, 71, 72, 73, 74, 75, 76, 77, 78, 79, 80, 81, 82, 83, 84, 85, 86, 87, 88, 89, 90, 95, 46, 45]⟩] w fun e w' => e = .returned (.bool (ofB r.tag (allB ++ [95, 46, 45]))) ∧ Below w.heap.size w w' := fun w => ofC _ ⟨#[97, 98, 99, 100, 101, 102, 103, 104, 105, 106, 107, 108, 109, 110, 111, 112, 113, 114, 115, 116, 117, 118, 119, 120, 121, 122, 48, 49, 50, 51, 52, 53, 54, 55, 56, 57, 65, 66, 67, 68, 69, 70, 71, 72, 73, 74, 75, 76, 77, 78, 79, 80, 81, 82, 83, 84, 85, 86, 87, 88, 89, 90, 95, 46, 45]⟩ w (by omega) (by decide)
  have CT := fun w => texta_any r w h
  have hle := cutL_le r.path 47
  have HI := Lib.hid (info_digestL h.dig)
  have HIR := Lib.hid (info_ref h)
  have HO := Lib.hid h
  have z0 := str_size r.dom
  have z1 := str_size r.path
  have z2 := str_size r.tag
  have z3 := str_size (textR r)
  have hte := textR_le h
  have f0 := eq_none (frontR (r.dom ++ [47]))
  have f1 := eq_lit r.dom indexB
  have f2 := eq_lit r.dom hubB
  have f3 := eq_none r.tag
  have q : ∀ w, (Op.equalIn 10000 24 (.agg (r.dig.map byteV).toArray) (.agg (cells8 zero32))).run Tryd.prog w = .ok (decide (r.dig = zero32)) w := fun w => eq_digest w 9998 (l := r.dig) (m := zero32) h.dig rfl
  have gd := guard_digest
  unfold indexB at f1
  unfold hubB at f2
  have HM := Lib.hid (show mayR r = ((domainB r.dom && (!decide (frontR (r.dom ++ [47]) = []) && (!decide (r.dom = indexB) && (pathB r.path && !(decide (r.dom = hubB) && decide ((cutL r.path 47).length < 2)))))) && ((if r.tag = [] then r.pin else tagOk r.tag) && sizeOk r)) from rfl)
  unfold indexB hubB at HM
  have HTO := Lib.hid (show tagOk r.tag = (decide (r.tag.length ≤ 32) && (ofB r.tag (allB ++ [95, 46, 45]) && (!decide (r.tag.getD 0 0 = 46) && !decide (r.tag.getD 0 0 = 45)))) from rfl)
  have HSO := Lib.hid (show sizeOk r = ((r.pin || decide (r.dig = zero32)) && decide ((textR r).length ≤ 200)) from rfl)
  obtain ⟨w1, hw1⟩ : ∃ w1, w.alloc (.cells (refC r) 26) = w1 := ⟨_, rfl⟩
  rw [hw1] at c0 c1 c2 c3 r0 al
  have HB := Lib.hid al
  have HR := Lib.hid r0
  clear al r0 h
  generalize hd1 : domainB r.dom = d1 at *
  generalize hd2 : decide (frontR (r.dom ++ [47]) = []) = d2 at *
  generalize hd3 : decide (r.dom = [105, 110, 100, 101, 120, 46, 100, 111, 99, 107, 101, 114, 46, 105, 111]) = d3 at *
  generalize hd4 : pathB r.path = d4 at *
  generalize hd5 : decide (r.dom = [100, 111, 99, 107, 101, 114, 46, 105, 111]) = d5 at *
  have HN := Lib.hid (show decide ((((cutL r.path 47).length : Nat) : Int) < 2) = decide ((cutL r.path 47).length < 2) by rw [decide_eq_decide]; omega)
  have q2 := HN.out
  generalize hd6 : decide ((cutL r.path 47).length < 2) = d6 at *
  clear hd1 hd2 hd3 hd4 hd5 hd6 HN
  rw [HTO.out, HSO.out] at HM
  have q3 : decide ((32 : Int) < (r.tag.length : Int)) = decide (32 < r.tag.length) := by rw [decide_eq_decide]; omega
  have q4 : decide ((200 : Int) < ((textR r).length : Int)) = decide (200 < (textR r).length) := by rw [decide_eq_decide]; omega
  have HL32 := Lib.hid (show decide (r.tag.length ≤ 32) = !decide (32 < r.tag.length) by by_cases e : r.tag.length ≤ 32 <;> simp [e] <;> omega)
  have HL200 := Lib.hid (show decide ((textR r).length ≤ 200) = !decide (200 < (textR r).length) by by_cases e : (textR r).length ≤ 200 <;> simp [e] <;> omega)
  rw [HL32.out, HL200.out] at HM
  clear HL32 HL200 HTO HSO
  generalize hd7 : decide (32 < r.tag.length) = d7 at *
  generalize hd8 : ofB r.tag (allB ++ [95, 46, 45]) = d8 at *
  generalize hd11 : decide (r.dig = zero32) = d11 at *
  generalize hd12 : decide (200 < (textR r).length) = d12 at *
  clear hd7 hd8 hd11 hd12
  have HTC := Lib.hid (fun (hn : 0 < r.tag.length) => And.intro (idx_str (str r.tag) 0 0 rfl (by rw [str_size]; exact hn)) (And.intro (at_lit r.tag 0 46 46 rfl (by decide) (by rw [str_size]; exact hn)) (at_lit r.tag 0 45 45 rfl (by decide) (by rw [str_size]; exact hn))))
  generalize hd9 : decide (r.tag.getD 0 0 = 46) = d9 at *
  generalize hd10 : decide (r.tag.getD 0 0 = 45) = d10 at *
  have HD9 := Lib.hid hd9
  have HD10 := Lib.hid hd10
  clear hd9 hd10
  cases d1
  · have HRes := Lib.hid (show checkR r = 10 from check_no (by rw [HM.out]; rfl))
    clear HM
    go_enter Tryd.func16, Tryd.ntmps16
    go_wp2_with (first
          | (go_at_call 30; ((with_reducible refine (CD _).mono ?_); rintro e wn ⟨rfl, bn⟩); replace HB := Lib.hid (HB.out.trans (bn.mono HB.out.size)); replace HR := Lib.hid (HR.out.below bn); clear c0 c1 c2 c3; obtain ⟨c0, c1, c2, c3⟩ := HR.out.cells HO.out; clear bn)
          | (go_at_call 22; ((with_reducible refine (CF _).mono ?_); rintro e wn ⟨rfl, bn⟩); replace HB := Lib.hid (HB.out.trans (bn.mono HB.out.size)); replace HR := Lib.hid (HR.out.below bn); clear c0 c1 c2 c3; obtain ⟨c0, c1, c2, c3⟩ := HR.out.cells HO.out; clear bn)
          | (go_at_call 31; ((with_reducible refine (CP _).mono ?_); rintro e wn ⟨rfl, bn⟩); replace HB := Lib.hid (HB.out.trans (bn.mono HB.out.size)); replace HR := Lib.hid (HR.out.below bn); clear c0 c1 c2 c3; obtain ⟨c0, c1, c2, c3⟩ := HR.out.cells HO.out; clear bn)
          | (go_at_call 32; ((with_reducible refine (CO _).mono ?_); rintro e wn ⟨rfl, bn⟩); replace HB := Lib.hid (HB.out.trans (bn.mono HB.out.size)); replace HR := Lib.hid (HR.out.below bn); clear c0 c1 c2 c3; obtain ⟨c0, c1, c2, c3⟩ := HR.out.cells HO.out; clear bn)
          | (go_at_call 20; ((with_reducible refine (CC _).mono ?_); rintro e wn ⟨an, capn, rfl, on, bn⟩); replace HB := Lib.hid (HB.out.trans (bn.mono HB.out.size)); replace HR := Lib.hid (HR.out.below bn); clear c0 c1 c2 c3; obtain ⟨c0, c1, c2, c3⟩ := HR.out.cells HO.out; clear on bn)
          | ((with_reducible show wpList _ _ _ (⟨some 79, _, _, _, _, _⟩ :: _) _ _); refine wpList_load_midG rfl 24 (.tmp 78) rfl w.heap.size 3 rfl (r.dig.map byteV) _ (HR.out.dig HO.out) Tryd.underlying24 rfl HI.out ?_)
          | ((with_reducible show wpList _ _ _ (⟨some 80, _, _, _, _, _⟩ :: _) _ _); refine wpList_build_asG (o := ⟨some 80, _, _, _, _, _⟩) rfl 24 _ rfl (cells8 zero32) ?_ ?_; kernel_rfl)
          | ((with_reducible show wpList _ _ _ (⟨some 84, _, _, _, _, _⟩ :: _) _ _); refine wpList_load_rowG rfl 26 (.tmp 1) rfl w.heap.size rfl 26 (refC r) _ HR.out Tryd.underlying26 rfl HIR.out ?_)
          | (go_at_call 24; ((with_reducible refine (CT _).mono ?_); rintro e wn ⟨rfl, bn⟩); replace HB := Lib.hid (HB.out.trans (bn.mono HB.out.size)); replace HR := Lib.hid (HR.out.below bn); clear c0 c1 c2 c3; obtain ⟨c0, c1, c2, c3⟩ := HR.out.cells HO.out; clear bn))
    go_ret
    exact ⟨retInt (by rw [HRes.out]), HB.out⟩
  · cases d2
    · cases d3
      · cases d4
        · have HRes := Lib.hid (show checkR r = 10 from check_no (by rw [HM.out]; rfl))
          clear HM
          go_enter Tryd.func16, Tryd.ntmps16
          go_wp2_with (first
                | (go_at_call 30; ((with_reducible refine (CD _).mono ?_); rintro e wn ⟨rfl, bn⟩); replace HB := Lib.hid (HB.out.trans (bn.mono HB.out.size)); replace HR := Lib.hid (HR.out.below bn); clear c0 c1 c2 c3; obtain ⟨c0, c1, c2, c3⟩ := HR.out.cells HO.out; clear bn)
                | (go_at_call 22; ((with_reducible refine (CF _).mono ?_); rintro e wn ⟨rfl, bn⟩); replace HB := Lib.hid (HB.out.trans (bn.mono HB.out.size)); replace HR := Lib.hid (HR.out.below bn); clear c0 c1 c2 c3; obtain ⟨c0, c1, c2, c3⟩ := HR.out.cells HO.out; clear bn)
                | (go_at_call 31; ((with_reducible refine (CP _).mono ?_); rintro e wn ⟨rfl, bn⟩); replace HB := Lib.hid (HB.out.trans (bn.mono HB.out.size)); replace HR := Lib.hid (HR.out.below bn); clear c0 c1 c2 c3; obtain ⟨c0, c1, c2, c3⟩ := HR.out.cells HO.out; clear bn)
                | (go_at_call 32; ((with_reducible refine (CO _).mono ?_); rintro e wn ⟨rfl, bn⟩); replace HB := Lib.hid (HB.out.trans (bn.mono HB.out.size)); replace HR := Lib.hid (HR.out.below bn); clear c0 c1 c2 c3; obtain ⟨c0, c1, c2, c3⟩ := HR.out.cells HO.out; clear bn)
                | (go_at_call 20; ((with_reducible refine (CC _).mono ?_); rintro e wn ⟨an, capn, rfl, on, bn⟩); replace HB := Lib.hid (HB.out.trans (bn.mono HB.out.size)); replace HR := Lib.hid (HR.out.below bn); clear c0 c1 c2 c3; obtain ⟨c0, c1, c2, c3⟩ := HR.out.cells HO.out; clear on bn)
                | ((with_reducible show wpList _ _ _ (⟨some 79, _, _, _, _, _⟩ :: _) _ _); refine wpList_load_midG rfl 24 (.tmp 78) rfl w.heap.size 3 rfl (r.dig.map byteV) _ (HR.out.dig HO.out) Tryd.underlying24 rfl HI.out ?_)
                | ((with_reducible show wpList _ _ _ (⟨some 80, _, _, _, _, _⟩ :: _) _ _); refine wpList_build_asG (o := ⟨some 80, _, _, _, _, _⟩) rfl 24 _ rfl (cells8 zero32) ?_ ?_; kernel_rfl)
                | ((with_reducible show wpList _ _ _ (⟨some 84, _, _, _, _, _⟩ :: _) _ _); refine wpList_load_rowG rfl 26 (.tmp 1) rfl w.heap.size rfl 26 (refC r) _ HR.out Tryd.underlying26 rfl HIR.out ?_)
                | (go_at_call 24; ((with_reducible refine (CT _).mono ?_); rintro e wn ⟨rfl, bn⟩); replace HB := Lib.hid (HB.out.trans (bn.mono HB.out.size)); replace HR := Lib.hid (HR.out.below bn); clear c0 c1 c2 c3; obtain ⟨c0, c1, c2, c3⟩ := HR.out.cells HO.out; clear bn))
          go_ret
          exact ⟨retInt (by rw [HRes.out]), HB.out⟩
        · cases d5
          · cases hp : r.pin
            · rw [hp] at c3 HM
              by_cases ht : r.tag = []
              · rw [decide_eq_true ht] at f3
                rw [if_pos ht] at HM
                clear ht
                have HRes := Lib.hid (show checkR r = 10 from check_no (by rw [HM.out]; rfl))
                clear HM
                go_enter Tryd.func16, Tryd.ntmps16
                go_wp2_with (first
                      | (go_at_call 30; ((with_reducible refine (CD _).mono ?_); rintro e wn ⟨rfl, bn⟩); replace HB := Lib.hid (HB.out.trans (bn.mono HB.out.size)); replace HR := Lib.hid (HR.out.below bn); clear c0 c1 c2 c3; obtain ⟨c0, c1, c2, c3⟩ := HR.out.cells HO.out; clear bn)
                      | (go_at_call 22; ((with_reducible refine (CF _).mono ?_); rintro e wn ⟨rfl, bn⟩); replace HB := Lib.hid (HB.out.trans (bn.mono HB.out.size)); replace HR := Lib.hid (HR.out.below bn); clear c0 c1 c2 c3; obtain ⟨c0, c1, c2, c3⟩ := HR.out.cells HO.out; clear bn)
                      | (go_at_call 31; ((with_reducible refine (CP _).mono ?_); rintro e wn ⟨rfl, bn⟩); replace HB := Lib.hid (HB.out.trans (bn.mono HB.out.size)); replace HR := Lib.hid (HR.out.below bn); clear c0 c1 c2 c3; obtain ⟨c0, c1, c2, c3⟩ := HR.out.cells HO.out; clear bn)
                      | (go_at_call 32; ((with_reducible refine (CO _).mono ?_); rintro e wn ⟨rfl, bn⟩); replace HB := Lib.hid (HB.out.trans (bn.mono HB.out.size)); replace HR := Lib.hid (HR.out.below bn); clear c0 c1 c2 c3; obtain ⟨c0, c1, c2, c3⟩ := HR.out.cells HO.out; clear bn)
                      | (go_at_call 20; ((with_reducible refine (CC _).mono ?_); rintro e wn ⟨an, capn, rfl, on, bn⟩); replace HB := Lib.hid (HB.out.trans (bn.mono HB.out.size)); replace HR := Lib.hid (HR.out.below bn); clear c0 c1 c2 c3; obtain ⟨c0, c1, c2, c3⟩ := HR.out.cells HO.out; clear on bn)
                      | ((with_reducible show wpList _ _ _ (⟨some 79, _, _, _, _, _⟩ :: _) _ _); refine wpList_load_midG rfl 24 (.tmp 78) rfl w.heap.size 3 rfl (r.dig.map byteV) _ (HR.out.dig HO.out) Tryd.underlying24 rfl HI.out ?_)
                      | ((with_reducible show wpList _ _ _ (⟨some 80, _, _, _, _, _⟩ :: _) _ _); refine wpList_build_asG (o := ⟨some 80, _, _, _, _, _⟩) rfl 24 _ rfl (cells8 zero32) ?_ ?_; kernel_rfl)
                      | ((with_reducible show wpList _ _ _ (⟨some 84, _, _, _, _, _⟩ :: _) _ _); refine wpList_load_rowG rfl 26 (.tmp 1) rfl w.heap.size rfl 26 (refC r) _ HR.out Tryd.underlying26 rfl HIR.out ?_)
                      | (go_at_call 24; ((with_reducible refine (CT _).mono ?_); rintro e wn ⟨rfl, bn⟩); replace HB := Lib.hid (HB.out.trans (bn.mono HB.out.size)); replace HR := Lib.hid (HR.out.below bn); clear c0 c1 c2 c3; obtain ⟨c0, c1, c2, c3⟩ := HR.out.cells HO.out; clear bn))
                go_ret
                exact ⟨retInt (by rw [HRes.out]), HB.out⟩
              · rw [decide_eq_false ht] at f3
                rw [if_neg ht] at HM
                have hpos := List.length_pos_iff.2 ht
                obtain ⟨i0, i1, i2⟩ := HTC.out hpos
                clear ht
                cases d7
                · cases d8
                  · have HRes := Lib.hid (show checkR r = 10 from check_no (by rw [HM.out]; rfl))
                    clear HM
                    go_enter Tryd.func16, Tryd.ntmps16
                    go_wp2_with (first
                          | (go_at_call 30; ((with_reducible refine (CD _).mono ?_); rintro e wn ⟨rfl, bn⟩); replace HB := Lib.hid (HB.out.trans (bn.mono HB.out.size)); replace HR := Lib.hid (HR.out.below bn); clear c0 c1 c2 c3; obtain ⟨c0, c1, c2, c3⟩ := HR.out.cells HO.out; clear bn)
                          | (go_at_call 22; ((with_reducible refine (CF _).mono ?_); rintro e wn ⟨rfl, bn⟩); replace HB := Lib.hid (HB.out.trans (bn.mono HB.out.size)); replace HR := Lib.hid (HR.out.below bn); clear c0 c1 c2 c3; obtain ⟨c0, c1, c2, c3⟩ := HR.out.cells HO.out; clear bn)
                          | (go_at_call 31; ((with_reducible refine (CP _).mono ?_); rintro e wn ⟨rfl, bn⟩); replace HB := Lib.hid (HB.out.trans (bn.mono HB.out.size)); replace HR := Lib.hid (HR.out.below bn); clear c0 c1 c2 c3; obtain ⟨c0, c1, c2, c3⟩ := HR.out.cells HO.out; clear bn)
                          | (go_at_call 32; ((with_reducible refine (CO _).mono ?_); rintro e wn ⟨rfl, bn⟩); replace HB := Lib.hid (HB.out.trans (bn.mono HB.out.size)); replace HR := Lib.hid (HR.out.below bn); clear c0 c1 c2 c3; obtain ⟨c0, c1, c2, c3⟩ := HR.out.cells HO.out; clear bn)
                          | (go_at_call 20; ((with_reducible refine (CC _).mono ?_); rintro e wn ⟨an, capn, rfl, on, bn⟩); replace HB := Lib.hid (HB.out.trans (bn.mono HB.out.size)); replace HR := Lib.hid (HR.out.below bn); clear c0 c1 c2 c3; obtain ⟨c0, c1, c2, c3⟩ := HR.out.cells HO.out; clear on bn)
                          | ((with_reducible show wpList _ _ _ (⟨some 79, _, _, _, _, _⟩ :: _) _ _); refine wpList_load_midG rfl 24 (.tmp 78) rfl w.heap.size 3 rfl (r.dig.map byteV) _ (HR.out.dig HO.out) Tryd.underlying24 rfl HI.out ?_)
                          | ((with_reducible show wpList _ _ _ (⟨some 80, _, _, _, _, _⟩ :: _) _ _); refine wpList_build_asG (o := ⟨some 80, _, _, _, _, _⟩) rfl 24 _ rfl (cells8 zero32) ?_ ?_; kernel_rfl)
                          | ((with_reducible show wpList _ _ _ (⟨some 84, _, _, _, _, _⟩ :: _) _ _); refine wpList_load_rowG rfl 26 (.tmp 1) rfl w.heap.size rfl 26 (refC r) _ HR.out Tryd.underlying26 rfl HIR.out ?_)
                          | (go_at_call 24; ((with_reducible refine (CT _).mono ?_); rintro e wn ⟨rfl, bn⟩); replace HB := Lib.hid (HB.out.trans (bn.mono HB.out.size)); replace HR := Lib.hid (HR.out.below bn); clear c0 c1 c2 c3; obtain ⟨c0, c1, c2, c3⟩ := HR.out.cells HO.out; clear bn))
                    go_ret
                    exact ⟨retInt (by rw [HRes.out]), HB.out⟩
                  · cases d9
                    · cases d10
                      · cases d11
                        · have HRes := Lib.hid (show checkR r = 10 from check_no (by rw [HM.out]; rfl))
                          clear HM
                          go_enter Tryd.func16, Tryd.ntmps16
                          go_wp2_with (first
                                | (go_at_call 30; ((with_reducible refine (CD _).mono ?_); rintro e wn ⟨rfl, bn⟩); replace HB := Lib.hid (HB.out.trans (bn.mono HB.out.size)); replace HR := Lib.hid (HR.out.below bn); clear c0 c1 c2 c3; obtain ⟨c0, c1, c2, c3⟩ := HR.out.cells HO.out; clear bn)
                                | (go_at_call 22; ((with_reducible refine (CF _).mono ?_); rintro e wn ⟨rfl, bn⟩); replace HB := Lib.hid (HB.out.trans (bn.mono HB.out.size)); replace HR := Lib.hid (HR.out.below bn); clear c0 c1 c2 c3; obtain ⟨c0, c1, c2, c3⟩ := HR.out.cells HO.out; clear bn)
                                | (go_at_call 31; ((with_reducible refine (CP _).mono ?_); rintro e wn ⟨rfl, bn⟩); replace HB := Lib.hid (HB.out.trans (bn.mono HB.out.size)); replace HR := Lib.hid (HR.out.below bn); clear c0 c1 c2 c3; obtain ⟨c0, c1, c2, c3⟩ := HR.out.cells HO.out; clear bn)
                                | (go_at_call 32; ((with_reducible refine (CO _).mono ?_); rintro e wn ⟨rfl, bn⟩); replace HB := Lib.hid (HB.out.trans (bn.mono HB.out.size)); replace HR := Lib.hid (HR.out.below bn); clear c0 c1 c2 c3; obtain ⟨c0, c1, c2, c3⟩ := HR.out.cells HO.out; clear bn)
                                | (go_at_call 20; ((with_reducible refine (CC _).mono ?_); rintro e wn ⟨an, capn, rfl, on, bn⟩); replace HB := Lib.hid (HB.out.trans (bn.mono HB.out.size)); replace HR := Lib.hid (HR.out.below bn); clear c0 c1 c2 c3; obtain ⟨c0, c1, c2, c3⟩ := HR.out.cells HO.out; clear on bn)
                                | ((with_reducible show wpList _ _ _ (⟨some 79, _, _, _, _, _⟩ :: _) _ _); refine wpList_load_midG rfl 24 (.tmp 78) rfl w.heap.size 3 rfl (r.dig.map byteV) _ (HR.out.dig HO.out) Tryd.underlying24 rfl HI.out ?_)
                                | ((with_reducible show wpList _ _ _ (⟨some 80, _, _, _, _, _⟩ :: _) _ _); refine wpList_build_asG (o := ⟨some 80, _, _, _, _, _⟩) rfl 24 _ rfl (cells8 zero32) ?_ ?_; kernel_rfl)
                                | ((with_reducible show wpList _ _ _ (⟨some 84, _, _, _, _, _⟩ :: _) _ _); refine wpList_load_rowG rfl 26 (.tmp 1) rfl w.heap.size rfl 26 (refC r) _ HR.out Tryd.underlying26 rfl HIR.out ?_)
                                | (go_at_call 24; ((with_reducible refine (CT _).mono ?_); rintro e wn ⟨rfl, bn⟩); replace HB := Lib.hid (HB.out.trans (bn.mono HB.out.size)); replace HR := Lib.hid (HR.out.below bn); clear c0 c1 c2 c3; obtain ⟨c0, c1, c2, c3⟩ := HR.out.cells HO.out; clear bn))
                          go_ret
                          exact ⟨retInt (by rw [HRes.out]), HB.out⟩
                        · cases d12
                          · have HRes := Lib.hid (show checkR r = 0 from check_yes (by rw [HM.out]; rfl))
                            clear HM
                            go_enter Tryd.func16, Tryd.ntmps16
                            go_wp2_with (first
                                  | (go_at_call 30; ((with_reducible refine (CD _).mono ?_); rintro e wn ⟨rfl, bn⟩); replace HB := Lib.hid (HB.out.trans (bn.mono HB.out.size)); replace HR := Lib.hid (HR.out.below bn); clear c0 c1 c2 c3; obtain ⟨c0, c1, c2, c3⟩ := HR.out.cells HO.out; clear bn)
                                  | (go_at_call 22; ((with_reducible refine (CF _).mono ?_); rintro e wn ⟨rfl, bn⟩); replace HB := Lib.hid (HB.out.trans (bn.mono HB.out.size)); replace HR := Lib.hid (HR.out.below bn); clear c0 c1 c2 c3; obtain ⟨c0, c1, c2, c3⟩ := HR.out.cells HO.out; clear bn)
                                  | (go_at_call 31; ((with_reducible refine (CP _).mono ?_); rintro e wn ⟨rfl, bn⟩); replace HB := Lib.hid (HB.out.trans (bn.mono HB.out.size)); replace HR := Lib.hid (HR.out.below bn); clear c0 c1 c2 c3; obtain ⟨c0, c1, c2, c3⟩ := HR.out.cells HO.out; clear bn)
                                  | (go_at_call 32; ((with_reducible refine (CO _).mono ?_); rintro e wn ⟨rfl, bn⟩); replace HB := Lib.hid (HB.out.trans (bn.mono HB.out.size)); replace HR := Lib.hid (HR.out.below bn); clear c0 c1 c2 c3; obtain ⟨c0, c1, c2, c3⟩ := HR.out.cells HO.out; clear bn)
                                  | (go_at_call 20; ((with_reducible refine (CC _).mono ?_); rintro e wn ⟨an, capn, rfl, on, bn⟩); replace HB := Lib.hid (HB.out.trans (bn.mono HB.out.size)); replace HR := Lib.hid (HR.out.below bn); clear c0 c1 c2 c3; obtain ⟨c0, c1, c2, c3⟩ := HR.out.cells HO.out; clear on bn)
                                  | ((with_reducible show wpList _ _ _ (⟨some 79, _, _, _, _, _⟩ :: _) _ _); refine wpList_load_midG rfl 24 (.tmp 78) rfl w.heap.size 3 rfl (r.dig.map byteV) _ (HR.out.dig HO.out) Tryd.underlying24 rfl HI.out ?_)
                                  | ((with_reducible show wpList _ _ _ (⟨some 80, _, _, _, _, _⟩ :: _) _ _); refine wpList_build_asG (o := ⟨some 80, _, _, _, _, _⟩) rfl 24 _ rfl (cells8 zero32) ?_ ?_; kernel_rfl)
                                  | ((with_reducible show wpList _ _ _ (⟨some 84, _, _, _, _, _⟩ :: _) _ _); refine wpList_load_rowG rfl 26 (.tmp 1) rfl w.heap.size rfl 26 (refC r) _ HR.out Tryd.underlying26 rfl HIR.out ?_)
                                  | (go_at_call 24; ((with_reducible refine (CT _).mono ?_); rintro e wn ⟨rfl, bn⟩); replace HB := Lib.hid (HB.out.trans (bn.mono HB.out.size)); replace HR := Lib.hid (HR.out.below bn); clear c0 c1 c2 c3; obtain ⟨c0, c1, c2, c3⟩ := HR.out.cells HO.out; clear bn))
                            go_ret
                            exact ⟨retInt (by rw [HRes.out]), HB.out⟩
                          · have HRes := Lib.hid (show checkR r = 10 from check_no (by rw [HM.out]; rfl))
                            clear HM
                            go_enter Tryd.func16, Tryd.ntmps16
                            go_wp2_with (first
                                  | (go_at_call 30; ((with_reducible refine (CD _).mono ?_); rintro e wn ⟨rfl, bn⟩); replace HB := Lib.hid (HB.out.trans (bn.mono HB.out.size)); replace HR := Lib.hid (HR.out.below bn); clear c0 c1 c2 c3; obtain ⟨c0, c1, c2, c3⟩ := HR.out.cells HO.out; clear bn)
                                  | (go_at_call 22; ((with_reducible refine (CF _).mono ?_); rintro e wn ⟨rfl, bn⟩); replace HB := Lib.hid (HB.out.trans (bn.mono HB.out.size)); replace HR := Lib.hid (HR.out.below bn); clear c0 c1 c2 c3; obtain ⟨c0, c1, c2, c3⟩ := HR.out.cells HO.out; clear bn)
                                  | (go_at_call 31; ((with_reducible refine (CP _).mono ?_); rintro e wn ⟨rfl, bn⟩); replace HB := Lib.hid (HB.out.trans (bn.mono HB.out.size)); replace HR := Lib.hid (HR.out.below bn); clear c0 c1 c2 c3; obtain ⟨c0, c1, c2, c3⟩ := HR.out.cells HO.out; clear bn)
                                  | (go_at_call 32; ((with_reducible refine (CO _).mono ?_); rintro e wn ⟨rfl, bn⟩); replace HB := Lib.hid (HB.out.trans (bn.mono HB.out.size)); replace HR := Lib.hid (HR.out.below bn); clear c0 c1 c2 c3; obtain ⟨c0, c1, c2, c3⟩ := HR.out.cells HO.out; clear bn)
                                  | (go_at_call 20; ((with_reducible refine (CC _).mono ?_); rintro e wn ⟨an, capn, rfl, on, bn⟩); replace HB := Lib.hid (HB.out.trans (bn.mono HB.out.size)); replace HR := Lib.hid (HR.out.below bn); clear c0 c1 c2 c3; obtain ⟨c0, c1, c2, c3⟩ := HR.out.cells HO.out; clear on bn)
                                  | ((with_reducible show wpList _ _ _ (⟨some 79, _, _, _, _, _⟩ :: _) _ _); refine wpList_load_midG rfl 24 (.tmp 78) rfl w.heap.size 3 rfl (r.dig.map byteV) _ (HR.out.dig HO.out) Tryd.underlying24 rfl HI.out ?_)
                                  | ((with_reducible show wpList _ _ _ (⟨some 80, _, _, _, _, _⟩ :: _) _ _); refine wpList_build_asG (o := ⟨some 80, _, _, _, _, _⟩) rfl 24 _ rfl (cells8 zero32) ?_ ?_; kernel_rfl)
                                  | ((with_reducible show wpList _ _ _ (⟨some 84, _, _, _, _, _⟩ :: _) _ _); refine wpList_load_rowG rfl 26 (.tmp 1) rfl w.heap.size rfl 26 (refC r) _ HR.out Tryd.underlying26 rfl HIR.out ?_)
                                  | (go_at_call 24; ((with_reducible refine (CT _).mono ?_); rintro e wn ⟨rfl, bn⟩); replace HB := Lib.hid (HB.out.trans (bn.mono HB.out.size)); replace HR := Lib.hid (HR.out.below bn); clear c0 c1 c2 c3; obtain ⟨c0, c1, c2, c3⟩ := HR.out.cells HO.out; clear bn))
                            go_ret
                            exact ⟨retInt (by rw [HRes.out]), HB.out⟩
                      · have HRes := Lib.hid (show checkR r = 10 from check_no (by rw [HM.out]; rfl))
                        clear HM
                        go_enter Tryd.func16, Tryd.ntmps16
                        go_wp2_with (first
                              | (go_at_call 30; ((with_reducible refine (CD _).mono ?_); rintro e wn ⟨rfl, bn⟩); replace HB := Lib.hid (HB.out.trans (bn.mono HB.out.size)); replace HR := Lib.hid (HR.out.below bn); clear c0 c1 c2 c3; obtain ⟨c0, c1, c2, c3⟩ := HR.out.cells HO.out; clear bn)
                              | (go_at_call 22; ((with_reducible refine (CF _).mono ?_); rintro e wn ⟨rfl, bn⟩); replace HB := Lib.hid (HB.out.trans (bn.mono HB.out.size)); replace HR := Lib.hid (HR.out.below bn); clear c0 c1 c2 c3; obtain ⟨c0, c1, c2, c3⟩ := HR.out.cells HO.out; clear bn)
                              | (go_at_call 31; ((with_reducible refine (CP _).mono ?_); rintro e wn ⟨rfl, bn⟩); replace HB := Lib.hid (HB.out.trans (bn.mono HB.out.size)); replace HR := Lib.hid (HR.out.below bn); clear c0 c1 c2 c3; obtain ⟨c0, c1, c2, c3⟩ := HR.out.cells HO.out; clear bn)
                              | (go_at_call 32; ((with_reducible refine (CO _).mono ?_); rintro e wn ⟨rfl, bn⟩); replace HB := Lib.hid (HB.out.trans (bn.mono HB.out.size)); replace HR := Lib.hid (HR.out.below bn); clear c0 c1 c2 c3; obtain ⟨c0, c1, c2, c3⟩ := HR.out.cells HO.out; clear bn)
                              | (go_at_call 20; ((with_reducible refine (CC _).mono ?_); rintro e wn ⟨an, capn, rfl, on, bn⟩); replace HB := Lib.hid (HB.out.trans (bn.mono HB.out.size)); replace HR := Lib.hid (HR.out.below bn); clear c0 c1 c2 c3; obtain ⟨c0, c1, c2, c3⟩ := HR.out.cells HO.out; clear on bn)
                              | ((with_reducible show wpList _ _ _ (⟨some 79, _, _, _, _, _⟩ :: _) _ _); refine wpList_load_midG rfl 24 (.tmp 78) rfl w.heap.size 3 rfl (r.dig.map byteV) _ (HR.out.dig HO.out) Tryd.underlying24 rfl HI.out ?_)
                              | ((with_reducible show wpList _ _ _ (⟨some 80, _, _, _, _, _⟩ :: _) _ _); refine wpList_build_asG (o := ⟨some 80, _, _, _, _, _⟩) rfl 24 _ rfl (cells8 zero32) ?_ ?_; kernel_rfl)
                              | ((with_reducible show wpList _ _ _ (⟨some 84, _, _, _, _, _⟩ :: _) _ _); refine wpList_load_rowG rfl 26 (.tmp 1) rfl w.heap.size rfl 26 (refC r) _ HR.out Tryd.underlying26 rfl HIR.out ?_)
                              | (go_at_call 24; ((with_reducible refine (CT _).mono ?_); rintro e wn ⟨rfl, bn⟩); replace HB := Lib.hid (HB.out.trans (bn.mono HB.out.size)); replace HR := Lib.hid (HR.out.below bn); clear c0 c1 c2 c3; obtain ⟨c0, c1, c2, c3⟩ := HR.out.cells HO.out; clear bn))
                        go_ret
                        exact ⟨retInt (by rw [HRes.out]), HB.out⟩
                    · have HRes := Lib.hid (show checkR r = 10 from check_no (by rw [HM.out]; rfl))
                      clear HM
                      go_enter Tryd.func16, Tryd.ntmps16
                      go_wp2_with (first
                            | (go_at_call 30; ((with_reducible refine (CD _).mono ?_); rintro e wn ⟨rfl, bn⟩); replace HB := Lib.hid (HB.out.trans (bn.mono HB.out.size)); replace HR := Lib.hid (HR.out.below bn); clear c0 c1 c2 c3; obtain ⟨c0, c1, c2, c3⟩ := HR.out.cells HO.out; clear bn)
                            | (go_at_call 22; ((with_reducible refine (CF _).mono ?_); rintro e wn ⟨rfl, bn⟩); replace HB := Lib.hid (HB.out.trans (bn.mono HB.out.size)); replace HR := Lib.hid (HR.out.below bn); clear c0 c1 c2 c3; obtain ⟨c0, c1, c2, c3⟩ := HR.out.cells HO.out; clear bn)
                            | (go_at_call 31; ((with_reducible refine (CP _).mono ?_); rintro e wn ⟨rfl, bn⟩); replace HB := Lib.hid (HB.out.trans (bn.mono HB.out.size)); replace HR := Lib.hid (HR.out.below bn); clear c0 c1 c2 c3; obtain ⟨c0, c1, c2, c3⟩ := HR.out.cells HO.out; clear bn)
                            | (go_at_call 32; ((with_reducible refine (CO _).mono ?_); rintro e wn ⟨rfl, bn⟩); replace HB := Lib.hid (HB.out.trans (bn.mono HB.out.size)); replace HR := Lib.hid (HR.out.below bn); clear c0 c1 c2 c3; obtain ⟨c0, c1, c2, c3⟩ := HR.out.cells HO.out; clear bn)
                            | (go_at_call 20; ((with_reducible refine (CC _).mono ?_); rintro e wn ⟨an, capn, rfl, on, bn⟩); replace HB := Lib.hid (HB.out.trans (bn.mono HB.out.size)); replace HR := Lib.hid (HR.out.below bn); clear c0 c1 c2 c3; obtain ⟨c0, c1, c2, c3⟩ := HR.out.cells HO.out; clear on bn)
                            | ((with_reducible show wpList _ _ _ (⟨some 79, _, _, _, _, _⟩ :: _) _ _); refine wpList_load_midG rfl 24 (.tmp 78) rfl w.heap.size 3 rfl (r.dig.map byteV) _ (HR.out.dig HO.out) Tryd.underlying24 rfl HI.out ?_)
                            | ((with_reducible show wpList _ _ _ (⟨some 80, _, _, _, _, _⟩ :: _) _ _); refine wpList_build_asG (o := ⟨some 80, _, _, _, _, _⟩) rfl 24 _ rfl (cells8 zero32) ?_ ?_; kernel_rfl)
                            | ((with_reducible show wpList _ _ _ (⟨some 84, _, _, _, _, _⟩ :: _) _ _); refine wpList_load_rowG rfl 26 (.tmp 1) rfl w.heap.size rfl 26 (refC r) _ HR.out Tryd.underlying26 rfl HIR.out ?_)
                            | (go_at_call 24; ((with_reducible refine (CT _).mono ?_); rintro e wn ⟨rfl, bn⟩); replace HB := Lib.hid (HB.out.trans (bn.mono HB.out.size)); replace HR := Lib.hid (HR.out.below bn); clear c0 c1 c2 c3; obtain ⟨c0, c1, c2, c3⟩ := HR.out.cells HO.out; clear bn))
                      go_ret
                      exact ⟨retInt (by rw [HRes.out]), HB.out⟩
                · have HRes := Lib.hid (show checkR r = 10 from check_no (by rw [HM.out]; rfl))
                  clear HM
                  go_enter Tryd.func16, Tryd.ntmps16
                  go_wp2_with (first
                        | (go_at_call 30; ((with_reducible refine (CD _).mono ?_); rintro e wn ⟨rfl, bn⟩); replace HB := Lib.hid (HB.out.trans (bn.mono HB.out.size)); replace HR := Lib.hid (HR.out.below bn); clear c0 c1 c2 c3; obtain ⟨c0, c1, c2, c3⟩ := HR.out.cells HO.out; clear bn)
                        | (go_at_call 22; ((with_reducible refine (CF _).mono ?_); rintro e wn ⟨rfl, bn⟩); replace HB := Lib.hid (HB.out.trans (bn.mono HB.out.size)); replace HR := Lib.hid (HR.out.below bn); clear c0 c1 c2 c3; obtain ⟨c0, c1, c2, c3⟩ := HR.out.cells HO.out; clear bn)
                        | (go_at_call 31; ((with_reducible refine (CP _).mono ?_); rintro e wn ⟨rfl, bn⟩); replace HB := Lib.hid (HB.out.trans (bn.mono HB.out.size)); replace HR := Lib.hid (HR.out.below bn); clear c0 c1 c2 c3; obtain ⟨c0, c1, c2, c3⟩ := HR.out.cells HO.out; clear bn)
                        | (go_at_call 32; ((with_reducible refine (CO _).mono ?_); rintro e wn ⟨rfl, bn⟩); replace HB := Lib.hid (HB.out.trans (bn.mono HB.out.size)); replace HR := Lib.hid (HR.out.below bn); clear c0 c1 c2 c3; obtain ⟨c0, c1, c2, c3⟩ := HR.out.cells HO.out; clear bn)
                        | (go_at_call 20; ((with_reducible refine (CC _).mono ?_); rintro e wn ⟨an, capn, rfl, on, bn⟩); replace HB := Lib.hid (HB.out.trans (bn.mono HB.out.size)); replace HR := Lib.hid (HR.out.below bn); clear c0 c1 c2 c3; obtain ⟨c0, c1, c2, c3⟩ := HR.out.cells HO.out; clear on bn)
                        | ((with_reducible show wpList _ _ _ (⟨some 79, _, _, _, _, _⟩ :: _) _ _); refine wpList_load_midG rfl 24 (.tmp 78) rfl w.heap.size 3 rfl (r.dig.map byteV) _ (HR.out.dig HO.out) Tryd.underlying24 rfl HI.out ?_)
                        | ((with_reducible show wpList _ _ _ (⟨some 80, _, _, _, _, _⟩ :: _) _ _); refine wpList_build_asG (o := ⟨some 80, _, _, _, _, _⟩) rfl 24 _ rfl (cells8 zero32) ?_ ?_; kernel_rfl)
                        | ((with_reducible show wpList _ _ _ (⟨some 84, _, _, _, _, _⟩ :: _) _ _); refine wpList_load_rowG rfl 26 (.tmp 1) rfl w.heap.size rfl 26 (refC r) _ HR.out Tryd.underlying26 rfl HIR.out ?_)
                        | (go_at_call 24; ((with_reducible refine (CT _).mono ?_); rintro e wn ⟨rfl, bn⟩); replace HB := Lib.hid (HB.out.trans (bn.mono HB.out.size)); replace HR := Lib.hid (HR.out.below bn); clear c0 c1 c2 c3; obtain ⟨c0, c1, c2, c3⟩ := HR.out.cells HO.out; clear bn))
                  go_ret
                  exact ⟨retInt (by rw [HRes.out]), HB.out⟩
            · rw [hp] at c3 HM
              by_cases ht : r.tag = []
              · rw [decide_eq_true ht] at f3
                rw [if_pos ht] at HM
                clear ht
                cases d12
                · have HRes := Lib.hid (show checkR r = 0 from check_yes (by rw [HM.out]; rfl))
                  clear HM
                  go_enter Tryd.func16, Tryd.ntmps16
                  go_wp2_with (first
                        | (go_at_call 30; ((with_reducible refine (CD _).mono ?_); rintro e wn ⟨rfl, bn⟩); replace HB := Lib.hid (HB.out.trans (bn.mono HB.out.size)); replace HR := Lib.hid (HR.out.below bn); clear c0 c1 c2 c3; obtain ⟨c0, c1, c2, c3⟩ := HR.out.cells HO.out; clear bn)
                        | (go_at_call 22; ((with_reducible refine (CF _).mono ?_); rintro e wn ⟨rfl, bn⟩); replace HB := Lib.hid (HB.out.trans (bn.mono HB.out.size)); replace HR := Lib.hid (HR.out.below bn); clear c0 c1 c2 c3; obtain ⟨c0, c1, c2, c3⟩ := HR.out.cells HO.out; clear bn)
                        | (go_at_call 31; ((with_reducible refine (CP _).mono ?_); rintro e wn ⟨rfl, bn⟩); replace HB := Lib.hid (HB.out.trans (bn.mono HB.out.size)); replace HR := Lib.hid (HR.out.below bn); clear c0 c1 c2 c3; obtain ⟨c0, c1, c2, c3⟩ := HR.out.cells HO.out; clear bn)
                        | (go_at_call 32; ((with_reducible refine (CO _).mono ?_); rintro e wn ⟨rfl, bn⟩); replace HB := Lib.hid (HB.out.trans (bn.mono HB.out.size)); replace HR := Lib.hid (HR.out.below bn); clear c0 c1 c2 c3; obtain ⟨c0, c1, c2, c3⟩ := HR.out.cells HO.out; clear bn)
                        | (go_at_call 20; ((with_reducible refine (CC _).mono ?_); rintro e wn ⟨an, capn, rfl, on, bn⟩); replace HB := Lib.hid (HB.out.trans (bn.mono HB.out.size)); replace HR := Lib.hid (HR.out.below bn); clear c0 c1 c2 c3; obtain ⟨c0, c1, c2, c3⟩ := HR.out.cells HO.out; clear on bn)
                        | ((with_reducible show wpList _ _ _ (⟨some 79, _, _, _, _, _⟩ :: _) _ _); refine wpList_load_midG rfl 24 (.tmp 78) rfl w.heap.size 3 rfl (r.dig.map byteV) _ (HR.out.dig HO.out) Tryd.underlying24 rfl HI.out ?_)
                        | ((with_reducible show wpList _ _ _ (⟨some 80, _, _, _, _, _⟩ :: _) _ _); refine wpList_build_asG (o := ⟨some 80, _, _, _, _, _⟩) rfl 24 _ rfl (cells8 zero32) ?_ ?_; kernel_rfl)
                        | ((with_reducible show wpList _ _ _ (⟨some 84, _, _, _, _, _⟩ :: _) _ _); refine wpList_load_rowG rfl 26 (.tmp 1) rfl w.heap.size rfl 26 (refC r) _ HR.out Tryd.underlying26 rfl HIR.out ?_)
                        | (go_at_call 24; ((with_reducible refine (CT _).mono ?_); rintro e wn ⟨rfl, bn⟩); replace HB := Lib.hid (HB.out.trans (bn.mono HB.out.size)); replace HR := Lib.hid (HR.out.below bn); clear c0 c1 c2 c3; obtain ⟨c0, c1, c2, c3⟩ := HR.out.cells HO.out; clear bn))
                  go_ret
                  exact ⟨retInt (by rw [HRes.out]), HB.out⟩
                · have HRes := Lib.hid (show checkR r = 10 from check_no (by rw [HM.out]; rfl))
                  clear HM
                  go_enter Tryd.func16, Tryd.ntmps16
                  go_wp2_with (first
                        | (go_at_call 30; ((with_reducible refine (CD _).mono ?_); rintro e wn ⟨rfl, bn⟩); replace HB := Lib.hid (HB.out.trans (bn.mono HB.out.size)); replace HR := Lib.hid (HR.out.below bn); clear c0 c1 c2 c3; obtain ⟨c0, c1, c2, c3⟩ := HR.out.cells HO.out; clear bn)
                        | (go_at_call 22; ((with_reducible refine (CF _).mono ?_); rintro e wn ⟨rfl, bn⟩); replace HB := Lib.hid (HB.out.trans (bn.mono HB.out.size)); replace HR := Lib.hid (HR.out.below bn); clear c0 c1 c2 c3; obtain ⟨c0, c1, c2, c3⟩ := HR.out.cells HO.out; clear bn)
                        | (go_at_call 31; ((with_reducible refine (CP _).mono ?_); rintro e wn ⟨rfl, bn⟩); replace HB := Lib.hid (HB.out.trans (bn.mono HB.out.size)); replace HR := Lib.hid (HR.out.below bn); clear c0 c1 c2 c3; obtain ⟨c0, c1, c2, c3⟩ := HR.out.cells HO.out; clear bn)
                        | (go_at_call 32; ((with_reducible refine (CO _).mono ?_); rintro e wn ⟨rfl, bn⟩); replace HB := Lib.hid (HB.out.trans (bn.mono HB.out.size)); replace HR := Lib.hid (HR.out.below bn); clear c0 c1 c2 c3; obtain ⟨c0, c1, c2, c3⟩ := HR.out.cells HO.out; clear bn)
                        | (go_at_call 20; ((with_reducible refine (CC _).mono ?_); rintro e wn ⟨an, capn, rfl, on, bn⟩); replace HB := Lib.hid (HB.out.trans (bn.mono HB.out.size)); replace HR := Lib.hid (HR.out.below bn); clear c0 c1 c2 c3; obtain ⟨c0, c1, c2, c3⟩ := HR.out.cells HO.out; clear on bn)
                        | ((with_reducible show wpList _ _ _ (⟨some 79, _, _, _, _, _⟩ :: _) _ _); refine wpList_load_midG rfl 24 (.tmp 78) rfl w.heap.size 3 rfl (r.dig.map byteV) _ (HR.out.dig HO.out) Tryd.underlying24 rfl HI.out ?_)
                        | ((with_reducible show wpList _ _ _ (⟨some 80, _, _, _, _, _⟩ :: _) _ _); refine wpList_build_asG (o := ⟨some 80, _, _, _, _, _⟩) rfl 24 _ rfl (cells8 zero32) ?_ ?_; kernel_rfl)
                        | ((with_reducible show wpList _ _ _ (⟨some 84, _, _, _, _, _⟩ :: _) _ _); refine wpList_load_rowG rfl 26 (.tmp 1) rfl w.heap.size rfl 26 (refC r) _ HR.out Tryd.underlying26 rfl HIR.out ?_)
                        | (go_at_call 24; ((with_reducible refine (CT _).mono ?_); rintro e wn ⟨rfl, bn⟩); replace HB := Lib.hid (HB.out.trans (bn.mono HB.out.size)); replace HR := Lib.hid (HR.out.below bn); clear c0 c1 c2 c3; obtain ⟨c0, c1, c2, c3⟩ := HR.out.cells HO.out; clear bn))
                  go_ret
                  exact ⟨retInt (by rw [HRes.out]), HB.out⟩
              · rw [decide_eq_false ht] at f3
                rw [if_neg ht] at HM
                have hpos := List.length_pos_iff.2 ht
                obtain ⟨i0, i1, i2⟩ := HTC.out hpos
                clear ht
                cases d7
                · cases d8
                  · have HRes := Lib.hid (show checkR r = 10 from check_no (by rw [HM.out]; rfl))
                    clear HM
                    go_enter Tryd.func16, Tryd.ntmps16
                    go_wp2_with (first
                          | (go_at_call 30; ((with_reducible refine (CD _).mono ?_); rintro e wn ⟨rfl, bn⟩); replace HB := Lib.hid (HB.out.trans (bn.mono HB.out.size)); replace HR := Lib.hid (HR.out.below bn); clear c0 c1 c2 c3; obtain ⟨c0, c1, c2, c3⟩ := HR.out.cells HO.out; clear bn)
                          | (go_at_call 22; ((with_reducible refine (CF _).mono ?_); rintro e wn ⟨rfl, bn⟩); replace HB := Lib.hid (HB.out.trans (bn.mono HB.out.size)); replace HR := Lib.hid (HR.out.below bn); clear c0 c1 c2 c3; obtain ⟨c0, c1, c2, c3⟩ := HR.out.cells HO.out; clear bn)
                          | (go_at_call 31; ((with_reducible refine (CP _).mono ?_); rintro e wn ⟨rfl, bn⟩); replace HB := Lib.hid (HB.out.trans (bn.mono HB.out.size)); replace HR := Lib.hid (HR.out.below bn); clear c0 c1 c2 c3; obtain ⟨c0, c1, c2, c3⟩ := HR.out.cells HO.out; clear bn)
                          | (go_at_call 32; ((with_reducible refine (CO _).mono ?_); rintro e wn ⟨rfl, bn⟩); replace HB := Lib.hid (HB.out.trans (bn.mono HB.out.size)); replace HR := Lib.hid (HR.out.below bn); clear c0 c1 c2 c3; obtain ⟨c0, c1, c2, c3⟩ := HR.out.cells HO.out; clear bn)
                          | (go_at_call 20; ((with_reducible refine (CC _).mono ?_); rintro e wn ⟨an, capn, rfl, on, bn⟩); replace HB := Lib.hid (HB.out.trans (bn.mono HB.out.size)); replace HR := Lib.hid (HR.out.below bn); clear c0 c1 c2 c3; obtain ⟨c0, c1, c2, c3⟩ := HR.out.cells HO.out; clear on bn)
                          | ((with_reducible show wpList _ _ _ (⟨some 79, _, _, _, _, _⟩ :: _) _ _); refine wpList_load_midG rfl 24 (.tmp 78) rfl w.heap.size 3 rfl (r.dig.map byteV) _ (HR.out.dig HO.out) Tryd.underlying24 rfl HI.out ?_)
                          | ((with_reducible show wpList _ _ _ (⟨some 80, _, _, _, _, _⟩ :: _) _ _); refine wpList_build_asG (o := ⟨some 80, _, _, _, _, _⟩) rfl 24 _ rfl (cells8 zero32) ?_ ?_; kernel_rfl)
                          | ((with_reducible show wpList _ _ _ (⟨some 84, _, _, _, _, _⟩ :: _) _ _); refine wpList_load_rowG rfl 26 (.tmp 1) rfl w.heap.size rfl 26 (refC r) _ HR.out Tryd.underlying26 rfl HIR.out ?_)
                          | (go_at_call 24; ((with_reducible refine (CT _).mono ?_); rintro e wn ⟨rfl, bn⟩); replace HB := Lib.hid (HB.out.trans (bn.mono HB.out.size)); replace HR := Lib.hid (HR.out.below bn); clear c0 c1 c2 c3; obtain ⟨c0, c1, c2, c3⟩ := HR.out.cells HO.out; clear bn))
                    go_ret
                    exact ⟨retInt (by rw [HRes.out]), HB.out⟩
                  · cases d9
                    · cases d10
                      · cases d12
                        · have HRes := Lib.hid (show checkR r = 0 from check_yes (by rw [HM.out]; rfl))
                          clear HM
                          go_enter Tryd.func16, Tryd.ntmps16
                          go_wp2_with (first
                                | (go_at_call 30; ((with_reducible refine (CD _).mono ?_); rintro e wn ⟨rfl, bn⟩); replace HB := Lib.hid (HB.out.trans (bn.mono HB.out.size)); replace HR := Lib.hid (HR.out.below bn); clear c0 c1 c2 c3; obtain ⟨c0, c1, c2, c3⟩ := HR.out.cells HO.out; clear bn)
                                | (go_at_call 22; ((with_reducible refine (CF _).mono ?_); rintro e wn ⟨rfl, bn⟩); replace HB := Lib.hid (HB.out.trans (bn.mono HB.out.size)); replace HR := Lib.hid (HR.out.below bn); clear c0 c1 c2 c3; obtain ⟨c0, c1, c2, c3⟩ := HR.out.cells HO.out; clear bn)
                                | (go_at_call 31; ((with_reducible refine (CP _).mono ?_); rintro e wn ⟨rfl, bn⟩); replace HB := Lib.hid (HB.out.trans (bn.mono HB.out.size)); replace HR := Lib.hid (HR.out.below bn); clear c0 c1 c2 c3; obtain ⟨c0, c1, c2, c3⟩ := HR.out.cells HO.out; clear bn)
                                | (go_at_call 32; ((with_reducible refine (CO _).mono ?_); rintro e wn ⟨rfl, bn⟩); replace HB := Lib.hid (HB.out.trans (bn.mono HB.out.size)); replace HR := Lib.hid (HR.out.below bn); clear c0 c1 c2 c3; obtain ⟨c0, c1, c2, c3⟩ := HR.out.cells HO.out; clear bn)
                                | (go_at_call 20; ((with_reducible refine (CC _).mono ?_); rintro e wn ⟨an, capn, rfl, on, bn⟩); replace HB := Lib.hid (HB.out.trans (bn.mono HB.out.size)); replace HR := Lib.hid (HR.out.below bn); clear c0 c1 c2 c3; obtain ⟨c0, c1, c2, c3⟩ := HR.out.cells HO.out; clear on bn)
                                | ((with_reducible show wpList _ _ _ (⟨some 79, _, _, _, _, _⟩ :: _) _ _); refine wpList_load_midG rfl 24 (.tmp 78) rfl w.heap.size 3 rfl (r.dig.map byteV) _ (HR.out.dig HO.out) Tryd.underlying24 rfl HI.out ?_)
                                | ((with_reducible show wpList _ _ _ (⟨some 80, _, _, _, _, _⟩ :: _) _ _); refine wpList_build_asG (o := ⟨some 80, _, _, _, _, _⟩) rfl 24 _ rfl (cells8 zero32) ?_ ?_; kernel_rfl)
                                | ((with_reducible show wpList _ _ _ (⟨some 84, _, _, _, _, _⟩ :: _) _ _); refine wpList_load_rowG rfl 26 (.tmp 1) rfl w.heap.size rfl 26 (refC r) _ HR.out Tryd.underlying26 rfl HIR.out ?_)
                                | (go_at_call 24; ((with_reducible refine (CT _).mono ?_); rintro e wn ⟨rfl, bn⟩); replace HB := Lib.hid (HB.out.trans (bn.mono HB.out.size)); replace HR := Lib.hid (HR.out.below bn); clear c0 c1 c2 c3; obtain ⟨c0, c1, c2, c3⟩ := HR.out.cells HO.out; clear bn))
                          go_ret
                          exact ⟨retInt (by rw [HRes.out]), HB.out⟩
                        · have HRes := Lib.hid (show checkR r = 10 from check_no (by rw [HM.out]; rfl))
                          clear HM
                          go_enter Tryd.func16, Tryd.ntmps16
                          go_wp2_with (first
                                | (go_at_call 30; ((with_reducible refine (CD _).mono ?_); rintro e wn ⟨rfl, bn⟩); replace HB := Lib.hid (HB.out.trans (bn.mono HB.out.size)); replace HR := Lib.hid (HR.out.below bn); clear c0 c1 c2 c3; obtain ⟨c0, c1, c2, c3⟩ := HR.out.cells HO.out; clear bn)
                                | (go_at_call 22; ((with_reducible refine (CF _).mono ?_); rintro e wn ⟨rfl, bn⟩); replace HB := Lib.hid (HB.out.trans (bn.mono HB.out.size)); replace HR := Lib.hid (HR.out.below bn); clear c0 c1 c2 c3; obtain ⟨c0, c1, c2, c3⟩ := HR.out.cells HO.out; clear bn)
                                | (go_at_call 31; ((with_reducible refine (CP _).mono ?_); rintro e wn ⟨rfl, bn⟩); replace HB := Lib.hid (HB.out.trans (bn.mono HB.out.size)); replace HR := Lib.hid (HR.out.below bn); clear c0 c1 c2 c3; obtain ⟨c0, c1, c2, c3⟩ := HR.out.cells HO.out; clear bn)
                                | (go_at_call 32; ((with_reducible refine (CO _).mono ?_); rintro e wn ⟨rfl, bn⟩); replace HB := Lib.hid (HB.out.trans (bn.mono HB.out.size)); replace HR := Lib.hid (HR.out.below bn); clear c0 c1 c2 c3; obtain ⟨c0, c1, c2, c3⟩ := HR.out.cells HO.out; clear bn)
                                | (go_at_call 20; ((with_reducible refine (CC _).mono ?_); rintro e wn ⟨an, capn, rfl, on, bn⟩); replace HB := Lib.hid (HB.out.trans (bn.mono HB.out.size)); replace HR := Lib.hid (HR.out.below bn); clear c0 c1 c2 c3; obtain ⟨c0, c1, c2, c3⟩ := HR.out.cells HO.out; clear on bn)
                                | ((with_reducible show wpList _ _ _ (⟨some 79, _, _, _, _, _⟩ :: _) _ _); refine wpList_load_midG rfl 24 (.tmp 78) rfl w.heap.size 3 rfl (r.dig.map byteV) _ (HR.out.dig HO.out) Tryd.underlying24 rfl HI.out ?_)
                                | ((with_reducible show wpList _ _ _ (⟨some 80, _, _, _, _, _⟩ :: _) _ _); refine wpList_build_asG (o := ⟨some 80, _, _, _, _, _⟩) rfl 24 _ rfl (cells8 zero32) ?_ ?_; kernel_rfl)
                                | ((with_reducible show wpList _ _ _ (⟨some 84, _, _, _, _, _⟩ :: _) _ _); refine wpList_load_rowG rfl 26 (.tmp 1) rfl w.heap.size rfl 26 (refC r) _ HR.out Tryd.underlying26 rfl HIR.out ?_)
                                | (go_at_call 24; ((with_reducible refine (CT _).mono ?_); rintro e wn ⟨rfl, bn⟩); replace HB := Lib.hid (HB.out.trans (bn.mono HB.out.size)); replace HR := Lib.hid (HR.out.below bn); clear c0 c1 c2 c3; obtain ⟨c0, c1, c2, c3⟩ := HR.out.cells HO.out; clear bn))
                          go_ret
                          exact ⟨retInt (by rw [HRes.out]), HB.out⟩
                      · have HRes := Lib.hid (show checkR r = 10 from check_no (by rw [HM.out]; rfl))
                        clear HM
                        go_enter Tryd.func16, Tryd.ntmps16
                        go_wp2_with (first
                              | (go_at_call 30; ((with_reducible refine (CD _).mono ?_); rintro e wn ⟨rfl, bn⟩); replace HB := Lib.hid (HB.out.trans (bn.mono HB.out.size)); replace HR := Lib.hid (HR.out.below bn); clear c0 c1 c2 c3; obtain ⟨c0, c1, c2, c3⟩ := HR.out.cells HO.out; clear bn)
                              | (go_at_call 22; ((with_reducible refine (CF _).mono ?_); rintro e wn ⟨rfl, bn⟩); replace HB := Lib.hid (HB.out.trans (bn.mono HB.out.size)); replace HR := Lib.hid (HR.out.below bn); clear c0 c1 c2 c3; obtain ⟨c0, c1, c2, c3⟩ := HR.out.cells HO.out; clear bn)
                              | (go_at_call 31; ((with_reducible refine (CP _).mono ?_); rintro e wn ⟨rfl, bn⟩); replace HB := Lib.hid (HB.out.trans (bn.mono HB.out.size)); replace HR := Lib.hid (HR.out.below bn); clear c0 c1 c2 c3; obtain ⟨c0, c1, c2, c3⟩ := HR.out.cells HO.out; clear bn)
                              | (go_at_call 32; ((with_reducible refine (CO _).mono ?_); rintro e wn ⟨rfl, bn⟩); replace HB := Lib.hid (HB.out.trans (bn.mono HB.out.size)); replace HR := Lib.hid (HR.out.below bn); clear c0 c1 c2 c3; obtain ⟨c0, c1, c2, c3⟩ := HR.out.cells HO.out; clear bn)
                              | (go_at_call 20; ((with_reducible refine (CC _).mono ?_); rintro e wn ⟨an, capn, rfl, on, bn⟩); replace HB := Lib.hid (HB.out.trans (bn.mono HB.out.size)); replace HR := Lib.hid (HR.out.below bn); clear c0 c1 c2 c3; obtain ⟨c0, c1, c2, c3⟩ := HR.out.cells HO.out; clear on bn)
                              | ((with_reducible show wpList _ _ _ (⟨some 79, _, _, _, _, _⟩ :: _) _ _); refine wpList_load_midG rfl 24 (.tmp 78) rfl w.heap.size 3 rfl (r.dig.map byteV) _ (HR.out.dig HO.out) Tryd.underlying24 rfl HI.out ?_)
                              | ((with_reducible show wpList _ _ _ (⟨some 80, _, _, _, _, _⟩ :: _) _ _); refine wpList_build_asG (o := ⟨some 80, _, _, _, _, _⟩) rfl 24 _ rfl (cells8 zero32) ?_ ?_; kernel_rfl)
                              | ((with_reducible show wpList _ _ _ (⟨some 84, _, _, _, _, _⟩ :: _) _ _); refine wpList_load_rowG rfl 26 (.tmp 1) rfl w.heap.size rfl 26 (refC r) _ HR.out Tryd.underlying26 rfl HIR.out ?_)
                              | (go_at_call 24; ((with_reducible refine (CT _).mono ?_); rintro e wn ⟨rfl, bn⟩); replace HB := Lib.hid (HB.out.trans (bn.mono HB.out.size)); replace HR := Lib.hid (HR.out.below bn); clear c0 c1 c2 c3; obtain ⟨c0, c1, c2, c3⟩ := HR.out.cells HO.out; clear bn))
                        go_ret
                        exact ⟨retInt (by rw [HRes.out]), HB.out⟩
                    · have HRes := Lib.hid (show checkR r = 10 from check_no (by rw [HM.out]; rfl))
                      clear HM
                      go_enter Tryd.func16, Tryd.ntmps16
                      go_wp2_with (first
                            | (go_at_call 30; ((with_reducible refine (CD _).mono ?_); rintro e wn ⟨rfl, bn⟩); replace HB := Lib.hid (HB.out.trans (bn.mono HB.out.size)); replace HR := Lib.hid (HR.out.below bn); clear c0 c1 c2 c3; obtain ⟨c0, c1, c2, c3⟩ := HR.out.cells HO.out; clear bn)
                            | (go_at_call 22; ((with_reducible refine (CF _).mono ?_); rintro e wn ⟨rfl, bn⟩); replace HB := Lib.hid (HB.out.trans (bn.mono HB.out.size)); replace HR := Lib.hid (HR.out.below bn); clear c0 c1 c2 c3; obtain ⟨c0, c1, c2, c3⟩ := HR.out.cells HO.out; clear bn)
                            | (go_at_call 31; ((with_reducible refine (CP _).mono ?_); rintro e wn ⟨rfl, bn⟩); replace HB := Lib.hid (HB.out.trans (bn.mono HB.out.size)); replace HR := Lib.hid (HR.out.below bn); clear c0 c1 c2 c3; obtain ⟨c0, c1, c2, c3⟩ := HR.out.cells HO.out; clear bn)
                            | (go_at_call 32; ((with_reducible refine (CO _).mono ?_); rintro e wn ⟨rfl, bn⟩); replace HB := Lib.hid (HB.out.trans (bn.mono HB.out.size)); replace HR := Lib.hid (HR.out.below bn); clear c0 c1 c2 c3; obtain ⟨c0, c1, c2, c3⟩ := HR.out.cells HO.out; clear bn)
                            | (go_at_call 20; ((with_reducible refine (CC _).mono ?_); rintro e wn ⟨an, capn, rfl, on, bn⟩); replace HB := Lib.hid (HB.out.trans (bn.mono HB.out.size)); replace HR := Lib.hid (HR.out.below bn); clear c0 c1 c2 c3; obtain ⟨c0, c1, c2, c3⟩ := HR.out.cells HO.out; clear on bn)
                            | ((with_reducible show wpList _ _ _ (⟨some 79, _, _, _, _, _⟩ :: _) _ _); refine wpList_load_midG rfl 24 (.tmp 78) rfl w.heap.size 3 rfl (r.dig.map byteV) _ (HR.out.dig HO.out) Tryd.underlying24 rfl HI.out ?_)
                            | ((with_reducible show wpList _ _ _ (⟨some 80, _, _, _, _, _⟩ :: _) _ _); refine wpList_build_asG (o := ⟨some 80, _, _, _, _, _⟩) rfl 24 _ rfl (cells8 zero32) ?_ ?_; kernel_rfl)
                            | ((with_reducible show wpList _ _ _ (⟨some 84, _, _, _, _, _⟩ :: _) _ _); refine wpList_load_rowG rfl 26 (.tmp 1) rfl w.heap.size rfl 26 (refC r) _ HR.out Tryd.underlying26 rfl HIR.out ?_)
                            | (go_at_call 24; ((with_reducible refine (CT _).mono ?_); rintro e wn ⟨rfl, bn⟩); replace HB := Lib.hid (HB.out.trans (bn.mono HB.out.size)); replace HR := Lib.hid (HR.out.below bn); clear c0 c1 c2 c3; obtain ⟨c0, c1, c2, c3⟩ := HR.out.cells HO.out; clear bn))
                      go_ret
                      exact ⟨retInt (by rw [HRes.out]), HB.out⟩
                · have HRes := Lib.hid (show checkR r = 10 from check_no (by rw [HM.out]; rfl))
                  clear HM
                  go_enter Tryd.func16, Tryd.ntmps16
                  go_wp2_with (first
                        | (go_at_call 30; ((with_reducible refine (CD _).mono ?_); rintro e wn ⟨rfl, bn⟩); replace HB := Lib.hid (HB.out.trans (bn.mono HB.out.size)); replace HR := Lib.hid (HR.out.below bn); clear c0 c1 c2 c3; obtain ⟨c0, c1, c2, c3⟩ := HR.out.cells HO.out; clear bn)
                        | (go_at_call 22; ((with_reducible refine (CF _).mono ?_); rintro e wn ⟨rfl, bn⟩); replace HB := Lib.hid (HB.out.trans (bn.mono HB.out.size)); replace HR := Lib.hid (HR.out.below bn); clear c0 c1 c2 c3; obtain ⟨c0, c1, c2, c3⟩ := HR.out.cells HO.out; clear bn)
                        | (go_at_call 31; ((with_reducible refine (CP _).mono ?_); rintro e wn ⟨rfl, bn⟩); replace HB := Lib.hid (HB.out.trans (bn.mono HB.out.size)); replace HR := Lib.hid (HR.out.below bn); clear c0 c1 c2 c3; obtain ⟨c0, c1, c2, c3⟩ := HR.out.cells HO.out; clear bn)
                        | (go_at_call 32; ((with_reducible refine (CO _).mono ?_); rintro e wn ⟨rfl, bn⟩); replace HB := Lib.hid (HB.out.trans (bn.mono HB.out.size)); replace HR := Lib.hid (HR.out.below bn); clear c0 c1 c2 c3; obtain ⟨c0, c1, c2, c3⟩ := HR.out.cells HO.out; clear bn)
                        | (go_at_call 20; ((with_reducible refine (CC _).mono ?_); rintro e wn ⟨an, capn, rfl, on, bn⟩); replace HB := Lib.hid (HB.out.trans (bn.mono HB.out.size)); replace HR := Lib.hid (HR.out.below bn); clear c0 c1 c2 c3; obtain ⟨c0, c1, c2, c3⟩ := HR.out.cells HO.out; clear on bn)
                        | ((with_reducible show wpList _ _ _ (⟨some 79, _, _, _, _, _⟩ :: _) _ _); refine wpList_load_midG rfl 24 (.tmp 78) rfl w.heap.size 3 rfl (r.dig.map byteV) _ (HR.out.dig HO.out) Tryd.underlying24 rfl HI.out ?_)
                        | ((with_reducible show wpList _ _ _ (⟨some 80, _, _, _, _, _⟩ :: _) _ _); refine wpList_build_asG (o := ⟨some 80, _, _, _, _, _⟩) rfl 24 _ rfl (cells8 zero32) ?_ ?_; kernel_rfl)
                        | ((with_reducible show wpList _ _ _ (⟨some 84, _, _, _, _, _⟩ :: _) _ _); refine wpList_load_rowG rfl 26 (.tmp 1) rfl w.heap.size rfl 26 (refC r) _ HR.out Tryd.underlying26 rfl HIR.out ?_)
                        | (go_at_call 24; ((with_reducible refine (CT _).mono ?_); rintro e wn ⟨rfl, bn⟩); replace HB := Lib.hid (HB.out.trans (bn.mono HB.out.size)); replace HR := Lib.hid (HR.out.below bn); clear c0 c1 c2 c3; obtain ⟨c0, c1, c2, c3⟩ := HR.out.cells HO.out; clear bn))
                  go_ret
                  exact ⟨retInt (by rw [HRes.out]), HB.out⟩
          · cases d6
            · cases hp : r.pin
              · rw [hp] at c3 HM
                by_cases ht : r.tag = []
                · rw [decide_eq_true ht] at f3
                  rw [if_pos ht] at HM
                  clear ht
                  have HRes := Lib.hid (show checkR r = 10 from check_no (by rw [HM.out]; rfl))
                  clear HM
                  go_enter Tryd.func16, Tryd.ntmps16
                  go_wp2_with (first
                        | (go_at_call 30; ((with_reducible refine (CD _).mono ?_); rintro e wn ⟨rfl, bn⟩); replace HB := Lib.hid (HB.out.trans (bn.mono HB.out.size)); replace HR := Lib.hid (HR.out.below bn); clear c0 c1 c2 c3; obtain ⟨c0, c1, c2, c3⟩ := HR.out.cells HO.out; clear bn)
                        | (go_at_call 22; ((with_reducible refine (CF _).mono ?_); rintro e wn ⟨rfl, bn⟩); replace HB := Lib.hid (HB.out.trans (bn.mono HB.out.size)); replace HR := Lib.hid (HR.out.below bn); clear c0 c1 c2 c3; obtain ⟨c0, c1, c2, c3⟩ := HR.out.cells HO.out; clear bn)
                        | (go_at_call 31; ((with_reducible refine (CP _).mono ?_); rintro e wn ⟨rfl, bn⟩); replace HB := Lib.hid (HB.out.trans (bn.mono HB.out.size)); replace HR := Lib.hid (HR.out.below bn); clear c0 c1 c2 c3; obtain ⟨c0, c1, c2, c3⟩ := HR.out.cells HO.out; clear bn)
                        | (go_at_call 32; ((with_reducible refine (CO _).mono ?_); rintro e wn ⟨rfl, bn⟩); replace HB := Lib.hid (HB.out.trans (bn.mono HB.out.size)); replace HR := Lib.hid (HR.out.below bn); clear c0 c1 c2 c3; obtain ⟨c0, c1, c2, c3⟩ := HR.out.cells HO.out; clear bn)
                        | (go_at_call 20; ((with_reducible refine (CC _).mono ?_); rintro e wn ⟨an, capn, rfl, on, bn⟩); replace HB := Lib.hid (HB.out.trans (bn.mono HB.out.size)); replace HR := Lib.hid (HR.out.below bn); clear c0 c1 c2 c3; obtain ⟨c0, c1, c2, c3⟩ := HR.out.cells HO.out; clear on bn)
                        | ((with_reducible show wpList _ _ _ (⟨some 79, _, _, _, _, _⟩ :: _) _ _); refine wpList_load_midG rfl 24 (.tmp 78) rfl w.heap.size 3 rfl (r.dig.map byteV) _ (HR.out.dig HO.out) Tryd.underlying24 rfl HI.out ?_)
                        | ((with_reducible show wpList _ _ _ (⟨some 80, _, _, _, _, _⟩ :: _) _ _); refine wpList_build_asG (o := ⟨some 80, _, _, _, _, _⟩) rfl 24 _ rfl (cells8 zero32) ?_ ?_; kernel_rfl)
                        | ((with_reducible show wpList _ _ _ (⟨some 84, _, _, _, _, _⟩ :: _) _ _); refine wpList_load_rowG rfl 26 (.tmp 1) rfl w.heap.size rfl 26 (refC r) _ HR.out Tryd.underlying26 rfl HIR.out ?_)
                        | (go_at_call 24; ((with_reducible refine (CT _).mono ?_); rintro e wn ⟨rfl, bn⟩); replace HB := Lib.hid (HB.out.trans (bn.mono HB.out.size)); replace HR := Lib.hid (HR.out.below bn); clear c0 c1 c2 c3; obtain ⟨c0, c1, c2, c3⟩ := HR.out.cells HO.out; clear bn))
                  go_ret
                  exact ⟨retInt (by rw [HRes.out]), HB.out⟩
                · rw [decide_eq_false ht] at f3
                  rw [if_neg ht] at HM
                  have hpos := List.length_pos_iff.2 ht
                  obtain ⟨i0, i1, i2⟩ := HTC.out hpos
                  clear ht
                  cases d7
                  · cases d8
                    · have HRes := Lib.hid (show checkR r = 10 from check_no (by rw [HM.out]; rfl))
                      clear HM
                      go_enter Tryd.func16, Tryd.ntmps16
                      go_wp2_with (first
                            | (go_at_call 30; ((with_reducible refine (CD _).mono ?_); rintro e wn ⟨rfl, bn⟩); replace HB := Lib.hid (HB.out.trans (bn.mono HB.out.size)); replace HR := Lib.hid (HR.out.below bn); clear c0 c1 c2 c3; obtain ⟨c0, c1, c2, c3⟩ := HR.out.cells HO.out; clear bn)
                            | (go_at_call 22; ((with_reducible refine (CF _).mono ?_); rintro e wn ⟨rfl, bn⟩); replace HB := Lib.hid (HB.out.trans (bn.mono HB.out.size)); replace HR := Lib.hid (HR.out.below bn); clear c0 c1 c2 c3; obtain ⟨c0, c1, c2, c3⟩ := HR.out.cells HO.out; clear bn)
                            | (go_at_call 31; ((with_reducible refine (CP _).mono ?_); rintro e wn ⟨rfl, bn⟩); replace HB := Lib.hid (HB.out.trans (bn.mono HB.out.size)); replace HR := Lib.hid (HR.out.below bn); clear c0 c1 c2 c3; obtain ⟨c0, c1, c2, c3⟩ := HR.out.cells HO.out; clear bn)
                            | (go_at_call 32; ((with_reducible refine (CO _).mono ?_); rintro e wn ⟨rfl, bn⟩); replace HB := Lib.hid (HB.out.trans (bn.mono HB.out.size)); replace HR := Lib.hid (HR.out.below bn); clear c0 c1 c2 c3; obtain ⟨c0, c1, c2, c3⟩ := HR.out.cells HO.out; clear bn)
                            | (go_at_call 20; ((with_reducible refine (CC _).mono ?_); rintro e wn ⟨an, capn, rfl, on, bn⟩); replace HB := Lib.hid (HB.out.trans (bn.mono HB.out.size)); replace HR := Lib.hid (HR.out.below bn); clear c0 c1 c2 c3; obtain ⟨c0, c1, c2, c3⟩ := HR.out.cells HO.out; clear on bn)
                            | ((with_reducible show wpList _ _ _ (⟨some 79, _, _, _, _, _⟩ :: _) _ _); refine wpList_load_midG rfl 24 (.tmp 78) rfl w.heap.size 3 rfl (r.dig.map byteV) _ (HR.out.dig HO.out) Tryd.underlying24 rfl HI.out ?_)
                            | ((with_reducible show wpList _ _ _ (⟨some 80, _, _, _, _, _⟩ :: _) _ _); refine wpList_build_asG (o := ⟨some 80, _, _, _, _, _⟩) rfl 24 _ rfl (cells8 zero32) ?_ ?_; kernel_rfl)
                            | ((with_reducible show wpList _ _ _ (⟨some 84, _, _, _, _, _⟩ :: _) _ _); refine wpList_load_rowG rfl 26 (.tmp 1) rfl w.heap.size rfl 26 (refC r) _ HR.out Tryd.underlying26 rfl HIR.out ?_)
                            | (go_at_call 24; ((with_reducible refine (CT _).mono ?_); rintro e wn ⟨rfl, bn⟩); replace HB := Lib.hid (HB.out.trans (bn.mono HB.out.size)); replace HR := Lib.hid (HR.out.below bn); clear c0 c1 c2 c3; obtain ⟨c0, c1, c2, c3⟩ := HR.out.cells HO.out; clear bn))
                      go_ret
                      exact ⟨retInt (by rw [HRes.out]), HB.out⟩
                    · cases d9
                      · cases d10
                        · cases d11
                          · have HRes := Lib.hid (show checkR r = 10 from check_no (by rw [HM.out]; rfl))
                            clear HM
                            go_enter Tryd.func16, Tryd.ntmps16
                            go_wp2_with (first
                                  | (go_at_call 30; ((with_reducible refine (CD _).mono ?_); rintro e wn ⟨rfl, bn⟩); replace HB := Lib.hid (HB.out.trans (bn.mono HB.out.size)); replace HR := Lib.hid (HR.out.below bn); clear c0 c1 c2 c3; obtain ⟨c0, c1, c2, c3⟩ := HR.out.cells HO.out; clear bn)
                                  | (go_at_call 22; ((with_reducible refine (CF _).mono ?_); rintro e wn ⟨rfl, bn⟩); replace HB := Lib.hid (HB.out.trans (bn.mono HB.out.size)); replace HR := Lib.hid (HR.out.below bn); clear c0 c1 c2 c3; obtain ⟨c0, c1, c2, c3⟩ := HR.out.cells HO.out; clear bn)
                                  | (go_at_call 31; ((with_reducible refine (CP _).mono ?_); rintro e wn ⟨rfl, bn⟩); replace HB := Lib.hid (HB.out.trans (bn.mono HB.out.size)); replace HR := Lib.hid (HR.out.below bn); clear c0 c1 c2 c3; obtain ⟨c0, c1, c2, c3⟩ := HR.out.cells HO.out; clear bn)
                                  | (go_at_call 32; ((with_reducible refine (CO _).mono ?_); rintro e wn ⟨rfl, bn⟩); replace HB := Lib.hid (HB.out.trans (bn.mono HB.out.size)); replace HR := Lib.hid (HR.out.below bn); clear c0 c1 c2 c3; obtain ⟨c0, c1, c2, c3⟩ := HR.out.cells HO.out; clear bn)
                                  | (go_at_call 20; ((with_reducible refine (CC _).mono ?_); rintro e wn ⟨an, capn, rfl, on, bn⟩); replace HB := Lib.hid (HB.out.trans (bn.mono HB.out.size)); replace HR := Lib.hid (HR.out.below bn); clear c0 c1 c2 c3; obtain ⟨c0, c1, c2, c3⟩ := HR.out.cells HO.out; clear on bn)
                                  | ((with_reducible show wpList _ _ _ (⟨some 79, _, _, _, _, _⟩ :: _) _ _); refine wpList_load_midG rfl 24 (.tmp 78) rfl w.heap.size 3 rfl (r.dig.map byteV) _ (HR.out.dig HO.out) Tryd.underlying24 rfl HI.out ?_)
                                  | ((with_reducible show wpList _ _ _ (⟨some 80, _, _, _, _, _⟩ :: _) _ _); refine wpList_build_asG (o := ⟨some 80, _, _, _, _, _⟩) rfl 24 _ rfl (cells8 zero32) ?_ ?_; kernel_rfl)
                                  | ((with_reducible show wpList _ _ _ (⟨some 84, _, _, _, _, _⟩ :: _) _ _); refine wpList_load_rowG rfl 26 (.tmp 1) rfl w.heap.size rfl 26 (refC r) _ HR.out Tryd.underlying26 rfl HIR.out ?_)
                                  | (go_at_call 24; ((with_reducible refine (CT _).mono ?_); rintro e wn ⟨rfl, bn⟩); replace HB := Lib.hid (HB.out.trans (bn.mono HB.out.size)); replace HR := Lib.hid (HR.out.below bn); clear c0 c1 c2 c3; obtain ⟨c0, c1, c2, c3⟩ := HR.out.cells HO.out; clear bn))
                            go_ret
                            exact ⟨retInt (by rw [HRes.out]), HB.out⟩
                          · cases d12
                            · have HRes := Lib.hid (show checkR r = 0 from check_yes (by rw [HM.out]; rfl))
                              clear HM
                              go_enter Tryd.func16, Tryd.ntmps16
                              go_wp2_with (first
                                    | (go_at_call 30; ((with_reducible refine (CD _).mono ?_); rintro e wn ⟨rfl, bn⟩); replace HB := Lib.hid (HB.out.trans (bn.mono HB.out.size)); replace HR := Lib.hid (HR.out.below bn); clear c0 c1 c2 c3; obtain ⟨c0, c1, c2, c3⟩ := HR.out.cells HO.out; clear bn)
                                    | (go_at_call 22; ((with_reducible refine (CF _).mono ?_); rintro e wn ⟨rfl, bn⟩); replace HB := Lib.hid (HB.out.trans (bn.mono HB.out.size)); replace HR := Lib.hid (HR.out.below bn); clear c0 c1 c2 c3; obtain ⟨c0, c1, c2, c3⟩ := HR.out.cells HO.out; clear bn)
                                    | (go_at_call 31; ((with_reducible refine (CP _).mono ?_); rintro e wn ⟨rfl, bn⟩); replace HB := Lib.hid (HB.out.trans (bn.mono HB.out.size)); replace HR := Lib.hid (HR.out.below bn); clear c0 c1 c2 c3; obtain ⟨c0, c1, c2, c3⟩ := HR.out.cells HO.out; clear bn)
                                    | (go_at_call 32; ((with_reducible refine (CO _).mono ?_); rintro e wn ⟨rfl, bn⟩); replace HB := Lib.hid (HB.out.trans (bn.mono HB.out.size)); replace HR := Lib.hid (HR.out.below bn); clear c0 c1 c2 c3; obtain ⟨c0, c1, c2, c3⟩ := HR.out.cells HO.out; clear bn)
                                    | (go_at_call 20; ((with_reducible refine (CC _).mono ?_); rintro e wn ⟨an, capn, rfl, on, bn⟩); replace HB := Lib.hid (HB.out.trans (bn.mono HB.out.size)); replace HR := Lib.hid (HR.out.below bn); clear c0 c1 c2 c3; obtain ⟨c0, c1, c2, c3⟩ := HR.out.cells HO.out; clear on bn)
                                    | ((with_reducible show wpList _ _ _ (⟨some 79, _, _, _, _, _⟩ :: _) _ _); refine wpList_load_midG rfl 24 (.tmp 78) rfl w.heap.size 3 rfl (r.dig.map byteV) _ (HR.out.dig HO.out) Tryd.underlying24 rfl HI.out ?_)
                                    | ((with_reducible show wpList _ _ _ (⟨some 80, _, _, _, _, _⟩ :: _) _ _); refine wpList_build_asG (o := ⟨some 80, _, _, _, _, _⟩) rfl 24 _ rfl (cells8 zero32) ?_ ?_; kernel_rfl)
                                    | ((with_reducible show wpList _ _ _ (⟨some 84, _, _, _, _, _⟩ :: _) _ _); refine wpList_load_rowG rfl 26 (.tmp 1) rfl w.heap.size rfl 26 (refC r) _ HR.out Tryd.underlying26 rfl HIR.out ?_)
                                    | (go_at_call 24; ((with_reducible refine (CT _).mono ?_); rintro e wn ⟨rfl, bn⟩); replace HB := Lib.hid (HB.out.trans (bn.mono HB.out.size)); replace HR := Lib.hid (HR.out.below bn); clear c0 c1 c2 c3; obtain ⟨c0, c1, c2, c3⟩ := HR.out.cells HO.out; clear bn))
                              go_ret
                              exact ⟨retInt (by rw [HRes.out]), HB.out⟩
                            · have HRes := Lib.hid (show checkR r = 10 from check_no (by rw [HM.out]; rfl))
                              clear HM
                              go_enter Tryd.func16, Tryd.ntmps16
                              go_wp2_with (first
                                    | (go_at_call 30; ((with_reducible refine (CD _).mono ?_); rintro e wn ⟨rfl, bn⟩); replace HB := Lib.hid (HB.out.trans (bn.mono HB.out.size)); replace HR := Lib.hid (HR.out.below bn); clear c0 c1 c2 c3; obtain ⟨c0, c1, c2, c3⟩ := HR.out.cells HO.out; clear bn)
                                    | (go_at_call 22; ((with_reducible refine (CF _).mono ?_); rintro e wn ⟨rfl, bn⟩); replace HB := Lib.hid (HB.out.trans (bn.mono HB.out.size)); replace HR := Lib.hid (HR.out.below bn); clear c0 c1 c2 c3; obtain ⟨c0, c1, c2, c3⟩ := HR.out.cells HO.out; clear bn)
                                    | (go_at_call 31; ((with_reducible refine (CP _).mono ?_); rintro e wn ⟨rfl, bn⟩); replace HB := Lib.hid (HB.out.trans (bn.mono HB.out.size)); replace HR := Lib.hid (HR.out.below bn); clear c0 c1 c2 c3; obtain ⟨c0, c1, c2, c3⟩ := HR.out.cells HO.out; clear bn)
                                    | (go_at_call 32; ((with_reducible refine (CO _).mono ?_); rintro e wn ⟨rfl, bn⟩); replace HB := Lib.hid (HB.out.trans (bn.mono HB.out.size)); replace HR := Lib.hid (HR.out.below bn); clear c0 c1 c2 c3; obtain ⟨c0, c1, c2, c3⟩ := HR.out.cells HO.out; clear bn)
                                    | (go_at_call 20; ((with_reducible refine (CC _).mono ?_); rintro e wn ⟨an, capn, rfl, on, bn⟩); replace HB := Lib.hid (HB.out.trans (bn.mono HB.out.size)); replace HR := Lib.hid (HR.out.below bn); clear c0 c1 c2 c3; obtain ⟨c0, c1, c2, c3⟩ := HR.out.cells HO.out; clear on bn)
                                    | ((with_reducible show wpList _ _ _ (⟨some 79, _, _, _, _, _⟩ :: _) _ _); refine wpList_load_midG rfl 24 (.tmp 78) rfl w.heap.size 3 rfl (r.dig.map byteV) _ (HR.out.dig HO.out) Tryd.underlying24 rfl HI.out ?_)
                                    | ((with_reducible show wpList _ _ _ (⟨some 80, _, _, _, _, _⟩ :: _) _ _); refine wpList_build_asG (o := ⟨some 80, _, _, _, _, _⟩) rfl 24 _ rfl (cells8 zero32) ?_ ?_; kernel_rfl)
                                    | ((with_reducible show wpList _ _ _ (⟨some 84, _, _, _, _, _⟩ :: _) _ _); refine wpList_load_rowG rfl 26 (.tmp 1) rfl w.heap.size rfl 26 (refC r) _ HR.out Tryd.underlying26 rfl HIR.out ?_)
                                    | (go_at_call 24; ((with_reducible refine (CT _).mono ?_); rintro e wn ⟨rfl, bn⟩); replace HB := Lib.hid (HB.out.trans (bn.mono HB.out.size)); replace HR := Lib.hid (HR.out.below bn); clear c0 c1 c2 c3; obtain ⟨c0, c1, c2, c3⟩ := HR.out.cells HO.out; clear bn))
                              go_ret
                              exact ⟨retInt (by rw [HRes.out]), HB.out⟩
                        · have HRes := Lib.hid (show checkR r = 10 from check_no (by rw [HM.out]; rfl))
                          clear HM
                          go_enter Tryd.func16, Tryd.ntmps16
                          go_wp2_with (first
                                | (go_at_call 30; ((with_reducible refine (CD _).mono ?_); rintro e wn ⟨rfl, bn⟩); replace HB := Lib.hid (HB.out.trans (bn.mono HB.out.size)); replace HR := Lib.hid (HR.out.below bn); clear c0 c1 c2 c3; obtain ⟨c0, c1, c2, c3⟩ := HR.out.cells HO.out; clear bn)
                                | (go_at_call 22; ((with_reducible refine (CF _).mono ?_); rintro e wn ⟨rfl, bn⟩); replace HB := Lib.hid (HB.out.trans (bn.mono HB.out.size)); replace HR := Lib.hid (HR.out.below bn); clear c0 c1 c2 c3; obtain ⟨c0, c1, c2, c3⟩ := HR.out.cells HO.out; clear bn)
                                | (go_at_call 31; ((with_reducible refine (CP _).mono ?_); rintro e wn ⟨rfl, bn⟩); replace HB := Lib.hid (HB.out.trans (bn.mono HB.out.size)); replace HR := Lib.hid (HR.out.below bn); clear c0 c1 c2 c3; obtain ⟨c0, c1, c2, c3⟩ := HR.out.cells HO.out; clear bn)
                                | (go_at_call 32; ((with_reducible refine (CO _).mono ?_); rintro e wn ⟨rfl, bn⟩); replace HB := Lib.hid (HB.out.trans (bn.mono HB.out.size)); replace HR := Lib.hid (HR.out.below bn); clear c0 c1 c2 c3; obtain ⟨c0, c1, c2, c3⟩ := HR.out.cells HO.out; clear bn)
                                | (go_at_call 20; ((with_reducible refine (CC _).mono ?_); rintro e wn ⟨an, capn, rfl, on, bn⟩); replace HB := Lib.hid (HB.out.trans (bn.mono HB.out.size)); replace HR := Lib.hid (HR.out.below bn); clear c0 c1 c2 c3; obtain ⟨c0, c1, c2, c3⟩ := HR.out.cells HO.out; clear on bn)
                                | ((with_reducible show wpList _ _ _ (⟨some 79, _, _, _, _, _⟩ :: _) _ _); refine wpList_load_midG rfl 24 (.tmp 78) rfl w.heap.size 3 rfl (r.dig.map byteV) _ (HR.out.dig HO.out) Tryd.underlying24 rfl HI.out ?_)
                                | ((with_reducible show wpList _ _ _ (⟨some 80, _, _, _, _, _⟩ :: _) _ _); refine wpList_build_asG (o := ⟨some 80, _, _, _, _, _⟩) rfl 24 _ rfl (cells8 zero32) ?_ ?_; kernel_rfl)
                                | ((with_reducible show wpList _ _ _ (⟨some 84, _, _, _, _, _⟩ :: _) _ _); refine wpList_load_rowG rfl 26 (.tmp 1) rfl w.heap.size rfl 26 (refC r) _ HR.out Tryd.underlying26 rfl HIR.out ?_)
                                | (go_at_call 24; ((with_reducible refine (CT _).mono ?_); rintro e wn ⟨rfl, bn⟩); replace HB := Lib.hid (HB.out.trans (bn.mono HB.out.size)); replace HR := Lib.hid (HR.out.below bn); clear c0 c1 c2 c3; obtain ⟨c0, c1, c2, c3⟩ := HR.out.cells HO.out; clear bn))
                          go_ret
                          exact ⟨retInt (by rw [HRes.out]), HB.out⟩
                      · have HRes := Lib.hid (show checkR r = 10 from check_no (by rw [HM.out]; rfl))
                        clear HM
                        go_enter Tryd.func16, Tryd.ntmps16
                        go_wp2_with (first
                              | (go_at_call 30; ((with_reducible refine (CD _).mono ?_); rintro e wn ⟨rfl, bn⟩); replace HB := Lib.hid (HB.out.trans (bn.mono HB.out.size)); replace HR := Lib.hid (HR.out.below bn); clear c0 c1 c2 c3; obtain ⟨c0, c1, c2, c3⟩ := HR.out.cells HO.out; clear bn)
                              | (go_at_call 22; ((with_reducible refine (CF _).mono ?_); rintro e wn ⟨rfl, bn⟩); replace HB := Lib.hid (HB.out.trans (bn.mono HB.out.size)); replace HR := Lib.hid (HR.out.below bn); clear c0 c1 c2 c3; obtain ⟨c0, c1, c2, c3⟩ := HR.out.cells HO.out; clear bn)
                              | (go_at_call 31; ((with_reducible refine (CP _).mono ?_); rintro e wn ⟨rfl, bn⟩); replace HB := Lib.hid (HB.out.trans (bn.mono HB.out.size)); replace HR := Lib.hid (HR.out.below bn); clear c0 c1 c2 c3; obtain ⟨c0, c1, c2, c3⟩ := HR.out.cells HO.out; clear bn)
                              | (go_at_call 32; ((with_reducible refine (CO _).mono ?_); rintro e wn ⟨rfl, bn⟩); replace HB := Lib.hid (HB.out.trans (bn.mono HB.out.size)); replace HR := Lib.hid (HR.out.below bn); clear c0 c1 c2 c3; obtain ⟨c0, c1, c2, c3⟩ := HR.out.cells HO.out; clear bn)
                              | (go_at_call 20; ((with_reducible refine (CC _).mono ?_); rintro e wn ⟨an, capn, rfl, on, bn⟩); replace HB := Lib.hid (HB.out.trans (bn.mono HB.out.size)); replace HR := Lib.hid (HR.out.below bn); clear c0 c1 c2 c3; obtain ⟨c0, c1, c2, c3⟩ := HR.out.cells HO.out; clear on bn)
                              | ((with_reducible show wpList _ _ _ (⟨some 79, _, _, _, _, _⟩ :: _) _ _); refine wpList_load_midG rfl 24 (.tmp 78) rfl w.heap.size 3 rfl (r.dig.map byteV) _ (HR.out.dig HO.out) Tryd.underlying24 rfl HI.out ?_)
                              | ((with_reducible show wpList _ _ _ (⟨some 80, _, _, _, _, _⟩ :: _) _ _); refine wpList_build_asG (o := ⟨some 80, _, _, _, _, _⟩) rfl 24 _ rfl (cells8 zero32) ?_ ?_; kernel_rfl)
                              | ((with_reducible show wpList _ _ _ (⟨some 84, _, _, _, _, _⟩ :: _) _ _); refine wpList_load_rowG rfl 26 (.tmp 1) rfl w.heap.size rfl 26 (refC r) _ HR.out Tryd.underlying26 rfl HIR.out ?_)
                              | (go_at_call 24; ((with_reducible refine (CT _).mono ?_); rintro e wn ⟨rfl, bn⟩); replace HB := Lib.hid (HB.out.trans (bn.mono HB.out.size)); replace HR := Lib.hid (HR.out.below bn); clear c0 c1 c2 c3; obtain ⟨c0, c1, c2, c3⟩ := HR.out.cells HO.out; clear bn))
                        go_ret
                        exact ⟨retInt (by rw [HRes.out]), HB.out⟩
                  · have HRes := Lib.hid (show checkR r = 10 from check_no (by rw [HM.out]; rfl))
                    clear HM
                    go_enter Tryd.func16, Tryd.ntmps16
                    go_wp2_with (first
                          | (go_at_call 30; ((with_reducible refine (CD _).mono ?_); rintro e wn ⟨rfl, bn⟩); replace HB := Lib.hid (HB.out.trans (bn.mono HB.out.size)); replace HR := Lib.hid (HR.out.below bn); clear c0 c1 c2 c3; obtain ⟨c0, c1, c2, c3⟩ := HR.out.cells HO.out; clear bn)
                          | (go_at_call 22; ((with_reducible refine (CF _).mono ?_); rintro e wn ⟨rfl, bn⟩); replace HB := Lib.hid (HB.out.trans (bn.mono HB.out.size)); replace HR := Lib.hid (HR.out.below bn); clear c0 c1 c2 c3; obtain ⟨c0, c1, c2, c3⟩ := HR.out.cells HO.out; clear bn)
                          | (go_at_call 31; ((with_reducible refine (CP _).mono ?_); rintro e wn ⟨rfl, bn⟩); replace HB := Lib.hid (HB.out.trans (bn.mono HB.out.size)); replace HR := Lib.hid (HR.out.below bn); clear c0 c1 c2 c3; obtain ⟨c0, c1, c2, c3⟩ := HR.out.cells HO.out; clear bn)
                          | (go_at_call 32; ((with_reducible refine (CO _).mono ?_); rintro e wn ⟨rfl, bn⟩); replace HB := Lib.hid (HB.out.trans (bn.mono HB.out.size)); replace HR := Lib.hid (HR.out.below bn); clear c0 c1 c2 c3; obtain ⟨c0, c1, c2, c3⟩ := HR.out.cells HO.out; clear bn)
                          | (go_at_call 20; ((with_reducible refine (CC _).mono ?_); rintro e wn ⟨an, capn, rfl, on, bn⟩); replace HB := Lib.hid (HB.out.trans (bn.mono HB.out.size)); replace HR := Lib.hid (HR.out.below bn); clear c0 c1 c2 c3; obtain ⟨c0, c1, c2, c3⟩ := HR.out.cells HO.out; clear on bn)
                          | ((with_reducible show wpList _ _ _ (⟨some 79, _, _, _, _, _⟩ :: _) _ _); refine wpList_load_midG rfl 24 (.tmp 78) rfl w.heap.size 3 rfl (r.dig.map byteV) _ (HR.out.dig HO.out) Tryd.underlying24 rfl HI.out ?_)
                          | ((with_reducible show wpList _ _ _ (⟨some 80, _, _, _, _, _⟩ :: _) _ _); refine wpList_build_asG (o := ⟨some 80, _, _, _, _, _⟩) rfl 24 _ rfl (cells8 zero32) ?_ ?_; kernel_rfl)
                          | ((with_reducible show wpList _ _ _ (⟨some 84, _, _, _, _, _⟩ :: _) _ _); refine wpList_load_rowG rfl 26 (.tmp 1) rfl w.heap.size rfl 26 (refC r) _ HR.out Tryd.underlying26 rfl HIR.out ?_)
                          | (go_at_call 24; ((with_reducible refine (CT _).mono ?_); rintro e wn ⟨rfl, bn⟩); replace HB := Lib.hid (HB.out.trans (bn.mono HB.out.size)); replace HR := Lib.hid (HR.out.below bn); clear c0 c1 c2 c3; obtain ⟨c0, c1, c2, c3⟩ := HR.out.cells HO.out; clear bn))
                    go_ret
                    exact ⟨retInt (by rw [HRes.out]), HB.out⟩
              · rw [hp] at c3 HM
                by_cases ht : r.tag = []
                · rw [decide_eq_true ht] at f3
                  rw [if_pos ht] at HM
                  clear ht
                  cases d12
                  · have HRes := Lib.hid (show checkR r = 0 from check_yes (by rw [HM.out]; rfl))
                    clear HM
                    go_enter Tryd.func16, Tryd.ntmps16
                    go_wp2_with (first
                          | (go_at_call 30; ((with_reducible refine (CD _).mono ?_); rintro e wn ⟨rfl, bn⟩); replace HB := Lib.hid (HB.out.trans (bn.mono HB.out.size)); replace HR := Lib.hid (HR.out.below bn); clear c0 c1 c2 c3; obtain ⟨c0, c1, c2, c3⟩ := HR.out.cells HO.out; clear bn)
                          | (go_at_call 22; ((with_reducible refine (CF _).mono ?_); rintro e wn ⟨rfl, bn⟩); replace HB := Lib.hid (HB.out.trans (bn.mono HB.out.size)); replace HR := Lib.hid (HR.out.below bn); clear c0 c1 c2 c3; obtain ⟨c0, c1, c2, c3⟩ := HR.out.cells HO.out; clear bn)
                          | (go_at_call 31; ((with_reducible refine (CP _).mono ?_); rintro e wn ⟨rfl, bn⟩); replace HB := Lib.hid (HB.out.trans (bn.mono HB.out.size)); replace HR := Lib.hid (HR.out.below bn); clear c0 c1 c2 c3; obtain ⟨c0, c1, c2, c3⟩ := HR.out.cells HO.out; clear bn)
                          | (go_at_call 32; ((with_reducible refine (CO _).mono ?_); rintro e wn ⟨rfl, bn⟩); replace HB := Lib.hid (HB.out.trans (bn.mono HB.out.size)); replace HR := Lib.hid (HR.out.below bn); clear c0 c1 c2 c3; obtain ⟨c0, c1, c2, c3⟩ := HR.out.cells HO.out; clear bn)
                          | (go_at_call 20; ((with_reducible refine (CC _).mono ?_); rintro e wn ⟨an, capn, rfl, on, bn⟩); replace HB := Lib.hid (HB.out.trans (bn.mono HB.out.size)); replace HR := Lib.hid (HR.out.below bn); clear c0 c1 c2 c3; obtain ⟨c0, c1, c2, c3⟩ := HR.out.cells HO.out; clear on bn)
                          | ((with_reducible show wpList _ _ _ (⟨some 79, _, _, _, _, _⟩ :: _) _ _); refine wpList_load_midG rfl 24 (.tmp 78) rfl w.heap.size 3 rfl (r.dig.map byteV) _ (HR.out.dig HO.out) Tryd.underlying24 rfl HI.out ?_)
                          | ((with_reducible show wpList _ _ _ (⟨some 80, _, _, _, _, _⟩ :: _) _ _); refine wpList_build_asG (o := ⟨some 80, _, _, _, _, _⟩) rfl 24 _ rfl (cells8 zero32) ?_ ?_; kernel_rfl)
                          | ((with_reducible show wpList _ _ _ (⟨some 84, _, _, _, _, _⟩ :: _) _ _); refine wpList_load_rowG rfl 26 (.tmp 1) rfl w.heap.size rfl 26 (refC r) _ HR.out Tryd.underlying26 rfl HIR.out ?_)
                          | (go_at_call 24; ((with_reducible refine (CT _).mono ?_); rintro e wn ⟨rfl, bn⟩); replace HB := Lib.hid (HB.out.trans (bn.mono HB.out.size)); replace HR := Lib.hid (HR.out.below bn); clear c0 c1 c2 c3; obtain ⟨c0, c1, c2, c3⟩ := HR.out.cells HO.out; clear bn))
                    go_ret
                    exact ⟨retInt (by rw [HRes.out]), HB.out⟩
                  · have HRes := Lib.hid (show checkR r = 10 from check_no (by rw [HM.out]; rfl))
                    clear HM
                    go_enter Tryd.func16, Tryd.ntmps16
                    go_wp2_with (first
                          | (go_at_call 30; ((with_reducible refine (CD _).mono ?_); rintro e wn ⟨rfl, bn⟩); replace HB := Lib.hid (HB.out.trans (bn.mono HB.out.size)); replace HR := Lib.hid (HR.out.below bn); clear c0 c1 c2 c3; obtain ⟨c0, c1, c2, c3⟩ := HR.out.cells HO.out; clear bn)
                          | (go_at_call 22; ((with_reducible refine (CF _).mono ?_); rintro e wn ⟨rfl, bn⟩); replace HB := Lib.hid (HB.out.trans (bn.mono HB.out.size)); replace HR := Lib.hid (HR.out.below bn); clear c0 c1 c2 c3; obtain ⟨c0, c1, c2, c3⟩ := HR.out.cells HO.out; clear bn)
                          | (go_at_call 31; ((with_reducible refine (CP _).mono ?_); rintro e wn ⟨rfl, bn⟩); replace HB := Lib.hid (HB.out.trans (bn.mono HB.out.size)); replace HR := Lib.hid (HR.out.below bn); clear c0 c1 c2 c3; obtain ⟨c0, c1, c2, c3⟩ := HR.out.cells HO.out; clear bn)
                          | (go_at_call 32; ((with_reducible refine (CO _).mono ?_); rintro e wn ⟨rfl, bn⟩); replace HB := Lib.hid (HB.out.trans (bn.mono HB.out.size)); replace HR := Lib.hid (HR.out.below bn); clear c0 c1 c2 c3; obtain ⟨c0, c1, c2, c3⟩ := HR.out.cells HO.out; clear bn)
                          | (go_at_call 20; ((with_reducible refine (CC _).mono ?_); rintro e wn ⟨an, capn, rfl, on, bn⟩); replace HB := Lib.hid (HB.out.trans (bn.mono HB.out.size)); replace HR := Lib.hid (HR.out.below bn); clear c0 c1 c2 c3; obtain ⟨c0, c1, c2, c3⟩ := HR.out.cells HO.out; clear on bn)
                          | ((with_reducible show wpList _ _ _ (⟨some 79, _, _, _, _, _⟩ :: _) _ _); refine wpList_load_midG rfl 24 (.tmp 78) rfl w.heap.size 3 rfl (r.dig.map byteV) _ (HR.out.dig HO.out) Tryd.underlying24 rfl HI.out ?_)
                          | ((with_reducible show wpList _ _ _ (⟨some 80, _, _, _, _, _⟩ :: _) _ _); refine wpList_build_asG (o := ⟨some 80, _, _, _, _, _⟩) rfl 24 _ rfl (cells8 zero32) ?_ ?_; kernel_rfl)
                          | ((with_reducible show wpList _ _ _ (⟨some 84, _, _, _, _, _⟩ :: _) _ _); refine wpList_load_rowG rfl 26 (.tmp 1) rfl w.heap.size rfl 26 (refC r) _ HR.out Tryd.underlying26 rfl HIR.out ?_)
                          | (go_at_call 24; ((with_reducible refine (CT _).mono ?_); rintro e wn ⟨rfl, bn⟩); replace HB := Lib.hid (HB.out.trans (bn.mono HB.out.size)); replace HR := Lib.hid (HR.out.below bn); clear c0 c1 c2 c3; obtain ⟨c0, c1, c2, c3⟩ := HR.out.cells HO.out; clear bn))
                    go_ret
                    exact ⟨retInt (by rw [HRes.out]), HB.out⟩
                · rw [decide_eq_false ht] at f3
                  rw [if_neg ht] at HM
                  have hpos := List.length_pos_iff.2 ht
                  obtain ⟨i0, i1, i2⟩ := HTC.out hpos
                  clear ht
                  cases d7
                  · cases d8
                    · have HRes := Lib.hid (show checkR r = 10 from check_no (by rw [HM.out]; rfl))
                      clear HM
                      go_enter Tryd.func16, Tryd.ntmps16
                      go_wp2_with (first
                            | (go_at_call 30; ((with_reducible refine (CD _).mono ?_); rintro e wn ⟨rfl, bn⟩); replace HB := Lib.hid (HB.out.trans (bn.mono HB.out.size)); replace HR := Lib.hid (HR.out.below bn); clear c0 c1 c2 c3; obtain ⟨c0, c1, c2, c3⟩ := HR.out.cells HO.out; clear bn)
                            | (go_at_call 22; ((with_reducible refine (CF _).mono ?_); rintro e wn ⟨rfl, bn⟩); replace HB := Lib.hid (HB.out.trans (bn.mono HB.out.size)); replace HR := Lib.hid (HR.out.below bn); clear c0 c1 c2 c3; obtain ⟨c0, c1, c2, c3⟩ := HR.out.cells HO.out; clear bn)
                            | (go_at_call 31; ((with_reducible refine (CP _).mono ?_); rintro e wn ⟨rfl, bn⟩); replace HB := Lib.hid (HB.out.trans (bn.mono HB.out.size)); replace HR := Lib.hid (HR.out.below bn); clear c0 c1 c2 c3; obtain ⟨c0, c1, c2, c3⟩ := HR.out.cells HO.out; clear bn)
                            | (go_at_call 32; ((with_reducible refine (CO _).mono ?_); rintro e wn ⟨rfl, bn⟩); replace HB := Lib.hid (HB.out.trans (bn.mono HB.out.size)); replace HR := Lib.hid (HR.out.below bn); clear c0 c1 c2 c3; obtain ⟨c0, c1, c2, c3⟩ := HR.out.cells HO.out; clear bn)
                            | (go_at_call 20; ((with_reducible refine (CC _).mono ?_); rintro e wn ⟨an, capn, rfl, on, bn⟩); replace HB := Lib.hid (HB.out.trans (bn.mono HB.out.size)); replace HR := Lib.hid (HR.out.below bn); clear c0 c1 c2 c3; obtain ⟨c0, c1, c2, c3⟩ := HR.out.cells HO.out; clear on bn)
                            | ((with_reducible show wpList _ _ _ (⟨some 79, _, _, _, _, _⟩ :: _) _ _); refine wpList_load_midG rfl 24 (.tmp 78) rfl w.heap.size 3 rfl (r.dig.map byteV) _ (HR.out.dig HO.out) Tryd.underlying24 rfl HI.out ?_)
                            | ((with_reducible show wpList _ _ _ (⟨some 80, _, _, _, _, _⟩ :: _) _ _); refine wpList_build_asG (o := ⟨some 80, _, _, _, _, _⟩) rfl 24 _ rfl (cells8 zero32) ?_ ?_; kernel_rfl)
                            | ((with_reducible show wpList _ _ _ (⟨some 84, _, _, _, _, _⟩ :: _) _ _); refine wpList_load_rowG rfl 26 (.tmp 1) rfl w.heap.size rfl 26 (refC r) _ HR.out Tryd.underlying26 rfl HIR.out ?_)
                            | (go_at_call 24; ((with_reducible refine (CT _).mono ?_); rintro e wn ⟨rfl, bn⟩); replace HB := Lib.hid (HB.out.trans (bn.mono HB.out.size)); replace HR := Lib.hid (HR.out.below bn); clear c0 c1 c2 c3; obtain ⟨c0, c1, c2, c3⟩ := HR.out.cells HO.out; clear bn))
                      go_ret
                      exact ⟨retInt (by rw [HRes.out]), HB.out⟩
                    · cases d9
                      · cases d10
                        · cases d12
                          · have HRes := Lib.hid (show checkR r = 0 from check_yes (by rw [HM.out]; rfl))
                            clear HM
                            go_enter Tryd.func16, Tryd.ntmps16
                            go_wp2_with (first
                                  | (go_at_call 30; ((with_reducible refine (CD _).mono ?_); rintro e wn ⟨rfl, bn⟩); replace HB := Lib.hid (HB.out.trans (bn.mono HB.out.size)); replace HR := Lib.hid (HR.out.below bn); clear c0 c1 c2 c3; obtain ⟨c0, c1, c2, c3⟩ := HR.out.cells HO.out; clear bn)
                                  | (go_at_call 22; ((with_reducible refine (CF _).mono ?_); rintro e wn ⟨rfl, bn⟩); replace HB := Lib.hid (HB.out.trans (bn.mono HB.out.size)); replace HR := Lib.hid (HR.out.below bn); clear c0 c1 c2 c3; obtain ⟨c0, c1, c2, c3⟩ := HR.out.cells HO.out; clear bn)
                                  | (go_at_call 31; ((with_reducible refine (CP _).mono ?_); rintro e wn ⟨rfl, bn⟩); replace HB := Lib.hid (HB.out.trans (bn.mono HB.out.size)); replace HR := Lib.hid (HR.out.below bn); clear c0 c1 c2 c3; obtain ⟨c0, c1, c2, c3⟩ := HR.out.cells HO.out; clear bn)
                                  | (go_at_call 32; ((with_reducible refine (CO _).mono ?_); rintro e wn ⟨rfl, bn⟩); replace HB := Lib.hid (HB.out.trans (bn.mono HB.out.size)); replace HR := Lib.hid (HR.out.below bn); clear c0 c1 c2 c3; obtain ⟨c0, c1, c2, c3⟩ := HR.out.cells HO.out; clear bn)
                                  | (go_at_call 20; ((with_reducible refine (CC _).mono ?_); rintro e wn ⟨an, capn, rfl, on, bn⟩); replace HB := Lib.hid (HB.out.trans (bn.mono HB.out.size)); replace HR := Lib.hid (HR.out.below bn); clear c0 c1 c2 c3; obtain ⟨c0, c1, c2, c3⟩ := HR.out.cells HO.out; clear on bn)
                                  | ((with_reducible show wpList _ _ _ (⟨some 79, _, _, _, _, _⟩ :: _) _ _); refine wpList_load_midG rfl 24 (.tmp 78) rfl w.heap.size 3 rfl (r.dig.map byteV) _ (HR.out.dig HO.out) Tryd.underlying24 rfl HI.out ?_)
                                  | ((with_reducible show wpList _ _ _ (⟨some 80, _, _, _, _, _⟩ :: _) _ _); refine wpList_build_asG (o := ⟨some 80, _, _, _, _, _⟩) rfl 24 _ rfl (cells8 zero32) ?_ ?_; kernel_rfl)
                                  | ((with_reducible show wpList _ _ _ (⟨some 84, _, _, _, _, _⟩ :: _) _ _); refine wpList_load_rowG rfl 26 (.tmp 1) rfl w.heap.size rfl 26 (refC r) _ HR.out Tryd.underlying26 rfl HIR.out ?_)
                                  | (go_at_call 24; ((with_reducible refine (CT _).mono ?_); rintro e wn ⟨rfl, bn⟩); replace HB := Lib.hid (HB.out.trans (bn.mono HB.out.size)); replace HR := Lib.hid (HR.out.below bn); clear c0 c1 c2 c3; obtain ⟨c0, c1, c2, c3⟩ := HR.out.cells HO.out; clear bn))
                            go_ret
                            exact ⟨retInt (by rw [HRes.out]), HB.out⟩
                          · have HRes := Lib.hid (show checkR r = 10 from check_no (by rw [HM.out]; rfl))
                            clear HM
                            go_enter Tryd.func16, Tryd.ntmps16
                            go_wp2_with (first
                                  | (go_at_call 30; ((with_reducible refine (CD _).mono ?_); rintro e wn ⟨rfl, bn⟩); replace HB := Lib.hid (HB.out.trans (bn.mono HB.out.size)); replace HR := Lib.hid (HR.out.below bn); clear c0 c1 c2 c3; obtain ⟨c0, c1, c2, c3⟩ := HR.out.cells HO.out; clear bn)
                                  | (go_at_call 22; ((with_reducible refine (CF _).mono ?_); rintro e wn ⟨rfl, bn⟩); replace HB := Lib.hid (HB.out.trans (bn.mono HB.out.size)); replace HR := Lib.hid (HR.out.below bn); clear c0 c1 c2 c3; obtain ⟨c0, c1, c2, c3⟩ := HR.out.cells HO.out; clear bn)
                                  | (go_at_call 31; ((with_reducible refine (CP _).mono ?_); rintro e wn ⟨rfl, bn⟩); replace HB := Lib.hid (HB.out.trans (bn.mono HB.out.size)); replace HR := Lib.hid (HR.out.below bn); clear c0 c1 c2 c3; obtain ⟨c0, c1, c2, c3⟩ := HR.out.cells HO.out; clear bn)
                                  | (go_at_call 32; ((with_reducible refine (CO _).mono ?_); rintro e wn ⟨rfl, bn⟩); replace HB := Lib.hid (HB.out.trans (bn.mono HB.out.size)); replace HR := Lib.hid (HR.out.below bn); clear c0 c1 c2 c3; obtain ⟨c0, c1, c2, c3⟩ := HR.out.cells HO.out; clear bn)
                                  | (go_at_call 20; ((with_reducible refine (CC _).mono ?_); rintro e wn ⟨an, capn, rfl, on, bn⟩); replace HB := Lib.hid (HB.out.trans (bn.mono HB.out.size)); replace HR := Lib.hid (HR.out.below bn); clear c0 c1 c2 c3; obtain ⟨c0, c1, c2, c3⟩ := HR.out.cells HO.out; clear on bn)
                                  | ((with_reducible show wpList _ _ _ (⟨some 79, _, _, _, _, _⟩ :: _) _ _); refine wpList_load_midG rfl 24 (.tmp 78) rfl w.heap.size 3 rfl (r.dig.map byteV) _ (HR.out.dig HO.out) Tryd.underlying24 rfl HI.out ?_)
                                  | ((with_reducible show wpList _ _ _ (⟨some 80, _, _, _, _, _⟩ :: _) _ _); refine wpList_build_asG (o := ⟨some 80, _, _, _, _, _⟩) rfl 24 _ rfl (cells8 zero32) ?_ ?_; kernel_rfl)
                                  | ((with_reducible show wpList _ _ _ (⟨some 84, _, _, _, _, _⟩ :: _) _ _); refine wpList_load_rowG rfl 26 (.tmp 1) rfl w.heap.size rfl 26 (refC r) _ HR.out Tryd.underlying26 rfl HIR.out ?_)
                                  | (go_at_call 24; ((with_reducible refine (CT _).mono ?_); rintro e wn ⟨rfl, bn⟩); replace HB := Lib.hid (HB.out.trans (bn.mono HB.out.size)); replace HR := Lib.hid (HR.out.below bn); clear c0 c1 c2 c3; obtain ⟨c0, c1, c2, c3⟩ := HR.out.cells HO.out; clear bn))
                            go_ret
                            exact ⟨retInt (by rw [HRes.out]), HB.out⟩
                        · have HRes := Lib.hid (show checkR r = 10 from check_no (by rw [HM.out]; rfl))
                          clear HM
                          go_enter Tryd.func16, Tryd.ntmps16
                          go_wp2_with (first
                                | (go_at_call 30; ((with_reducible refine (CD _).mono ?_); rintro e wn ⟨rfl, bn⟩); replace HB := Lib.hid (HB.out.trans (bn.mono HB.out.size)); replace HR := Lib.hid (HR.out.below bn); clear c0 c1 c2 c3; obtain ⟨c0, c1, c2, c3⟩ := HR.out.cells HO.out; clear bn)
                                | (go_at_call 22; ((with_reducible refine (CF _).mono ?_); rintro e wn ⟨rfl, bn⟩); replace HB := Lib.hid (HB.out.trans (bn.mono HB.out.size)); replace HR := Lib.hid (HR.out.below bn); clear c0 c1 c2 c3; obtain ⟨c0, c1, c2, c3⟩ := HR.out.cells HO.out; clear bn)
                                | (go_at_call 31; ((with_reducible refine (CP _).mono ?_); rintro e wn ⟨rfl, bn⟩); replace HB := Lib.hid (HB.out.trans (bn.mono HB.out.size)); replace HR := Lib.hid (HR.out.below bn); clear c0 c1 c2 c3; obtain ⟨c0, c1, c2, c3⟩ := HR.out.cells HO.out; clear bn)
                                | (go_at_call 32; ((with_reducible refine (CO _).mono ?_); rintro e wn ⟨rfl, bn⟩); replace HB := Lib.hid (HB.out.trans (bn.mono HB.out.size)); replace HR := Lib.hid (HR.out.below bn); clear c0 c1 c2 c3; obtain ⟨c0, c1, c2, c3⟩ := HR.out.cells HO.out; clear bn)
                                | (go_at_call 20; ((with_reducible refine (CC _).mono ?_); rintro e wn ⟨an, capn, rfl, on, bn⟩); replace HB := Lib.hid (HB.out.trans (bn.mono HB.out.size)); replace HR := Lib.hid (HR.out.below bn); clear c0 c1 c2 c3; obtain ⟨c0, c1, c2, c3⟩ := HR.out.cells HO.out; clear on bn)
                                | ((with_reducible show wpList _ _ _ (⟨some 79, _, _, _, _, _⟩ :: _) _ _); refine wpList_load_midG rfl 24 (.tmp 78) rfl w.heap.size 3 rfl (r.dig.map byteV) _ (HR.out.dig HO.out) Tryd.underlying24 rfl HI.out ?_)
                                | ((with_reducible show wpList _ _ _ (⟨some 80, _, _, _, _, _⟩ :: _) _ _); refine wpList_build_asG (o := ⟨some 80, _, _, _, _, _⟩) rfl 24 _ rfl (cells8 zero32) ?_ ?_; kernel_rfl)
                                | ((with_reducible show wpList _ _ _ (⟨some 84, _, _, _, _, _⟩ :: _) _ _); refine wpList_load_rowG rfl 26 (.tmp 1) rfl w.heap.size rfl 26 (refC r) _ HR.out Tryd.underlying26 rfl HIR.out ?_)
                                | (go_at_call 24; ((with_reducible refine (CT _).mono ?_); rintro e wn ⟨rfl, bn⟩); replace HB := Lib.hid (HB.out.trans (bn.mono HB.out.size)); replace HR := Lib.hid (HR.out.below bn); clear c0 c1 c2 c3; obtain ⟨c0, c1, c2, c3⟩ := HR.out.cells HO.out; clear bn))
                          go_ret
                          exact ⟨retInt (by rw [HRes.out]), HB.out⟩
                      · have HRes := Lib.hid (show checkR r = 10 from check_no (by rw [HM.out]; rfl))
                        clear HM
                        go_enter Tryd.func16, Tryd.ntmps16
                        go_wp2_with (first
                              | (go_at_call 30; ((with_reducible refine (CD _).mono ?_); rintro e wn ⟨rfl, bn⟩); replace HB := Lib.hid (HB.out.trans (bn.mono HB.out.size)); replace HR := Lib.hid (HR.out.below bn); clear c0 c1 c2 c3; obtain ⟨c0, c1, c2, c3⟩ := HR.out.cells HO.out; clear bn)
                              | (go_at_call 22; ((with_reducible refine (CF _).mono ?_); rintro e wn ⟨rfl, bn⟩); replace HB := Lib.hid (HB.out.trans (bn.mono HB.out.size)); replace HR := Lib.hid (HR.out.below bn); clear c0 c1 c2 c3; obtain ⟨c0, c1, c2, c3⟩ := HR.out.cells HO.out; clear bn)
                              | (go_at_call 31; ((with_reducible refine (CP _).mono ?_); rintro e wn ⟨rfl, bn⟩); replace HB := Lib.hid (HB.out.trans (bn.mono HB.out.size)); replace HR := Lib.hid (HR.out.below bn); clear c0 c1 c2 c3; obtain ⟨c0, c1, c2, c3⟩ := HR.out.cells HO.out; clear bn)
                              | (go_at_call 32; ((with_reducible refine (CO _).mono ?_); rintro e wn ⟨rfl, bn⟩); replace HB := Lib.hid (HB.out.trans (bn.mono HB.out.size)); replace HR := Lib.hid (HR.out.below bn); clear c0 c1 c2 c3; obtain ⟨c0, c1, c2, c3⟩ := HR.out.cells HO.out; clear bn)
                              | (go_at_call 20; ((with_reducible refine (CC _).mono ?_); rintro e wn ⟨an, capn, rfl, on, bn⟩); replace HB := Lib.hid (HB.out.trans (bn.mono HB.out.size)); replace HR := Lib.hid (HR.out.below bn); clear c0 c1 c2 c3; obtain ⟨c0, c1, c2, c3⟩ := HR.out.cells HO.out; clear on bn)
                              | ((with_reducible show wpList _ _ _ (⟨some 79, _, _, _, _, _⟩ :: _) _ _); refine wpList_load_midG rfl 24 (.tmp 78) rfl w.heap.size 3 rfl (r.dig.map byteV) _ (HR.out.dig HO.out) Tryd.underlying24 rfl HI.out ?_)
                              | ((with_reducible show wpList _ _ _ (⟨some 80, _, _, _, _, _⟩ :: _) _ _); refine wpList_build_asG (o := ⟨some 80, _, _, _, _, _⟩) rfl 24 _ rfl (cells8 zero32) ?_ ?_; kernel_rfl)
                              | ((with_reducible show wpList _ _ _ (⟨some 84, _, _, _, _, _⟩ :: _) _ _); refine wpList_load_rowG rfl 26 (.tmp 1) rfl w.heap.size rfl 26 (refC r) _ HR.out Tryd.underlying26 rfl HIR.out ?_)
                              | (go_at_call 24; ((with_reducible refine (CT _).mono ?_); rintro e wn ⟨rfl, bn⟩); replace HB := Lib.hid (HB.out.trans (bn.mono HB.out.size)); replace HR := Lib.hid (HR.out.below bn); clear c0 c1 c2 c3; obtain ⟨c0, c1, c2, c3⟩ := HR.out.cells HO.out; clear bn))
                        go_ret
                        exact ⟨retInt (by rw [HRes.out]), HB.out⟩
                  · have HRes := Lib.hid (show checkR r = 10 from check_no (by rw [HM.out]; rfl))
                    clear HM
                    go_enter Tryd.func16, Tryd.ntmps16
                    go_wp2_with (first
                          | (go_at_call 30; ((with_reducible refine (CD _).mono ?_); rintro e wn ⟨rfl, bn⟩); replace HB := Lib.hid (HB.out.trans (bn.mono HB.out.size)); replace HR := Lib.hid (HR.out.below bn); clear c0 c1 c2 c3; obtain ⟨c0, c1, c2, c3⟩ := HR.out.cells HO.out; clear bn)
                          | (go_at_call 22; ((with_reducible refine (CF _).mono ?_); rintro e wn ⟨rfl, bn⟩); replace HB := Lib.hid (HB.out.trans (bn.mono HB.out.size)); replace HR := Lib.hid (HR.out.below bn); clear c0 c1 c2 c3; obtain ⟨c0, c1, c2, c3⟩ := HR.out.cells HO.out; clear bn)
                          | (go_at_call 31; ((with_reducible refine (CP _).mono ?_); rintro e wn ⟨rfl, bn⟩); replace HB := Lib.hid (HB.out.trans (bn.mono HB.out.size)); replace HR := Lib.hid (HR.out.below bn); clear c0 c1 c2 c3; obtain ⟨c0, c1, c2, c3⟩ := HR.out.cells HO.out; clear bn)
                          | (go_at_call 32; ((with_reducible refine (CO _).mono ?_); rintro e wn ⟨rfl, bn⟩); replace HB := Lib.hid (HB.out.trans (bn.mono HB.out.size)); replace HR := Lib.hid (HR.out.below bn); clear c0 c1 c2 c3; obtain ⟨c0, c1, c2, c3⟩ := HR.out.cells HO.out; clear bn)
                          | (go_at_call 20; ((with_reducible refine (CC _).mono ?_); rintro e wn ⟨an, capn, rfl, on, bn⟩); replace HB := Lib.hid (HB.out.trans (bn.mono HB.out.size)); replace HR := Lib.hid (HR.out.below bn); clear c0 c1 c2 c3; obtain ⟨c0, c1, c2, c3⟩ := HR.out.cells HO.out; clear on bn)
                          | ((with_reducible show wpList _ _ _ (⟨some 79, _, _, _, _, _⟩ :: _) _ _); refine wpList_load_midG rfl 24 (.tmp 78) rfl w.heap.size 3 rfl (r.dig.map byteV) _ (HR.out.dig HO.out) Tryd.underlying24 rfl HI.out ?_)
                          | ((with_reducible show wpList _ _ _ (⟨some 80, _, _, _, _, _⟩ :: _) _ _); refine wpList_build_asG (o := ⟨some 80, _, _, _, _, _⟩) rfl 24 _ rfl (cells8 zero32) ?_ ?_; kernel_rfl)
                          | ((with_reducible show wpList _ _ _ (⟨some 84, _, _, _, _, _⟩ :: _) _ _); refine wpList_load_rowG rfl 26 (.tmp 1) rfl w.heap.size rfl 26 (refC r) _ HR.out Tryd.underlying26 rfl HIR.out ?_)
                          | (go_at_call 24; ((with_reducible refine (CT _).mono ?_); rintro e wn ⟨rfl, bn⟩); replace HB := Lib.hid (HB.out.trans (bn.mono HB.out.size)); replace HR := Lib.hid (HR.out.below bn); clear c0 c1 c2 c3; obtain ⟨c0, c1, c2, c3⟩ := HR.out.cells HO.out; clear bn))
                    go_ret
                    exact ⟨retInt (by rw [HRes.out]), HB.out⟩
            · have HRes := Lib.hid (show checkR r = 10 from check_no (by rw [HM.out]; rfl))
              clear HM
              go_enter Tryd.func16, Tryd.ntmps16
              go_wp2_with (first
                    | (go_at_call 30; ((with_reducible refine (CD _).mono ?_); rintro e wn ⟨rfl, bn⟩); replace HB := Lib.hid (HB.out.trans (bn.mono HB.out.size)); replace HR := Lib.hid (HR.out.below bn); clear c0 c1 c2 c3; obtain ⟨c0, c1, c2, c3⟩ := HR.out.cells HO.out; clear bn)
                    | (go_at_call 22; ((with_reducible refine (CF _).mono ?_); rintro e wn ⟨rfl, bn⟩); replace HB := Lib.hid (HB.out.trans (bn.mono HB.out.size)); replace HR := Lib.hid (HR.out.below bn); clear c0 c1 c2 c3; obtain ⟨c0, c1, c2, c3⟩ := HR.out.cells HO.out; clear bn)
                    | (go_at_call 31; ((with_reducible refine (CP _).mono ?_); rintro e wn ⟨rfl, bn⟩); replace HB := Lib.hid (HB.out.trans (bn.mono HB.out.size)); replace HR := Lib.hid (HR.out.below bn); clear c0 c1 c2 c3; obtain ⟨c0, c1, c2, c3⟩ := HR.out.cells HO.out; clear bn)
                    | (go_at_call 32; ((with_reducible refine (CO _).mono ?_); rintro e wn ⟨rfl, bn⟩); replace HB := Lib.hid (HB.out.trans (bn.mono HB.out.size)); replace HR := Lib.hid (HR.out.below bn); clear c0 c1 c2 c3; obtain ⟨c0, c1, c2, c3⟩ := HR.out.cells HO.out; clear bn)
                    | (go_at_call 20; ((with_reducible refine (CC _).mono ?_); rintro e wn ⟨an, capn, rfl, on, bn⟩); replace HB := Lib.hid (HB.out.trans (bn.mono HB.out.size)); replace HR := Lib.hid (HR.out.below bn); clear c0 c1 c2 c3; obtain ⟨c0, c1, c2, c3⟩ := HR.out.cells HO.out; clear on bn)
                    | ((with_reducible show wpList _ _ _ (⟨some 79, _, _, _, _, _⟩ :: _) _ _); refine wpList_load_midG rfl 24 (.tmp 78) rfl w.heap.size 3 rfl (r.dig.map byteV) _ (HR.out.dig HO.out) Tryd.underlying24 rfl HI.out ?_)
                    | ((with_reducible show wpList _ _ _ (⟨some 80, _, _, _, _, _⟩ :: _) _ _); refine wpList_build_asG (o := ⟨some 80, _, _, _, _, _⟩) rfl 24 _ rfl (cells8 zero32) ?_ ?_; kernel_rfl)
                    | ((with_reducible show wpList _ _ _ (⟨some 84, _, _, _, _, _⟩ :: _) _ _); refine wpList_load_rowG rfl 26 (.tmp 1) rfl w.heap.size rfl 26 (refC r) _ HR.out Tryd.underlying26 rfl HIR.out ?_)
                    | (go_at_call 24; ((with_reducible refine (CT _).mono ?_); rintro e wn ⟨rfl, bn⟩); replace HB := Lib.hid (HB.out.trans (bn.mono HB.out.size)); replace HR := Lib.hid (HR.out.below bn); clear c0 c1 c2 c3; obtain ⟨c0, c1, c2, c3⟩ := HR.out.cells HO.out; clear bn))
              go_ret
              exact ⟨retInt (by rw [HRes.out]), HB.out⟩
      · have HRes := Lib.hid (show checkR r = 10 from check_no (by rw [HM.out]; rfl))
        clear HM
        go_enter Tryd.func16, Tryd.ntmps16
        go_wp2_with (first
              | (go_at_call 30; ((with_reducible refine (CD _).mono ?_); rintro e wn ⟨rfl, bn⟩); replace HB := Lib.hid (HB.out.trans (bn.mono HB.out.size)); replace HR := Lib.hid (HR.out.below bn); clear c0 c1 c2 c3; obtain ⟨c0, c1, c2, c3⟩ := HR.out.cells HO.out; clear bn)
              | (go_at_call 22; ((with_reducible refine (CF _).mono ?_); rintro e wn ⟨rfl, bn⟩); replace HB := Lib.hid (HB.out.trans (bn.mono HB.out.size)); replace HR := Lib.hid (HR.out.below bn); clear c0 c1 c2 c3; obtain ⟨c0, c1, c2, c3⟩ := HR.out.cells HO.out; clear bn)
              | (go_at_call 31; ((with_reducible refine (CP _).mono ?_); rintro e wn ⟨rfl, bn⟩); replace HB := Lib.hid (HB.out.trans (bn.mono HB.out.size)); replace HR := Lib.hid (HR.out.below bn); clear c0 c1 c2 c3; obtain ⟨c0, c1, c2, c3⟩ := HR.out.cells HO.out; clear bn)
              | (go_at_call 32; ((with_reducible refine (CO _).mono ?_); rintro e wn ⟨rfl, bn⟩); replace HB := Lib.hid (HB.out.trans (bn.mono HB.out.size)); replace HR := Lib.hid (HR.out.below bn); clear c0 c1 c2 c3; obtain ⟨c0, c1, c2, c3⟩ := HR.out.cells HO.out; clear bn)
              | (go_at_call 20; ((with_reducible refine (CC _).mono ?_); rintro e wn ⟨an, capn, rfl, on, bn⟩); replace HB := Lib.hid (HB.out.trans (bn.mono HB.out.size)); replace HR := Lib.hid (HR.out.below bn); clear c0 c1 c2 c3; obtain ⟨c0, c1, c2, c3⟩ := HR.out.cells HO.out; clear on bn)
              | ((with_reducible show wpList _ _ _ (⟨some 79, _, _, _, _, _⟩ :: _) _ _); refine wpList_load_midG rfl 24 (.tmp 78) rfl w.heap.size 3 rfl (r.dig.map byteV) _ (HR.out.dig HO.out) Tryd.underlying24 rfl HI.out ?_)
              | ((with_reducible show wpList _ _ _ (⟨some 80, _, _, _, _, _⟩ :: _) _ _); refine wpList_build_asG (o := ⟨some 80, _, _, _, _, _⟩) rfl 24 _ rfl (cells8 zero32) ?_ ?_; kernel_rfl)
              | ((with_reducible show wpList _ _ _ (⟨some 84, _, _, _, _, _⟩ :: _) _ _); refine wpList_load_rowG rfl 26 (.tmp 1) rfl w.heap.size rfl 26 (refC r) _ HR.out Tryd.underlying26 rfl HIR.out ?_)
              | (go_at_call 24; ((with_reducible refine (CT _).mono ?_); rintro e wn ⟨rfl, bn⟩); replace HB := Lib.hid (HB.out.trans (bn.mono HB.out.size)); replace HR := Lib.hid (HR.out.below bn); clear c0 c1 c2 c3; obtain ⟨c0, c1, c2, c3⟩ := HR.out.cells HO.out; clear bn))
        go_ret
        exact ⟨retInt (by rw [HRes.out]), HB.out⟩
    · have HRes := Lib.hid (show checkR r = 10 from check_no (by rw [HM.out]; rfl))
      clear HM
      go_enter Tryd.func16, Tryd.ntmps16
      go_wp2_with (first
            | (go_at_call 30; ((with_reducible refine (CD _).mono ?_); rintro e wn ⟨rfl, bn⟩); replace HB := Lib.hid (HB.out.trans (bn.mono HB.out.size)); replace HR := Lib.hid (HR.out.below bn); clear c0 c1 c2 c3; obtain ⟨c0, c1, c2, c3⟩ := HR.out.cells HO.out; clear bn)
            | (go_at_call 22; ((with_reducible refine (CF _).mono ?_); rintro e wn ⟨rfl, bn⟩); replace HB := Lib.hid (HB.out.trans (bn.mono HB.out.size)); replace HR := Lib.hid (HR.out.below bn); clear c0 c1 c2 c3; obtain ⟨c0, c1, c2, c3⟩ := HR.out.cells HO.out; clear bn)
            | (go_at_call 31; ((with_reducible refine (CP _).mono ?_); rintro e wn ⟨rfl, bn⟩); replace HB := Lib.hid (HB.out.trans (bn.mono HB.out.size)); replace HR := Lib.hid (HR.out.below bn); clear c0 c1 c2 c3; obtain ⟨c0, c1, c2, c3⟩ := HR.out.cells HO.out; clear bn)
            | (go_at_call 32; ((with_reducible refine (CO _).mono ?_); rintro e wn ⟨rfl, bn⟩); replace HB := Lib.hid (HB.out.trans (bn.mono HB.out.size)); replace HR := Lib.hid (HR.out.below bn); clear c0 c1 c2 c3; obtain ⟨c0, c1, c2, c3⟩ := HR.out.cells HO.out; clear bn)
            | (go_at_call 20; ((with_reducible refine (CC _).mono ?_); rintro e wn ⟨an, capn, rfl, on, bn⟩); replace HB := Lib.hid (HB.out.trans (bn.mono HB.out.size)); replace HR := Lib.hid (HR.out.below bn); clear c0 c1 c2 c3; obtain ⟨c0, c1, c2, c3⟩ := HR.out.cells HO.out; clear on bn)
            | ((with_reducible show wpList _ _ _ (⟨some 79, _, _, _, _, _⟩ :: _) _ _); refine wpList_load_midG rfl 24 (.tmp 78) rfl w.heap.size 3 rfl (r.dig.map byteV) _ (HR.out.dig HO.out) Tryd.underlying24 rfl HI.out ?_)
            | ((with_reducible show wpList _ _ _ (⟨some 80, _, _, _, _, _⟩ :: _) _ _); refine wpList_build_asG (o := ⟨some 80, _, _, _, _, _⟩) rfl 24 _ rfl (cells8 zero32) ?_ ?_; kernel_rfl)
            | ((with_reducible show wpList _ _ _ (⟨some 84, _, _, _, _, _⟩ :: _) _ _); refine wpList_load_rowG rfl 26 (.tmp 1) rfl w.heap.size rfl 26 (refC r) _ HR.out Tryd.underlying26 rfl HIR.out ?_)
            | (go_at_call 24; ((with_reducible refine (CT _).mono ?_); rintro e wn ⟨rfl, bn⟩); replace HB := Lib.hid (HB.out.trans (bn.mono HB.out.size)); replace HR := Lib.hid (HR.out.below bn); clear c0 c1 c2 c3; obtain ⟨c0, c1, c2, c3⟩ := HR.out.cells HO.out; clear bn))
      go_ret
      exact ⟨retInt (by rw [HRes.out]), HB.out⟩
end Go.Proofs.YtldbfjcfobdkpaaDoor
