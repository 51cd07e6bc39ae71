/- Layer 17: Of, the program's and the document's. -/
import Derived.Test.YtemnfnmkhfgopaaDoorChB
namespace Go.Proofs.YtemnfnmkhfgopaaDoor
open Go.RowKit
attribute [local go_sem] wide_fn round_fn

theorem dgE_sz : DgE.sz = 32 := rfl
theorem Laid.far {w w' : World} (h : Laid w) (hb : Below w.heap.size w w') : Laid w' := h.below hb h.lt
theorem chains_at {l : List (List UInt8)} {k : Nat} (h : k < l.length) : ∃ x, (chainsL l)[k]? = some x ∧ x = (chainsL l).getD k [] := by
  have : k < (chainsL l).length := by rw [chainsL_length]; exact h
  exact ⟨_, List.getElem?_eq_getElem this, by rw [List.getD_eq_getElem?_getD, List.getElem?_eq_getElem this]; rfl⟩
theorem take_chains {l : List (List UInt8)} {k : Nat} (h : k < l.length) : (chainsL l).take (k + 1) = (chainsL l).take k ++ [(chainsL l).getD k []] := by
  have h2 : k < (chainsL l).length := by rw [chainsL_length]; exact h
  rw [List.take_succ_eq_append_getElem h2, List.getD_eq_getElem?_getD, List.getElem?_eq_getElem h2]; rfl
theorem DgE_one (w : World) (b : Nat) (d : List UInt8) (hd : d.length = 32) (h : rowC w b (cells8 d) 26) : DgE.At w (some ⟨b, 0, none⟩) [d] := Els.At.one (E := DgE) h hd
theorem one_digest {ops : Array Oper} {rest : List Oper} {o : Oper} {a : Act} {w : World} {Q : Exit → Act → World → Prop} (hw : Region.wanted o (yielded ops a.tmps) = true) (x : Operand) (ho : o.op = .buildSlice 22 1 #[(0, x)])
    (d : List UInt8) (hd : d.length = 32) (hx : a.eval x = .agg (cells8 d))
    (h : wpList Tryd.prog ops Q rest (a.put o.dst (.slice (some ⟨w.heap.size, 0, none⟩) 1 1)) (w.alloc (.cells (cells8 d) 26))) : wpList Tryd.prog ops Q (o :: rest) a w :=
  Els.wpList_lit (E := DgE) hw 1 _ ho [d] (fun a ha => by rw [List.mem_singleton.1 ha]; exact hd) rfl (fun d => .agg (cells8 d)) (fun _ _ => rfl) (by simp [hx]) (by decide) (by decide) (by rw [Els.row_one]; exact h)
theorem one_digestIn {n : Nat} {ops : Array Oper} {rest : List Oper} {o : Oper} {a : Act} {w : World} {Q : Exit → Act → World → Prop} (hg : o.guard = none) (x : Operand) (ho : o.op = .buildSlice 22 1 #[(0, x)])
    (d : List UInt8) (hd : d.length = 32) (hx : a.eval x = .agg (cells8 d))
    (h : wpListIn Fence.wide n Tryd.prog ops Q rest (a.put o.dst (.slice (some ⟨w.heap.size, 0, none⟩) 1 1)) (w.alloc (.cells (cells8 d) 26))) : wpListIn Fence.wide n Tryd.prog ops Q (o :: rest) a w :=
  Els.wpListIn_lit (E := DgE) hg 1 _ ho [d] (fun a ha => by rw [List.mem_singleton.1 ha]; exact hd) rfl (fun d => .agg (cells8 d)) (fun _ _ => rfl) (by simp [hx]) (by decide) (by decide) (by rw [Els.row_one]; exact h)
set_option maxRecDepth 100000 in
set_option maxHeartbeats 8000000 in
theorem of_any (l : List (List UInt8)) (x : Option Addr) (c : Nat) (w : World) (L : Laid w) (hn : l.length ≤ 1000000) (h : DgE.At w x l) :
    Calls Tryd.prog 9 #[.slice x l.length c] w fun e w' => ∃ v, e = .returned v ∧ DgE.Own w' w.heap.size v (chainsL l) ∧ Below w.heap.size w w' := by
  have LW := Lib.hid L
  have HA := Lib.hid h
  obtain ⟨N, hN⟩ : ∃ N, N = l.length := ⟨_, rfl⟩
  rw [← hN]
  have HN := Lib.hid hN
  have hn2 : N ≤ 1000000 := by omega
  clear L h hn hN
  go_enter Tryd.func9, Tryd.ntmps9
  go_wp2
  go_loopw [3, 8] (fun v i wr => ∃ k : Nat, k ≤ N ∧ i = .int .i64 k ∧ DgE.Own wr w.heap.size v ((chainsL l).take k) ∧ Below w.heap.size w wr) (fun _ i _ => N - (intOf i).toNat)
  case atStart => exact ⟨0, by omega, rfl, Els.Own.nil _ _, Below.refl _ _⟩
  case round =>
    obtain ⟨k, hk, rfl, ho, hb⟩ := hrel
    have HO := Lib.hid ho
    have HB := Lib.hid hb
    clear ho hb
    by_cases hlt : k < N
    · have hkl : k < l.length := by rw [← HN.out]; exact hlt
      obtain ⟨hd32, ad, hxa, hblk, hcell⟩ := (HA.out.far HB.out (Nat.le_refl _)) k l[k] (List.getElem?_eq_getElem hkl)
      subst hxa
      have HC := Lib.hid hcell
      have hbs := HB.out.size
      have HD : Hid (l.getD k [] = l[k]) := Lib.hid (by rw [List.getD_eq_getElem?_getD, List.getElem?_eq_getElem hkl]; rfl)
      generalize l[k] = d at *
      clear hcell
      have HI := Lib.hid (info_dig32 hd32)
      have HI8 := Lib.hid (info_digest hd32)
      have HD32 := Lib.hid hd32
      clear hd32
      go_upto_region 5 with (first
        | ((with_reducible show wpList _ _ _ (⟨some 12, _, _, _, _, _⟩ :: _) _ _); refine ls_wpList_load rfl 26 _ rfl (ad.add (k * 32)) rfl (d.map byteV) _ HC.out Tryd.underlying26 rfl HI.out ?_)
        | ((with_reducible show wpList _ _ _ (⟨none, _, _, _, _, _⟩ :: _) _ _); refine wpList_store_last rfl 26 _ _ rfl wr.heap.size (cells8 d) rfl rfl 26 _ rfl HI8.out (by rw [cells8_size, HD32.out]; rfl) (cells8_one _) ?_))
      simp only [Act.put]
      have R1 : rowC (wr.alloc (.cells (cells8 d) 26)) wr.heap.size (cells8 d) 26 := rowC_new _ _ _
      have O1 := Lib.hid (HO.out.alloc (.cells (cells8 d) 26))
      have B1 : Hid (Below w.heap.size w (wr.alloc (.cells (cells8 d) 26))) := Lib.hid (HB.out.alloc hbs _)
      have S1 : Hid (wr.heap.size < (wr.alloc (.cells (cells8 d) 26)).heap.size) := Lib.hid (rowC_lt R1)
      have R1' := Lib.hid R1
      have HLT : Hid (∀ q, Value.ownBlock u3 = some q → q < wr.heap.size) := Lib.hid fun q hq => (HO.out.lt q hq).2
      clear R1 HO HC HB hblk
      generalize wr.alloc (.cells (cells8 d) 26) = W1 at *
      obtain ⟨b, hbb⟩ : ∃ b, b = wr.heap.size := ⟨_, rfl⟩
      rw [← hbb] at R1' S1 hbs HLT ⊢
      have HBS := Lib.hid hbs
      clear hbb hbs
      by_cases hk0 : k = 0
      · subst hk0
        have HY : Hid ((chainsL l).getD 0 [] = d) := Lib.hid ((chainsL_zero l).trans HD.out)
        have HTK := Lib.hid (take_chains (l := l) (k := 0) hkl)
        rw [HY.out] at HTK
        have A1 := DgE_one (W1.alloc (.cells (cells8 d) 26)) W1.heap.size d HD32.out (rowC_new _ _ _)
        have O2 := O1.out.alloc (.cells (cells8 d) 26)
        have HQ : Hid (((chainsL l).take 0).length + [d].length ≤ maxLen ∧ (((chainsL l).take 0).length + [d].length) * DgE.bytes ≤ 140737488355328) := Lib.hid ⟨by simp [maxLen], by simp [DgE]⟩
        have B2 := B1.out.alloc B1.out.size (.cells (cells8 d) 26)
        go_wp2_with (first
          | ((with_reducible show wpList _ _ _ (⟨some 23, _, _, _, _, _⟩ :: _) _ _); refine wpList_load_row rfl 26 _ rfl b rfl 26 (cells8 d) (0, 0) _ R1'.out Tryd.underlying26 rfl HI8.out ?_)
          | ((with_reducible show wpList _ _ _ (⟨some 24, _, _, _, _, _⟩ :: _) _ _); refine one_digest rfl _ rfl d HD32.out rfl ?_)
          | ((with_reducible show wpList _ _ _ (⟨some 25, _, _, _, _, _⟩ :: _) _ _); refine Els.wpList_append (E := DgE) rfl _ _ rfl w.heap.size u3 _ rfl O2 _ 1 1 [d] rfl rfl A1 HQ.out.1 HQ.out.2 B2.size ?_; intro v2 w2 o2 g2 b2))
        have hb3 : Below w.heap.size w w2 := B2.grown g2 B2.size (fun j hj => (O2.lt j hj).1)
        go_roundw
        case rel => exact ⟨1, by omega, by go_num, by rw [HTK.out]; exact o2, hb3⟩
        case measure => simp [intOf]; omega
      · obtain ⟨m, rfl⟩ : ∃ m, k = m + 1 := ⟨k - 1, by omega⟩
        have hlen : ((chainsL l).take (m + 1)).length = m + 1 := by rw [List.length_take, chainsL_length]; omega
        obtain ⟨g, cap, hv⟩ := O1.out.some_ (by rw [hlen]; omega)
        rw [hlen] at hv
        subst hv
        have hY : ((chainsL l).take (m + 1))[m]? = some ((chainsL l).getD m []) := by
          rw [List.getElem?_take, if_pos (by omega), List.getElem?_eq_getElem (by rw [chainsL_length]; omega), List.getD_eq_getElem?_getD, List.getElem?_eq_getElem (by rw [chainsL_length]; omega)]; rfl
        obtain ⟨hY32, ad2, e2, _, hcY⟩ := O1.out.at m _ hY
        obtain rfl := Option.some.inj e2
        have hX := chainsL_step l m hkl
        rw [HD.out] at hX
        have HTK := Lib.hid (take_chains (l := l) (k := m + 1) hkl)
        rw [hX] at HTK
        clear hX e2 hY
        generalize (chainsL l).getD m [] = Y at *
        have HIY := Lib.hid (info_dig32 hY32)
        have HGL := Lib.hid (O1.out.lt g rfl)
        have HCY : Hid (∀ y : Afters W1, ∀ j v, (Y.map byteV)[j]? = some v → y.v.cell? ((⟨g, m * 32, none⟩ : Addr).add j) = some v) := Lib.hid fun y j v hv => by
          rw [← ls_add_at g (m * 32), ls_cell_far y.h (by rw [ls_add_blk, ls_add_blk]; exact HGL.out.2)]
          exact hcY j v hv
        have HRB : Hid (∀ y : Afters W1, rowC y.v b (cells8 d) 26) := Lib.hid fun y => rowC_below R1'.out y.h S1.out
        have LB : Hid (Laid W1) := Lib.hid (LW.out.below B1.out LW.out.lt)
        have C1 : ∀ y : Afters W1, CallsIn Fence.wide 3 Tryd.prog 12 #[.agg (cells8 Y), .agg (cells8 d)] y.v fun e w'' => e = .returned (.agg (cells8 (nextL Y d))) ∧ ∃ z : Afters W1, w'' = z.v := fun y =>
          (callsIn_wide.2 (next_any Y d y.v (LB.out.far y.h) hY32 HD32.out)).mono fun e w'' ⟨he, hb⟩ => ⟨he, ⟨w'', y.h.trans (hb.mono y.h.size)⟩, rfl⟩
        have HX32 := Lib.hid (nextL_length Y d)
        have HIX := Lib.hid (info_digest (l := nextL Y d) HX32.out)
        generalize nextL Y d = X at *
        have hm1 : ((m : Int) + 1 - 1) = (m : Int) := by omega
        have HO1 := O1
        have HHL := Lib.hid hlen
        clear hcY hY32 hk0 hlen O1
        go_upto_region 6 with (fail)
        refine (wpIn_wide (n := 4)).1 ?_
        refine region_quiet_tail (C := fun w' => ∃ y : Afters W1, w' = y.v) 7 (by kernel_rfl) (by kernel_rfl) (by kernel_rfl) ⟨⟨W1.drew, (Below.refl _ _).drew⟩, rfl⟩ ?_
        simp only [List.take_succ_cons, List.take_zero, List.drop_succ_cons, List.drop_zero]
        gi_big_quiet_step (fail)
        gi_big_quiet_step (fail)
        gi_big_quiet_step (fail)
        gi_big_quiet_step (fail)
        refine ls_wpQuiet_load (fun _ => trivial) rfl 26 _ rfl ⟨g, m * 32, none⟩ rfl (Y.map byteV) _ (by rintro _ ⟨y, rfl⟩; exact HCY.out y) Tryd.underlying26 rfl HIY.out ?_
        simp only [Act.put, List.setIfInBounds_toArray, List.set_cons_zero, List.set_cons_succ]
        refine ls_wpQuiet_load (fun _ => trivial) rfl 26 _ rfl ⟨b, 0, none⟩ rfl (d.map byteV) _ (by rintro _ ⟨y, rfl⟩; exact dig_at (HRB.out y)) Tryd.underlying26 rfl HI.out ?_
        simp only [Act.put, List.setIfInBounds_toArray, List.set_cons_zero, List.set_cons_succ]
        gi_big_quiet_step ((gi_at_call 12; exact C1 _))
        refine wpQuietIn_nil ?_
        rintro _ ⟨y, rfl⟩
        have r2 := HRB.out y
        have O3 := (HO1.out.below y.h).chg (Chg.setRow (Chg.refl (fun k => k = b) y.v) b (cells8 X) (.inl rfl)) (fun q hq e => by have h1 := HLT.out q hq; have h2 : q = b := e; omega)
        have B3 : Below w.heap.size w (y.v.setRow b (cells8 X)) := below_setRow (B1.out.trans (y.h.mono B1.out.size)) HBS.out _
        have R3 : rowC (y.v.setRow b (cells8 X)) b (cells8 X) 26 := rowC_setRow r2 _
        clear C1 HRB HCY
        refine ls_wpListIn_store_row rfl 26 _ _ rfl b (cells8 X) rfl rfl 26 _ r2 HIX.out (by rw [cells8_size, cells8_size, HD32.out, HX32.out]) (cells8_one _) ?_
        generalize y.v.setRow b (cells8 X) = W3 at *
        gi_wp2
        have A1 := DgE_one (W3.alloc (.cells (cells8 X) 26)) W3.heap.size X HX32.out (rowC_new _ _ _)
        have O2 := O3.alloc (.cells (cells8 X) 26)
        have HQ : Hid (((chainsL l).take (m + 1)).length + [X].length ≤ maxLen ∧ (((chainsL l).take (m + 1)).length + [X].length) * DgE.bytes ≤ 140737488355328) := Lib.hid (by
          rw [HHL.out]; unfold maxLen; simp [DgE]; omega)
        have B2 := B3.alloc B3.size (.cells (cells8 X) 26)
        have HR3 := Lib.hid R3
        clear R3 O3 B3 r2
        go_wp2_with (first
          | ((with_reducible show wpList _ _ _ (⟨some 23, _, _, _, _, _⟩ :: _) _ _); refine wpList_load_row rfl 26 _ rfl b rfl 26 (cells8 X) (0, 0) _ HR3.out Tryd.underlying26 rfl HIX.out ?_)
          | ((with_reducible show wpList _ _ _ (⟨some 24, _, _, _, _, _⟩ :: _) _ _); refine one_digest rfl _ rfl X HX32.out rfl ?_)
          | ((with_reducible show wpList _ _ _ (⟨some 25, _, _, _, _, _⟩ :: _) _ _); refine Els.wpList_append (E := DgE) rfl _ _ rfl w.heap.size (.slice (some ⟨g, 0, none⟩) (m + 1) cap) _ rfl O2 _ 1 1 [X] rfl rfl A1 HQ.out.1 HQ.out.2 B2.size ?_; intro v2 w2 o2 g2 b2))
        have hb3 : Below w.heap.size w w2 := B2.grown g2 B2.size (fun j hj => (O2.lt j hj).1)
        go_roundw
        case rel => exact ⟨m + 1 + 1, by omega, by go_num, by rw [HTK.out]; exact o2, hb3⟩
        case measure => simp [intOf]; omega
    · obtain rfl : k = N := by omega
      have HTK : Hid ((chainsL l).take k = chainsL l) := Lib.hid (List.take_of_length_le (by rw [chainsL_length, ← HN.out]; exact Nat.le_refl _))
      have HO2 := HO.out
      rw [HTK.out] at HO2
      obtain ⟨a, cap, hv⟩ := HO2.form
      have HO3 := Lib.hid HO2
      clear HO HO2 HTK
      subst hv
      go_wp2
      go_ret
      exact ⟨_, rfl, HO3.out, HB.out⟩
end Go.Proofs.YtemnfnmkhfgopaaDoor
