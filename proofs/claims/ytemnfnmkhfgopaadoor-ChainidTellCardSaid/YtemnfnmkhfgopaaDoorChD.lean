/- Layer 17: the document's Of. -/
import Derived.Test.YtemnfnmkhfgopaaDoorChC
namespace Go.Proofs.YtemnfnmkhfgopaaDoor
open Go.RowKit
attribute [local go_sem] wide_fn round_fn

set_option maxRecDepth 100000 in
set_option maxHeartbeats 8000000 in
theorem rof_any (l : List (List UInt8)) (x : Option Addr) (c : Nat) (w : World) (hn : l.length ≤ 1000000) (h : DgE.At w x l) :
    Calls Tryd.prog 6 #[.slice x l.length c] w fun e w' => ∃ v, e = .returned v ∧ DgE.Own w' w.heap.size v (chainsL l) ∧ Below w.heap.size w w' := by
  have HA := Lib.hid h
  obtain ⟨N, hN⟩ : ∃ N, N = l.length := ⟨_, rfl⟩
  rw [← hN]
  have HN := Lib.hid hN
  have hn2 : N ≤ 1000000 := by omega
  clear h hn hN
  go_enter Tryd.func6, Tryd.ntmps6
  go_wp2
  go_loopw [3, 4] (fun v i wr => ∃ k : Nat, k ≤ N ∧ i = .int .i64 k ∧ DgE.Own wr w.heap.size v ((chainsL l).take k) ∧ Below w.heap.size w wr) (fun _ i _ => N - (intOf i).toNat)
  case atStart => exact ⟨0, by omega, rfl, Els.Own.nil _ _, Below.refl _ _⟩
  case round =>
    obtain ⟨k, hk, rfl, ho, hb⟩ := hrel
    have HO := Lib.hid ho
    have HB := Lib.hid hb
    clear ho hb
    by_cases hlt : k < N
    · have hkl : k < l.length := by rw [← HN.out]; exact hlt
      obtain ⟨hd32, ad, hxa, hblk, hcell⟩ := (HA.out.far HB.out (Nat.le_refl _)) k l[k] (List.getElem?_eq_getElem hkl)
      subst hxa
      have HC := Lib.hid hcell
      have HD : Hid (l.getD k [] = l[k]) := Lib.hid (by rw [List.getD_eq_getElem?_getD, List.getElem?_eq_getElem hkl]; rfl)
      generalize l[k] = d at *
      clear hcell
      have HI := Lib.hid (info_dig32 hd32)
      have HI8 := Lib.hid (info_digest hd32)
      have HD32 := Lib.hid hd32
      clear hd32
      by_cases hk0 : k = 0
      · subst hk0
        have HY : Hid ((chainsL l).getD 0 [] = d) := Lib.hid ((chainsL_zero l).trans HD.out)
        have HTK := Lib.hid (take_chains (l := l) (k := 0) hkl)
        rw [HY.out] at HTK
        have A1 := DgE_one (wr.alloc (.cells (cells8 d) 26)) wr.heap.size d HD32.out (rowC_new _ _ _)
        have O2 := HO.out.alloc (.cells (cells8 d) 26)
        have HQ : Hid (((chainsL l).take 0).length + [d].length ≤ maxLen ∧ (((chainsL l).take 0).length + [d].length) * DgE.bytes ≤ 140737488355328) := Lib.hid ⟨by simp [maxLen], by simp [DgE]⟩
        have B2 := HB.out.alloc HB.out.size (.cells (cells8 d) 26)
        have HCC : Hid (∀ j v, (d.map byteV)[j]? = some v → wr.cell? (ad.add j) = some v) := Lib.hid fun j v hv => by
          have := HC.out j v hv
          rwa [Nat.zero_mul, Addr.add_zero'] at this
        go_wp2_with (first
          | ((with_reducible show wpList _ _ _ (⟨some 16, _, _, _, _, _⟩ :: _) _ _); refine ls_wpList_load rfl 26 _ rfl ad rfl (d.map byteV) _ HCC.out Tryd.underlying26 rfl HI.out ?_)
          | ((with_reducible show wpList _ _ _ (⟨some 17, _, _, _, _, _⟩ :: _) _ _); refine one_digest rfl _ rfl d HD32.out rfl ?_)
          | ((with_reducible show wpList _ _ _ (⟨some 18, _, _, _, _, _⟩ :: _) _ _); refine Els.wpList_append (E := DgE) rfl _ _ rfl w.heap.size u3 _ rfl O2 _ 1 1 [d] rfl rfl A1 HQ.out.1 HQ.out.2 B2.size ?_; intro v2 w2 o2 g2 b2))
        have hb3 : Below w.heap.size w w2 := B2.grown g2 B2.size (fun j hj => (O2.lt j hj).1)
        go_roundw
        case rel => exact ⟨1, by omega, by go_num, by rw [HTK.out]; exact o2, hb3⟩
        case measure => simp [intOf]; omega
      · obtain ⟨m, rfl⟩ : ∃ m, k = m + 1 := ⟨k - 1, by omega⟩
        have hlen : ((chainsL l).take (m + 1)).length = m + 1 := by rw [List.length_take, chainsL_length]; omega
        obtain ⟨g, cap, hv⟩ := HO.out.some_ (by rw [hlen]; omega)
        rw [hlen] at hv
        subst hv
        have hY : ((chainsL l).take (m + 1))[m]? = some ((chainsL l).getD m []) := by
          rw [List.getElem?_take, if_pos (by omega), List.getElem?_eq_getElem (by rw [chainsL_length]; omega), List.getD_eq_getElem?_getD, List.getElem?_eq_getElem (by rw [chainsL_length]; omega)]; rfl
        obtain ⟨hY32, ad2, e2, _, hcY⟩ := HO.out.at m _ hY
        obtain rfl := Option.some.inj e2
        have hX := chainsL_step l m hkl
        rw [HD.out] at hX
        have HTK := Lib.hid (take_chains (l := l) (k := m + 1) hkl)
        rw [hX] at HTK
        clear hX e2 hY
        generalize (chainsL l).getD m [] = Y at *
        have HIY := Lib.hid (info_dig32 hY32)
        have HGL := Lib.hid (HO.out.lt g rfl)
        have HCY : Hid (∀ y : Afters wr, ∀ j v, (Y.map byteV)[j]? = some v → y.v.cell? ((⟨g, m * 32, none⟩ : Addr).add j) = some v) := Lib.hid fun y j v hv => by
          rw [← ls_add_at g (m * 32), ls_cell_far y.h (by rw [ls_add_blk, ls_add_blk]; exact HGL.out.2)]
          exact hcY j v hv
        have HCD : Hid (∀ y : Afters wr, ∀ j v, (d.map byteV)[j]? = some v → y.v.cell? ((ad.add ((m + 1) * 32)).add j) = some v) := Lib.hid fun y j v hv => by
          rw [ls_cell_far y.h (by rw [ls_add_blk, ls_add_blk]; exact hblk)]
          exact HC.out j v hv
        have C1 : ∀ y : Afters wr, CallsIn Fence.wide 3 Tryd.prog 13 #[.agg (cells8 Y), .agg (cells8 d)] y.v fun e w'' => e = .returned (.agg (cells8 (nextL Y d))) ∧ ∃ z : Afters wr, w'' = z.v := fun y =>
          (callsIn_wide.2 (rnext_any Y d y.v hY32 HD32.out)).mono fun e w'' ⟨he, hb⟩ => ⟨he, ⟨w'', y.h.trans (hb.mono y.h.size)⟩, rfl⟩
        have HX32 := Lib.hid (nextL_length Y d)
        have HIX := Lib.hid (info_digest (l := nextL Y d) HX32.out)
        generalize nextL Y d = X at *
        have hm1 : ((m : Int) + 1 - 1) = (m : Int) := by omega
        have hkz : (((m + 1 : Nat) : Int) == 0) = false := beq_eq_false_iff_ne.2 (by omega)
        have HHL := Lib.hid hlen
        clear hcY hY32 hk0 hlen
        go_upto_region 7 with (fail)
        have HQ : Hid (((chainsL l).take (m + 1)).length + [X].length ≤ maxLen ∧ (((chainsL l).take (m + 1)).length + [X].length) * DgE.bytes ≤ 140737488355328) := Lib.hid (by
          rw [HHL.out]; unfold maxLen; simp [DgE]; omega)
        refine (wpIn_wide (n := 4)).1 ?_
        refine wpIn_region_any (by kernel_rfl) ?_
        refine wpAnyIn_take (i := 0) (oi := ⟨some 19, _, _, _, _, _⟩) (v := .slice (some ⟨g, 0, none⟩) (m + 1) cap) rfl rfl (by kernel_rfl) (by kernel_rfl) (by kernel_rfl) (fun _ _ _ h => h) ⟨.inl ⟨rfl, fun w => by go_simp⟩, fun w => rfl⟩ ?_
        simp only [Act.put, List.setIfInBounds_toArray, List.set_cons_zero, List.set_cons_succ]
        refine quiet_tailL (C := fun w' => ∃ y : Afters wr, w' = y.v) [1, 2, 3, 4, 5, 6, 7, 8, 9, 10] 11 (by kernel_rfl) rfl (by kernel_rfl) ⟨⟨wr.drew, (Below.refl _ _).drew⟩, rfl⟩ ?_
        simp only [pickOps, List.map_cons, List.map_nil, List.getD_cons_succ, List.getD_cons_zero, List.drop_succ_cons, List.drop_zero]
        iterate 4 gi_big_quiet_step (fail)
        refine ls_wpQuiet_load (fun _ => trivial) rfl 26 _ rfl ⟨g, m * 32, none⟩ rfl (Y.map byteV) _ (by rintro _ ⟨y, rfl⟩; exact HCY.out y) Tryd.underlying26 rfl HIY.out ?_
        simp only [Act.put, List.setIfInBounds_toArray, List.set_cons_zero, List.set_cons_succ]
        iterate 3 gi_big_quiet_step (fail)
        refine ls_wpQuiet_load (fun _ => trivial) rfl 26 _ rfl (ad.add ((m + 1) * 32)) rfl (d.map byteV) _ (by rintro _ ⟨y, rfl⟩; exact HCD.out y) Tryd.underlying26 rfl HI.out ?_
        simp only [Act.put, List.setIfInBounds_toArray, List.set_cons_zero, List.set_cons_succ]
        gi_big_quiet_step ((gi_at_call 13; exact C1 _))
        refine wpQuietIn_nil ?_
        rintro _ ⟨y, rfl⟩
        have O2 := (HO.out.below y.h).alloc (.cells (cells8 X) 26)
        have B2 : Below w.heap.size w (y.v.alloc (.cells (cells8 X) 26)) := (HB.out.trans (y.h.mono HB.out.size)).alloc (Nat.le_trans HB.out.size y.h.size) _
        have A1 := DgE_one (y.v.alloc (.cells (cells8 X) 26)) y.v.heap.size X HX32.out (rowC_new _ _ _)
        clear C1 HCD HCY
        generalize y.v = W1 at *
        refine one_digestIn rfl _ rfl X HX32.out rfl ?_
        refine Els.wpListIn_append (E := DgE) rfl _ _ rfl w.heap.size (.slice (some ⟨g, 0, none⟩) (m + 1) cap) _ rfl O2 _ 1 1 [X] rfl rfl A1 HQ.out.1 HQ.out.2 B2.size ?_
        intro v2 w2 o2 g2 b2
        have hb3 : Below w.heap.size w w2 := B2.grown g2 B2.size (fun j hj => (O2.lt j hj).1)
        simp only [Act.put, List.setIfInBounds_toArray, List.set_cons_zero, List.set_cons_succ]
        gi_wp2
        go_wp2
        go_roundw
        case rel => exact ⟨m + 1 + 1, by omega, by go_num, by rw [HTK.out]; exact o2, hb3⟩
        case measure => simp [intOf]; omega
    · obtain rfl : k = N := by omega
      have HTK : Hid ((chainsL l).take k = chainsL l) := Lib.hid (List.take_of_length_le (by rw [chainsL_length, ← HN.out]; exact Nat.le_refl _))
      have HO2 := HO.out
      rw [HTK.out] at HO2
      obtain ⟨a, cap, hv⟩ := HO2.form
      have HO3 := Lib.hid HO2
      clear HO HO2 HTK
      subst hv
      go_wp2
      go_ret
      exact ⟨_, rfl, HO3.out, HB.out⟩
end Go.Proofs.YtemnfnmkhfgopaaDoor
