/- Layer 17: the chapter's layers. -/
import Derived.Test.YtemnfnmkhfgopaaDoorChG
namespace Go.Proofs.YtemnfnmkhfgopaaDoor
open Go.RowKit
attribute [local go_sem] wide_fn round_fn

theorem oneD_cells : cells8 oneD = #[.int .u8 1, .int .u8 0, .int .u8 0, .int .u8 0, .int .u8 0, .int .u8 0, .int .u8 0, .int .u8 0, .int .u8 0, .int .u8 0, .int .u8 0, .int .u8 0, .int .u8 0, .int .u8 0, .int .u8 0, .int .u8 0, .int .u8 0, .int .u8 0, .int .u8 0, .int .u8 0, .int .u8 0, .int .u8 0, .int .u8 0, .int .u8 0, .int .u8 0, .int .u8 0, .int .u8 0, .int .u8 0, .int .u8 0, .int .u8 0, .int .u8 0, .int .u8 0] := rfl
theorem two_digests {ops : Array Oper} {rest : List Oper} {o : Oper} {a : Act} {w : World} {Q : Exit → Act → World → Prop} (hw : Region.wanted o (yielded ops a.tmps) = true) (x y : Operand) (ho : o.op = .buildSlice 22 2 #[(0, x), (1, y)])
    (d e : List UInt8) (hd : d.length = 32) (he : e.length = 32) (hx : a.eval x = .agg (cells8 d)) (hy : a.eval y = .agg (cells8 e))
    (h : wpList Tryd.prog ops Q rest (a.put o.dst (.slice (some ⟨w.heap.size, 0, none⟩) 2 2)) (w.alloc (.cells (DgE.row [d, e]).toArray 26))) : wpList Tryd.prog ops Q (o :: rest) a w :=
  Els.wpList_lit (E := DgE) hw 2 _ ho [d, e] (fun a ha => by simp at ha; rcases ha with rfl | rfl <;> assumption) rfl (fun d => .agg (cells8 d)) (fun _ _ => rfl) (by simp [hx, hy]) (by decide) (by decide) h
set_option maxRecDepth 100000 in
set_option maxHeartbeats 8000000 in
theorem chained_any (w : World) (L : Laid w) : Calls Tryd.prog 5 #[] w fun e w' => e = .returned (.bool true) ∧ Below w.heap.size w w' := by
  have h1 : oneD.length = 32 := rfl
  have HN32 := nextL_length oneD oneD
  have HNE := one_next
  have HI := Lib.hid (info_digest (l := oneD) h1)
  have HZ := Lib.hid (info_digest (l := List.replicate 32 0) rfl)
  obtain ⟨W1, hW1⟩ : ∃ W1, W1 = w.alloc (.cells (cells8 oneD) 26) := ⟨_, rfl⟩
  have HW1 := Lib.hid hW1
  have R1 : Hid (rowC W1 w.heap.size (cells8 oneD) 26) := Lib.hid (by rw [hW1]; exact rowC_new _ _ _)
  have B1 : Hid (Below w.heap.size w W1) := Lib.hid (by rw [hW1]; exact (Below.refl _ _).alloc (Nat.le_refl _) _)
  have LW := Lib.hid L
  clear hW1 L
  go_enter Tryd.func5, Tryd.ntmps5
  go_upto_region 2 with (first
    | ((with_reducible show wpList _ _ _ (⟨some 5, _, _, _, _, _⟩ :: _) _ _); refine wpList_build_as rfl 26 _ rfl (cells8 oneD) (by kernel_rfl) ?_)
    | ((with_reducible show wpList _ _ _ (⟨none, _, _, _, _, _⟩ :: _) _ _); refine wpList_store_last rfl 26 _ _ rfl w.heap.size (cells8 oneD) rfl rfl 26 _ rfl HI.out rfl (cells8_one _) ?_))
  simp only [Act.put]
  rw [← HW1.out]
  have L1 : Hid (Laid W1) := Lib.hid (LW.out.below B1.out LW.out.lt)
  have hok : ∀ x ∈ [oneD, oneD], DgE.ok x := fun x hx => by simp at hx; rw [hx]; exact h1
  obtain ⟨W2, hW2⟩ : ∃ W2, W2 = W1.alloc (.cells (DgE.row [oneD, oneD]).toArray 26) := ⟨_, rfl⟩
  have A2 : Hid (DgE.At W2 (some ⟨W1.heap.size, 0, none⟩) [oneD, oneD]) := Lib.hid (by rw [hW2]; exact Els.At.lit (E := DgE) (rowC_new _ _ _) hok)
  have B2 : Hid (Below W1.heap.size W1 W2) := Lib.hid (by rw [hW2]; exact (Below.refl _ _).alloc (Nat.le_refl _) _)
  have L2 : Hid (Laid W2) := Lib.hid (L1.out.below B2.out L1.out.lt)
  have CO := Lib.hid (of_any [oneD, oneD] (some ⟨W1.heap.size, 0, none⟩) 2 W2 L2.out (by decide) A2.out)
  have HW2 := Lib.hid hW2
  clear hW2
  go_upto_region 3 with (first
    | ((with_reducible show wpList _ _ _ (⟨some 6, _, _, _, _, _⟩ :: _) _ _); refine wpList_load_row rfl 26 _ rfl w.heap.size rfl 26 (cells8 oneD) (0, 0) _ R1.out Tryd.underlying26 rfl HI.out ?_)
    | ((with_reducible show wpList _ _ _ (⟨some 7, _, _, _, _, _⟩ :: _) _ _); refine wpList_load_row rfl 26 _ rfl w.heap.size rfl 26 (cells8 oneD) (0, 0) _ R1.out Tryd.underlying26 rfl HI.out ?_)
    | ((with_reducible show wpList _ _ _ (⟨some 8, _, _, _, _, _⟩ :: _) _ _); refine two_digests rfl _ _ rfl oneD oneD h1 h1 rfl rfl ?_; rw [← HW2.out])
    | (go_at_call 9; (refine (CO.out).mono ?_); rintro e w3 ⟨v, rfl, ho, hb⟩))
  have HO := Lib.hid ho
  have HB : Hid (Below W1.heap.size W1 w3) := Lib.hid (B2.out.trans (hb.mono B2.out.size))
  have hl : (chainsL [oneD, oneD]).length = 2 := rfl
  obtain ⟨g, cap, hv⟩ := ho.some_ (by rw [hl]; decide)
  rw [hl] at hv
  subst hv
  have hX : (chainsL [oneD, oneD]) = [oneD, nextL oneD oneD] := rfl
  obtain ⟨X, hXX⟩ : ∃ X, X = nextL oneD oneD := ⟨_, rfl⟩
  have HXN := Lib.hid hXX.symm
  clear ho hb hok CO A2
  rw [hX] at HO
  rw [← hXX] at HO HN32 HNE
  clear hXX
  have HGL := Lib.hid (HO.out.lt g rfl)
  have HR3 : Hid (rowC w3 w.heap.size (cells8 oneD) 26) := Lib.hid (rowC_below R1.out HB.out (rowC_lt R1.out))
  have hc0 : ∀ j v, (oneD.map byteV)[j]? = some v → w3.cell? ((⟨g, 0, none⟩ : Addr).add j) = some v := by
    obtain ⟨_, ad, e, _, h⟩ := HO.out.at 0 oneD rfl
    obtain rfl := Option.some.inj e
    intro j v hv
    have := h j v hv
    rwa [Nat.zero_mul, Addr.add_zero'] at this
  have hc1 : ∀ j v, (X.map byteV)[j]? = some v → w3.cell? ((⟨g, 32, none⟩ : Addr).add j) = some v := by
    obtain ⟨_, ad, e, _, h⟩ := HO.out.at 1 X rfl
    obtain rfl := Option.some.inj e
    intro j v hv
    have := h j v hv
    rw [ls_add_at] at this
    exact this
  have HC0 := Lib.hid hc0
  have HC1 := Lib.hid hc1
  have L3 : Hid (Laid w3) := Lib.hid (L1.out.below HB.out L1.out.lt)
  have CT : Hid (Calls Tryd.prog 7 #[.slice none 0 0] w3 fun e w' => e = .returned (.tuple #[.agg (cells8 (List.replicate 32 0)), .bool false]) ∧ Below w3.heap.size w3 w') := Lib.hid (top_any [] none 0 w3 L3.out (by decide) (Els.At.nil _ _))
  clear hc0 hc1 hX hl
  go_upto_region 4 with (first
    | (go_at_call 7; ((with_reducible refine (CT.out).mono ?_); rintro e w4 ⟨rfl, hb4⟩))
    | ((with_reducible show wpList _ _ _ (⟨none, _, _, _, _, _⟩ :: _) _ _); refine wpList_store_last rfl 26 _ _ rfl w4.heap.size (cells8 (List.replicate 32 0)) rfl rfl 26 _ rfl HZ.out rfl (cells8_one _) ?_))
  generalize hw5 : World.alloc w4 _ = w5
  have HB5 : Hid (Below w3.heap.size w3 w5) := Lib.hid (by rw [← hw5]; exact hb4.alloc hb4.size _)
  clear hb4 CT hw5
  have HCA0 : Hid (∀ w', (∃ y : Afters w5, w' = y.v) → ∀ j v, (oneD.map byteV)[j]? = some v → w'.cell? ((⟨g, 0, none⟩ : Addr).add j) = some v) := Lib.hid fun w' ⟨y, hy⟩ j v hv => by
    subst hy
    rw [ls_cell_far (HB5.out.trans (y.h.mono HB5.out.size)) (by rw [ls_add_blk]; exact HGL.out.2)]
    exact HC0.out j v hv
  have HCA1 : Hid (∀ w', (∃ y : Afters w5, w' = y.v) → ∀ j v, (X.map byteV)[j]? = some v → w'.cell? ((⟨g, 32, none⟩ : Addr).add j) = some v) := Lib.hid fun w' ⟨y, hy⟩ j v hv => by
    subst hy
    rw [ls_cell_far (HB5.out.trans (y.h.mono HB5.out.size)) (by rw [ls_add_blk]; exact HGL.out.2)]
    exact HC1.out j v hv
  have HRA : Hid (∀ w', (∃ y : Afters w5, w' = y.v) → ∀ j v, (oneD.map byteV)[j]? = some v → w'.cell? ((⟨w.heap.size, 0, none⟩ : Addr).add j) = some v) := Lib.hid fun w' ⟨y, hy⟩ => by
    subst hy
    exact dig_at (rowC_below HR3.out (HB5.out.trans (y.h.mono HB5.out.size)) (rowC_lt HR3.out))
  have L5 : Hid (Laid w5) := Lib.hid (L3.out.far HB5.out)
  have CN : ∀ y : Afters w5, CallsIn Fence.wide 3 Tryd.prog 12 #[.agg (cells8 oneD), .agg (cells8 oneD)] y.v fun e w'' => e = .returned (.agg (cells8 X)) ∧ ∃ z : Afters w5, w'' = z.v := fun y =>
    (callsIn_wide.2 (next_any oneD oneD y.v (L5.out.far y.h) h1 h1)).mono fun e w'' ⟨he, hb⟩ => ⟨by rw [he, HXN.out], ⟨w'', y.h.trans (hb.mono y.h.size)⟩, rfl⟩
  have CE : ∀ y : Afters w5, CallsIn Fence.wide 3 Tryd.prog 9 #[.slice none 0 0] y.v fun e w'' => e = .returned (.slice none 0 0) ∧ ∃ z : Afters w5, w'' = z.v := fun y =>
    (callsIn_wide.2 (of_nil y.v)).mono fun e w'' ⟨he, hb⟩ => ⟨he, y, hb.symm⟩
  have q1 : ∀ w, (Op.equalIn 10000 26 (.agg (oneD.map byteV).toArray) (.agg (oneD.map byteV).toArray)).run Tryd.prog w = .ok true w := fun w => (eq_digest w 9998 h1 h1).trans (by rw [decide_eq_true rfl])
  have q2 : ∀ w, (Op.equalIn 10000 26 (.agg (X.map byteV).toArray) (.agg (oneD.map byteV).toArray)).run Tryd.prog w = .ok false w := fun w => (eq_digest w 9998 HN32 h1).trans (by rw [decide_eq_false HNE])
  have q3 : ∀ w, (Op.equalIn 10000 26 (.agg (X.map byteV).toArray) (.agg (cells8 X))).run Tryd.prog w = .ok true w := fun w => (eq_digest w 9998 HN32 HN32).trans (by rw [decide_eq_true rfl])
  have gd := guard_digest
  have HIL := Lib.hid (info_dig32 h1)
  have HIX := Lib.hid (info_dig32 HN32)
  have HE : Hid (Below w.heap.size w w5) := Lib.hid (B1.out.trans ((HB.out.trans (HB5.out.mono HB.out.size)).mono B1.out.size))
  clear HN32 HNE h1
  refine (wpIn_wide (n := 4)).1 ?_
  refine region_quiet (C := fun w' => ∃ y : Afters w5, w' = y.v) (by kernel_rfl) (by kernel_rfl) (by kernel_rfl) ⟨⟨w5.drew, (Below.refl _ _).drew⟩, rfl⟩ ?_
  iterate 3 gi_big_quiet_step (fail)
  gi_big_quiet_step ((gi_at_call 9; exact CE _))
  iterate 11 gi_big_quiet_step (fail)
  refine ls_wpQuiet_load (fun _ => trivial) rfl 26 _ rfl ⟨g, 0, none⟩ rfl (oneD.map byteV) _ HCA0.out Tryd.underlying26 rfl HIL.out ?_
  simp only [Act.put, List.setIfInBounds_toArray, List.set_cons_zero, List.set_cons_succ]
  refine ls_wpQuiet_load (fun _ => trivial) rfl 26 _ rfl ⟨w.heap.size, 0, none⟩ rfl (oneD.map byteV) _ HRA.out Tryd.underlying26 rfl HIL.out ?_
  simp only [Act.put, List.setIfInBounds_toArray, List.set_cons_zero, List.set_cons_succ]
  iterate 5 gi_big_quiet_step (fail)
  refine ls_wpQuiet_load (fun _ => trivial) rfl 26 _ rfl ⟨g, 32, none⟩ rfl (X.map byteV) _ HCA1.out Tryd.underlying26 rfl HIX.out ?_
  simp only [Act.put, List.setIfInBounds_toArray, List.set_cons_zero, List.set_cons_succ]
  refine ls_wpQuiet_load (fun _ => trivial) rfl 26 _ rfl ⟨w.heap.size, 0, none⟩ rfl (oneD.map byteV) _ HRA.out Tryd.underlying26 rfl HIL.out ?_
  simp only [Act.put, List.setIfInBounds_toArray, List.set_cons_zero, List.set_cons_succ]
  iterate 5 gi_big_quiet_step (fail)
  refine ls_wpQuiet_load (fun _ => trivial) rfl 26 _ rfl ⟨g, 32, none⟩ rfl (X.map byteV) _ HCA1.out Tryd.underlying26 rfl HIX.out ?_
  simp only [Act.put, List.setIfInBounds_toArray, List.set_cons_zero, List.set_cons_succ]
  refine ls_wpQuiet_load (fun _ => trivial) rfl 26 _ rfl ⟨w.heap.size, 0, none⟩ rfl (oneD.map byteV) _ HRA.out Tryd.underlying26 rfl HIL.out ?_
  simp only [Act.put, List.setIfInBounds_toArray, List.set_cons_zero, List.set_cons_succ]
  refine ls_wpQuiet_load (fun _ => trivial) rfl 26 _ rfl ⟨w.heap.size, 0, none⟩ rfl (oneD.map byteV) _ HRA.out Tryd.underlying26 rfl HIL.out ?_
  simp only [Act.put, List.setIfInBounds_toArray, List.set_cons_zero, List.set_cons_succ]
  gi_big_quiet_step ((gi_at_call 12; exact CN _))
  iterate 3 gi_big_quiet_step (fail)
  refine wpQuietIn_nil ?_
  rintro _ ⟨y, rfl⟩
  have HE2 : Hid (Below w.heap.size w y.v) := Lib.hid (HE.out.trans (y.h.mono HE.out.size))
  clear CN CE q1 q2 q3 gd HCA0 HCA1 HRA
  gi_wp2
  go_wp2
  go_ret
  exact ⟨rfl, HE2.out⟩
end Go.Proofs.YtemnfnmkhfgopaaDoor
