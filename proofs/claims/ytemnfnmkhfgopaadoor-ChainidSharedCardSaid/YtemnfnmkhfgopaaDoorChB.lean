/- Layer 17: Next, the program's and the document's. -/
import Derived.Test.YtemnfnmkhfgopaaDoorChM
import Derived.Test.YtemnfnmkhfgopaaDoorChA
import Derived.Test.YtemnfnmkhfgopaaDoorDyB
import Derived.Test.YtemnfnmkhfgopaaDoorSbL
namespace Go.Proofs.YtemnfnmkhfgopaaDoor
open Go.RowKit
attribute [local go_sem] wide_fn round_fn

theorem next_text (p d : List UInt8) : str (textL p) ++ (⟨#[32]⟩ : ByteArray) ++ str (textL d) = str (textL p ++ 32 :: textL d) := by
  rw [show (⟨#[32]⟩ : ByteArray) = str [32] from rfl, str_append, str_append]
  simp
theorem text_len {l : List UInt8} (h : l.length = 32) : (textL l).length = 71 := by rw [textL_length, h]
/-- What is there of the blocks of the boxes, and of the digest that is told. -/
structure NxM (w : World) (p d : List UInt8) (W : World) : Prop where
  r0 : rowC W w.heap.size (cells8 p) 26
  r1 : rowC W (w.heap.size + 1) (cells8 d) 26
  r2 : rowC W (w.heap.size + 2) (cells8 (List.replicate 32 0)) 26
  b : Below w.heap.size w W
theorem NxM.lt {w W : World} {p d : List UInt8} (h : NxM w p d W) : w.heap.size + 3 ≤ W.heap.size := rowC_lt h.r2
theorem NxM.start (w : World) (p d : List UInt8) : NxM w p d (((w.alloc (.cells (cells8 p) 26)).alloc (.cells (cells8 d) 26)).alloc (.cells (cells8 (List.replicate 32 0)) 26)) := by
  have h1 := rowC_new (w.alloc (.cells (cells8 p) 26)) (cells8 d) 26
  have h2 := rowC_new ((w.alloc (.cells (cells8 p) 26)).alloc (.cells (cells8 d) 26)) (cells8 (List.replicate 32 0)) 26
  simp only [size_alloc] at h1 h2
  exact ⟨rowC_alloc (rowC_alloc (rowC_new w _ _) _) _, rowC_alloc h1 _, h2, (((Below.refl _ _).alloc (Nat.le_refl _) _).alloc (by rw [size_alloc]; omega) _).alloc (by simp only [size_alloc]; omega) _⟩
theorem NxM.below {w W W' : World} {p d : List UInt8} (h : NxM w p d W) (hb : Below W.heap.size W W') : NxM w p d W' := by
  have := h.lt
  exact ⟨rowC_below h.r0 hb (by omega), rowC_below h.r1 hb (by omega), rowC_below h.r2 hb (by omega), h.b.trans (hb.mono (by omega))⟩
theorem NxM.grown {w W W' : World} {p d : List UInt8} {q : Nat} (h : NxM w p d W) (hg : W.grownBy W' (some q)) (hq : w.heap.size + 3 ≤ q) : NxM w p d W' := by
  have := h.lt
  exact ⟨(hg.block _ (by omega) (by simp; omega)).trans h.r0, (hg.block _ (by omega) (by simp; omega)).trans h.r1, (hg.block _ (by omega) (by simp; omega)).trans h.r2, h.b.grown hg (by omega) (fun k hk => by simp at hk; omega)⟩
theorem dig_at {w : World} {b : Nat} {l : List UInt8} {t : TypeId} (h : rowC w b (cells8 l) t) : ∀ j v, (l.map byteV)[j]? = some v → w.cell? ((⟨b, 0, none⟩ : Addr).add j) = some v := fun j v hv => by
  rw [ls_add_at, rowC_cell h]
  simpa [cells8] using hv

set_option maxRecDepth 100000 in
set_option maxHeartbeats 4000000 in
theorem rnext_any (p d : List UInt8) (w : World) (hp : p.length = 32) (hd : d.length = 32) :
    Calls Tryd.prog 13 #[.agg (cells8 p), .agg (cells8 d)] w fun e w' => e = .returned (.agg (cells8 (nextL p d))) ∧ Below w.heap.size w w' := by
  have CP := fun w => rtext_any p w hp
  have CD := fun w => rtext_any d w hd
  have zp : (str (textL p)).size = 71 := by rw [str_size, text_len hp]
  have zd : (str (textL d)).size = 71 := by rw [str_size, text_len hd]
  have HT := Lib.hid (next_text p d)
  have zt : (str (textL p ++ 32 :: textL d)).size = 143 := by rw [str_size, List.length_append, List.length_cons, text_len hp, text_len hd]
  have CO := fun w => sha_rof_any (str (textL p ++ 32 :: textL d)) w (by rw [zt]; decide)
  rw [str_toList] at CO
  obtain ⟨X, hX⟩ : ∃ X, X = hashL (textL p ++ 32 :: textL d) := ⟨_, rfl⟩
  have HX := Lib.hid (show nextL p d = X from hX.symm)
  have HXL : Hid (X.length = 32) := Lib.hid (by rw [hX]; exact hashL_length _)
  rw [← hX] at CO
  clear hX
  have HIP := Lib.hid (info_dig32 hp)
  have HID := Lib.hid (info_dig32 hd)
  have HI0 := Lib.hid (info_digest (l := X) HXL.out)
  obtain ⟨W0, hW0⟩ : ∃ W0, W0 = (((w.alloc (.cells (cells8 p) 26)).alloc (.cells (cells8 d) 26)).alloc (.cells #[Value.int IntKind.u8 0, Value.int IntKind.u8 0, Value.int IntKind.u8 0, Value.int IntKind.u8 0, Value.int IntKind.u8 0, Value.int IntKind.u8 0, Value.int IntKind.u8 0, Value.int IntKind.u8 0, Value.int IntKind.u8 0, Value.int IntKind.u8 0, Value.int IntKind.u8 0, Value.int IntKind.u8 0, Value.int IntKind.u8 0, Value.int IntKind.u8 0, Value.int IntKind.u8 0, Value.int IntKind.u8 0, Value.int IntKind.u8 0, Value.int IntKind.u8 0, Value.int IntKind.u8 0, Value.int IntKind.u8 0, Value.int IntKind.u8 0, Value.int IntKind.u8 0, Value.int IntKind.u8 0, Value.int IntKind.u8 0, Value.int IntKind.u8 0, Value.int IntKind.u8 0, Value.int IntKind.u8 0, Value.int IntKind.u8 0, Value.int IntKind.u8 0, Value.int IntKind.u8 0, Value.int IntKind.u8 0, Value.int IntKind.u8 0] 26)) := ⟨_, rfl⟩
  have M0 : Hid (NxM w p d W0) := Lib.hid (by rw [hW0]; exact NxM.start w p d)
  have HW0 := Lib.hid hW0
  clear hW0
  rw [HX.out]
  go_enter Tryd.func13, Tryd.ntmps13
  go_upto_region 1 with (fail)
  rw [← HW0.out]
  have C1 : ∀ y : Afters W0, CallsIn Fence.wide 3 Tryd.prog 19 #[.agg (cells8 p)] y.v fun e w'' => e = .returned (.string (str (textL p))) ∧ ∃ z : Afters W0, w'' = z.v := fun y =>
    (callsIn_wide.2 (CP y.v)).mono fun e w'' ⟨he, hb⟩ => ⟨he, ⟨w'', y.h.trans (hb.mono y.h.size)⟩, rfl⟩
  have C2 : ∀ y : Afters W0, CallsIn Fence.wide 3 Tryd.prog 19 #[.agg (cells8 d)] y.v fun e w'' => e = .returned (.string (str (textL d))) ∧ ∃ z : Afters W0, w'' = z.v := fun y =>
    (callsIn_wide.2 (CD y.v)).mono fun e w'' ⟨he, hb⟩ => ⟨he, ⟨w'', y.h.trans (hb.mono y.h.size)⟩, rfl⟩
  have C3 : ∀ y : Afters W0, CallsIn Fence.wide 3 Tryd.prog 18 #[.string (str (textL p ++ 32 :: textL d))] y.v fun e w'' => e = .returned (.agg (cells8 X)) ∧ ∃ z : Afters W0, w'' = z.v := fun y =>
    (callsIn_wide.2 (CO y.v)).mono fun e w'' ⟨he, hb⟩ => ⟨he, ⟨w'', y.h.trans (hb.mono y.h.size)⟩, rfl⟩
  have HR0 : Hid (∀ y : Afters W0, NxM w p d y.v) := Lib.hid fun y => M0.out.below y.h
  clear CP CD CO
  generalize str (textL p) = TP at *
  generalize str (textL d) = TD at *
  refine (wpIn_wide (n := 4)).1 ?_
  refine region_quiet_tail (C := fun w' => ∃ y : Afters W0, w' = y.v) 7 (by kernel_rfl) (by kernel_rfl) (by kernel_rfl) ⟨⟨W0.drew, (Below.refl _ _).drew⟩, rfl⟩ ?_
  simp only [List.take_succ_cons, List.take_zero, List.drop_succ_cons, List.drop_zero]
  refine ls_wpQuiet_load (fun _ => trivial) rfl 26 _ rfl ⟨w.heap.size, 0, none⟩ rfl (p.map byteV) _ (by rintro _ ⟨y, rfl⟩; exact dig_at (HR0.out y).r0) Tryd.underlying26 rfl HIP.out ?_
  simp only [Act.put, List.setIfInBounds_toArray, List.set_cons_zero, List.set_cons_succ]
  gi_big_quiet_step ((gi_at_call 19; exact C1 _))
  gi_big_quiet_step (fail)
  refine ls_wpQuiet_load (fun _ => trivial) rfl 26 _ rfl ⟨w.heap.size + 1, 0, none⟩ rfl (d.map byteV) _ (by rintro _ ⟨y, rfl⟩; exact dig_at (HR0.out y).r1) Tryd.underlying26 rfl HID.out ?_
  simp only [Act.put, List.setIfInBounds_toArray, List.set_cons_zero, List.set_cons_succ]
  gi_big_quiet_step ((gi_at_call 19; exact C2 _))
  gi_big_quiet_step (fail)
  rw [HT.out]
  gi_big_quiet_step ((gi_at_call 18; exact C3 _))
  refine wpQuietIn_nil ?_
  rintro _ ⟨y, rfl⟩
  have M1 := HR0.out y
  have r2 := M1.r2
  clear C1 C2 C3 HR0
  generalize y.v = W1 at *
  have b3 := M1.b
  clear M1
  refine ls_wpListIn_store_row rfl 26 _ _ rfl (w.heap.size + 2) (cells8 X) rfl rfl 26 _ r2 HI0.out (by rw [cells8_size, cells8_size, List.length_replicate, HXL.out]) (cells8_one _) ?_
  gi_wp2
  go_wp2
  exact bodyPost_ret (results_cell_row rfl _ _ (w.heap.size + 2) 26 (cells8 X) (0, 0) _ rfl (setRow_heap _ _ _ _ _ _ r2) Tryd.underlying26 rfl HI0.out) rfl ⟨rfl, below_setRow b3 (by omega) _⟩
/-- What the hasher took when k of the three parts were gone through. -/
def partsL (p d : List UInt8) (k : Nat) : List UInt8 := match k with
  | 0 => []
  | 1 => textL p
  | 2 => textL p ++ [32]
  | _ => textL p ++ 32 :: textL d
set_option maxRecDepth 100000 in
set_option maxHeartbeats 4000000 in
theorem next_any (p d : List UInt8) (w : World) (L : Laid w) (hp : p.length = 32) (hd : d.length = 32) :
    Calls Tryd.prog 12 #[.agg (cells8 p), .agg (cells8 d)] w fun e w' => e = .returned (.agg (cells8 (nextL p d))) ∧ Below w.heap.size w w' := by
  have CP := fun w => text_any p w hp
  have CD := fun w => text_any d w hd
  have zp : (str (textL p)).size = 71 := by rw [str_size, text_len hp]
  have zd : (str (textL d)).size = 71 := by rw [str_size, text_len hd]
  have zt : (textL p ++ 32 :: textL d).length = 143 := by rw [List.length_append, List.length_cons, text_len hp, text_len hd]
  obtain ⟨X, hX⟩ : ∃ X, X = hashL (textL p ++ 32 :: textL d) := ⟨_, rfl⟩
  have HX := Lib.hid (show nextL p d = X from hX.symm)
  have HXL : Hid (X.length = 32) := Lib.hid (by rw [hX]; exact hashL_length _)
  have HIP := Lib.hid (info_dig32 hp)
  have HID := Lib.hid (info_dig32 hd)
  have HI0 := Lib.hid (info_digest (l := X) HXL.out)
  have hw2 := L.lt
  obtain ⟨W0, hW0⟩ : ∃ W0, W0 = (((w.alloc (.cells (cells8 p) 26)).alloc (.cells (cells8 d) 26)).alloc (.cells #[Value.int IntKind.u8 0, Value.int IntKind.u8 0, Value.int IntKind.u8 0, Value.int IntKind.u8 0, Value.int IntKind.u8 0, Value.int IntKind.u8 0, Value.int IntKind.u8 0, Value.int IntKind.u8 0, Value.int IntKind.u8 0, Value.int IntKind.u8 0, Value.int IntKind.u8 0, Value.int IntKind.u8 0, Value.int IntKind.u8 0, Value.int IntKind.u8 0, Value.int IntKind.u8 0, Value.int IntKind.u8 0, Value.int IntKind.u8 0, Value.int IntKind.u8 0, Value.int IntKind.u8 0, Value.int IntKind.u8 0, Value.int IntKind.u8 0, Value.int IntKind.u8 0, Value.int IntKind.u8 0, Value.int IntKind.u8 0, Value.int IntKind.u8 0, Value.int IntKind.u8 0, Value.int IntKind.u8 0, Value.int IntKind.u8 0, Value.int IntKind.u8 0, Value.int IntKind.u8 0, Value.int IntKind.u8 0, Value.int IntKind.u8 0] 26)) := ⟨_, rfl⟩
  have M0 : Hid (NxM w p d W0) := Lib.hid (by rw [hW0]; exact NxM.start w p d)
  have LW := Lib.hid L
  have HW0 := Lib.hid hW0
  clear hW0
  rw [HX.out]
  go_enter Tryd.func12, Tryd.ntmps12
  go_upto_region 1 with (fail)
  rw [← HW0.out]
  have L0 : Hid (Laid W0) := Lib.hid (LW.out.below M0.out.b hw2)
  have h32 : Hid (w.heap.size + 3 ≤ W0.heap.size) := Lib.hid M0.out.lt
  go_upto_region 2 with ((go_at_call 14; ((with_reducible refine (sha_new_any _ L0.out).mono ?_); rintro e w1 ⟨rfl, hh1, hb1⟩)))
  have M1 := Lib.hid (M0.out.below hb1)
  have L1 := Lib.hid (L0.out.below hb1 (by have := h32.out; omega))
  have H1 := Lib.hid hh1
  obtain ⟨hp', hhp⟩ : ∃ q, q = W0.heap.size := ⟨_, rfl⟩
  rw [← hhp] at H1 h32 ⊢
  clear hh1 hb1 M0 L0 HW0 LW hhp L
  have C1 : ∀ y : Afters w1, CallsIn Fence.wide 3 Tryd.prog 15 #[.agg (cells8 p)] y.v fun e w'' => e = .returned (.string (str (textL p))) ∧ ∃ z : Afters w1, w'' = z.v := fun y =>
    (callsIn_wide.2 (CP y.v)).mono fun e w'' ⟨he, hb⟩ => ⟨he, ⟨w'', y.h.trans (hb.mono y.h.size)⟩, rfl⟩
  have C2 : ∀ y : Afters w1, CallsIn Fence.wide 3 Tryd.prog 15 #[.agg (cells8 d)] y.v fun e w'' => e = .returned (.string (str (textL d))) ∧ ∃ z : Afters w1, w'' = z.v := fun y =>
    (callsIn_wide.2 (CD y.v)).mono fun e w'' ⟨he, hb⟩ => ⟨he, ⟨w'', y.h.trans (hb.mono y.h.size)⟩, rfl⟩
  have HR0 : Hid (∀ y : Afters w1, NxM w p d y.v) := Lib.hid fun y => M1.out.below y.h
  have HF : Hid (∀ y : Afters w1, Laid y.v ∧ IsHash y.v hp' []) := Lib.hid fun y => ⟨L1.out.below y.h (by have := M1.out.lt; omega), H1.out.below y.h H1.out.lt⟩
  clear CP CD L1 H1 M1
  refine (wpIn_wide (n := 4)).1 ?_
  refine region_quiet (C := fun w' => ∃ y : Afters w1, w' = y.v) (by kernel_rfl) (by kernel_rfl) (by kernel_rfl) ⟨⟨w1.drew, (Below.refl _ _).drew⟩, rfl⟩ ?_
  refine ls_wpQuiet_load (fun _ => trivial) rfl 26 _ rfl ⟨w.heap.size, 0, none⟩ rfl (p.map byteV) _ (by rintro _ ⟨y, rfl⟩; exact dig_at (HR0.out y).r0) Tryd.underlying26 rfl HIP.out ?_
  simp only [Act.put, List.setIfInBounds_toArray, List.set_cons_zero, List.set_cons_succ]
  gi_big_quiet_step ((gi_at_call 15; exact C1 _))
  refine ls_wpQuiet_load (fun _ => trivial) rfl 26 _ rfl ⟨w.heap.size + 1, 0, none⟩ rfl (d.map byteV) _ (by rintro _ ⟨y, rfl⟩; exact dig_at (HR0.out y).r1) Tryd.underlying26 rfl HID.out ?_
  simp only [Act.put, List.setIfInBounds_toArray, List.set_cons_zero, List.set_cons_succ]
  gi_big_quiet_step ((gi_at_call 15; exact C2 _))
  gi_big_quiet_step (fail)
  gi_big_quiet_step (fail)
  refine wpQuietIn_nil ?_
  rintro _ ⟨y, rfl⟩
  have M2 := Lib.hid (HR0.out y)
  have HF2 := Lib.hid (HF.out y)
  clear C1 C2 HR0 HF
  generalize y.v = W2 at *
  gi_wp2
  have CW : ∀ (W : World) (k : Nat) (s : ByteArray), k < 3 → partsL p d (k + 1) = partsL p d k ++ s.data.toList → Laid W → IsHash W hp' (partsL p d k) →
      Calls Tryd.prog 16 #[.pointer (some ⟨hp', 0, none⟩), .string s] W fun e w' => e = .returned (.int .i64 (s.size : Int)) ∧ IsHash w' hp' (partsL p d (k + 1)) ∧ W.grownBy w' (some hp') := fun W k s hk hs l h => by
    have hlen : (partsL p d (k + 1)).length ≤ 143 := by
      rcases (show k = 0 ∨ k = 1 ∨ k = 2 by omega) with rfl | rfl | rfl
      · show (textL p).length ≤ 143; rw [text_len hp]; decide
      · show (textL p ++ [32]).length ≤ 143; rw [List.length_append, text_len hp]; decide
      · show (textL p ++ 32 :: textL d).length ≤ 143; rw [zt]; decide
    rw [hs, List.length_append] at hlen
    have := sha_write_any W hp' (partsL p d k) s h l (by have := h32.out; omega) (by simp at hlen; omega)
    rwa [← hs] at this
  have HCW := Lib.hid CW
  have E0 : Hid (partsL p d 1 = partsL p d 0 ++ (str (textL p)).data.toList) := Lib.hid (by rw [str_toList]; rfl)
  have E1 : Hid (partsL p d 2 = partsL p d 1 ++ (⟨#[32]⟩ : ByteArray).data.toList) := Lib.hid rfl
  have E2 : Hid (partsL p d 3 = partsL p d 2 ++ (str (textL d)).data.toList) := Lib.hid (by
    rw [str_toList]
    show textL p ++ 32 :: textL d = (textL p ++ [32]) ++ textL d
    simp)
  have CSum : Hid (∀ (W : World), Laid W → IsHash W hp' (partsL p d 3) → Calls Tryd.prog 17 #[.pointer (some ⟨hp', 0, none⟩)] W fun e w' => e = .returned (.agg (cells8 X)) ∧ Below W.heap.size W w') := Lib.hid fun W l h => by
    rw [hX]
    exact sha_sum_any W hp' _ h l (by show (textL p ++ 32 :: textL d).length ≤ _; rw [zt]; decide)
  have hpd : Hid (p.length = 32 ∧ d.length = 32) := Lib.hid ⟨hp, hd⟩
  clear CW zt hX hp hd zp zd
  go_wp2
  go_loopw [14] (fun i wr => ∃ k : Nat, k ≤ 3 ∧ i = .int .i64 k ∧ IsHash wr hp' (partsL p d k) ∧ Laid wr ∧ NxM w p d wr) (fun i _ => 3 - (intOf i).toNat)
  case atStart => exact ⟨0, by omega, rfl, HF2.out.2, HF2.out.1, M2.out⟩
  case round =>
    obtain ⟨k, hk, rfl, hh, hl, hm⟩ := hrel
    have HH := Lib.hid hh
    have HL := Lib.hid hl
    have HM := Lib.hid hm
    clear hh hl hm
    have HN : Hid (∀ w', wr.grownBy w' (some hp') → Laid w' ∧ NxM w p d w') := Lib.hid fun w' hg => ⟨HL.out.grown (by have := h32.out; omega) hg, HM.out.grown hg h32.out⟩
    rcases (show k = 0 ∨ k = 1 ∨ k = 2 ∨ k = 3 by omega) with rfl | rfl | rfl | rfl
    · have ix : ∀ w, (Instr.index 36 (.agg #[.string (str (textL p)), .string (⟨#[32]⟩ : ByteArray), .string (str (textL d))]) (.int .i64 0)).run Tryd.prog w = .ok (.string (str (textL p))) w := fun w =>
        run_index_arr (i := 0) Tryd.underlying36 (by kernel_rfl) (by kernel_rfl) (by decide) rfl w
      go_wp2_with (go_at_call 16; ((with_reducible refine (HCW.out _ 0 _ (by omega) E0.out HL.out HH.out).mono ?_); rintro e w3 ⟨rfl, h3, hg⟩))
      go_roundw
      case rel => exact ⟨1, by omega, by go_num, h3, (HN.out _ hg).1, (HN.out _ hg).2⟩
      case measure => simp [intOf]
    · have ix : ∀ w, (Instr.index 36 (.agg #[.string (str (textL p)), .string (⟨#[32]⟩ : ByteArray), .string (str (textL d))]) (.int .i64 1)).run Tryd.prog w = .ok (.string ((⟨#[32]⟩ : ByteArray))) w := fun w =>
        run_index_arr (i := 1) Tryd.underlying36 (by kernel_rfl) (by kernel_rfl) (by decide) rfl w
      go_wp2_with (go_at_call 16; ((with_reducible refine (HCW.out _ 1 _ (by omega) E1.out HL.out HH.out).mono ?_); rintro e w3 ⟨rfl, h3, hg⟩))
      go_roundw
      case rel => exact ⟨2, by omega, by go_num, h3, (HN.out _ hg).1, (HN.out _ hg).2⟩
      case measure => simp [intOf]
    · have ix : ∀ w, (Instr.index 36 (.agg #[.string (str (textL p)), .string (⟨#[32]⟩ : ByteArray), .string (str (textL d))]) (.int .i64 2)).run Tryd.prog w = .ok (.string (str (textL d))) w := fun w =>
        run_index_arr (i := 2) Tryd.underlying36 (by kernel_rfl) (by kernel_rfl) (by decide) rfl w
      go_wp2_with (go_at_call 16; ((with_reducible refine (HCW.out _ 2 _ (by omega) E2.out HL.out HH.out).mono ?_); rintro e w3 ⟨rfl, h3, hg⟩))
      go_roundw
      case rel => exact ⟨3, by omega, by go_num, h3, (HN.out _ hg).1, (HN.out _ hg).2⟩
      case measure => simp [intOf]
    · go_wp2_with (first
        | (go_at_call 17; ((with_reducible refine (CSum.out _ HL.out HH.out).mono ?_); rintro e w3 ⟨rfl, hb3⟩; have M3 := HM.out.below hb3; have r3 := M3.r2))
        | (refine wpList_store_row rfl 26 _ _ rfl (w.heap.size + 1 + 1) (cells8 X) rfl rfl 26 _ r3 HI0.out (by rw [cells8_size, cells8_size, List.length_replicate, HXL.out]) (cells8_one _) ?_))
      exact bodyPost_ret (results_cell_row rfl _ _ (w.heap.size + 2) 26 (cells8 X) (0, 0) _ rfl (setRow_heap _ _ _ _ _ _ r3) Tryd.underlying26 rfl HI0.out) rfl ⟨rfl, below_setRow M3.b (by omega) _⟩
end Go.Proofs.YtemnfnmkhfgopaaDoor
