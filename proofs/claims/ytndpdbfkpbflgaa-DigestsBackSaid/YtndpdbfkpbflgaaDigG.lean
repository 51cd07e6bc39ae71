/- Layer 5: the chapter's examples. -/
import Derived.Test.YtndpdbfkpbflgaaDigD
import Derived.Test.YtndpdbfkpbflgaaDigF
namespace Go.Proofs.Ytndpdbfkpbflgaa
open Go.RowKit

def abL : List UInt8 := 171 :: List.replicate 31 0
def upL : List UInt8 := [115, 104, 97, 50, 53, 54, 58, 65, 66] ++ (textL abL).drop 9
theorem ab_up : ((⟨#[115, 104, 97, 50, 53, 54, 58, 65, 66]⟩ : ByteArray) ++ (str (textL abL)).extract 9 71) = str upL := by decide +kernel
theorem ab_11 : (str (textL abL)).extract 0 11 = ⟨#[115, 104, 97, 50, 53, 54, 58, 97, 98, 48, 48]⟩ := by decide +kernel
theorem ab_short : str (shortL abL) = ⟨#[97, 98, 48, 48, 48, 48, 48, 48, 48, 48, 48, 48]⟩ := by decide +kernel
theorem ab_size : (str (textL abL)).size = 71 := by decide +kernel
theorem ab_size2 : ((str (textL abL)).extract 9 71).size = 62 := by decide +kernel
theorem up_none : digL upL = zero32 ∧ errL upL = 10 := by decide +kernel
theorem md_none : digL [109, 100, 53, 58, 97, 98] = zero32 ∧ errL [109, 100, 53, 58, 97, 98] = 10 := by decide +kernel
theorem ab_built : Try.prog.built 23 [(0, Value.int IntKind.u8 171)] = some (cells8 abL) := by kernel_rfl
set_option maxRecDepth 100000 in
set_option maxHeartbeats 1000000 in
theorem named_any (w : World) :
    Calls Try.prog 6 #[] w fun e w' => e = .returned (.bool true) ∧ Below w.heap.size w w' := by
  have CT := fun w => text_any abL w rfl
  have CS := fun w => short_any abL w rfl
  have CU := fun w => parse_any upL w
  have CM : ∀ w, Calls Try.prog 7 #[.string ⟨#[109, 100, 53, 58, 97, 98]⟩] w fun e w' => e = .returned (.tuple #[.agg (cells8 (digL [109, 100, 53, 58, 97, 98])), .int .i64 (errL [109, 100, 53, 58, 97, 98])]) ∧ Below w.heap.size w w' := fun w => parse_any [109, 100, 53, 58, 97, 98] w
  rw [up_none.1, up_none.2] at CU
  rw [md_none.1, md_none.2] at CM
  rw [ab_short] at CS
  have x1 := ab_up
  have x2 := ab_11
  have x3 := ab_size
  have x4 := ab_size2
  have HA := Lib.hid (info_digest (l := abL) rfl)
  have HZ := Lib.hid (info_digest (l := zero32) rfl)
  have SA := Lib.hid (show (cells8 abL).size = 32 from rfl)
  have SZ := Lib.hid (show (cells8 zero32).size = 32 from rfl)
  generalize str (textL abL) = X at CT x1 x2 x3 x4
  generalize str upL = U at CU x1
  obtain ⟨A, hA⟩ : ∃ A, A = abL := ⟨_, rfl⟩
  rw [← hA] at CT CS HA SA
  have EA := Lib.hid hA
  clear hA
  go_enter Try.func6, Try.ntmps6
  go_wp2_with (first
    | (refine wpList_build_as (o := ⟨some 7, _, _, _, _, _⟩) rfl 23 _ rfl (cells8 A) ?_ ?_; (rw [EA.out]; kernel_rfl))
    | (refine wpList_store_last rfl 23 _ _ rfl w.heap.size (cells8 A) rfl rfl 23 _ rfl HA.out SA.out.symm (cells8_one _) ?_)
    | (refine wpList_load_row rfl 23 _ rfl w.heap.size rfl 23 (cells8 A) (0, 0) _ (rowC_new w (cells8 A) 23) Try.underlying23 rfl HA.out ?_))
  refine (CT _).mono ?_
  rintro e w1 ⟨rfl, hb1⟩
  have r1 := rowC_below (rowC_new w (cells8 A) 23) hb1 (by simp)
  have b1 : Below w.heap.size w w1 := ((Below.refl _ _).alloc (Nat.le_refl _) _).trans (hb1.mono (by simp))
  clear hb1
  go_wp2_with (first
    | (go_at_call 7; ((with_reducible refine (CU _).mono ?_); rintro e w2 ⟨rfl, hb2⟩))
    | (refine wpList_store_row rfl 23 _ _ rfl w2.heap.size (cells8 zero32) rfl rfl 23 (cells8 zero32) (rowC_new w2 _ _) HZ.out rfl (cells8_one _) ?_))
  have l1 := rowC_lt r1
  have s2 := hb2.size
  have s1 := b1.size
  have r3 : rowC ((w2.alloc (.cells (cells8 zero32) 23)).setRow w2.heap.size (cells8 zero32)) w.heap.size (cells8 A) 23 :=
    rowC_setRow_other (rowC_alloc (rowC_below r1 hb2 l1) _) _ _ (by omega)
  have b3 : Below w.heap.size w ((w2.alloc (.cells (cells8 zero32) 23)).setRow w2.heap.size (cells8 zero32)) :=
    below_setRow ((b1.trans (hb2.mono s1)).alloc (by omega) _) (by omega) _
  change Calls _ _ _ ((w2.alloc (.cells (cells8 zero32) 23)).setRow w2.heap.size (cells8 zero32)) _
  generalize World.setRow _ _ _ = w3 at r3 b3 ⊢
  refine (CM _).mono ?_
  rintro e w4 ⟨rfl, hb4⟩
  have l3 := rowC_lt r3
  have s4 := hb4.size
  have s3 := b3.size
  have r4 := rowC_below r3 hb4 l3
  have b4 : Below w.heap.size w w4 := b3.trans (hb4.mono s3)
  clear hb4 hb2 r1 b1 r3 b3
  have hlt4 : w.heap.size < w4.heap.size := by omega
  have R5 := Lib.hid (show rowC ((w4.alloc (.cells (cells8 zero32) 23)).setRow w4.heap.size (cells8 zero32)) w.heap.size (cells8 A) 23 from rowC_setRow_other (rowC_alloc r4 _) _ _ (by omega))
  have b5 : Below w.heap.size w ((w4.alloc (.cells (cells8 zero32) 23)).setRow w4.heap.size (cells8 zero32)) :=
    below_setRow (b4.alloc (by omega) _) (by omega) _
  have B5 := Lib.hid b5
  have S5 := Lib.hid b5.size
  clear b5 r4 b4
  go_wp2_with (first
    | (refine wpList_store_row rfl 23 _ _ rfl w4.heap.size (cells8 zero32) rfl rfl 23 (cells8 zero32) (rowC_new w4 _ _) HZ.out rfl (cells8_one _) ?_)
    | (refine wpList_load_rowG rfl 23 _ rfl w.heap.size rfl 23 (cells8 A) _ R5.out Try.underlying23 rfl HA.out ?_)
    | (go_at_call 11; ((with_reducible refine (CS _).mono ?_); rintro e w6 ⟨rfl, hb6⟩)))
  go_ret
  exact ⟨rfl, B5.out.trans (hb6.mono S5.out)⟩
end Go.Proofs.Ytndpdbfkpbflgaa
