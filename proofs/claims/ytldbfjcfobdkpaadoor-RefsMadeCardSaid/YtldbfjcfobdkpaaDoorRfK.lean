/- Layer 12: what is asked of the program; the names of a law in memory; the chapter's names. -/
import Derived.Test.YtldbfjcfobdkpaaDoorRfJ
namespace Go.Proofs.YtldbfjcfobdkpaaDoor
open Go.RowKit

/-- WHAT IS ASKED OF THE PROGRAM: each of its four calls answers as the document does. -/
structure Impl : Prop where
  parse : ∀ (s : List UInt8) (w : World), s.length ≤ 1000 → Calls Tryd.prog 9 #[.string (str s)] w fun e w' => e = .returned (.tuple #[.agg (refC (parseR s).1), .int .i64 (parseR s).2]) ∧ Below w.heap.size w w'
  check : ∀ (r : RR) (w : World), r.ok → Calls Tryd.prog 15 #[.agg (refC r)] w fun e w' => e = .returned (.int .i64 (checkR r)) ∧ Below w.heap.size w w'
  text : ∀ (r : RR) (w : World), r.ok → Calls Tryd.prog 11 #[.agg (refC r)] w fun e w' => e = .returned (.string (str (showR r))) ∧ Below w.heap.size w w'
  short : ∀ (r : RR) (w : World), r.ok → Calls Tryd.prog 13 #[.agg (refC r)] w fun e w' => e = .returned (.string (str (shortR r))) ∧ Below w.heap.size w w'
/-- A law's names in memory. -/
structure LM (W w : World) (l : List (Nat × RR)) : Prop where
  b : Below W.heap.size W w
  at_ : ∀ g r, (g, r) ∈ l → refAt w g r ∧ W.heap.size ≤ g
theorem LM.start (W : World) : LM W W [] := ⟨Below.refl _ _, fun _ _ h => by cases h⟩
theorem LM.below {W w w' : World} {l : List (Nat × RR)} (h : LM W w l) (hb : Below w.heap.size w w') : LM W w' l :=
  ⟨h.b.trans (hb.mono h.b.size), fun g r hm => ⟨(h.at_ g r hm).1.below hb, (h.at_ g r hm).2⟩⟩
theorem LM.made {W w v : World} {l : List (Nat × RR)} (h : LM W w l) (hv : w.alloc (.cells #[.string ⟨#[]⟩, .string ⟨#[]⟩, .string ⟨#[]⟩, .int .u8 0, .int .u8 0, .int .u8 0, .int .u8 0, .int .u8 0, .int .u8 0, .int .u8 0, .int .u8 0, .int .u8 0, .int .u8 0, .int .u8 0, .int .u8 0, .int .u8 0, .int .u8 0, .int .u8 0, .int .u8 0, .int .u8 0, .int .u8 0, .int .u8 0, .int .u8 0, .int .u8 0, .int .u8 0, .int .u8 0, .int .u8 0, .int .u8 0, .int .u8 0, .int .u8 0, .int .u8 0, .int .u8 0, .int .u8 0, .int .u8 0, .int .u8 0, .bool false] 26) = v) (r : RR) :
    refAt v w.heap.size zeroR ∧ LM W (v.setRow w.heap.size (refC r)) ((w.heap.size, r) :: l) := by
  have hz : refAt v w.heap.size zeroR := by rw [← hv]; unfold refAt; rw [zero_lit]; exact rowC_new w _ _
  refine ⟨hz, below_setRow (by rw [← hv]; exact h.b.alloc h.b.size _) h.b.size _, fun g x hm => ?_⟩
  rcases List.mem_cons.1 hm with e | hm
  · cases e
    exact ⟨rowC_setRow hz _, h.b.size⟩
  · have ⟨h1, h2⟩ := h.at_ g x hm
    have hlt := rowC_lt h1
    exact ⟨rowC_setRow_other (by rw [← hv]; exact rowC_alloc h1 _) _ _ (by omega), h2⟩
/-- The chapter's names. -/
theorem names1 : parseR [98, 117, 115, 121, 98, 111, 120] = (⟨hubB, libraryB ++ [47] ++ [98, 117, 115, 121, 98, 111, 120], latestB, zero32, false⟩, 0) ∧ showR ⟨hubB, libraryB ++ [47] ++ [98, 117, 115, 121, 98, 111, 120], latestB, zero32, false⟩ = [100, 111, 99, 107, 101, 114, 46, 105, 111, 47, 108, 105, 98, 114, 97, 114, 121, 47, 98, 117, 115, 121, 98, 111, 120, 58, 108, 97, 116, 101, 115, 116] ∧ shortR ⟨hubB, libraryB ++ [47] ++ [98, 117, 115, 121, 98, 111, 120], latestB, zero32, false⟩ = [98, 117, 115, 121, 98, 111, 120] := by decide +kernel
theorem names2 : parseR [108, 111, 99, 97, 108, 104, 111, 115, 116, 47, 97, 58, 49] = (⟨localB, [97], [49], zero32, false⟩, 0) := by decide +kernel
theorem names3 : parseR [97, 47, 98, 64, 115, 104, 97, 50, 53, 54, 58, 48, 49, 50, 51, 52, 53, 54, 55, 56, 57, 97, 98, 99, 100, 101, 102, 48, 49, 50, 51, 52, 53, 54, 55, 56, 57, 97, 98, 99, 100, 101, 102, 48, 49, 50, 51, 52, 53, 54, 55, 56, 57, 97, 98, 99, 100, 101, 102, 48, 49, 50, 51, 52, 53, 54, 55, 56, 57, 97, 98, 99, 100, 101, 102] = (⟨hubB, [97, 47, 98], [], digL (digR [97, 47, 98, 64, 115, 104, 97, 50, 53, 54, 58, 48, 49, 50, 51, 52, 53, 54, 55, 56, 57, 97, 98, 99, 100, 101, 102, 48, 49, 50, 51, 52, 53, 54, 55, 56, 57, 97, 98, 99, 100, 101, 102, 48, 49, 50, 51, 52, 53, 54, 55, 56, 57, 97, 98, 99, 100, 101, 102, 48, 49, 50, 51, 52, 53, 54, 55, 56, 57, 97, 98, 99, 100, 101, 102]), true⟩, 0) ∧ shortR ⟨hubB, [97, 47, 98], [], digL (digR [97, 47, 98, 64, 115, 104, 97, 50, 53, 54, 58, 48, 49, 50, 51, 52, 53, 54, 55, 56, 57, 97, 98, 99, 100, 101, 102, 48, 49, 50, 51, 52, 53, 54, 55, 56, 57, 97, 98, 99, 100, 101, 102, 48, 49, 50, 51, 52, 53, 54, 55, 56, 57, 97, 98, 99, 100, 101, 102, 48, 49, 50, 51, 52, 53, 54, 55, 56, 57, 97, 98, 99, 100, 101, 102]), true⟩ = [97, 47, 98, 64, 115, 104, 97, 50, 53, 54, 58, 48, 49, 50, 51, 52, 53, 54, 55, 56, 57, 97, 98, 99, 100, 101, 102, 48, 49, 50, 51, 52, 53, 54, 55, 56, 57, 97, 98, 99, 100, 101, 102, 48, 49, 50, 51, 52, 53, 54, 55, 56, 57, 97, 98, 99, 100, 101, 102, 48, 49, 50, 51, 52, 53, 54, 55, 56, 57, 97, 98, 99, 100, 101, 102] := by decide +kernel
theorem names4 : parseR [65] = (zeroR, 10) ∧ parseR [97, 46, 46, 98] = (zeroR, 10) ∧ parseR [97, 58] = (zeroR, 10) := by decide +kernel
theorem lit7 : refC ⟨hubB, [97, 46, 98, 47, 99], latestB, zero32, false⟩ = #[.string ⟨#[100, 111, 99, 107, 101, 114, 46, 105, 111]⟩, .string ⟨#[97, 46, 98, 47, 99]⟩, .string ⟨#[108, 97, 116, 101, 115, 116]⟩, .int .u8 0, .int .u8 0, .int .u8 0, .int .u8 0, .int .u8 0, .int .u8 0, .int .u8 0, .int .u8 0, .int .u8 0, .int .u8 0, .int .u8 0, .int .u8 0, .int .u8 0, .int .u8 0, .int .u8 0, .int .u8 0, .int .u8 0, .int .u8 0, .int .u8 0, .int .u8 0, .int .u8 0, .int .u8 0, .int .u8 0, .int .u8 0, .int .u8 0, .int .u8 0, .int .u8 0, .int .u8 0, .int .u8 0, .int .u8 0, .int .u8 0, .int .u8 0, .bool false] := by kernel_rfl
theorem names7 : shortR ⟨hubB, [97, 46, 98, 47, 99], latestB, zero32, false⟩ = [100, 111, 99, 107, 101, 114, 46, 105, 111, 47, 97, 46, 98, 47, 99] := by decide +kernel
set_option maxRecDepth 100000 in
set_option maxHeartbeats 16000000 in
theorem named_any (I : Impl) (w : World) : Calls Tryd.prog 8 #[] w fun e w' => e = .returned (.bool true) ∧ Below w.heap.size w w' := by
  have M := Lib.hid (LM.start w)
  have CP1 : ∀ w : World, Calls Tryd.prog 9 #[.string ⟨#[98, 117, 115, 121, 98, 111, 120]⟩] w fun e w' => e = .returned (.tuple #[.agg (refC (parseR [98, 117, 115, 121, 98, 111, 120]).1), .int .i64 (parseR [98, 117, 115, 121, 98, 111, 120]).2]) ∧ Below w.heap.size w w' := fun w => I.parse [98, 117, 115, 121, 98, 111, 120] w (by decide)
  have CP2 : ∀ w : World, Calls Tryd.prog 9 #[.string ⟨#[108, 111, 99, 97, 108, 104, 111, 115, 116, 47, 97, 58, 49]⟩] w fun e w' => e = .returned (.tuple #[.agg (refC (parseR [108, 111, 99, 97, 108, 104, 111, 115, 116, 47, 97, 58, 49]).1), .int .i64 (parseR [108, 111, 99, 97, 108, 104, 111, 115, 116, 47, 97, 58, 49]).2]) ∧ Below w.heap.size w w' := fun w => I.parse [108, 111, 99, 97, 108, 104, 111, 115, 116, 47, 97, 58, 49] w (by decide)
  have CP3 : ∀ w : World, Calls Tryd.prog 9 #[.string ⟨#[97, 47, 98, 64, 115, 104, 97, 50, 53, 54, 58, 48, 49, 50, 51, 52, 53, 54, 55, 56, 57, 97, 98, 99, 100, 101, 102, 48, 49, 50, 51, 52, 53, 54, 55, 56, 57, 97, 98, 99, 100, 101, 102, 48, 49, 50, 51, 52, 53, 54, 55, 56, 57, 97, 98, 99, 100, 101, 102, 48, 49, 50, 51, 52, 53, 54, 55, 56, 57, 97, 98, 99, 100, 101, 102]⟩] w fun e w' => e = .returned (.tuple #[.agg (refC (parseR [97, 47, 98, 64, 115, 104, 97, 50, 53, 54, 58, 48, 49, 50, 51, 52, 53, 54, 55, 56, 57, 97, 98, 99, 100, 101, 102, 48, 49, 50, 51, 52, 53, 54, 55, 56, 57, 97, 98, 99, 100, 101, 102, 48, 49, 50, 51, 52, 53, 54, 55, 56, 57, 97, 98, 99, 100, 101, 102, 48, 49, 50, 51, 52, 53, 54, 55, 56, 57, 97, 98, 99, 100, 101, 102]).1), .int .i64 (parseR [97, 47, 98, 64, 115, 104, 97, 50, 53, 54, 58, 48, 49, 50, 51, 52, 53, 54, 55, 56, 57, 97, 98, 99, 100, 101, 102, 48, 49, 50, 51, 52, 53, 54, 55, 56, 57, 97, 98, 99, 100, 101, 102, 48, 49, 50, 51, 52, 53, 54, 55, 56, 57, 97, 98, 99, 100, 101, 102, 48, 49, 50, 51, 52, 53, 54, 55, 56, 57, 97, 98, 99, 100, 101, 102]).2]) ∧ Below w.heap.size w w' := fun w => I.parse [97, 47, 98, 64, 115, 104, 97, 50, 53, 54, 58, 48, 49, 50, 51, 52, 53, 54, 55, 56, 57, 97, 98, 99, 100, 101, 102, 48, 49, 50, 51, 52, 53, 54, 55, 56, 57, 97, 98, 99, 100, 101, 102, 48, 49, 50, 51, 52, 53, 54, 55, 56, 57, 97, 98, 99, 100, 101, 102, 48, 49, 50, 51, 52, 53, 54, 55, 56, 57, 97, 98, 99, 100, 101, 102] w (by decide)
  have CP4 : ∀ w : World, Calls Tryd.prog 9 #[.string ⟨#[65]⟩] w fun e w' => e = .returned (.tuple #[.agg (refC (parseR [65]).1), .int .i64 (parseR [65]).2]) ∧ Below w.heap.size w w' := fun w => I.parse [65] w (by decide)
  have CP5 : ∀ w : World, Calls Tryd.prog 9 #[.string ⟨#[97, 46, 46, 98]⟩] w fun e w' => e = .returned (.tuple #[.agg (refC (parseR [97, 46, 46, 98]).1), .int .i64 (parseR [97, 46, 46, 98]).2]) ∧ Below w.heap.size w w' := fun w => I.parse [97, 46, 46, 98] w (by decide)
  have CP6 : ∀ w : World, Calls Tryd.prog 9 #[.string ⟨#[97, 58]⟩] w fun e w' => e = .returned (.tuple #[.agg (refC (parseR [97, 58]).1), .int .i64 (parseR [97, 58]).2]) ∧ Below w.heap.size w w' := fun w => I.parse [97, 58] w (by decide)
  rw [names1.1] at CP1
  rw [names2] at CP2
  rw [names3.1] at CP3
  rw [names4.1] at CP4
  rw [names4.2.1] at CP5
  rw [names4.2.2] at CP6
  obtain ⟨R1, h1⟩ : ∃ R, R = (⟨hubB, libraryB ++ [47] ++ [98, 117, 115, 121, 98, 111, 120], latestB, zero32, false⟩ : RR) := ⟨_, rfl⟩
  obtain ⟨R2, h2⟩ : ∃ R, R = (⟨localB, [97], [49], zero32, false⟩ : RR) := ⟨_, rfl⟩
  obtain ⟨R3, h3⟩ : ∃ R, R = (⟨hubB, [97, 47, 98], [], digL (digR [97, 47, 98, 64, 115, 104, 97, 50, 53, 54, 58, 48, 49, 50, 51, 52, 53, 54, 55, 56, 57, 97, 98, 99, 100, 101, 102, 48, 49, 50, 51, 52, 53, 54, 55, 56, 57, 97, 98, 99, 100, 101, 102, 48, 49, 50, 51, 52, 53, 54, 55, 56, 57, 97, 98, 99, 100, 101, 102, 48, 49, 50, 51, 52, 53, 54, 55, 56, 57, 97, 98, 99, 100, 101, 102]), true⟩ : RR) := ⟨_, rfl⟩
  have HO1 := Lib.hid (show R1.ok by rw [h1]; exact ⟨by decide, by decide, by decide, rfl⟩)
  have HO2 := Lib.hid (show R2.ok by rw [h2]; exact ⟨by decide, by decide, by decide, rfl⟩)
  have HO3 := Lib.hid (show R3.ok by rw [h3]; exact ⟨by decide, by decide, by decide, (show (digL (digR [97, 47, 98, 64, 115, 104, 97, 50, 53, 54, 58, 48, 49, 50, 51, 52, 53, 54, 55, 56, 57, 97, 98, 99, 100, 101, 102, 48, 49, 50, 51, 52, 53, 54, 55, 56, 57, 97, 98, 99, 100, 101, 102, 48, 49, 50, 51, 52, 53, 54, 55, 56, 57, 97, 98, 99, 100, 101, 102, 48, 49, 50, 51, 52, 53, 54, 55, 56, 57, 97, 98, 99, 100, 101, 102])).length = 32 from digL_length _)⟩)
  have CT1 := fun w => I.text R1 w HO1.out
  have CS1 := fun w => I.short R1 w HO1.out
  have CS3 := fun w => I.short R3 w HO3.out
  have CS7 := fun w => I.short ⟨hubB, [97, 46, 98, 47, 99], latestB, zero32, false⟩ w ⟨by decide, by decide, by decide, rfl⟩
  rw [names7, lit7] at CS7
  rw [show showR R1 = [100, 111, 99, 107, 101, 114, 46, 105, 111, 47, 108, 105, 98, 114, 97, 114, 121, 47, 98, 117, 115, 121, 98, 111, 120, 58, 108, 97, 116, 101, 115, 116] by rw [h1]; exact names1.2.1] at CT1
  rw [show shortR R1 = [98, 117, 115, 121, 98, 111, 120] by rw [h1]; exact names1.2.2] at CS1
  rw [show shortR R3 = [97, 47, 98, 64, 115, 104, 97, 50, 53, 54, 58, 48, 49, 50, 51, 52, 53, 54, 55, 56, 57, 97, 98, 99, 100, 101, 102, 48, 49, 50, 51, 52, 53, 54, 55, 56, 57, 97, 98, 99, 100, 101, 102, 48, 49, 50, 51, 52, 53, 54, 55, 56, 57, 97, 98, 99, 100, 101, 102, 48, 49, 50, 51, 52, 53, 54, 55, 56, 57, 97, 98, 99, 100, 101, 102] by rw [h3]; exact names3.2] at CS3
  have f20 : ((str R2.dom).toList == [108, 111, 99, 97, 108, 104, 111, 115, 116]) = true := (eq_lit R2.dom localB).trans (decide_eq_true (by rw [h2]))
  have f21 := (eq_lit R2.path [97]).trans (decide_eq_true (by rw [h2]))
  have f22 := (eq_lit R2.tag [49]).trans (decide_eq_true (by rw [h2]))
  have f32 := (eq_lit R3.tag []).trans (decide_eq_true (by rw [h3]))
  obtain ⟨X1, hX1⟩ : ∃ X : List UInt8, X = [100, 111, 99, 107, 101, 114, 46, 105, 111, 47, 108, 105, 98, 114, 97, 114, 121, 47, 98, 117, 115, 121, 98, 111, 120, 58, 108, 97, 116, 101, 115, 116] := ⟨_, rfl⟩
  obtain ⟨X2, hX2⟩ : ∃ X : List UInt8, X = [98, 117, 115, 121, 98, 111, 120] := ⟨_, rfl⟩
  obtain ⟨X3, hX3⟩ : ∃ X : List UInt8, X = [97, 47, 98, 64, 115, 104, 97, 50, 53, 54, 58, 48, 49, 50, 51, 52, 53, 54, 55, 56, 57, 97, 98, 99, 100, 101, 102, 48, 49, 50, 51, 52, 53, 54, 55, 56, 57, 97, 98, 99, 100, 101, 102, 48, 49, 50, 51, 52, 53, 54, 55, 56, 57, 97, 98, 99, 100, 101, 102, 48, 49, 50, 51, 52, 53, 54, 55, 56, 57, 97, 98, 99, 100, 101, 102] := ⟨_, rfl⟩
  obtain ⟨X7, hX7⟩ : ∃ X : List UInt8, X = [100, 111, 99, 107, 101, 114, 46, 105, 111, 47, 97, 46, 98, 47, 99] := ⟨_, rfl⟩
  rw [← hX1] at CT1
  rw [← hX2] at CS1
  rw [← hX3] at CS3
  rw [← hX7] at CS7
  have fx1 := (eq_lit X1 [100, 111, 99, 107, 101, 114, 46, 105, 111, 47, 108, 105, 98, 114, 97, 114, 121, 47, 98, 117, 115, 121, 98, 111, 120, 58, 108, 97, 116, 101, 115, 116]).trans (decide_eq_true hX1)
  have fx2 := (eq_lit X2 [98, 117, 115, 121, 98, 111, 120]).trans (decide_eq_true hX2)
  have fx3 := (eq_lit X3 [97, 47, 98, 64, 115, 104, 97, 50, 53, 54, 58, 48, 49, 50, 51, 52, 53, 54, 55, 56, 57, 97, 98, 99, 100, 101, 102, 48, 49, 50, 51, 52, 53, 54, 55, 56, 57, 97, 98, 99, 100, 101, 102, 48, 49, 50, 51, 52, 53, 54, 55, 56, 57, 97, 98, 99, 100, 101, 102, 48, 49, 50, 51, 52, 53, 54, 55, 56, 57, 97, 98, 99, 100, 101, 102]).trans (decide_eq_true hX3)
  have fx7 := (eq_lit X7 [100, 111, 99, 107, 101, 114, 46, 105, 111, 47, 97, 46, 98, 47, 99]).trans (decide_eq_true hX7)
  clear hX1 hX2 hX3 hX7
  have HR3p := Lib.hid (show R3.pin = true by rw [h3])
  simp only [← h1] at CP1
  simp only [← h2] at CP2
  simp only [← h3] at CP3
  clear h1 h2 h3
  obtain ⟨R4, h4⟩ : ∃ R, R = zeroR := ⟨_, rfl⟩
  obtain ⟨R5, h5⟩ : ∃ R, R = zeroR := ⟨_, rfl⟩
  obtain ⟨R6, h6⟩ : ∃ R, R = zeroR := ⟨_, rfl⟩
  have HO4 := Lib.hid (show R4.ok by rw [h4]; exact zero_ok)
  have HO5 := Lib.hid (show R5.ok by rw [h5]; exact zero_ok)
  have HO6 := Lib.hid (show R6.ok by rw [h6]; exact zero_ok)
  simp only [← h4] at CP4
  simp only [← h5] at CP5
  simp only [← h6] at CP6
  clear h4 h5 h6
  have HI1 := Lib.hid (info_ref HO1.out)
  have HS1 := Lib.hid (show (refC zeroR).size = (refC R1).size by rw [refC_size zero_ok, refC_size HO1.out])
  have HI2 := Lib.hid (info_ref HO2.out)
  have HS2 := Lib.hid (show (refC zeroR).size = (refC R2).size by rw [refC_size zero_ok, refC_size HO2.out])
  have HI3 := Lib.hid (info_ref HO3.out)
  have HS3 := Lib.hid (show (refC zeroR).size = (refC R3).size by rw [refC_size zero_ok, refC_size HO3.out])
  have HI4 := Lib.hid (info_ref HO4.out)
  have HS4 := Lib.hid (show (refC zeroR).size = (refC R4).size by rw [refC_size zero_ok, refC_size HO4.out])
  have HI5 := Lib.hid (info_ref HO5.out)
  have HS5 := Lib.hid (show (refC zeroR).size = (refC R5).size by rw [refC_size zero_ok, refC_size HO5.out])
  have HI6 := Lib.hid (info_ref HO6.out)
  have HS6 := Lib.hid (show (refC zeroR).size = (refC R6).size by rw [refC_size zero_ok, refC_size HO6.out])
  go_enter Tryd.func8, Tryd.ntmps8
  go_wp2_with (first
    | (go_at_call 9; ((with_reducible refine (CP1 _).mono ?_); rintro e w1 ⟨rfl, b1⟩); replace M := Lib.hid (M.out.below b1); clear b1 CP1; obtain ⟨v1, hv1⟩ : ∃ v, w1.alloc (.cells #[.string ⟨#[]⟩, .string ⟨#[]⟩, .string ⟨#[]⟩, .int .u8 0, .int .u8 0, .int .u8 0, .int .u8 0, .int .u8 0, .int .u8 0, .int .u8 0, .int .u8 0, .int .u8 0, .int .u8 0, .int .u8 0, .int .u8 0, .int .u8 0, .int .u8 0, .int .u8 0, .int .u8 0, .int .u8 0, .int .u8 0, .int .u8 0, .int .u8 0, .int .u8 0, .int .u8 0, .int .u8 0, .int .u8 0, .int .u8 0, .int .u8 0, .int .u8 0, .int .u8 0, .int .u8 0, .int .u8 0, .int .u8 0, .int .u8 0, .bool false] 26) = v := ⟨_, rfl⟩; obtain ⟨HZ1, HN1⟩ := M.out.made hv1 R1; replace HZ1 := Lib.hid HZ1; replace M := Lib.hid HN1; clear HN1)
    | ((with_reducible show wpList _ _ _ (⟨none, .store _ (.tmp 1) _, _, _, _, _⟩ :: _) _ _); refine wpList_store_row rfl 26 _ _ rfl w1.heap.size (refC R1) rfl rfl 26 (refC zeroR) HZ1.out HI1.out HS1.out (refC_all _) ?_; generalize World.setRow _ _ _ = x1 at *; clear hv1)
    | (go_at_call 9; ((with_reducible refine (CP2 _).mono ?_); rintro e w2 ⟨rfl, b2⟩); replace M := Lib.hid (M.out.below b2); clear b2 CP2; obtain ⟨v2, hv2⟩ : ∃ v, w2.alloc (.cells #[.string ⟨#[]⟩, .string ⟨#[]⟩, .string ⟨#[]⟩, .int .u8 0, .int .u8 0, .int .u8 0, .int .u8 0, .int .u8 0, .int .u8 0, .int .u8 0, .int .u8 0, .int .u8 0, .int .u8 0, .int .u8 0, .int .u8 0, .int .u8 0, .int .u8 0, .int .u8 0, .int .u8 0, .int .u8 0, .int .u8 0, .int .u8 0, .int .u8 0, .int .u8 0, .int .u8 0, .int .u8 0, .int .u8 0, .int .u8 0, .int .u8 0, .int .u8 0, .int .u8 0, .int .u8 0, .int .u8 0, .int .u8 0, .int .u8 0, .bool false] 26) = v := ⟨_, rfl⟩; obtain ⟨HZ2, HN2⟩ := M.out.made hv2 R2; replace HZ2 := Lib.hid HZ2; replace M := Lib.hid HN2; clear HN2)
    | ((with_reducible show wpList _ _ _ (⟨none, .store _ (.tmp 3) _, _, _, _, _⟩ :: _) _ _); refine wpList_store_row rfl 26 _ _ rfl w2.heap.size (refC R2) rfl rfl 26 (refC zeroR) HZ2.out HI2.out HS2.out (refC_all _) ?_; generalize World.setRow _ _ _ = x2 at *; clear hv2)
    | (go_at_call 9; ((with_reducible refine (CP3 _).mono ?_); rintro e w3 ⟨rfl, b3⟩); replace M := Lib.hid (M.out.below b3); clear b3 CP3; obtain ⟨v3, hv3⟩ : ∃ v, w3.alloc (.cells #[.string ⟨#[]⟩, .string ⟨#[]⟩, .string ⟨#[]⟩, .int .u8 0, .int .u8 0, .int .u8 0, .int .u8 0, .int .u8 0, .int .u8 0, .int .u8 0, .int .u8 0, .int .u8 0, .int .u8 0, .int .u8 0, .int .u8 0, .int .u8 0, .int .u8 0, .int .u8 0, .int .u8 0, .int .u8 0, .int .u8 0, .int .u8 0, .int .u8 0, .int .u8 0, .int .u8 0, .int .u8 0, .int .u8 0, .int .u8 0, .int .u8 0, .int .u8 0, .int .u8 0, .int .u8 0, .int .u8 0, .int .u8 0, .int .u8 0, .bool false] 26) = v := ⟨_, rfl⟩; obtain ⟨HZ3, HN3⟩ := M.out.made hv3 R3; replace HZ3 := Lib.hid HZ3; replace M := Lib.hid HN3; clear HN3)
    | ((with_reducible show wpList _ _ _ (⟨none, .store _ (.tmp 5) _, _, _, _, _⟩ :: _) _ _); refine wpList_store_row rfl 26 _ _ rfl w3.heap.size (refC R3) rfl rfl 26 (refC zeroR) HZ3.out HI3.out HS3.out (refC_all _) ?_; generalize World.setRow _ _ _ = x3 at *; clear hv3)
    | (go_at_call 9; ((with_reducible refine (CP4 _).mono ?_); rintro e w4 ⟨rfl, b4⟩); replace M := Lib.hid (M.out.below b4); clear b4 CP4; obtain ⟨v4, hv4⟩ : ∃ v, w4.alloc (.cells #[.string ⟨#[]⟩, .string ⟨#[]⟩, .string ⟨#[]⟩, .int .u8 0, .int .u8 0, .int .u8 0, .int .u8 0, .int .u8 0, .int .u8 0, .int .u8 0, .int .u8 0, .int .u8 0, .int .u8 0, .int .u8 0, .int .u8 0, .int .u8 0, .int .u8 0, .int .u8 0, .int .u8 0, .int .u8 0, .int .u8 0, .int .u8 0, .int .u8 0, .int .u8 0, .int .u8 0, .int .u8 0, .int .u8 0, .int .u8 0, .int .u8 0, .int .u8 0, .int .u8 0, .int .u8 0, .int .u8 0, .int .u8 0, .int .u8 0, .bool false] 26) = v := ⟨_, rfl⟩; obtain ⟨HZ4, HN4⟩ := M.out.made hv4 R4; replace HZ4 := Lib.hid HZ4; replace M := Lib.hid HN4; clear HN4)
    | ((with_reducible show wpList _ _ _ (⟨none, .store _ (.tmp 7) _, _, _, _, _⟩ :: _) _ _); refine wpList_store_row rfl 26 _ _ rfl w4.heap.size (refC R4) rfl rfl 26 (refC zeroR) HZ4.out HI4.out HS4.out (refC_all _) ?_; generalize World.setRow _ _ _ = x4 at *; clear hv4)
    | (go_at_call 9; ((with_reducible refine (CP5 _).mono ?_); rintro e w5 ⟨rfl, b5⟩); replace M := Lib.hid (M.out.below b5); clear b5 CP5; obtain ⟨v5, hv5⟩ : ∃ v, w5.alloc (.cells #[.string ⟨#[]⟩, .string ⟨#[]⟩, .string ⟨#[]⟩, .int .u8 0, .int .u8 0, .int .u8 0, .int .u8 0, .int .u8 0, .int .u8 0, .int .u8 0, .int .u8 0, .int .u8 0, .int .u8 0, .int .u8 0, .int .u8 0, .int .u8 0, .int .u8 0, .int .u8 0, .int .u8 0, .int .u8 0, .int .u8 0, .int .u8 0, .int .u8 0, .int .u8 0, .int .u8 0, .int .u8 0, .int .u8 0, .int .u8 0, .int .u8 0, .int .u8 0, .int .u8 0, .int .u8 0, .int .u8 0, .int .u8 0, .int .u8 0, .bool false] 26) = v := ⟨_, rfl⟩; obtain ⟨HZ5, HN5⟩ := M.out.made hv5 R5; replace HZ5 := Lib.hid HZ5; replace M := Lib.hid HN5; clear HN5)
    | ((with_reducible show wpList _ _ _ (⟨none, .store _ (.tmp 9) _, _, _, _, _⟩ :: _) _ _); refine wpList_store_row rfl 26 _ _ rfl w5.heap.size (refC R5) rfl rfl 26 (refC zeroR) HZ5.out HI5.out HS5.out (refC_all _) ?_; generalize World.setRow _ _ _ = x5 at *; clear hv5)
    | (go_at_call 9; ((with_reducible refine (CP6 _).mono ?_); rintro e w6 ⟨rfl, b6⟩); replace M := Lib.hid (M.out.below b6); clear b6 CP6; obtain ⟨v6, hv6⟩ : ∃ v, w6.alloc (.cells #[.string ⟨#[]⟩, .string ⟨#[]⟩, .string ⟨#[]⟩, .int .u8 0, .int .u8 0, .int .u8 0, .int .u8 0, .int .u8 0, .int .u8 0, .int .u8 0, .int .u8 0, .int .u8 0, .int .u8 0, .int .u8 0, .int .u8 0, .int .u8 0, .int .u8 0, .int .u8 0, .int .u8 0, .int .u8 0, .int .u8 0, .int .u8 0, .int .u8 0, .int .u8 0, .int .u8 0, .int .u8 0, .int .u8 0, .int .u8 0, .int .u8 0, .int .u8 0, .int .u8 0, .int .u8 0, .int .u8 0, .int .u8 0, .int .u8 0, .bool false] 26) = v := ⟨_, rfl⟩; obtain ⟨HZ6, HN6⟩ := M.out.made hv6 R6; replace HZ6 := Lib.hid HZ6; replace M := Lib.hid HN6; clear HN6)
    | ((with_reducible show wpList _ _ _ (⟨none, .store _ (.tmp 11) _, _, _, _, _⟩ :: _) _ _); refine wpList_store_row rfl 26 _ _ rfl w6.heap.size (refC R6) rfl rfl 26 (refC zeroR) HZ6.out HI6.out HS6.out (refC_all _) ?_; generalize World.setRow _ _ _ = x6 at *; clear hv6)
    | ((with_reducible show wpList _ _ _ (⟨some 40, _, _, _, _, _⟩ :: _) _ _); refine wpList_load_rowG rfl 26 _ rfl w1.heap.size rfl 26 (refC R1) _ (M.out.at_ _ _ (by repeat (first | exact List.Mem.head _ | apply List.Mem.tail))).1 Tryd.underlying26 rfl HI1.out ?_)
    | ((with_reducible show wpList _ _ _ (⟨some 45, _, _, _, _, _⟩ :: _) _ _); refine wpList_load_rowG rfl 26 _ rfl w1.heap.size rfl 26 (refC R1) _ (M.out.at_ _ _ (by repeat (first | exact List.Mem.head _ | apply List.Mem.tail))).1 Tryd.underlying26 rfl HI1.out ?_)
    | ((with_reducible show wpList _ _ _ (⟨some 81, _, _, _, _, _⟩ :: _) _ _); refine wpList_load_rowG rfl 26 _ rfl w3.heap.size rfl 26 (refC R3) _ (M.out.at_ _ _ (by repeat (first | exact List.Mem.head _ | apply List.Mem.tail))).1 Tryd.underlying26 rfl HI3.out ?_)
    | (go_at_call 11; ((with_reducible refine (CT1 _).mono ?_); rintro e wt ⟨rfl, bt⟩); replace M := Lib.hid (M.out.below bt); clear bt)
    | (go_at_call 13; ((with_reducible refine (CS1 _).mono ?_); rintro e ws1 ⟨rfl, bs1⟩); replace M := Lib.hid (M.out.below bs1); clear bs1; obtain ⟨k20, k21, k22, -⟩ := (M.out.at_ _ _ (show (w2.heap.size, R2) ∈ _ from (by repeat (first | exact List.Mem.head _ | apply List.Mem.tail)))).1.cells HO2.out; obtain ⟨-, -, k32, k33⟩ := (M.out.at_ _ _ (show (w3.heap.size, R3) ∈ _ from (by repeat (first | exact List.Mem.head _ | apply List.Mem.tail)))).1.cells HO3.out; rw [HR3p.out] at k33)
    | (go_at_call 13; ((with_reducible refine (CS3 _).mono ?_); rintro e ws3 ⟨rfl, bs3⟩); replace M := Lib.hid (M.out.below bs3); clear bs3)
    | (go_at_call 13; ((with_reducible refine (CS7 _).mono ?_); rintro e ws7 ⟨rfl, bs7⟩); replace M := Lib.hid (M.out.below bs7); clear bs7)
    | ((with_reducible show wpList _ _ _ (⟨some 96, _, _, _, _, _⟩ :: _) _ _); refine wpList_build_as (o := ⟨some 96, _, _, _, _, _⟩) rfl 26 _ rfl (refC ⟨hubB, [97, 46, 98, 47, 99], latestB, zero32, false⟩) ?_ ?_; kernel_rfl))
  go_ret
  exact ⟨rfl, M.out.b⟩
end Go.Proofs.YtldbfjcfobdkpaaDoor
