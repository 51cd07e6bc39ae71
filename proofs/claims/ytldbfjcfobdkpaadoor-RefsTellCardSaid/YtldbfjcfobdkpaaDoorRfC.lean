/- Layer 12: the document's 'front'. -/
import Derived.Test.YtldbfjcfobdkpaaDoorRfB
namespace Go.Proofs.YtldbfjcfobdkpaaDoor
open Go.RowKit

theorem ofC (s : List UInt8) (t : ByteArray) (w : World) (hs : s.length ≤ 1000000) (ht : t.size ≤ 1000000) :
    Calls Tryd.prog 32 #[.string (str s), .string t] w fun e w' => e = .returned (.bool (ofB s t.data.toList)) ∧ Below w.heap.size w w' :=
  (of_any (str s) t w (by rw [str_size]; exact hs) ht).mono fun e w' ⟨he, n, hw⟩ => ⟨by rw [he, str_toList], hw ▸ below_drewN (Below.refl _ _) n⟩
theorem cutC (s : List UInt8) (c : UInt8) (i : Int) (hi : i = (c.toNat : Int)) (w : World) (hs : s.length ≤ 1000000) :
    Calls Tryd.prog 20 #[.string (str s), .int .u8 i] w fun e w' => ∃ a cap, e = .returned (.slice a (cutL s c).length cap) ∧ OwnsS w' w.heap.size (.slice a (cutL s c).length cap) (cutL s c) ∧ Below w.heap.size w w' :=
  hi ▸ (cut_any (str s) c w (by rw [str_size]; exact hs)).mono fun e w' ⟨v, he, ho, hb⟩ => by
    rw [str_toList] at ho
    obtain ⟨a, cap, rfl⟩ := ho.form
    exact ⟨a, cap, he, ho, hb⟩
theorem OwnsS.below {w w' : World} {base : Nat} {v : Value} {l : List (List UInt8)} (h : OwnsS w base v l) (hb : Below w.heap.size w w') : OwnsS w' base v l := (Chg.of_below (s := fun _ => False) hb).owns h (fun _ _ => id)
theorem eq_lit (h l : List UInt8) : ((str h).toList == l) = decide (h = l) := by
  unfold str
  rw [ByteArray.toList_mk, Bool.eq_iff_iff, beq_iff_eq, decide_eq_true_eq]
theorem eq_local (h : List UInt8) : ((str h).toList == [108, 111, 99, 97, 108, 104, 111, 115, 116]) = decide (h = localB) := eq_lit h localB
set_option maxRecDepth 100000 in
set_option maxHeartbeats 2000000 in
theorem front_any (s : List UInt8) (w : World) (hs : s.length ≤ 1000000) :
    Calls Tryd.prog 22 #[.string (str s)] w fun e w' => e = .returned (.string (str (frontR s))) ∧ Below w.heap.size w w' := by
  have CA := cutC s 47 47 rfl w hs
  have hpos := cutL_pos s 47
  have hle := cutL_le s 47
  have hh := cutL_getD_le s 47 0
  have C46 := fun w => cutC ((cutL s 47).getD 0 []) 46 46 rfl w (by omega)
  have C58 := fun w => cutC ((cutL s 47).getD 0 []) 58 58 rfl w (by omega)
  have hle2 := cutL_le ((cutL s 47).getD 0 []) 46
  have hle3 := cutL_le ((cutL s 47).getD 0 []) 58
  have he := eq_local ((cutL s 47).getD 0 [])
  have HF := Lib.hid (show frontR s = if (decide (1 < (cutL s 47).length) && isDom ((cutL s 47).getD 0 [])) = true then (cutL s 47).getD 0 [] else [] from rfl)
  unfold isDom at HF
  generalize frontR s = F at *
  generalize cutL s 47 = L at *
  generalize hh0 : L.getD 0 [] = h at *
  have HH := Lib.hid hh0.symm
  clear hh0
  generalize cutL h 46 = L2 at *
  generalize cutL h 58 = L3 at *
  obtain ⟨N, hN⟩ : ∃ N, N = L.length := ⟨_, rfl⟩
  obtain ⟨N2, hN2⟩ : ∃ N2, N2 = L2.length := ⟨_, rfl⟩
  obtain ⟨N3, hN3⟩ : ∃ N3, N3 = L3.length := ⟨_, rfl⟩
  rw [← hN] at CA hpos hle HF
  rw [← hN2] at C46 hle2 HF
  rw [← hN3] at C58 hle3 HF
  have HN := Lib.hid hN
  clear hN hN2 hN3
  have hb1 : N ≤ 1000001 := by omega
  have hb2 : N2 ≤ 1000001 := by omega
  have hb3 : N3 ≤ 1000001 := by omega
  have cases5 : (¬ 1 < N ∧ F = []) ∨ (1 < N ∧ 1 < N2 ∧ F = h) ∨ (1 < N ∧ ¬ 1 < N2 ∧ 1 < N3 ∧ F = h) ∨ (1 < N ∧ ¬ 1 < N2 ∧ ¬ 1 < N3 ∧ h = localB ∧ F = h) ∨ (1 < N ∧ ¬ 1 < N2 ∧ ¬ 1 < N3 ∧ ¬ h = localB ∧ F = []) := by
    have e := HF.out
    by_cases p1 : 1 < N <;> by_cases p2 : 1 < N2 <;> by_cases p3 : 1 < N3 <;> by_cases p4 : h = localB <;> simp [p1, p2, p3, p4] at e ⊢ <;> exact e
  clear HF hle hle2 hle3
  rcases cases5 with ⟨p1, rfl⟩ | ⟨p1, p2, rfl⟩ | ⟨p1, p2, p3, rfl⟩ | ⟨p1, p2, p3, p4, rfl⟩ | ⟨p1, p2, p3, p4, rfl⟩
  all_goals
    first | (rw [decide_eq_true p4] at he; clear p4) | (rw [decide_eq_false p4] at he; clear p4) | skip
    have q1 : decide ((1 : Int) < (N : Int)) = decide (1 < N) := by rw [decide_eq_decide]; omega
    have q2 : decide ((1 : Int) < (N2 : Int)) = decide (1 < N2) := by rw [decide_eq_decide]; omega
    have q3 : decide ((1 : Int) < (N3 : Int)) = decide (1 < N3) := by rw [decide_eq_decide]; omega
    go_enter Tryd.func22, Tryd.ntmps22
    go_wp2_with (first
      | (go_at_call 20; ((with_reducible refine (CA).mono ?_); rintro e w1 ⟨a1, cap1, rfl, o1, b1⟩); have O1 := Lib.hid o1; have B1 := Lib.hid b1; obtain ⟨g, hga, -, e1⟩ := o1.at (k := 0) (by have := HN.out; omega); subst hga; rw [← HH.out] at e1; clear o1 b1 CA)
      | (go_at_call 20; ((with_reducible refine (C46 _).mono ?_); rintro e w2 ⟨a2, cap2, rfl, o2, b2⟩); have B2 := Lib.hid (B1.out.trans (b2.mono B1.out.size)); obtain ⟨g2, hga2, -, e2⟩ := (O1.out.below b2).at (k := 0) (by have := HN.out; omega); simp only [Option.some.injEq, Addr.mk.injEq, and_true] at hga2; subst hga2; rw [← HH.out] at e2; have O2 := Lib.hid (O1.out.below b2); clear o2 b2 C46)
      | (go_at_call 20; ((with_reducible refine (C58 _).mono ?_); rintro e w3 ⟨a3, cap3, rfl, o3, b3⟩); have B3 := Lib.hid (B2.out.trans (b3.mono B2.out.size)); obtain ⟨g3, hga3, -, e3⟩ := (O2.out.below b3).at (k := 0) (by have := HN.out; omega); simp only [Option.some.injEq, Addr.mk.injEq, and_true] at hga3; subst hga3; rw [← HH.out] at e3; clear o3 b3 C58))
    go_ret
    first
      | exact ⟨rfl, B3.out⟩
      | exact ⟨rfl, B2.out⟩
      | exact ⟨rfl, B1.out⟩

end Go.Proofs.YtldbfjcfobdkpaaDoor
