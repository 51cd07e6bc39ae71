/- Layer 4: ShaApart, of any arguments. -/
import Derived.Test.YtkjhfjibddcenaaDoorShaU
namespace Go.Proofs.YtkjhfjibddcenaaDoor
open Go.RowKit

theorem bounds_u8 {n : Int} (h : (Lit.int .u8 n).wf = true) : 0 ≤ n ∧ n < 256 := by
  simp [Lit.wf, IntKind.min, IntKind.max, IntKind.signed, IntKind.bits] at h
  omega
theorem bounds_u16 {n : Int} (h : (Lit.int .u16 n).wf = true) : 0 ≤ n ∧ n < 65536 := by
  simp [Lit.wf, IntKind.min, IntKind.max, IntKind.signed, IntKind.bits] at h
  omega
set_option maxRecDepth 100000 in
set_option maxHeartbeats 1000000 in
theorem shaApart_any (s : ByteArray) (a b : Int) (w : World) (_ : s.size ≤ maxLen) (ha : (Lit.int .u16 a).wf = true) (hb : (Lit.int .u8 b).wf = true) (L : Laid w) :
    Calls Tryd.prog 6 #[.string s, .int .u16 a, .int .u8 b] w fun e w' => e = .returned (.bool true) ∧ Below w.heap.size w w' := by
  obtain ⟨a0, a1⟩ := bounds_u16 ha
  obtain ⟨b0, b1⟩ := bounds_u8 hb
  obtain ⟨l, rfl⟩ : ∃ l, s = str l := ⟨s.data.toList, (str_list s).symm⟩
  obtain ⟨A, rfl⟩ : ∃ A : Nat, a = A := ⟨a.toNat, by omega⟩
  obtain ⟨B, rfl⟩ : ∃ B : UInt8, b = (B.toNat : Int) := ⟨UInt8.ofNat b.toNat, by simp; omega⟩
  clear ha hb
  by_cases h : 0 < l.length ∧ l.length ≤ 500 ∧ B ≠ 0
  · exact shaApart_walk l A B w (by omega) h.1 h.2.1 h.2.2 L
  · have hw2 := L.lt
    have HL := Lib.hid L
    have szl : (str l).size = l.length := str_size l
    clear L a0 a1 b0 b1
    by_cases h1 : l.length = 0
    · have e1 : ((l.length : Int) == 0) = true := by rw [beq_iff_eq]; omega
      clear h h1
      go_enter Tryd.func6, Tryd.ntmps6
      go_wp2_with (go_at_call 7; ((with_reducible refine (hashed_any _ HL.out).mono ?_); rintro e w1 ⟨rfl, hb1⟩))
      go_ret
      exact ⟨rfl, hb1⟩
    · have e1 : ((l.length : Int) == 0) = false := by rw [beq_eq_false_iff_ne]; omega
      by_cases h2 : 500 < l.length
      · have e2 : (500 : Int) < (l.length : Int) := by omega
        clear h h1 h2
        go_enter Tryd.func6, Tryd.ntmps6
        go_wp2_with (go_at_call 7; ((with_reducible refine (hashed_any _ HL.out).mono ?_); rintro e w1 ⟨rfl, hb1⟩))
        go_ret
        exact ⟨rfl, hb1⟩
      · have e2 : ¬ (500 : Int) < (l.length : Int) := by omega
        have hB : B = 0 := Classical.byContradiction fun hn => h ⟨by omega, by omega, hn⟩
        subst hB
        clear h h1 h2
        go_enter Tryd.func6, Tryd.ntmps6
        go_wp2_with (go_at_call 7; ((with_reducible refine (hashed_any _ HL.out).mono ?_); rintro e w1 ⟨rfl, hb1⟩))
        go_ret
        exact ⟨rfl, hb1⟩
end Go.Proofs.YtkjhfjibddcenaaDoor
