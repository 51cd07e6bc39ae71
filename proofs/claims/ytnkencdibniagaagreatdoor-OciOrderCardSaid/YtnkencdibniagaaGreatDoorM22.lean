/- Merged: DxC, DxE, DpA. -/
import Derived.Test.YtnkencdibniagaaGreatDoorM21
/- Layer 5, for whoever stands on it: a digest's text, as the document has it. (Out of DigC.) -/
namespace Go.Proofs.YtnkencdibniagaaGreatDoor
open Go.RowKit

theorem take_snoc8 (l : List UInt8) (k : Nat) (h : k < l.length) : l.take (k + 1) = l.take k ++ [l.getD k 0] := by
  rw [List.take_succ_eq_append_getElem h, List.getD_eq_getElem?_getD, List.getElem?_eq_getElem h]; rfl
end Go.Proofs.YtnkencdibniagaaGreatDoor

/- Layer 5, for whoever stands on it: a text's digest, as the document has it. (Out of DigB, DigE.) -/
namespace Go.Proofs.YtnkencdibniagaaGreatDoor
open Go.RowKit


/-- Two digests in memory, the one behind the other. -/
structure TwoM (W w : World) (l m : List UInt8) : Prop where
  r0 : rowC w W.heap.size (cells8 l) 24
  r1 : rowC w (W.heap.size + 1) (cells8 m) 24
  nx : Below W.heap.size W w
theorem TwoM.start (w : World) (l m : List UInt8) : TwoM w ((w.alloc (.cells (cells8 l) 24)).alloc (.cells (cells8 m) 24)) l m := by
  have h2 := rowC_new (w.alloc (.cells (cells8 l) 24)) (cells8 m) 24
  simp only [size_alloc] at h2
  exact ⟨rowC_alloc (rowC_new w _ _) _, h2, ((Below.refl _ _).alloc (Nat.le_refl _) _).alloc (by simp) _⟩
theorem TwoM.drewN {W w : World} {l m : List UInt8} (h : TwoM W w l m) (n : Nat) : TwoM W (w.drewN n) l m := ⟨h.r0, h.r1, below_drewN h.nx n⟩
theorem cells8_at {w : World} {b : Nat} {l : List UInt8} {t : TypeId} (h : rowC w b (cells8 l) t) {k : Nat} (hk : k < l.length) : w.cell? ⟨b, k, none⟩ = some (.int .u8 ((l.getD k 0).toNat : Int)) := by
  rw [rowC_cell h, cells8_get l k hk]; rfl

theorem TwoM.set1 {W w : World} {l m : List UInt8} (h : TwoM W w l m) (i : Nat) (b : UInt8) : TwoM W (w.setCell ⟨W.heap.size + 1, i, none⟩ (byteV b)) l (m.set i b) := by
  refine ⟨rowC_other h.r0 _ _ (by simp), ?_, h.nx.setCell (p := ⟨W.heap.size + 1, i, none⟩) (by simp) _⟩
  rw [← cells8_set]
  exact rowC_set h.r1 i _
theorem TwoM.lt {W w : World} {l m : List UInt8} (h : TwoM W w l m) : W.heap.size + 2 ≤ w.heap.size := rowC_lt h.r1
theorem TwoM.below {W w w' : World} {l m : List UInt8} (h : TwoM W w l m) (hb : Below w.heap.size w w') : TwoM W w' l m := by
  have := h.lt
  exact ⟨rowC_below h.r0 hb (by omega), rowC_below h.r1 hb (by omega), h.nx.trans (hb.mono (by omega))⟩
theorem TwoM.row0 {W w : World} {l m : List UInt8} (h : TwoM W w l m) (y : List UInt8) : TwoM W (w.setRow W.heap.size (cells8 y)) y m :=
  ⟨rowC_setRow h.r0 _, rowC_setRow_other h.r1 _ _ (by omega), below_setRow h.nx (by omega) _⟩
end Go.Proofs.YtnkencdibniagaaGreatDoor

/- Layer 5, for whoever stands on it: a digit, as the program has it. (Out of DigA.) -/
namespace Go.Proofs.YtnkencdibniagaaGreatDoor
open Go.RowKit

/-- What the program's digit is of a rune. -/
def valR (r : Nat) : Nat := if 48 ≤ r ∧ r ≤ 57 then r - 48 else if 97 ≤ r ∧ r ≤ 102 then r - 87 else 0
def isR (r : Nat) : Bool := decide (48 ≤ r ∧ r ≤ 57) || decide (97 ≤ r ∧ r ≤ 102)
theorem dret2 {a b : Int} {c d : Bool} (h : a = b) (h' : c = d) : Ending.returned (.tuple #[.int .u8 a, .bool c]) = .returned (.tuple #[.int .u8 b, .bool d]) := by rw [h, h']
set_option maxHeartbeats 400000 in
theorem valueOf_any (r : Nat) (w : World) (hr : r ≤ 2147483647) :
    Calls Tryz.prog 171 #[.int .i32 (r : Int)] w fun e w' => e = .returned (.tuple #[.int .u8 (valR r : Nat), .bool (isR r)]) ∧ w = w' := by
  by_cases h1 : 48 ≤ r ∧ r ≤ 57
  · have HV := Lib.hid (show ((valR r : Nat) : Int) = (r : Int) - 48 ∧ isR r = true by unfold valR isR; rw [if_pos h1, decide_eq_true h1]; exact ⟨by omega, rfl⟩)
    obtain ⟨a1, a2⟩ := h1
    have b1 : (48 : Int) ≤ r := by omega
    have b2 : (r : Int) ≤ 57 := by omega
    go_enter Tryz.func171, Tryz.ntmps171
    go_wp2
    go_ret2
    exact ⟨dret2 (by rw [HV.out.1]; try omega) HV.out.2.symm, rfl⟩
  · by_cases h2 : 97 ≤ r ∧ r ≤ 102
    · have HV := Lib.hid (show ((valR r : Nat) : Int) = (r : Int) - 97 + 10 ∧ isR r = true by unfold valR isR; rw [if_neg h1, if_pos h2, decide_eq_true h2]; exact ⟨by omega, by simp⟩)
      obtain ⟨a1, a2⟩ := h2
      have b1 : (97 : Int) ≤ r := by omega
      have b2 : (r : Int) ≤ 102 := by omega
      clear h1
      go_enter Tryz.func171, Tryz.ntmps171
      go_wp2
      go_ret2
      exact ⟨dret2 (by rw [HV.out.1]; try omega) HV.out.2.symm, rfl⟩
    · have HV := Lib.hid (show ((valR r : Nat) : Int) = 0 ∧ isR r = false by unfold valR isR; rw [if_neg h1, if_neg h2, decide_eq_false h1, decide_eq_false h2]; exact ⟨rfl, rfl⟩)
      have h3 : r < 48 ∨ (58 ≤ r ∧ r < 97) ∨ 103 ≤ r := by omega
      clear h1 h2
      rcases h3 with h3 | ⟨h3, h4⟩ | h3
      · have b1 : (r : Int) < 48 := by omega
        go_enter Tryz.func171, Tryz.ntmps171
        go_wp2
        go_ret2
        exact ⟨dret2 (by rw [HV.out.1]) HV.out.2.symm, rfl⟩
      · have b1 : (58 : Int) ≤ r := by omega
        have b2 : (r : Int) < 97 := by omega
        go_enter Tryz.func171, Tryz.ntmps171
        go_wp2
        go_ret2
        exact ⟨dret2 (by rw [HV.out.1]) HV.out.2.symm, rfl⟩
      · have b1 : (103 : Int) ≤ r := by omega
        go_enter Tryz.func171, Tryz.ntmps171
        go_wp2
        go_ret2
        exact ⟨dret2 (by rw [HV.out.1]) HV.out.2.symm, rfl⟩
end Go.Proofs.YtnkencdibniagaaGreatDoor

