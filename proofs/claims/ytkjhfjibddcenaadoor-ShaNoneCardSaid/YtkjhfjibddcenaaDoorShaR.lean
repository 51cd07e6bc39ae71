/- Layer 4: the walk of ShaNone. -/
import Derived.Test.YtkjhfjibddcenaaDoorShaP
namespace Go.Proofs.YtkjhfjibddcenaaDoor
open Go.RowKit

/-- Of a value that is no hasher, in whatever world that has grown. -/
structure Nones (v : Value) (w : World) : Prop where
  f : ∀ w', Below w.heap.size w w' → Calls Tryd.prog 17 #[v] w' fun e w'' => e = .returned (.bool true) ∧ w' = w''
set_option maxRecDepth 100000 in
set_option maxHeartbeats 1000000 in
theorem shaNone_walk (s : ByteArray) (w : World) (L : Laid w) :
    Calls Tryd.prog 5 #[.string s] w fun e w' => e = .returned (.bool true) ∧ Below w.heap.size w w' := by
  have HL := Lib.hid L
  clear L
  obtain ⟨Z, hZ⟩ : ∃ Z, Z = cells8 (List.replicate 32 0) := ⟨_, rfl⟩
  have q : ∀ w, (Op.equalIn 10000 24 (.agg Z) (.agg #[Value.int IntKind.u8 0, Value.int IntKind.u8 0, Value.int IntKind.u8 0, Value.int IntKind.u8 0, Value.int IntKind.u8 0, Value.int IntKind.u8 0, Value.int IntKind.u8 0, Value.int IntKind.u8 0, Value.int IntKind.u8 0, Value.int IntKind.u8 0, Value.int IntKind.u8 0, Value.int IntKind.u8 0, Value.int IntKind.u8 0, Value.int IntKind.u8 0, Value.int IntKind.u8 0, Value.int IntKind.u8 0, Value.int IntKind.u8 0, Value.int IntKind.u8 0, Value.int IntKind.u8 0, Value.int IntKind.u8 0, Value.int IntKind.u8 0, Value.int IntKind.u8 0, Value.int IntKind.u8 0, Value.int IntKind.u8 0, Value.int IntKind.u8 0, Value.int IntKind.u8 0, Value.int IntKind.u8 0, Value.int IntKind.u8 0, Value.int IntKind.u8 0, Value.int IntKind.u8 0, Value.int IntKind.u8 0, Value.int IntKind.u8 0])).run Tryd.prog w = .ok true w := fun w => by
    rw [hZ]
    refine (eq_digest w 9998 (l := List.replicate 32 0) (m := List.replicate 32 0) rfl rfl).trans ?_
    simp
  have CS : ∀ (w : World) (x : Value), (∀ W, Below w.heap.size w W → Calls Tryd.prog 17 #[x] W fun e w' => e = .returned (.bool true) ∧ W = w') →
      Calls Tryd.prog 13 #[x] w fun e w' => e = .returned (.agg Z) ∧ Below w.heap.size w w' := fun w x h => by rw [hZ]; exact sum_none w x h
  have gd := guard_digest
  obtain ⟨H0, hH0⟩ : ∃ H0, H0 = hzero := ⟨_, rfl⟩
  have hz0 : ∀ w, (zeroValue 38).run Tryd.prog w = .ok (.agg H0) w := fun w => by rw [hH0]; exact hzero_run w
  have hc0 : H0[0]? = some (.bool false) := by rw [hH0]; rfl
  have HC := Lib.hid hc0
  clear hH0 hc0
  clear hZ
  go_enter Tryd.func5, Tryd.ntmps5
  go_wp2
  go_loopw [3, 4] (fun h t wr => ∃ k : Nat, k ≤ 2 ∧ t = .int .i64 (k : Int) ∧ Nones h wr ∧ Below w.heap.size w wr) (fun _ t _ => 2 - (intOf t).toNat)
  case atStart => exact ⟨0, by omega, rfl, ⟨fun w' _ => none_nil w'⟩, Below.refl _ _⟩
  case round =>
    obtain ⟨k, hk, rfl, hn, hb⟩ := hrel
    by_cases hlt : k < 2
    · have hk' : (k : Int) < 2 := by omega
      go_wp2_with (first
        | (go_at_call 12; ((with_reducible refine (write_none _ _ _ (hn.f _ (Below.refl _ _))).mono ?_); rintro e w1 ⟨rfl, rfl⟩))
        | (go_at_call 13; ((with_reducible refine (CS _ _ hn.f).mono ?_); rintro e w2 ⟨rfl, hb2⟩))
        | (go_at_call 14; ((with_reducible refine (size_none _ _ (hn.f _ hb2)).mono ?_); rintro e w3 ⟨rfl, rfl⟩))
        | (go_at_call 11; ((with_reducible refine (copy_none _ _ (hn.f _ hb2)).mono ?_); rintro e w4 ⟨rfl, rfl⟩)))
      go_roundw
      case rel =>
        have hR := rowC_new w2 H0 38
        refine ⟨k + 1, by omega, by go_num, ⟨fun w' hb' => none_unmade w' _ ?_⟩, ?_⟩
        · rw [rowC_cell (rowC_below hR hb' (by simp)), HC.out]
        · exact (hb.trans (hb2.mono hb.size)).alloc (Nat.le_trans hb.size hb2.size) _
      case measure => simp [intOf]; omega
    · obtain rfl : k = 2 := by omega
      go_wp2_with (go_at_call 7; ((with_reducible refine (hashed_any _ (HL.out.below hb HL.out.lt)).mono ?_); rintro e w1 ⟨rfl, hb1⟩))
      go_ret
      exact ⟨rfl, hb.trans (hb1.mono hb.size)⟩
end Go.Proofs.YtkjhfjibddcenaaDoor
