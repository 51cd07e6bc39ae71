/- Layer 4: two digests against each other; a hasher that is none. -/
import Derived.Test.YtkjhfjibddcenaaDoorShaL
namespace Go.Proofs.YtkjhfjibddcenaaDoor
open Go.RowKit

theorem eqItems_bytes (w : World) (l m : List UInt8) (d : Nat) : ∀ is : List Nat, (∀ i ∈ is, i < l.length ∧ i < m.length) →
    (Op.eqItems (d + 1) 5 1 (cells8 l) (cells8 m) is).run Tryd.prog w = .ok (is.all fun i => l.getD i 0 == m.getD i 0) w
  | [], _ => by simp [Op.eqItems]
  | i :: is, h => by
    obtain ⟨h1, h2⟩ := h i (by simp)
    have ih := eqItems_bytes w l m d is (fun j hj => h j (by simp [hj]))
    have p1 := run_part_plain (P := Tryd.prog) w (e := 5) (by kernel_rfl) (cells8_get l i h1)
    have p2 := run_part_plain (P := Tryd.prog) w (e := 5) (by kernel_rfl) (cells8_get m i h2)
    have p3 := run_equalIn_int (P := Tryd.prog) w d 5 .u8 .u8 ((l.getD i 0).toNat : Int) ((m.getD i 0).toNat : Int) Tryd.underlying5
    have e : (((l.getD i 0).toNat : Int) == ((m.getD i 0).toNat : Int)) = (l.getD i 0 == m.getD i 0) := by
      rw [Bool.eq_iff_iff]; simp only [beq_iff_eq]
      constructor
      · intro h; exact UInt8.toNat_inj.1 (by omega)
      · intro h; rw [h]
    rw [e] at p3
    unfold byteV at p1 p2
    rw [Op.eqItems, Nat.mul_one]
    simp only [Sem.run_bind, p1, p2, p3, Result.andThen_ok, List.all_cons]
    cases l.getD i 0 == m.getD i 0
    · simp
    · simpa using ih
theorem all_bytes {l m : List UInt8} (hl : l.length = 32) (hm : m.length = 32) : ((List.range 32).all fun i => l.getD i 0 == m.getD i 0) = decide (l = m) := by
  rw [Bool.eq_iff_iff, List.all_eq_true, decide_eq_true_eq]
  constructor
  · intro h
    refine List.ext_getElem? fun i => ?_
    by_cases hi : i < 32
    · have := h i (List.mem_range.2 hi)
      rw [beq_iff_eq, List.getD_eq_getElem?_getD, List.getD_eq_getElem?_getD, List.getElem?_eq_getElem (by omega), List.getElem?_eq_getElem (by omega)] at this
      rw [List.getElem?_eq_getElem (by omega), List.getElem?_eq_getElem (by omega)]
      exact congrArg some this
    · rw [List.getElem?_eq_none (by omega), List.getElem?_eq_none (by omega)]
  · rintro rfl i _
    simp
theorem eq_digest (w : World) (d : Nat) {l m : List UInt8} (hl : l.length = 32) (hm : m.length = 32) : (Op.equalIn (d + 2) 24 (.agg (cells8 l)) (.agg (cells8 m))).run Tryd.prog w = .ok (decide (l = m)) w := by
  have hc : Tryd.prog.cellsOf 5 = 1 := by kernel_rfl
  obtain ⟨i, hi⟩ := info_of_underlying Tryd.underlying5
  rw [run_equalIn_array w (d + 1) _ _ Tryd.underlying24 hi, hc, eqItems_bytes w l m d _ (fun i hi => by have := List.mem_range.1 hi; omega), all_bytes hl hm]
theorem guard_digest : Tryd.prog.eqGuardType Tryd.prog.depth 24 = false := by kernel_rfl

/-! ### A hasher that is none -/
set_option maxHeartbeats 400000 in
theorem write_none (w : World) (x : Value) (s : ByteArray) (hN : Calls Tryd.prog 17 #[x] w fun e w' => e = .returned (.bool true) ∧ w = w') :
    Calls Tryd.prog 12 #[x, .string s] w fun e w' => e = .returned (.int .i64 0) ∧ w = w' := by
  have HN := Lib.hid hN
  clear hN
  go_enter Tryd.func12, Tryd.ntmps12
  go_wp2_with (go_at_call 17; ((with_reducible refine (HN.out).mono ?_); rintro e w' ⟨rfl, rfl⟩))
  go_ret
  exact ⟨rfl, rfl⟩
set_option maxHeartbeats 400000 in
theorem size_none (w : World) (x : Value) (hN : Calls Tryd.prog 17 #[x] w fun e w' => e = .returned (.bool true) ∧ w = w') :
    Calls Tryd.prog 14 #[x] w fun e w' => e = .returned (.int .i64 0) ∧ w = w' := by
  have HN := Lib.hid hN
  clear hN
  go_enter Tryd.func14, Tryd.ntmps14
  go_wp2_with (go_at_call 17; ((with_reducible refine (HN.out).mono ?_); rintro e w' ⟨rfl, rfl⟩))
  go_ret
  exact ⟨rfl, rfl⟩
set_option maxHeartbeats 400000 in
theorem copy_none (w : World) (x : Value) (hN : Calls Tryd.prog 17 #[x] w fun e w' => e = .returned (.bool true) ∧ w = w') :
    Calls Tryd.prog 11 #[x] w fun e w' => e = .returned (.pointer none) ∧ w = w' := by
  have HN := Lib.hid hN
  clear hN
  go_enter Tryd.func11, Tryd.ntmps11
  go_wp2_with (go_at_call 17; ((with_reducible refine (HN.out).mono ?_); rintro e w' ⟨rfl, rfl⟩))
  go_ret
  exact ⟨rfl, rfl⟩
set_option maxRecDepth 100000 in
set_option maxHeartbeats 400000 in
theorem sum_none (w : World) (x : Value) (hN : ∀ W, Below w.heap.size w W → Calls Tryd.prog 17 #[x] W fun e w' => e = .returned (.bool true) ∧ W = w') :
    Calls Tryd.prog 13 #[x] w fun e w' => e = .returned (.agg (cells8 (List.replicate 32 0))) ∧ Below w.heap.size w w' := by
  have HN := Lib.hid hN
  clear hN
  go_enter Tryd.func13, Tryd.ntmps13
  go_wp2_with (first
    | (go_at_call 17; ((with_reducible refine (HN.out _ ?_).mono ?_); (exact (Below.refl _ _).alloc (Nat.le_refl _) _); rintro e w' ⟨rfl, rfl⟩))
    | (refine wpList_load_row rfl 24 _ rfl w.heap.size rfl 24 (cells8 (List.replicate 32 0)) (0, 0) _ (rowC_new w (cells8 (List.replicate 32 0)) 24) Tryd.underlying24 rfl (by kernel_rfl) ?_)
    | (refine wpList_store_last rfl 24 _ _ rfl w.heap.size (cells8 (List.replicate 32 0)) rfl rfl 24 #[Value.int IntKind.u8 0, Value.int IntKind.u8 0, Value.int IntKind.u8 0, Value.int IntKind.u8 0, Value.int IntKind.u8 0, Value.int IntKind.u8 0, Value.int IntKind.u8 0, Value.int IntKind.u8 0, Value.int IntKind.u8 0, Value.int IntKind.u8 0, Value.int IntKind.u8 0, Value.int IntKind.u8 0, Value.int IntKind.u8 0, Value.int IntKind.u8 0, Value.int IntKind.u8 0, Value.int IntKind.u8 0, Value.int IntKind.u8 0, Value.int IntKind.u8 0, Value.int IntKind.u8 0, Value.int IntKind.u8 0, Value.int IntKind.u8 0, Value.int IntKind.u8 0, Value.int IntKind.u8 0, Value.int IntKind.u8 0, Value.int IntKind.u8 0, Value.int IntKind.u8 0, Value.int IntKind.u8 0, Value.int IntKind.u8 0, Value.int IntKind.u8 0, Value.int IntKind.u8 0, Value.int IntKind.u8 0, Value.int IntKind.u8 0] rfl (by kernel_rfl) rfl (cells8_one _) ?_))
  exact bodyPost_ret (results_cell_row rfl _ _ w.heap.size 24 (cells8 (List.replicate 32 0)) (0, 0) _ rfl (rowC_new w _ _) Tryd.underlying24 rfl (by kernel_rfl)) rfl ⟨rfl, (Below.refl _ _).alloc (Nat.le_refl _) _⟩
end Go.Proofs.YtkjhfjibddcenaaDoor
