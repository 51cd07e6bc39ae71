/- Digests in memory (wants the type api.Digest of the cut). -/
import Derived.Test.YtemnfnmkhfgopaaDoorRow
import Derived.Test.YtemnfnmkhfgopaaDoorByt
namespace Go.Proofs.YtemnfnmkhfgopaaDoor
open Go.RowKit
theorem eq_digest (w : World) (d : Nat) {l m : List UInt8} (hl : l.length = 32) (hm : m.length = 32) : (Op.equalIn (d + 2) 26 (.agg (cells8 l)) (.agg (cells8 m))).run Tryd.prog w = .ok (decide (l = m)) w := by
  have hc : Tryd.prog.cellsOf 5 = 1 := by kernel_rfl
  obtain ⟨i, hi⟩ := info_of_underlying Tryd.underlying5
  rw [run_equalIn_array w (d + 1) _ _ Tryd.underlying26 hi, hc, eqItems_bytes w l m d _ (fun i hi => by have := List.mem_range.1 hi; omega), all_bytes hl hm]
theorem guard_digest : Tryd.prog.eqGuardType Tryd.prog.depth 26 = false := by kernel_rfl

/-- A byte of a digest that is held as a value. -/
theorem idx_row (l : List UInt8) (k : Nat) (hk : k < 32) (hl : l.length = 32) : ∀ w, (Instr.index 26 (.agg (cells8 l)) (.int .i64 (k : Int))).run Tryd.prog w = .ok (.int .u8 ((l.getD k 0).toNat : Int)) w := by
  intro w
  have p1 := run_part_plain (P := Tryd.prog) w (e := 5) (by kernel_rfl) (cells8_get l k (by omega))
  have hs : (sizeOf 5).run Tryd.prog w = .ok 1 w := by kernel_rfl
  have hc : (0 : Int) ≤ (k : Int) ∧ (k : Int) < (32 : Nat) := by omega
  unfold Instr.index
  simp only [asIntOf, Sem.run_bind, Sem.run_pure, Result.andThen_ok, run_underlying Tryd.underlying26]
  rw [if_pos hc]
  simp only [Sem.run_bind, hs, Result.andThen_ok, Nat.mul_one, Int.toNat_natCast, p1]
  rfl
theorem info_digest {l : List UInt8} (hl : l.length = 32) : (Tryd.prog.info? 26).map (·.size) = some (cells8 l).size := by rw [cells8_size, hl]; kernel_rfl
end Go.Proofs.YtemnfnmkhfgopaaDoor
