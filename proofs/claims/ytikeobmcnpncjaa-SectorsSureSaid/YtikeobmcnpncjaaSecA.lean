/- Layer 6: a sector of one byte; the document's disk in memory. -/
import Derived.Test.YtikeobmcnpncjaaByt
import Derived.Test.YtikeobmcnpncjaaChg
import Derived.Test.YtikeobmcnpncjaaSecM
namespace Go.Proofs.Ytikeobmcnpncjaa
open Go.RowKit

theorem fill_set (c : UInt8) (k : Nat) (h : k < 512) : (List.replicate k c ++ List.replicate (512 - k) 0).set k c = List.replicate (k + 1) c ++ List.replicate (512 - (k + 1)) 0 := by
  rw [List.set_append_right _ _ (by rw [List.length_replicate]; omega), List.length_replicate, Nat.sub_self, show 512 - k = (512 - (k + 1)) + 1 by omega, List.replicate_succ, List.set_cons_zero, List.replicate_succ']
  simp
set_option maxRecDepth 100000 in
set_option maxHeartbeats 1000000 in
theorem sector_any (c : UInt8) (w : World) :
    Calls Try.prog 23 #[byteV c] w fun e w' => e = .returned (.string (secB c)) ∧ Below w.heap.size w w' := by
  obtain ⟨i0, hi, hz0, hz1, hz2⟩ := info_parts info_u8
  obtain ⟨x, hx⟩ : ∃ x, x = c.toNat := ⟨_, rfl⟩
  have HV := Lib.hid (show .int .u8 (x : Int) = byteV c by rw [hx]; rfl)
  rw [← HV.out]
  clear hx
  go_enter Try.func23, Try.ntmps23
  go_wp2_with (at_make; refine wpList_make_full _ rfl _ _ 55 rfl w.heap.size 5 i0 (.int .u8 0) 1 Try.underlying55 hi hz0 hz1 .i64 .i64 _ _ 512 rfl rfl rfl rfl (by rw [hz2]; omega) (by unfold maxLen; omega) (Nat.le_refl _) ?_; intro w0 hown0 hgrow0)
  have hb0 : Below w.heap.size w w0 := (Below.refl _ _).grown hgrow0 (Nat.le_refl _) (fun j hj => by cases hj)
  rw [show (madeCells (Value.int IntKind.u8 0).cells (512 * 1)).toList = List.replicate 512 (.int .u8 0) from toList_madeCells_one _ _] at hown0
  clear hgrow0
  have hown1 : w0.ownsRow w.heap.size 5 1 (.slice (some ⟨w.heap.size, 0, none⟩) 512 512) 512 ((List.replicate 0 c ++ List.replicate (512 - 0) 0).map byteV) := by
    rw [List.replicate_zero, List.nil_append, List.map_replicate]; exact hown0
  clear hown0
  have HO := Lib.hid hown1
  clear hown1
  go_wp2
  go_loopw [4] (fun i wr => ∃ k : Nat, k ≤ 512 ∧ i = .int .i64 k ∧ wr.ownsRow w.heap.size 5 1 (.slice (some ⟨w.heap.size, 0, none⟩) 512 512) 512 ((List.replicate k c ++ List.replicate (512 - k) 0).map byteV) ∧ Below w.heap.size w wr) (fun i _ => 512 - (intOf i).toNat)
  case atStart => exact ⟨0, Nat.zero_le _, rfl, HO.out, hb0⟩
  case round =>
    obtain ⟨k, hk, rfl, hown, hnx⟩ := hrel
    clear HO hb0
    by_cases hlt : k < 512
    · have hset := Lib.hid (fill_set c k hlt)
      obtain ⟨ob, hob⟩ : ∃ ob, wr.cell? ⟨w.heap.size, k, none⟩ = some ob := by
        refine ⟨_, (hown.cellAt k (by omega)).trans (List.getElem?_eq_getElem (by simp; omega))⟩
      have hfz := hown.frozenAt k
      have hsto := (hown.stored k (byteV c)).1
      rw [← List.map_set, hset.out, ← HV.out] at hsto
      have hsto' := Lib.hid hsto
      have hki : (k : Int) < 512 := by omega
      clear hsto
      go_wp2
      go_roundw
      case rel => exact ⟨k + 1, by omega, by go_num, hsto'.out, hnx.setCell (p := ⟨w.heap.size, k, none⟩) (Nat.le_refl _) _⟩
      case measure => simp [intOf]; omega
    · obtain rfl : k = 512 := by omega
      rw [show 512 - 512 = 0 by omega, List.replicate_zero, List.append_nil] at hown
      obtain ⟨a, cap, hv, hcv⟩ := conv_own hown (List.length_replicate)
      simp only [Value.slice.injEq, true_and] at hv
      obtain ⟨rfl, rfl⟩ := hv
      clear hown
      go_wp2
      go_ret
      exact ⟨rfl, hnx⟩
end Go.Proofs.Ytikeobmcnpncjaa
