/- Layer 12: two names' '=='. -/
import Derived.Test.YtldbfjcfobdkpaaDoorRfK
import Derived.ChangeKeysEq
namespace Go.Proofs.YtldbfjcfobdkpaaDoor
open Go.RowKit

theorem fields_ref : (Tryd.prog.fieldsOf 26).toList = [⟨"Domain", 9, 0, false, "", "", 0⟩, ⟨"Path", 9, 1, false, "", "", 16⟩, ⟨"Tag", 9, 2, false, "", "", 32⟩, ⟨"Digest", 24, 3, false, "", "", 48⟩, ⟨"Pinned", 4, 35, false, "", "", 80⟩] := by kernel_rfl
theorem refC_get0 (r : RR) : (refC r)[0]? = some (.string (str r.dom)) := by simp [refC, refL]
theorem refC_get1 (r : RR) : (refC r)[1]? = some (.string (str r.path)) := by simp [refC, refL]
theorem refC_get2 (r : RR) : (refC r)[2]? = some (.string (str r.tag)) := by simp [refC, refL]
theorem refC_get35 {r : RR} (h : r.ok) : (refC r)[35]? = some (.bool r.pin) := by
  have hd := h.dig
  unfold refC refL
  rw [List.getElem?_toArray, List.getElem?_append_right (by simp [hd])]
  simp [hd]
theorem refC_mid {r : RR} (h : r.ok) : (refC r).extract 3 (3 + 32) = cells8 r.dig := by
  have hd := h.dig
  unfold refC refL cells8
  rw [List.extract_toArray]
  congr 1
  rw [List.extract_eq_take_drop, List.append_assoc, List.drop_append_of_le_length (by simp)]
  simp [hd]
theorem part_dig {r : RR} (h : r.ok) (w : World) : (part 24 (refC r) 3).run Tryd.prog w = .ok (.agg (cells8 r.dig)) w := by
  have hs : (sizeOf 24).run Tryd.prog w = .ok 32 w := by kernel_rfl
  have ha : (isAgg 24).run Tryd.prog w = .ok true w := by
    unfold isAgg
    rw [Sem.run_bind, run_underlying Tryd.underlying24]
    rfl
  unfold part
  rw [Sem.run_bind, ha, Result.andThen_ok]
  simp only [if_true, Sem.run_bind, hs, Result.andThen_ok, Sem.run_pure]
  rw [refC_mid h]
theorem part_s {r : RR} {k : Nat} {s : ByteArray} (h : (refC r)[k]? = some (.string s)) (w : World) : (part 9 (refC r) k).run Tryd.prog w = .ok (.string s) w := run_part_plain w (by kernel_rfl) h
theorem part_b {r : RR} {k : Nat} {s : Bool} (h : (refC r)[k]? = some (.bool s)) (w : World) : (part 4 (refC r) k).run Tryd.prog w = .ok (.bool s) w := run_part_plain w (by kernel_rfl) h
theorem eq_ref (w : World) (d : Nat) {a b : RR} (ha : a.ok) (hb : b.ok) : (Op.equalIn (d + 3) 26 (.agg (refC a)) (.agg (refC b))).run Tryd.prog w = .ok (decide (a = b)) w := by
  have st (x y : List UInt8) : ((str x).toList == (str y).toList) = decide (x = y) := by
    unfold str
    rw [ByteArray.toList_mk, ByteArray.toList_mk, Bool.eq_iff_iff, beq_iff_eq, decide_eq_true_eq]
  rw [run_equalIn_struct w (d + 2) _ _ _ (by kernel_rfl) (by kernel_rfl), fields_ref]
  have e1 (x y : List UInt8) (w : World) : (Op.equalIn (d + 2) 9 (.string (str x)) (.string (str y))).run Tryd.prog w = .ok (decide (x = y)) w := by
    rw [run_equalIn_string w (d + 1) _ _ _ Tryd.underlying9, st]
  have e2 (x y : Bool) (w : World) : (Op.equalIn (d + 2) 4 (.bool x) (.bool y)).run Tryd.prog w = .ok (x == y) w := run_equalIn_bool' w (d + 1) _ _ _ Tryd.underlying4
  have e3 := eq_digest w d ha.dig hb.dig
  simp only [Op.eqFields, show ("Domain" : String) ≠ "_" by decide, show ("Path" : String) ≠ "_" by decide, show ("Tag" : String) ≠ "_" by decide, show ("Digest" : String) ≠ "_" by decide, show ("Pinned" : String) ≠ "_" by decide, ne_eq, not_false_eq_true, if_true, Sem.run_bind, Sem.run_ite, Sem.run_pure,
    part_s (refC_get0 a), part_s (refC_get0 b), part_s (refC_get1 a), part_s (refC_get1 b), part_s (refC_get2 a), part_s (refC_get2 b), part_dig ha, part_dig hb, part_b (refC_get35 ha), part_b (refC_get35 hb), Result.andThen_ok, e1, e2, e3]
  obtain ⟨a1, a2, a3, a4, a5⟩ := a
  obtain ⟨b1, b2, b3, b4, b5⟩ := b
  simp only [RR.mk.injEq]
  by_cases h1 : a1 = b1 <;> by_cases h2 : a2 = b2 <;> by_cases h3 : a3 = b3 <;> by_cases h4 : a4 = b4 <;> cases a5 <;> cases b5 <;> simp [h1, h2, h3, h4]
theorem guard_ref : Tryd.prog.eqGuardType Tryd.prog.depth 26 = false := by kernel_rfl
end Go.Proofs.YtldbfjcfobdkpaaDoor
