/- Layer 12: the document's 'of' and 'cut'. -/
import Derived.BigQuiet
import Derived.StillTailTactics
import Derived.Test.YtldbfjcfobdkpaaDoorMem
import Derived.Test.YtldbfjcfobdkpaaDoorChg
import Derived.Test.YtldbfjcfobdkpaaDoorRfM
namespace Go.Proofs.YtldbfjcfobdkpaaDoor
open Go.RowKit

theorem beq_u8 (a b : UInt8) : (((a.toNat : Int)) == ((b.toNat : Int))) = (a == b) := by
  rw [Bool.eq_iff_iff, beq_iff_eq, beq_iff_eq]
  constructor
  · intro h; exact UInt8.toNat_inj.1 (by omega)
  · intro h; rw [h]
theorem getD_data (s : ByteArray) {k : Nat} (h : k < s.size) : s.data.toList.getD k 0 = s.data[k]'(by simpa using h) := by
  rw [List.getD_eq_getElem?_getD, List.getElem?_eq_getElem (by simpa using h)]
  simp
theorem any_take (t : List UInt8) (x : UInt8) {j : Nat} (h : j < t.length) : (t.take (j + 1)).any (fun y => x == y) = ((t.take j).any (fun y => x == y) || (x == t.getD j 0)) := by
  rw [List.take_succ_eq_append_getElem h, List.any_append, List.getD_eq_getElem?_getD, List.getElem?_eq_getElem h]
  simp
theorem of_take (s t : List UInt8) {k : Nat} (h : k < s.length) : ofB (s.take (k + 1)) t = (ofB (s.take k) t && t.any fun y => s.getD k 0 == y) := by
  unfold ofB
  rw [List.take_succ_eq_append_getElem h, List.all_append, List.getD_eq_getElem?_getD, List.getElem?_eq_getElem h]
  simp
theorem of_none {s t : List UInt8} {k : Nat} (h : k < s.length) (hn : (t.any fun y => s.getD k 0 == y) = false) : ofB s t = false := by
  unfold ofB
  rw [List.all_eq_false]
  refine ⟨s.getD k 0, ?_, by rw [hn]; decide⟩
  rw [List.getD_eq_getElem?_getD, List.getElem?_eq_getElem h]
  exact List.getElem_mem h
set_option maxRecDepth 100000 in
set_option maxHeartbeats 2000000 in
theorem of_any (s t : ByteArray) (w : World) (hs : s.size ≤ 1000000) (ht : t.size ≤ 1000000) :
    Calls Tryd.prog 32 #[.string s, .string t] w fun e w' => e = .returned (.bool (ofB s.data.toList t.data.toList)) ∧ ∃ n, w' = w.drewN n := by
  have HSL := Lib.hid (show s.data.toList.length = s.size by simp)
  have HTL := Lib.hid (show t.data.toList.length = t.size by simp)
  have IS := Lib.hid (fun (i : Nat) (h : i < s.size) => idx_str s i i rfl h)
  have IT := Lib.hid (fun (i : Nat) (h : i < t.size) => idx_str t i i rfl h)
  go_enter Tryd.func32, Tryd.ntmps32
  go_wp2
  go_loopw [5] (fun v wr => ∃ k n : Nat, k ≤ s.size ∧ v = .int .i64 k ∧ Hid (ofB (s.data.toList.take k) t.data.toList = true) ∧ wr = w.drewN n) (fun v _ => s.size - (intOf v).toNat)
  case atStart => exact ⟨0, 0, Nat.zero_le _, rfl, Lib.hid rfl, rfl⟩
  case round =>
    obtain ⟨k, n, hk, rfl, hok, rfl⟩ := hrel
    by_cases hlt : k < s.size
    · have g1 : (k : Int) < (s.size : Int) := by omega
      go_wp2
      go_loopw [6, 7] (fun b v wr => ∃ j n' : Nat, j ≤ t.size ∧ b = .bool ((t.data.toList.take j).any fun y => s.data.toList.getD k 0 == y) ∧ v = .int .i64 j ∧ wr = w.drewN n') (fun _ v _ => t.size - (intOf v).toNat)
      case atStart => exact ⟨0, n, Nat.zero_le _, rfl, rfl, rfl⟩
      case round =>
        obtain ⟨j, n', hj, rfl, rfl, rfl⟩ := hrel
        by_cases hjt : j < t.size
        · have g2 : (j : Int) < (t.size : Int) := by omega
          have HN := Lib.hid (any_take t.data.toList (s.data.toList.getD k 0) (j := j) (by have := HTL.out; omega))
          have i1 := IS.out k hlt
          have i2 := IT.out j hjt
          have hq : (((s.data[k]'(by simpa using hlt)).toNat : Int) == ((t.data[j]'(by simpa using hjt)).toNat : Int)) = (s.data.toList.getD k 0 == t.data.toList.getD j 0) := by
            rw [← getD_data s hlt, ← getD_data t hjt]
            exact beq_u8 _ _
          generalize (t.data.toList.take j).any (fun y => s.data.toList.getD k 0 == y) = b at *
          generalize (s.data.toList.getD k 0 == t.data.toList.getD j 0) = c at *
          cases b
          all_goals
            go_wp2_with fail
            go_quiet (fail)
            go_wp2
            go_roundw
            case rel => exact ⟨j + 1, n' + nq, by omega, by rw [HN.out]; simp, by go_num, rfl⟩
            case measure => simp [intOf]; omega
        · have HE := Lib.hid (show (t.data.toList.take j).any (fun y => s.data.toList.getD k 0 == y) = t.data.toList.any (fun y => s.data.toList.getD k 0 == y) by rw [List.take_of_length_le (by have := HTL.out; omega)])
          have HO := Lib.hid (of_take s.data.toList t.data.toList (k := k) (by have := HSL.out; omega))
          cases hb : (t.data.toList.take j).any (fun y => s.data.toList.getD k 0 == y)
          · have HF := Lib.hid (of_none (s := s.data.toList) (t := t.data.toList) (k := k) (by have := HSL.out; omega) (by rw [← HE.out, hb]))
            clear hb
            go_wp2
            go_ret
            exact ⟨retBool HF.out.symm, n', rfl⟩
          · have HG := Lib.hid (show ofB (s.data.toList.take (k + 1)) t.data.toList = true by rw [HO.out, hok.out, ← HE.out, hb]; rfl)
            clear hb
            go_wp2
            go_roundw
            case rel => exact ⟨k + 1, n', by omega, by go_num, HG, rfl⟩
            case measure => simp [intOf]; omega
    · have HE := Lib.hid (show ofB s.data.toList t.data.toList = true by have := hok.out; rwa [List.take_of_length_le (by have := HSL.out; omega)] at this)
      go_wp2
      go_ret
      exact ⟨retBool HE.out.symm, n, rfl⟩
/-- A text's parts as a row of strings. -/
def strsV (l : List (List UInt8)) : List Value := l.map fun p => .string (str p)
def OwnsS (w : World) (base : Nat) (v : Value) (l : List (List UInt8)) : Prop := w.ownsRow base 9 1 v l.length (strsV l)
theorem info_string : (Tryd.prog.info? 9).map (fun i => (i.zero, i.size, i.bytes)) = some (some (.string ⟨#[]⟩), 1, 16) := by kernel_rfl
theorem OwnsS.form {w : World} {base : Nat} {v : Value} {l : List (List UInt8)} (h : OwnsS w base v l) : ∃ a cap, v = .slice a l.length cap := owns_form h
theorem OwnsS.at {w : World} {base : Nat} {a : Option Addr} {n cap : Nat} {l : List (List UInt8)} (h : OwnsS w base (.slice a n cap) l) {k : Nat} (hk : k < l.length) :
    ∃ g, a = some ⟨g, 0, none⟩ ∧ base ≤ g ∧ w.cell? ⟨g, k, none⟩ = some (.string (str (l.getD k []))) := by
  obtain ⟨g, cap', hv⟩ := owns_some h (by omega)
  simp only [Value.slice.injEq] at hv
  obtain ⟨rfl, rfl, rfl⟩ := hv
  refine ⟨g, rfl, (h.lt g rfl).1, ?_⟩
  rw [h.cellAt k (by simpa [strsV] using hk)]
  unfold strsV
  rw [List.getElem?_map, List.getElem?_eq_getElem hk, List.getD_eq_getElem?_getD, List.getElem?_eq_getElem hk]
  rfl
theorem OwnsS.set {w : World} {base g n cap : Nat} {l : List (List UInt8)} (h : OwnsS w base (.slice (some ⟨g, 0, none⟩) n cap) l) (k : Nat) (x : List UInt8) : OwnsS (w.setCell ⟨g, k, none⟩ (.string (str x))) base (.slice (some ⟨g, 0, none⟩) n cap) (l.set k x) := by
  obtain ⟨a, c, hv⟩ := h.form
  simp only [Value.slice.injEq] at hv
  obtain ⟨-, rfl, -⟩ := hv
  have h2 := (World.ownsRow.stored h k (.string (str x))).1
  show World.ownsRow _ _ _ _ _ _ _
  unfold strsV at h2 ⊢
  rw [List.length_set, List.map_set]
  exact h2
theorem owns_one_str (w : World) (x : List UInt8) : OwnsS (w.alloc (.cells #[.string (str x)] 9)) w.heap.size (.slice (some ⟨w.heap.size, 0, none⟩) 1 1) [x] :=
  ⟨by simp [strsV], .inr ⟨_, 1, _, rfl, Nat.le_refl _, heap_alloc_new w _, Nat.le_refl _, by unfold maxLen; omega, by simp, by simp [strsV]⟩⟩
end Go.Proofs.YtldbfjcfobdkpaaDoor
