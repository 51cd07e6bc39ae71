/- Layer 14: the document's 'nought' and 'joined'. -/
import Derived.Test.YtekfchlgkdgpdaaDoorPtB
namespace Go.Proofs.YtekfchlgkdgpdaaDoor
open Go.RowKit

theorem retB {a b : Bool} (h : a = b) : Ending.returned (.bool a) = .returned (.bool b) := by rw [h]
theorem has_take (s : List UInt8) {k : Nat} (h : k < s.length) : decide ((0 : UInt8) ∈ s.take (k + 1)) = (decide ((0 : UInt8) ∈ s.take k) || (s.getD k 0 == 0)) := by
  rw [List.take_succ_eq_append_getElem h, List.getD_eq_getElem?_getD, List.getElem?_eq_getElem h]
  simp only [Option.getD_some, List.mem_append, List.mem_singleton, Bool.decide_or]
  congr 1
  rw [Bool.eq_iff_iff, decide_eq_true_eq, beq_iff_eq]
  exact eq_comm
theorem has_here {s : List UInt8} {k : Nat} (h : k < s.length) (h0 : (s.getD k 0 == 0) = true) : decide ((0 : UInt8) ∈ s) = true := by
  rw [decide_eq_true_eq]
  rw [beq_iff_eq, List.getD_eq_getElem?_getD, List.getElem?_eq_getElem h] at h0
  simp only [Option.getD_some] at h0
  exact h0 ▸ List.getElem_mem h
set_option maxRecDepth 100000 in
set_option maxHeartbeats 2000000 in
theorem nought_any (s : ByteArray) (w : World) (hs : s.size ≤ 1000000) :
    Calls Tryd.prog 27 #[.string s] w fun e w' => e = .returned (.bool (decide ((0 : UInt8) ∈ s.data.toList))) ∧ w = w' := by
  have HSL := Lib.hid (show s.data.toList.length = s.size by simp)
  have IS := Lib.hid (fun (i : Nat) (h : i < s.size) => idx_str s i i rfl h)
  go_enter Tryd.func27, Tryd.ntmps27
  go_wp2
  go_loopw [3] (fun v wr => ∃ k : Nat, k ≤ s.size ∧ v = .int .i64 k ∧ Hid (decide ((0 : UInt8) ∈ s.data.toList.take k) = false) ∧ wr = w) (fun v _ => s.size - (intOf v).toNat)
  case atStart => exact ⟨0, Nat.zero_le _, rfl, Lib.hid rfl, rfl⟩
  case round =>
    obtain ⟨k, hk, rfl, hok, rfl⟩ := hrel
    by_cases hlt : k < s.size
    · have g1 : (k : Int) < (s.size : Int) := by omega
      have HN := Lib.hid (has_take s.data.toList (k := k) (by have := HSL.out; omega))
      have HH := Lib.hid (has_here (s := s.data.toList) (k := k) (by have := HSL.out; omega))
      have i1 := IS.out k hlt
      have hq : (((s.data[k]'(by simpa using hlt)).toNat : Int) == 0) = (s.data.toList.getD k 0 == 0) := by
        rw [← getD_data s hlt]
        exact beq_u8 _ 0
      generalize (s.data.toList.getD k 0 == 0) = c at *
      cases c
      · go_wp2
        go_roundw
        case rel => exact ⟨k + 1, by omega, by go_num, by rw [HN.out, hok.out]; exact Lib.hid rfl, by trivial⟩
        case measure => simp [intOf]; omega
      · go_wp2
        go_ret
        exact ⟨retB (by have h := HH.out (by trivial); simp only [Array.mem_toList_iff] at h; exact h.symm), rfl⟩
    · have HE := Lib.hid (show decide ((0 : UInt8) ∈ s.data.toList) = false by have := hok.out; rwa [List.take_of_length_le (by have := HSL.out; omega)] at this)
      go_wp2
      go_ret
      exact ⟨retB HE.out.symm, rfl⟩
theorem join_take (l : List (List UInt8)) {k : Nat} (h : k < l.length) : joinL (l.take (k + 1)) = (if k = 0 then joinL (l.take k) else joinL (l.take k) ++ [47]) ++ l.getD k [] := by
  rw [List.take_succ_eq_append_getElem h, List.getD_eq_getElem?_getD, List.getElem?_eq_getElem h, Option.getD_some]
  by_cases h0 : k = 0
  · subst h0
    rw [if_pos rfl, List.take_zero, List.nil_append, joinL_one]
    rfl
  · rw [if_neg h0, joinL_snoc (by intro e; have := congrArg List.length e; rw [List.length_take, List.length_nil] at this; omega), List.append_assoc]
    rfl
theorem join_len_take (l : List (List UInt8)) (k : Nat) : (joinL (l.take k)).length ≤ (joinL l).length := by
  by_cases hk : k < l.length
  · by_cases h0 : l.take k = []
    · rw [h0]; exact Nat.zero_le _
    · have h1 : l.drop k ≠ [] := by
        intro e
        have := congrArg List.length e
        rw [List.length_drop] at this
        simp at this
        omega
      have := joinL_append h0 h1
      rw [List.take_append_drop] at this
      rw [this, List.length_append]
      omega
  · rw [List.take_of_length_le (by omega)]
    exact Nat.le_refl _
set_option maxRecDepth 100000 in
set_option maxHeartbeats 4000000 in
theorem joined_any (a : Option Addr) (cap : Nat) (l : List (List UInt8)) (w : World) (hr : RdS w a l) (hn : l.length ≤ 1000000) (hl : (joinL l).length ≤ 1000000) :
    Calls Tryd.prog 28 #[.slice a l.length cap] w fun e w' => e = .returned (.string (str (joinL l))) ∧ w = w' := by
  have HR := Lib.hid hr
  have HJ := Lib.hid (fun k => join_len_take l k)
  have HL := Lib.hid hl
  obtain ⟨N, hN⟩ : ∃ N, N = l.length := ⟨_, rfl⟩
  have HN := Lib.hid hN
  rw [← hN] at hn ⊢
  clear hr hl hN
  go_enter Tryd.func28, Tryd.ntmps28
  go_wp2
  go_loopw [3, 4] (fun t v wr => ∃ k : Nat, k ≤ N ∧ v = .int .i64 k ∧ t = .string (str (joinL (l.take k))) ∧ wr = w) (fun _ v _ => N - (intOf v).toNat)
  case atStart => exact ⟨0, Nat.zero_le _, rfl, rfl, rfl⟩
  case round =>
    obtain ⟨k, hk, rfl, rfl, rfl⟩ := hrel
    by_cases hlt : k < N
    · have g1 : (k : Int) < (N : Int) := by omega
      have HT := Lib.hid (join_take l (k := k) (by have := HN.out; omega))
      obtain ⟨g, rfl, _, e1⟩ := HR.out k (by have := HN.out; omega)
      have hb1 := HJ.out k
      have hb2 := HJ.out (k + 1)
      have hb3 := HL.out
      have hb4 := congrArg List.length HT.out
      rw [List.length_append] at hb4
      obtain ⟨q, hq⟩ : ∃ q, q = l.getD k [] := ⟨_, rfl⟩
      obtain ⟨m, hm⟩ : ∃ m, m = joinL (l.take k) := ⟨_, rfl⟩
      rw [← hq] at e1 hb4 HT
      rw [← hm] at hb1 hb4 HT ⊢
      have zm := str_size m
      have zq := str_size q
      have z1 : (⟨#[47]⟩ : ByteArray).size = 1 := rfl
      have hmq : m.length + q.length ≤ 1000000 := by split at hb4 <;> (try simp only [List.length_append, List.length_singleton] at hb4) <;> omega
      have HB := Lib.hid hb4
      clear hb1 hb2 hb3 hb4 hq hm
      by_cases h0 : k = 0
      · subst h0
        go_wp2
        go_roundw
        case rel => exact ⟨0 + 1, by omega, by go_num, by rw [HT.out, if_pos rfl, str_append], by trivial⟩
        case measure => simp [intOf]; omega
      · have g0 : (0 : Int) < (k : Int) := by omega
        have zmx : (str m ++ ⟨#[47]⟩ : ByteArray).size = m.length + 1 := by rw [ByteArray.size_append, zm, z1]
        go_wp2
        go_roundw
        case rel => exact ⟨k + 1, by omega, by go_num, by
          rw [HT.out, if_neg h0, ← str_append, ← str_append]
          rfl, by trivial⟩
        case measure => simp [intOf]; omega
    · have HE := Lib.hid (show l.take k = l by rw [List.take_of_length_le (by have := HN.out; omega)])
      rw [HE.out]
      go_wp2
      go_ret
      exact ⟨rfl, rfl⟩
end Go.Proofs.YtekfchlgkdgpdaaDoor
