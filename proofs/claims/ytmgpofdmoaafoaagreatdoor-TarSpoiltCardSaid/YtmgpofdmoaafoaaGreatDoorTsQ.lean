/- Layer 15: what the document reads of fields: whether all is 0, a text, a number. -/
import Derived.Test.YtmgpofdmoaafoaaGreatDoorTsI
namespace Go.Proofs.YtmgpofdmoaafoaaGreatDoor
open Go.RowKit

def numI (o : Option Nat) : Int := match o with
  | some n => (n : Int)
  | none => -1
theorem getD_in8 {s : Bs} {k : Nat} (h : k < s.length) : s.getD k 0 = s[k] := by simp [List.getD, h]
theorem zero8 {x : UInt8} (h : x.toNat = 0) : x = 0 := UInt8.toNat_inj.1 (by rw [h]; rfl)
theorem cut_at {s : Bs} {k : Nat} (h : (s.take k).all (· != 0) = true) (hk : k < s.length) (h0 : (s.getD k 0).toNat = 0) : cut0 s = s.take k := by
  unfold cut0
  conv => lhs; rw [← List.take_append_drop k s]
  rw [List.takeWhile_append_of_pos (fun a ha => List.all_eq_true.1 h a ha), List.drop_eq_getElem_cons hk, List.takeWhile_cons_of_neg, List.append_nil]
  rw [← getD_in8 hk, zero8 h0]
  decide
theorem cut_end {s : Bs} (h : s.all (· != 0) = true) : cut0 s = s := by
  unfold cut0
  have := List.takeWhile_append_of_pos (p := fun x : UInt8 => x != 0) (l₁ := s) (l₂ := []) (fun a ha => List.all_eq_true.1 h a ha)
  rw [List.append_nil] at this
  rw [this]
  simp
theorem all_next {s : Bs} {p : UInt8 → Bool} {k : Nat} (h : (s.take k).all p = true) (hk : k < s.length) (hp : p (s.getD k 0) = true) : (s.take (k + 1)).all p = true := by
  rw [List.take_succ_eq_append_getElem hk, List.all_append, h, ← getD_in8 hk]
  show (true && (p (s.getD k 0) && true)) = true
  rw [hp]
  rfl
set_option maxRecDepth 100000 in
set_option maxHeartbeats 8000000 in
theorem emptyR_any (s : Bs) (hs : s.length ≤ 1099511627776) (w : World) : Calls Tryz.prog 22 #[.string (str s)] w fun e w' => e = .returned (.bool (allZ s)) ∧ w = w' := by
  have hz := str_size s
  have IS := Lib.hid (fun (i : Nat) (h : i < (str s).size) => idx_str (str s) i i rfl h)
  have HD := Lib.hid (fun (k : Nat) (h : k < (str s).size) => getD_data (str s) h)
  rw [str_toList] at IS HD
  have HNO : Hid (∀ k, k < s.length → (s.getD k 0).toNat ≠ 0 → allZ s = false) := Lib.hid fun k hk h0 => by
    rw [Bool.eq_false_iff]
    intro h
    rw [allZ_iff] at h
    exact h0 (by rw [getD_in8 hk, h _ (List.getElem_mem hk)]; rfl)
  have HNX : Hid (∀ k, k < s.length → (s.getD k 0).toNat = 0 → allZ (s.take k) = true → allZ (s.take (k + 1)) = true) := Lib.hid fun k hk h0 h => all_next h hk (by rw [zero8 h0]; rfl)
  have HEND : Hid (allZ (s.take s.length) = allZ s) := Lib.hid (by rw [List.take_length])
  generalize str s = S at *
  go_enter Tryz.func22, Tryz.ntmps22
  go_wp2
  go_loop [3] (fun i => ∃ k : Nat, k ≤ s.length ∧ i = .int .i64 k ∧ Hid (allZ (s.take k) = true)) (fun i => s.length - (intOf i).toNat)
  case atStart => exact ⟨0, Nat.zero_le _, rfl, Lib.hid rfl⟩
  case round =>
    obtain ⟨k, hk, rfl, hA⟩ := hrel
    by_cases hlt : k < s.length
    · have HLT := Lib.hid hlt
      have i1 := IS.out k (by omega)
      have g2 : (k : Int) < (S.size : Int) := by omega
      have hx := HD.out k (by omega)
      have HN1 := Lib.hid (HNO.out k hlt)
      have HN2 := Lib.hid (fun h => HNX.out k hlt h hA.out)
      obtain ⟨x, hxx⟩ : ∃ x, x = (s.getD k 0).toNat := ⟨_, rfl⟩
      have hx2 : (S.data[k]'(by simpa using (show k < S.size by omega))).toNat = x := by rw [hxx, hx]
      rw [← hxx] at i1 HN1 HN2
      clear hx hxx IS HD HNO HNX HEND hA
      by_cases hx0 : x = 0
      · subst hx0
        have HB := Lib.hid (HN2.out rfl)
        go_wp2
        go_round
        case rel => exact ⟨k + 1, Nat.succ_le_of_lt HLT.out, by go_num, HB⟩
        case measure => have := HLT.out; simp [intOf]; omega
      · have hxi : ((x : Int) == 0) = false := by rw [beq_eq_false_iff_ne]; omega
        have hxj : (x : Int) ≠ 0 := by omega
        have HB := Lib.hid (HN1.out hx0)
        go_wp2
        go_ret
        exact ⟨by rw [HB.out]; rfl, rfl⟩
    · obtain rfl : k = s.length := by omega
      have HB : Hid (allZ s = true) := Lib.hid (by rw [← HEND.out]; exact hA.out)
      clear HEND HNO HNX hA
      go_wp2
      go_ret
      exact ⟨by rw [HB.out]; rfl, rfl⟩
set_option maxRecDepth 100000 in
set_option maxHeartbeats 8000000 in
theorem fieldR_any (s : Bs) (hs : s.length ≤ 1099511627776) (w : World) : Calls Tryz.prog 25 #[.string (str s)] w fun e w' => e = .returned (.string (str (cut0 s))) ∧ w = w' := by
  have hz := str_size s
  have IS := Lib.hid (fun (i : Nat) (h : i < (str s).size) => idx_str (str s) i i rfl h)
  have HD := Lib.hid (fun (k : Nat) (h : k < (str s).size) => getD_data (str s) h)
  rw [str_toList] at IS HD
  have HNO : Hid (∀ k, k < s.length → (s.getD k 0).toNat = 0 → (s.take k).all (· != 0) = true → str (cut0 s) = (str s).extract 0 k) := Lib.hid fun k hk h0 h => by
    rw [cut_at h hk h0, extract_str, sl, List.drop_zero]
  have HNX : Hid (∀ k, k < s.length → (s.getD k 0).toNat ≠ 0 → (s.take k).all (· != 0) = true → (s.take (k + 1)).all (· != 0) = true) := Lib.hid fun k hk h0 h => all_next h hk (by rw [bne_iff_ne]; intro e; exact h0 (by rw [e]; rfl))
  have HEND : Hid ((s.take s.length).all (· != 0) = true → str (cut0 s) = str s) := Lib.hid fun h => by rw [List.take_length] at h; rw [cut_end h]
  generalize str (cut0 s) = R at *
  generalize str s = S at *
  go_enter Tryz.func25, Tryz.ntmps25
  go_wp2
  go_loop [3] (fun i => ∃ k : Nat, k ≤ s.length ∧ i = .int .i64 k ∧ Hid ((s.take k).all (· != 0) = true)) (fun i => s.length - (intOf i).toNat)
  case atStart => exact ⟨0, Nat.zero_le _, rfl, Lib.hid rfl⟩
  case round =>
    obtain ⟨k, hk, rfl, hA⟩ := hrel
    by_cases hlt : k < s.length
    · have HLT := Lib.hid hlt
      have i1 := IS.out k (by omega)
      have g2 : (k : Int) < (S.size : Int) := by omega
      have g3 : (k : Int) ≤ (S.size : Int) := by omega
      have hx := HD.out k (by omega)
      have HN1 := Lib.hid (fun h => HNO.out k hlt h hA.out)
      have HN2 := Lib.hid (fun h => HNX.out k hlt h hA.out)
      obtain ⟨x, hxx⟩ : ∃ x, x = (s.getD k 0).toNat := ⟨_, rfl⟩
      have hx2 : (S.data[k]'(by simpa using (show k < S.size by omega))).toNat = x := by rw [hxx, hx]
      rw [← hxx] at i1 HN1 HN2
      clear hx hxx IS HD HNO HNX HEND hA
      by_cases hx0 : x = 0
      · subst hx0
        have HB := Lib.hid (HN1.out rfl)
        go_wp2
        go_ret
        exact ⟨by rw [HB.out]; rfl, rfl⟩
      · have hxi : ((x : Int) == 0) = false := by rw [beq_eq_false_iff_ne]; omega
        have hxj : ¬ (x : Int) = 0 := by omega
        have HB := Lib.hid (HN2.out hx0)
        go_wp2
        go_round
        case rel => exact ⟨k + 1, Nat.succ_le_of_lt HLT.out, by go_num, HB⟩
        case measure => have := HLT.out; simp [intOf]; omega
    · obtain rfl : k = s.length := by omega
      have HB := Lib.hid (HEND.out hA.out)
      clear HEND HNO HNX hA
      go_wp2
      go_ret
      exact ⟨by rw [HB.out]; rfl, rfl⟩
end Go.Proofs.YtmgpofdmoaafoaaGreatDoor
#print axioms Go.Proofs.YtmgpofdmoaafoaaGreatDoor.emptyR_any
#print axioms Go.Proofs.YtmgpofdmoaafoaaGreatDoor.fieldR_any
