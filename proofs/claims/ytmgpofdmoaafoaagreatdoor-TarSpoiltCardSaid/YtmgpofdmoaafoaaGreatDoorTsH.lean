/- Layer 15: the document's names, and what may be written. -/
import Derived.Test.YtmgpofdmoaafoaaGreatDoorTsG
namespace Go.Proofs.YtmgpofdmoaafoaaGreatDoor
open Go.RowKit

set_option maxRecDepth 100000 in
set_option maxHeartbeats 8000000 in
theorem namedR_any (s : Bs) (w : World) : Calls Tryz.prog 27 #[.string (str s)] w fun e w' => e = .returned (.int .i64 ((textE s : Nat) : Int)) ∧ w = w' := by
  have hz := str_size s
  by_cases h2 : 200 < s.length
  · have HT : Hid (textE s = 3) := Lib.hid (by unfold textE; rw [if_pos h2])
    have g1 : (200 : Int) < ((str s).size : Int) := by omega
    generalize str s = S at *
    clear h2
    go_enter Tryz.func27, Tryz.ntmps27
    go_wp2
    go_ret
    exact ⟨by rw [HT.out]; rfl, rfl⟩
  · have HT : Hid (textE s = if decide (s ≠ [] ∧ (0 : UInt8) ∉ s) = true then 0 else 10) := Lib.hid (by
      unfold textE
      rw [if_neg h2]
      by_cases h3 : s = [] ∨ (0 : UInt8) ∈ s
      · rw [if_pos h3, if_neg (by simp only [decide_eq_true_eq]; rintro ⟨a, b⟩; rcases h3 with h | h; exact a h; exact b h)]
      · rw [if_neg h3, if_pos (by simp only [decide_eq_true_eq]; exact ⟨fun e => h3 (.inl e), fun e => h3 (.inr e)⟩)])
    have IS := Lib.hid (fun (i : Nat) (h : i < (str s).size) => idx_str (str s) i i rfl h)
    have HD := Lib.hid (fun (k : Nat) (h : k < (str s).size) => getD_data (str s) h)
    rw [str_toList] at IS HD
    have HNX : Hid (∀ k, k < s.length → decide (s ≠ [] ∧ (0 : UInt8) ∉ s.take (k + 1)) = (decide (s ≠ [] ∧ (0 : UInt8) ∉ s.take k) && decide ((s.getD k 0).toNat ≠ 0))) := Lib.hid fun k hk => by
      have e : s.getD k 0 = s[k] := by simp [List.getD, hk]
      rw [List.take_succ_eq_append_getElem hk, e, Bool.eq_iff_iff]
      simp only [List.mem_append, List.mem_singleton, not_or, Bool.and_eq_true, decide_eq_true_eq]
      have : (0 : UInt8) = s[k] ↔ s[k].toNat = 0 := ⟨fun h => by rw [← h]; rfl, fun h => (UInt8.toNat_inj.1 (by rw [h]; rfl))⟩
      rw [this]
      constructor
      · rintro ⟨a, b, c⟩; exact ⟨⟨a, b⟩, c⟩
      · rintro ⟨⟨a, b⟩, c⟩; exact ⟨a, b, c⟩
    have HEND : Hid (decide (s ≠ [] ∧ (0 : UInt8) ∉ s.take s.length) = decide (s ≠ [] ∧ (0 : UInt8) ∉ s)) := Lib.hid (by rw [List.take_length])
    have hnb : ((str s).toList == []) = !decide (s ≠ [] ∧ (0 : UInt8) ∉ s.take 0) := by
      rw [eq_lit]
      simp
    generalize hob : (fun k => decide (s ≠ [] ∧ (0 : UInt8) ∉ s.take k)) = ob at *
    have HOB := Lib.hid hob
    have hob2 : ∀ k, decide (s ≠ [] ∧ (0 : UInt8) ∉ s.take k) = ob k := fun k => by rw [← hob]
    rw [hob2] at hnb
    have HNX2 : Hid (∀ k, k < s.length → ob (k + 1) = (ob k && decide ((s.getD k 0).toNat ≠ 0))) := Lib.hid fun k hk => by rw [← hob2, ← hob2]; exact HNX.out k hk
    have HEND2 : Hid (ob s.length = decide (s ≠ [] ∧ (0 : UInt8) ∉ s)) := Lib.hid (by rw [← hob2]; exact HEND.out)
    clear hob hob2 HNX HEND HOB
    have g1 : ¬ (200 : Int) < ((str s).size : Int) := by omega
    generalize str s = S at *
    clear h2
    go_enter Tryz.func27, Tryz.ntmps27
    go_wp2
    go_loop [3, 4] (fun b i => ∃ k : Nat, k ≤ s.length ∧ i = .int .i64 k ∧ b = .bool (ob k)) (fun _ i => s.length - (intOf i).toNat)
    case atStart => exact ⟨0, Nat.zero_le _, rfl, by first | rfl | simp [hnb]⟩
    case round =>
      obtain ⟨k, hk, rfl, rfl⟩ := hrel
      by_cases hlt : k < s.length
      · have i1 := IS.out k (by omega)
        have hN := HNX2.out k hlt
        have g2 : (k : Int) < (S.size : Int) := by omega
        have hx := HD.out k (by omega)
        obtain ⟨x, hxx⟩ : ∃ x, x = (s.getD k 0).toNat := ⟨_, rfl⟩
        have hx2 : (S.data[k]'(by simpa using (show k < S.size by omega))).toNat = x := by rw [hxx, hx]
        rw [← hxx] at hN i1
        have HN := Lib.hid hN
        clear hx hxx hN IS HD HNX2 HEND2 hnb
        obtain ⟨b1, hb1⟩ : ∃ b1, b1 = ob (k + 1) := ⟨_, rfl⟩
        rw [← hb1] at HN
        have HB1 := Lib.hid hb1
        clear hb1
        generalize ob k = b0 at *
        by_cases hx0 : x = 0
        · subst hx0
          have HB : Hid (b1 = false) := Lib.hid (by rw [HN.out]; cases b0 <;> rfl)
          cases b0 <;>
          · go_wp2
            go_round
            case rel => exact ⟨k + 1, by omega, by go_num, by rw [← HB1.out, HB.out]⟩
            case measure => simp [intOf]; omega
        · have hxi : ((x : Int) == 0) = false := by rw [beq_eq_false_iff_ne]; omega
          have HB : Hid (b1 = b0) := Lib.hid (by rw [HN.out, decide_eq_true hx0, Bool.and_true])
          cases b0 <;>
          · go_wp2
            go_round
            case rel => exact ⟨k + 1, by omega, by go_num, by rw [← HB1.out, HB.out] <;> simp [hx0]⟩
            case measure => simp [intOf]; omega
      · obtain rfl : k = s.length := by omega
        have HT2 : Hid (textE s = if ob s.length = true then 0 else 10) := Lib.hid (by rw [HT.out, HEND2.out])
        clear HT HEND2 IS HD HNX2 hnb
        generalize ob s.length = b at *
        cases b
        · go_wp2
          go_ret
          exact ⟨by rw [HT2.out]; rfl, rfl⟩
        · go_wp2
          go_ret
          exact ⟨by rw [HT2.out]; rfl, rfl⟩
end Go.Proofs.YtmgpofdmoaafoaaGreatDoor
