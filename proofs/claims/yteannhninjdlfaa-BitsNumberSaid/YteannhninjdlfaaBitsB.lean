/- The contracts of the document's own Count and Run. -/
import Derived.Test.YteannhninjdlfaaBitsA
import Derived.Test.YteannhninjdlfaaBitsN
namespace Go.Proofs.Yteannhninjdlfaa
open Go.RowKit

theorem retInt {k : IntKind} {a b : Int} (h : a = b) : Ending.returned (.int k a) = .returned (.int k b) := by rw [h]
theorem hasV_nat (s : ByteArray) (k : Nat) : hasV s (k : Int) = bitN s.data.toList k := by
  unfold hasV
  rw [Int.toNat_natCast]
  by_cases h : inT s k = true
  · rw [h]; rfl
  · have h' : inT s k = false := by simpa using h
    rw [h', bitN_beyond]
    · rfl
    · have := mt inT_iff.2 h
      have e : s.data.toList.length = s.size := by simp
      omega
theorem count_step (l : List UInt8) (k : Nat) : (List.range (k + 1)).countP (bitN l) = (List.range k).countP (bitN l) + (bitN l k).toNat := by
  rw [List.range_succ, List.countP_append]
  cases h : bitN l k <;> simp [h]

set_option maxHeartbeats 400000 in
theorem rcount_any (s : ByteArray) (w : World) (hs : s.size ≤ 1000000) :
    Calls Try.prog 19 #[.string s] w fun e w' => e = .returned (.int .i64 (countN s.data.toList : Nat)) ∧ w = w' := by
  have hl := Lib.hid (show s.data.toList.length = s.size by simp)
  go_enter Try.func19, Try.ntmps19
  go_wp2
  go_loop [3, 4] (fun n i => ∃ k : Nat, k ≤ 8 * s.size ∧ i = .int .i64 k ∧ n = .int .i64 ((List.range k).countP (bitN s.data.toList) : Nat)) (fun _ i => 8 * s.size - (intOf i).toNat)
  case atStart => exact ⟨0, Nat.zero_le _, rfl, rfl⟩
  case round =>
    obtain ⟨k, hk, rfl, rfl⟩ := hrel
    have hst := count_step s.data.toList k
    have hle : (List.range k).countP (bitN s.data.toList) ≤ k := by simpa using List.countP_le_length (p := bitN s.data.toList) (l := List.range k)
    have hc := fun w => rhas_any s k w hs (by omega)
    rw [hasV_nat] at hc
    have hend := Lib.hid (show k = 8 * s.size → (List.range k).countP (bitN s.data.toList) = countN s.data.toList from fun e => by rw [countN, hl.out, e])
    obtain ⟨c, hce⟩ : ∃ c : Nat, c = (List.range k).countP (bitN s.data.toList) := ⟨_, rfl⟩
    rw [← hce] at hst hle hend ⊢
    clear hce
    by_cases hlt : k < 8 * s.size
    · cases hb : bitN s.data.toList k
      all_goals
        rw [hb] at hc hst
        have hst' := Lib.hid hst
        clear hst hb
        go_wp2_with (go_at_call 13; ((with_reducible refine (hc _).mono ?_); rintro e w' ⟨rfl, rfl⟩))
        go_round
        case rel => exact ⟨k + 1, by omega, by go_num, by rw [hst'.out]; simp⟩
        case measure => simp [intOf]; omega
    · clear hst hc
      go_wp2
      go_ret
      exact ⟨retInt (by rw [hend.out (by omega)]), rfl⟩

/-- The run, for any place and any number. -/
def runV (s : ByteArray) (f n : Int) : Int := if n < 1 then -1 else runN s.data.toList f.toNat n.toNat
theorem clear_step (l : List UInt8) (p k : Nat) : clearB l p (k + 1) = (clearB l p k && !bitN l (p + k)) := by
  unfold clearB
  rw [List.range'_1_concat, List.all_append]
  simp

set_option maxHeartbeats 1000000 in
theorem rrun_any (s : ByteArray) (f n : Int) (w : World) (hs : s.size ≤ 1000000) (hf : f ≤ 9223372036854775807) (hn : n ≤ 9223372036854775807) :
    Calls Try.prog 17 #[.string s, .int .i64 f, .int .i64 n] w fun e w' => e = .returned (.int .i64 (runV s f n)) ∧ w = w' := by
  have hl := Lib.hid (show s.data.toList.length = s.size by simp)
  by_cases h1 : n < 1
  · have hr := Lib.hid (show runV s f n = -1 by unfold runV; rw [if_pos h1])
    go_enter Try.func17, Try.ntmps17
    go_wp2
    go_ret
    exact ⟨retInt hr.out.symm, rfl⟩
  obtain ⟨m, rfl⟩ : ∃ m : Nat, n = m := ⟨n.toNat, by omega⟩
  have hr := Lib.hid (show ∀ r, IsRun s.data.toList f.toNat m r → runV s f m = r from fun r h => by unfold runV; rw [if_neg h1, Int.toNat_natCast]; exact runN_eq h)
  by_cases h2 : 8 * (s.size : Int) < m
  · have hr2 := Lib.hid (hr.out (-1) (Or.inr ⟨rfl, fun q _ h => by rw [hl.out] at h; omega⟩))
    clear hr
    go_enter Try.func17, Try.ntmps17
    go_wp2
    go_ret
    exact ⟨retInt hr2.out.symm, rfl⟩
  obtain ⟨g, hg⟩ : ∃ g : Nat, g = f.toNat := ⟨_, rfl⟩
  rw [← hg] at hr
  have hgf : (g : Int) ≤ 9223372036854775807 := by omega
  by_cases hf0 : f < 0
  · obtain rfl : g = 0 := by omega
    clear hg
    go_enter Try.func17, Try.ntmps17
    go_wp2
    go_loop [7] (fun i => ∃ k : Nat, 0 ≤ k ∧ (k ≤ 0 ∨ k ≤ 8 * s.size - m + 1) ∧ i = .int .i64 k ∧ Hid (∀ q, 0 ≤ q → q < k → clearB s.data.toList q m = false)) (fun i => 8 * s.size + 1 - (intOf i).toNat)
    case atStart => exact ⟨_, Nat.le_refl _, Or.inl (Nat.le_refl _), rfl, Lib.hid (fun q _ h2 => by omega)⟩
    case round =>
      obtain ⟨k, hk1, hk2, rfl, hno⟩ := hrel
      by_cases hlt : k ≤ 8 * s.size - m
      · go_wp2
        go_loop [8, 9] (fun c x => ∃ j : Nat, j ≤ m ∧ x = .int .i64 j ∧ c = .bool (clearB s.data.toList k j)) (fun _ x => m - (intOf x).toNat)
        case atStart => exact ⟨0, Nat.zero_le _, rfl, rfl⟩
        case round =>
          obtain ⟨j, hj, rfl, rfl⟩ := hrel
          have hst := Lib.hid (clear_step s.data.toList k j)
          have hc : ∀ w, Calls Try.prog 13 #[.string s, .int .i64 ((k : Int) + (j : Int))] w fun e w' => e = .returned (.bool (bitN s.data.toList (k + j))) ∧ w = w' := by
            intro w
            rw [← hasV_nat]
            exact rhas_any s (k + j : Nat) w hs (by omega)
          by_cases hjm : j < m
          · cases hcl : clearB s.data.toList k j
            · rw [hcl] at hst
              clear hcl hc
              go_wp2
              go_round
              case rel => exact ⟨j + 1, by omega, by go_num, by rw [hst.out]; rfl⟩
              case measure => simp [intOf]; omega
            · rw [hcl] at hst
              clear hcl
              go_wp2_with (go_at_call 13; ((with_reducible refine (hc _).mono ?_); rintro e w' ⟨rfl, rfl⟩))
              go_round
              case rel => exact ⟨j + 1, by omega, by go_num, by rw [hst.out]; simp⟩
              case measure => simp [intOf]; omega
          · obtain rfl : j = m := by omega
            clear hst hc
            cases hcl : clearB s.data.toList k j
            · have hno2 := Lib.hid (fun q (h1 : 0 ≤ q) (h2 : q < k + 1) => if e : q = k then (by rw [e]; exact hcl) else hno.out q h1 (by omega))
              clear hcl hno
              go_wp2
              go_round
              case rel => exact ⟨k + 1, by omega, Or.inr (by omega), by go_num, hno2⟩
              case measure => simp [intOf]; omega
            · have hres := Lib.hid (hr.out k (Or.inl ⟨k, rfl, hk1, by rw [hl.out]; omega, hcl, hno.out⟩))
              clear hcl hno hr
              go_wp2
              go_ret
              exact ⟨retInt hres.out.symm, rfl⟩
      · have hres := Lib.hid (hr.out (-1) (Or.inr ⟨rfl, fun q h1 h2 => hno.out q h1 (by rw [hl.out] at h2; omega)⟩))
        clear hno hr
        go_wp2
        go_ret
        exact ⟨retInt hres.out.symm, rfl⟩
  · obtain rfl : f = (g : Int) := by omega
    clear hg
    go_enter Try.func17, Try.ntmps17
    go_wp2
    go_loop [7] (fun i => ∃ k : Nat, g ≤ k ∧ (k ≤ g ∨ k ≤ 8 * s.size - m + 1) ∧ i = .int .i64 k ∧ Hid (∀ q, g ≤ q → q < k → clearB s.data.toList q m = false)) (fun i => 8 * s.size + 1 - (intOf i).toNat)
    case atStart => exact ⟨_, Nat.le_refl _, Or.inl (Nat.le_refl _), rfl, Lib.hid (fun q h1 h2 => by omega)⟩
    case round =>
      obtain ⟨k, hk1, hk2, rfl, hno⟩ := hrel
      by_cases hlt : k ≤ 8 * s.size - m
      · go_wp2
        go_loop [8, 9] (fun c x => ∃ j : Nat, j ≤ m ∧ x = .int .i64 j ∧ c = .bool (clearB s.data.toList k j)) (fun _ x => m - (intOf x).toNat)
        case atStart => exact ⟨0, Nat.zero_le _, rfl, rfl⟩
        case round =>
          obtain ⟨j, hj, rfl, rfl⟩ := hrel
          have hst := Lib.hid (clear_step s.data.toList k j)
          have hc : ∀ w, Calls Try.prog 13 #[.string s, .int .i64 ((k : Int) + (j : Int))] w fun e w' => e = .returned (.bool (bitN s.data.toList (k + j))) ∧ w = w' := by
            intro w
            rw [← hasV_nat]
            exact rhas_any s (k + j : Nat) w hs (by omega)
          by_cases hjm : j < m
          · cases hcl : clearB s.data.toList k j
            · rw [hcl] at hst
              clear hcl hc
              go_wp2
              go_round
              case rel => exact ⟨j + 1, by omega, by go_num, by rw [hst.out]; rfl⟩
              case measure => simp [intOf]; omega
            · rw [hcl] at hst
              clear hcl
              go_wp2_with (go_at_call 13; ((with_reducible refine (hc _).mono ?_); rintro e w' ⟨rfl, rfl⟩))
              go_round
              case rel => exact ⟨j + 1, by omega, by go_num, by rw [hst.out]; simp⟩
              case measure => simp [intOf]; omega
          · obtain rfl : j = m := by omega
            clear hst hc
            cases hcl : clearB s.data.toList k j
            · have hno2 := Lib.hid (fun q (h1 : g ≤ q) (h2 : q < k + 1) => if e : q = k then (by rw [e]; exact hcl) else hno.out q h1 (by omega))
              clear hcl hno
              go_wp2
              go_round
              case rel => exact ⟨k + 1, by omega, Or.inr (by omega), by go_num, hno2⟩
              case measure => simp [intOf]; omega
            · have hres := Lib.hid (hr.out k (Or.inl ⟨k, rfl, hk1, by rw [hl.out]; omega, hcl, hno.out⟩))
              clear hcl hno hr
              go_wp2
              go_ret
              exact ⟨retInt hres.out.symm, rfl⟩
      · have hres := Lib.hid (hr.out (-1) (Or.inr ⟨rfl, fun q h1 h2 => hno.out q h1 (by rw [hl.out] at h2; omega)⟩))
        clear hno hr
        go_wp2
        go_ret
        exact ⟨retInt hres.out.symm, rfl⟩
end Go.Proofs.Yteannhninjdlfaa
