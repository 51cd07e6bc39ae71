/- Layer 8: the program's map: New, Of. -/
import Derived.Test.YtdngkpdiaeicmaaAmA
namespace Go.Proofs.Ytdngkpdiaeicmaa
open Go.RowKit

theorem repeatL_one (k : Nat) : (⟨(Lib.repeatL [0] k).toArray⟩ : ByteArray) = str (List.replicate k 0) := by
  have : Lib.repeatL [0] k = List.replicate k 0 := by
    induction k with
    | zero => rfl
    | succ k ih => rw [Lib.repeatL, ih, List.replicate_succ]; rfl
  rw [this]
  rfl
theorem pack_zero (m : Nat) : packL (List.replicate m false) = List.replicate ((m + 7) / 8) 0 := by
  refine bytes_ext (by rw [packL_length, List.length_replicate, List.length_replicate]) fun j _ => ?_
  rw [bitN_pack, bitN_zeros, List.getD_eq_getElem?_getD, List.getElem?_replicate]
  split <;> rfl
set_option maxHeartbeats 1000000 in
theorem new_no (n : Int) (w : World) (h : n < 1 ∨ 4096 < n) :
    Calls Try.prog 10 #[.int .i64 n] w fun e w' => e = .returned (.tuple #[.pointer none, .int .i64 2]) ∧ Below w.heap.size w w' := by
  have CM := mayBe_any n w
  rw [decide_eq_false (by omega)] at CM
  clear h
  go_enter Try.func10, Try.ntmps10
  go_wp2_with (go_at_call 25; ((with_reducible refine (CM).mono ?_); rintro e w1 ⟨rfl, rfl⟩))
  go_ret2
  exact ⟨rfl, Below.refl _ _⟩
set_option maxHeartbeats 1000000 in
theorem new_any (m : Nat) (w : World) (h1 : 1 ≤ m) (h2 : m ≤ 4096) :
    Calls Try.prog 10 #[.int .i64 (m : Int)] w fun e w' => ∃ q o, e = .returned (.tuple #[.pointer (some ⟨q, 0, none⟩), .int .i64 0]) ∧ ImpInv w' q (List.replicate m false) o ∧ Below w.heap.size w w' ∧ ∀ k, o k → w.heap.size ≤ k := by
  have CM := mayBe_any m w
  rw [decide_eq_true (by omega)] at CM
  have CW := width_any m w h2
  have CR := Try.strings_Repeat ⟨#[0]⟩ ((m + 7) / 8) w (by omega) (by show 1 * _ ≤ _; omega)
  rw [show (⟨(Lib.repeatL (ByteArray.mk #[0]).data.toList ((m + 7) / 8)).toArray⟩ : ByteArray) = str (packL (List.replicate m false)) by rw [pack_zero]; exact repeatL_one _] at CR
  replace CR : Calls Try.prog 26 #[.string ⟨#[0]⟩, .int .i64 (((m + 7) / 8 : Nat) : Int)] w fun e w' => e = .returned (.string (str (packL (List.replicate m false)))) ∧ Below w.heap.size w w' := CR
  have HI := Lib.hid (fun w' => imp_new w' (List.replicate m false) (by rw [List.length_replicate]; exact h1) (by rw [List.length_replicate]; exact h2))
  unfold impC at HI
  rw [List.length_replicate] at HI
  generalize str (packL (List.replicate m false)) = s at *
  generalize (((m + 7) / 8 : Nat) : Int) = c at *
  go_enter Try.func10, Try.ntmps10
  go_wp2_with (first
    | (go_at_call 25; ((with_reducible refine (CM).mono ?_); rintro e w1 ⟨rfl, rfl⟩))
    | (go_at_call 27; ((with_reducible refine (CW).mono ?_); rintro e w1 ⟨rfl, rfl⟩))
    | (go_at_call 26; ((with_reducible refine (CR).mono ?_); rintro e w2 ⟨rfl, b2⟩)))
  go_ret2
  obtain ⟨i1, i2⟩ := HI.out w2
  have hs := b2.size
  refine ⟨w2.heap.size + 1, impOwn (w2.heap.size + 1) w2.heap.size, rfl, ⟨_, i1, rfl⟩, b2.trans (i2.mono hs), fun k hk => ?_⟩
  rcases hk with rfl | rfl <;> omega
theorem hasV_beyond {s : ByteArray} {k : Nat} (h : 8 * s.size ≤ k) : bitN s.data.toList k = false := bitN_beyond _ _ (by simpa using h)
set_option maxRecDepth 100000 in
set_option maxHeartbeats 1000000 in
theorem behind_any (s : ByteArray) (m : Nat) (w : World) (h2 : m ≤ 4096) (hs : s.size ≤ 1000000) :
    Calls Try.prog 38 #[.string s, .int .i64 (m : Int)] w fun e w' => ((e = .returned (.bool true) ∧ ∃ j, m ≤ j ∧ bitN s.data.toList j = true) ∨ (e = .returned (.bool false) ∧ ∀ j, m ≤ j → bitN s.data.toList j = false)) ∧ Below w.heap.size w w' := by
  go_enter Try.func38, Try.ntmps38
  go_wp2
  go_loopw [5] (fun v wr => ∃ k : Nat, m ≤ k ∧ k ≤ 8 * s.size + m ∧ v = .int .i64 k ∧ Hid (∀ j, m ≤ j → j < k → bitN s.data.toList j = false) ∧ Below w.heap.size w wr) (fun v _ => 8 * s.size + m - (intOf v).toNat)
  case atStart => exact ⟨m, Nat.le_refl _, by omega, rfl, Lib.hid (fun j h1 h2 => by omega), Below.refl _ _⟩
  case round =>
    obtain ⟨k, hk1, hk2, rfl, hno, hB⟩ := hrel
    by_cases hlt : k < 8 * s.size
    · have g1 : (k : Int) < 8 * (s.size : Int) := by omega
      have CH := has_any s k wr (by omega)
      rw [hasV_nat] at CH
      cases hb : bitN s.data.toList k
      · have hno2 := Lib.hid (show ∀ j, m ≤ j → j < k + 1 → bitN s.data.toList j = false from fun j h1 h2 => if e : j = k then (by rw [e]; exact hb) else hno.out j h1 (by omega))
        rw [hb] at CH
        clear hb hno
        go_wp2_with (go_at_call 32; ((with_reducible refine (CH).mono ?_); rintro e w1 ⟨rfl, n, rfl⟩))
        go_roundw
        case rel => exact ⟨k + 1, by omega, by omega, by go_num, hno2, below_drewN hB n⟩
        case measure => simp [intOf]; omega
      · have hyes := Lib.hid (show ∃ j, m ≤ j ∧ bitN s.data.toList j = true from ⟨k, hk1, hb⟩)
        rw [hb] at CH
        clear hb hno
        go_wp2_with (go_at_call 32; ((with_reducible refine (CH).mono ?_); rintro e w1 ⟨rfl, n, rfl⟩))
        go_ret
        exact ⟨.inl ⟨rfl, hyes.out⟩, below_drewN hB n⟩
    · have g1 : ¬ (k : Int) < 8 * (s.size : Int) := by omega
      have hend := Lib.hid (show ∀ j, m ≤ j → bitN s.data.toList j = false from fun j h1 => if e : j < k then hno.out j h1 e else hasV_beyond (by omega))
      clear hno
      go_wp2
      go_ret
      exact ⟨.inr ⟨rfl, hend.out⟩, hB⟩
theorem behind_yes (s : ByteArray) (m : Nat) (w : World) (h2 : m ≤ 4096) (hs : s.size ≤ 1000000) (h : ∃ j, m ≤ j ∧ bitN s.data.toList j = true) :
    Calls Try.prog 38 #[.string s, .int .i64 (m : Int)] w fun e w' => e = .returned (.bool true) ∧ Below w.heap.size w w' :=
  (behind_any s m w h2 hs).mono fun e w' ⟨hb, hB⟩ => by
    rcases hb with ⟨he, _⟩ | ⟨_, hb⟩
    · exact ⟨he, hB⟩
    · obtain ⟨j, j1, j2⟩ := h
      rw [hb j j1] at j2
      cases j2
theorem behind_not (s : ByteArray) (m : Nat) (w : World) (h2 : m ≤ 4096) (hs : s.size ≤ 1000000) (h : ¬ ∃ j, m ≤ j ∧ bitN s.data.toList j = true) :
    Calls Try.prog 38 #[.string s, .int .i64 (m : Int)] w fun e w' => e = .returned (.bool false) ∧ Below w.heap.size w w' :=
  (behind_any s m w h2 hs).mono fun e w' ⟨hb, hB⟩ => by
    rcases hb with ⟨_, hb⟩ | ⟨he, _⟩
    · exact absurd hb h
    · exact ⟨he, hB⟩
set_option maxHeartbeats 400000 in
theorem cloneS_any (s : ByteArray) (w : World) (hs : s.size ≤ 1000000) : Calls Try.prog 39 #[.string s] w fun e w' => e = .returned (.string s) ∧ Below w.heap.size w w' := by
  have CC := Try.stringslite_Clone s w (by omega)
  go_enter Try.func39, Try.ntmps39
  go_wp2_with (go_at_call 53; ((with_reducible refine (CC).mono ?_); rintro e w1 ⟨rfl, b1⟩))
  go_ret
  exact ⟨rfl, b1⟩
set_option maxHeartbeats 1000000 in
theorem mof_no (s : ByteArray) (n : Int) (w : World) (h : n < 1 ∨ 4096 < n) :
    Calls Try.prog 23 #[.string s, .int .i64 n] w fun e w' => e = .returned (.tuple #[.pointer none, .int .i64 2]) ∧ Below w.heap.size w w' := by
  have CM := mayBe_any n w
  rw [decide_eq_false (by omega)] at CM
  clear h
  go_enter Try.func23, Try.ntmps23
  go_wp2_with (go_at_call 25; ((with_reducible refine (CM).mono ?_); rintro e w1 ⟨rfl, rfl⟩))
  go_ret2
  exact ⟨rfl, Below.refl _ _⟩
set_option maxHeartbeats 1000000 in
theorem mof_any (s : ByteArray) (m : Nat) (w : World) (h1 : 1 ≤ m) (h2 : m ≤ 4096) (hs : s.size ≤ 100000) :
    Calls Try.prog 23 #[.string s, .int .i64 (m : Int)] w fun e w' => (ofL s.data.toList m = none ∧ e = .returned (.tuple #[.pointer none, .int .i64 10]) ∧ Below w.heap.size w w') ∨ ∃ L q o, ofL s.data.toList m = some L ∧ e = .returned (.tuple #[.pointer (some ⟨q, 0, none⟩), .int .i64 0]) ∧ ImpInv w' q L o ∧ Below w.heap.size w w' ∧ ∀ k, o k → w.heap.size ≤ k := by
  have CM := mayBe_any m w
  rw [decide_eq_true (by omega)] at CM
  have CW := width_any m w h2
  have hsl : s.data.toList.length = s.size := by simp
  by_cases hl : s.size = (m + 7) / 8
  · have hl2 : ((s.size : Int) != (((m + 7) / 8 : Nat) : Int)) = false := by rw [hl]; simp
    by_cases hb : ∃ j, m ≤ j ∧ bitN s.data.toList j = true
    · have CB := behind_yes s m w h2 (by omega) hb
      have HR := Lib.hid (show ofL s.data.toList m = none from of_none_bit hb.choose_spec.1 hb.choose_spec.2)
      clear hsl hl hb
      generalize (((m + 7) / 8 : Nat) : Int) = c at *
      go_enter Try.func23, Try.ntmps23
      go_wp2_with (first
        | (go_at_call 25; ((with_reducible refine (CM).mono ?_); rintro e w1 ⟨rfl, rfl⟩))
        | (go_at_call 27; ((with_reducible refine (CW).mono ?_); rintro e w1 ⟨rfl, rfl⟩))
        | (go_at_call 38; ((with_reducible refine (CB).mono ?_); rintro e w2 ⟨rfl, b2⟩)))
      go_ret2
      exact .inl ⟨HR.out, rfl, b2⟩
    · have CB := behind_not s m w h2 (by omega) hb
      have CC := fun w => cloneS_any s w (by omega)
      have HO := of_is (s := s.data.toList) (n := m) (by rw [hsl, hl]) (fun j hj => by
        by_cases e : bitN s.data.toList j = true
        · exact absurd ⟨j, hj, e⟩ hb
        · simpa using e)
      have HI := Lib.hid (fun w' => imp_new w' (bitsL s.data.toList m) (by rw [bitsL_length]; exact h1) (by rw [bitsL_length]; exact h2))
      unfold impC at HI
      rw [bitsL_length, (of_some HO).1, str_list s] at HI
      have HO2 := Lib.hid HO
      clear hsl hl hb HO
      generalize (((m + 7) / 8 : Nat) : Int) = c at *
      go_enter Try.func23, Try.ntmps23
      go_wp2_with (first
        | (go_at_call 25; ((with_reducible refine (CM).mono ?_); rintro e w1 ⟨rfl, rfl⟩))
        | (go_at_call 27; ((with_reducible refine (CW).mono ?_); rintro e w1 ⟨rfl, rfl⟩))
        | (go_at_call 38; ((with_reducible refine (CB).mono ?_); rintro e w2 ⟨rfl, b2⟩))
        | (go_at_call 39; ((with_reducible refine (CC _).mono ?_); rintro e w3 ⟨rfl, b3⟩)))
      go_ret2
      obtain ⟨i1, i2⟩ := HI.out w3
      have hs2 := b2.size
      have hs3 := b3.size
      refine .inr ⟨_, w3.heap.size + 1, impOwn (w3.heap.size + 1) w3.heap.size, HO2.out, rfl, ⟨_, i1, rfl⟩, (b2.trans (b3.mono hs2)).trans (i2.mono (by omega)), fun k hk => ?_⟩
      rcases hk with rfl | rfl <;> omega
  · have HR := Lib.hid (show ofL s.data.toList m = none from of_none_len (by rw [hsl]; exact hl))
    have hl2 : ((s.size : Int) != (((m + 7) / 8 : Nat) : Int)) = true := by simp; omega
    clear hsl hl
    generalize (((m + 7) / 8 : Nat) : Int) = c at *
    go_enter Try.func23, Try.ntmps23
    go_wp2_with (first
      | (go_at_call 25; ((with_reducible refine (CM).mono ?_); rintro e w1 ⟨rfl, rfl⟩))
      | (go_at_call 27; ((with_reducible refine (CW).mono ?_); rintro e w1 ⟨rfl, rfl⟩)))
    go_ret2
    exact .inl ⟨HR.out, rfl, Below.refl _ _⟩
end Go.Proofs.Ytdngkpdiaeicmaa
