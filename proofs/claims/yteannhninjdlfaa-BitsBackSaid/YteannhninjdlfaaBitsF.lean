/- The contract of the document's own With. -/
import Derived.Test.YteannhninjdlfaaBitsE
namespace Go.Proofs.Yteannhninjdlfaa
open Go.RowKit

/-- The sum of the weights of so many bits. -/
def byteOf (f : Nat → Bool) : Nat → Nat
  | 0 => 0
  | m + 1 => byteOf f m + (if f m then 2 ^ m else 0)
theorem byteOf_lt (f : Nat → Bool) : ∀ m, byteOf f m < 2 ^ m
  | 0 => by simp [byteOf]
  | m + 1 => by
    have := byteOf_lt f m
    rw [byteOf, Nat.pow_succ]
    split <;> omega
theorem byteOf_bit (f : Nat → Bool) (i : Nat) : ∀ m, (byteOf f m).testBit i = (decide (i < m) && f i)
  | 0 => by simp [byteOf]
  | m + 1 => by
    have hlt := byteOf_lt f m
    have ih := byteOf_bit f i m
    rw [byteOf]
    by_cases hf : f m = true
    · rw [if_pos hf, Nat.add_comm]
      rcases Nat.lt_trichotomy i m with h | h | h
      · rw [Nat.testBit_two_pow_add_gt h, ih]
        simp [h, show i < m + 1 by omega]
      · subst h
        rw [Nat.testBit_two_pow_add_eq, Nat.testBit_lt_two_pow hlt]
        simp [hf]
      · have h2 : 2 ^ m + byteOf f m < 2 ^ i := by
          have : 2 ^ (m + 1) ≤ 2 ^ i := Nat.pow_le_pow_right (by omega) (by omega)
          rw [Nat.pow_succ] at this
          omega
        rw [Nat.testBit_lt_two_pow h2]
        simp [show ¬ i < m + 1 by omega]
    · rw [if_neg hf, Nat.add_zero, ih]
      by_cases e : i = m
      · subst e; simp [hf]
      · have : (i < m + 1) = (i < m) := by rw [eq_iff_iff]; omega
        simp [this]
/-- The bytes of a text of which one bit is set, or clear, bit by bit. -/
def bitAt (l : List UInt8) (i : Int) (on : Bool) (a m : Nat) : Bool := if i = ((8 * a + m : Nat) : Int) then on else bitN l (8 * a + m)
def withL (l : List UInt8) (i : Int) (on : Bool) (k : Nat) : List UInt8 := (List.range k).map fun a => UInt8.ofNat (byteOf (bitAt l i on a) 8)
theorem withL_length (l : List UInt8) (i : Int) (on : Bool) (k : Nat) : (withL l i on k).length = k := by simp [withL]
theorem withL_step (l : List UInt8) (i : Int) (on : Bool) (k : Nat) : withL l i on (k + 1) = withL l i on k ++ [UInt8.ofNat (byteOf (bitAt l i on k) 8)] := by simp [withL, List.range_succ]
theorem bitN_withL {l : List UInt8} {i : Int} {on : Bool} {k j : Nat} (h : j < 8 * k) : bitN (withL l i on k) j = if i = (j : Int) then on else bitN l j := by
  have hk : j / 8 < k := by omega
  have hb := byteOf_lt (bitAt l i on (j / 8)) 8
  have e : (withL l i on k).getD (j / 8) 0 = UInt8.ofNat (byteOf (bitAt l i on (j / 8)) 8) := by
    simp [withL, List.getD, hk]
  have e2 : bitN (withL l i on k) j = (UInt8.ofNat (byteOf (bitAt l i on (j / 8)) 8)).toNat.testBit (j % 8) := by
    unfold bitN; rw [e]
  rw [e2, UInt8.toNat_ofNat_of_lt' (by simpa using hb), byteOf_bit, bitAt, show 8 * (j / 8) + j % 8 = j by omega]
  simp [show j % 8 < 8 by omega]
theorem withL_all (s : ByteArray) (i : Int) (on : Bool) : str (withL s.data.toList i on s.size) = withV s i on := by
  have hl : s.data.toList.length = s.size := by simp
  unfold withV
  by_cases h : inT s i = true
  · rw [if_pos h]
    obtain ⟨h0, h1⟩ := inT_iff.1 h
    obtain ⟨j, rfl⟩ : ∃ j : Nat, i = j := ⟨i.toNat, by omega⟩
    rw [Int.toNat_natCast]
    congr 1
    refine bytes_ext (by rw [withL_length, putB_length, hl]) fun x hx => ?_
    rw [withL_length] at hx
    rw [bitN_withL hx, bitN_putB _ _ _ _ (by omega)]
    by_cases e : x = j
    · subst e; simp
    · rw [if_neg (by omega), if_neg e]
  · rw [if_neg h]
    have : withL s.data.toList i on s.size = s.data.toList := by
      refine bytes_ext (by rw [withL_length, hl]) fun x hx => ?_
      rw [withL_length] at hx
      rw [bitN_withL hx, if_neg]
      intro e
      exact h (inT_iff.2 ⟨by omega, by omega⟩)
    rw [this, str_list]
theorem byteOf_step (l : List UInt8) (i : Int) (on : Bool) (k m : Nat) : byteOf (bitAt l i on k) (m + 1) = byteOf (bitAt l i on k) m + (if bitAt l i on k m then 2 ^ m else 0) := rfl

theorem pow_byte {m : Nat} (h : m < 8) : 2 ^ m ≤ 128 := by
  have : 2 ^ m ≤ 2 ^ 7 := Nat.pow_le_pow_right (by omega) (by omega)
  simpa using this
theorem wei_next (m : Nat) (h : m < 8) : ((2 ^ m : Nat) : Int) * 2 % 256 = ((2 ^ (m + 1) % 256 : Nat) : Int) := by
  rw [Nat.pow_succ]
  have := pow_byte h
  generalize 2 ^ m = p at *
  omega
set_option maxHeartbeats 1000000 in
theorem rwith_any (s : ByteArray) (i : Int) (on : Bool) (w : World) (hs : s.size ≤ 1000000) :
    Calls Try.prog 15 #[.string s, .int .i64 i, .bool on] w fun e w' => e = .returned (.string (withV s i on)) ∧ Below w.heap.size w w' := by
  have hres := Lib.hid (withL_all s i on)
  obtain ⟨i0, hi0, hz0, hz1, hz2⟩ := info_parts info_u8
  go_enter Try.func15, Try.ntmps15
  go_wp2
  go_loopw [7, 8] (fun v x wr => ∃ k : Nat, k ≤ s.size ∧ x = .int .i64 k ∧ wr.ownsRow w.heap.size 5 1 v k ((withL s.data.toList i on k).map byteV) ∧ Below w.heap.size w wr) (fun _ x _ => s.size - (intOf x).toNat)
  case atStart => exact ⟨0, Nat.zero_le _, rfl, World.ownsRow_nil _ _ _ _, Below.refl _ _⟩
  case round =>
    obtain ⟨k, hk, rfl, hown, hnx⟩ := hrel
    by_cases hlt : k < s.size
    · have hst := Lib.hid (withL_step s.data.toList i on k)
      have Hown := Lib.hid hown
      have Hnx := Lib.hid hnx
      have hsz := hnx.size
      clear hown hnx
      go_wp2
      go_loop [9, 10, 11] (fun c x y => ∃ m : Nat, m ≤ 8 ∧ y = .int .i64 m ∧ c = .int .u8 (byteOf (bitAt s.data.toList i on k) m : Nat) ∧ x = .int .u8 ((2 ^ m % 256 : Nat) : Int)) (fun _ _ y => 8 - (intOf y).toNat)
      case atStart => exact ⟨0, by omega, rfl, rfl, rfl⟩
      case round =>
        obtain ⟨m, hm, rfl, rfl, rfl⟩ := hrel
        by_cases hm8 : m < 8
        · have hc : ∀ w, Calls Try.prog 13 #[.string s, .int .i64 (8 * (k : Int) + (m : Int))] w fun e w' => e = .returned (.bool (bitN s.data.toList (8 * k + m))) ∧ w = w' := by
            intro w
            rw [← hasV_nat]
            exact rhas_any s (8 * k + m : Nat) w hs (by omega)
          have hbs := byteOf_step s.data.toList i on k m
          have hlt := byteOf_lt (bitAt s.data.toList i on k) m
          have hw2 := Lib.hid (wei_next m hm8)
          have hp := pow_byte hm8
          obtain ⟨c, hcx⟩ : ∃ c : Nat, c = byteOf (bitAt s.data.toList i on k) m := ⟨_, rfl⟩
          rw [← hcx] at hbs hlt ⊢
          clear hcx
          have hbit : bitAt s.data.toList i on k m = if i = ((8 * k + m : Nat) : Int) then on else bitN s.data.toList (8 * k + m) := rfl
          rw [hbit] at hbs
          clear hbit
          rw [show 2 ^ m % 256 = 2 ^ m by omega]
          obtain ⟨p, hpx⟩ : ∃ p : Nat, p = 2 ^ m := ⟨_, rfl⟩
          rw [← hpx] at hbs hlt hw2 hp ⊢
          clear hpx
          by_cases hie : i = ((8 * k + m : Nat) : Int)
          · rw [if_pos hie] at hbs
            have hib : (i == 8 * (k : Int) + (m : Int)) = true := beq_iff_eq.2 (by omega)
            clear hie
            cases on
            all_goals
              have hbs' := Lib.hid hbs
              clear hbs
              go_wp2_with (go_at_call 13; ((with_reducible refine (hc _).mono ?_); rintro e w' ⟨rfl, rfl⟩))
              go_round
              case rel => exact ⟨m + 1, by omega, by go_num, by rw [hbs'.out]; simp, by rw [← hw2.out]⟩
              case measure => simp [intOf]; omega
          · rw [if_neg hie] at hbs
            have hib : (i == 8 * (k : Int) + (m : Int)) = false := beq_eq_false_iff_ne.2 (by omega)
            clear hie
            cases hbn : bitN s.data.toList (8 * k + m)
            all_goals
              rw [hbn] at hbs hc
              have hbs' := Lib.hid hbs
              clear hbs hbn
              go_wp2_with (go_at_call 13; ((with_reducible refine (hc _).mono ?_); rintro e w' ⟨rfl, rfl⟩))
              go_round
              case rel => exact ⟨m + 1, by omega, by go_num, by rw [hbs'.out]; simp, by rw [← hw2.out]⟩
              case measure => simp [intOf]; omega
        · obtain rfl : m = 8 := by omega
          have hx256 := byteOf_lt (bitAt s.data.toList i on k) 8
          obtain ⟨x, hx⟩ : ∃ x : Nat, x = byteOf (bitAt s.data.toList i on k) 8 := ⟨_, rfl⟩
          rw [← hx] at hst hx256 ⊢
          clear hx
          have hown := Hown.out
          go_wp2_with (at_builtin; refine wpList_append_own _ rfl _ _ 35 rfl w.heap.size 5 i0 (.int .u8 0) 1 1 Try.underlying35 hi0 hz0 hz1 hz2 rfl (by decide) _ _ _ rfl (hown.alloc _) ⟨wr.heap.size, 0, none⟩ 1 1 [.int .u8 (x : Int)] rfl rfl (cell_one_new _ _ _) ?c2 ?c3 ?c4 ?c5 ?_)
          case c2 => first | rfl | (intro u hu; simp at hu; subst hu; rfl)
          case c3 => unfold maxLen; omega
          case c4 => omega
          case c5 => first | omega | (simp; omega)
          intro v' w1 hown' hgrow _
          have hown2 : w1.ownsRow w.heap.size 5 1 v' (k + 1) ((withL s.data.toList i on (k + 1)).map byteV) := by rw [hst.out, List.map_append, List.map_singleton, byteV_ofNat, Int.emod_eq_of_lt (by omega) (by omega)]; exact hown'
          have hnx2 : Below w.heap.size w w1 := (Hnx.out.alloc hsz _).grown hgrow (by simp; omega) (fun j hj => (hown.lt j hj).1)
          clear hown' hgrow hown
          go_wp2
          go_roundw
          case rel => exact ⟨k + 1, by omega, by go_num, hown2, hnx2⟩
          case measure => simp [intOf]; omega
    · obtain rfl : k = s.size := by omega
      obtain ⟨a, cap, rfl, hcv⟩ := conv_own hown (withL_length _ _ _ _)
      clear hown
      go_wp2
      go_ret
      exact ⟨retStr hres.out, hnx⟩
end Go.Proofs.Yteannhninjdlfaa
