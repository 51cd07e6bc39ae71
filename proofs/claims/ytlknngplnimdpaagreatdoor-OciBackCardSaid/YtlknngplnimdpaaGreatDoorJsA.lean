/- Layer 11, plain: runes of a text, as UTF-8 has them: what is encoded is decoded, whatever stands behind it; of what is cut off nothing is. -/
import Derived.Lib.ValidLaws
import Derived.Lib.RuneBytes
namespace Go.Proofs.YtlknngplnimdpaaGreatDoor
open Go.Lib

abbrev Bs := List UInt8
/-- A number that is a rune. -/
def scal (c : Nat) : Prop := c < 55296 ∨ (57344 ≤ c ∧ c ≤ 1114111)
instance (c : Nat) : Decidable (scal c) := by unfold scal; infer_instance

theorem byteOf (z : Int) (h : 0 ≤ z ∧ z < 256) : (z.toNat.toUInt8).toNat = z.toNat := by
  simp
  omega
theorem getD0 (b : UInt8) (l : Bs) : (b :: l).getD 0 0 = b := rfl
set_option maxHeartbeats 1000000 in
/-- What is encoded is decoded. -/
theorem dec_enc {c : Nat} (hc : scal c) (r : Bs) : decodeL (encodeRune (c : Int) ++ r) = (c, (encodeRune (c : Int)).length) := by
  unfold scal at hc
  rw [decodeL_N]
  unfold encodeRune
  by_cases h1 : c < 128
  · rw [encodeRuneZ_one (by omega) (by omega)]
    simp only [List.map_cons, List.map_nil, List.cons_append, List.nil_append, List.getD_cons_zero, List.length_cons, List.length_nil]
    unfold decodeN
    have e : ((c : Int).toNat.toUInt8).toNat = c := by simp; omega
    rw [e, if_pos h1]
  by_cases h2 : c < 2048
  · rw [encodeRuneZ_two (by omega) (by omega)]
    simp only [List.map_cons, List.map_nil, List.cons_append, List.nil_append, List.getD_cons_zero, List.getD_cons_succ, List.length_cons, List.length_nil]
    have e0 : ((192 + (c : Int) / 64).toNat.toUInt8).toNat = 192 + c / 64 := by simp; omega
    have e1 : ((128 + (c : Int) % 64).toNat.toUInt8).toNat = 128 + c % 64 := by simp; omega
    rw [e0, e1]
    unfold decodeN
    rw [if_neg (by omega), if_pos ⟨by omega, by omega, by omega⟩, if_pos (by omega)]
    congr 1; omega
  by_cases h3 : c < 65536
  · rw [encodeRuneZ_three (by omega)]
    simp only [List.map_cons, List.map_nil, List.cons_append, List.nil_append, List.getD_cons_zero, List.getD_cons_succ, List.length_cons, List.length_nil]
    have e0 : ((224 + (c : Int) / 4096).toNat.toUInt8).toNat = 224 + c / 4096 := by simp; omega
    have e1 : ((128 + (c : Int) / 64 % 64).toNat.toUInt8).toNat = 128 + c / 64 % 64 := by simp; omega
    have e2 : ((128 + (c : Int) % 64).toNat.toUInt8).toNat = 128 + c % 64 := by simp; omega
    rw [e0, e1, e2]
    unfold decodeN
    rw [if_neg (by omega), if_neg (by omega), if_pos ⟨by omega, ⟨by omega, by omega⟩, by omega, by omega⟩, if_pos (by omega)]
    congr 1; omega
  · rw [encodeRuneZ_four (by omega) (by omega)]
    simp only [List.map_cons, List.map_nil, List.cons_append, List.nil_append, List.getD_cons_zero, List.getD_cons_succ, List.length_cons, List.length_nil]
    have e0 : ((240 + (c : Int) / 262144).toNat.toUInt8).toNat = 240 + c / 262144 := by simp; omega
    have e1 : ((128 + (c : Int) / 4096 % 64).toNat.toUInt8).toNat = 128 + c / 4096 % 64 := by simp; omega
    have e2 : ((128 + (c : Int) / 64 % 64).toNat.toUInt8).toNat = 128 + c / 64 % 64 := by simp; omega
    have e3 : ((128 + (c : Int) % 64).toNat.toUInt8).toNat = 128 + c % 64 := by simp; omega
    rw [e0, e1, e2, e3]
    unfold decodeN
    rw [if_neg (by omega), if_neg (by omega), if_neg (by omega), if_pos ⟨by omega, ⟨by omega, by omega⟩, ⟨by omega, by omega⟩, by omega, by omega⟩, if_pos (by omega)]
    congr 1; omega
theorem enc_pos (c : Nat) : 1 ≤ (encodeRune (c : Int)).length := by
  have := encodeRuneZ_length (c : Int)
  unfold encodeRune
  rw [List.length_map]
  exact this.1
theorem enc_le (c : Nat) : (encodeRune (c : Int)).length ≤ 4 := by
  have := encodeRuneZ_length (c : Int)
  unfold encodeRune
  rw [List.length_map]
  exact this.2
theorem enc_ne (c : Nat) : encodeRune (c : Int) ≠ [] := fun h => by
  have := enc_pos c
  rw [h] at this
  exact absurd this (by decide)
theorem enc_ascii {c : Nat} (h : c < 128) : encodeRune (c : Int) = [UInt8.ofNat c] := by
  unfold encodeRune
  rw [encodeRuneZ_one (by omega) (by omega)]
  simp
theorem scal_decode (n b0 b1 b2 b3 : Nat) (k0 : b0 < 256) (k1 : b1 < 256) : scal (decodeN n b0 b1 b2 b3).1 := by
  unfold scal decodeN
  repeat' split
  all_goals omega
/-- What is decoded is a rune. -/
theorem scal_dec (l : Bs) : scal (decodeL l).1 := by
  rw [decodeL_N]
  exact scal_decode _ _ _ _ _ (UInt8.toNat_lt _) (UInt8.toNat_lt _)
/-- No rune stands at the head. -/
def noRune (l : Bs) : Prop := (decodeL l).1 = 65533 ∧ (decodeL l).2 = 1
instance (l : Bs) : Decidable (noRune l) := by unfold noRune; infer_instance
theorem dec_take {l : Bs} (hne : l ≠ []) (hv : ¬ noRune l) : l = encodeRune ((decodeL l).1 : Int) ++ l.drop (decodeL l).2 := by
  rw [encode_decode l hne hv, List.take_append_drop]
theorem enc_rune {c : Nat} (hc : scal c) (r : Bs) : ¬ noRune (encodeRune (c : Int) ++ r) := by
  unfold noRune
  rw [dec_enc hc]
  rintro ⟨h1, h2⟩
  simp only at h1 h2
  subst h1
  revert h2
  decide
set_option maxHeartbeats 1000000 in
/-- Of a rune that is cut off nothing is decoded. -/
theorem dec_cut {c : Nat} (hc : scal c) (k : Nat) (h0 : 0 < k) (hk : k < (encodeRune (c : Int)).length) : noRune ((encodeRune (c : Int)).take k) := by
  unfold noRune
  rw [decodeL_N]
  unfold scal at hc
  unfold encodeRune at hk ⊢
  rw [List.length_map] at hk
  by_cases h1 : c < 128
  · rw [encodeRuneZ_one (by omega) (by omega)] at hk
    simp at hk; omega
  by_cases h2 : c < 2048
  · rw [encodeRuneZ_two (by omega) (by omega)] at hk ⊢
    obtain rfl : k = 1 := by simp at hk; omega
    simp only [List.map_cons, List.map_nil, List.take_succ_cons, List.take_zero, List.getD_cons_zero, List.getD_cons_succ, List.getD_nil, List.length_cons, List.length_nil]
    have e0 : ((192 + (c : Int) / 64).toNat.toUInt8).toNat = 192 + c / 64 := by simp; omega
    rw [e0]
    unfold decodeN
    rw [if_neg (by omega), if_neg (by omega), if_neg (by omega), if_neg (by omega)]
    exact ⟨rfl, rfl⟩
  by_cases h3 : c < 65536
  · rw [encodeRuneZ_three (by omega)] at hk ⊢
    have hk3 : k = 1 ∨ k = 2 := by simp at hk; omega
    have e0 : ((224 + (c : Int) / 4096).toNat.toUInt8).toNat = 224 + c / 4096 := by simp; omega
    rcases hk3 with rfl | rfl
    all_goals
      simp only [List.map_cons, List.map_nil, List.take_succ_cons, List.take_zero, List.getD_cons_zero, List.getD_cons_succ, List.getD_nil, List.length_cons, List.length_nil]
      rw [e0]
      unfold decodeN
      rw [if_neg (by omega), if_neg (by omega), if_neg (by omega), if_neg (by omega)]
      exact ⟨rfl, rfl⟩
  · rw [encodeRuneZ_four (by omega) (by omega)] at hk ⊢
    have hk3 : k = 1 ∨ k = 2 ∨ k = 3 := by simp at hk; omega
    have e0 : ((240 + (c : Int) / 262144).toNat.toUInt8).toNat = 240 + c / 262144 := by simp; omega
    rcases hk3 with rfl | rfl | rfl
    all_goals
      simp only [List.map_cons, List.map_nil, List.take_succ_cons, List.take_zero, List.getD_cons_zero, List.getD_cons_succ, List.getD_nil, List.length_cons, List.length_nil]
      rw [e0]
      unfold decodeN
      rw [if_neg (by omega), if_neg (by omega), if_neg (by omega), if_neg (by omega)]
      exact ⟨rfl, rfl⟩
/-- The bytes of runes. -/
def utfB : List Nat → Bs
  | [] => []
  | c :: l => encodeRune (c : Int) ++ utfB l
theorem utfB_append (a b : List Nat) : utfB (a ++ b) = utfB a ++ utfB b := by
  induction a with
  | nil => rfl
  | cons c l ih => simp [utfB, ih]
/-- Valid bytes are those of runes. -/
theorem valid_utf : ∀ (n : Nat) (t : Bs), t.length ≤ n → validD t = true → ∃ cs : List Nat, (∀ c ∈ cs, scal c) ∧ t = utfB cs
  | 0, t, hn, _ => ⟨[], by simp, by rw [List.eq_nil_of_length_eq_zero (Nat.le_zero.1 hn)]; rfl⟩
  | n + 1, t, hn, hv => by
    by_cases hne : t = []
    · exact ⟨[], by simp, by rw [hne]; rfl⟩
    · rw [validD_step t hne] at hv
      by_cases hr : noRune t
      · rw [if_pos (show _ ∧ _ from hr)] at hv; cases hv
      · rw [if_neg (show ¬ (_ ∧ _) from hr)] at hv
        have hw := decodeL_width t
        have hl : 0 < t.length := List.length_pos_iff.2 hne
        obtain ⟨cs, h1, h2⟩ := valid_utf n (t.drop (decodeL t).2) (by rw [List.length_drop]; omega) hv
        refine ⟨(decodeL t).1 :: cs, ?_, ?_⟩
        · intro c hc
          rcases List.mem_cons.1 hc with rfl | hc
          · exact scal_dec t
          · exact h1 c hc
        · rw [utfB, ← h2]
          exact dec_take hne hr
theorem utf_valid : ∀ cs : List Nat, (∀ c ∈ cs, scal c) → validD (utfB cs) = true
  | [], _ => rfl
  | c :: cs, h => by
    have hc := h c (by simp)
    have hne : utfB (c :: cs) ≠ [] := fun e => enc_ne c (List.append_eq_nil_iff.1 e).1
    rw [validD_step _ hne]
    have hr : ¬ noRune (utfB (c :: cs)) := enc_rune hc _
    unfold noRune at hr
    rw [if_neg hr]
    have e : (decodeL (utfB (c :: cs))).2 = (encodeRune (c : Int)).length := by
      show (decodeL (encodeRune (c : Int) ++ utfB cs)).2 = _
      rw [dec_enc hc]
    rw [e]
    show validD ((encodeRune (c : Int) ++ utfB cs).drop _) = true
    rw [List.drop_left]
    exact utf_valid cs (fun d hd => h d (by simp [hd]))
/-- The runes of bytes, one behind the other. -/
def runesF : Nat → Bs → List Nat
  | 0, _ => []
  | n + 1, l => if l = [] then [] else (decodeL l).1 :: runesF n (l.drop (decodeL l).2)
theorem runesF_utf : ∀ (cs : List Nat) (n : Nat), (∀ c ∈ cs, scal c) → (utfB cs).length ≤ n → runesF n (utfB cs) = cs
  | [], n, _, _ => by cases n <;> rfl
  | c :: cs, n, h, hn => by
    have hc := h c (by simp)
    have hp := enc_pos c
    have hne : utfB (c :: cs) ≠ [] := fun e => enc_ne c (List.append_eq_nil_iff.1 e).1
    have e : decodeL (utfB (c :: cs)) = (c, (encodeRune (c : Int)).length) := dec_enc hc _
    have hl : (utfB (c :: cs)).length = (encodeRune (c : Int)).length + (utfB cs).length := by simp [utfB]
    obtain ⟨m, rfl⟩ : ∃ m, n = m + 1 := ⟨n - 1, by omega⟩
    rw [runesF, if_neg hne, e]
    have e2 : (utfB (c :: cs)).drop (encodeRune (c : Int)).length = utfB cs := by
      show (encodeRune (c : Int) ++ utfB cs).drop _ = _
      rw [List.drop_left]
    show c :: runesF m ((utfB (c :: cs)).drop (encodeRune (c : Int)).length) = _
    rw [e2, runesF_utf cs m (fun d hd => h d (by simp [hd])) (by omega)]
def runesT (l : Bs) : List Nat := runesF l.length l
theorem runesT_utf {cs : List Nat} (h : ∀ c ∈ cs, scal c) : runesT (utfB cs) = cs := runesF_utf cs _ h (Nat.le_refl _)
end Go.Proofs.YtlknngplnimdpaaGreatDoor
