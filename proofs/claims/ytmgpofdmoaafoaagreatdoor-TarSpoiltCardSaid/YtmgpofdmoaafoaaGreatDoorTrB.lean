/- Layer 15: the program's small functions: fields, texts, kinds, values that records have. -/
import Derived.Test.YtmgpofdmoaafoaaGreatDoorTrX
import Derived.Test.YtmgpofdmoaafoaaGreatDoorTrA
namespace Go.Proofs.YtmgpofdmoaafoaaGreatDoor
open Go.RowKit

theorem extract_str (s : List UInt8) (a b : Nat) : (str s).extract a b = str (sl s a b) := by
  refine bytes_toList ?_
  rw [str_toList, ByteArray.data_extract, Array.toList_extract, str_toList, List.extract_eq_take_drop, sl, List.drop_take]
theorem index_at {a : List UInt8} {c : UInt8} (b : List UInt8) (h : c ∉ a) : Lib.indexByte (a ++ c :: b) c = (a.length : Int) := by
  induction a with
  | nil => simp [Lib.indexByte]
  | cons x a ih =>
    have h1 : ¬ (x == c) = true := fun e => h (by simp [beq_iff_eq.1 e])
    have h2 : c ∉ a := fun e => h (List.mem_cons_of_mem _ e)
    have h3 : ¬ (((a.length : Nat) : Int) == -1) = true := by rw [beq_iff_eq]; omega
    rw [List.cons_append, Lib.indexByte, if_neg h1, ih h2, if_neg h3, List.length_cons]
    rfl
theorem index_miss {s : List UInt8} {c : UInt8} (h : c ∉ s) : Lib.indexByte s c = -1 := by
  induction s with
  | nil => rfl
  | cons x a ih =>
    have h1 : ¬ (x == c) = true := fun e => h (by simp [beq_iff_eq.1 e])
    have h2 : c ∉ a := fun e => h (List.mem_cons_of_mem _ e)
    rw [Lib.indexByte, if_neg h1, ih h2]
    rfl
theorem index_dec (s : List UInt8) (c : UInt8) : decide (0 ≤ Lib.indexByte s c) = decide (c ∈ s) := by
  by_cases h : c ∈ s
  · obtain ⟨a, b, rfl, hn, _⟩ := cut_parts s c h
    rw [index_at b hn, decide_eq_true h, decide_eq_true (by omega)]
  · rw [index_miss h, decide_eq_false h]
    rfl
theorem contains_any (s : List UInt8) (c : UInt8) (w : World) :
    Calls Tryz.prog 66 #[.string (str s), .string ⟨#[c]⟩] w fun e w' => e = .returned (.bool (decide (c ∈ s))) ∧ w = w' := by
  have h := Tryz.strings_Contains_one (str s) c w
  rw [show (str s).data.toList = s from rfl, index_dec] at h
  exact h.mono fun _ _ ⟨h1, h2⟩ => ⟨h1, h2.symm⟩
theorem ret3s {a a' b b' : ByteArray} {c : Bool} (h : a = a') (h' : b = b') : Ending.returned (.tuple #[.string a, .string b, .bool c]) = .returned (.tuple #[.string a', .string b', .bool c]) := by rw [h, h']
theorem part_ahead (a b : List UInt8) (c : UInt8) : (str (a ++ c :: b)).extract 0 a.length = str a := by
  rw [extract_str, sl, List.drop_zero, List.take_left]
theorem part_behind (a b : List UInt8) (c : UInt8) : (str (a ++ c :: b)).extract (a.length + 1) (a ++ c :: b).length = str b := by
  rw [extract_str, sl, List.take_length, show a ++ c :: b = (a ++ [c]) ++ b by simp, show a.length + 1 = (a ++ [c]).length by simp, List.drop_left]
set_option maxRecDepth 100000 in
set_option maxHeartbeats 2000000 in
theorem cutL_hit (a b : List UInt8) (c : UInt8) (hn : c ∉ a) (hl : (a ++ c :: b).length ≤ 1099511627776) (w : World) :
    Calls Tryz.prog 80 #[.string (str (a ++ c :: b)), .string ⟨#[c]⟩] w fun e w' => e = .returned (.tuple #[.string (str a), .string (str b), .bool true]) ∧ Below w.heap.size w w' := by
  have CI := fun w => Tryz.stringslite_Index_one (str (a ++ c :: b)) c w
  rw [show (str (a ++ c :: b)).data.toList = a ++ c :: b from rfl, index_at b hn] at CI
  have hz : (str (a ++ c :: b)).size = (a ++ c :: b).length := str_size _
  have ha := Lib.hid (part_ahead a b c)
  have hb := Lib.hid (part_behind a b c)
  have hlen : (a ++ c :: b).length = a.length + (b.length + 1) := by rw [List.length_append, List.length_cons]
  rw [← hz] at hb hl hlen
  clear hz
  generalize str (a ++ c :: b) = s at *
  generalize a.length = i at *
  have c1 : (0 : Int) ≤ (i : Int) := by omega
  have c2 : (i : Int) ≤ (s.size : Int) := by omega
  have c3 : (0 : Int) ≤ (i : Int) + 1 := by omega
  have c4 : (i : Int) + 1 ≤ (s.size : Int) := by omega
  have c5 : (i : Int) + 1 ≤ 1099511627777 := by omega
  clear hlen
  go_enter Tryz.func80, Tryz.ntmps80
  go_wp2_with (go_at_call 91; ((with_reducible refine (CI _).mono ?_); rintro e w1 ⟨rfl, rfl⟩))
  go_region
  go_wp2
  go_ret3
  exact ⟨ret3s (ha.out) (hb.out), below_drewN (Below.refl _ _) _⟩
set_option maxRecDepth 100000 in
set_option maxHeartbeats 2000000 in
theorem cutL_miss {s : List UInt8} {c : UInt8} (hn : c ∉ s) (w : World) :
    Calls Tryz.prog 80 #[.string (str s), .string ⟨#[c]⟩] w fun e w' => e = .returned (.tuple #[.string (str s), .string (str []), .bool false]) ∧ Below w.heap.size w w' := by
  have CI := fun w => Tryz.stringslite_Index_one (str s) c w
  rw [show (str s).data.toList = s from rfl, index_miss hn] at CI
  generalize str s = s at *
  go_enter Tryz.func80, Tryz.ntmps80
  go_wp2_with (go_at_call 91; ((with_reducible refine (CI _).mono ?_); rintro e w1 ⟨rfl, rfl⟩))
  go_ret3
  exact ⟨rfl, Below.refl _ _⟩
/-- A text cut at the first such byte, or not. -/
def tailW (s : Bs) (c : UInt8) : Bs := (s.dropWhile (· != c)).drop 1
set_option maxHeartbeats 1000000 in
theorem cut_any (s : Bs) (c : UInt8) (hl : s.length ≤ 1099511627776) (w : World) :
    Calls Tryz.prog 63 #[.string (str s), .string ⟨#[c]⟩] w fun e w' => e = .returned (.tuple #[.string (str (s.takeWhile (· != c))), .string (str (tailW s c)), .bool (decide (c ∈ s))]) ∧ Below w.heap.size w w' := by
  have key : ∀ w, Calls Tryz.prog 80 #[.string (str s), .string ⟨#[c]⟩] w fun e w' => e = .returned (.tuple #[.string (str (s.takeWhile (· != c))), .string (str (tailW s c)), .bool (decide (c ∈ s))]) ∧ Below w.heap.size w w' := fun w => by
    by_cases h : c ∈ s
    · rw [decide_eq_true h]
      obtain ⟨a, b, h1, h2, h3, h4⟩ := cut_parts s c h
      unfold tailW
      rw [h3, h4, h1]
      exact cutL_hit a b c h2 (by rw [← h1]; exact hl) w
    · rw [decide_eq_false h]
      unfold tailW
      rw [(cut_miss h).1, (cut_miss h).2]
      exact cutL_miss h w
  go_enter Tryz.func63, Tryz.ntmps63
  go_wp2_with (go_at_call 80; ((with_reducible refine (key _).mono ?_); rintro e w1 ⟨rfl, hB⟩))
  go_ret3
  exact ⟨rfl, hB⟩
set_option maxHeartbeats 1000000 in
theorem text_any (s : Bs) (hl : s.length ≤ 1099511627776) (w : World) :
    Calls Tryz.prog 40 #[.string (str s)] w fun e w' => e = .returned (.string (str (cut0 s))) ∧ Below w.heap.size w w' := by
  have C := fun w => cut_any s 0 hl w
  go_enter Tryz.func40, Tryz.ntmps40
  go_wp2_with (go_at_call 63; ((with_reducible refine (C _).mono ?_); rintro e w1 ⟨rfl, hB⟩))
  go_ret
  exact ⟨rfl, hB⟩
theorem trimZ (s : Bs) : decide (Lib.trimLeftB s 0 = []) = allZ s := by
  unfold Lib.trimLeftB allZ
  rw [Bool.eq_iff_iff, decide_eq_true_eq]
  induction s with
  | nil => simp
  | cons x r ih =>
    by_cases h : x = 0
    · rw [List.dropWhile_cons_of_pos (by simpa using h), List.all_cons, ih]
      simp [h]
    · rw [List.dropWhile_cons_of_neg (by simpa using h), List.all_cons]
      simp [h]
set_option maxHeartbeats 1000000 in
theorem zero_any (s : Bs) (w : World) :
    Calls Tryz.prog 18 #[.string (str s)] w fun e w' => e = .returned (.bool (allZ s)) ∧ w = w' := by
  have C := fun w => Tryz.strings_TrimLeft_one (str s) 0 (by decide) w
  rw [show (str s).data.toList = s from rfl] at C
  have q := empty_lit (Lib.trimLeftB s 0)
  rw [trimZ] at q
  rw [show (⟨(Lib.trimLeftB s 0).toArray⟩ : ByteArray) = str (Lib.trimLeftB s 0) from rfl] at C
  generalize str (Lib.trimLeftB s 0) = t at *
  go_enter Tryz.func18, Tryz.ntmps18
  go_wp2_with (go_at_call 37; ((with_reducible refine (C _).mono ?_); rintro e w1 ⟨rfl, rfl⟩))
  go_ret
  exact ⟨rfl, rfl⟩
theorem trimR_eq (s : Bs) : Lib.trimRightS s [32, 0] = rtrim s := by
  unfold Lib.trimRightS rtrim
  congr 2
  funext c
  simp [List.contains, List.elem, isPad]
  cases h1 : c == 32 <;> cases h2 : c == 0 <;> rfl
theorem trims_le (s : Bs) : (rtrim (ltrim s)).length ≤ s.length := by
  unfold rtrim ltrim
  have h1 := (List.dropWhile_sublist (fun x : UInt8 => x == 32) (l := s)).length_le
  have h2 := (List.dropWhile_sublist isPad (l := (s.dropWhile (fun x : UInt8 => x == 32)).reverse)).length_le
  rw [List.length_reverse] at h2 ⊢
  omega
set_option maxRecDepth 100000 in
set_option maxHeartbeats 2000000 in
theorem field_any (s : Bs) (hl : s.length ≤ 1099511627776) (w : World) :
    Calls Tryz.prog 38 #[.string (str s)] w fun e w' => e = .returned (.tuple #[.int .i64 (((numF s).getD 0 : Nat) : Int), .bool (numF s).isSome]) ∧ Below w.heap.size w w' := by
  have C1 := fun w => Tryz.strings_TrimLeft_one (str s) 32 (by decide) w
  rw [show (str s).data.toList = s from rfl, show (⟨(Lib.trimLeftB s 32).toArray⟩ : ByteArray) = str (ltrim s) from rfl] at C1
  have C2 := fun w => Tryz.strings_TrimRight_two (str (ltrim s)) ⟨#[32, 0]⟩ w (by rw [str_size]; have := (List.dropWhile_sublist (fun x : UInt8 => x == 32) (l := s)).length_le; show (ltrim s).length ≤ _; unfold ltrim; omega) (by decide) (Go.Proofs.ascii_of_all (by decide))
  rw [show (str (ltrim s)).data.toList = ltrim s from rfl, trimR_eq, show (⟨(rtrim (ltrim s)).toArray⟩ : ByteArray) = str (rtrim (ltrim s)) from rfl] at C2
  have C3 := fun w => number_any (str (rtrim (ltrim s))) 8 (.inl rfl) (by rw [str_size]; have := trims_le s; omega) w
  rw [show numP 8 (str (rtrim (ltrim s))).data.toList = numF s from rfl, show ((8 : Nat) : Int) = 8 from rfl] at C3
  go_enter Tryz.func38, Tryz.ntmps38
  go_wp2_with (first
    | (go_at_call 37; ((with_reducible refine (C1 _).mono ?_); rintro e w1 ⟨rfl, rfl⟩))
    | (go_at_call 62; ((with_reducible refine (C2 _).mono ?_); rintro e w2 ⟨rfl, hB⟩))
    | (go_at_call 61; ((with_reducible refine (C3 _).mono ?_); rintro e w3 ⟨rfl, rfl⟩)))
  go_ret2
  exact ⟨rfl, hB⟩
set_option maxHeartbeats 2000000 in
theorem check_any (s : Bs) (w : World) :
    Calls Tryz.prog 46 #[.string (str s)] w fun e w' => e = .returned (.int .i64 ((textE s : Nat) : Int)) ∧ w = w' := by
  have C := fun w => contains_any s 0 w
  have q := empty_lit s
  have hz := str_size s
  have HE := Lib.hid (show textE s = if 200 < s.length then 3 else if s = [] ∨ (0 : UInt8) ∈ s then 10 else 0 from rfl)
  by_cases h1 : 200 < s.length
  · have HR := Lib.hid (show textE s = 3 by rw [HE.out, if_pos h1])
    have g : (200 : Int) < ((str s).size : Int) := by rw [hz]; omega
    clear q HE hz C h1
    generalize str s = S at *
    go_enter Tryz.func46, Tryz.ntmps46
    go_wp2
    go_ret
    exact ⟨by rw [HR.out]; rfl, rfl⟩
  · have g : ¬ (200 : Int) < ((str s).size : Int) := by rw [hz]; omega
    by_cases h2 : s = []
    · have HR := Lib.hid (show textE s = 10 by rw [HE.out, if_neg h1, if_pos (.inl h2)])
      rw [decide_eq_true h2] at q
      clear HE hz C h1 h2
      generalize str s = S at *
      go_enter Tryz.func46, Tryz.ntmps46
      go_wp2
      go_ret
      exact ⟨by rw [HR.out]; rfl, rfl⟩
    · rw [decide_eq_false h2] at q
      by_cases h3 : (0 : UInt8) ∈ s
      · have HR := Lib.hid (show textE s = 10 by rw [HE.out, if_neg h1, if_pos (.inr h3)])
        rw [decide_eq_true h3] at C
        clear HE hz h1 h2 h3
        generalize str s = S at *
        go_enter Tryz.func46, Tryz.ntmps46
        go_wp2_with (go_at_call 66; ((with_reducible refine (C _).mono ?_); rintro e w1 ⟨rfl, rfl⟩))
        go_ret
        exact ⟨by rw [HR.out]; rfl, rfl⟩
      · have HR := Lib.hid (show textE s = 0 by rw [HE.out, if_neg h1, if_neg (by rintro (e | e); exact h2 e; exact h3 e)])
        rw [decide_eq_false h3] at C
        clear HE hz h1 h2 h3
        generalize str s = S at *
        go_enter Tryz.func46, Tryz.ntmps46
        go_wp2_with (go_at_call 66; ((with_reducible refine (C _).mono ?_); rintro e w1 ⟨rfl, rfl⟩))
        go_ret
        exact ⟨by rw [HR.out]; rfl, rfl⟩
set_option maxHeartbeats 2000000 in
theorem link_any (k : Int) (w : World) :
    Calls Tryz.prog 47 #[.int .i64 k] w fun e w' => e = .returned (.bool (isLinkK k)) ∧ w = w' := by
  have HE := Lib.hid (show isLinkK k = (decide (k = 3) || decide (k = 4)) from rfl)
  have q3 : (k == 3) = decide (k = 3) := rfl
  have q4 : (k == 4) = decide (k = 4) := rfl
  cases h1 : decide (k = 3) <;> cases h2 : decide (k = 4)
  all_goals
    rw [h1, h2] at HE
    rw [h1] at q3
    rw [h2] at q4
    clear h1 h2
    go_enter Tryz.func47, Tryz.ntmps47
    go_wp2
    go_ret
    exact ⟨retB HE.out.symm, rfl⟩
set_option maxHeartbeats 2000000 in
theorem kind_any (t : UInt8) (w : World) :
    Calls Tryz.prog 41 #[.int .u8 (t.toNat : Int)] w fun e w' => e = .returned (.int .i64 (kindL t)) ∧ w = w' := by
  have HE := Lib.hid (show kindL t = if t = 49 then 3 else if t = 50 then 4 else if t = 53 then 2 else 1 from rfl)
  have cv : ∀ c : UInt8, (((t.toNat : Nat) : Int) == ((c.toNat : Nat) : Int)) = decide (t = c) := fun c => by
    rw [Bool.eq_iff_iff, beq_iff_eq, decide_eq_true_eq]
    constructor
    · intro h; exact UInt8.toNat_inj.1 (by omega)
    · intro h; rw [h]
  have q1 := cv 49
  have q2 := cv 50
  have q3 := cv 53
  have e1 : (((49 : UInt8).toNat : Nat) : Int) = 49 := rfl
  have e2 : (((50 : UInt8).toNat : Nat) : Int) = 50 := rfl
  have e3 : (((53 : UInt8).toNat : Nat) : Int) = 53 := rfl
  rw [e1] at q1
  rw [e2] at q2
  rw [e3] at q3
  clear cv e1 e2 e3
  generalize t.toNat = x at *
  by_cases h1 : t = 49
  · have HR := Lib.hid (show kindL t = 3 by rw [HE.out, if_pos h1])
    rw [decide_eq_true h1] at q1
    clear HE h1 q2 q3
    go_enter Tryz.func41, Tryz.ntmps41
    go_wp2
    go_ret
    exact ⟨retInt HR.out.symm, rfl⟩
  · rw [decide_eq_false h1] at q1
    by_cases h2 : t = 50
    · have HR := Lib.hid (show kindL t = 4 by rw [HE.out, if_neg h1, if_pos h2])
      rw [decide_eq_true h2] at q2
      clear HE h1 h2 q3
      go_enter Tryz.func41, Tryz.ntmps41
      go_wp2
      go_ret
      exact ⟨retInt HR.out.symm, rfl⟩
    · rw [decide_eq_false h2] at q2
      by_cases h3 : t = 53
      · have HR := Lib.hid (show kindL t = 2 by rw [HE.out, if_neg h1, if_neg h2, if_pos h3])
        rw [decide_eq_true h3] at q3
        clear HE h1 h2 h3
        go_enter Tryz.func41, Tryz.ntmps41
        go_wp2
        go_ret
        exact ⟨retInt HR.out.symm, rfl⟩
      · have HR := Lib.hid (show kindL t = 1 by rw [HE.out, if_neg h1, if_neg h2, if_neg h3])
        rw [decide_eq_false h3] at q3
        clear HE h1 h2 h3
        go_enter Tryz.func41, Tryz.ntmps41
        go_wp2
        go_ret
        exact ⟨retInt HR.out.symm, rfl⟩
set_option maxHeartbeats 2000000 in
theorem type_any (k : Int) (w : World) :
    Calls Tryz.prog 50 #[.int .i64 k] w fun e w' => e = .returned (.int .u8 ((typeL k).toNat : Int)) ∧ w = w' := by
  have HE := Lib.hid (show typeL k = if k = 3 then 49 else if k = 4 then 50 else if k = 2 then 53 else 48 from rfl)
  by_cases h1 : k = 3
  · subst h1
    go_enter Tryz.func50, Tryz.ntmps50
    go_wp2
    go_ret
    exact ⟨rfl, rfl⟩
  · by_cases h2 : k = 4
    · subst h2
      go_enter Tryz.func50, Tryz.ntmps50
      go_wp2
      go_ret
      exact ⟨rfl, rfl⟩
    · by_cases h3 : k = 2
      · subst h3
        go_enter Tryz.func50, Tryz.ntmps50
        go_wp2
        go_ret
        exact ⟨rfl, rfl⟩
      · have HR := Lib.hid (show typeL k = 48 by rw [HE.out, if_neg h1, if_neg h2, if_neg h3])
        have q1 : (k == 3) = false := by simpa using h1
        have q2 : (k == 4) = false := by simpa using h2
        have q3 : (k == 2) = false := by simpa using h3
        clear HE h1 h2 h3
        go_enter Tryz.func50, Tryz.ntmps50
        go_wp2
        go_ret
        exact ⟨by rw [HR.out]; rfl, rfl⟩
end Go.Proofs.YtmgpofdmoaafoaaGreatDoor
