/- Layer 14: the program's Parent, Base, Join, Inside. -/
import Derived.Test.YtokeiagcdahmaaaDoorShelf
import Derived.Test.YtokeiagcdahmaaaDoorPtC
namespace Go.Proofs.YtokeiagcdahmaaaDoor
open Go.RowKit

theorem extract_str (s : List UInt8) (a b : Nat) : (str s).extract a b = str ((s.take b).drop a) := by
  refine bytes_toList ?_
  rw [str_toList, ByteArray.data_extract, Array.toList_extract, str_toList, List.extract_eq_take_drop, List.drop_take]
theorem eq_lit (h l : List UInt8) : ((str h).toList == l) = decide (h = l) := by
  unfold str
  rw [ByteArray.toList_mk, Bool.eq_iff_iff, beq_iff_eq, decide_eq_true_eq]
theorem eq_none (h : List UInt8) : ((str h).toList == []) = decide (h = []) := eq_lit h []
theorem eq_strs (a b : List UInt8) : ((str a).toList == (str b).toList) = decide (a = b) := by
  have h : ∀ l : List UInt8, (str l).toList = l := fun l => by rw [Lib.toList_data]; rfl
  rw [h, h]
  rw [Bool.eq_iff_iff, beq_iff_eq, decide_eq_true_eq]
theorem neq_none (s : List UInt8) : ((str s).toList != []) = !decide (s = []) := by rw [bne, eq_none]
theorem empty_lit (h : List UInt8) : (str h).toList.isEmpty = decide (h = []) := by
  rw [← eq_none h]
  cases (str h).toList <;> rfl
theorem ret2s {a a' b b' : ByteArray} (h : a = a') (h' : b = b') : Ending.returned (.tuple #[.string a, .string b]) = .returned (.tuple #[.string a', .string b']) := by rw [h, h']
theorem index_at {a : List UInt8} {c : UInt8} (b : List UInt8) (h : c ∉ a) : Lib.indexByte (a ++ c :: b) c = (a.length : Int) := by
  induction a with
  | nil => simp [Lib.indexByte]
  | cons x a ih =>
    have h1 : ¬ (x == c) = true := fun e => h (by simp [beq_iff_eq.1 e])
    have h2 : c ∉ a := fun e => h (List.mem_cons_of_mem _ e)
    have h3 : ¬ (((a.length : Nat) : Int) == -1) = true := by rw [beq_iff_eq]; omega
    rw [List.cons_append, Lib.indexByte, if_neg h1, ih h2, if_neg h3, List.length_cons]
    rfl
theorem index_miss {s : List UInt8} {c : UInt8} (h : c ∉ s) : Lib.indexByte s c = -1 := by
  induction s with
  | nil => rfl
  | cons x a ih =>
    have h1 : ¬ (x == c) = true := fun e => h (by simp [beq_iff_eq.1 e])
    have h2 : c ∉ a := fun e => h (List.mem_cons_of_mem _ e)
    rw [Lib.indexByte, if_neg h1, ih h2]
    rfl
theorem index_dec (s : List UInt8) (c : UInt8) : decide (0 ≤ Lib.indexByte s c) = decide (c ∈ s) := by
  by_cases h : c ∈ s
  · obtain ⟨a, b, rfl, hn⟩ := cut_first h
    rw [index_at b hn, decide_eq_true h, decide_eq_true (by omega)]
  · rw [index_miss h, decide_eq_false h]
    rfl
theorem contains_any (s : List UInt8) (c : UInt8) (w : World) :
    Calls Tryd.prog 64 #[.string (str s), .string ⟨#[c]⟩] w fun e w' => e = .returned (.bool (decide (c ∈ s))) ∧ w = w' := by
  have h := Tryd.strings_Contains_one (str s) c w
  rw [show (str s).data.toList = s from rfl, index_dec] at h
  exact h.mono fun _ _ ⟨h1, h2⟩ => ⟨h1, h2.symm⟩
theorem part_ahead (a b : List UInt8) (c : UInt8) : (str (a ++ c :: b)).extract 0 a.length = str a := by
  rw [extract_str, List.drop_zero, List.take_left]
theorem part_behind (a b : List UInt8) (c : UInt8) : (str (a ++ c :: b)).extract (a.length + 1) (a ++ c :: b).length = str b := by
  rw [extract_str, List.take_length, show a ++ c :: b = (a ++ [c]) ++ b by simp, show a.length + 1 = (a ++ [c]).length by simp, List.drop_left]
/-- Where a byte stands last. -/
theorem last_miss {s : List UInt8} {c : UInt8} (h : c ∉ s) : Lib.lastIndexByte (str s) (c.toNat : Int) = -1 := by
  unfold Lib.lastIndexByte
  rcases Lib.lastIdx_spec (str s) (c.toNat : Int) (str s).size with ⟨h1, _⟩ | ⟨i, hi, h1, h2, _⟩
  · exact h1
  · exfalso
    have hi' : i < s.length := by rw [← str_size s]; exact hi
    have e : (str s).data[i]! = s[i]'hi' := by
      rw [getElem!_pos (str s).data i (by simpa using hi)]
      rfl
    rw [e] at h2
    have e2 : s[i]'hi' = c := UInt8.toNat_inj.1 (by omega)
    exact h (e2 ▸ List.getElem_mem hi')
theorem last_at (u : List UInt8) {v : List UInt8} {c : UInt8} (h : c ∉ v) : Lib.lastIndexByte (str (u ++ c :: v)) (c.toNat : Int) = (u.length : Int) := by
  unfold Lib.lastIndexByte
  have hz := str_size (u ++ c :: v)
  rw [List.length_append, List.length_cons] at hz
  have at_ : ∀ i (hi : i < (u ++ c :: v).length), (str (u ++ c :: v)).data[i]! = (u ++ c :: v)[i]'hi := fun i hi => by
    rw [getElem!_pos (str (u ++ c :: v)).data i (by simpa [str] using hi)]
    rfl
  rcases Lib.lastIdx_spec (str (u ++ c :: v)) (c.toNat : Int) (str (u ++ c :: v)).size with ⟨_, h2⟩ | ⟨i, hi, h1, h2, h3⟩
  · exfalso
    have hu : u.length < (u ++ c :: v).length := by rw [List.length_append, List.length_cons]; omega
    refine h2 u.length (by omega) ?_
    rw [at_ u.length hu]
    simp
  · rw [h1]
    have hi' : i < (u ++ c :: v).length := by rw [List.length_append, List.length_cons]; omega
    have hu : u.length < (u ++ c :: v).length := by rw [List.length_append, List.length_cons]; omega
    rcases Nat.lt_trichotomy i u.length with hlt | he | hgt
    · exfalso
      refine h3 u.length hlt (by omega) ?_
      rw [at_ u.length hu]
      simp
    · rw [he]
    · exfalso
      rw [at_ i hi'] at h2
      have e2 : (u ++ c :: v)[i]'hi' = c := UInt8.toNat_inj.1 (by omega)
      rw [List.getElem_append_right (by omega)] at e2
      obtain ⟨k, hk⟩ : ∃ k, i - u.length = k + 1 := ⟨i - u.length - 1, by omega⟩
      simp only [hk, List.getElem_cons_succ] at e2
      exact h (e2 ▸ List.getElem_mem _)
/-- A label. -/
theorem pre_one (c : UInt8) (m : List UInt8) : Lib.hasPrefix m [c] = decide ([c] <+: m) := by
  unfold Lib.hasPrefix
  rw [Bool.eq_iff_iff, List.isPrefixOf_iff_prefix, decide_eq_true_eq]
theorem clone_any (s : ByteArray) (hs : s.size ≤ 2000000) (w : World) :
    Calls Tryd.prog 22 #[.string s] w fun e w' => e = .returned (.string s) ∧ Below w.heap.size w w' := by
  have C := fun w => Tryd.stringslite_Clone s w (by omega)
  go_enter Tryd.func22, Tryd.ntmps22
  go_wp2_with (go_at_call 37; ((with_reducible refine (C _).mono ?_); rintro e w1 ⟨rfl, hB⟩))
  go_ret
  exact ⟨rfl, hB⟩
set_option maxRecDepth 100000 in
set_option maxHeartbeats 2000000 in
theorem cutLast_any (s : List UInt8) (hl : s.length ≤ 1000000) (w : World) :
    Calls Tryd.prog 41 #[.string (str s)] w fun e w' => e = .returned (.tuple #[.string (str (parentL s)), .string (str (baseL s))]) ∧ Below w.heap.size w w' := by
  have CL := fun w => Tryd.strings_LastIndex_one (str s) ⟨#[47]⟩ rfl (by rw [str_size]; omega) w
  rw [show ((⟨#[47]⟩ : ByteArray)[0]'(by decide)).toNat = 47 from rfl] at CL
  by_cases hm : (47 : UInt8) ∈ s
  · obtain ⟨u, v, hs, hn⟩ := cut_last hm
    obtain ⟨hp, hb⟩ := parent_hit u hn
    rw [← hs] at hp hb
    rw [show Lib.lastIndexByte (str s) ((47 : Nat) : Int) = (u.length : Int) by rw [hs]; exact last_at u hn] at CL
    rw [hp, hb]
    have hzs := str_size s
    have hlen : s.length = u.length + (v.length + 1) := by rw [hs, List.length_append, List.length_cons]
    have c0 : ¬ ((u.length : Int) < 0) := by omega
    have HB := Lib.hid (show u.length + 1 ≤ (str s).size ∧ u.length ≤ 1000000 by rw [hzs]; omega)
    have ha := Lib.hid (show (str s).extract 0 u.length = str u by rw [hs]; exact part_ahead u v 47)
    have hb2 := Lib.hid (show (str s).extract (u.length + 1) (str s).size = str v by rw [hzs, hs]; exact part_behind u v 47)
    clear hp hb hs hn hm hlen hzs hl
    generalize str s = S at *
    generalize u.length = i at *
    go_enter Tryd.func41, Tryd.ntmps41
    go_wp2_with (go_at_call 69; ((with_reducible refine (CL _).mono ?_); rintro e w1 ⟨rfl, rfl⟩))
    obtain ⟨d1, d2⟩ := HB.out
    have c1 : (0 : Int) ≤ (i : Int) := by omega
    have c2 : (i : Int) ≤ (S.size : Int) := by omega
    have c3 : (0 : Int) ≤ (i : Int) + 1 := by omega
    have c4 : (i : Int) + 1 ≤ (S.size : Int) := by omega
    have c5 : (i : Int) + 1 ≤ 1000001 := by omega
    clear d1 d2
    go_region
    go_wp2
    go_ret2
    exact ⟨ret2s ha.out hb2.out, below_drewN (Below.refl _ _) _⟩
  · rw [show Lib.lastIndexByte (str s) ((47 : Nat) : Int) = -1 from last_miss hm] at CL
    obtain ⟨hp, hb⟩ := parent_miss hm
    rw [hp, hb]
    clear hp hb hm
    go_enter Tryd.func41, Tryd.ntmps41
    go_wp2_with (go_at_call 69; ((with_reducible refine (CL _).mono ?_); rintro e w1 ⟨rfl, rfl⟩))
    go_ret2
    exact ⟨rfl, Below.refl _ _⟩
theorem getD_le {l : List (List UInt8)} {n : Nat} (h : ∀ p ∈ l, p.length ≤ n) (k : Nat) : (l.getD k []).length ≤ n := by
  rw [List.getD_eq_getElem?_getD]
  by_cases hk : k < l.length
  · rw [List.getElem?_eq_getElem hk]; exact h _ (List.getElem_mem hk)
  · rw [List.getElem?_eq_none (by omega)]; exact Nat.zero_le _
theorem base_le (s : List UInt8) : (baseL s).length ≤ s.length := cutL_getD_le s 47 _
theorem parent_le (s : List UInt8) : (parentL s).length ≤ s.length := by
  by_cases h : (47 : UInt8) ∈ s
  · obtain ⟨a, b, rfl, hn⟩ := cut_last h
    rw [(parent_hit a hn).1, List.length_append]
    omega
  · rw [(parent_miss h).1]
    exact Nat.zero_le _
theorem parent_any (s : List UInt8) (hl : s.length ≤ 1000000) (w : World) :
    Calls Tryd.prog 24 #[.string (str s)] w fun e w' => e = .returned (.string (str (parentL s))) ∧ Below w.heap.size w w' := by
  have C := fun w => cutLast_any s hl w
  have CC := fun w => clone_any (str (parentL s)) (by rw [str_size]; have := parent_le s; omega) w
  go_enter Tryd.func24, Tryd.ntmps24
  go_wp2_with (first
    | (go_at_call 41; ((with_reducible refine (C _).mono ?_); rintro e w1 ⟨rfl, hB⟩))
    | (go_at_call 22; ((with_reducible refine (CC _).mono ?_); rintro e w2 ⟨rfl, hB2⟩)))
  go_ret
  exact ⟨rfl, hB.trans (hB2.mono hB.size)⟩
theorem base_any (s : List UInt8) (hl : s.length ≤ 1000000) (w : World) :
    Calls Tryd.prog 29 #[.string (str s)] w fun e w' => e = .returned (.string (str (baseL s))) ∧ Below w.heap.size w w' := by
  have C := fun w => cutLast_any s hl w
  have CC := fun w => clone_any (str (baseL s)) (by rw [str_size]; have := base_le s; omega) w
  go_enter Tryd.func29, Tryd.ntmps29
  go_wp2_with (first
    | (go_at_call 41; ((with_reducible refine (C _).mono ?_); rintro e w1 ⟨rfl, hB⟩))
    | (go_at_call 22; ((with_reducible refine (CC _).mono ?_); rintro e w2 ⟨rfl, hB2⟩)))
  go_ret
  exact ⟨rfl, hB.trans (hB2.mono hB.size)⟩
theorem join_any (d p : List UInt8) (hd : d.length ≤ 1000000) (hp : p.length ≤ 1000000) (w : World) :
    Calls Tryd.prog 45 #[.string (str d), .string (str p)] w fun e w' => e = .returned (.string (str (join2 d p))) ∧ Below w.heap.size w w' := by
  have C1 := fun w => clone_any (str d) (by rw [str_size]; omega) w
  have C2 := fun w => clone_any (str p) (by rw [str_size]; omega) w
  have zd := str_size d
  have zp := str_size p
  have z1 : (⟨#[47]⟩ : ByteArray).size = 1 := rfl
  have q1 : (str d).toList.isEmpty = decide (d = []) := empty_lit d
  have q2 : (str p).toList.isEmpty = decide (p = []) := empty_lit p
  by_cases h1 : d = []
  · have HR := Lib.hid (show join2 d p = p by unfold join2; rw [if_pos h1])
    rw [decide_eq_true h1] at q1
    clear h1
    go_enter Tryd.func45, Tryd.ntmps45
    go_wp2_with (go_at_call 22; ((with_reducible refine (C2 _).mono ?_); rintro e w1 ⟨rfl, hB⟩))
    go_ret
    exact ⟨by rw [HR.out]; rfl, hB⟩
  · rw [decide_eq_false h1] at q1
    by_cases h2 : p = []
    · have HR := Lib.hid (show join2 d p = d by unfold join2; rw [if_neg h1, if_pos h2])
      rw [decide_eq_true h2] at q2
      clear h1 h2
      go_enter Tryd.func45, Tryd.ntmps45
      go_wp2_with (go_at_call 22; ((with_reducible refine (C1 _).mono ?_); rintro e w1 ⟨rfl, hB⟩))
      go_ret
      exact ⟨by rw [HR.out]; rfl, hB⟩
    · have HR := Lib.hid (show join2 d p = d ++ [47] ++ p by unfold join2; rw [if_neg h1, if_neg h2]; simp)
      rw [decide_eq_false h2] at q2
      have zx : (str d ++ ⟨#[47]⟩ : ByteArray).size = d.length + 1 := by rw [ByteArray.size_append, zd, z1]
      clear h1 h2
      go_enter Tryd.func45, Tryd.ntmps45
      go_wp2
      go_ret
      refine ⟨?_, Below.refl _ _⟩
      rw [HR.out, ← str_append, ← str_append]
      rfl
theorem inside_pre {d : List UInt8} (hd : d ≠ []) (r : List UInt8) : insideB d (d ++ r) = (decide (r = []) || decide ([47] <+: r)) := by
  unfold insideB
  rw [decide_eq_false hd, Bool.false_or]
  congr 1
  · rw [decide_eq_decide]
    exact ⟨fun h => by simpa using h, fun h => by rw [h, List.append_nil]⟩
  · rw [decide_eq_decide]
    exact List.prefix_append_right_inj d
theorem inside_not {d p : List UInt8} (hd : d ≠ []) (h : ¬ d <+: p) : insideB d p = false := by
  unfold insideB
  rw [decide_eq_false hd, decide_eq_false (by rintro rfl; exact h (List.prefix_refl _)), decide_eq_false (fun h2 => h ((List.prefix_append d [47]).trans h2))]
  rfl
theorem hasP_iff (s p : List UInt8) : Lib.hasPrefix s p = decide (p <+: s) := by
  unfold Lib.hasPrefix
  rw [Bool.eq_iff_iff, List.isPrefixOf_iff_prefix, decide_eq_true_eq]
theorem trimP {a b : List UInt8} : Lib.trimPrefix (a ++ b) a = b := by
  unfold Lib.trimPrefix Lib.hasPrefix
  simp
theorem cutP_hit (p r : List UInt8) (w : World) : Calls Tryd.prog 42 #[.string (str (p ++ r)), .string (str p)] w fun e w' => e = .returned (.tuple #[.string (str r), .bool true]) ∧ w = w' := by
  have h := Tryd.strings_CutPrefix (str (p ++ r)) (str p) w
  rw [show (str (p ++ r)).data.toList = p ++ r from rfl, show (str p).data.toList = p from rfl, trimP, hasP_iff, decide_eq_true (List.prefix_append p r)] at h
  exact h.mono fun _ _ ⟨h1, h2⟩ => ⟨h1, h2.symm⟩
theorem cutP_miss {s p : List UInt8} (hn : ¬ p <+: s) (w : World) : ∃ r : ByteArray, Calls Tryd.prog 42 #[.string (str s), .string (str p)] w fun e w' => e = .returned (.tuple #[.string r, .bool false]) ∧ w = w' := by
  have h := Tryd.strings_CutPrefix (str s) (str p) w
  rw [show (str s).data.toList = s from rfl, show (str p).data.toList = p from rfl, hasP_iff, decide_eq_false hn] at h
  exact ⟨_, h.mono fun _ _ ⟨h1, h2⟩ => ⟨h1, h2.symm⟩⟩
theorem hasP_any (s p : List UInt8) (w : World) : Calls Tryd.prog 71 #[.string (str s), .string (str p)] w fun e w' => e = .returned (.bool (decide (p <+: s))) ∧ w = w' := by
  have h := Tryd.strings_HasPrefix (str s) (str p) w
  rw [show (str s).data.toList = s from rfl, show (str p).data.toList = p from rfl, hasP_iff] at h
  exact h.mono fun _ _ ⟨h1, h2⟩ => ⟨h1, h2.symm⟩
set_option maxRecDepth 100000 in
set_option maxHeartbeats 2000000 in
theorem inside_any (d p : List UInt8) (w : World) :
    Calls Tryd.prog 73 #[.string (str d), .string (str p)] w fun e w' => e = .returned (.bool (insideB d p)) ∧ w = w' := by
  have q1 : (str d).toList.isEmpty = decide (d = []) := empty_lit d
  by_cases h1 : d = []
  · have HR := Lib.hid (show insideB d p = true by unfold insideB; rw [decide_eq_true h1]; rfl)
    rw [decide_eq_true h1] at q1
    clear h1
    go_enter Tryd.func73, Tryd.ntmps73
    go_wp2
    go_ret
    exact ⟨retB HR.out.symm, by trivial⟩
  · rw [decide_eq_false h1] at q1
    by_cases h2 : d <+: p
    · obtain ⟨r, hr⟩ := h2
      have HR := Lib.hid (hr ▸ inside_pre h1 r)
      have CP := fun w => hr ▸ cutP_hit d r w
      have CH := fun w => hasP_any r [47] w
      rw [show str [47] = ⟨#[47]⟩ from rfl] at CH
      have q2 : (str r).toList.isEmpty = decide (r = []) := empty_lit r
      clear h1 hr
      generalize decide (r = []) = b1 at *
      generalize decide ([47] <+: r) = b2 at *
      cases b1
      all_goals
        go_enter Tryd.func73, Tryd.ntmps73
        go_wp2_with (first
          | (go_at_call 42; ((with_reducible refine (CP _).mono ?_); rintro e w1 ⟨rfl, rfl⟩))
          | (go_at_call 71; ((with_reducible refine (CH _).mono ?_); rintro e w2 ⟨rfl, rfl⟩)))
        go_ret
        exact ⟨retB (by rw [HR.out]; rfl), by trivial⟩
    · have HR := Lib.hid (inside_not h1 h2)
      have CP := fun w => cutP_miss h2 w
      clear h1 h2
      go_enter Tryd.func73, Tryd.ntmps73
      go_wp2_with (go_at_call 42; obtain ⟨r, CQ⟩ := CP w; ((with_reducible refine CQ.mono ?_); rintro e w1 ⟨rfl, rfl⟩))
      go_ret
      exact ⟨retB HR.out.symm, by trivial⟩
end Go.Proofs.YtokeiagcdahmaaaDoor
