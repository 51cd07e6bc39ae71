/- Merged: PtE, PtF. -/
import Derived.Test.YtoallfcpnbhhiaaGreatDoorShelf
import Derived.Test.YtoallfcpnbhhiaaGreatDoorM05
import Derived.RangeFuncOwn
/- Layer 14: the program's Parent, Base, Join, Inside. -/
namespace Go.Proofs.YtoallfcpnbhhiaaGreatDoor
open Go.RowKit

theorem extract_str (s : List UInt8) (a b : Nat) : (str s).extract a b = str ((s.take b).drop a) := by
  refine bytes_toList ?_
  rw [str_toList, ByteArray.data_extract, Array.toList_extract, str_toList, List.extract_eq_take_drop, List.drop_take]
theorem eq_lit (h l : List UInt8) : ((str h).toList == l) = decide (h = l) := by
  unfold str
  rw [ByteArray.toList_mk, Bool.eq_iff_iff, beq_iff_eq, decide_eq_true_eq]
theorem eq_none (h : List UInt8) : ((str h).toList == []) = decide (h = []) := eq_lit h []
theorem eq_strs (a b : List UInt8) : ((str a).toList == (str b).toList) = decide (a = b) := by
  have h : ∀ l : List UInt8, (str l).toList = l := fun l => by rw [Lib.toList_data]; rfl
  rw [h, h]
  rw [Bool.eq_iff_iff, beq_iff_eq, decide_eq_true_eq]
theorem empty_lit (h : List UInt8) : (str h).toList.isEmpty = decide (h = []) := by
  rw [← eq_none h]
  cases (str h).toList <;> rfl
theorem ret2s {a a' b b' : ByteArray} (h : a = a') (h' : b = b') : Ending.returned (.tuple #[.string a, .string b]) = .returned (.tuple #[.string a', .string b']) := by rw [h, h']
theorem index_at {a : List UInt8} {c : UInt8} (b : List UInt8) (h : c ∉ a) : Lib.indexByte (a ++ c :: b) c = (a.length : Int) := by
  induction a with
  | nil => simp [Lib.indexByte]
  | cons x a ih =>
    have h1 : ¬ (x == c) = true := fun e => h (by simp [beq_iff_eq.1 e])
    have h2 : c ∉ a := fun e => h (List.mem_cons_of_mem _ e)
    have h3 : ¬ (((a.length : Nat) : Int) == -1) = true := by rw [beq_iff_eq]; omega
    rw [List.cons_append, Lib.indexByte, if_neg h1, ih h2, if_neg h3, List.length_cons]
    rfl
theorem index_miss {s : List UInt8} {c : UInt8} (h : c ∉ s) : Lib.indexByte s c = -1 := by
  induction s with
  | nil => rfl
  | cons x a ih =>
    have h1 : ¬ (x == c) = true := fun e => h (by simp [beq_iff_eq.1 e])
    have h2 : c ∉ a := fun e => h (List.mem_cons_of_mem _ e)
    rw [Lib.indexByte, if_neg h1, ih h2]
    rfl
theorem index_dec (s : List UInt8) (c : UInt8) : decide (0 ≤ Lib.indexByte s c) = decide (c ∈ s) := by
  by_cases h : c ∈ s
  · obtain ⟨a, b, rfl, hn⟩ := cut_first h
    rw [index_at b hn, decide_eq_true h, decide_eq_true (by omega)]
  · rw [index_miss h, decide_eq_false h]
    rfl
theorem contains_any (s : List UInt8) (c : UInt8) (w : World) :
    Calls Tryz.prog 80 #[.string (str s), .string ⟨#[c]⟩] w fun e w' => e = .returned (.bool (decide (c ∈ s))) ∧ w = w' := by
  have h := Tryz.strings_Contains_one (str s) c w
  rw [show (str s).data.toList = s from rfl, index_dec] at h
  exact h.mono fun _ _ ⟨h1, h2⟩ => ⟨h1, h2.symm⟩
theorem part_ahead (a b : List UInt8) (c : UInt8) : (str (a ++ c :: b)).extract 0 a.length = str a := by
  rw [extract_str, List.drop_zero, List.take_left]
theorem part_behind (a b : List UInt8) (c : UInt8) : (str (a ++ c :: b)).extract (a.length + 1) (a ++ c :: b).length = str b := by
  rw [extract_str, List.take_length, show a ++ c :: b = (a ++ [c]) ++ b by simp, show a.length + 1 = (a ++ [c]).length by simp, List.drop_left]
/-- Where a byte stands last. -/
theorem last_miss {s : List UInt8} {c : UInt8} (h : c ∉ s) : Lib.lastIndexByte (str s) (c.toNat : Int) = -1 := by
  unfold Lib.lastIndexByte
  rcases Lib.lastIdx_spec (str s) (c.toNat : Int) (str s).size with ⟨h1, _⟩ | ⟨i, hi, h1, h2, _⟩
  · exact h1
  · exfalso
    have hi' : i < s.length := by rw [← str_size s]; exact hi
    have e : (str s).data[i]! = s[i]'hi' := by
      rw [getElem!_pos (str s).data i (by simpa using hi)]
      rfl
    rw [e] at h2
    have e2 : s[i]'hi' = c := UInt8.toNat_inj.1 (by omega)
    exact h (e2 ▸ List.getElem_mem hi')
theorem last_at (u : List UInt8) {v : List UInt8} {c : UInt8} (h : c ∉ v) : Lib.lastIndexByte (str (u ++ c :: v)) (c.toNat : Int) = (u.length : Int) := by
  unfold Lib.lastIndexByte
  have hz := str_size (u ++ c :: v)
  rw [List.length_append, List.length_cons] at hz
  have at_ : ∀ i (hi : i < (u ++ c :: v).length), (str (u ++ c :: v)).data[i]! = (u ++ c :: v)[i]'hi := fun i hi => by
    rw [getElem!_pos (str (u ++ c :: v)).data i (by simpa [str] using hi)]
    rfl
  rcases Lib.lastIdx_spec (str (u ++ c :: v)) (c.toNat : Int) (str (u ++ c :: v)).size with ⟨_, h2⟩ | ⟨i, hi, h1, h2, h3⟩
  · exfalso
    have hu : u.length < (u ++ c :: v).length := by rw [List.length_append, List.length_cons]; omega
    refine h2 u.length (by omega) ?_
    rw [at_ u.length hu]
    simp
  · rw [h1]
    have hi' : i < (u ++ c :: v).length := by rw [List.length_append, List.length_cons]; omega
    have hu : u.length < (u ++ c :: v).length := by rw [List.length_append, List.length_cons]; omega
    rcases Nat.lt_trichotomy i u.length with hlt | he | hgt
    · exfalso
      refine h3 u.length hlt (by omega) ?_
      rw [at_ u.length hu]
      simp
    · rw [he]
    · exfalso
      rw [at_ i hi'] at h2
      have e2 : (u ++ c :: v)[i]'hi' = c := UInt8.toNat_inj.1 (by omega)
      rw [List.getElem_append_right (by omega)] at e2
      obtain ⟨k, hk⟩ : ∃ k, i - u.length = k + 1 := ⟨i - u.length - 1, by omega⟩
      simp only [hk, List.getElem_cons_succ] at e2
      exact h (e2 ▸ List.getElem_mem _)
theorem clone_any (s : ByteArray) (hs : s.size ≤ 2000000) (w : World) :
    Calls Tryz.prog 43 #[.string s] w fun e w' => e = .returned (.string s) ∧ Below w.heap.size w w' := by
  have C := fun w => Tryz.stringslite_Clone s w (by omega)
  go_enter Tryz.func43, Tryz.ntmps43
  go_wp2_with (go_at_call 59; ((with_reducible refine (C _).mono ?_); rintro e w1 ⟨rfl, hB⟩))
  go_ret
  exact ⟨rfl, hB⟩
set_option maxRecDepth 100000 in
set_option maxHeartbeats 2000000 in
theorem cutLast_any (s : List UInt8) (hl : s.length ≤ 1000000) (w : World) :
    Calls Tryz.prog 63 #[.string (str s)] w fun e w' => e = .returned (.tuple #[.string (str (parentL s)), .string (str (baseL s))]) ∧ Below w.heap.size w w' := by
  have CL := fun w => Tryz.strings_LastIndex_one (str s) ⟨#[47]⟩ rfl (by rw [str_size]; omega) w
  rw [show ((⟨#[47]⟩ : ByteArray)[0]'(by decide)).toNat = 47 from rfl] at CL
  by_cases hm : (47 : UInt8) ∈ s
  · obtain ⟨u, v, hs, hn⟩ := cut_last hm
    obtain ⟨hp, hb⟩ := parent_hit u hn
    rw [← hs] at hp hb
    rw [show Lib.lastIndexByte (str s) ((47 : Nat) : Int) = (u.length : Int) by rw [hs]; exact last_at u hn] at CL
    rw [hp, hb]
    have hzs := str_size s
    have hlen : s.length = u.length + (v.length + 1) := by rw [hs, List.length_append, List.length_cons]
    have c0 : ¬ ((u.length : Int) < 0) := by omega
    have HB := Lib.hid (show u.length + 1 ≤ (str s).size ∧ u.length ≤ 1000000 by rw [hzs]; omega)
    have ha := Lib.hid (show (str s).extract 0 u.length = str u by rw [hs]; exact part_ahead u v 47)
    have hb2 := Lib.hid (show (str s).extract (u.length + 1) (str s).size = str v by rw [hzs, hs]; exact part_behind u v 47)
    clear hp hb hs hn hm hlen hzs hl
    generalize str s = S at *
    generalize u.length = i at *
    go_enter Tryz.func63, Tryz.ntmps63
    go_wp2_with (go_at_call 83; ((with_reducible refine (CL _).mono ?_); rintro e w1 ⟨rfl, rfl⟩))
    obtain ⟨d1, d2⟩ := HB.out
    have c1 : (0 : Int) ≤ (i : Int) := by omega
    have c2 : (i : Int) ≤ (S.size : Int) := by omega
    have c3 : (0 : Int) ≤ (i : Int) + 1 := by omega
    have c4 : (i : Int) + 1 ≤ (S.size : Int) := by omega
    have c5 : (i : Int) + 1 ≤ 1000001 := by omega
    clear d1 d2
    go_region
    go_wp2
    go_ret2
    exact ⟨ret2s ha.out hb2.out, below_drewN (Below.refl _ _) _⟩
  · rw [show Lib.lastIndexByte (str s) ((47 : Nat) : Int) = -1 from last_miss hm] at CL
    obtain ⟨hp, hb⟩ := parent_miss hm
    rw [hp, hb]
    clear hp hb hm
    go_enter Tryz.func63, Tryz.ntmps63
    go_wp2_with (go_at_call 83; ((with_reducible refine (CL _).mono ?_); rintro e w1 ⟨rfl, rfl⟩))
    go_ret2
    exact ⟨rfl, Below.refl _ _⟩
theorem base_le (s : List UInt8) : (baseL s).length ≤ s.length := cutL_getD_le s 47 _
theorem parent_le (s : List UInt8) : (parentL s).length ≤ s.length := by
  by_cases h : (47 : UInt8) ∈ s
  · obtain ⟨a, b, rfl, hn⟩ := cut_last h
    rw [(parent_hit a hn).1, List.length_append]
    omega
  · rw [(parent_miss h).1]
    exact Nat.zero_le _
theorem parent_any (s : List UInt8) (hl : s.length ≤ 1000000) (w : World) :
    Calls Tryz.prog 45 #[.string (str s)] w fun e w' => e = .returned (.string (str (parentL s))) ∧ Below w.heap.size w w' := by
  have C := fun w => cutLast_any s hl w
  have CC := fun w => clone_any (str (parentL s)) (by rw [str_size]; have := parent_le s; omega) w
  go_enter Tryz.func45, Tryz.ntmps45
  go_wp2_with (first
    | (go_at_call 63; ((with_reducible refine (C _).mono ?_); rintro e w1 ⟨rfl, hB⟩))
    | (go_at_call 43; ((with_reducible refine (CC _).mono ?_); rintro e w2 ⟨rfl, hB2⟩)))
  go_ret
  exact ⟨rfl, hB.trans (hB2.mono hB.size)⟩
theorem base_any (s : List UInt8) (hl : s.length ≤ 1000000) (w : World) :
    Calls Tryz.prog 70 #[.string (str s)] w fun e w' => e = .returned (.string (str (baseL s))) ∧ Below w.heap.size w w' := by
  have C := fun w => cutLast_any s hl w
  have CC := fun w => clone_any (str (baseL s)) (by rw [str_size]; have := base_le s; omega) w
  go_enter Tryz.func70, Tryz.ntmps70
  go_wp2_with (first
    | (go_at_call 63; ((with_reducible refine (C _).mono ?_); rintro e w1 ⟨rfl, hB⟩))
    | (go_at_call 43; ((with_reducible refine (CC _).mono ?_); rintro e w2 ⟨rfl, hB2⟩)))
  go_ret
  exact ⟨rfl, hB.trans (hB2.mono hB.size)⟩
theorem join_any (d p : List UInt8) (hd : d.length ≤ 1000000) (hp : p.length ≤ 1000000) (w : World) :
    Calls Tryz.prog 88 #[.string (str d), .string (str p)] w fun e w' => e = .returned (.string (str (join2 d p))) ∧ Below w.heap.size w w' := by
  have C1 := fun w => clone_any (str d) (by rw [str_size]; omega) w
  have C2 := fun w => clone_any (str p) (by rw [str_size]; omega) w
  have zd := str_size d
  have zp := str_size p
  have z1 : (⟨#[47]⟩ : ByteArray).size = 1 := rfl
  have q1 : (str d).toList.isEmpty = decide (d = []) := empty_lit d
  have q2 : (str p).toList.isEmpty = decide (p = []) := empty_lit p
  by_cases h1 : d = []
  · have HR := Lib.hid (show join2 d p = p by unfold join2; rw [if_pos h1])
    rw [decide_eq_true h1] at q1
    clear h1
    go_enter Tryz.func88, Tryz.ntmps88
    go_wp2_with (go_at_call 43; ((with_reducible refine (C2 _).mono ?_); rintro e w1 ⟨rfl, hB⟩))
    go_ret
    exact ⟨by rw [HR.out]; rfl, hB⟩
  · rw [decide_eq_false h1] at q1
    by_cases h2 : p = []
    · have HR := Lib.hid (show join2 d p = d by unfold join2; rw [if_neg h1, if_pos h2])
      rw [decide_eq_true h2] at q2
      clear h1 h2
      go_enter Tryz.func88, Tryz.ntmps88
      go_wp2_with (go_at_call 43; ((with_reducible refine (C1 _).mono ?_); rintro e w1 ⟨rfl, hB⟩))
      go_ret
      exact ⟨by rw [HR.out]; rfl, hB⟩
    · have HR := Lib.hid (show join2 d p = d ++ [47] ++ p by unfold join2; rw [if_neg h1, if_neg h2]; simp)
      rw [decide_eq_false h2] at q2
      have zx : (str d ++ ⟨#[47]⟩ : ByteArray).size = d.length + 1 := by rw [ByteArray.size_append, zd, z1]
      clear h1 h2
      go_enter Tryz.func88, Tryz.ntmps88
      go_wp2
      go_ret
      refine ⟨?_, Below.refl _ _⟩
      rw [HR.out, ← str_append, ← str_append]
      rfl
theorem inside_pre {d : List UInt8} (hd : d ≠ []) (r : List UInt8) : insideB d (d ++ r) = (decide (r = []) || decide ([47] <+: r)) := by
  unfold insideB
  rw [decide_eq_false hd, Bool.false_or]
  congr 1
  · rw [decide_eq_decide]
    exact ⟨fun h => by simpa using h, fun h => by rw [h, List.append_nil]⟩
  · rw [decide_eq_decide]
    exact List.prefix_append_right_inj d
theorem inside_not {d p : List UInt8} (hd : d ≠ []) (h : ¬ d <+: p) : insideB d p = false := by
  unfold insideB
  rw [decide_eq_false hd, decide_eq_false (by rintro rfl; exact h (List.prefix_refl _)), decide_eq_false (fun h2 => h ((List.prefix_append d [47]).trans h2))]
  rfl
theorem hasP_iff (s p : List UInt8) : Lib.hasPrefix s p = decide (p <+: s) := by
  unfold Lib.hasPrefix
  rw [Bool.eq_iff_iff, List.isPrefixOf_iff_prefix, decide_eq_true_eq]
theorem trimP {a b : List UInt8} : Lib.trimPrefix (a ++ b) a = b := by
  unfold Lib.trimPrefix Lib.hasPrefix
  simp
theorem cutP_hit (p r : List UInt8) (w : World) : Calls Tryz.prog 85 #[.string (str (p ++ r)), .string (str p)] w fun e w' => e = .returned (.tuple #[.string (str r), .bool true]) ∧ w = w' := by
  have h := Tryz.strings_CutPrefix (str (p ++ r)) (str p) w
  rw [show (str (p ++ r)).data.toList = p ++ r from rfl, show (str p).data.toList = p from rfl, trimP, hasP_iff, decide_eq_true (List.prefix_append p r)] at h
  exact h.mono fun _ _ ⟨h1, h2⟩ => ⟨h1, h2.symm⟩
theorem cutP_miss {s p : List UInt8} (hn : ¬ p <+: s) (w : World) : ∃ r : ByteArray, Calls Tryz.prog 85 #[.string (str s), .string (str p)] w fun e w' => e = .returned (.tuple #[.string r, .bool false]) ∧ w = w' := by
  have h := Tryz.strings_CutPrefix (str s) (str p) w
  rw [show (str s).data.toList = s from rfl, show (str p).data.toList = p from rfl, hasP_iff, decide_eq_false hn] at h
  exact ⟨_, h.mono fun _ _ ⟨h1, h2⟩ => ⟨h1, h2.symm⟩⟩
theorem hasP_any (s p : List UInt8) (w : World) : Calls Tryz.prog 111 #[.string (str s), .string (str p)] w fun e w' => e = .returned (.bool (decide (p <+: s))) ∧ w = w' := by
  have h := Tryz.strings_HasPrefix (str s) (str p) w
  rw [show (str s).data.toList = s from rfl, show (str p).data.toList = p from rfl, hasP_iff] at h
  exact h.mono fun _ _ ⟨h1, h2⟩ => ⟨h1, h2.symm⟩
set_option maxRecDepth 100000 in
set_option maxHeartbeats 2000000 in
theorem inside_any (d p : List UInt8) (w : World) :
    Calls Tryz.prog 113 #[.string (str d), .string (str p)] w fun e w' => e = .returned (.bool (insideB d p)) ∧ w = w' := by
  have q1 : (str d).toList.isEmpty = decide (d = []) := empty_lit d
  by_cases h1 : d = []
  · have HR := Lib.hid (show insideB d p = true by unfold insideB; rw [decide_eq_true h1]; rfl)
    rw [decide_eq_true h1] at q1
    clear h1
    go_enter Tryz.func113, Tryz.ntmps113
    go_wp2
    go_ret
    exact ⟨retB HR.out.symm, by trivial⟩
  · rw [decide_eq_false h1] at q1
    by_cases h2 : d <+: p
    · obtain ⟨r, hr⟩ := h2
      have HR := Lib.hid (hr ▸ inside_pre h1 r)
      have CP := fun w => hr ▸ cutP_hit d r w
      have CH := fun w => hasP_any r [47] w
      rw [show str [47] = ⟨#[47]⟩ from rfl] at CH
      have q2 : (str r).toList.isEmpty = decide (r = []) := empty_lit r
      clear h1 hr
      generalize decide (r = []) = b1 at *
      generalize decide ([47] <+: r) = b2 at *
      cases b1
      all_goals
        go_enter Tryz.func113, Tryz.ntmps113
        go_wp2_with (first
          | (go_at_call 85; ((with_reducible refine (CP _).mono ?_); rintro e w1 ⟨rfl, rfl⟩))
          | (go_at_call 111; ((with_reducible refine (CH _).mono ?_); rintro e w2 ⟨rfl, rfl⟩)))
        go_ret
        exact ⟨retB (by rw [HR.out]; rfl), by trivial⟩
    · have HR := Lib.hid (inside_not h1 h2)
      have CP := fun w => cutP_miss h2 w
      clear h1 h2
      go_enter Tryz.func113, Tryz.ntmps113
      go_wp2_with (go_at_call 85; obtain ⟨r, CQ⟩ := CP w; ((with_reducible refine CQ.mono ?_); rintro e w1 ⟨rfl, rfl⟩))
      go_ret
      exact ⟨retB HR.out.symm, by trivial⟩
end Go.Proofs.YtoallfcpnbhhiaaGreatDoor

/- Layer 14: the program's stack of parts. -/
namespace Go.Proofs.YtoallfcpnbhhiaaGreatDoor
open Go.RowKit

/-- A stack in memory: 100 of its parts at most are kept, the others are counted. -/
def StkAt (w : World) (base B : Nat) (l : List (List UInt8)) : Prop :=
  ∃ v, rowC w B #[v, .int .i64 ((l.length - 100 : Nat) : Int)] 109 ∧ OwnsC w base v (l.take 100)
/-- What a call on it changes. -/
def stkS (base B : Nat) : Nat → Prop := fun k => k = B ∨ base ≤ k
structure StkC (base B : Nat) (w w' : World) : Prop where
  chg : Chg (stkS base B) w w'
  ko : KeepsOthers w w'
theorem StkC.refl (base B : Nat) (w : World) : StkC base B w w := ⟨Chg.refl _ _, KeepsOthers.refl _⟩
theorem StkC.set {base B : Nat} {w w' : World} (h : StkC base B w w') (i : Nat) (v : Value) : StkC base B w (w'.setCell ⟨B, i, none⟩ v) := ⟨h.chg.setCell _ _ (.inl (.inl rfl)), h.ko.trans (KeepsOthers.setCell _ _ _)⟩
theorem OwnsC.cellsAt {w : World} {base : Nat} {v : Value} {l : List (List UInt8)} (h : OwnsC w base v l) : ∀ (j : Nat) (o : Obj), v.ownBlock = some j → w.heap[j]? = some o → o.isCells = true := by
  intro j o hj ho
  rcases h with ⟨rfl, _⟩ | ⟨g, cap, cur, rfl, _, hg, _⟩
  · cases hj
  · simp [Value.ownBlock] at hj
    subst hj
    rw [hg] at ho
    cases ho
    rfl
theorem own_far {w : World} {base B : Nat} {v : Value} {l : List (List UInt8)} (h : OwnsC w base v l) (hB : B < base) : v.ownBlock ≠ some B := fun e => by
  have := (h.block B e).1
  omega
theorem StkAt.chg {w w' : World} {base B : Nat} {l : List (List UInt8)} (h : StkAt w base B l) {s : Nat → Prop} (hc : Chg s w w') (hs : ∀ k, stkS base B k → k < w.heap.size → ¬ s k) : StkAt w' base B l := by
  obtain ⟨v, hr, ho⟩ := h
  refine ⟨v, hc.rowC hr (hs B (.inl rfl) (rowC_lt hr)), ho.kept fun g hg hlt _ => hc.block g hlt (hs g (.inr hg) hlt)⟩
theorem wpList_append_c {w : World} {ops : Array Oper} {rest : List Oper} {o : Oper} {a : Act} {Q : Exit → Act → World → Prop} (hgd : o.guard = none) (s x : Operand)
    (ho : o.op = .call { callee := .builtin .append, args := #[s, x], argTypes := #[92, 92] })
    (base : Nat) (v : Value) (l : List (List UInt8)) (hs : a.eval s = v) (hown : OwnsC w base v l)
    (ad : Addr) (c : Nat) (y : List UInt8) (hx : a.eval x = .slice (some ad) 1 c) (hc : w.cell? (ad.add 0) = some (.string (str y)))
    (hl : l.length ≤ 1000000) (hbase : base ≤ w.heap.size)
    (h : ∀ v' w', OwnsC w' base v' (l ++ [y]) → w.grownBy w' v.ownBlock → wpList Tryz.prog ops Q rest (a.put o.dst v') w') :
    wpList Tryz.prog ops Q (o :: rest) a w := by
  refine wpList_plain hgd fun K hK => ?_
  obtain ⟨v', w', hr, h2, h3⟩ := run_append_c w base v l hown ad c y hc hl hbase o.type
  unfold Oper.wp execOp
  simp only [ho, resolve, invoke, builtin, Sem.run_bind, Sem.run_pure, Result.andThen_ok, List.map_toArray, List.map_cons, List.map_nil, hs, hx, hr]
  exact hK _ _ (h v' w' h2 h3)
theorem row_two {w : World} {B : Nat} {x y : Value} {t : TypeId} (h : rowC w B #[x, y] t) : (w.cell? ⟨B, 0, none⟩ = some x ∧ w.frozen? ⟨B, 0, none⟩ = false) ∧ (w.cell? ⟨B, 1, none⟩ = some y ∧ w.frozen? ⟨B, 1, none⟩ = false) :=
  ⟨⟨rowC_cell h 0, rowC_free h 0⟩, ⟨rowC_cell h 1, rowC_free h 1⟩⟩
theorem take_drop {l : List (List UInt8)} (h : 100 < l.length) : l.dropLast.take 100 = l.take 100 := by
  rw [List.dropLast_eq_take, List.take_take]
  congr 1
  omega
theorem add_zero_addr (g : Nat) : (⟨g, 0, none⟩ : Addr).add 0 = ⟨g, 0, none⟩ := by unfold Addr.add; split <;> simp_all
set_option maxRecDepth 100000 in
set_option maxHeartbeats 2000000 in
theorem cut_any (base B : Nat) (l : List (List UInt8)) (hl : l.length ≤ 1000000) (hB : B < base) (w : World) (hk : StkAt w base B l) :
    Calls Tryz.prog 79 #[.pointer (some ⟨B, 0, none⟩)] w fun e w' => e = .returned (.bool (!decide (l = []))) ∧ StkAt w' base B l.dropLast ∧ StkC base B w w' := by
  obtain ⟨v, hr, ho⟩ := hk
  obtain ⟨⟨e0, f0⟩, ⟨e1, f1⟩⟩ := row_two hr
  have HR := Lib.hid hr
  have HO := Lib.hid ho
  by_cases h1 : 100 < l.length
  · obtain ⟨M, hM⟩ : ∃ M, l.length - 100 = M + 1 := ⟨l.length - 101, by omega⟩
    have HM := Lib.hid hM
    rw [hM] at e1
    have g1 : (0 : Int) < ((M + 1 : Nat) : Int) := by omega
    have g2 : ((M + 1 : Nat) : Int) ≤ 1000000 := by omega
    have HL := Lib.hid h1
    have HV := Lib.hid (show (!decide (l = [])) = true by rw [decide_eq_false (by rintro rfl; simp at h1)]; rfl)
    clear hr ho hM h1
    go_enter Tryz.func79, Tryz.ntmps79
    go_wp2
    go_ret
    refine ⟨retB HV.out.symm, ⟨v, ?_, ?_⟩, ?_⟩
    · have h2 := rowC_set HR.out 1 (.int .i64 ((M : Nat) : Int))
      have h3 : l.dropLast.length - 100 = M := by rw [List.length_dropLast]; have := HM.out; omega
      rw [h3]
      have h4 : ((M + 1 : Nat) : Int) - 1 = (M : Int) := by omega
      simpa [h4] using h2
    · rw [take_drop HL.out]
      exact HO.out.kept fun g hg hlt _ => heap_setCell_other _ _ g _ (by show g ≠ B; omega)
    · exact (StkC.refl _ _ _).set _ _
  · have hM : l.length - 100 = 0 := by omega
    have ht : l.take 100 = l := List.take_of_length_le (by omega)
    rw [ht] at ho HO
    rw [hM] at e1 HR
    obtain ⟨a, cap, rfl, hcap, hmax⟩ := ho.form
    have hmax2 : cap ≤ 9223372036854775807 := by unfold maxLen at hmax; omega
    by_cases h2 : l = []
    · subst h2
      go_enter Tryz.func79, Tryz.ntmps79
      go_wp2
      go_ret
      exact ⟨rfl, ⟨_, HR.out, HO.out⟩, StkC.refl _ _ _⟩
    · have HV := Lib.hid (show (!decide (l = [])) = true by rw [decide_eq_false h2]; rfl)
      have hpos := List.length_pos_iff.2 h2
      obtain ⟨M, hM2⟩ : ∃ M, l.length = M + 1 := ⟨l.length - 1, by omega⟩
      have HC := Lib.hid (HO.out.cut h2)
      rw [hM2] at e0 hcap hl HR HC
      rw [show M + 1 - 1 = M by omega] at HC
      have g1 : ¬ (((M + 1 : Nat) : Int) - 1 < 0) := by omega
      have g2 : (M : Int) ≤ (cap : Int) := by omega
      have g3 : (0 : Int) ≤ (M : Int) := by omega
      have HL := Lib.hid (show l.dropLast.length - 100 = 0 ∧ l.dropLast.take 100 = l.dropLast from ⟨by rw [List.length_dropLast]; omega, List.take_of_length_le (by rw [List.length_dropLast]; omega)⟩)
      clear hr ho hM h1 h2 ht hpos hM2
      go_enter Tryz.func79, Tryz.ntmps79
      go_wp2
      go_ret
      refine ⟨retB HV.out.symm, ⟨.slice a M M, ?_, ?_⟩, ?_⟩
      · rw [HL.out.1]
        simpa using rowC_set HR.out 0 (.slice a M M)
      · rw [HL.out.2]
        exact HC.out.kept fun g hg hlt _ => heap_setCell_other _ _ g _ (by show g ≠ B; omega)
      · exact (StkC.refl _ _ _).set _ _
theorem take_more {l : List (List UInt8)} (h : 100 ≤ l.length) (x : List UInt8) : (l ++ [x]).take 100 = l.take 100 := List.take_append_of_le_length h
set_option maxRecDepth 100000 in
set_option maxHeartbeats 2000000 in
theorem put_any (base B : Nat) (l : List (List UInt8)) (x : List UInt8) (hl : l.length ≤ 1000000) (hB : B < base) (w : World) (hw : base ≤ w.heap.size) (hk : StkAt w base B l) :
    Calls Tryz.prog 81 #[.pointer (some ⟨B, 0, none⟩), .string (str x)] w fun e w' => e = .returned (.tuple #[]) ∧ StkAt w' base B (l ++ [x]) ∧ StkC base B w w' := by
  obtain ⟨v, hr, ho⟩ := hk
  obtain ⟨⟨e0, f0⟩, ⟨e1, f1⟩⟩ := row_two hr
  have HR := Lib.hid hr
  have HO := Lib.hid ho
  by_cases h1 : 100 ≤ l.length
  · obtain ⟨M, hM⟩ : ∃ M, l.length - 100 = M := ⟨_, rfl⟩
    have HM := Lib.hid (show (l ++ [x]).length - 100 = M + 1 by rw [List.length_append, List.length_singleton]; omega)
    have HT := Lib.hid (take_more h1 x)
    have hlen : (l.take 100).length = 100 := by rw [List.length_take]; omega
    rw [hM] at e1 HR
    obtain ⟨a, cap, rfl, hcap, hmax⟩ := ho.form
    rw [hlen] at e0 HR
    have g2 : (M : Int) ≤ 1000000 := by omega
    have HLEN := Lib.hid hlen
    clear hr ho hM h1 hlen
    go_enter Tryz.func81, Tryz.ntmps81
    go_wp2
    refine bodyPost_ret (results_none rfl _ _ _) rfl ?_
    refine ⟨rfl, ⟨.slice a 100 cap, ?_, ?_⟩, ?_⟩
    · rw [HM.out]
      simpa using rowC_set HR.out 1 (.int .i64 ((M : Int) + 1))
    · have h7 := HO.out
      rw [HLEN.out] at h7
      rw [HT.out]
      exact h7.kept fun g hg hlt _ => heap_setCell_other _ _ g _ (by show g ≠ B; omega)
    · exact (StkC.refl _ _ _).set _ _
  · have hM : l.length - 100 = 0 := by omega
    have ht : l.take 100 = l := List.take_of_length_le (by omega)
    have HT := Lib.hid (show (l ++ [x]).length - 100 = 0 ∧ (l ++ [x]).take 100 = l ++ [x] from ⟨by rw [List.length_append, List.length_singleton]; omega, List.take_of_length_le (by rw [List.length_append, List.length_singleton]; omega)⟩)
    rw [ht] at ho HO
    rw [hM] at e1 HR
    obtain ⟨a, cap, rfl, hcap, hmax⟩ := ho.form
    obtain ⟨N, hN⟩ : ∃ N, N = l.length := ⟨_, rfl⟩
    have HN := Lib.hid hN
    rw [← hN] at e0 HR HO
    have g1 : ((N : Int) == 100) = false := by rw [beq_eq_false_iff_ne]; omega
    have hfar := own_far HO.out hB
    have HF := Lib.hid hfar
    have HW := Lib.hid hw
    clear hr ho hM h1 ht hN hcap hmax hfar
    go_enter Tryz.func81, Tryz.ntmps81
    go_wp2_with ((with_reducible show wpList _ _ _ (⟨some 24, _, _, _, _, _⟩ :: _) _ _); refine wpList_append_c rfl (.tmp 21) (.tmp 23) rfl base (.slice a N cap) l rfl (HO.out.below ((Below.refl _ _).alloc (Nat.le_refl _) _)) _ 1 x rfl (by rw [add_zero_addr]; exact (rowC_cell (rowC_new _ _ _) 0)) (by have := HN.out; omega) (by rw [size_alloc]; have := HW.out; omega) ?_; intro v' w6 hown6 hgrow6; obtain ⟨a6, cap6, rfl, _, _⟩ := hown6.form; have HO6 := Lib.hid hown6; have HG6 := Lib.hid hgrow6; have hr6 : rowC w6 B #[.slice a N cap, .int .i64 0] 109 := ((hgrow6.block B (by rw [size_alloc]; have := rowC_lt HR.out; omega) (fun e => HF.out e.symm)).trans (rowC_alloc HR.out _)); obtain ⟨⟨e6, f6⟩, _⟩ := row_two hr6; have HR6 := Lib.hid hr6; clear hown6 hgrow6 hr6)
    go_end0
    refine ⟨rfl, ⟨.slice a6 (l ++ [x]).length cap6, ?_, ?_⟩, ?_⟩
    · rw [HT.out.1]
      simpa using rowC_set HR6.out 0 (.slice a6 (l ++ [x]).length cap6)
    · rw [HT.out.2]
      exact HO6.out.kept fun g hg hlt _ => heap_setCell_other _ _ g _ (by show g ≠ B; omega)
    · have c1 : Chg (stkS base B) w w6 := ((Chg.refl _ w).alloc _).grown HG6.out (fun k hk => .inl (.inr ((HO.out.block k hk).1)))
      have c2 : KeepsOthers w w6 := (KeepsOthers.alloc w _).trans (KeepsOthers.of_grownBy HG6.out (fun j o hj hh => (HO.out.below ((Below.refl _ _).alloc (Nat.le_refl _) _)).cellsAt j o hj hh))
      exact (StkC.mk c1 c2).set _ _
end Go.Proofs.YtoallfcpnbhhiaaGreatDoor

