/- Layer 15: the program's records. -/
import Derived.Test.YtmgpofdmoaafoaaGreatDoorTrC
import Derived.Test.YtmgpofdmoaafoaaGreatDoorMd
import Derived.Deep.DeepCutAuto
namespace Go.Proofs.YtmgpofdmoaafoaaGreatDoor
open Go.RowKit

theorem beq_byte (t c : UInt8) : (((t.toNat : Nat) : Int) == ((c.toNat : Nat) : Int)) = decide (t = c) := by
  rw [Bool.eq_iff_iff, beq_iff_eq, decide_eq_true_eq]
  constructor
  · intro h; exact UInt8.toNat_inj.1 (by omega)
  · intro h; rw [h]
theorem tail_take (s : Bs) (n : Nat) : tailW (s.take n) 32 = (s.take n).drop ((s.takeWhile (· != 32)).length + 1) := by
  have gen : ∀ t : Bs, tailW t 32 = t.drop ((t.takeWhile (· != 32)).length + 1) := fun t => by
    unfold tailW
    have h1 : t.dropWhile (· != 32) = t.drop (t.takeWhile (· != 32)).length := by
      conv => rhs; arg 2; rw [← List.takeWhile_append_dropWhile (p := fun x : UInt8 => x != 32) (l := t)]
      rw [List.drop_left]
    rw [h1, List.drop_drop]
  rw [gen]
  by_cases h : (32 : UInt8) ∈ s.take n
  · obtain ⟨a, b, h1, h2, h3, _⟩ := cut_parts _ _ h
    rw [h3]
    have hs : s = a ++ 32 :: (b ++ s.drop n) := by
      conv => lhs; rw [← List.take_append_drop n s, h1]
      simp
    have h4 : s.takeWhile (· != 32) = a := by
      rw [hs]; exact takeWhile_stop (fun x hx e => h2 (e ▸ hx))
    rw [h4]
  · have h3 := (cut_miss h).1
    rw [h3, List.drop_of_length_le (by omega)]
    rw [List.drop_of_length_le]
    -- what stands ahead of the first blank holds all of it
    by_cases hm : (32 : UInt8) ∈ s
    · obtain ⟨a, b, h1, h2, h4, _⟩ := cut_parts _ _ hm
      rw [h4]
      by_cases hn : n ≤ a.length
      · rw [List.length_take]; omega
      · exfalso
        apply h
        rw [h1, List.take_append, List.take_of_length_le (by omega)]
        obtain ⟨k, hk⟩ : ∃ k, n - a.length = k + 1 := ⟨n - a.length - 1, by omega⟩
        rw [hk, List.take_succ_cons]
        simp
    · rw [(cut_miss hm).1, List.length_take]; omega
theorem suffix_iff (l : Bs) : Lib.hasSuffix l [10] = decide (l.getLast? = some 10) := by
  rcases List.eq_nil_or_concat l with rfl | ⟨r, x, rfl⟩
  · rfl
  · rw [List.concat_eq_append, List.getLast?_concat]
    unfold Lib.hasSuffix
    rw [Bool.eq_iff_iff, decide_eq_true_eq]
    simp
    exact eq_comm
theorem suffix_trim {l : Bs} (h : l.getLast? = some 10) : Lib.trimSuffix l [10] = l.dropLast := by
  unfold Lib.trimSuffix
  rw [suffix_iff, decide_eq_true h, if_pos rfl, List.dropLast_eq_take]
  rfl
theorem trimS_le (l : Bs) : (Lib.trimSuffix l [10]).length ≤ l.length := by
  unfold Lib.trimSuffix
  split
  · rw [List.length_take]; omega
  · exact Nat.le_refl _
theorem headD_take (s : Bs) (h : s.takeWhile (· != 32) ≠ []) : (s.takeWhile (· != 32)).getD 0 0 = s.headD 0 := by
  cases s with
  | nil => rfl
  | cons x r =>
    by_cases hx : x = 32
    · subst hx
      simp at h
    · rw [List.takeWhile_cons_of_pos (by simpa using hx)]
      rfl
theorem results_tmp4 {fn : Func} {t u v x : Tmp} (h : fn.results = #[.tmp t, .tmp u, .tmp v, .tmp x]) (tmps : Array Value) (P : Program) (w : World) :
    (results fn tmps).run P w = .ok (.tuple #[tmps.getD t undef, tmps.getD u undef, tmps.getD v undef, tmps.getD x undef]) w := by
  simp [results, h]
theorem ret4s {a b : Value} {c c' : ByteArray} {d : Value} (h : c = c') : Ending.returned (.tuple #[a, b, .string c, d]) = .returned (.tuple #[a, b, .string c', d]) := by rw [h]
def recT : Option (Bs × Bs × Bs) → Value
  | none => .tuple #[.string ⟨#[]⟩, .string ⟨#[]⟩, .string ⟨#[]⟩, .bool false]
  | some (k, v, t) => .tuple #[.string (str k), .string (str v), .string (str t), .bool true]
theorem numP_none {b : Nat} {s : Bs} (h : numP b s = none) : (((numP b s).getD 0 : Nat) : Int) = 0 ∧ (numP b s).isSome = false := by rw [h]; exact ⟨rfl, rfl⟩
set_option maxRecDepth 100000 in
set_option maxHeartbeats 4000000 in
theorem cutRec_any (s : Bs) (hs : s.length ≤ 1000000000) (w : World) :
    Calls Tryz.prog 81 #[.string (str s)] w fun e w' => e = .returned (recT (oneR s)) ∧ Below w.heap.size w w' := by
  have C1 := fun w => cut_any s 32 (by omega) w
  have hd := (List.takeWhile_sublist (fun x : UInt8 => x != 32) (l := s)).length_le
  have C2 := fun w => number_any (str (s.takeWhile (· != 32))) 10 (.inr rfl) (by rw [str_size]; omega) w
  rw [str_toList, show ((10 : Nat) : Int) = 10 from rfl] at C2
  have hz := str_size s
  have HO : Hid (oneR s = match numP 10 (s.takeWhile (· != 32)) with
    | none => none
    | some n =>
      if s.headD 0 = 48 ∨ s.length < n then none
      else
        let line := (s.take n).drop ((s.takeWhile (· != 32)).length + 1)
        if line.getLast? = some 10 ∧ (61 : UInt8) ∈ line.dropLast then
          some (line.dropLast.takeWhile (· != 61), (line.dropLast.dropWhile (· != 61)).drop 1, s.drop n)
        else none) := Lib.hid rfl
  have HT := Lib.hid (fun n => tail_take s n)
  have HH := Lib.hid (headD_take s)
  generalize decide ((32 : UInt8) ∈ s) = b32 at *
  generalize tailW s 32 = t32 at *
  generalize s.takeWhile (· != 32) = d at *
  cases hn : numP 10 d with
  | none =>
    have HR := Lib.hid (show oneR s = none by rw [HO.out, hn])
    rw [hn] at C2
    rw [Option.getD_none, Option.isSome_none] at C2
    clear HO HT HH hn hd hz
    generalize str s = S at *
    go_enter Tryz.func81, Tryz.ntmps81
    go_wp2_with (first
      | (go_at_call 63; ((with_reducible refine (C1 _).mono ?_); rintro e w1 ⟨rfl, hB1⟩))
      | (go_at_call 61; ((with_reducible refine (C2 _).mono ?_); rintro e w2 ⟨rfl, rfl⟩)))
    refine bodyPost_ret (results_tmp4 rfl _ _ _) rfl ?_
    exact ⟨by rw [HR.out]; rfl, hB1⟩
  | some n =>
    rw [hn] at C2
    rw [Option.getD_some, Option.isSome_some] at C2
    have hdne := (numP_lt hn).2
    have HG := Lib.hid (show oneR s = if s.headD 0 = 48 ∨ s.length < n then none
      else
        let line := (s.take n).drop (d.length + 1)
        if line.getLast? = some 10 ∧ (61 : UInt8) ∈ line.dropLast then
          some (line.dropLast.takeWhile (· != 61), (line.dropLast.dropWhile (· != 61)).drop 1, s.drop n)
        else none by rw [HO.out, hn])
    have i0 := idx_str (str d) 0 0 rfl (by rw [str_size]; exact List.length_pos_iff.2 hdne)
    rw [str_toList, HH.out hdne] at i0
    have gd0 : (0 : Int) < ((str d).size : Int) := by rw [str_size]; have := List.length_pos_iff.2 hdne; omega
    have q48 := beq_byte (s.headD 0) 48
    rw [show (((48 : UInt8).toNat : Nat) : Int) = 48 from rfl] at q48
    clear HO HH
    by_cases h1 : s.headD 0 = 48
    · have HR := Lib.hid (show oneR s = none by rw [HG.out, if_pos (.inl h1)])
      rw [h1] at i0
      clear HG HT hn hd hz h1 hdne q48
      generalize str s = S at *
      generalize str d = D at *
      go_enter Tryz.func81, Tryz.ntmps81
      go_wp2_with (first
        | (go_at_call 63; ((with_reducible refine (C1 _).mono ?_); rintro e w1 ⟨rfl, hB1⟩))
        | (go_at_call 61; ((with_reducible refine (C2 _).mono ?_); rintro e w2 ⟨rfl, rfl⟩)))
      refine bodyPost_ret (results_tmp4 rfl _ _ _) rfl ?_
      exact ⟨by rw [HR.out]; rfl, hB1⟩
    · rw [decide_eq_false h1] at q48
      have hx8 := (s.headD 0).toNat_lt
      generalize (s.headD 0).toNat = x at *
      by_cases h2 : s.length < n
      · have HR := Lib.hid (show oneR s = none by rw [HG.out, if_pos (.inr h2)])
        have g2 : ((str s).size : Int) < (n : Int) := by omega
        clear HG HT hn hd hz h1 h2 hdne
        generalize str s = S at *
        generalize str d = D at *
        go_enter Tryz.func81, Tryz.ntmps81
        go_wp2_with (first
          | (go_at_call 63; ((with_reducible refine (C1 _).mono ?_); rintro e w1 ⟨rfl, hB1⟩))
          | (go_at_call 61; ((with_reducible refine (C2 _).mono ?_); rintro e w2 ⟨rfl, rfl⟩)))
        refine bodyPost_ret (results_tmp4 rfl _ _ _) rfl ?_
        exact ⟨by rw [HR.out]; rfl, hB1⟩
      · have hlen : (s.take n).length ≤ 1000000000 := by rw [List.length_take]; omega
        have C3 := fun w => cut_any (s.take n) 32 (by omega) w
        rw [HT.out n] at C3
        rw [← show (str s).extract 0 n = str (s.take n) by rw [extract_str]; rfl] at C3
        have HE := Lib.hid (show (str s).extract n (str s).size = str (s.drop n) by rw [extract_str, hz]; unfold sl; rw [List.take_length])
        have HGG := Lib.hid (HG.out.trans (if_neg (by rintro (e | e); exact h1 e; exact h2 e)))
        simp only at HGG
        have hll : ((s.take n).drop (d.length + 1)).length ≤ 1000000000 := by rw [List.length_drop]; omega
        generalize (s.take n).drop (d.length + 1) = line at *
        generalize (s.take n).takeWhile (· != 32) = d2 at *
        generalize decide ((32 : UInt8) ∈ s.take n) = b2 at *
        have C4 := fun w => Tryz.strings_CutSuffix (str line) ⟨#[10]⟩ w (by rw [str_size]; omega)
        rw [str_toList, show (⟨#[10]⟩ : ByteArray).data.toList = [10] from rfl, suffix_iff, show (⟨(Lib.trimSuffix line [10]).toArray⟩ : ByteArray) = str (Lib.trimSuffix line [10]) from rfl] at C4
        have htl := trimS_le line
        have C5 := fun w => cut_any (Lib.trimSuffix line [10]) 61 (by omega) w
        have g2 : ¬ ((str s).size : Int) < (n : Int) := by omega
        have g3 : (n : Int) ≤ ((str s).size : Int) := by omega
        have g4 : (n : Int) ≤ 1000000000 := by omega
        by_cases h3 : line.getLast? = some 10
        · rw [suffix_trim h3] at C4 C5
          rw [decide_eq_true h3] at C4
          have HL := Lib.hid (show oneR s = if (61 : UInt8) ∈ line.dropLast then some (line.dropLast.takeWhile (· != 61), tailW line.dropLast 61, s.drop n) else none by
            rw [HGG.out]
            by_cases h4 : (61 : UInt8) ∈ line.dropLast
            · rw [if_pos ⟨h3, h4⟩, if_pos h4]; rfl
            · rw [if_neg (fun e => h4 e.2), if_neg h4])
          generalize line.dropLast.takeWhile (· != 61) = key at *
          generalize tailW line.dropLast 61 = val at *
          by_cases h4 : (61 : UInt8) ∈ line.dropLast
          · have HR := Lib.hid (HL.out.trans (if_pos h4))
            rw [decide_eq_true h4] at C5
            clear HG HGG HL HT hn hd hz h1 h2 h3 h4 hdne hlen hll htl hs
            generalize str s = S at *
            generalize str d = D at *
            have b1 := Below.refl w.heap.size w
            go_enter Tryz.func81, Tryz.ntmps81
            go_wp2_with (first
              | (go_at_call 63; (first | (with_reducible refine (C1 _).mono ?_) | (with_reducible refine (C3 _).mono ?_) | (with_reducible refine (C5 _).mono ?_)); rintro e w1 ⟨rfl, hB1⟩; have b1 := b1.trans (hB1.mono b1.size); clear hB1)
              | (go_at_call 92; ((with_reducible refine (C4 _).mono ?_); rintro e w3 ⟨rfl, rfl⟩))
              | (go_at_call 61; ((with_reducible refine (C2 _).mono ?_); rintro e w2 ⟨rfl, rfl⟩)))
            go_region
            go_wp2
            refine bodyPost_ret (results_tmp4 rfl _ _ _) rfl ?_
            exact ⟨by rw [HR.out]; exact ret4s HE.out, below_drewN b1 _⟩
          · have HR := Lib.hid (HL.out.trans (if_neg h4))
            rw [decide_eq_false h4] at C5
            clear HG HGG HL HT hn hd hz h1 h2 h3 h4 hdne hlen hll htl hs
            generalize str s = S at *
            generalize str d = D at *
            have b1 := Below.refl w.heap.size w
            go_enter Tryz.func81, Tryz.ntmps81
            go_wp2_with (first
              | (go_at_call 63; (first | (with_reducible refine (C1 _).mono ?_) | (with_reducible refine (C3 _).mono ?_) | (with_reducible refine (C5 _).mono ?_)); rintro e w1 ⟨rfl, hB1⟩; have b1 := b1.trans (hB1.mono b1.size); clear hB1)
              | (go_at_call 92; ((with_reducible refine (C4 _).mono ?_); rintro e w3 ⟨rfl, rfl⟩))
              | (go_at_call 61; ((with_reducible refine (C2 _).mono ?_); rintro e w2 ⟨rfl, rfl⟩)))
            refine bodyPost_ret (results_tmp4 rfl _ _ _) rfl ?_
            exact ⟨by rw [HR.out]; rfl, b1⟩
        · have HR := Lib.hid (show oneR s = none by rw [HGG.out, if_neg (fun e => h3 e.1)])
          rw [decide_eq_false h3] at C4
          generalize Lib.trimSuffix line [10] = line2 at *
          generalize line2.takeWhile (· != 61) = key at *
          generalize tailW line2 61 = val at *
          generalize decide ((61 : UInt8) ∈ line2) = b61 at *
          clear HG HGG HT hn hd hz h1 h2 h3 hdne hlen hll htl hs
          generalize str s = S at *
          generalize str d = D at *
          have b1 := Below.refl w.heap.size w
          go_enter Tryz.func81, Tryz.ntmps81
          go_wp2_with (first
            | (go_at_call 63; (first | (with_reducible refine (C1 _).mono ?_) | (with_reducible refine (C3 _).mono ?_) | (with_reducible refine (C5 _).mono ?_)); rintro e w1 ⟨rfl, hB1⟩; have b1 := b1.trans (hB1.mono b1.size); clear hB1)
            | (go_at_call 92; ((with_reducible refine (C4 _).mono ?_); rintro e w3 ⟨rfl, rfl⟩))
            | (go_at_call 61; ((with_reducible refine (C2 _).mono ?_); rintro e w2 ⟨rfl, rfl⟩)))
          refine bodyPost_ret (results_tmp4 rfl _ _ _) rfl ?_
          exact ⟨by rw [HR.out]; rfl, b1⟩
/-- Records in a row. -/
def recV (b : Bool) (r : Recs) : Array Value := #[.bool b, .string (str (r.path.getD [])), .bool r.path.isSome, .string (str (r.link.getD [])), .bool r.link.isSome, .string (str (r.size.getD [])), .bool r.size.isSome]
def rec0 : Array Value := #[.bool false, .string ⟨#[]⟩, .bool false, .string ⟨#[]⟩, .bool false, .string ⟨#[]⟩, .bool false]
theorem rec0_eq : recV false ⟨none, none, none⟩ = rec0 := rfl
theorem recV_one (b : Bool) (r : Recs) : (recV b r).all (·.oneCell') = true := by simp [Value.oneCell', recV]
theorem info_rec : (Tryz.prog.info? 48).map (·.size) = some 7 := by kernel_rfl
theorem info_val : (Tryz.prog.info? 46).map (·.size) = some 2 := by kernel_rfl
theorem val_one (v : Bs) : (#[.string (str v), .bool true] : Array Value).all (·.oneCell') = true := by simp [Value.oneCell']
set_option maxRecDepth 100000 in
set_option maxHeartbeats 4000000 in
theorem set_any (B : Nat) (b : Bool) (r : Recs) (k v : Bs) (w : World) (h : rowC w B (recV b r) 48) :
    Calls Tryz.prog 82 #[.pointer (some ⟨B, 0, none⟩), .string (str k), .agg #[.string (str v), .bool true]] w fun e w' => e = .returned (.tuple #[]) ∧ rowC w' B (recV b (setR r k v)) 48 ∧ Chg (fun q => q = B) w w' := by
  have HI := Lib.hid info_val
  have q1 := eq_lit k kPath
  have q2 := eq_lit k kLink
  have q3 := eq_lit k kSize
  have HS : Hid (setR r k v = if k = kPath then { r with path := some v } else if k = kLink then { r with link := some v } else if k = kSize then { r with size := some v } else r) := Lib.hid rfl
  obtain ⟨W0, hW0⟩ : ∃ W0, W0 = w.alloc (.cells #[.string (str v), .bool true] 46) := ⟨_, rfl⟩
  have Z0 : rowC W0 w.heap.size #[.string (str v), .bool true] 46 := by rw [hW0]; exact rowC_new w _ _
  have Y0 : rowC W0 B (recV b r) 48 := by rw [hW0]; exact rowC_alloc h _
  have G0 : Chg (fun q => q = B) w W0 := by rw [hW0]; exact (Chg.refl _ _).alloc _
  have HW0 := Lib.hid hW0
  have HZ0 := Lib.hid Z0
  have HY0 := Lib.hid Y0
  have HG0 := Lib.hid G0
  have HT1 := Lib.hid (row_there Y0 1 2 (show 1 + 2 ≤ 7 by decide))
  have HT3 := Lib.hid (row_there Y0 3 2 (show 3 + 2 ≤ 7 by decide))
  have HT5 := Lib.hid (row_there Y0 5 2 (show 5 + 2 ≤ 7 by decide))
  unfold kPath at q1
  unfold kLink at q2
  unfold kSize at q3
  by_cases h1 : k = kPath
  · have HR := Lib.hid (show setR r k v = { r with path := some v } by rw [HS.out, if_pos h1])
    rw [show decide (k = [112, 97, 116, 104]) = true from decide_eq_true h1] at q1
    clear hW0 Z0 Y0 G0 h HS h1 q2 q3
    generalize str k = K at *
    go_enter Tryz.func82, Tryz.ntmps82
    go_upto_region 1 with (fail)
    rw [← HW0.out]
    go_wp2_with (first
      | ((with_reducible show wpList _ _ _ (⟨some 10, .load _ (.tmp 5), _, _, _, _⟩ :: _) _ _); refine wpList_load_row rfl 46 _ rfl w.heap.size rfl 46 _ (0, 0) _ HZ0.out Tryz.underlying46 rfl HI.out ?_)
      | ((with_reducible show wpList _ _ _ (⟨none, .store _ (.tmp 12) _, _, _, _, _⟩ :: _) _ _); refine wpList_store_mid rfl 46 _ _ rfl B 1 #[.string (str v), .bool true] rfl rfl HT1.out HI.out (val_one v) ?_))
    go_end0
    exact ⟨rfl, by rw [HR.out]; exact rowC_setCells [.string (str v), .bool true] 1 HY0.out (show 1 + 2 ≤ 7 by decide), Gn.sets [.string (str v), .bool true] 1 HG0.out (.inl rfl)⟩
  · by_cases h2 : k = kLink
    · have HR := Lib.hid (show setR r k v = { r with link := some v } by rw [HS.out, if_neg h1, if_pos h2])
      rw [show decide (k = [112, 97, 116, 104]) = false from decide_eq_false h1] at q1
      rw [show decide (k = [108, 105, 110, 107, 112, 97, 116, 104]) = true from decide_eq_true h2] at q2
      clear hW0 Z0 Y0 G0 h HS h1 h2 q3
      generalize str k = K at *
      go_enter Tryz.func82, Tryz.ntmps82
      go_upto_region 1 with (fail)
      rw [← HW0.out]
      go_wp2_with (first
        | ((with_reducible show wpList _ _ _ (⟨some 16, .load _ (.tmp 5), _, _, _, _⟩ :: _) _ _); refine wpList_load_row rfl 46 _ rfl w.heap.size rfl 46 _ (0, 0) _ HZ0.out Tryz.underlying46 rfl HI.out ?_)
        | ((with_reducible show wpList _ _ _ (⟨none, .store _ (.tmp 18) _, _, _, _, _⟩ :: _) _ _); refine wpList_store_mid rfl 46 _ _ rfl B 3 #[.string (str v), .bool true] rfl rfl HT3.out HI.out (val_one v) ?_))
      go_end0
      exact ⟨rfl, by rw [HR.out]; exact rowC_setCells [.string (str v), .bool true] 3 HY0.out (show 3 + 2 ≤ 7 by decide), Gn.sets [.string (str v), .bool true] 3 HG0.out (.inl rfl)⟩
    · by_cases h3 : k = kSize
      · have HR := Lib.hid (show setR r k v = { r with size := some v } by rw [HS.out, if_neg h1, if_neg h2, if_pos h3])
        rw [show decide (k = [112, 97, 116, 104]) = false from decide_eq_false h1] at q1
        rw [show decide (k = [108, 105, 110, 107, 112, 97, 116, 104]) = false from decide_eq_false h2] at q2
        rw [show decide (k = [115, 105, 122, 101]) = true from decide_eq_true h3] at q3
        clear hW0 Z0 Y0 G0 h HS h1 h2 h3
        generalize str k = K at *
        go_enter Tryz.func82, Tryz.ntmps82
        go_upto_region 1 with (fail)
        rw [← HW0.out]
        go_wp2_with (first
          | ((with_reducible show wpList _ _ _ (⟨some 22, .load _ (.tmp 5), _, _, _, _⟩ :: _) _ _); refine wpList_load_row rfl 46 _ rfl w.heap.size rfl 46 _ (0, 0) _ HZ0.out Tryz.underlying46 rfl HI.out ?_)
          | ((with_reducible show wpList _ _ _ (⟨none, .store _ (.tmp 24) _, _, _, _, _⟩ :: _) _ _); refine wpList_store_mid rfl 46 _ _ rfl B 5 #[.string (str v), .bool true] rfl rfl HT5.out HI.out (val_one v) ?_))
        go_end0
        exact ⟨rfl, by rw [HR.out]; exact rowC_setCells [.string (str v), .bool true] 5 HY0.out (show 5 + 2 ≤ 7 by decide), Gn.sets [.string (str v), .bool true] 5 HG0.out (.inl rfl)⟩
      · have HR := Lib.hid (show setR r k v = r by rw [HS.out, if_neg h1, if_neg h2, if_neg h3])
        rw [show decide (k = [112, 97, 116, 104]) = false from decide_eq_false h1] at q1
        rw [show decide (k = [108, 105, 110, 107, 112, 97, 116, 104]) = false from decide_eq_false h2] at q2
        rw [show decide (k = [115, 105, 122, 101]) = false from decide_eq_false h3] at q3
        clear hW0 Z0 Y0 G0 h HS h1 h2 h3
        generalize str k = K at *
        go_enter Tryz.func82, Tryz.ntmps82
        go_upto_region 1 with (fail)
        rw [← HW0.out]
        go_wp2
        go_end0
        exact ⟨rfl, by rw [HR.out]; exact HY0.out, HG0.out⟩
end Go.Proofs.YtmgpofdmoaafoaaGreatDoor
