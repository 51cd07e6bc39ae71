/- Layer 15: the program's reader: what records have, take, end, wait. -/
import Derived.Test.YtmgpofdmoaafoaaGreatDoorTrE
namespace Go.Proofs.YtmgpofdmoaafoaaGreatDoor
open Go.RowKit

set_option maxHeartbeats 2000000 in
theorem or_any (o : Option Bs) (own : Bs) (w : World) :
    Calls Tryz.prog 42 #[.agg #[.string (str (o.getD [])), .bool o.isSome], .string (str own)] w fun e w' => e = .returned (.string (str (o.getD own))) ∧ Below w.heap.size w w' := by
  have HB := Lib.hid ((Below.refl w.heap.size w).alloc (Nat.le_refl _) (.cells #[.string (str (o.getD [])), .bool o.isSome] 46))
  cases o with
  | none =>
    go_enter Tryz.func42, Tryz.ntmps42
    go_wp2
    go_ret
    exact ⟨rfl, HB.out⟩
  | some v =>
    go_enter Tryz.func42, Tryz.ntmps42
    go_wp2
    go_ret
    exact ⟨rfl, HB.out⟩
/-- Records that wait, as cells. -/
def wtV (wt : Option Recs) : Array Value := #[.bool wt.isSome, .string (str ((wPath wt).getD [])), .bool (wPath wt).isSome, .string (str ((wLink wt).getD [])), .bool (wLink wt).isSome, .string (str ((wSize wt).getD [])), .bool (wSize wt).isSome]
theorem wtV_some (r : Recs) : wtV (some r) = recV true r := rfl
theorem wtV_none : wtV none = rec0 := rfl
set_option maxHeartbeats 2000000 in
theorem sizeOr_any (wt : Option Recs) (hl : ((wSize wt).getD []).length ≤ 1000000000) (own : Nat) (w : World) :
    Calls Tryz.prog 43 #[.agg (wtV wt), .int .i64 (own : Int)] w fun e w' => e = .returned (.tuple #[.int .i64 (((sizeOr wt own).getD 0 : Nat) : Int), .bool (sizeOr wt own).isSome]) ∧ Below w.heap.size w w' := by
  have HB := Lib.hid ((Below.refl w.heap.size w).alloc (Nat.le_refl _) (.cells #[.bool wt.isSome, .string (str ((wPath wt).getD [])), .bool (wPath wt).isSome, .string (str ((wLink wt).getD [])), .bool (wLink wt).isSome, .string (str ((wSize wt).getD [])), .bool (wSize wt).isSome] 48))
  have HE : Hid (sizeOr wt own = match wSize wt with | none => some own | some t => numP 10 t) := Lib.hid rfl
  unfold wtV
  generalize wt.isSome = b0 at *
  generalize wPath wt = o1 at *
  generalize wLink wt = o2 at *
  cases h : wSize wt with
  | none =>
    have HR := Lib.hid (show sizeOr wt own = some own by rw [HE.out, h])
    rw [h] at HB
    clear HE h
    go_enter Tryz.func43, Tryz.ntmps43
    go_wp2
    go_ret2
    exact ⟨by rw [HR.out]; rfl, HB.out⟩
  | some t =>
    have HR := Lib.hid (show sizeOr wt own = numP 10 t by rw [HE.out, h])
    rw [h] at HB hl
    have C := fun w => number_any (str t) 10 (.inr rfl) (by rw [str_size]; have : t.length ≤ 1000000000 := hl; omega) w
    rw [str_toList, show ((10 : Nat) : Int) = 10 from rfl] at C
    rw [HR.out]
    clear HE h HR hl
    go_enter Tryz.func43, Tryz.ntmps43
    go_wp2_with (go_at_call 61; ((with_reducible refine (C _).mono ?_); rintro e w1 ⟨rfl, rfl⟩))
    go_ret2
    exact ⟨rfl, HB.out⟩
theorem retSB {a a' : ByteArray} {b : Bool} (h : a = a') : Ending.returned (.tuple #[.string a, .bool b]) = .returned (.tuple #[.string a', .bool b]) := by rw [h]
/-- A reader in a row. -/
def rdrV (rest : Bs) (wt : Option Recs) (v : Value) : Array Value :=
  #[.string (str rest), .bool wt.isSome, .string (str ((wPath wt).getD [])), .bool (wPath wt).isSome, .string (str ((wLink wt).getD [])), .bool (wLink wt).isSome, .string (str ((wSize wt).getD [])), .bool (wSize wt).isSome, v]
def isB (B : Nat) : Nat → Prop := fun k => k = B
theorem rdr_cell {w : World} {B : Nat} {rest : Bs} {wt : Option Recs} {v : Value} (h : rowC w B (rdrV rest wt v) 50) :
    (w.cell? ⟨B, 0, none⟩ = some (.string (str rest)) ∧ w.frozen? ⟨B, 0, none⟩ = false) ∧ w.cell? ⟨B, 1, none⟩ = some (.bool wt.isSome) ∧ (w.cell? ⟨B, 8, none⟩ = some v ∧ w.frozen? ⟨B, 8, none⟩ = false) :=
  ⟨⟨rowC_cell h 0, rowC_free h 0⟩, rowC_cell h 1, rowC_cell h 8, rowC_free h 8⟩
set_option maxRecDepth 100000 in
set_option maxHeartbeats 4000000 in
theorem take_any (B : Nat) (rest : Bs) (wt : Option Recs) (v : Value) (n : Nat) (hn : n ≤ 1099511627776) (w : World) (h : rowC w B (rdrV rest wt v) 50) :
    Calls Tryz.prog 17 #[.pointer (some ⟨B, 0, none⟩), .int .i64 (n : Int)] w fun e w' =>
      e = .returned (.tuple #[.string (str (((takeR n rest).map (·.1)).getD [])), .bool (takeR n rest).isSome]) ∧ rowC w' B (rdrV (((takeR n rest).map (·.2)).getD rest) wt v) 50 ∧ Chg (isB B) w w' := by
  obtain ⟨⟨c0, f0⟩, -, -⟩ := rdr_cell h
  have HR := Lib.hid h
  have C := fun w => whole_any n w hn
  have HE : Hid (takeR n rest = if rest.length < 512 * blocksN n then none else some (rest.take n, rest.drop (512 * blocksN n))) := Lib.hid rfl
  have hle := le_blocks n
  have hb : blocksN n ≤ 2147483649 := by unfold blocksN; omega
  have hz := str_size rest
  obtain ⟨m, hm⟩ : ∃ m, m = 512 * blocksN n := ⟨_, rfl⟩
  rw [← hm] at C HE hle
  have hm2 : m ≤ 1099511628288 := by omega
  clear hm hb h
  by_cases h1 : rest.length < m
  · have HT := Lib.hid (HE.out.trans (if_pos h1))
    have g1 : ((str rest).size : Int) < (m : Int) := by rw [hz]; omega
    clear HE h1 hle
    generalize str rest = R at *
    go_enter Tryz.func17, Tryz.ntmps17
    go_wp2_with (go_at_call 36; ((with_reducible refine (C _).mono ?_); rintro e w1 ⟨rfl, rfl⟩))
    go_ret2
    exact ⟨by rw [HT.out]; rfl, by rw [HT.out]; exact HR.out, Chg.refl _ _⟩
  · have HT := Lib.hid (HE.out.trans (if_neg h1))
    have g1 : ¬ ((str rest).size : Int) < (m : Int) := by rw [hz]; omega
    have g2 : (m : Int) ≤ ((str rest).size : Int) := by rw [hz]; omega
    have g3 : (n : Int) ≤ ((str rest).size : Int) := by rw [hz]; omega
    have HX := Lib.hid (show (str rest).extract 0 n = str (rest.take n) by rw [extract_str]; rfl)
    have HY := Lib.hid (show (str rest).extract m (str rest).size = str (rest.drop m) by rw [extract_str, hz]; unfold sl; rw [List.take_length])
    clear HE h1 hle
    generalize rest.take n = d1 at *
    generalize rest.drop m = d2 at *
    generalize str rest = R at *
    go_enter Tryz.func17, Tryz.ntmps17
    go_wp2_with (go_at_call 36; ((with_reducible refine (C _).mono ?_); rintro e w1 ⟨rfl, rfl⟩))
    refine (wpIn_wide (n := 4)).1 ?_
    refine region_quiet_tail (C := fun w' => ∃ q, w' = w.drewN q) 16 (by kernel_rfl) (by kernel_rfl) (by kernel_rfl) ⟨1, rfl⟩ ?_
    simp only [List.take_succ_cons, List.take_zero, List.drop_succ_cons, List.drop_zero]
    repeat (gi_big_quiet_step (fail))
    refine wpQuietIn_nil ?_
    rintro _ ⟨q, rfl⟩
    gi_wp2
    go_wp2
    go_ret2
    refine ⟨by rw [HT.out]; exact retSB HX.out, ?_, ((Chg.refl _ _).drewN q).setCell ⟨B, 0, none⟩ _ (.inl rfl)⟩
    rw [HT.out, show R.extract m rest.length = str d2 by rw [← hz]; exact HY.out]
    exact rowC_set (rowC_drewN HR.out q) 0 (.string (str d2))
def endV (rest : Bs) (wt : Option Recs) (v : Value) : Value := if wt.isSome = true ∨ rest.length < 512 ∨ allZ rest = false then .tuple #[.slice none 0 0, .int .i64 10] else .tuple #[v, .int .i64 0]
set_option maxRecDepth 100000 in
set_option maxHeartbeats 4000000 in
theorem end_any (B : Nat) (rest : Bs) (wt : Option Recs) (v : Value) (w : World) (h : rowC w B (rdrV rest wt v) 50) :
    Calls Tryz.prog 19 #[.pointer (some ⟨B, 0, none⟩)] w fun e w' =>
      e = .returned (endV rest wt v) ∧ w = w' := by
  obtain ⟨⟨c0, f0⟩, c1, c8, f8⟩ := rdr_cell h
  have C := fun w => zero_any rest w
  have hz := str_size rest
  cases hw : wt.isSome with
  | true =>
    rw [hw] at c1
    have HR := Lib.hid (show endV rest wt v = .tuple #[.slice none 0 0, .int .i64 10] from if_pos (.inl hw))
    clear hw h hz C
    generalize str rest = R at *
    go_enter Tryz.func19, Tryz.ntmps19
    go_wp2
    go_ret2
    exact ⟨by rw [HR.out]; rfl, rfl⟩
  | false =>
    rw [hw] at c1
    by_cases h1 : rest.length < 512
    · have g1 : ((str rest).size : Int) < 512 := by rw [hz]; omega
      have HR := Lib.hid (show endV rest wt v = .tuple #[.slice none 0 0, .int .i64 10] from if_pos (.inr (.inl h1)))
      clear hw h hz C h1
      generalize str rest = R at *
      go_enter Tryz.func19, Tryz.ntmps19
      go_wp2
      go_ret2
      exact ⟨by rw [HR.out]; rfl, rfl⟩
    · have g1 : ¬ ((str rest).size : Int) < 512 := by rw [hz]; omega
      cases hb : allZ rest with
      | false =>
        have HR := Lib.hid (show endV rest wt v = .tuple #[.slice none 0 0, .int .i64 10] from if_pos (.inr (.inr hb)))
        rw [hb] at C
        clear hw h hz hb
        generalize str rest = R at *
        go_enter Tryz.func19, Tryz.ntmps19
        go_wp2_with (go_at_call 18; ((with_reducible refine (C _).mono ?_); rintro e w1 ⟨rfl, rfl⟩))
        go_ret2
        exact ⟨by rw [HR.out]; rfl, rfl⟩
      | true =>
        have HR := Lib.hid (show endV rest wt v = .tuple #[v, .int .i64 0] from if_neg (by rintro (e | e | e); rw [hw] at e; cases e; exact h1 e; rw [hb] at e; cases e))
        rw [hb] at C
        clear hw h hz hb
        generalize str rest = R at *
        go_enter Tryz.func19, Tryz.ntmps19
        go_wp2_with (go_at_call 18; ((with_reducible refine (C _).mono ?_); rintro e w1 ⟨rfl, rfl⟩))
        go_ret2
        exact ⟨by rw [HR.out]; rfl, rfl⟩
/-- What a row of records says to an entry: what waits. -/
def waitR (d : Bs) (wt : Option Recs) : Option Recs := match recsR d ⟨none, none, none⟩ with
  | none => none
  | some rs => if wt.isSome then none else some rs
def waitC (d : Bs) (wt : Option Recs) : Int := if (waitR d wt).isSome then 0 else 10
def waitW (d : Bs) (wt : Option Recs) : Option Recs := if (waitR d wt).isSome then waitR d wt else wt
theorem wait_no {d : Bs} {wt : Option Recs} (h : waitR d wt = none) : waitC d wt = 10 ∧ waitW d wt = wt := by unfold waitC waitW; rw [h]; exact ⟨rfl, rfl⟩
theorem wait_yes {d : Bs} {wt : Option Recs} {r : Recs} (h : waitR d wt = some r) : waitC d wt = 0 ∧ waitW d wt = some r := by unfold waitC waitW; rw [h]; exact ⟨rfl, rfl⟩
set_option maxRecDepth 100000 in
set_option maxHeartbeats 4000000 in
theorem wait_any (B : Nat) (rest : Bs) (wt : Option Recs) (v : Value) (d : Bs) (hd : d.length ≤ 1000000000) (w : World) (h : rowC w B (rdrV rest wt v) 50) :
    Calls Tryz.prog 44 #[.pointer (some ⟨B, 0, none⟩), .string (str d)] w fun e w' =>
      e = .returned (.int .i64 (waitC d wt)) ∧ rowC w' B (rdrV rest (waitW d wt) v) 50 ∧ Chg (isB B) w w' := by
  have HI := Lib.hid info_rec
  have C := fun w => records_any d hd w
  have HE : Hid (waitR d wt = match recsR d ⟨none, none, none⟩ with | none => none | some rs => if wt.isSome then none else some rs) := Lib.hid rfl
  have HW := Lib.hid h
  have hlt := rowC_lt h
  have HX : Hid (∀ w1 (c : Array Value), Below w.heap.size w w1 → rowC (w1.alloc (.cells c 48)) B (rdrV rest wt v) 50 ∧ Chg (isB B) w (w1.alloc (.cells c 48)) ∧ rowC (w1.alloc (.cells c 48)) w1.heap.size c 48) :=
    Lib.hid fun w1 c hb => ⟨rowC_alloc (rowC_below HW.out hb hlt) _, (Chg.of_below hb).alloc _, rowC_new _ _ _⟩
  cases hr : recsR d ⟨none, none, none⟩ with
  | none =>
    have HR := Lib.hid (wait_no (show waitR d wt = none by rw [HE.out, hr]))
    rw [hr] at C
    unfold recO at C
    clear HE hr h hlt
    go_enter Tryz.func44, Tryz.ntmps44
    go_wp2_with (first
      | (go_at_call 64; ((with_reducible refine (C _).mono ?_); rintro e w1 ⟨rfl, hB1⟩))
      | ((with_reducible show wpList _ _ _ (⟨none, .store _ (.tmp 5) _, _, _, _, _⟩ :: _) _ _); refine wpList_store_last rfl 48 _ _ rfl w1.heap.size rec0 rfl rfl 48 _ rfl HI.out rfl (recV_one false ⟨none, none, none⟩) ?_))
    obtain ⟨q1, q2, q3⟩ := HX.out w1 rec0 hB1
    go_ret
    exact ⟨retInt HR.out.1.symm, by rw [HR.out.2]; exact q1, q2⟩
  | some rs =>
    rw [hr] at C
    unfold recO at C
    rw [Option.isSome_some] at C
    cases hw : wt.isSome with
    | true =>
      have HR := Lib.hid (wait_no (show waitR d wt = none by rw [HE.out, hr]; simp only [hw, if_true]))
      clear HE hr h hlt
      have HC1 : Hid (∀ w1 (c : Array Value), Below w.heap.size w w1 → (w1.alloc (.cells c 48)).cell? ⟨B, 1, none⟩ = some (.bool true)) := Lib.hid fun w1 c hb => hw ▸ (rdr_cell (HX.out w1 c hb).1).2.1
      clear hw
      go_enter Tryz.func44, Tryz.ntmps44
      go_wp2_with (first
        | (go_at_call 64; ((with_reducible refine (C _).mono ?_); rintro e w1 ⟨rfl, hB1⟩; have cc := HC1.out w1 (recV true rs) hB1))
        | ((with_reducible show wpList _ _ _ (⟨none, .store _ (.tmp 5) _, _, _, _, _⟩ :: _) _ _); refine wpList_store_last rfl 48 _ _ rfl w1.heap.size (recV true rs) rfl rfl 48 _ rfl HI.out rfl (recV_one _ _) ?_))
      obtain ⟨q1, q2, q3⟩ := HX.out w1 (recV true rs) hB1
      go_ret
      exact ⟨retInt HR.out.1.symm, by rw [HR.out.2]; exact q1, q2⟩
    | false =>
      have HR := Lib.hid (wait_yes (show waitR d wt = some rs by rw [HE.out, hr]; simp only [hw, Bool.false_eq_true, if_false]))
      clear HE hr h hlt
      have HC1 : Hid (∀ w1 (c : Array Value), Below w.heap.size w w1 → (w1.alloc (.cells c 48)).cell? ⟨B, 1, none⟩ = some (.bool false)) := Lib.hid fun w1 c hb => hw ▸ (rdr_cell (HX.out w1 c hb).1).2.1
      clear hw
      go_enter Tryz.func44, Tryz.ntmps44
      go_wp2_with (first
        | (go_at_call 64; ((with_reducible refine (C _).mono ?_); rintro e w1 ⟨rfl, hB1⟩; have cc := HC1.out w1 (recV true rs) hB1; have HQ := Lib.hid (HX.out w1 (recV true rs) hB1)))
        | ((with_reducible show wpList _ _ _ (⟨none, .store _ (.tmp 5) _, _, _, _, _⟩ :: _) _ _); refine wpList_store_last rfl 48 _ _ rfl w1.heap.size (recV true rs) rfl rfl 48 _ rfl HI.out rfl (recV_one _ _) ?_)
        | ((with_reducible show wpList _ _ _ (⟨some 22, .load _ (.tmp 5), _, _, _, _⟩ :: _) _ _); refine wpList_load_row rfl 48 _ rfl w1.heap.size rfl 48 _ (0, 0) _ HQ.out.2.2 Tryz.underlying48 rfl HI.out ?_)
        | ((with_reducible show wpList _ _ _ (⟨none, .store _ (.tmp 24) _, _, _, _, _⟩ :: _) _ _); refine wpList_store_mid rfl 48 _ _ rfl B 1 (recV true rs) rfl rfl (row_there HQ.out.1 1 7 (show 1 + 7 ≤ 9 by decide)) HI.out (recV_one _ _) ?_))
      go_ret
      exact ⟨retInt HR.out.1.symm, by rw [HR.out.2]; exact rowC_setCells (recV true rs).toList 1 HQ.out.1 (show 1 + 7 ≤ 9 by decide), Gn.sets (recV true rs).toList 1 HQ.out.2.1 (.inl rfl)⟩
end Go.Proofs.YtmgpofdmoaafoaaGreatDoor
