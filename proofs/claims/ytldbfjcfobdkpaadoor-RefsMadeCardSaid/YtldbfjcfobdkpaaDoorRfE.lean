/- Layer 12: the document's 'part' and 'path'. -/
import Derived.Test.YtldbfjcfobdkpaaDoorRfD
namespace Go.Proofs.YtldbfjcfobdkpaaDoor
open Go.RowKit

theorem extract_str (s : List UInt8) (a b : Nat) : (str s).extract a b = str ((s.take b).drop a) := by
  refine bytes_toList ?_
  rw [str_toList, ByteArray.data_extract, Array.toList_extract, str_toList, List.extract_eq_take_drop, List.drop_take]
theorem extract_first (s : List UInt8) : (str s).extract 0 1 = str (s.take 1) := by rw [extract_str]; rfl
theorem extract_last (s : List UInt8) : (str s).extract (s.length - 1) s.length = str (s.drop (s.length - 1)) := by rw [extract_str, List.take_length]
theorem extract_at (s : List UInt8) {k : Nat} (h : k < s.length) : (str s).extract k (k + 1) = str [s.getD k 0] := by
  have := extract_one (str s) (k := k) (by rw [str_size]; exact h)
  rwa [str_toList] at this
theorem drop_at {s : List UInt8} {k : Nat} (h : k < s.length) : s.drop k = s.getD k 0 :: s.drop (k + 1) := by
  rw [List.drop_eq_getElem_cons h, List.getD_eq_getElem?_getD, List.getElem?_eq_getElem h]
  rfl
set_option maxRecDepth 100000 in
set_option maxHeartbeats 4000000 in
theorem part_any (s : List UInt8) (w : World) (hs : s.length ≤ 1000000) :
    Calls Tryd.prog 49 #[.string (str s)] w fun e w' => e = .returned (.bool (partB s)) ∧ Below w.heap.size w w' := by
  have HP := Lib.hid (show partB s = (!decide (s = []) && (ofB s (smallB ++ [46, 95, 45]) && (ofB (s.take 1) smallB && (ofB (s.drop (s.length - 1)) smallB && partG [] s)))) from rfl)
  have CO1 : ∀ w, Calls Tryd.prog 32 #[.string (str s), .string ⟨#[97, 98, 99, 100, 101, 102, 103, 104, 105, 106, 107, 108, 109, 110, 111, 112, 113, 114, 115, 116, 117, 118, 119, 120, 121, 122, 48, 49, 50, 51, 52, 53, 54, 55, 56, 57, 46, 95, 45]⟩] w fun e w' => e = .returned (.bool (ofB s (smallB ++ [46, 95, 45]))) ∧ Below w.heap.size w w' := fun w => ofC _ ⟨#[97, 98, 99, 100, 101, 102, 103, 104, 105, 106, 107, 108, 109, 110, 111, 112, 113, 114, 115, 116, 117, 118, 119, 120, 121, 122, 48, 49, 50, 51, 52, 53, 54, 55, 56, 57, 46, 95, 45]⟩ w hs (by decide)
  have CO2 : ∀ w, Calls Tryd.prog 32 #[.string (str (s.take 1)), .string ⟨#[97, 98, 99, 100, 101, 102, 103, 104, 105, 106, 107, 108, 109, 110, 111, 112, 113, 114, 115, 116, 117, 118, 119, 120, 121, 122, 48, 49, 50, 51, 52, 53, 54, 55, 56, 57]⟩] w fun e w' => e = .returned (.bool (ofB (s.take 1) smallB)) ∧ Below w.heap.size w w' := fun w => ofC _ ⟨#[97, 98, 99, 100, 101, 102, 103, 104, 105, 106, 107, 108, 109, 110, 111, 112, 113, 114, 115, 116, 117, 118, 119, 120, 121, 122, 48, 49, 50, 51, 52, 53, 54, 55, 56, 57]⟩ w (by rw [List.length_take]; omega) (by decide)
  have CO3 : ∀ w, Calls Tryd.prog 32 #[.string (str (s.drop (s.length - 1))), .string ⟨#[97, 98, 99, 100, 101, 102, 103, 104, 105, 106, 107, 108, 109, 110, 111, 112, 113, 114, 115, 116, 117, 118, 119, 120, 121, 122, 48, 49, 50, 51, 52, 53, 54, 55, 56, 57]⟩] w fun e w' => e = .returned (.bool (ofB (s.drop (s.length - 1)) smallB)) ∧ Below w.heap.size w w' := fun w => ofC _ ⟨#[97, 98, 99, 100, 101, 102, 103, 104, 105, 106, 107, 108, 109, 110, 111, 112, 113, 114, 115, 116, 117, 118, 119, 120, 121, 122, 48, 49, 50, 51, 52, 53, 54, 55, 56, 57]⟩ w (by rw [List.length_drop]; omega) (by decide)
  have he := eq_none s
  have szs := str_size s
  by_cases h0 : s = []
  · have HR := Lib.hid (show partB s = false by rw [HP.out, decide_eq_true h0]; rfl)
    rw [decide_eq_true h0] at he
    clear h0 HP CO2 CO3
    go_enter Tryd.func49, Tryd.ntmps49
    go_wp2_with (first
      | (go_at_call 32; ((with_reducible refine (CO1 _).mono ?_); rintro e w1 ⟨rfl, b1⟩); have B1 := Lib.hid b1; clear b1 CO1)
      | (go_at_call 32; ((with_reducible refine (CO2 _).mono ?_); rintro e w2 ⟨rfl, b2⟩); have B2 := Lib.hid (B1.out.trans (b2.mono B1.out.size)); clear b2 CO2)
      | (go_at_call 32; ((with_reducible refine (CO3 _).mono ?_); rintro e w3 ⟨rfl, b3⟩); have B3 := Lib.hid (B2.out.trans (b3.mono B2.out.size)); clear b3 CO3))
    go_ret
    exact ⟨retBool HR.out.symm, Below.refl _ _⟩

  rw [decide_eq_false h0] at he
  have hn : 0 < s.length := List.length_pos_iff.2 h0
  have hn1 : (1 : Int) ≤ (s.length : Int) := by omega
  have x1 := extract_first s
  have x2 := extract_last s
  have hz : ((s.length : Int) == 0) = false := by rw [beq_eq_false_iff_ne]; omega
  cases h1 : ofB s (smallB ++ [46, 95, 45])
  · have HR := Lib.hid (show partB s = false by rw [HP.out, decide_eq_false h0, h1]; rfl)
    rw [h1] at CO1
    clear h0 HP h1 CO2 CO3
    go_enter Tryd.func49, Tryd.ntmps49
    go_wp2_with (first
      | (go_at_call 32; ((with_reducible refine (CO1 _).mono ?_); rintro e w1 ⟨rfl, b1⟩); have B1 := Lib.hid b1; clear b1 CO1)
      | (go_at_call 32; ((with_reducible refine (CO2 _).mono ?_); rintro e w2 ⟨rfl, b2⟩); have B2 := Lib.hid (B1.out.trans (b2.mono B1.out.size)); clear b2 CO2)
      | (go_at_call 32; ((with_reducible refine (CO3 _).mono ?_); rintro e w3 ⟨rfl, b3⟩); have B3 := Lib.hid (B2.out.trans (b3.mono B2.out.size)); clear b3 CO3))
    go_ret
    exact ⟨retBool HR.out.symm, B1.out⟩

  rw [h1] at CO1
  cases h2 : ofB (s.take 1) smallB
  · have HR := Lib.hid (show partB s = false by rw [HP.out, decide_eq_false h0, h1, h2]; rfl)
    rw [h2] at CO2
    clear h0 HP h1 h2 CO3
    go_enter Tryd.func49, Tryd.ntmps49
    go_wp2_with (first
      | (go_at_call 32; ((with_reducible refine (CO1 _).mono ?_); rintro e w1 ⟨rfl, b1⟩); have B1 := Lib.hid b1; clear b1 CO1)
      | (go_at_call 32; ((with_reducible refine (CO2 _).mono ?_); rintro e w2 ⟨rfl, b2⟩); have B2 := Lib.hid (B1.out.trans (b2.mono B1.out.size)); clear b2 CO2)
      | (go_at_call 32; ((with_reducible refine (CO3 _).mono ?_); rintro e w3 ⟨rfl, b3⟩); have B3 := Lib.hid (B2.out.trans (b3.mono B2.out.size)); clear b3 CO3))
    go_ret
    exact ⟨retBool HR.out.symm, B2.out⟩

  rw [h2] at CO2
  cases h3 : ofB (s.drop (s.length - 1)) smallB
  · have HR := Lib.hid (show partB s = false by rw [HP.out, decide_eq_false h0, h1, h2, h3]; rfl)
    rw [h3] at CO3
    clear h0 HP h1 h2 h3
    go_enter Tryd.func49, Tryd.ntmps49
    go_wp2_with (first
      | (go_at_call 32; ((with_reducible refine (CO1 _).mono ?_); rintro e w1 ⟨rfl, b1⟩); have B1 := Lib.hid b1; clear b1 CO1)
      | (go_at_call 32; ((with_reducible refine (CO2 _).mono ?_); rintro e w2 ⟨rfl, b2⟩); have B2 := Lib.hid (B1.out.trans (b2.mono B1.out.size)); clear b2 CO2)
      | (go_at_call 32; ((with_reducible refine (CO3 _).mono ?_); rintro e w3 ⟨rfl, b3⟩); have B3 := Lib.hid (B2.out.trans (b3.mono B2.out.size)); clear b3 CO3))
    go_ret
    exact ⟨retBool HR.out.symm, B3.out⟩

  rw [h3] at CO3
  have HR := Lib.hid (show partB s = partG [] s by rw [HP.out, decide_eq_false h0, h1, h2, h3]; rfl)
  have IX := Lib.hid (fun k h => extract_at s (k := k) h)
  clear h0 HP h1 h2 h3
  go_enter Tryd.func49, Tryd.ntmps49
  go_wp2_with (first
    | (go_at_call 32; ((with_reducible refine (CO1 _).mono ?_); rintro e w1 ⟨rfl, b1⟩); have B1 := Lib.hid b1; clear b1 CO1)
    | (go_at_call 32; ((with_reducible refine (CO2 _).mono ?_); rintro e w2 ⟨rfl, b2⟩); have B2 := Lib.hid (B1.out.trans (b2.mono B1.out.size)); clear b2 CO2)
    | (go_at_call 32; ((with_reducible refine (CO3 _).mono ?_); rintro e w3 ⟨rfl, b3⟩); have B3 := Lib.hid (B2.out.trans (b3.mono B2.out.size)); clear b3 CO3))
  clear x1 x2 he
  go_loopw [3, 4] (fun gv v wr => ∃ (k : Nat) (g : List UInt8), k ≤ s.length ∧ g.length ≤ k ∧ gv = .string (str g) ∧ v = .int .i64 k ∧ Hid (partG [] s = partG g (s.drop k)) ∧ Hid (Below w.heap.size w wr)) (fun _ v _ => s.length - (intOf v).toNat)
  case atStart => exact ⟨0, [], Nat.zero_le _, Nat.le_refl _, rfl, rfl, Lib.hid rfl, B3⟩
  case round =>
    obtain ⟨k, g, hk, hg, rfl, rfl, hp, hB⟩ := hrel
    by_cases hlt : k < s.length
    · have g1 : (k : Int) < (s.length : Int) := by omega
      have y1 := IX.out k hlt
      have HD := Lib.hid (drop_at hlt)
      generalize s.getD k 0 = x at *
      have HPG := Lib.hid (show partG g (x :: s.drop (k + 1)) = if gapS x = true then (if gapOk g = true then partG [] (s.drop (k + 1)) else false) else partG (g ++ [x]) (s.drop (k + 1)) from rfl)
      have CX : ∀ w, Calls Tryd.prog 32 #[.string (str [x]), .string ⟨#[97, 98, 99, 100, 101, 102, 103, 104, 105, 106, 107, 108, 109, 110, 111, 112, 113, 114, 115, 116, 117, 118, 119, 120, 121, 122, 48, 49, 50, 51, 52, 53, 54, 55, 56, 57]⟩] w fun e w' => e = .returned (.bool (gapS x)) ∧ Below w.heap.size w w' := fun w => ofC _ ⟨#[97, 98, 99, 100, 101, 102, 103, 104, 105, 106, 107, 108, 109, 110, 111, 112, 113, 114, 115, 116, 117, 118, 119, 120, 121, 122, 48, 49, 50, 51, 52, 53, 54, 55, 56, 57]⟩ w (by show 1 ≤ _; decide) (by decide)
      have CG : ∀ w, Calls Tryd.prog 32 #[.string (str g), .string ⟨#[45]⟩] w fun e w' => e = .returned (.bool (ofB g [45])) ∧ Below w.heap.size w w' := fun w => ofC _ ⟨#[45]⟩ w (by omega) (by decide)
      have szx : (str [x]).size = 1 := rfl
      have szg := str_size g
      have hg6 : g.length ≤ 1000000 := by omega
      have hk6 : k ≤ 1000000 := by omega
      have hap := str_append g [x]
      cases hx : gapS x
      · have HN := Lib.hid (show partG [] s = partG (g ++ [x]) (s.drop (k + 1)) by rw [hp.out, HD.out, HPG.out, hx]; rfl)
        rw [hx] at CX
        clear hx hp
        go_wp2_with (go_at_call 32; ((with_reducible refine (CX _).mono ?_); rintro e w5 ⟨rfl, b5⟩); have B5 := Lib.hid (hB.out.trans (b5.mono hB.out.size)); clear b5 CX)
        go_roundw
        case rel => exact ⟨k + 1, g ++ [x], by omega, by rw [List.length_append, List.length_singleton]; omega, by first | rfl | rw [str_append], by go_num, HN, B5⟩
        case measure => simp [intOf]; omega
      · rw [hx] at CX
        have e0 := eq_none g
        have e1 := eq_lit g [46]
        have e2 := eq_lit g [95]
        have e3 := eq_lit g [95, 95]
        have HGO := Lib.hid (show gapOk g = (decide (g = []) || (decide (g = [46]) || (decide (g = [95]) || (decide (g = [95, 95]) || ofB g [45])))) from rfl)
        have HX := Lib.hid hx
        generalize decide (g = []) = d0 at *
        generalize decide (g = [46]) = d1 at *
        generalize decide (g = [95]) = d2 at *
        generalize decide (g = [95, 95]) = d3 at *
        generalize ofB g [45] = d4 at *
        clear hx
        have cases6 : (gapOk g = true ∧ (d0 = true ∨ (d0 = false ∧ d1 = true) ∨ (d0 = false ∧ d1 = false ∧ d2 = true) ∨ (d0 = false ∧ d1 = false ∧ d2 = false ∧ d3 = true) ∨ (d0 = false ∧ d1 = false ∧ d2 = false ∧ d3 = false ∧ d4 = true))) ∨ (gapOk g = false ∧ d0 = false ∧ d1 = false ∧ d2 = false ∧ d3 = false ∧ d4 = false) := by
          rw [HGO.out]
          cases d0 <;> cases d1 <;> cases d2 <;> cases d3 <;> cases d4 <;> simp
        rcases cases6 with ⟨ho, hc⟩ | ⟨ho, rfl, rfl, rfl, rfl, rfl⟩
        · have HN := Lib.hid (show partG [] s = partG [] (s.drop (k + 1)) by rw [hp.out, HD.out, HPG.out, HX.out, ho]; rfl)
          clear ho hp HGO
          rcases hc with rfl | ⟨rfl, rfl⟩ | ⟨rfl, rfl, rfl⟩ | ⟨rfl, rfl, rfl, rfl⟩ | ⟨rfl, rfl, rfl, rfl, rfl⟩
          all_goals
            go_wp2_with (first
              | (go_at_call 32; ((with_reducible refine (CX _).mono ?_); rintro e w5 ⟨rfl, b5⟩); have B5 := Lib.hid (hB.out.trans (b5.mono hB.out.size)); clear b5 CX)
              | (go_at_call 32; ((with_reducible refine (CG _).mono ?_); rintro e w6 ⟨rfl, b6⟩); have B6 := Lib.hid (B5.out.trans (b6.mono B5.out.size)); clear b6 CG))
            go_roundw
            case rel => exact ⟨k + 1, [], by omega, Nat.zero_le _, rfl, by go_num, HN, by first | exact B6 | exact B5⟩
            case measure => simp [intOf]; omega
        · have HN := Lib.hid (show partG [] s = false by rw [hp.out, HD.out, HPG.out, HX.out, ho]; rfl)
          clear ho hp HGO
          go_wp2_with (first
            | (go_at_call 32; ((with_reducible refine (CX _).mono ?_); rintro e w5 ⟨rfl, b5⟩); have B5 := Lib.hid (hB.out.trans (b5.mono hB.out.size)); clear b5 CX)
            | (go_at_call 32; ((with_reducible refine (CG _).mono ?_); rintro e w6 ⟨rfl, b6⟩); have B6 := Lib.hid (B5.out.trans (b6.mono B5.out.size)); clear b6 CG))
          go_ret
          exact ⟨retBool (by rw [HR.out, HN.out]), B6.out⟩
    · have HN := Lib.hid (show partG [] s = true by rw [hp.out, List.drop_eq_nil_of_le (by omega)]; rfl)
      clear hp
      go_wp2
      go_ret
      exact ⟨retBool (by rw [HR.out, HN.out]), hB.out⟩
theorem path_take {l : List (List UInt8)} {k : Nat} (h : k < l.length) (ht : (l.take k).all partB = true) : (l.take (k + 1)).all partB = partB (l.getD k []) := by
  rw [List.take_succ_eq_append_getElem h, List.all_append, ht, List.getD_eq_getElem?_getD, List.getElem?_eq_getElem h]
  simp
theorem path_none {l : List (List UInt8)} {k : Nat} (h : k < l.length) (hn : partB (l.getD k []) = false) : l.all partB = false := by
  rw [List.all_eq_false]
  refine ⟨l.getD k [], ?_, by rw [hn]; decide⟩
  rw [List.getD_eq_getElem?_getD, List.getElem?_eq_getElem h]
  exact List.getElem_mem h
set_option maxRecDepth 100000 in
set_option maxHeartbeats 2000000 in
theorem path_any (s : List UInt8) (w : World) (hs : s.length ≤ 1000000) :
    Calls Tryd.prog 31 #[.string (str s)] w fun e w' => e = .returned (.bool (pathB s)) ∧ Below w.heap.size w w' := by
  have CA := cutC s 47 47 rfl w hs
  have HF := Lib.hid (show pathB s = (cutL s 47).all partB from rfl)
  have hle := cutL_le s 47
  have HPC := Lib.hid (fun k => cutL_getD_le s 47 k)
  generalize cutL s 47 = L at *
  obtain ⟨N, hN⟩ : ∃ N, N = L.length := ⟨_, rfl⟩
  rw [← hN] at CA hle
  have HN := Lib.hid hN
  clear hN
  go_enter Tryd.func31, Tryd.ntmps31
  go_wp2_with (go_at_call 20; ((with_reducible refine (CA).mono ?_); rintro e w3 ⟨a3, cap3, rfl, o3, b3⟩); have B3 := Lib.hid b3; have O3 := Lib.hid o3; clear o3 b3 CA)
  go_loopw [4] (fun v wr => ∃ k : Nat, k ≤ N ∧ v = .int .i64 k ∧ Hid ((L.take k).all partB = true) ∧ Hid (Below w3.heap.size w3 wr)) (fun v _ => N - (intOf v).toNat)
  case atStart => exact ⟨0, Nat.zero_le _, rfl, Lib.hid rfl, Lib.hid (Below.refl _ _)⟩
  case round =>
    obtain ⟨k, hk, rfl, hok, hB⟩ := hrel
    have HB := Lib.hid (B3.out.trans (hB.out.mono B3.out.size))
    by_cases hlt : k < N
    · obtain ⟨g3, hga3, -, e3⟩ := (O3.out.below hB.out).at (k := k) (by have := HN.out; omega)
      subst hga3
      have hml := HPC.out k
      have HA := Lib.hid (path_take (k := k) (by have := HN.out; omega) hok.out)
      have HZ := Lib.hid (fun h => path_none (l := L) (k := k) (by have := HN.out; omega) h)
      generalize L.getD k [] = m at *
      have CP := fun w => part_any m w (by omega)
      have g1 : (k : Int) < (N : Int) := by omega
      cases hb : partB m
      · have HR := Lib.hid (HZ.out hb)
        rw [hb] at CP
        clear hb
        go_wp2_with (go_at_call 49; ((with_reducible refine (CP _).mono ?_); rintro e w5 ⟨rfl, b5⟩); have B5 := Lib.hid (HB.out.trans (b5.mono HB.out.size)); clear b5 CP)
        go_ret
        exact ⟨retBool (by rw [HF.out, HR.out]), B5.out⟩
      · have HO5 := Lib.hid (show (L.take (k + 1)).all partB = true by rw [HA.out]; exact hb)
        rw [hb] at CP
        clear hb
        go_wp2_with (go_at_call 49; ((with_reducible refine (CP _).mono ?_); rintro e w5 ⟨rfl, b5⟩); have B5 := Lib.hid (hB.out.trans (b5.mono hB.out.size)); clear b5 CP)
        go_roundw
        case rel => exact ⟨k + 1, by omega, by go_num, HO5, B5⟩
        case measure => simp [intOf]; omega
    · have HR := Lib.hid (show L.all partB = true by have := hok.out; rwa [List.take_of_length_le (by have := HN.out; omega)] at this)
      go_wp2
      go_ret
      exact ⟨retBool (by rw [HF.out, HR.out]), HB.out⟩
end Go.Proofs.YtldbfjcfobdkpaaDoor
