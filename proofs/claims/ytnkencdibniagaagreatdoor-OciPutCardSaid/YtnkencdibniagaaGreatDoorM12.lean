/- Merged: JuE, JtH, JtI. -/
import Derived.Test.YtnkencdibniagaaGreatDoorM11
import Derived.Shelf.Strings.BuilderK
import Derived.Test.YtnkencdibniagaaGreatDoorM08
/- Layer 11: a printer in memory (its builder lies in a block of its own type); a piece is written. -/
namespace Go.Proofs.YtnkencdibniagaaGreatDoor
open Go.RowKit

theorem size_B : ∃ j, Tryz.prog.info? 134 = some j ∧ j.size = 2 := Option.map_eq_some_iff.1 (show (Tryz.prog.info? 134).map (·.size) = some 2 by kernel_rfl)
theorem lies_P : liesAt Tryz.prog Tryz.prog.depth 136 (2 / Tryz.prog.cellsOf 136) 0 134 1 = true := by kernel_rfl
theorem info_B8 : ∃ i0, Tryz.prog.info? 5 = some i0 ∧ i0.zero = some (.int .u8 0) ∧ i0.size = 1 ∧ i0.bytes = 1 := by
  obtain ⟨i, h1, h2⟩ := Option.map_eq_some_iff.1 info_u8
  simp only [Prod.mk.injEq] at h2
  exact ⟨i, h1, h2.1, h2.2.1, h2.2.2⟩
set_option maxHeartbeats 1000000 in
set_option maxRecDepth 100000 in
theorem bd_used (b : Nat) (w : World) (h0 : w.cell? ⟨b, 0, none⟩ = some (.pointer (some ⟨b, 0, none⟩))) :
    Calls Tryz.prog 162 #[.pointer (some ⟨b, 0, none⟩)] w fun e w' => e = .returned (.tuple #[]) ∧ w' = w := by
  obtain ⟨j, hj, _⟩ := size_B
  go_enter Tryz.func162, Tryz.ntmps162
  go_wp2
  rw [Lib.run_neq_ptr_same w _ Tryz.underlying131 hj]
  go_wp2
  go_end0
  exact ⟨rfl, rfl⟩
set_option maxHeartbeats 1000000 in
set_option maxRecDepth 100000 in
theorem bd_fresh (b : Nat) (w : World) (h0 : w.cell? ⟨b, 0, none⟩ = some (.pointer none)) (hsh : w.shape? b = some (136, 2)) (hfz : w.frozen? ⟨b, 0, none⟩ = false) :
    Calls Tryz.prog 162 #[.pointer (some ⟨b, 0, none⟩)] w fun e w' => e = .returned (.tuple #[]) ∧ w' = w.setCell ⟨b, 0, none⟩ (.pointer (some ⟨b, 0, none⟩)) := by
  obtain ⟨j, hj, hjs⟩ := size_B
  go_enter Tryz.func162, Tryz.ntmps162
  go_wp2
  rw [Lib.run_to_unsafe w ⟨b, 0, none⟩ Tryz.underlying131 Tryz.underlying163 hj (by rw [hjs]; decide) hsh (Nat.zero_lt_succ 1)]
  simp only [Result.andThen]
  rw [Oper.upon_value]
  go_wp2
  rw [run_callFunc_extern Tryz.func182 (by kernel_rfl) (by kernel_rfl) (by kernel_rfl) (e := Extern.AbiNoEscape.same) (by kernel_rfl)]
  rw [Lib.run_noEscape]
  simp only [Result.andThen]
  rw [Oper.upon_value]
  go_wp2
  rw [Lib.run_from_unsafe w ⟨b, 0, none⟩ Tryz.underlying163 Tryz.underlying131 hj hsh lies_P]
  simp only [Result.andThen]
  rw [Oper.upon_value]
  go_wp2
  go_end0
  exact ⟨rfl, rfl⟩
/-- The printer at block b has written these bytes. -/
def PrAt (w : World) (B b : Nat) (l : Bs) : Prop := Lib.IsBuilderF 136 5 B b (Lib.byteCells l) w
theorem bd_check (B b : Nat) (bs : List Value) (w : World) (h : Lib.IsBuilderF 136 5 B b bs w) :
    Calls Tryz.prog 162 #[.pointer (some ⟨b, 0, none⟩)] w fun e w' => e = .returned (.tuple #[]) ∧ (Lib.BuilderAtF 136 5 B b (.pointer (some ⟨b, 0, none⟩)) bs w' ∧ Below B w w' ∧ Lib.OthersKept 5 (some b) w w') := by
  rcases h with h | h
  · refine (bd_fresh b w h.cell0 h.shape h.frozen0).mono ?_
    rintro e w' ⟨rfl, rfl⟩
    exact ⟨rfl, h.used _, (Below.refl B w).setCell (p := ⟨b, 0, none⟩) h.1 _, (Lib.OthersKept.refl _ _ w).setCell ⟨b, 0, none⟩ rfl _⟩
  · refine (bd_used b w h.cell0).mono ?_
    rintro e w' ⟨rfl, rfl⟩
    exact ⟨rfl, h, Below.refl B _, Lib.OthersKept.refl _ _ _⟩
set_option maxHeartbeats 2000000 in
set_option maxRecDepth 100000 in
theorem bd_write (B b : Nat) (bs : List Value) (s : ByteArray) (w : World) (h : Lib.IsBuilderF 136 5 B b bs w) (hlen : bs.length + s.size ≤ 140737488355328) (hBw : B ≤ w.heap.size) :
    Calls Tryz.prog 143 #[.pointer (some ⟨b, 0, none⟩), .string s] w fun e w' => e = .returned (.tuple #[.int .i64 s.size, .nilIface]) ∧ (Lib.BuilderAtF 136 5 B b (.pointer (some ⟨b, 0, none⟩)) (bs ++ Lib.strCells s) w' ∧ Below B w w' ∧ Lib.OthersKept 5 (some b) w w') := by
  obtain ⟨i0, hi, hz0, hz1, hz2⟩ := info_B8
  go_enter Tryz.func143, Tryz.ntmps143
  go_wp2_with (go_at_call 162; refine (bd_check B b bs _ h).mono ?_)
  rintro e w1 ⟨rfl, h1, hb1, hk1⟩
  obtain ⟨hB, v, hbk, hown, hne⟩ := h1
  have c0 : w1.cell? ⟨b, 0, none⟩ = some (.pointer (some ⟨b, 0, none⟩)) := by rw [Lib.cell_of_heap hbk]; rfl
  have c1 : w1.cell? ⟨b, 1, none⟩ = some v := by rw [Lib.cell_of_heap hbk]; rfl
  go_wp2_with (at_builtin; refine Lib.wpList_append_own_stringF _ rfl _ _ 132 9 rfl B 5 i0 Tryz.underlying132 Tryz.underlying9 hi hz0 hz1 hz2 _ _ _ rfl hown s rfl ?c3 ?c4 ?c5 ?_)
  case c3 => unfold maxLen; omega
  case c4 => omega
  case c5 => have := hb1.size; omega
  intro v' w2 hown' hgrow _
  have hlt : b < w1.heap.size := by
    rcases Nat.lt_or_ge b w1.heap.size with h' | h'
    · exact h'
    · simp [Array.getElem?_eq_none h'] at hbk
  have hb2 : w2.heap[b]? = some (.cells #[.pointer (some ⟨b, 0, none⟩), v] 136 (0, 0)) := by
    rw [hgrow.block b hlt (fun e => hne e.symm)]
    exact hbk
  have d0 : w2.cell? ⟨b, 0, none⟩ = some (.pointer (some ⟨b, 0, none⟩)) := by rw [Lib.cell_of_heap hb2]; rfl
  have d1 : w2.cell? ⟨b, 1, none⟩ = some v := by rw [Lib.cell_of_heap hb2]; rfl
  have f1 : w2.frozen? ⟨b, 1, none⟩ = false := Lib.frozen_of_heap hb2 1
  obtain ⟨ao, n', cap, rfl⟩ : ∃ ao n' cap, v' = .slice ao n' cap := by
    rcases hown'.2 with ⟨hv, _⟩ | ⟨g, cap, cur, fz, hv, _⟩
    · exact ⟨_, _, _, hv⟩
    · exact ⟨_, _, _, hv⟩
  go_wp2
  go_ret2
  refine ⟨rfl, ?_, ?_, (hk1.grown hgrow (Lib.ownsRowF_kind hown)).setCell ⟨b, 1, none⟩ rfl _⟩
  · exact Lib.BuilderAtF.put (T := 136) (e := 5) hB hb2 (bs' := bs ++ Lib.strCells s) (by simpa [Lib.strCells_length] using hown') (by decide)
  · exact (hb1.grown hgrow (by have := hb1.size; omega) (fun k hk => (hown.lt k hk).1)).setCell (p := ⟨b, 1, none⟩) hB _
set_option maxHeartbeats 1000000 in
theorem bd_len (B b : Nat) (bs : List Value) (w : World) (h : Lib.IsBuilderF 136 5 B b bs w) :
    Calls Tryz.prog 71 #[.pointer (some ⟨b, 0, none⟩)] w fun e w' => e = .returned (.int .i64 bs.length) ∧ w' = w := by
  obtain ⟨p, hB, v, hbk, hown, hne⟩ : ∃ p, Lib.BuilderAtF 136 5 B b p bs w := by
    rcases h with h | h
    · exact ⟨_, h⟩
    · exact ⟨_, h⟩
  obtain ⟨ao, cap, rfl⟩ : ∃ ao cap, v = .slice ao bs.length cap := by
    rcases hown.2 with ⟨hv, h0⟩ | ⟨g, cap, cur, fz, hv, _⟩
    · exact ⟨none, 0, by rw [hv, h0]⟩
    · exact ⟨_, _, hv⟩
  have c1 : w.cell? ⟨b, 1, none⟩ = some (.slice ao bs.length cap) := by rw [Lib.cell_of_heap hbk]; rfl
  clear hown hne hbk h hB
  go_enter Tryz.func71, Tryz.ntmps71
  go_wp2
  go_ret
  exact ⟨rfl, rfl⟩
set_option maxHeartbeats 1000000 in
set_option maxRecDepth 100000 in
theorem bd_string (B b : Nat) (l : Bs) (w : World) (h : PrAt w B b l) (h0 : l ≠ []) :
    Calls Tryz.prog 72 #[.pointer (some ⟨b, 0, none⟩)] w fun e w' => e = .returned (.string (str l)) ∧ Below B w w' := by
  obtain ⟨p, hB, v, hbk, hown, hne⟩ : ∃ p, Lib.BuilderAtF 136 5 B b p (Lib.byteCells l) w := by
    rcases h with h | h
    · exact ⟨_, h⟩
    · exact ⟨_, h⟩
  have hl0 : l.length ≠ 0 := by simpa using h0
  rw [Lib.byteCells_length] at hown
  obtain ⟨g, cap, cur, fz, rfl, hbg, hg, hfz, hnc, hcm, hcs, htake⟩ : ∃ g cap cur fz, v = .slice (some ⟨g, 0, none⟩) l.length cap ∧ B ≤ g ∧ w.heap[g]? = some (.cells cur 5 fz) ∧ fz.2 ≤ l.length * 1 ∧ l.length ≤ cap ∧ cap ≤ maxLen ∧ cur.size = cap * 1 ∧ cur.toList.take (l.length * 1) = Lib.byteCells l := by
    rcases hown.2 with ⟨_, hz⟩ | ⟨g, cap, cur, fz, hv, r⟩
    · exact absurd hz hl0
    · exact ⟨g, cap, cur, fz, hv, r⟩
  have c1 : w.drew.cell? ⟨b, 1, none⟩ = some (.slice (some ⟨g, 0, none⟩) l.length cap) := by
    have : w.drew.heap[b]? = some (.cells #[p, .slice (some ⟨g, 0, none⟩) l.length cap] 136 (0, 0)) := hbk
    rw [Lib.cell_of_heap this]; rfl
  have hSD : (Builtin.unsafeSliceData_ #[132] 180 #[.slice (some ⟨g, 0, none⟩) l.length cap]).run Tryz.prog w.drew = .ok (.pointer (some ⟨g, 0, none⟩)) w.drew :=
    Lib.run_unsafeSliceData_row _ _ _ _ _ _ (by omega)
  have hUS : (Builtin.unsafeString_ #[180, 3] 9 #[.pointer (some ⟨g, 0, none⟩), .int .i64 l.length]).run Tryz.prog w.drew = .ok (.string (str l)) (w.drew.freeze ⟨g, 0, none⟩ l.length) := by
    refine Lib.run_unsafeString_row w.drew 180 3 9 5 Tryz.underlying180 (by kernel_rfl) g cur.size (by have hg' : w.drew.heap[g]? = some (.cells cur 5 fz) := hg; simp [World.shape?, hg']) l h0 (by omega) (by unfold maxLen at hcm; omega) ?_
    intro j x hx
    have := hown.cells (g := g) rfl j (.int .u8 x.toNat) (by simp [Lib.byteCells, hx])
    exact this
  have mixed : Tryz.prog.follows .mixedOrders = true := by kernel_rfl
  clear hown hne hbk h hg hfz htake hcs hcm
  go_enter Tryz.func72, Tryz.ntmps72
  go_wp2
  go_region_o
  all_goals (go_wp2; go_ret; exact ⟨rfl, Lib.below_freeze (Below.drew (Below.refl B w)) (p := ⟨g, 0, none⟩) hbg _⟩)
end Go.Proofs.YtnkencdibniagaaGreatDoor

/- Layer 11: digits to the base 16, units. -/
namespace Go.Proofs.YtnkencdibniagaaGreatDoor
open Go.RowKit

theorem ret2 {k : IntKind} {a b : Int} {x y : Value} (h : a = b) (g : x = y) : Ending.returned (.tuple #[.int k a, x]) = .returned (.tuple #[.int k b, y]) := by rw [h, g]
set_option maxHeartbeats 1000000 in
theorem valueOf_some {c : UInt8} {n : Nat} (h : hexV c = some n) (w : World) : Calls Tryz.prog 209 #[.int .u8 (c.toNat : Int)] w fun e w' => e = .returned (.tuple #[.int .i32 (n : Int), .bool true]) ∧ w = w' := by
  have hd := fun w => isDigit_any c w
  have hi := isDg_iff c
  have hc := c.toNat_lt
  unfold hexV at h
  generalize isDg c = b at hd hi
  generalize c.toNat = m at hd hi hc h ⊢
  by_cases h1 : 48 ≤ m ∧ m ≤ 57
  · rw [if_pos h1, Option.some.injEq] at h
    obtain rfl : b = true := hi.2 h1
    obtain ⟨a1, a2⟩ := h1
    have HN := Lib.hid h
    clear hi h
    go_enter Tryz.func209, Tryz.ntmps209
    go_wp2_with (go_at_call 181; ((with_reducible refine (hd _).mono ?_); rintro e w' ⟨rfl, rfl⟩))
    go_ret2
    exact ⟨ret2 (by have := HN.out; omega) rfl, rfl⟩
  · obtain rfl : b = false := by cases b; rfl; exact absurd (hi.1 rfl) h1
    rw [if_neg h1] at h
    by_cases h2 : 97 ≤ m ∧ m ≤ 102
    · rw [if_pos h2, Option.some.injEq] at h
      obtain ⟨a1, a2⟩ := h2
      have e1 : decide ((97 : Int) ≤ (m : Int)) = true := by rw [decide_eq_true_eq]; omega
      have e2 : decide ((m : Int) ≤ 102) = true := by rw [decide_eq_true_eq]; omega
      have HN := Lib.hid h
      clear hi h h1
      go_enter Tryz.func209, Tryz.ntmps209
      go_wp2_with (go_at_call 181; ((with_reducible refine (hd _).mono ?_); rintro e w' ⟨rfl, rfl⟩))
      go_ret2
      exact ⟨ret2 (by have := HN.out; omega) rfl, rfl⟩
    · rw [if_neg h2] at h
      by_cases h3 : 65 ≤ m ∧ m ≤ 70
      · rw [if_pos h3, Option.some.injEq] at h
        obtain ⟨a1, a2⟩ := h3
        have e0 : decide ((97 : Int) ≤ (m : Int)) = false := by rw [decide_eq_false_iff_not]; omega
        have e1 : decide ((65 : Int) ≤ (m : Int)) = true := by rw [decide_eq_true_eq]; omega
        have e2 : decide ((m : Int) ≤ 70) = true := by rw [decide_eq_true_eq]; omega
        have HN := Lib.hid h
        clear hi h h1 h2
        go_enter Tryz.func209, Tryz.ntmps209
        go_wp2_with (go_at_call 181; ((with_reducible refine (hd _).mono ?_); rintro e w' ⟨rfl, rfl⟩))
        go_ret2
        exact ⟨ret2 (by have := HN.out; omega) rfl, rfl⟩
      · rw [if_neg h3] at h; cases h
set_option maxHeartbeats 1000000 in
theorem valueOf_none {c : UInt8} (h : hexV c = none) (w : World) : Calls Tryz.prog 209 #[.int .u8 (c.toNat : Int)] w fun e w' => e = .returned (.tuple #[.int .i32 0, .bool false]) ∧ w = w' := by
  have hd := fun w => isDigit_any c w
  have hi := isDg_iff c
  unfold hexV at h
  generalize isDg c = b at hd hi
  generalize c.toNat = m at hd hi h ⊢
  by_cases h1 : 48 ≤ m ∧ m ≤ 57
  · rw [if_pos h1] at h; cases h
  rw [if_neg h1] at h
  by_cases h2 : 97 ≤ m ∧ m ≤ 102
  · rw [if_pos h2] at h; cases h
  rw [if_neg h2] at h
  by_cases h3 : 65 ≤ m ∧ m ≤ 70
  · rw [if_pos h3] at h; cases h
  obtain rfl : b = false := by cases b; rfl; exact absurd (hi.1 rfl) h1
  clear h hi h1
  by_cases k1 : 97 ≤ m
  · have e1 : decide ((97 : Int) ≤ (m : Int)) = true := by rw [decide_eq_true_eq]; omega
    have e2 : decide ((m : Int) ≤ 102) = false := by rw [decide_eq_false_iff_not]; omega
    have e3 : decide ((65 : Int) ≤ (m : Int)) = true := by rw [decide_eq_true_eq]; omega
    have e4 : decide ((m : Int) ≤ 70) = false := by rw [decide_eq_false_iff_not]; omega
    clear h2 h3 k1
    go_enter Tryz.func209, Tryz.ntmps209
    go_wp2_with (go_at_call 181; ((with_reducible refine (hd _).mono ?_); rintro e w' ⟨rfl, rfl⟩))
    go_ret2
    exact ⟨rfl, rfl⟩
  · have e1 : decide ((97 : Int) ≤ (m : Int)) = false := by rw [decide_eq_false_iff_not]; omega
    by_cases k2 : 65 ≤ m
    · have e3 : decide ((65 : Int) ≤ (m : Int)) = true := by rw [decide_eq_true_eq]; omega
      have e4 : decide ((m : Int) ≤ 70) = false := by rw [decide_eq_false_iff_not]; omega
      clear h2 h3 k1 k2
      go_enter Tryz.func209, Tryz.ntmps209
      go_wp2_with (go_at_call 181; ((with_reducible refine (hd _).mono ?_); rintro e w' ⟨rfl, rfl⟩))
      go_ret2
      exact ⟨rfl, rfl⟩
    · have e3 : decide ((65 : Int) ≤ (m : Int)) = false := by rw [decide_eq_false_iff_not]; omega
      clear h2 h3 k1 k2
      go_enter Tryz.func209, Tryz.ntmps209
      go_wp2_with (go_at_call 181; ((with_reducible refine (hd _).mono ?_); rintro e w' ⟨rfl, rfl⟩))
      go_ret2
      exact ⟨rfl, rfl⟩
set_option maxHeartbeats 1000000 in
theorem isLow_any (n : Nat) (w : World) : Calls Tryz.prog 205 #[.int .i32 (n : Int)] w fun e w' => e = .returned (.bool (isLo n)) ∧ w = w' := by
  have hi := isLo_iff n
  generalize isLo n = b at hi ⊢
  by_cases h1 : 56320 ≤ n
  · have e1 : decide ((56320 : Int) ≤ (n : Int)) = true := by rw [decide_eq_true_eq]; omega
    by_cases h2 : n < 57344
    · obtain rfl : b = true := hi.2 ⟨h1, h2⟩
      have e2 : decide ((n : Int) < 57344) = true := by rw [decide_eq_true_eq]; omega
      clear hi h1 h2
      go_enter Tryz.func205, Tryz.ntmps205
      go_wp2
      go_ret
      exact ⟨rfl, rfl⟩
    · obtain rfl : b = false := by cases b; rfl; exact absurd (hi.1 rfl).2 h2
      have e2 : decide ((n : Int) < 57344) = false := by rw [decide_eq_false_iff_not]; omega
      clear hi h1 h2
      go_enter Tryz.func205, Tryz.ntmps205
      go_wp2
      go_ret
      exact ⟨rfl, rfl⟩
  · obtain rfl : b = false := by cases b; rfl; exact absurd (hi.1 rfl).1 h1
    have e1 : decide ((56320 : Int) ≤ (n : Int)) = false := by rw [decide_eq_false_iff_not]; omega
    clear hi h1
    go_enter Tryz.func205, Tryz.ntmps205
    go_wp2
    go_ret
    exact ⟨rfl, rfl⟩
set_option maxHeartbeats 1000000 in
theorem isHigh_any (n : Nat) (w : World) : Calls Tryz.prog 206 #[.int .i32 (n : Int)] w fun e w' => e = .returned (.bool (isHi n)) ∧ w = w' := by
  have hi := isHi_iff n
  generalize isHi n = b at hi ⊢
  by_cases h1 : 55296 ≤ n
  · have e1 : decide ((55296 : Int) ≤ (n : Int)) = true := by rw [decide_eq_true_eq]; omega
    by_cases h2 : n < 56320
    · obtain rfl : b = true := hi.2 ⟨h1, h2⟩
      have e2 : decide ((n : Int) < 56320) = true := by rw [decide_eq_true_eq]; omega
      clear hi h1 h2
      go_enter Tryz.func206, Tryz.ntmps206
      go_wp2
      go_ret
      exact ⟨rfl, rfl⟩
    · obtain rfl : b = false := by cases b; rfl; exact absurd (hi.1 rfl).2 h2
      have e2 : decide ((n : Int) < 56320) = false := by rw [decide_eq_false_iff_not]; omega
      clear hi h1 h2
      go_enter Tryz.func206, Tryz.ntmps206
      go_wp2
      go_ret
      exact ⟨rfl, rfl⟩
  · obtain rfl : b = false := by cases b; rfl; exact absurd (hi.1 rfl).1 h1
    have e1 : decide ((55296 : Int) ≤ (n : Int)) = false := by rw [decide_eq_false_iff_not]; omega
    clear hi h1
    go_enter Tryz.func206, Tryz.ntmps206
    go_wp2
    go_ret
    exact ⟨rfl, rfl⟩
end Go.Proofs.YtnkencdibniagaaGreatDoor

/- Layer 11: the four digits of a unit; both units; escapes. -/
namespace Go.Proofs.YtnkencdibniagaaGreatDoor
open Go.RowKit

theorem i32_or16 (c n : Nat) (hc : c < 4096) (hn : n < 16) : bits .or .i32 ((c : Int) * 16) (n : Int) = (c : Int) * 16 + (n : Int) := by
  have h1 : ((c : Int) * 16) = ((c * 16 : Nat) : Int) := by omega
  rw [h1]
  show IntKind.i32.wrap ((BitVec.ofInt 32 ((c * 16 : Nat) : Int) ||| BitVec.ofInt 32 (n : Int)).toNat : Int) = _
  rw [BitVec.toNat_or, ofInt_u32 _ (by omega), ofInt_u32 _ (by omega)]
  have e : c * 16 ||| n = c * 16 + n := by
    rw [show c * 16 = c <<< 4 by rw [Nat.shiftLeft_eq], ← Nat.shiftLeft_add_eq_or_of_lt (show n < 2 ^ 4 by omega)]
  rw [e, IntKind.wrap_i32]
  omega
/-- What a reading of a number says of a call that answers it and an error. -/
def saysN (w : World) (q : Nat) (S r : Bs) (lev : Nat) (R : Res Nat) (e : Ending) (w' : World) : Prop :=
  match R with
  | .ok n x => e = .returned (.tuple #[.int .i32 (n : Int), .nilIface]) ∧ okP w q S x lev w'
  | .bad code x => e = .returned (.tuple #[.int .i32 0, errAt S code x]) ∧ badP w q S r w'
theorem saysN_ok {w w' : World} {q : Nat} {S r x : Bs} {lev n : Nat} {R : Res Nat} (hR : R = .ok n x) (h : okP w q S x lev w') : saysN w q S r lev R (.returned (.tuple #[.int .i32 (n : Int), .nilIface])) w' := by
  rw [hR]; exact ⟨rfl, h⟩
theorem saysN_bad {w w' : World} {q : Nat} {S r x : Bs} {lev code : Nat} {R : Res Nat} (hR : R = .bad code x) (h : badP w q S r w') : saysN w q S r lev R (.returned (.tuple #[.int .i32 0, errAt S code x])) w' := by
  rw [hR]; exact ⟨rfl, h⟩
theorem hex_ne {r : Bs} {n : Nat} (h : hexV (hd r) = some n) : r ≠ [] := by
  rintro rfl
  cases h
set_option maxRecDepth 100000 in
set_option maxHeartbeats 2000000 in
theorem unit_any {w : World} {q : Nat} {S r : Bs} {lev : Nat} (hS : okT S) (h : RdAt w q S r lev) :
    Calls Tryz.prog 204 #[.pointer (some ⟨q, 0, none⟩)] w fun e w' => saysN w q S r lev (unitP 4 0 r) e w' := by
  have H := Lib.hid h
  have hN := fun w' r' (h' : RdAt w' q S r' lev) => next_any h'
  clear h
  unfold okT at hS
  have HS := Lib.hid hS
  clear hS
  go_enter Tryz.func204, Tryz.ntmps204
  go_wp2
  go_loopg [7, 4, 5, 6] 4 (fun g t7 t4 t5 t6 wr => ∃ (j c : Nat) (r' : Bs), t7 = .int .i64 (j : Int) ∧ t4 = .int .i32 (c : Int) ∧ j ≤ 4 ∧ Hid (g = 4 - j) ∧ Hid (c < 16 ^ j) ∧ RdAt wr q S r' lev ∧ Hid (unitP (4 - j) c r' = unitP 4 0 r) ∧ Hid (r' <:+ r) ∧ Chg (· = q) w wr)
  case atStart => exact ⟨0, 0, r, rfl, rfl, by omega, Lib.hid rfl, Lib.hid (by decide), H.out, Lib.hid rfl, Lib.hid (List.suffix_refl r), Chg.refl _ _⟩
  case round =>
    obtain ⟨j, c, r', rfl, rfl, hj, HG, HC, h', HP, HSf, hC⟩ := hrel
    by_cases hlt : j < 4
    · have hst : unitP (4 - j) c r' = match hexV (hd r') with | some n => unitP (4 - (j + 1)) (c * 16 + n) r'.tail | none => .bad 10 r' := by
        rw [show 4 - j = (4 - (j + 1)) + 1 by omega, unitP]
        cases hexV (hd r') <;> rfl
      obtain ⟨_, c1, _⟩ := h'.cell
      have f1 := h'.free 1
      have hle := h'.le
      have hSS := HS.out
      generalize hk : S.length - r'.length = k at c1
      have hk2 : k ≤ 4611686018427387904 := by omega
      cases hx : hexV (hd r') with
      | some n =>
        rw [hx] at hst
        have HQ := Lib.hid (show unitP (4 - (j + 1)) (c * 16 + n) r'.tail = unitP 4 0 r from hst.symm.trans HP.out)
        have hn := hexV_lt hx
        have hc4 : c < 4096 := by
          have h1 := HC.out
          have : 16 ^ j ≤ 16 ^ 3 := Nat.pow_le_pow_right (by omega) (by omega)
          omega
        have HC2 := Lib.hid (show c * 16 + n < 16 ^ (j + 1) by have := HC.out; rw [Nat.pow_succ]; omega)
        have HV := fun w => valueOf_some hx w
        have HM := Lib.hid (fun n => (h'.drewN n).move (hex_ne hx) hk.symm)
        have hor := i32_or16 c n hc4 hn
        clear hst hx hk hle hSS
        go_wp2_with (first
          | (go_at_call 132; ((with_reducible refine (hN _ _ h').mono ?_); rintro e w' ⟨rfl, m, rfl⟩))
          | (go_at_call 209; ((with_reducible refine (HV _).mono ?_); rintro e w' ⟨rfl, rfl⟩)))
        go_roundg (4 - (j + 1))
        case measure => have := HG.out; omega
        case rel => exact ⟨j + 1, c * 16 + n, r'.tail, by go_num, by go_num, by omega, Lib.hid rfl, HC2, HM.out _, HQ, Lib.hid ((List.tail_suffix r').trans HSf.out), (hC.drewN _).setCell _ _ (.inl rfl)⟩
      | none =>
        rw [hx] at hst
        have HQ := Lib.hid (show unitP 4 0 r = .bad 10 r' from HP.out.symm.trans hst)
        have HV := fun w => valueOf_none hx w
        have HK := Lib.hid hk
        clear hst hx hk hle hSS
        go_wp2_with (first
          | (go_at_call 132; ((with_reducible refine (hN _ _ h').mono ?_); rintro e w' ⟨rfl, m, rfl⟩))
          | (go_at_call 209; ((with_reducible refine (HV _).mono ?_); rintro e w' ⟨rfl, rfl⟩))
          | (go_at_call 100; ((with_reducible refine (unfit_any k _ rfl _).mono ?_); rintro e w2 ⟨rfl, rfl⟩; unfold errV)))
        go_ret2
        have := saysN_bad (w := w) (w' := wr.drewN m) (q := q) (S := S) (r := r) (lev := lev) HQ.out ⟨⟨r', lev, h'.drewN _, HSf.out⟩, hC.drewN _⟩
        unfold errAt at this
        rw [HK.out] at this
        exact this
    · obtain rfl : j = 4 := by omega
      have HQ := Lib.hid (show unitP 4 0 r = .ok c r' from HP.out.symm)
      clear hlt
      go_wp2
      go_ret2
      exact saysN_ok HQ.out ⟨h', hC⟩
end Go.Proofs.YtnkencdibniagaaGreatDoor

