/- Lists of integers in parts, and the walk of NumsOrder. -/
import Derived.Test.YtckjloojbhomlaaNumsF
namespace Go.Proofs.Ytckjloojbhomlaa
open Go.RowKit

theorem row_later {w w' : World} {a : Option Addr} {l : List Int} (h : Row w a l) (hb : Below w.heap.size w w') : Row w' a l := by
  rcases h with h | ⟨b, off, rfl, hc⟩
  · exact Or.inl h
  · exact Or.inr ⟨b, off, rfl, fun k hk => cell_later hb (hc k hk)⟩
theorem row_take {w : World} {a : Option Addr} {l : List Int} (h : Row w a l) (k : Nat) : Row w a (l.take k) := by
  rcases h with rfl | ⟨b, off, rfl, hc⟩
  · exact Or.inl (by simp)
  · refine Or.inr ⟨b, off, rfl, fun j hj => ?_⟩
    rw [List.length_take] at hj
    rw [hc j (by omega)]
    have : (l.take k).getD j 0 = l.getD j 0 := by
      simp only [List.getD, List.getElem?_take]
      rw [if_pos (by omega)]
    rw [this]
theorem row_drop {w : World} {a : Option Addr} {l : List Int} (h : Row w a l) (k : Nat) : Row w (a.map (·.add k)) (l.drop k) := by
  rcases h with rfl | ⟨b, off, rfl, hc⟩
  · exact Or.inl (by simp)
  · refine Or.inr ⟨b, off + k, by simp [Addr.add], fun j hj => ?_⟩
    rw [List.length_drop] at hj
    rw [Nat.add_assoc, hc (k + j) (by omega)]
    have : (l.drop k).getD j 0 = l.getD (k + j) 0 := by
      simp only [List.getD, List.getElem?_drop]
    rw [this]
theorem slice_to (a : Option Addr) (len cap k : Nat) (hk : k ≤ len) (hl : len ≤ cap) : ∃ a', (∀ w, (Instr.slice 29 (.slice a len cap) none (some (.int .i64 (k : Int))) none).run Try.prog w = .ok (.slice a' k cap) w) ∧ (∀ w l, l.length = len → Row w a l → Row w a' (l.take k)) := by
  refine ⟨if cap = 0 then a else a.map (·.add (0 * 1)), fun w => ?_, fun w l hll h => ?_⟩
  · rw [run_slice_h (P := Try.prog) w 29 a len cap (by kernel_rfl) .i64 (k : Int) (by omega) (by omega)]
    simp [go_sem, sliced]
  · split
    · exact row_take h k
    · have := row_drop h 0
      simpa using row_take this k
theorem slice_from (a : Option Addr) (len cap k : Nat) (hk : k ≤ len) (hl : len ≤ cap) : ∃ a', (∀ w, (Instr.slice 29 (.slice a len cap) (some (.int .i64 (k : Int))) none none).run Try.prog w = .ok (.slice a' (len - k) (cap - k)) w) ∧ (∀ w l, l.length = len → Row w a l → Row w a' (l.drop k)) := by
  refine ⟨if cap = k then a else a.map (·.add (k * 1)), fun w => ?_, fun w l hll h => ?_⟩
  · rw [run_slice_l (P := Try.prog) w 29 a len cap (by kernel_rfl) .i64 (k : Int) (by omega) (by omega)]
    simp [go_sem, sliced]
  · split
    · rename_i e
      exact Or.inl (List.drop_eq_nil_of_le (by omega))
    · simpa using row_drop h k

theorem info_int : (Try.prog.info? 3).map (fun i => (i.zero, i.size, i.bytes)) = some (some (.int .i64 0), 1, 8) := by kernel_rfl

/-- What a slice of the call's own has, as the contracts of the sums take it. -/
theorem row_own {w : World} {base : Nat} {v : Value} {n : Nat} {l : List Int} (h : w.ownsRow base 3 1 v n (l.map (Value.int .i64))) (hn : l.length = n) : ∃ a cap, v = .slice a n cap ∧ Row w a l := by
  subst hn
  have hh := h
  obtain ⟨_, h⟩ := h
  rcases h with ⟨rfl, h0⟩ | ⟨g, cap, cur, rfl, _, _, _, _, _, _⟩
  · have : l = [] := List.eq_nil_of_length_eq_zero h0
    subst this
    exact ⟨none, 0, rfl, Or.inl rfl⟩
  · refine ⟨_, cap, rfl, Or.inr ⟨g, 0, rfl, fun k hk => ?_⟩⟩
    rw [Nat.zero_add, hh.cellAt k (by omega), List.getElem?_map, List.getElem?_eq_getElem hk]
    simp [List.getD, List.getElem?_eq_getElem hk]
theorem sumP_reverse (l : List Int) : SumP l.reverse ↔ SumP l := by unfold SumP; rw [List.sum_reverse]; simp
theorem sumV_reverse (l : List Int) : sumV l.reverse = sumV l := by
  by_cases h : SumP l
  · rw [sumV_yes h, sumV_yes ((sumP_reverse l).2 h), List.sum_reverse]
  · rw [sumV_no h, sumV_no (fun h' => h ((sumP_reverse l).1 h'))]
theorem sumB_reverse (l : List Int) : sumB l.reverse = sumB l := by
  by_cases h : SumP l
  · rw [sumB_yes h, sumB_yes ((sumP_reverse l).2 h)]
  · rw [sumB_no h, sumB_no (fun h' => h ((sumP_reverse l).1 h'))]
theorem reverse_step (l : List Int) (k : Nat) (hk : k < l.length) : l.reverse.take (k + 1) = l.reverse.take k ++ [l.getD (l.length - 1 - k) 0] := by
  rw [take_step _ _ (by simpa using hk)]
  congr 2
  simp only [List.getD]
  rw [List.getElem?_reverse hk]

set_option maxHeartbeats 1000000 in
theorem order_any (a : Option Addr) (len cap : Nat) (p : Int) (l : List Int) (w : World) (hr : Row w a l) (hll : l.length = len) (hlc : len ≤ cap) (p0 : 0 ≤ p) (p1 : p ≤ 255) :
    Calls Try.prog 5 #[.slice a len cap, .int .u8 p] w fun e w' => e = .returned (.bool true) ∧ Below w.heap.size w w' := by
  have hb := Below.refl w.heap.size w
  by_cases hbig : 60 < len
  · go_enter Try.func5, Try.ntmps5
    go_wp2_with (go_at_call 18; ((with_reducible refine (added_any _).mono ?_); rintro e w1 ⟨rfl, hb1⟩; replace hb := below_then hb hb1; clear hb1))
    go_ret
    exact ⟨rfl, hb⟩
  obtain ⟨kk, hk⟩ : ∃ kk : Nat, p % ((len : Int) + 1) = (kk : Int) := ⟨(p % ((len : Int) + 1)).toNat, by have := Int.emod_nonneg p (show (len : Int) + 1 ≠ 0 by omega); omega⟩
  have hkl : kk ≤ len := by have := Int.emod_lt_of_pos p (show (0 : Int) < len + 1 by omega); omega
  obtain ⟨a1, hs1, hr1⟩ := slice_to a len cap kk hkl hlc
  obtain ⟨a2, hs2, hr2⟩ := slice_from a len cap kk hkl hlc
  have hr1' := fun w h => hr1 w l hll h
  have hr2' := fun w h => hr2 w l hll h
  have cS := fun w (h : Row w a l) => sum_row a cap l w h (by omega)
  have c1 := fun w (h : Row w a1 (l.take kk)) => sum_row a1 cap (l.take kk) w h (by rw [List.length_take]; omega)
  have c2 := fun w (h : Row w a2 (l.drop kk)) => sum_row a2 (cap - kk) (l.drop kk) w h (by rw [List.length_drop]; omega)
  rw [hll] at cS
  have e1 : (l.take kk).length = kk := by rw [List.length_take]; omega
  have e2 : (l.drop kk).length = len - kk := by rw [List.length_drop]; omega
  rw [e1] at c1
  rw [e2] at c2
  have Hll := Lib.hid hll
  clear e1 e2 hr1 hr2 hll
  obtain ⟨i0, hi, hz0, hz1, hz2⟩ := info_parts info_int
  go_enter Try.func5, Try.ntmps5
  go_wp2_with (go_at_call 19; ((with_reducible refine (cS _ hr).mono ?_); rintro e w1 ⟨rfl, rfl⟩))
  go_loopw [8, 9] (fun v i wr => ∃ k : Nat, k ≤ len ∧ i = .int .i64 ((len : Int) - 1 - k) ∧ wr.ownsRow w.heap.size 3 1 v k ((l.reverse.take k).map (Value.int .i64)) ∧ Below w.heap.size w wr) (fun _ i _ => (intOf i + 1).toNat)
  case atStart => exact ⟨0, Nat.zero_le _, by go_num, World.ownsRow_nil _ _ _ _, Below.refl _ _⟩
  case round =>
    obtain ⟨k, hkl', rfl, hown, hnx⟩ := hrel
    by_cases hlt : k < len
    · have hst := Lib.hid (reverse_step l k (by rw [Hll.out]; exact hlt))
      rw [Hll.out] at hst
      obtain ⟨b, off, rfl, hc⟩ : ∃ b off, a = some ⟨b, off, none⟩ ∧ ∀ k, k < l.length → w.cell? ⟨b, off + k, none⟩ = some (.int .i64 (l.getD k 0)) := by
        rcases hr with h | h
        · have := Hll.out; rw [h] at this; simp at this; omega
        · exact h
      have hck : wr.cell? ⟨b, off + (len - 1 - k), none⟩ = some (.int .i64 (l.getD (len - 1 - k) 0)) := cell_later hnx (hc _ (by rw [Hll.out]; omega))
      obtain ⟨x, hx⟩ : ∃ x, x = l.getD (len - 1 - k) 0 := ⟨_, rfl⟩
      rw [← hx] at hck hst
      have hsz := hnx.size
      clear hx hc hr hs1 hs2 hr1' hr2' cS c1 c2 hb
      go_wp2_with (at_builtin; refine wpList_append_own _ rfl _ _ 29 rfl w.heap.size 3 i0 (.int .i64 0) 1 8 Try.underlying29 hi hz0 hz1 hz2 rfl (by decide) _ _ _ rfl (hown.alloc _) ⟨wr.heap.size, 0, none⟩ 1 1 [.int .i64 x] rfl rfl ?c1 ?c2 ?c3 ?c4 ?c5 ?_)
      case c1 => exact cell_one_new _ _ _
      case c2 => intro u hu; simp at hu; subst hu; rfl
      case c3 => unfold maxLen; omega
      case c4 => omega
      case c5 => simp; omega
      intro v' w1 hown' hgrow _
      have hown2 : w1.ownsRow w.heap.size 3 1 v' (k + 1) ((l.reverse.take (k + 1)).map (Value.int .i64)) := by rw [hst.out, List.map_append, List.map_take, List.map_reverse]; exact hown'
      have hnx2 : Below w.heap.size w w1 := (hnx.alloc hsz _).grown hgrow (by simp; omega) (fun j hj => (hown.lt j hj).1)
      clear hown' hgrow hown hnx hck
      go_wp2
      go_roundw
      case rel => exact ⟨k + 1, by omega, by go_num, hown2, hnx2⟩
      case measure => simp [intOf]; omega
    · obtain rfl : k = len := by omega
      have er : l.reverse.take k = l.reverse := List.take_of_length_le (by rw [List.length_reverse, Hll.out]; omega)
      rw [er] at hown
      obtain ⟨a3, c3, hv, hr3⟩ := row_own hown (by rw [List.length_reverse, Hll.out])
      subst hv
      have cB := sum_row a3 c3 l.reverse wr hr3 (by rw [List.length_reverse, Hll.out]; omega)
      rw [List.length_reverse, Hll.out, sumV_reverse, sumB_reverse] at cB
      have hrw := row_later hr hnx
      replace c1 := c1 wr (hr1' _ hrw)
      replace c2 := c2 wr (hr2' _ hrw)
      have P := sumP_app (l := l.take kk) (r := l.drop kk)
      rw [List.take_append_drop] at P
      have PS : l.sum = (l.take kk).sum + (l.drop kk).sum := by rw [← List.sum_append, List.take_append_drop]
      clear hr1' hr2' cS hown hr hr3 hrw er
      have hb := hnx
      clear hnx
      obtain ⟨S, hS⟩ : ∃ S, sumV l = S := ⟨_, rfl⟩
      obtain ⟨S1, hS1⟩ : ∃ S, sumV (l.take kk) = S := ⟨_, rfl⟩
      obtain ⟨S2, hS2⟩ : ∃ S, sumV (l.drop kk) = S := ⟨_, rfl⟩
      rw [hS] at cB
      rw [hS1] at c1
      rw [hS2] at c2
      by_cases hP : SumP l
      · obtain ⟨P1, P2, P3⟩ := P.1 hP
        have v := sumV_yes hP; have v1 := sumV_yes P1; have v2 := sumV_yes P2
        have n1 := sum_nonneg P1.1; have n2 := sum_nonneg P2.1
        rw [hS] at v; rw [hS1] at v1; rw [hS2] at v2
        rw [← v1] at n1 PS P3; rw [← v2] at n2 PS P3; rw [← v] at PS
        clear v v1 v2
        rw [sumB_yes hP] at cB
        rw [sumB_yes P1] at c1
        rw [sumB_yes P2] at c2
        have tB := sumB_yes hP
        have aB := addB_yes ⟨n1, n2, P3⟩
        have aV := addV_yes ⟨n1, n2, P3⟩
        rw [← PS] at aV
        have hsub : SubP S S2 := ⟨n2, by omega, by omega⟩
        have sV := subV_yes hsub
        have sB := subB_yes hsub
        rw [show S - S2 = S1 by omega] at sV
        clear PS P P1 P2 P3 hP hS1 hS2 hsub n1 n2
        go_wp2_with (first
        | (go_at_call 19; ((with_reducible refine (cB).mono ?_); rintro e w1 ⟨rfl, rfl⟩))
        | (go_at_call 19; ((with_reducible refine (c1).mono ?_); rintro e w1 ⟨rfl, rfl⟩))
        | (go_at_call 19; ((with_reducible refine (c2).mono ?_); rintro e w1 ⟨rfl, rfl⟩))
        | (go_at_call 7; ((with_reducible refine (add_any _ _ _).mono ?_); rintro e w1 ⟨rfl, hb1⟩; replace hb := below_then hb hb1; clear hb1))
        | (go_at_call 13; ((with_reducible refine (is_yes _ _ _).mono ?_); rintro e w1 ⟨rfl, rfl⟩))
        | (go_at_call 9; ((with_reducible refine (sub_any _ _ _).mono ?_); rintro e w1 ⟨rfl, rfl⟩))
        | (go_at_call 18; ((with_reducible refine (added_any _).mono ?_); rintro e w1 ⟨rfl, hb1⟩; replace hb := below_then hb hb1; clear hb1)))
        go_ret
        exact ⟨rfl, hb⟩
      · have tB := sumB_no hP
        have tV := sumV_no hP
        rw [hS] at tV
        subst tV
        rw [tB] at cB
        by_cases P1 : SumP (l.take kk)
        · rw [sumB_yes P1] at c1
          by_cases P2 : SumP (l.drop kk)
          · rw [sumB_yes P2] at c2
            have v1 := sumV_yes P1; have v2 := sumV_yes P2
            rw [hS1] at v1; rw [hS2] at v2
            have aB : addB S1 S2 = false := addB_no fun ⟨_, _, h⟩ => hP (P.2 ⟨P1, P2, by rw [← v1, ← v2]; exact h⟩)
            clear PS P P1 P2 hP hS1 hS2 v1 v2
            go_wp2_with (first
        | (go_at_call 19; ((with_reducible refine (cB).mono ?_); rintro e w1 ⟨rfl, rfl⟩))
        | (go_at_call 19; ((with_reducible refine (c1).mono ?_); rintro e w1 ⟨rfl, rfl⟩))
        | (go_at_call 19; ((with_reducible refine (c2).mono ?_); rintro e w1 ⟨rfl, rfl⟩))
        | (go_at_call 7; ((with_reducible refine (add_any _ _ _).mono ?_); rintro e w1 ⟨rfl, hb1⟩; replace hb := below_then hb hb1; clear hb1))
        | (go_at_call 13; ((with_reducible refine (is_yes _ _ _).mono ?_); rintro e w1 ⟨rfl, rfl⟩))
        | (go_at_call 9; ((with_reducible refine (sub_any _ _ _).mono ?_); rintro e w1 ⟨rfl, rfl⟩))
        | (go_at_call 18; ((with_reducible refine (added_any _).mono ?_); rintro e w1 ⟨rfl, hb1⟩; replace hb := below_then hb hb1; clear hb1)))
            go_ret
            exact ⟨rfl, hb⟩
          · rw [sumB_no P2] at c2
            clear PS P P1 P2 hP hS1 hS2
            go_wp2_with (first
        | (go_at_call 19; ((with_reducible refine (cB).mono ?_); rintro e w1 ⟨rfl, rfl⟩))
        | (go_at_call 19; ((with_reducible refine (c1).mono ?_); rintro e w1 ⟨rfl, rfl⟩))
        | (go_at_call 19; ((with_reducible refine (c2).mono ?_); rintro e w1 ⟨rfl, rfl⟩))
        | (go_at_call 7; ((with_reducible refine (add_any _ _ _).mono ?_); rintro e w1 ⟨rfl, hb1⟩; replace hb := below_then hb hb1; clear hb1))
        | (go_at_call 13; ((with_reducible refine (is_yes _ _ _).mono ?_); rintro e w1 ⟨rfl, rfl⟩))
        | (go_at_call 9; ((with_reducible refine (sub_any _ _ _).mono ?_); rintro e w1 ⟨rfl, rfl⟩))
        | (go_at_call 18; ((with_reducible refine (added_any _).mono ?_); rintro e w1 ⟨rfl, hb1⟩; replace hb := below_then hb hb1; clear hb1)))
            go_ret
            exact ⟨rfl, hb⟩
        · rw [sumB_no P1] at c1
          clear PS P P1 hP hS1 hS2
          go_wp2_with (first
        | (go_at_call 19; ((with_reducible refine (cB).mono ?_); rintro e w1 ⟨rfl, rfl⟩))
        | (go_at_call 19; ((with_reducible refine (c1).mono ?_); rintro e w1 ⟨rfl, rfl⟩))
        | (go_at_call 19; ((with_reducible refine (c2).mono ?_); rintro e w1 ⟨rfl, rfl⟩))
        | (go_at_call 7; ((with_reducible refine (add_any _ _ _).mono ?_); rintro e w1 ⟨rfl, hb1⟩; replace hb := below_then hb hb1; clear hb1))
        | (go_at_call 13; ((with_reducible refine (is_yes _ _ _).mono ?_); rintro e w1 ⟨rfl, rfl⟩))
        | (go_at_call 9; ((with_reducible refine (sub_any _ _ _).mono ?_); rintro e w1 ⟨rfl, rfl⟩))
        | (go_at_call 18; ((with_reducible refine (added_any _).mono ?_); rintro e w1 ⟨rfl, hb1⟩; replace hb := below_then hb hb1; clear hb1)))
          go_ret
          exact ⟨rfl, hb⟩

end Go.Proofs.Ytckjloojbhomlaa
