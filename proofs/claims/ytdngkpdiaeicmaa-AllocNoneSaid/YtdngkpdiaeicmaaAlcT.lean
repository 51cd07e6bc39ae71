/- Layer 8: AllocFirst. -/
import Derived.Test.YtdngkpdiaeicmaaAlcQ
import Derived.Test.YtdngkpdiaeicmaaAlcS
namespace Go.Proofs.Ytdngkpdiaeicmaa
open Go.RowKit

theorem own_take2 {I : Impl} {W w : World} {q : Nat} {L : List Bool} (h : I.Own W w q L) (n : Int) (hn : isI n) {l : List (Nat × Nat)} {b : Bool} (h1 : (takeL L n).1 = l) (h2 : (takeL L n).2.1 = b) : Calls Try.prog 15 #[.pointer (some ⟨q, 0, none⟩), .int .i64 n] w fun e w' => ∃ a cap, e = .returned (.tuple #[.slice a l.length cap, .bool b]) ∧ I.Own W w' q (takeL L n).2.2 := by
  obtain ⟨o, i0, i1, i2⟩ := h
  refine (I.take n i0 hn).mono fun e w' ⟨x, he, hx, o', j1, j2, j3, _⟩ => ?_
  obtain ⟨a, cap, rfl⟩ := hx.form
  rw [h1, h2] at he
  exact ⟨a, cap, he, Impl.Own.post i1 i2 ⟨o', j1, j2, j3⟩⟩
theorem Holds.own {I : Impl} {W w : World} {q : Nat} {L : List Bool} {xs : List (Value × List (Nat × Nat))} (h : Holds I W w q L xs) : I.Own W w q L := by
  obtain ⟨o, h1, h2, _⟩ := h.ex
  exact ⟨o, h1, h.b, h2⟩
/-- Give of one extent that was written down. -/
theorem own_lit {I : Impl} {W w : World} {q : Nat} {L M : List Bool} {b : Bool} {f c : Int} (h : I.Own W w q L) (hf : isI f) (hc : isI c) (hg : giveR L [(f, c)] = (b, M)) : Calls Try.prog 12 #[.pointer (some ⟨q, 0, none⟩), .slice (some ⟨w.heap.size, 0, none⟩) 1 1] (w.alloc (.cells #[.int .i64 f, .int .i64 c] 41)) fun e w' => e = .returned (.bool b) ∧ I.Own W w' q M := by
  obtain ⟨o, h1, h2, h3⟩ := h
  have hb : Below w.heap.size w (w.alloc (.cells #[.int .i64 f, .int .i64 c] 41)) := (Below.refl _ _).alloc (Nat.le_refl _) _
  have hk : ExtAt (w.alloc (.cells #[.int .i64 f, .int .i64 c] 41)) (.slice (some ⟨w.heap.size, 0, none⟩) 1 1) [(f, c)] :=
    .inr ⟨⟨w.heap.size, 0, none⟩, 1, rfl, (by show 1 ≤ maxLen; decide), fun j hj => by
      obtain rfl : j = 0 := by simp at hj; exact hj
      exact ⟨rowC_cell (rowC_new w #[.int .i64 f, .int .i64 c] 41) 0, rowC_cell (rowC_new w #[.int .i64 f, .int .i64 c] 41) 1⟩⟩
  have hok : extOk [(f, c)] := fun j hj => by
    obtain rfl : j = 0 := by simp at hj; exact hj
    exact ⟨hf, hc⟩
  refine (I.give (I.below h1 hb) hk hok (fun ad n cap hv _ hob => ?_)).mono fun e w' ⟨he, hp⟩ => ?_
  · simp only [Value.slice.injEq, Option.some.injEq] at hv
    have := I.lt h1 _ hob
    rw [← hv.1] at this
    exact absurd this (Nat.lt_irrefl _)
  · rw [hg] at he hp
    exact ⟨he, Impl.Own.post (h2.trans (hb.mono h2.size)) h3 hp⟩
theorem own_used {I : Impl} {W w : World} {q : Nat} {L : List Bool} (h : I.Own W w q L) {r : Int} (hr : (usedL L : Int) = r) : Calls Try.prog 18 #[.pointer (some ⟨q, 0, none⟩)] w fun e w' => e = .returned (.int .i64 r) ∧ I.Own W w' q L := by
  obtain ⟨o, h1, h2, h3⟩ := h
  refine (I.used h1).mono fun e w' ⟨he, hb⟩ => ?_
  rw [hr] at he
  exact ⟨he, Impl.Own.below ⟨o, h1, h2, h3⟩ hb⟩
theorem own_copy {I : Impl} {W w : World} {q : Nat} {L : List Bool} (h : I.Own W w q L) : Calls Try.prog 14 #[.pointer (some ⟨q, 0, none⟩)] w fun e w' => ∃ q', e = .returned (.pointer (some ⟨q', 0, none⟩)) ∧ I.Own w w' q' L := by
  obtain ⟨o, h1, _, _⟩ := h
  exact (I.copy h1).mono fun e w' ⟨q', o', he, i1, i2, i3⟩ => ⟨q', he, o', i1, i2, i3⟩
set_option maxRecDepth 100000 in
set_option maxHeartbeats 4000000 in
theorem first_in' (I : Impl) (x y : Int) (n k : Nat) (w : World) (hx : 0 ≤ x ∧ x ≤ 255) (hy : 0 ≤ y ∧ y ≤ 255) (h1 : 20 + x % 81 = (n : Int)) (h2 : 1 + y % 20 = (k : Int)) :
    Calls Try.prog 7 #[.int .u8 x, .int .u8 y] w fun e w' => e = .returned (.bool true) ∧ Below w.heap.size w w' := by
  have b1 : 20 ≤ n := by omega
  have b2 : n < 101 := by omega
  have b3 : 1 ≤ k := by omega
  have b4 : k ≤ 20 := by omega
  obtain ⟨hx1, hx2⟩ := hx
  obtain ⟨hy1, hy2⟩ := hy
  have CU := Lib.hid (fun w' => took_any I w')
  have CN := Lib.hid (I.new n w (by omega) (by omega))
  have T1 := Lib.hid (take_1 b3 (by omega : k ≤ n))
  obtain ⟨t1, t2, t3, t4⟩ := take_98 n b2 b1
  have T9 := Lib.hid t1
  have T9b := Lib.hid t2
  have T8 := Lib.hid (show takeL (altL n n) 8 = (eight, true, (takeL (altL n n) 8).2.2) by rw [← t3, ← t4])
  clear t1 t2 t3 t4
  have I1 := Lib.hid (show isI (k : Int) from small_I ⟨by omega, by omega⟩)
  have g1 : (20 : Int) ≤ (n : Int) := by omega
  have g2 : (n : Int) ≤ 100 := by omega
  have g3 : (1 : Int) ≤ (k : Int) := by omega
  have g4 : (k : Int) ≤ 20 := by omega
  have hkn : k < n ∨ n = k := by omega
  rcases hkn with hkn | hkn
  · have T2 := Lib.hid (take_2 hkn)
    have I2 := Lib.hid (show isI ((n : Int) - (k : Int)) from small_I ⟨by omega, by omega⟩)
    have g5 : (k : Int) < (n : Int) := by omega
    have g6 := Lib.hid (show ((n - k : Nat) : Int) = (n : Int) - (k : Int) by omega)
    clear hkn
    go_enter Try.func7, Try.ntmps7
    go_wp2_with (first
      | (go_at_call 10; ((with_reducible refine (CN.out).mono ?_); rintro e w1 ⟨q, o, rfl, hI, hb, ho⟩); have m1 := Lib.hid (Holds.start (I := I) (W := w) ⟨o, hI, hb, ho⟩); clear hI hb ho CN)
      | (go_at_call 15; ((with_reducible refine (holds_take m1.out _ I1.out T1.out).mono ?_); rintro e w2 ⟨a2, cap2, rfl, h2⟩); have m2 := Lib.hid h2; clear h2 m1)
      | (go_at_call 15; ((with_reducible refine (holds_take m2.out _ I2.out T2.out).mono ?_); rintro e w3 ⟨a3, cap3, rfl, h3⟩); have m3 := Lib.hid h3; obtain ⟨gA, hgA, x1, x2⟩ := holds_at h3 (a := a2) (n := 1) (cap := cap2) (l := [(0, k)]) (by simp) (k := 0) (by simp); obtain ⟨gB, hgB, x3, x4⟩ := holds_at h3 (a := a3) (n := 1) (cap := cap3) (l := [(k, n - k)]) (by simp) (k := 0) (by simp); subst hgA; subst hgB; replace x1 : w3.cell? ⟨gA, 0, none⟩ = some (.int .i64 0) := x1; replace x2 : w3.cell? ⟨gA, 1, none⟩ = some (.int .i64 (k : Int)) := x2; replace x3 : w3.cell? ⟨gB, 0, none⟩ = some (.int .i64 (k : Int)) := x3; replace x4 : w3.cell? ⟨gB, 1, none⟩ = some (.int .i64 ((n - k : Nat) : Int)) := x4; rw [g6.out] at x4; clear h3 m2; have CS := Lib.hid (own_used m3.out.own (r := (n : Int)) (by rw [used_all])))
      | (go_at_call 18; ((with_reducible refine (CS.out).mono ?_); rintro e w4 ⟨rfl, m4⟩); have M4 := Lib.hid m4; clear m4 CS m3 x1 x2 x3 x4))
    have M5 := Lib.hid (show I.Own w w4 q (altL n 0) by rw [← altL_zero]; exact M4.out)
    clear M4
    go_loopw [13] (fun i wr => ∃ a : Nat, a ≤ n + 1 ∧ a % 2 = 0 ∧ i = .int .i64 a ∧ Hid (I.Own w wr q (altL n a))) (fun i _ => n + 2 - (intOf i).toNat)
    case atStart => exact ⟨0, Nat.zero_le _, rfl, rfl, M5⟩
    case round =>
      obtain ⟨a, ha, ha2, rfl, hm⟩ := hrel
      clear M5
      by_cases hlt : a < n
      · have CG := Lib.hid (own_lit hm.out (f := (a : Int)) (c := 1) (small_I ⟨by omega, by omega⟩) (small_I (by decide)) (give_alt hlt ha2))
        have g6 : (a : Int) < (n : Int) := by omega
        clear hm
        go_wp2_with (go_at_call 12; ((with_reducible refine (CG.out).mono ?_); rintro e w5 ⟨rfl, m5⟩); have M6 := Lib.hid m5; clear m5 CG)
        go_roundw
        case rel => exact ⟨a + 2, by omega, by omega, by go_num, M6⟩
        case measure => simp [intOf]; omega
      · have M6 := Lib.hid (show I.Own w _ q (altL n n) by rw [← altL_end n a (by omega)]; exact hm.out)
        have g6 : ¬ (a : Int) < (n : Int) := by omega
        clear hm
        go_wp2_with (first
          | (go_at_call 14; ((with_reducible refine (own_copy M6.out).mono ?_); rintro e w5 ⟨q5, rfl, m5⟩); have M7 := Lib.hid m5; clear m5)
          | (go_at_call 15; ((with_reducible refine (own_take2 M7.out 9 (small_I (by decide)) T9.out T9b.out).mono ?_); rintro e w6 ⟨a6, cap6, rfl, m6⟩); have M8 := Lib.hid (Holds.start (M6.out.below (own_b m6))); clear m6 M7 M6)
          | (go_at_call 15; ((with_reducible refine (holds_take M8.out 8 (small_I (by decide)) T8.out).mono ?_); rintro e w7 ⟨a7, cap7, rfl, m7⟩); obtain ⟨gC, hgC, x5, x6⟩ := holds_at m7 (a := a7) (n := 8) (cap := cap7) (l := eight) (by simp [eight]) (k := 7) (by decide); subst hgC; replace x5 : w7.cell? ⟨gC, 14, none⟩ = some (.int .i64 14) := x5; replace x6 : w7.cell? ⟨gC, 15, none⟩ = some (.int .i64 1) := x6; have M9 := Lib.hid m7; clear m7 M8)
          | (go_at_call 9; ((with_reducible refine (CU.out _).mono ?_); rintro e w8 ⟨rfl, b8⟩); have B8 := Lib.hid b8; clear b8))
        go_ret
        exact ⟨rfl, M9.out.b.trans (B8.out.mono M9.out.b.size)⟩
  · subst hkn
    have T2 := Lib.hid (take_2' n)
    have I2 := Lib.hid (show isI 0 from small_I (by decide))
    go_enter Try.func7, Try.ntmps7
    go_wp2_with (first
      | (go_at_call 10; ((with_reducible refine (CN.out).mono ?_); rintro e w1 ⟨q, o, rfl, hI, hb, ho⟩); have m1 := Lib.hid (Holds.start (I := I) (W := w) ⟨o, hI, hb, ho⟩); clear hI hb ho CN)
      | (go_at_call 15; ((with_reducible refine (holds_take m1.out _ I1.out T1.out).mono ?_); rintro e w2 ⟨a2, cap2, rfl, h2⟩); have m2 := Lib.hid h2; clear h2 m1)
      | (go_at_call 15; ((with_reducible refine (holds_take m2.out _ I2.out T2.out).mono ?_); rintro e w3 ⟨a3, cap3, rfl, h3⟩); have m3 := Lib.hid h3; obtain ⟨gA, hgA, x1, x2⟩ := holds_at h3 (a := a2) (n := 1) (cap := cap2) (l := [(0, n)]) (by simp) (k := 0) (by simp); subst hgA; replace x1 : w3.cell? ⟨gA, 0, none⟩ = some (.int .i64 0) := x1; replace x2 : w3.cell? ⟨gA, 1, none⟩ = some (.int .i64 (n : Int)) := x2; clear h3 m2; have CS := Lib.hid (own_used m3.out.own (r := (n : Int)) (by rw [used_all])))
      | (go_at_call 18; ((with_reducible refine (CS.out).mono ?_); rintro e w4 ⟨rfl, m4⟩); have M4 := Lib.hid m4; clear m4 CS m3 x1 x2))
    have M5 := Lib.hid (show I.Own w w4 q (altL n 0) by rw [← altL_zero]; exact M4.out)
    clear M4
    go_loopw [13] (fun i wr => ∃ a : Nat, a ≤ n + 1 ∧ a % 2 = 0 ∧ i = .int .i64 a ∧ Hid (I.Own w wr q (altL n a))) (fun i _ => n + 2 - (intOf i).toNat)
    case atStart => exact ⟨0, Nat.zero_le _, rfl, rfl, M5⟩
    case round =>
      obtain ⟨a, ha, ha2, rfl, hm⟩ := hrel
      clear M5
      by_cases hlt : a < n
      · have CG := Lib.hid (own_lit hm.out (f := (a : Int)) (c := 1) (small_I ⟨by omega, by omega⟩) (small_I (by decide)) (give_alt hlt ha2))
        have g6 : (a : Int) < (n : Int) := by omega
        clear hm
        go_wp2_with (go_at_call 12; ((with_reducible refine (CG.out).mono ?_); rintro e w5 ⟨rfl, m5⟩); have M6 := Lib.hid m5; clear m5 CG)
        go_roundw
        case rel => exact ⟨a + 2, by omega, by omega, by go_num, M6⟩
        case measure => simp [intOf]; omega
      · have M6 := Lib.hid (show I.Own w _ q (altL n n) by rw [← altL_end n a (by omega)]; exact hm.out)
        have g6 : ¬ (a : Int) < (n : Int) := by omega
        clear hm
        go_wp2_with (first
          | (go_at_call 14; ((with_reducible refine (own_copy M6.out).mono ?_); rintro e w5 ⟨q5, rfl, m5⟩); have M7 := Lib.hid m5; clear m5)
          | (go_at_call 15; ((with_reducible refine (own_take2 M7.out 9 (small_I (by decide)) T9.out T9b.out).mono ?_); rintro e w6 ⟨a6, cap6, rfl, m6⟩); have M8 := Lib.hid (Holds.start (M6.out.below (own_b m6))); clear m6 M7 M6)
          | (go_at_call 15; ((with_reducible refine (holds_take M8.out 8 (small_I (by decide)) T8.out).mono ?_); rintro e w7 ⟨a7, cap7, rfl, m7⟩); obtain ⟨gC, hgC, x5, x6⟩ := holds_at m7 (a := a7) (n := 8) (cap := cap7) (l := eight) (by simp [eight]) (k := 7) (by decide); subst hgC; replace x5 : w7.cell? ⟨gC, 14, none⟩ = some (.int .i64 14) := x5; replace x6 : w7.cell? ⟨gC, 15, none⟩ = some (.int .i64 1) := x6; have M9 := Lib.hid m7; clear m7 M8)
          | (go_at_call 9; ((with_reducible refine (CU.out _).mono ?_); rintro e w8 ⟨rfl, b8⟩); have B8 := Lib.hid b8; clear b8))
        go_ret
        exact ⟨rfl, M9.out.b.trans (B8.out.mono M9.out.b.size)⟩
theorem first_any (I : Impl) (x y : Int) (w : World) (hx : 0 ≤ x ∧ x ≤ 255) (hy : 0 ≤ y ∧ y ≤ 255) :
    Calls Try.prog 7 #[.int .u8 x, .int .u8 y] w fun e w' => e = .returned (.bool true) ∧ Below w.heap.size w w' :=
  first_in' I x y (20 + x % 81).toNat (1 + y % 20).toNat w hx hy (by omega) (by omega)
end Go.Proofs.Ytdngkpdiaeicmaa
