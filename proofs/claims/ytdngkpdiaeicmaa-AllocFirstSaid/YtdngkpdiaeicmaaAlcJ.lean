/- Layer 8: the chapter's blocks, for any map that is the document's. -/
import Derived.Test.YtdngkpdiaeicmaaAlcI
namespace Go.Proofs.Ytdngkpdiaeicmaa
open Go.RowKit

def tk0 : List Bool := List.replicate 8 false
def tk1 : List Bool := [true, true, true, false, false, false, false, false]
def tk2 : List Bool := [true, true, true, true, true, false, false, false]
def tk3 : List Bool := [false, false, false, true, true, false, false, false]
def tk4 : List Bool := [true, true, true, true, true, true, true, false]
def tk5 : List Bool := [true, true, true, true, true, true, true, true]
theorem tk_1 : takeL tk0 3 = ([(0, 3)], true, tk1) := by decide +kernel
theorem tk_2 : takeL tk1 2 = ([(3, 2)], true, tk2) := by decide +kernel
theorem tk_3 : giveR tk2 (toI [(0, 3)]) = (true, tk3) := by decide +kernel
theorem tk_4 : giveR tk3 (toI [(0, 3)]) = (false, tk3) := by decide +kernel
theorem tk_5 : takeL tk3 5 = ([(0, 3), (5, 2)], true, tk4) := by decide +kernel
theorem tk_6 : takeL tk4 2 = ([], false, tk4) := by decide +kernel
theorem tk_7 : takeL tk4 1 = ([(7, 1)], true, tk5) := by decide +kernel
theorem small_I {n : Int} (h : 0 ≤ n ∧ n ≤ 100000) : isI n := ⟨by omega, by omega⟩
set_option maxRecDepth 100000 in
set_option maxHeartbeats 4000000 in
theorem took_any (I : Impl) (w : World) :
    Calls Try.prog 9 #[] w fun e w' => e = .returned (.bool true) ∧ Below w.heap.size w w' := by
  have CN : Calls Try.prog 10 #[.int .i64 8] w fun e w' => ∃ q o, e = .returned (.tuple #[.pointer (some ⟨q, 0, none⟩), .int .i64 0]) ∧ I.Inv w' q tk0 o ∧ Below w.heap.size w w' ∧ ∀ k, o k → w.heap.size ≤ k := I.new 8 w (by decide) (by decide)
  have e3 : ∀ x ∈ [(0, 3)], x.1 + x.2 ≤ 4096 := by decide
  have E3 := Lib.hid e3
  clear e3
  go_enter Try.func9, Try.ntmps9
  go_wp2_with (first
    | (go_at_call 10; ((with_reducible refine (CN).mono ?_); rintro e w1 ⟨q, o, rfl, hI, hb, ho⟩); have m1 := Lib.hid (Holds.start (I := I) (W := w) ⟨o, hI, hb, ho⟩); clear hI hb ho CN)
    | (go_at_call 15; ((with_reducible refine (holds_take m1.out 3 (small_I (by decide)) tk_1).mono ?_); rintro e w2 ⟨a2, cap2, rfl, h2⟩); have m2 := Lib.hid h2; clear h2 m1)
    | (go_at_call 15; ((with_reducible refine (holds_take m2.out 2 (small_I (by decide)) tk_2).mono ?_); rintro e w3 ⟨a3, cap3, rfl, h3⟩); have m3 := Lib.hid h3; clear h3 m2)
    | (go_at_call 12; ((with_reducible refine (holds_give m3.out (l := [(0, 3)]) (by simp) E3.out (by decide) tk_3).mono ?_); rintro e w4 ⟨rfl, h4⟩); have m4 := Lib.hid h4; clear h4 m3)
    | (go_at_call 12; ((with_reducible refine (holds_give m4.out (l := [(0, 3)]) (by simp) E3.out (by decide) tk_4).mono ?_); rintro e w5 ⟨rfl, h5⟩); have m5 := Lib.hid h5; clear h5 m4)
    | (go_at_call 15; ((with_reducible refine (holds_take m5.out 5 (small_I (by decide)) tk_5).mono ?_); rintro e w6 ⟨a6, cap6, rfl, h6⟩); have m6 := Lib.hid h6; clear h6 m5)
    | (go_at_call 15; ((with_reducible refine (holds_take m6.out 2 (small_I (by decide)) tk_6).mono ?_); rintro e w7 ⟨a7, cap7, rfl, h7⟩); have m7 := Lib.hid h7; clear h7 m6)
    | (go_at_call 15; ((with_reducible refine (holds_take m7.out 1 (small_I (by decide)) tk_7).mono ?_); rintro e w8 ⟨a8, cap8, rfl, h8⟩); obtain ⟨g2, hg2, x1, x2⟩ := holds_at h8 (a := a2) (n := 1) (cap := cap2) (l := [(0, 3)]) (by simp) (k := 0) (by decide); obtain ⟨g3, hg3, x3, x4⟩ := holds_at h8 (a := a3) (n := 1) (cap := cap3) (l := [(3, 2)]) (by simp) (k := 0) (by decide); obtain ⟨g6, hg6, x5, x6⟩ := holds_at h8 (a := a6) (n := 2) (cap := cap6) (l := [(0, 3), (5, 2)]) (by simp) (k := 0) (by decide); obtain ⟨g6', hg6', x7, x8⟩ := holds_at h8 (a := a6) (n := 2) (cap := cap6) (l := [(0, 3), (5, 2)]) (by simp) (k := 1) (by decide); obtain ⟨g8, hg8, x9, x10⟩ := holds_at h8 (a := a8) (n := 1) (cap := cap8) (l := [(7, 1)]) (by simp) (k := 0) (by decide); subst hg2; subst hg3; subst hg6; subst hg8; obtain rfl : g6' = g6 := (by simp only [Option.some.injEq, Addr.mk.injEq, and_true] at hg6'; exact hg6'.symm); clear hg6'; have m8 := Lib.hid h8; clear h8 m7; replace x1 : w8.cell? ⟨g2, 0, none⟩ = some (.int .i64 0) := x1; replace x2 : w8.cell? ⟨g2, 1, none⟩ = some (.int .i64 3) := x2; replace x3 : w8.cell? ⟨g3, 0, none⟩ = some (.int .i64 3) := x3; replace x4 : w8.cell? ⟨g3, 1, none⟩ = some (.int .i64 2) := x4; replace x5 : w8.cell? ⟨g6', 0, none⟩ = some (.int .i64 0) := x5; replace x6 : w8.cell? ⟨g6', 1, none⟩ = some (.int .i64 3) := x6; replace x7 : w8.cell? ⟨g6', 2, none⟩ = some (.int .i64 5) := x7; replace x8 : w8.cell? ⟨g6', 3, none⟩ = some (.int .i64 2) := x8; replace x9 : w8.cell? ⟨g8, 0, none⟩ = some (.int .i64 7) := x9; replace x10 : w8.cell? ⟨g8, 1, none⟩ = some (.int .i64 1) := x10))
  go_ret
  exact ⟨rfl, m8.out.b⟩
end Go.Proofs.Ytdngkpdiaeicmaa
