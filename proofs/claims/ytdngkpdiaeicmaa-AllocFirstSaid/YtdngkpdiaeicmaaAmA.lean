/- Layer 8: the program's map in memory; what it is asked without change; New, Of, Copy. -/
import Derived.BigQuiet
import Derived.StillTailTactics
import Derived.Test.YtdngkpdiaeicmaaAlcI
import Derived.Test.YtdngkpdiaeicmaaAlcX
import Derived.Test.YtdngkpdiaeicmaaBtI
namespace Go.Proofs.Ytdngkpdiaeicmaa
open Go.RowKit

abbrev impC (L : List Bool) : Array Value := #[.int .i64 (L.length : Int), .string (str (packL L))]
/-- The program's map L: block q has the pointer to its state, block r. -/
structure ImpM (w : World) (q r : Nat) (L : List Bool) : Prop where
  q : rowC w q #[.pointer (some ⟨r, 0, none⟩)] 51
  r : rowC w r (impC L) 62
  lo : 1 ≤ L.length
  hi : L.length ≤ 4096
/-- The blocks that are its own. -/
def impOwn (q r k : Nat) : Prop := k = q ∨ k = r
theorem ImpM.lt {w : World} {q r : Nat} {L : List Bool} (h : ImpM w q r L) : ∀ k, impOwn q r k → k < w.heap.size := by
  intro k hk
  rcases hk with rfl | rfl
  · exact rowC_lt h.q
  · exact rowC_lt h.r
theorem ImpM.chg {w w' : World} {q r : Nat} {L : List Bool} (h : ImpM w q r L) {s : Nat → Prop} (hc : Chg s w w') (hs : ∀ k, impOwn q r k → ¬ s k) : ImpM w' q r L :=
  ⟨hc.rowC h.q (hs q (.inl rfl)), hc.rowC h.r (hs r (.inr rfl)), h.lo, h.hi⟩
theorem ImpM.below {w w' : World} {q r : Nat} {L : List Bool} (h : ImpM w q r L) (hb : Below w.heap.size w w') : ImpM w' q r L := h.chg (s := fun _ => False) (Chg.of_below hb) (fun _ _ => id)
theorem ImpM.cell {w : World} {q r : Nat} {L : List Bool} (h : ImpM w q r L) :
    w.cell? ⟨q, 0, none⟩ = some (.pointer (some ⟨r, 0, none⟩)) ∧ w.cell? ⟨r, 0, none⟩ = some (.int .i64 (L.length : Int)) ∧ w.cell? ⟨r, 1, none⟩ = some (.string (str (packL L))) :=
  ⟨rowC_cell h.q 0, rowC_cell h.r 0, rowC_cell h.r 1⟩
theorem ImpM.ne {w : World} {q r : Nat} {L : List Bool} (h : ImpM w q r L) : q ≠ r := by
  intro e
  have h1 := h.q
  have h2 := h.r
  rw [e] at h1
  unfold rowC at h1 h2
  rw [h1] at h2
  have := Option.some.inj h2
  injection this with _ h3 _
  exact absurd h3 (by decide)
def ImpInv (w : World) (q : Nat) (L : List Bool) (o : Nat → Prop) : Prop := ∃ r, ImpM w q r L ∧ o = impOwn q r
theorem pack_le {L : List Bool} (h : L.length ≤ 4096) : (str (packL L)).size ≤ 1000000 := by rw [pack_size]; omega

set_option maxHeartbeats 400000 in
theorem mnone_any {w : World} {q r : Nat} (h : w.cell? ⟨q, 0, none⟩ = some (.pointer (some ⟨r, 0, none⟩))) :
    Calls Try.prog 28 #[.pointer (some ⟨q, 0, none⟩)] w fun e w' => e = .returned (.bool false) ∧ w = w' := by
  go_enter Try.func28, Try.ntmps28
  go_wp2
  go_ret
  exact ⟨rfl, rfl⟩
set_option maxHeartbeats 400000 in
theorem mayBe_any (n : Int) (w : World) :
    Calls Try.prog 25 #[.int .i64 n] w fun e w' => e = .returned (.bool (decide (1 ≤ n ∧ n ≤ 4096))) ∧ w = w' := by
  by_cases hn : 1 ≤ n
  · by_cases hs : n ≤ 4096
    · have HR := Lib.hid (show decide (1 ≤ n ∧ n ≤ 4096) = true by rw [decide_eq_true_eq]; exact ⟨hn, hs⟩)
      have d1 : decide (1 ≤ n) = true := decide_eq_true hn
      have d2 : decide (n ≤ 4096) = true := decide_eq_true hs
      go_enter Try.func25, Try.ntmps25
      go_wp2
      go_ret
      exact ⟨by first | rfl | exact retBool HR.out.symm, rfl⟩
    · have HR := Lib.hid (show decide (1 ≤ n ∧ n ≤ 4096) = false by rw [decide_eq_false_iff_not]; omega)
      have d1 : decide (1 ≤ n) = true := decide_eq_true hn
      have d2 : decide (n ≤ 4096) = false := decide_eq_false hs
      go_enter Try.func25, Try.ntmps25
      go_wp2
      go_ret
      exact ⟨by first | rfl | exact retBool HR.out.symm, rfl⟩
  · have HR := Lib.hid (show decide (1 ≤ n ∧ n ≤ 4096) = false by rw [decide_eq_false_iff_not]; omega)
    have d1 : decide (1 ≤ n) = false := decide_eq_false hn
    go_enter Try.func25, Try.ntmps25
    go_wp2
    go_ret
    exact ⟨by first | rfl | exact retBool HR.out.symm, rfl⟩
set_option maxHeartbeats 400000 in
theorem width_any (m : Nat) (w : World) (h : m ≤ 4096) :
    Calls Try.prog 27 #[.int .i64 (m : Int)] w fun e w' => e = .returned (.int .i64 (((m + 7) / 8 : Nat) : Int)) ∧ w = w' := by
  have h1 : (m : Int) ≤ 4096 := by omega
  have HE := Lib.hid (show ((m : Int) + 7) / 8 = (((m + 7) / 8 : Nat) : Int) by omega)
  go_enter Try.func27, Try.ntmps27
  go_wp2
  go_ret
  exact ⟨retInt (by first | exact HE.out | (rw [← HE.out])), rfl⟩
set_option maxHeartbeats 400000 in
theorem size_any {w : World} {q : Nat} {L : List Bool} {o : Nat → Prop} (h : ImpInv w q L o) :
    Calls Try.prog 20 #[.pointer (some ⟨q, 0, none⟩)] w fun e w' => e = .returned (.int .i64 (L.length : Int)) ∧ Below w.heap.size w w' := by
  obtain ⟨r, h, -⟩ := h
  obtain ⟨c, c0, c1⟩ := h.cell
  have CN := mnone_any c
  clear h
  go_enter Try.func20, Try.ntmps20
  go_wp2_with (go_at_call 28; ((with_reducible refine (CN).mono ?_); rintro e w1 ⟨rfl, rfl⟩))
  go_ret
  exact ⟨rfl, Below.refl _ _⟩
set_option maxHeartbeats 400000 in
theorem bytes_same {w : World} {q r : Nat} {L : List Bool} (h : ImpM w q r L) :
    Calls Try.prog 21 #[.pointer (some ⟨q, 0, none⟩)] w fun e w' => e = .returned (.string (str (packL L))) ∧ w = w' := by
  obtain ⟨c, c0, c1⟩ := h.cell
  have CN := mnone_any c
  clear h
  go_enter Try.func21, Try.ntmps21
  go_wp2_with (go_at_call 28; ((with_reducible refine (CN).mono ?_); rintro e w1 ⟨rfl, rfl⟩))
  go_ret
  exact ⟨rfl, rfl⟩
theorem bytes_any {w : World} {q : Nat} {L : List Bool} {o : Nat → Prop} (h : ImpInv w q L o) :
    Calls Try.prog 21 #[.pointer (some ⟨q, 0, none⟩)] w fun e w' => e = .returned (.string (str (packL L))) ∧ Below w.heap.size w w' := by
  obtain ⟨r, h, -⟩ := h
  exact (bytes_same h).mono fun e w' ⟨he, hw⟩ => ⟨he, hw ▸ Below.refl _ _⟩
set_option maxHeartbeats 400000 in
theorem used_any {w : World} {q : Nat} {L : List Bool} {o : Nat → Prop} (h : ImpInv w q L o) :
    Calls Try.prog 18 #[.pointer (some ⟨q, 0, none⟩)] w fun e w' => e = .returned (.int .i64 (usedL L : Int)) ∧ Below w.heap.size w w' := by
  obtain ⟨r, h, -⟩ := h
  have CB := bytes_same h
  have CC := count_any (str (packL L)) w (pack_le h.hi)
  rw [str_toList, pack_count] at CC
  clear h
  go_enter Try.func18, Try.ntmps18
  go_wp2_with (first
    | (go_at_call 21; ((with_reducible refine (CB).mono ?_); rintro e w1 ⟨rfl, rfl⟩))
    | (go_at_call 37; ((with_reducible refine (CC).mono ?_); rintro e w2 ⟨rfl, b2⟩)))
  go_ret
  exact ⟨rfl, b2⟩
/-- A map, laid anew. -/
theorem imp_new (w : World) (L : List Bool) (h1 : 1 ≤ L.length) (h2 : L.length ≤ 4096) :
    ImpM ((w.alloc (.cells (impC L) 62)).alloc (.cells #[.pointer (some ⟨w.heap.size, 0, none⟩)] 51)) (w.heap.size + 1) w.heap.size L ∧
      Below w.heap.size w ((w.alloc (.cells (impC L) 62)).alloc (.cells #[.pointer (some ⟨w.heap.size, 0, none⟩)] 51)) := by
  have r1 := rowC_new (w.alloc (.cells (impC L) 62)) #[.pointer (some ⟨w.heap.size, 0, none⟩)] 51
  rw [size_alloc] at r1
  exact ⟨⟨r1, rowC_alloc (rowC_new w (impC L) 62) _, h1, h2⟩, ((Below.refl _ w).alloc (Nat.le_refl _) _).alloc (by rw [size_alloc]; omega) _⟩
set_option maxHeartbeats 1000000 in
theorem copy_any {w : World} {q : Nat} {L : List Bool} {o : Nat → Prop} (h : ImpInv w q L o) :
    Calls Try.prog 14 #[.pointer (some ⟨q, 0, none⟩)] w fun e w' => ∃ q' o', e = .returned (.pointer (some ⟨q', 0, none⟩)) ∧ ImpInv w' q' L o' ∧ Below w.heap.size w w' ∧ ∀ k, o' k → w.heap.size ≤ k := by
  obtain ⟨r, h, -⟩ := h
  obtain ⟨c, c0, c1⟩ := h.cell
  have CN := mnone_any c
  have HI := Lib.hid (imp_new w.drew L h.lo h.hi)
  clear h
  go_enter Try.func14, Try.ntmps14
  go_wp2_with (go_at_call 28; ((with_reducible refine (CN).mono ?_); rintro e w1 ⟨rfl, rfl⟩))
  go_still_tail 14, (by kernel_rfl)
  change wpList _ _ _ _ _ w.drew
  have HS := Lib.hid (show w.drew.heap.size = w.heap.size from rfl)
  have HB := Lib.hid (show Below w.heap.size w w.drew from (Below.refl _ _).drew)
  clear c c0 c1
  generalize w.drew = w2 at *
  go_wp2
  go_ret
  obtain ⟨i1, i2⟩ := HI.out
  have hs := HS.out
  refine ⟨w2.heap.size + 1, impOwn (w2.heap.size + 1) w2.heap.size, rfl, ⟨_, i1, rfl⟩, HB.out.trans (i2.mono (by omega)), fun k hk => ?_⟩
  rcases hk with rfl | rfl <;> omega
end Go.Proofs.Ytdngkpdiaeicmaa
