/- Layer 16: the program's clone, mayBe, checkRoot. -/
import Derived.Test.YtokeiagcdahmaaaDoorTtA
import Derived.Test.YtokeiagcdahmaaaDoorPtK
import Derived.Deep.DeepCutAuto
namespace Go.Proofs.YtokeiagcdahmaaaDoor
open Go.RowKit

set_option maxRecDepth 100000 in
set_option maxHeartbeats 4000000 in
theorem nclone_any (x : Nd) (hp : x.path.length ≤ 1000000) (hd : x.data.length ≤ 1000000) (w : World) :
    Calls Tryd.prog 15 #[.agg #[.string (str x.path), .int .i64 x.kind, .int .i64 x.mode, .string (str x.data)]] w fun e w' =>
      e = .returned (.agg #[.string (str x.path), .int .i64 x.kind, .int .i64 x.mode, .string (str x.data)]) ∧ Below w.heap.size w w' := by
  have HI := Lib.hid info_nd4
  have C1 := fun w => clone_any (str x.path) (by rw [str_size]; omega) w
  have C2 := fun w => clone_any (str x.data) (by rw [str_size]; omega) w
  have HONE := Lib.hid (ndA_one x)
  unfold ndA at HONE
  generalize str x.path = s1 at *
  generalize str x.data = s2 at *
  generalize x.kind = k at *
  generalize x.mode = m at *
  obtain ⟨A, hA⟩ : ∃ A : Array Value, A = #[.string s1, .int .i64 k, .int .i64 m, .string s2] := ⟨_, rfl⟩
  obtain ⟨W0, hW0⟩ : ∃ W0, W0 = (w.alloc (.cells #[.string s1, .int .i64 k, .int .i64 m, .string s2] 36)).alloc (.cells #[.string ⟨#[]⟩, .int .i64 0, .int .i64 0, .string ⟨#[]⟩] 36) := ⟨_, rfl⟩
  have Z0 : rowC W0 w.heap.size A 36 := by rw [hW0, hA]; exact rowC_alloc (rowC_new w _ _) _
  have Y0 : rowC W0 (w.heap.size + 1) #[.string ⟨#[]⟩, .int .i64 0, .int .i64 0, .string ⟨#[]⟩] 36 := by
    rw [hW0]
    have := rowC_new (w.alloc (.cells #[.string s1, .int .i64 k, .int .i64 m, .string s2] 36)) #[.string ⟨#[]⟩, .int .i64 0, .int .i64 0, .string ⟨#[]⟩] 36
    rwa [size_alloc] at this
  have B0 : Below w.heap.size w W0 := by rw [hW0]; exact ((Below.refl _ _).alloc (Nat.le_refl _) _).alloc (by rw [size_alloc]; omega) _
  have HW0 := Lib.hid hW0
  have HST : Hid (∀ a b : World, (rowC a w.heap.size A 36 ∧ (∃ c : Array Value, c.size = 4 ∧ rowC a (w.heap.size + 1) c 36) ∧ Below w.heap.size w a) → Below a.heap.size a b →
      (rowC b w.heap.size A 36 ∧ (∃ c : Array Value, c.size = 4 ∧ rowC b (w.heap.size + 1) c 36) ∧ Below w.heap.size w b)) := Lib.hid fun a b ⟨h1, ⟨c, hc, h2⟩, h3⟩ hb =>
    ⟨rowC_below h1 hb (rowC_lt h1), ⟨c, hc, rowC_below h2 hb (rowC_lt h2)⟩, h3.trans (hb.mono h3.size)⟩
  have HSET : Hid (∀ (a : World) (i : Nat) (u : Value), A.setIfInBounds i u = A → (rowC a w.heap.size A 36 ∧ (∃ c : Array Value, c.size = 4 ∧ rowC a (w.heap.size + 1) c 36) ∧ Below w.heap.size w a) →
      (rowC (a.setCell ⟨w.heap.size, i, none⟩ u) w.heap.size A 36 ∧ (∃ c : Array Value, c.size = 4 ∧ rowC (a.setCell ⟨w.heap.size, i, none⟩ u) (w.heap.size + 1) c 36) ∧ Below w.heap.size w (a.setCell ⟨w.heap.size, i, none⟩ u))) := Lib.hid fun a i u hu ⟨h1, ⟨c, hc, h2⟩, h3⟩ =>
    ⟨by have := rowC_set h1 i u; rwa [hu] at this, ⟨c, hc, rowC_other h2 _ _ (by show w.heap.size + 1 ≠ w.heap.size; omega)⟩, h3.setCell (p := ⟨w.heap.size, i, none⟩) (Nat.le_refl _) _⟩
  have HS0 := Lib.hid (show rowC W0 w.heap.size A 36 ∧ (∃ c : Array Value, c.size = 4 ∧ rowC W0 (w.heap.size + 1) c 36) ∧ Below w.heap.size w W0 from ⟨Z0, ⟨_, rfl, Y0⟩, B0⟩)
  have HA := Lib.hid hA
  have CELLS : Hid (∀ a : World, rowC a w.heap.size A 36 → (∀ i u, A[i]? = some u → a.cell? ⟨w.heap.size, i, none⟩ = some u) ∧ ∀ i, a.frozen? ⟨w.heap.size, i, none⟩ = false) := Lib.hid fun a h => ⟨fun i u hu => (rowC_cell h i).trans hu, fun i => rowC_free h i⟩
  clear hW0 Z0 Y0 B0
  go_enter Tryd.func15, Tryd.ntmps15
  go_upto_region 1 with (fail)
  rw [← HW0.out]
  have a1 : _ = some (Value.string s1) := (CELLS.out _ HS0.out.1).1 0 _ (by rw [hA]; rfl)
  have f1 := (CELLS.out _ HS0.out.1).2 0
  go_upto_region 2 with (go_at_call 22; ((with_reducible refine (C1 _).mono ?_); rintro e w1 ⟨rfl, hB1⟩; have S1 := Lib.hid (HST.out _ w1 HS0.out hB1); have a1 : _ = some (Value.string s1) := (CELLS.out _ S1.out.1).1 0 _ (by rw [hA]; rfl); have f1 := (CELLS.out _ S1.out.1).2 0))
  have T1 := Lib.hid (HSET.out _ 0 (.string s1) (by rw [hA]; rfl) S1.out)
  clear a1 f1 S1 hB1
  generalize w1.setCell ⟨w.heap.size, 0, none⟩ (.string s1) = v1 at *
  have a2 : _ = some (Value.string s2) := (CELLS.out _ T1.out.1).1 3 _ (by rw [hA]; rfl)
  have f2 := (CELLS.out _ T1.out.1).2 3
  go_upto_region 3 with (go_at_call 22; ((with_reducible refine (C2 _).mono ?_); rintro e w2 ⟨rfl, hB2⟩; have S2 := Lib.hid (HST.out _ w2 T1.out hB2); have a2 : _ = some (Value.string s2) := (CELLS.out _ S2.out.1).1 3 _ (by rw [hA]; rfl); have f2 := (CELLS.out _ S2.out.1).2 3))
  have T3 := Lib.hid (HSET.out _ 3 (.string s2) (by rw [hA]; rfl) S2.out)
  clear a2 f2 S2 hB2
  generalize w2.setCell ⟨w.heap.size, 3, none⟩ (.string s2) = v3 at *
  obtain ⟨r1, ⟨c, hc, r2⟩, b3⟩ := T3.out
  have HR1 := Lib.hid r1
  have HR2 := Lib.hid r2
  have HB3 := Lib.hid b3
  have HI5 := Lib.hid (show (Tryd.prog.info? 36).map (·.size) = some A.size by rw [HI.out, hA]; rfl)
  have HAO := Lib.hid (show A.all (·.oneCell') = true by rw [hA]; exact HONE.out)
  have HSZ := Lib.hid (show c.size = A.size by rw [hc, hA]; rfl)
  clear r1 r2 b3 hc T1 T3 C1 C2 CELLS HST HSET HS0
  go_wp2_with (first
    | ((with_reducible show wpList _ _ _ (⟨some 11, .load _ (.tmp 1), _, _, _, _⟩ :: _) _ _); refine wpList_load_row rfl 36 _ rfl w.heap.size rfl 36 A (0, 0) _ HR1.out Tryd.underlying36 rfl HI5.out ?_)
    | ((with_reducible show wpList _ _ _ (⟨none, .store _ (.tmp 2) _, _, _, _, _⟩ :: _) _ _); refine wpList_store_row rfl 36 _ _ rfl (w.heap.size + 1) A rfl rfl 36 c HR2.out HI5.out HSZ.out HAO.out ?_))
  refine bodyPost_ret (results_cell_row rfl _ _ (w.heap.size + 1) 36 A (0, 0) _ rfl (rowC_setRow HR2.out _) Tryd.underlying36 rfl HI5.out) rfl ?_
  exact ⟨by rw [HA.out], below_setRow HB3.out (by omega) _⟩
theorem checkRoot_any (k : Int) (w : World) :
    Calls Tryd.prog 27 #[.int .i64 k] w fun e w' => e = .returned (.int .i64 (if k = 2 then 0 else 71)) ∧ w = w' := by
  by_cases h : k = 2
  · rw [if_pos h]
    subst h
    go_enter Tryd.func27, Tryd.ntmps27
    go_wp2
    go_ret
    exact ⟨rfl, rfl⟩
  · rw [if_neg h]
    have g : (k != 2) = true := by rw [bne_iff_ne]; exact h
    go_enter Tryd.func27, Tryd.ntmps27
    go_wp2
    go_ret
    exact ⟨rfl, rfl⟩
end Go.Proofs.YtokeiagcdahmaaaDoor
#print axioms Go.Proofs.YtokeiagcdahmaaaDoor.nclone_any
#print axioms Go.Proofs.YtokeiagcdahmaaaDoor.checkRoot_any
