/- Layer 15: entries in memory; the program's clone of one. -/
import Derived.Test.YtmgpofdmoaafoaaGreatDoorTrF
import Derived.Test.YtmgpofdmoaafoaaGreatDoorBld
namespace Go.Proofs.YtmgpofdmoaafoaaGreatDoor
open Go.RowKit

/-- An entry's cells. -/
def entV (x : Ent) : List Value := [.int .i64 x.kind, .string (str x.name), .string (str x.to), .int .i64 x.mode, .string (str x.data)]
def entA (x : Ent) : Array Value := #[.int .i64 x.kind, .string (str x.name), .string (str x.to), .int .i64 x.mode, .string (str x.data)]
theorem entV_arr (x : Ent) : (entV x).toArray = entA x := rfl
theorem entA_one (x : Ent) : (entA x).all (·.oneCell') = true := by simp [Value.oneCell', entA]
theorem entV_one (x : Ent) : ∀ u ∈ entV x, u.oneCell' = true := by
  intro u hu
  unfold entV at hu
  simp only [List.mem_cons, List.not_mem_nil, or_false] at hu
  rcases hu with rfl | rfl | rfl | rfl | rfl <;> rfl
def rowE (l : List Ent) : List Value := l.flatMap entV
theorem rowE_app (l m : List Ent) : rowE (l ++ m) = rowE l ++ rowE m := by simp [rowE]
theorem rowE_one (x : Ent) : rowE [x] = entV x := by simp [rowE]
theorem rowE_len : ∀ l : List Ent, (rowE l).length = l.length * 5
  | [] => rfl
  | x :: l => by
    have : rowE (x :: l) = entV x ++ rowE l := by simp [rowE]
    rw [this, List.length_append, rowE_len l, List.length_cons]
    show 5 + _ = _
    omega
/-- A row of entries that the call owns. -/
def OwnsE (w : World) (base : Nat) (v : Value) (l : List Ent) : Prop := w.ownsRow base 39 5 v l.length (rowE l)
theorem info_ent : (Tryz.prog.info? 39).map (fun i => (i.zero, i.size, i.bytes)) = some (some (.agg #[.int .i64 0, .string ⟨#[]⟩, .string ⟨#[]⟩, .int .i64 0, .string ⟨#[]⟩]), 5, 64) := by kernel_rfl
theorem info_ent5 : (Tryz.prog.info? 39).map (·.size) = some 5 := by kernel_rfl
theorem sclone_any (s : ByteArray) (hs : s.size ≤ 1000000000) (w : World) :
    Calls Tryz.prog 83 #[.string s] w fun e w' => e = .returned (.string s) ∧ Below w.heap.size w w' := by
  have C := fun w => Tryz.stringslite_Clone s w (by omega)
  go_enter Tryz.func83, Tryz.ntmps83
  go_wp2_with (go_at_call 93; ((with_reducible refine (C _).mono ?_); rintro e w1 ⟨rfl, hB⟩))
  go_ret
  exact ⟨rfl, hB⟩
/-- Texts that are not too long to be copied. -/
structure EntB (x : Ent) : Prop where
  name : x.name.length ≤ 1000000000
  tgt : x.to.length ≤ 1000000000
  data : x.data.length ≤ 1000000000
set_option maxRecDepth 100000 in
set_option maxHeartbeats 4000000 in
theorem clone_any (x : Ent) (hx : EntB x) (w : World) :
    Calls Tryz.prog 65 #[.agg #[.int .i64 x.kind, .string (str x.name), .string (str x.to), .int .i64 x.mode, .string (str x.data)]] w fun e w' =>
      e = .returned (.agg #[.int .i64 x.kind, .string (str x.name), .string (str x.to), .int .i64 x.mode, .string (str x.data)]) ∧ Below w.heap.size w w' := by
  have HI := Lib.hid info_ent5
  have C1 := fun w => sclone_any (str x.name) (by rw [str_size]; exact hx.name) w
  have C2 := fun w => sclone_any (str x.to) (by rw [str_size]; exact hx.tgt) w
  have C3 := fun w => sclone_any (str x.data) (by rw [str_size]; exact hx.data) w
  have HONE := Lib.hid (entA_one x)
  unfold entA at HONE
  generalize str x.name = s1 at *
  generalize str x.to = s2 at *
  generalize str x.data = s3 at *
  generalize x.kind = k at *
  generalize x.mode = m at *
  obtain ⟨A, hA⟩ : ∃ A : Array Value, A = #[.int .i64 k, .string s1, .string s2, .int .i64 m, .string s3] := ⟨_, rfl⟩
  obtain ⟨W0, hW0⟩ : ∃ W0, W0 = (w.alloc (.cells #[.int .i64 k, .string s1, .string s2, .int .i64 m, .string s3] 39)).alloc (.cells #[.int .i64 0, .string ⟨#[]⟩, .string ⟨#[]⟩, .int .i64 0, .string ⟨#[]⟩] 39) := ⟨_, rfl⟩
  have Z0 : rowC W0 w.heap.size A 39 := by rw [hW0, hA]; exact rowC_alloc (rowC_new w _ _) _
  have Y0 : rowC W0 (w.heap.size + 1) #[.int .i64 0, .string ⟨#[]⟩, .string ⟨#[]⟩, .int .i64 0, .string ⟨#[]⟩] 39 := by
    rw [hW0]
    have := rowC_new (w.alloc (.cells #[.int .i64 k, .string s1, .string s2, .int .i64 m, .string s3] 39)) #[.int .i64 0, .string ⟨#[]⟩, .string ⟨#[]⟩, .int .i64 0, .string ⟨#[]⟩] 39
    rwa [size_alloc] at this
  have B0 : Below w.heap.size w W0 := by rw [hW0]; exact ((Below.refl _ _).alloc (Nat.le_refl _) _).alloc (by rw [size_alloc]; omega) _
  have HW0 := Lib.hid hW0
  have HST : Hid (∀ a b : World, (rowC a w.heap.size A 39 ∧ (∃ c : Array Value, c.size = 5 ∧ rowC a (w.heap.size + 1) c 39) ∧ Below w.heap.size w a) → Below a.heap.size a b →
      (rowC b w.heap.size A 39 ∧ (∃ c : Array Value, c.size = 5 ∧ rowC b (w.heap.size + 1) c 39) ∧ Below w.heap.size w b)) := Lib.hid fun a b ⟨h1, ⟨c, hc, h2⟩, h3⟩ hb =>
    ⟨rowC_below h1 hb (rowC_lt h1), ⟨c, hc, rowC_below h2 hb (rowC_lt h2)⟩, h3.trans (hb.mono h3.size)⟩
  have HSET : Hid (∀ (a : World) (i : Nat) (u : Value), A.setIfInBounds i u = A → (rowC a w.heap.size A 39 ∧ (∃ c : Array Value, c.size = 5 ∧ rowC a (w.heap.size + 1) c 39) ∧ Below w.heap.size w a) →
      (rowC (a.setCell ⟨w.heap.size, i, none⟩ u) w.heap.size A 39 ∧ (∃ c : Array Value, c.size = 5 ∧ rowC (a.setCell ⟨w.heap.size, i, none⟩ u) (w.heap.size + 1) c 39) ∧ Below w.heap.size w (a.setCell ⟨w.heap.size, i, none⟩ u))) := Lib.hid fun a i u hu ⟨h1, ⟨c, hc, h2⟩, h3⟩ =>
    ⟨by have := rowC_set h1 i u; rwa [hu] at this, ⟨c, hc, rowC_other h2 _ _ (by show w.heap.size + 1 ≠ w.heap.size; omega)⟩, h3.setCell (p := ⟨w.heap.size, i, none⟩) (Nat.le_refl _) _⟩
  have HS0 := Lib.hid (show rowC W0 w.heap.size A 39 ∧ (∃ c : Array Value, c.size = 5 ∧ rowC W0 (w.heap.size + 1) c 39) ∧ Below w.heap.size w W0 from ⟨Z0, ⟨_, rfl, Y0⟩, B0⟩)
  have HA := Lib.hid hA
  have CELLS : Hid (∀ a : World, rowC a w.heap.size A 39 → (∀ i u, A[i]? = some u → a.cell? ⟨w.heap.size, i, none⟩ = some u) ∧ ∀ i, a.frozen? ⟨w.heap.size, i, none⟩ = false) := Lib.hid fun a h => ⟨fun i u hu => (rowC_cell h i).trans hu, fun i => rowC_free h i⟩
  clear hW0 Z0 Y0 B0
  go_enter Tryz.func65, Tryz.ntmps65
  go_upto_region 1 with (fail)
  rw [← HW0.out]
  have a1 : _ = some (Value.string s1) := (CELLS.out _ HS0.out.1).1 1 _ (by rw [hA]; rfl)
  have f1 := (CELLS.out _ HS0.out.1).2 1
  go_upto_region 2 with (go_at_call 83; ((with_reducible refine (C1 _).mono ?_); rintro e w1 ⟨rfl, hB1⟩; have S1 := Lib.hid (HST.out _ w1 HS0.out hB1); have a1 : _ = some (Value.string s1) := (CELLS.out _ S1.out.1).1 1 _ (by rw [hA]; rfl); have f1 := (CELLS.out _ S1.out.1).2 1))
  have T1 := Lib.hid (HSET.out _ 1 (.string s1) (by rw [hA]; rfl) S1.out)
  clear a1 f1 S1 hB1
  generalize w1.setCell ⟨w.heap.size, 1, none⟩ (.string s1) = v1 at *
  have a2 : _ = some (Value.string s2) := (CELLS.out _ T1.out.1).1 2 _ (by rw [hA]; rfl)
  have f2 := (CELLS.out _ T1.out.1).2 2
  go_upto_region 3 with (go_at_call 83; ((with_reducible refine (C2 _).mono ?_); rintro e w2 ⟨rfl, hB2⟩; have S2 := Lib.hid (HST.out _ w2 T1.out hB2); have a2 : _ = some (Value.string s2) := (CELLS.out _ S2.out.1).1 2 _ (by rw [hA]; rfl); have f2 := (CELLS.out _ S2.out.1).2 2))
  have T2 := Lib.hid (HSET.out _ 2 (.string s2) (by rw [hA]; rfl) S2.out)
  clear a2 f2 S2 hB2
  generalize w2.setCell ⟨w.heap.size, 2, none⟩ (.string s2) = v2 at *
  have a3 : _ = some (Value.string s3) := (CELLS.out _ T2.out.1).1 4 _ (by rw [hA]; rfl)
  have f3 := (CELLS.out _ T2.out.1).2 4
  go_upto_region 4 with (go_at_call 83; ((with_reducible refine (C3 _).mono ?_); rintro e w3 ⟨rfl, hB3⟩; have S3 := Lib.hid (HST.out _ w3 T2.out hB3); have a3 : _ = some (Value.string s3) := (CELLS.out _ S3.out.1).1 4 _ (by rw [hA]; rfl); have f3 := (CELLS.out _ S3.out.1).2 4))
  have T3 := Lib.hid (HSET.out _ 4 (.string s3) (by rw [hA]; rfl) S3.out)
  clear a3 f3 S3 hB3
  generalize w3.setCell ⟨w.heap.size, 4, none⟩ (.string s3) = v3 at *
  obtain ⟨r1, ⟨c, hc, r2⟩, b3⟩ := T3.out
  have HR1 := Lib.hid r1
  have HR2 := Lib.hid r2
  have HB3 := Lib.hid b3
  have HC5 := Lib.hid hc
  have HI5 := Lib.hid (show (Tryz.prog.info? 39).map (·.size) = some A.size by rw [HI.out, hA]; rfl)
  have HAO := Lib.hid (show A.all (·.oneCell') = true by rw [hA]; exact HONE.out)
  have HSZ := Lib.hid (show c.size = A.size by rw [hc, hA]; rfl)
  clear r1 r2 b3 hc T1 T2 T3 C1 C2 C3 CELLS HST HSET HS0
  go_wp2_with (first
    | ((with_reducible show wpList _ _ _ (⟨some 15, .load _ (.tmp 1), _, _, _, _⟩ :: _) _ _); refine wpList_load_row rfl 39 _ rfl w.heap.size rfl 39 A (0, 0) _ HR1.out Tryz.underlying39 rfl HI5.out ?_)
    | ((with_reducible show wpList _ _ _ (⟨none, .store _ (.tmp 2) _, _, _, _, _⟩ :: _) _ _); refine wpList_store_row rfl 39 _ _ rfl (w.heap.size + 1) A rfl rfl 39 c HR2.out HI5.out HSZ.out HAO.out ?_))
  refine bodyPost_ret (results_cell_row rfl _ _ (w.heap.size + 1) 39 A (0, 0) _ rfl (rowC_setRow HR2.out _) Tryz.underlying39 rfl HI5.out) rfl ?_
  exact ⟨by rw [HA.out], below_setRow HB3.out (by omega) _⟩
end Go.Proofs.YtmgpofdmoaafoaaGreatDoor
