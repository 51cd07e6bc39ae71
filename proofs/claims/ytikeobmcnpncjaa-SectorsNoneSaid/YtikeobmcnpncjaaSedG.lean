/- Layer 6: a disk that is none. -/
import Derived.Test.YtikeobmcnpncjaaSecZ
namespace Go.Proofs.Ytikeobmcnpncjaa
open Go.RowKit Go.Shelf
attribute [local go_sem] Oper.semAt_some

/-- nil, or a disk that New did not make. -/
def NoDisk (w : World) (v : Value) : Prop := v = .pointer none ∨ ∃ b, v = .pointer (some ⟨b, 0, none⟩) ∧ w.cell? ⟨b, 0, none⟩ = some (.pointer none)
theorem NoDisk.below {w w' : World} {v : Value} (h : NoDisk w v) (hb : Below w.heap.size w w') : NoDisk w' v := by
  rcases h with h | ⟨b, h1, h2⟩
  · exact .inl h
  · exact .inr ⟨b, h1, (hb.cell (p := ⟨b, 0, none⟩) (World.block_lt_of_cell? w _ h2)).trans h2⟩
set_option maxHeartbeats 400000 in
theorem nd_none {w : World} {v : Value} (h : NoDisk w v) : Calls Try.prog 40 #[v] w fun e w' => e = .returned (.bool true) ∧ w = w' := by
  rcases h with rfl | ⟨b, rfl, hc⟩
  all_goals
    go_enter Try.func40, Try.ntmps40
    go_wp2
    go_ret
    exact ⟨rfl, rfl⟩
set_option maxHeartbeats 400000 in
theorem nd_refusal {w : World} {v : Value} (h : NoDisk w v) : Calls Try.prog 32 #[v] w fun e w' => e = .returned (.int .i64 1) ∧ w = w' := by
  have CN := nd_none h
  clear h
  go_enter Try.func32, Try.ntmps32
  go_wp2_with (go_at_call 40; ((with_reducible refine (CN).mono ?_); rintro e w1 ⟨rfl, rfl⟩))
  go_ret
  exact ⟨rfl, rfl⟩
set_option maxHeartbeats 400000 in
theorem nd_size {w : World} {v : Value} (h : NoDisk w v) : Calls Try.prog 19 #[v] w fun e w' => e = .returned (.int .i64 0) ∧ w = w' := by
  have CN := nd_none h
  clear h
  go_enter Try.func19, Try.ntmps19
  go_wp2_with (go_at_call 40; ((with_reducible refine (CN).mono ?_); rintro e w1 ⟨rfl, rfl⟩))
  go_ret
  exact ⟨rfl, rfl⟩
set_option maxHeartbeats 400000 in
theorem nd_loose {w : World} {v : Value} (h : NoDisk w v) : Calls Try.prog 20 #[v] w fun e w' => e = .returned (.int .i64 0) ∧ w = w' := by
  have CN := nd_none h
  clear h
  go_enter Try.func20, Try.ntmps20
  go_wp2_with (go_at_call 40; ((with_reducible refine (CN).mono ?_); rintro e w1 ⟨rfl, rfl⟩))
  go_ret
  exact ⟨rfl, rfl⟩
set_option maxHeartbeats 400000 in
theorem nd_up {w : World} {v : Value} (h : NoDisk w v) : Calls Try.prog 21 #[v] w fun e w' => e = .returned (.bool false) ∧ w = w' := by
  have CN := nd_none h
  clear h
  go_enter Try.func21, Try.ntmps21
  go_wp2_with (go_at_call 40; ((with_reducible refine (CN).mono ?_); rintro e w1 ⟨rfl, rfl⟩))
  go_ret
  exact ⟨rfl, rfl⟩
set_option maxHeartbeats 400000 in
theorem nd_starts {w : World} {v : Value} (h : NoDisk w v) : Calls Try.prog 22 #[v] w fun e w' => e = .returned (.int .i64 0) ∧ w = w' := by
  have CN := nd_none h
  clear h
  go_enter Try.func22, Try.ntmps22
  go_wp2_with (go_at_call 40; ((with_reducible refine (CN).mono ?_); rintro e w1 ⟨rfl, rfl⟩))
  go_ret
  exact ⟨rfl, rfl⟩
set_option maxHeartbeats 400000 in
theorem nd_start {w : World} {v : Value} (h : NoDisk w v) : Calls Try.prog 17 #[v] w fun e w' => e = .returned (.int .i64 1) ∧ w = w' := by
  have CN := nd_none h
  clear h
  go_enter Try.func17, Try.ntmps17
  go_wp2_with (go_at_call 40; ((with_reducible refine (CN).mono ?_); rintro e w1 ⟨rfl, rfl⟩))
  go_ret
  exact ⟨rfl, rfl⟩
set_option maxHeartbeats 400000 in
theorem nd_write {w : World} {v : Value} (h : NoDisk w v) (n : Int) (s : ByteArray) : Calls Try.prog 14 #[v, .int .i64 n, .string s] w fun e w' => e = .returned (.int .i64 1) ∧ w = w' := by
  have CN := nd_refusal h
  clear h
  go_enter Try.func14, Try.ntmps14
  go_wp2_with (go_at_call 32; ((with_reducible refine (CN).mono ?_); rintro e w1 ⟨rfl, rfl⟩))
  go_ret
  exact ⟨rfl, rfl⟩
set_option maxHeartbeats 400000 in
theorem nd_flush {w : World} {v : Value} (h : NoDisk w v) : Calls Try.prog 15 #[v] w fun e w' => e = .returned (.int .i64 1) ∧ w = w' := by
  have CN := nd_refusal h
  clear h
  go_enter Try.func15, Try.ntmps15
  go_wp2_with (go_at_call 32; ((with_reducible refine (CN).mono ?_); rintro e w1 ⟨rfl, rfl⟩))
  go_ret
  exact ⟨rfl, rfl⟩
set_option maxHeartbeats 400000 in
theorem nd_crash {w : World} {v : Value} (h : NoDisk w v) (x : Value) : Calls Try.prog 16 #[v, x] w fun e w' => e = .returned (.int .i64 1) ∧ w = w' := by
  have CN := nd_refusal h
  clear h
  go_enter Try.func16, Try.ntmps16
  go_wp2_with (go_at_call 32; ((with_reducible refine (CN).mono ?_); rintro e w1 ⟨rfl, rfl⟩))
  go_ret
  exact ⟨rfl, rfl⟩
set_option maxHeartbeats 400000 in
theorem nd_fail {w : World} {v : Value} (h : NoDisk w v) (n : Int) (x : Value) : Calls Try.prog 18 #[v, .int .i64 n, x] w fun e w' => e = .returned (.int .i64 1) ∧ w = w' := by
  have CN := nd_refusal h
  clear h
  go_enter Try.func18, Try.ntmps18
  go_wp2_with (go_at_call 32; ((with_reducible refine (CN).mono ?_); rintro e w1 ⟨rfl, rfl⟩))
  go_ret
  exact ⟨rfl, rfl⟩
set_option maxRecDepth 100000 in
set_option maxHeartbeats 1000000 in
theorem nd_read {w : World} {v : Value} (h : NoDisk w v) (n : Int) : Calls Try.prog 13 #[v, .int .i64 n] w fun e w' => e = .returned (.tuple #[.string ⟨#[]⟩, .int .i64 1]) ∧ Below w.heap.size w w' := by
  have b1 : Below w.heap.size w (((w.alloc (.cells #[.int .i64 n] 3)).alloc (.cells #[.string ⟨#[]⟩] 9)).alloc (.cells #[.int .i64 0] 26)) := (((Below.refl _ w).alloc (Nat.le_refl _) _).alloc (by rw [size_alloc]; omega) _).alloc (by rw [size_alloc, size_alloc]; omega) _
  have c1 := rowC_alloc (rowC_new (w.alloc (.cells #[.int .i64 n] 3)) #[.string ⟨#[]⟩] 9) (.cells #[.int .i64 0] 26)
  have c2 := rowC_new ((w.alloc (.cells #[.int .i64 n] 3)).alloc (.cells #[.string ⟨#[]⟩] 9)) #[.int .i64 0] 26
  rw [size_alloc] at c1
  rw [size_alloc, size_alloc] at c2
  have HCR := Lib.hid (nd_refusal (h.below b1))
  have HB := Lib.hid b1
  have H1 := Lib.hid (show _ ∧ _ from ⟨rowC_cell c1 0, rowC_free c1 0⟩)
  have H2 := Lib.hid (show _ ∧ _ from ⟨rowC_cell c2 0, rowC_free c2 0⟩)
  clear h b1 c1 c2
  refine (callsIn_wide (n := 4)).1 ?_
  refine callsIn_of_wp_marks Try.func13 rfl trivial ?_ rfl
  simp only [Try.ntmps13, List.size_toArray, List.length_cons, List.length_nil, Nat.reduceAdd, Nat.reduceSub, Array.replicate_succ, Array.replicate_zero, List.push_toArray, List.append_toArray, List.nil_append, List.cons_append]
  gi_wp2_with (refine ⟨trivial, ?_⟩; gi_at_call 32; refine (callsIn_wide.2 (HCR.out)).mono ?_; generalize ((w.alloc (.cells #[.int .i64 n] 3)).alloc (.cells #[.string ⟨#[]⟩] 9)).alloc (.cells #[.int .i64 0] 26) = w3 at *; rintro e w' ⟨rfl, rfl⟩; have cs := H1.out.1; have fs := H1.out.2; have ce := H2.out.1; have fe := H2.out.2)
  have HX := Lib.hid (box_two H1.out.1 H2.out.1 ⟨#[]⟩ 1 (by simp))
  have h4 := HX.out.1
  have h5 := HX.out.2
  refine ⟨.tuple #[.string ⟨#[]⟩, .int .i64 1], ?_, rfl, (HB.out.setCell (p := ⟨w.heap.size + 1, 0, none⟩) (by simp) _).setCell (p := ⟨w.heap.size + 1 + 1, 0, none⟩) (by simp; omega) _⟩
  simp [results, Try.f13, go_sem, h4, h5]
end Go.Proofs.Ytikeobmcnpncjaa
