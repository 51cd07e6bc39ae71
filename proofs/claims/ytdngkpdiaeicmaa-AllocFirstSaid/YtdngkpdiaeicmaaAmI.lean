/- Layer 8: the program's map: blocks that stand together; a class of worlds; what is set one by one. -/
import Derived.Test.YtdngkpdiaeicmaaAmH
namespace Go.Proofs.Ytdngkpdiaeicmaa
open Go.RowKit Go.Shelf

theorem owns_one (w : World) (f c : Int) : (w.alloc (.cells #[.int .i64 f, .int .i64 c] 41)).ownsRow w.heap.size 41 2 (.slice (some ⟨w.heap.size, 0, none⟩) 1 1) 1 (extV [(f, c)]) :=
  ⟨by simp [extV], .inr ⟨_, 1, _, rfl, Nat.le_refl _, heap_alloc_new w _, Nat.le_refl _, by unfold maxLen; omega, by simp, by simp [extV]⟩⟩
/-- The blocks that stand together, as extents. -/
def togL (L : List Bool) (m : Nat) : List (Nat × Nat) := match firstL L m with | some i => [(i, m)] | none => []
set_option maxHeartbeats 1000000 in
theorem together_any {w : World} {q r : Nat} {L : List Bool} (h : ImpM w q r L) (m : Nat) (h1 : 1 ≤ m) (hm : m ≤ 4096) :
    Calls Try.prog 34 #[.pointer (some ⟨r, 0, none⟩), .int .i64 (m : Int)] w fun e w' => ∃ v, e = .returned v ∧ OwnsE w' w.heap.size v (togL L m) ∧ Below w.heap.size w w' := by
  have CR := run_any (str (packL L)) 0 m w (pack_le h.hi) (by omega) (by omega)
  unfold runV at CR
  rw [if_neg (by omega), str_toList, Int.toNat_natCast, show (0 : Int).toNat = 0 from rfl] at CR
  have c1 := h.cell.2.2
  have HI := Lib.hid h
  have hL4 := h.hi
  cases hf : firstL L m with
  | some i =>
    have hr := pack_run_some h1 hf
    obtain ⟨f1, f2, f3⟩ := first_in hf
    have f4 : i + m ≤ L.length := by rcases run_le L i with e | e <;> omega
    rw [hr] at CR
    have HT := Lib.hid (show togL L m = [(i, m)] by unfold togL; rw [hf])
    obtain ⟨N, hN⟩ : ∃ N, N = L.length := ⟨_, rfl⟩
    rw [← hN] at f4 hL4
    have HN := Lib.hid hN
    have g1 : ¬ (i : Int) < 0 := by omega
    have g2 : ¬ (N : Int) < (i : Int) + (m : Int) := by omega
    clear h hf hr f1 f2 f3 hN
    go_enter Try.func34, Try.ntmps34
    go_wp2_with (go_at_call 50; ((with_reducible refine (CR).mono ?_); rintro e w2 ⟨rfl, b2⟩); have I2 := Lib.hid (HI.out.below b2); have c02 := I2.out.cell.2.1; rw [← HN.out] at c02; have B2 := Lib.hid b2; clear b2 c1)
    go_ret
    refine ⟨_, rfl, ?_, B2.out.alloc B2.out.size _⟩
    rw [HT.out]
    have h5 := owns_one w2 i m
    exact owns_up (base := w2.heap.size) (by rw [← show toI [(i, m)] = [((i : Int), (m : Int))] from rfl] at h5; exact h5) B2.out.size
  | none =>
    have hr := pack_run_none (L := L) h1 hf
    have HT := Lib.hid (show togL L m = [] by unfold togL; rw [hf])
    obtain ⟨N, hN⟩ : ∃ N, N = L.length := ⟨_, rfl⟩
    rw [← hN] at hr hL4
    have HN := Lib.hid hN
    have hle : runN (packL L) 0 m ≤ 8000 := by
      rcases runN_is (packL L) 0 m with ⟨p, hp, _, h3, _⟩ | ⟨hp, _⟩
      · have h4 := packL_length L
        omega
      · omega
    generalize runN (packL L) 0 m = x at *
    by_cases hx : x < 0
    · have hx1 : x = -1 := by omega
      subst hx1
      clear h hf hr hN
      go_enter Try.func34, Try.ntmps34
      go_wp2_with (go_at_call 50; ((with_reducible refine (CR).mono ?_); rintro e w2 ⟨rfl, b2⟩); have I2 := Lib.hid (HI.out.below b2); have c02 := I2.out.cell.2.1; rw [← HN.out] at c02; have B2 := Lib.hid b2; clear b2 c1)
      go_ret
      exact ⟨_, rfl, by rw [HT.out]; exact OwnsE.nil _ _, B2.out⟩
    · obtain ⟨i, rfl⟩ : ∃ i : Nat, x = i := ⟨x.toNat, by omega⟩
      have g2 : (N : Int) < (i : Int) + (m : Int) := by omega
      clear h hf hr hN
      go_enter Try.func34, Try.ntmps34
      go_wp2_with (go_at_call 50; ((with_reducible refine (CR).mono ?_); rintro e w2 ⟨rfl, b2⟩); have I2 := Lib.hid (HI.out.below b2); have c02 := I2.out.cell.2.1; rw [← HN.out] at c02; have B2 := Lib.hid b2; clear b2 c1)
      go_ret
      exact ⟨_, rfl, by rw [HT.out]; exact OwnsE.nil _ _, B2.out⟩
/-- Worlds that have no more than new blocks. -/
structure After (w : World) where
  v : World
  h : Below w.heap.size w v
instance (w : World) : Nonempty (After w) := ⟨⟨w, Below.refl _ _⟩⟩
/-- Blocks, set one by one. -/
def setAll (L : List Bool) (l : List Int) : List Bool := l.foldl (fun M y => M.set y.toNat true) L
theorem setAll_append (L : List Bool) (a b : List Int) : setAll L (a ++ b) = setAll (setAll L a) b := by simp [setAll]
theorem setAll_length (l : List Int) : ∀ L : List Bool, (setAll L l).length = L.length := by
  induction l with
  | nil => intro L; rfl
  | cons y r ih =>
    intro L
    show (setAll (L.set y.toNat true) r).length = _
    rw [ih, List.length_set]
theorem setAll_first (L : List Bool) (f : Nat) : ∀ k, f + k ≤ 9223372036854775807 → setAll L (firstB f k) = markN L f true k
  | 0, _ => rfl
  | k + 1, h => by
    have e : firstB f (k + 1) = firstB f k ++ [((f + k : Nat) : Int)] := by
      unfold firstB
      rw [List.range_succ, List.map_append, List.map_singleton, wrap64_id (by omega)]
      rfl
    rw [e, setAll_append, setAll_first L f k (by omega)]
    rfl
theorem blkX_nat (f c : Nat) : blkX ((f : Int), (c : Int)) 0 = firstB f c := by
  unfold blkX firstB
  rw [List.range_eq_range']
  rfl
theorem setAll_mark : ∀ (l : List (Nat × Nat)) (L : List Bool), (∀ x ∈ l, x.1 + x.2 ≤ 4096) → setAll L (blkL (toI l)) = markL L l true
  | [], _, _ => rfl
  | x :: r, L, h => by
    show setAll L (blkX ((x.1 : Int), (x.2 : Int)) 0 ++ blkL (toI r)) = markL (markN L x.1 true x.2) r true
    have hx := h x (List.mem_cons_self ..)
    rw [setAll_append, blkX_nat, setAll_first _ _ _ (by omega), setAll_mark r _ (fun y hy => h y (List.mem_cons_of_mem _ hy))]
theorem blk_in {l : List (Nat × Nat)} {N : Nat} (h : ∀ x ∈ l, x.1 + x.2 ≤ N) (hN : N ≤ 4096) : ∀ y ∈ blkL (toI l), 0 ≤ y ∧ y < (N : Int) := by
  intro y hy
  unfold blkL toI at hy
  obtain ⟨x, hx, hy⟩ := List.mem_flatMap.1 hy
  obtain ⟨z, hz, rfl⟩ := List.mem_map.1 hx
  have h1 := h z hz
  unfold blkX at hy
  obtain ⟨j, hj, rfl⟩ := List.mem_map.1 hy
  rw [List.mem_range'_1] at hj
  have hj2 : j < z.2 := by
    have := hj.2
    dsimp only at this
    omega
  rw [wrap64_id (by dsimp only; omega)]
  dsimp only
  omega
theorem togL_in {L : List Bool} {m : Nat} : ∀ x ∈ togL L m, x ∈ extsL L m := by
  intro x hx
  unfold togL at hx
  unfold extsL
  cases h : firstL L m with
  | none => rw [h] at hx; cases hx
  | some i => rw [h] at hx; exact hx
end Go.Proofs.Ytdngkpdiaeicmaa
