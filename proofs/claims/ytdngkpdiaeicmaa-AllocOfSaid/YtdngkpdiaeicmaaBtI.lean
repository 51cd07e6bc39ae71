/- The contract of layer 2's Run, which ranges over the iterator. -/
import Derived.Test.YtdngkpdiaeicmaaBtH
namespace Go.Proofs.Ytdngkpdiaeicmaa
open Go.RowKit Go.Shelf
attribute [local go_sem] Oper.semAt_some

theorem firstOf_le (b : Nat) : ∀ (p : List Place) (f : Nat), f ≤ b → 8000001 ≤ b → firstOf f (vals p) ≤ b
  | [], _, h, _ => h
  | x :: r, _, _, h => firstOf_le b r (x.1 + 1) (by have := x.2; omega) h

set_option maxRecDepth 100000 in
set_option maxHeartbeats 2000000 in
theorem run_none (s : ByteArray) (f n : Int) (w : World) (hn : n < 1) :
    Calls Try.prog 50 #[.string s, .int .i64 f, .int .i64 n] w fun e w' => e = .returned (.int .i64 (-1)) ∧ Below w.heap.size w w' := by
  go_enter Try.func50, Try.ntmps50
  go_wp2
  exact bodyPost_ret (v := .int .i64 (-1)) (by simp [results, Try.f50, go_sem]) rfl ⟨rfl, ((Below.refl _ _).alloc (Nat.le_refl _) _).alloc (by simp) _⟩

set_option maxRecDepth 100000 in
set_option maxHeartbeats 2000000 in
theorem run_some (s : ByteArray) (f : Int) (g m : Nat) (w : World) (hs : s.size ≤ 1000000) (hf : f ≤ 9223372036854775807) (hg : (g : Int) = max f 0) (hm1 : 1 ≤ m) (hm : (m : Int) ≤ 9223372036854775807) :
    Calls Try.prog 50 #[.string s, .int .i64 f, .int .i64 (m : Int)] w fun e w' => e = .returned (.int .i64 (runN s.data.toList g m)) ∧ Below w.heap.size w w' := by
  refine (callsIn_wide (n := 4)).1 ?_
  refine callsIn_of_wp_marks Try.func50 rfl trivial ?_ rfl
  simp only [Try.ntmps50, List.size_toArray, List.length_cons, List.length_nil, Nat.reduceAdd, Nat.reduceSub, Array.replicate_succ, Array.replicate_zero, List.push_toArray, List.append_toArray, List.nil_append, List.cons_append]
  have hmax : max f 0 = (g : Int) := hg.symm
  have hg9 : (g : Int) ≤ 9223372036854775807 := by omega
  have hd : decide ((m : Int) < 1) = false := by simp; omega
  have hl := Lib.hid (show s.data.toList.length = s.size by simp)
  clear hg hf
  gi_wp2_with (refine ⟨trivial, ?_⟩; gi_at_call 52; refine (set_from Fence.wide _ trivial rfl _ _ _).mono ?_; rintro e w' ⟨rfl, rfl⟩)
  clear hd hmax
  obtain ⟨W0, hW0⟩ : ∃ W0, w.alloc (.cells #[.int .i64 (m : Int)] 3) = W0 := ⟨_, rfl⟩
  obtain ⟨W1, hW1⟩ : ∃ W1, W0.alloc (.cells #[.int .i64 0] 3) = W1 := ⟨_, rfl⟩
  obtain ⟨W2, hW2⟩ : ∃ W2, W1.alloc (.cells #[.int .i64 (g : Int)] 3) = W2 := ⟨_, rfl⟩
  obtain ⟨W3, hW3⟩ : ∃ W3, W2.alloc (.cells #[.string s] 9) = W3 := ⟨_, rfl⟩
  obtain ⟨W4, hW4⟩ : ∃ W4, W3.alloc (.cells #[.int .i64 (g : Int)] 3) = W4 := ⟨_, rfl⟩
  have z0 : W0.heap.size = w.heap.size + 1 := by rw [← hW0]; simp
  have z1 : W1.heap.size = w.heap.size + 1 + 1 := by rw [← hW1, World.size_alloc, z0]
  have z2 : W2.heap.size = w.heap.size + 1 + 1 + 1 := by rw [← hW2, World.size_alloc, z1]
  have z3 : W3.heap.size = w.heap.size + 1 + 1 + 1 + 1 := by rw [← hW3, World.size_alloc, z2]
  have z4 : W4.heap.size = w.heap.size + 1 + 1 + 1 + 1 + 1 := by rw [← hW4, World.size_alloc, z3]
  have c0 := cell_new_l w (.int .i64 (m : Int)) 3
  have c1 := cell_new_l W0 (.int .i64 0) 3
  have c2 := cell_new_l W1 (.int .i64 (g : Int)) 3
  have c3 := cell_new_l W2 (.string s) 9
  have c4 := cell_new_l W3 (.int .i64 (g : Int)) 3
  rw [hW0] at c0
  rw [hW1, z0] at c1
  rw [hW2, z1] at c2
  rw [hW3, z2] at c3
  rw [hW4, z3] at c4
  have up1 : ∀ a v, W0.cell? a = some v → W1.cell? a = some v ∧ W1.frozen? a = W0.frozen? a := fun a v h => by
    rw [← hW1]; exact ⟨cell_alloc_l _ h, frozen_kept h (World.grownBy_alloc W0 _ none) (fun r e => by cases e)⟩
  have up2 : ∀ a v, W1.cell? a = some v → W2.cell? a = some v ∧ W2.frozen? a = W1.frozen? a := fun a v h => by
    rw [← hW2]; exact ⟨cell_alloc_l _ h, frozen_kept h (World.grownBy_alloc W1 _ none) (fun r e => by cases e)⟩
  have up3 : ∀ a v, W2.cell? a = some v → W3.cell? a = some v ∧ W3.frozen? a = W2.frozen? a := fun a v h => by
    rw [← hW3]; exact ⟨cell_alloc_l _ h, frozen_kept h (World.grownBy_alloc W2 _ none) (fun r e => by cases e)⟩
  have up4 : ∀ a v, W3.cell? a = some v → W4.cell? a = some v ∧ W4.frozen? a = W3.frozen? a := fun a v h => by
    rw [← hW4]; exact ⟨cell_alloc_l _ h, frozen_kept h (World.grownBy_alloc W3 _ none) (fun r e => by cases e)⟩
  have d0 : W4.cell? ⟨w.heap.size, 0, none⟩ = some (.int .i64 (m : Int)) := (up4 _ _ (up3 _ _ (up2 _ _ (up1 _ _ c0.1).1).1).1).1
  have d1 : W4.cell? ⟨w.heap.size + 1, 0, none⟩ = some (.int .i64 0) := (up4 _ _ (up3 _ _ (up2 _ _ c1.1).1).1).1
  have d1f : W4.frozen? ⟨w.heap.size + 1, 0, none⟩ = false := by
    rw [(up4 _ _ (up3 _ _ (up2 _ _ c1.1).1).1).2, (up3 _ _ (up2 _ _ c1.1).1).2, (up2 _ _ c1.1).2]; exact c1.2
  have d2 : W4.cell? ⟨w.heap.size + 1 + 1, 0, none⟩ = some (.int .i64 (g : Int)) := (up4 _ _ (up3 _ _ c2.1).1).1
  have d2f : W4.frozen? ⟨w.heap.size + 1 + 1, 0, none⟩ = false := by
    rw [(up4 _ _ (up3 _ _ c2.1).1).2, (up3 _ _ c2.1).2]; exact c2.2
  have d3 : W4.cell? ⟨w.heap.size + 1 + 1 + 1, 0, none⟩ = some (.string s) := (up4 _ _ c3.1).1
  have hB0 : Below w.heap.size w W4 := by
    rw [← hW4, ← hW3, ← hW2, ← hW1, ← hW0]
    exact (((((Below.refl _ w).alloc (Nat.le_refl _) _).alloc (by simp) _).alloc (by simp; omega) _).alloc (by simp; omega) _).alloc (by simp; omega) _
  rw [hW0, hW1, hW2, hW3, hW4]
  clear up1 up2 up3 up4 c0 c1 c2 c3 hW0 hW1 hW2 hW3 hW4 z0 z1 z2 z3
  refine wpIn_rangeFunc_ownF rfl (by omega) (gf := 60) (lb := #[.pointer (some ⟨w.heap.size + 1 + 1 + 1 + 1, 0, none⟩), .pointer (some ⟨w.heap.size + 1 + 1 + 1, 0, none⟩)]) rfl trivial (enters_of Try.func60 (by kernel_rfl) rfl)
    (iter_stops 3 (by omega) (w.heap.size + 1 + 1 + 1 + 1) (w.heap.size + 1 + 1 + 1) s g hs hg9 _ (by omega) (by omega) c4.1 d3) (fun h h' => h.trans h') (fun W l o o' _ h hc _ => KeepsAt.put _ W l o o' h hc) (Below.refl _ _) (fun _ => rfl)
    (fun pre W => (gapsOk m g (vals pre) ∧ W.cell? ⟨w.heap.size, 0, none⟩ = some (.int .i64 (m : Int)) ∧ (∃ r, W.cell? ⟨w.heap.size + 1, 0, none⟩ = some r ∧ W.frozen? ⟨w.heap.size + 1, 0, none⟩ = false) ∧ W.cell? ⟨w.heap.size + 1 + 1, 0, none⟩ = some (.int .i64 (firstOf g (vals pre) : Int)) ∧ W.frozen? ⟨w.heap.size + 1 + 1, 0, none⟩ = false) ∧ Below w.heap.size w W)
    (fun c pre W => (c = .ret ∧ ∃ q x, pre = q ++ [x] ∧ gapsOk m g (vals q) ∧ (m : Int) ≤ (x.1 : Int) - firstOf g (vals q) ∧ W.cell? ⟨w.heap.size + 1, 0, none⟩ = some (.int .i64 (firstOf g (vals q) : Int))) ∧ Below w.heap.size w W)
    (OwnFrom.and (Own.from (fun s A B row hs hg hr => ⟨hs.1, cell_kept hs.2.1 hg hr, (let ⟨r, h1, h2⟩ := hs.2.2.1; ⟨r, cell_kept h1 hg hr, (frozen_kept h1 hg hr).trans h2⟩), cell_kept hs.2.2.2.1 hg hr, (frozen_kept hs.2.2.2.1 hg hr).trans hs.2.2.2.2⟩) _) (ownFrom_below (Nat.le_refl _) (by omega)))
    (fun c => OwnFrom.and (Own.from (fun s A B row hs hg hr => ⟨hs.1, (let ⟨q, x, h1, h2, h3, h4⟩ := hs.2; ⟨q, x, h1, h2, h3, cell_kept h4 hg hr⟩)⟩) _) (ownFrom_below (Nat.le_refl _) (by omega)))
    ⟨⟨trivial, d0, ⟨_, d1, d1f⟩, d2, d2f⟩, hB0⟩
    (fun x => { tmps := #[.string s, .int .i64 f, .int .i64 (m : Int), undef, undef, .pointer (some ⟨w.heap.size, 0, none⟩), .pointer (some ⟨w.heap.size + 1, 0, none⟩), .pointer (some ⟨w.heap.size + 1 + 1, 0, none⟩), .int .i64 (x.1 : Int), .int .i64 (m : Int), .bool false, .int .i64 f, .int .i64 (g : Int), .string s, .int .i64 (g : Int), .func (.func 60) #[] #[.pointer (some ⟨w.heap.size + 1 + 1 + 1 + 1, 0, none⟩), .pointer (some ⟨w.heap.size + 1 + 1 + 1, 0, none⟩)], .int .i64 (x.1 : Int), undef, undef, undef, undef, undef, undef, undef, undef, undef, undef, undef, undef, undef, undef, undef, undef], defers := [] }) ?assign ?body ?done ?stop
  case assign =>
    intro l x W K hK
    gi_wp2
    simpa using hK
  case body =>
    rintro l pre x W ⟨⟨hgp, hcm, ⟨r, hcr, hfr⟩, hcf, hff⟩, hB⟩ _
    clear d0 d1 d1f d2 d2f d3 c4 hB0 z4
    have hfl := firstOf_le (max g 8000001) pre g (by omega) (by omega)
    have hx := x.2
    have hsnoc := Lib.hid (gapsOk_snoc m x.1 g (vals pre) hgp)
    have hfs := Lib.hid (firstOf_snoc g x.1 (vals pre))
    rw [← vals_snoc] at hsnoc hfs
    have Hgp := Lib.hid hgp
    clear hgp
    obtain ⟨y, hy⟩ : ∃ y : Nat, y = x.1 := ⟨_, rfl⟩
    obtain ⟨t, ht⟩ : ∃ t : Nat, t = firstOf g (vals pre) := ⟨_, rfl⟩
    rw [← ht, ← hy] at hsnoc
    rw [← hy] at hx hfs ⊢
    rw [← ht] at hfl hcf
    have Hy := Lib.hid hy
    have Ht := Lib.hid ht
    clear hy ht
    by_cases hge : (m : Int) ≤ (y : Int) - t
    · gi_wp2
      exact ⟨KeepsOthers.setCell _ _ _, ⟨rfl, pre, x, rfl, Hgp.out, by rw [← Ht.out, ← Hy.out]; exact hge, by rw [← Ht.out]; exact World.cell?_setCell_same' _ _ _ (by rw [hcr]; rfl)⟩, hB.setCell (p := ⟨w.heap.size + 1, 0, none⟩) (by simp) _⟩
    · gi_wp2
      have n0 : (⟨w.heap.size + 1 + 1, 0, none⟩ : Addr) ≠ ⟨w.heap.size, 0, none⟩ := by simp
      have n1 : (⟨w.heap.size + 1 + 1, 0, none⟩ : Addr) ≠ ⟨w.heap.size + 1, 0, none⟩ := by simp
      refine ⟨KeepsOthers.setCell _ _ _, KeepsAt.setCell (by simp) _, ⟨hsnoc.out (by omega), (World.cell?_setCell_other _ _ _ _ n0).trans hcm, ⟨⟨r, (World.cell?_setCell_other _ _ _ _ n1).trans hcr⟩, by rw [World.frozen?_setCell]; exact hfr⟩, ?_, by rw [World.frozen?_setCell]; exact hff⟩, hB.setCell (p := ⟨w.heap.size + 1 + 1, 0, none⟩) (by simp; omega) _⟩
      rw [hfs.out]
      exact World.cell?_setCell_same' _ _ _ (by rw [hcf]; rfl)
  case done =>
    rintro D ys W hD hys ⟨⟨hgp, hcm, ⟨r, hcr, hfr⟩, hcf, hff⟩, hB⟩ hK
    clear d0 d1 d1f d2 d2f d3 c4 hB0
    have hfl := firstOf_le (max g 8000001) ys g (by omega) (by omega)
    rw [hys] at hgp hcf hfl
    have hres := runN_eq (run_behind hgp)
    rw [hl.out] at hres
    have n1 : (⟨w.heap.size + 1, 0, none⟩ : Addr) ≠ ⟨w.heap.size + 1 + 1, 0, none⟩ := by simp
    obtain ⟨t, ht⟩ : ∃ t : Nat, t = firstOf g (places s.data.toList g) := ⟨_, rfl⟩
    rw [← ht] at hres hcf hfl
    clear ht hgp hys
    by_cases hge : (m : Int) ≤ 8 * (s.size : Int) - t
    · rw [if_pos hge] at hres
      have Hres := Lib.hid hres
      clear hres
      gi_wp2
      have hK' := (KeepsOthers.setCell W ⟨w.heap.size + 1, 0, none⟩ (.int .i64 (t : Int))).same D _ hK rfl
      refine ⟨by simp, .inl ⟨_, _, rfl, run_takeDeferred hK', ?_⟩⟩
      have hc5 := cell_kept (World.cell?_setCell_same' W ⟨w.heap.size + 1, 0, none⟩ (.int .i64 (t : Int)) (by rw [hcr]; rfl)) (grownBy_putObj' _ D (.deferred none)) (fun r e => by cases e; exact ⟨_, hK', rfl⟩)
      refine ⟨.int .i64 (t : Int), ?_, by rw [Hres.out], (hB.setCell (p := ⟨w.heap.size + 1, 0, none⟩) (by simp) _).trans (belowK_b (w := w) (Nat.le_refl _) _ D _ _ (by omega) hK' rfl rfl)⟩
      simp [results, Try.f50, go_sem, hc5]
    · rw [if_neg hge] at hres
      have Hres := Lib.hid hres
      clear hres
      gi_wp2
      have hK' := (KeepsOthers.setCell W ⟨w.heap.size + 1, 0, none⟩ (.int .i64 (-1))).same D _ hK rfl
      refine ⟨by simp, .inl ⟨_, _, rfl, run_takeDeferred hK', ?_⟩⟩
      have hc5 := cell_kept (World.cell?_setCell_same' W ⟨w.heap.size + 1, 0, none⟩ (.int .i64 (-1)) (by rw [hcr]; rfl)) (grownBy_putObj' _ D (.deferred none)) (fun r e => by cases e; exact ⟨_, hK', rfl⟩)
      refine ⟨.int .i64 (-1), ?_, by rw [Hres.out], (hB.setCell (p := ⟨w.heap.size + 1, 0, none⟩) (by simp) _).trans (belowK_b (w := w) (Nat.le_refl _) _ D _ _ (by omega) hK' rfl rfl)⟩
      simp [results, Try.f50, go_sem, hc5]
  case stop =>
    rintro D c pre W hD hpre ⟨⟨rfl, q, x, rfl, hgq, hge, hcr⟩, hB⟩ hK
    clear d0 d1 d1f d2 d2f d3 c4 hB0
    rw [vals_snoc] at hpre
    have hres := runN_eq (run_ahead hpre hgq hge)
    obtain ⟨t, ht⟩ : ∃ t : Nat, t = firstOf g (vals q) := ⟨_, rfl⟩
    rw [← ht] at hres hcr
    have Hres := Lib.hid hres
    clear ht hgq hge hpre hres
    gi_wp2
    refine ⟨by simp, .inl ⟨_, _, rfl, run_takeDeferred hK, ?_⟩⟩
    have hc5 := cell_kept hcr (grownBy_putObj' _ D (.deferred none)) (fun r e => by cases e; exact ⟨_, hK, rfl⟩)
    refine ⟨.int .i64 (t : Int), ?_, by rw [Hres.out], hB.trans (belowK_b (w := w) (Nat.le_refl _) W D _ _ (by omega) hK rfl rfl)⟩
    simp [results, Try.f50, go_sem, hc5]

theorem run_any (s : ByteArray) (f n : Int) (w : World) (hs : s.size ≤ 1000000) (hf : f ≤ 9223372036854775807) (hn : n ≤ 9223372036854775807) :
    Calls Try.prog 50 #[.string s, .int .i64 f, .int .i64 n] w fun e w' => e = .returned (.int .i64 (runV s f n)) ∧ Below w.heap.size w w' := by
  unfold runV
  by_cases h : n < 1
  · rw [if_pos h]; exact run_none s f n w h
  · rw [if_neg h]
    obtain ⟨m, rfl⟩ : ∃ m : Nat, n = m := ⟨n.toNat, by omega⟩
    rw [Int.toNat_natCast]
    exact run_some s f f.toNat m w hs hf (by omega) (by omega) hn
end Go.Proofs.Ytdngkpdiaeicmaa
