/- The contracts of layer 1's sums of lists (total, Sum, Add) and of the document's own Sum, each for every list. -/
import Derived.Test.YtckjloojbhomlaaNumsB
namespace Go.Proofs.Ytckjloojbhomlaa
open Go.RowKit

theorem retIB {k : IntKind} {a b : Int} {c d : Bool} (h : a = b) (h' : c = d) : Ending.returned (.tuple #[.int k a, .bool c]) = .returned (.tuple #[.int k b, .bool d]) := by rw [h, h']
/-- What a walk is told of a list of integers: it is empty, or its numbers stand in memory. -/
def Row (w : World) (a : Option Addr) (l : List Int) : Prop :=
  l = [] ∨ ∃ b off, a = some ⟨b, off, none⟩ ∧ ∀ k, k < l.length → w.cell? ⟨b, off + k, none⟩ = some (.int .i64 (l.getD k 0))

/-- Is the sum of a list told? Which one? -/
def SumP (l : List Int) : Prop := (∀ x ∈ l, 0 ≤ x) ∧ l.sum ≤ 4611686018427387904
instance (l : List Int) : Decidable (SumP l) := by unfold SumP; infer_instance
def sumB (l : List Int) : Bool := decide (SumP l)
def sumV (l : List Int) : Int := if SumP l then l.sum else 0
theorem sumB_yes {l : List Int} (h : SumP l) : sumB l = true := by unfold sumB; simp [h]
theorem sumB_no {l : List Int} (h : ¬ SumP l) : sumB l = false := by unfold sumB; simp [h]
theorem sumV_yes {l : List Int} (h : SumP l) : sumV l = l.sum := by unfold sumV; rw [if_pos h]
theorem sumV_no {l : List Int} (h : ¬ SumP l) : sumV l = 0 := by unfold sumV; rw [if_neg h]
theorem sum_nonneg {l : List Int} (h : ∀ x ∈ l, 0 ≤ x) : 0 ≤ l.sum := by
  induction l with
  | nil => simp
  | cons y r ih => rw [List.sum_cons]; have := h y (by simp); have := ih (fun x hx => h x (by simp [hx])); omega
theorem sumP_cons {x : Int} {l : List Int} : SumP (x :: l) ↔ SumP l ∧ 0 ≤ x ∧ x + l.sum ≤ 4611686018427387904 := by
  unfold SumP
  rw [List.sum_cons]
  constructor
  · rintro ⟨h1, h2⟩
    have h3 : ∀ y ∈ l, 0 ≤ y := fun y hy => h1 y (by simp [hy])
    have := h1 x (by simp)
    exact ⟨⟨h3, by omega⟩, this, h2⟩
  · rintro ⟨⟨h1, _⟩, h3, h4⟩
    exact ⟨fun y hy => by rcases List.mem_cons.1 hy with rfl | hy; exact h3; exact h1 y hy, h4⟩
theorem sumP_app {l r : List Int} : SumP (l ++ r) ↔ SumP l ∧ SumP r ∧ l.sum + r.sum ≤ 4611686018427387904 := by
  unfold SumP
  rw [List.sum_append]
  constructor
  · rintro ⟨h1, h2⟩
    have h3 : ∀ y ∈ l, 0 ≤ y := fun y hy => h1 y (by simp [hy])
    have h4 : ∀ y ∈ r, 0 ≤ y := fun y hy => h1 y (by simp [hy])
    have := sum_nonneg h3
    have := sum_nonneg h4
    exact ⟨⟨h3, by omega⟩, ⟨h4, by omega⟩, h2⟩
  · rintro ⟨⟨h1, _⟩, ⟨h2, _⟩, h3⟩
    exact ⟨fun y hy => by rcases List.mem_append.1 hy with hy | hy; exact h1 y hy; exact h2 y hy, h3⟩
theorem take_step (l : List Int) (k : Nat) (h : k < l.length) : l.take (k + 1) = l.take k ++ [l.getD k 0] := by
  rw [List.take_add_one, List.getElem?_eq_getElem h]
  simp [List.getD, List.getElem?_eq_getElem h]
theorem sumP_take {l : List Int} (k : Nat) (h : SumP l) : SumP (l.take k) := by
  have e := List.take_append_drop k l
  rw [← e] at h
  exact (sumP_app.1 h).1
theorem sumP_step {l : List Int} {k : Nat} (hk : k < l.length) (h : SumP (l.take k)) :
    SumP (l.take (k + 1)) ↔ 0 ≤ l.getD k 0 ∧ (l.take k).sum + l.getD k 0 ≤ 4611686018427387904 := by
  rw [take_step l k hk, sumP_app]
  have := sum_nonneg h.1
  constructor
  · rintro ⟨_, h2, h3⟩
    have := h2.1 (l.getD k 0) (by simp)
    simp at h3
    exact ⟨this, by simpa using h3⟩
  · rintro ⟨h1, h2⟩
    exact ⟨h, ⟨by simpa using h1, by simp; simp at h2; omega⟩, by simpa using h2⟩
theorem sum_step {l : List Int} {k : Nat} (hk : k < l.length) : (l.take (k + 1)).sum = (l.take k).sum + l.getD k 0 := by
  rw [take_step l k hk, List.sum_append]; simp

set_option maxHeartbeats 400000 in
theorem total_row (a : Option Addr) (cap : Nat) (l : List Int) (w : World) (hr : Row w a l) (hbig : l.length ≤ 9223372036854775807) :
    Calls Try.prog 21 #[.slice a l.length cap] w fun e w' => e = .returned (.tuple #[.int .i64 (sumV l), .bool (sumB l)]) ∧ w = w' := by
  obtain ⟨len, hlen⟩ : ∃ n, n = l.length := ⟨_, rfl⟩
  rw [← hlen] at hbig ⊢
  have hlen' := Lib.hid hlen
  clear hlen
  go_enter Try.func21, Try.ntmps21
  go_wp2
  go_loop [2, 8] (fun n i => ∃ k : Nat, k ≤ len ∧ SumP (l.take k) ∧ i = .int .i64 k ∧ n = .int .i64 (l.take k).sum) (fun _ i => len - (intOf i).toNat)
  case atStart => exact ⟨0, Nat.zero_le _, ⟨by simp, by simp⟩, rfl, rfl⟩
  case round =>
    obtain ⟨k, hk, hP, rfl, rfl⟩ := hrel
    by_cases hlt : k < len
    · have hlt' : k < l.length := by rw [← hlen'.out]; exact hlt
      obtain ⟨b, off, rfl, hc⟩ : ∃ b off, a = some ⟨b, off, none⟩ ∧ ∀ k, k < l.length → w.cell? ⟨b, off + k, none⟩ = some (.int .i64 (l.getD k 0)) := by
        rcases hr with h | h
        · rw [h] at hlt'; simp at hlt'
        · exact h
      have hst := Lib.hid (sumP_step hlt' hP)
      have hsu := Lib.hid (sum_step hlt')
      have hs0 := sum_nonneg hP.1
      have hs1 := hP.2
      have hck := hc k hlt'
      clear hc hr
      obtain ⟨s, hs⟩ : ∃ s, s = (l.take k).sum := ⟨_, rfl⟩
      obtain ⟨x, hx⟩ : ∃ x, x = l.getD k 0 := ⟨_, rfl⟩
      rw [← hs] at hst hsu hs0 hs1 ⊢
      rw [← hx] at hst hsu hck
      clear hs
      have hx' := Lib.hid hx
      clear hx
      by_cases hw : inB x = true
      · obtain ⟨x0, x1⟩ := (inB_iff x).1 hw
        by_cases hle : x ≤ 4611686018427387904 - s
        · have hP' := Lib.hid (hst.out.2 ⟨x0, by omega⟩)
          have hn : ¬ 4611686018427387904 - s < x := by omega
          clear hP hst
          go_wp2_with (go_at_call 23; ((with_reducible refine (within_any _ _).mono ?_); rintro e w' ⟨rfl, rfl⟩))
          go_round
          case rel => exact ⟨k + 1, by omega, hP'.out, by go_num, by rw [hsu.out]⟩
          case measure => simp [intOf]; omega
        · have hP' : ¬ SumP l := fun h => by have := hst.out.1 (sumP_take _ h); omega
          have hQ := Lib.hid hP'
          have hn : 4611686018427387904 - s < x := by omega
          clear hP hst hP'
          go_wp2_with (go_at_call 23; ((with_reducible refine (within_any _ _).mono ?_); rintro e w' ⟨rfl, rfl⟩))
          go_ret2
          exact ⟨retIB (sumV_no hQ.out).symm (sumB_no hQ.out).symm, rfl⟩
      · have hP' : ¬ SumP l := fun h => by have := hst.out.1 (sumP_take _ h); exact hw ((inB_iff x).2 ⟨by omega, by omega⟩)
        have hQ := Lib.hid hP'
        have hw' : inB x = false := by simpa using hw
        clear hP hst hP' hw
        go_wp2_with (go_at_call 23; ((with_reducible refine (within_any _ _).mono ?_); rintro e w' ⟨rfl, rfl⟩))
        go_ret2
        exact ⟨retIB (sumV_no hQ.out).symm (sumB_no hQ.out).symm, rfl⟩
    · have e : l.take k = l := List.take_of_length_le (by rw [← hlen'.out]; omega)
      have e' := Lib.hid e
      rw [e] at hP
      have hQ := Lib.hid hP
      clear hP e hr
      go_wp2
      go_ret2
      exact ⟨retIB (by rw [e'.out, sumV_yes hQ.out]) (sumB_yes hQ.out).symm, rfl⟩

set_option maxHeartbeats 400000 in
theorem sum_row (a : Option Addr) (cap : Nat) (l : List Int) (w : World) (hr : Row w a l) (hbig : l.length ≤ 9223372036854775807) :
    Calls Try.prog 19 #[.slice a l.length cap] w fun e w' => e = .returned (.tuple #[.int .i64 (sumV l), .bool (sumB l)]) ∧ w = w' := by
  have hc := fun w (h : Row w a l) => total_row a cap l w h hbig
  obtain ⟨len, hlen⟩ : ∃ n, n = l.length := ⟨_, rfl⟩
  rw [← hlen] at hbig hc ⊢
  clear hlen
  go_enter Try.func19, Try.ntmps19
  go_wp2_with (go_at_call 21; ((with_reducible refine (hc _ hr).mono ?_); rintro e w' ⟨rfl, rfl⟩))
  go_ret2
  exact ⟨rfl, rfl⟩

/-- The list of two. -/
theorem sumP_two (a b : Int) : SumP [a, b] ↔ 0 ≤ a ∧ 0 ≤ b ∧ a + b ≤ 4611686018427387904 := by
  unfold SumP; simp [and_assoc]
theorem sumV_two (a b : Int) : sumV [a, b] = addV a b := by
  by_cases h : 0 ≤ a ∧ 0 ≤ b ∧ a + b ≤ 4611686018427387904
  · rw [addV_yes h, sumV_yes ((sumP_two a b).2 h)]; simp
  · rw [addV_no h, sumV_no (fun h' => h ((sumP_two a b).1 h'))]
theorem sumB_two (a b : Int) : sumB [a, b] = addB a b := by
  by_cases h : 0 ≤ a ∧ 0 ≤ b ∧ a + b ≤ 4611686018427387904
  · rw [addB_yes h, sumB_yes ((sumP_two a b).2 h)]
  · rw [addB_no h, sumB_no (fun h' => h ((sumP_two a b).1 h'))]

set_option maxHeartbeats 400000 in
theorem add_any (a b : Int) (w : World) :
    Calls Try.prog 7 #[.int .i64 a, .int .i64 b] w fun e w' => e = .returned (.tuple #[.int .i64 (addV a b), .bool (addB a b)]) ∧ Below w.heap.size w w' := by
  have hrow : ∀ w : World, Row (w.alloc (.cells #[.int .i64 a, .int .i64 b] 3)) (some ⟨w.heap.size, 0, none⟩) [a, b] := by
    intro w
    refine Or.inr ⟨w.heap.size, 0, rfl, fun k hk => ?_⟩
    match k, hk with
    | 0, _ => exact cell_two_new w _ _ 3 0 _ rfl
    | 1, _ => exact cell_two_new w _ _ 3 1 _ rfl
  have hc : ∀ w : World, Calls Try.prog 21 #[.slice (some ⟨w.heap.size, 0, none⟩) 2 2] (w.alloc (.cells #[.int .i64 a, .int .i64 b] 3))
      fun e w' => e = .returned (.tuple #[.int .i64 (addV a b), .bool (addB a b)]) ∧ w.alloc (.cells #[.int .i64 a, .int .i64 b] 3) = w' := by
    intro w
    rw [← sumV_two, ← sumB_two]
    exact total_row (some ⟨w.heap.size, 0, none⟩) 2 [a, b] _ (hrow w) (by simp)
  clear hrow
  go_enter Try.func7, Try.ntmps7
  go_wp2_with (go_at_call 21; ((with_reducible refine (hc _).mono ?_); rintro e w' ⟨rfl, rfl⟩))
  go_ret2
  exact ⟨rfl, (Below.refl _ _).alloc (Nat.le_refl _) _⟩

set_option maxHeartbeats 400000 in
theorem rsum_row (a : Option Addr) (cap : Nat) (l : List Int) (w : World) (hr : Row w a l) (hbig : l.length ≤ 9223372036854775807) :
    Calls Try.prog 20 #[.slice a l.length cap] w fun e w' => e = .returned (.tuple #[.int .i64 (sumV l), .bool (sumB l)]) ∧ w = w' := by
  obtain ⟨len, hlen⟩ : ∃ n, n = l.length := ⟨_, rfl⟩
  rw [← hlen] at hbig ⊢
  have hlen' := Lib.hid hlen
  clear hlen
  go_enter Try.func20, Try.ntmps20
  go_wp2
  go_loop [4, 5] (fun n i => ∃ k : Nat, k ≤ len ∧ SumP (l.take k) ∧ i = .int .i64 k ∧ n = .int .i64 (l.take k).sum) (fun _ i => len - (intOf i).toNat)
  case atStart => exact ⟨0, Nat.zero_le _, ⟨by simp, by simp⟩, rfl, rfl⟩
  case round =>
    obtain ⟨k, hk, hP, rfl, rfl⟩ := hrel
    by_cases hlt : k < len
    · have hlt' : k < l.length := by rw [← hlen'.out]; exact hlt
      obtain ⟨b, off, rfl, hc⟩ : ∃ b off, a = some ⟨b, off, none⟩ ∧ ∀ k, k < l.length → w.cell? ⟨b, off + k, none⟩ = some (.int .i64 (l.getD k 0)) := by
        rcases hr with h | h
        · rw [h] at hlt'; simp at hlt'
        · exact h
      have hst := Lib.hid (sumP_step hlt' hP)
      have hsu := Lib.hid (sum_step hlt')
      have hs0 := sum_nonneg hP.1
      have hs1 := hP.2
      have hck := hc k hlt'
      clear hc hr
      obtain ⟨s, hs⟩ : ∃ s, s = (l.take k).sum := ⟨_, rfl⟩
      obtain ⟨x, hx⟩ : ∃ x, x = l.getD k 0 := ⟨_, rfl⟩
      rw [← hs] at hst hsu hs0 hs1 ⊢
      rw [← hx] at hst hsu hck
      clear hs
      have hx' := Lib.hid hx
      clear hx
      by_cases hw : 0 ≤ s ∧ 0 ≤ x ∧ s + x ≤ 4611686018427387904
      · have hP' := Lib.hid (hst.out.2 ⟨hw.2.1, hw.2.2⟩)
        have hB := addB_yes hw
        have hV := addV_yes hw
        clear hP hst hw
        go_wp2_with (go_at_call 8; ((with_reducible refine (radd_any _ _ _).mono ?_); rintro e w' ⟨rfl, rfl⟩))
        go_round
        case rel => exact ⟨k + 1, by omega, hP'.out, by go_num, by rw [hsu.out]⟩
        case measure => simp [intOf]; omega
      · have hP' : ¬ SumP l := fun h => hw ⟨hs0, hst.out.1 (sumP_take _ h)⟩
        have hB := addB_no hw
        have hQ := Lib.hid hP'
        clear hP hst hP' hw
        go_wp2_with (go_at_call 8; ((with_reducible refine (radd_any _ _ _).mono ?_); rintro e w' ⟨rfl, rfl⟩))
        go_ret2
        exact ⟨retIB (sumV_no hQ.out).symm (sumB_no hQ.out).symm, rfl⟩
    · have e : l.take k = l := List.take_of_length_le (by rw [← hlen'.out]; omega)
      have e' := Lib.hid e
      rw [e] at hP
      have hQ := Lib.hid hP
      clear hP e hr
      go_wp2
      go_ret2
      exact ⟨retIB (by rw [e'.out, sumV_yes hQ.out]) (sumB_yes hQ.out).symm, rfl⟩

end Go.Proofs.Ytckjloojbhomlaa
