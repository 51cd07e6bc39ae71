/- Layer 8: AllocPlay, of whatever comes in; acts and extents as they come in. -/
import Derived.Test.YtdngkpdiaeicmaaAlcO
import Derived.Deep.Slices
import Derived.Deep.Fields
import Derived.ChangeSame
import Derived.OpenShut
namespace Go.Proofs.Ytdngkpdiaeicmaa
open Go.RowKit Go.ChangeShapes Go.WideShapes Go.Deep

set_option maxRecDepth 100000 in
set_option maxHeartbeats 2000000 in
theorem play_any (I : Impl) (n : Int) {x : Value} {l : List Act1} {w : World} (hn : isI n) (h : ActsAt w x l) :
    Calls Try.prog 3 #[.int .i64 n, x] w fun e w' => e = .returned (.bool true) ∧ Below w.heap.size w w' := by
  obtain ⟨ad, cap, rfl⟩ := acts_form h
  have CG : Calls Try.prog 8 #[.slice ad l.length cap, .int .i64 50] w fun e w' => e = .returned (.bool (greatB l 50)) ∧ w = w' := great_any h 50
  have CU := fun w' => took_any I w'
  cases hg : greatB l 50
  · have hc : n < 1 ∨ 4096 < n ∨ (300 < n ∧ n ≤ 4096 ∧ n % 300 = 0) ∨ (300 < n ∧ n ≤ 4096 ∧ 1 ≤ n % 300) ∨ (1 ≤ n ∧ n ≤ 300) := by have := Int.emod_nonneg n (show (300 : Int) ≠ 0 by decide); omega
    rcases hc with h1 | h1 | ⟨h1, h2, h3⟩ | ⟨h1, h2, h3⟩ | ⟨h1, h2⟩
    · have CN := I.newNo n w (.inl h1) hn
      have CR := fun w' => rnew_no n w' (.inl h1)
      rw [hg] at CG
      have d2 : decide (300 < n) = false := decide_eq_false (by omega)
      have d0 : n ≤ 300 := by omega
      clear hg h hn
      go_enter Try.func3, Try.ntmps3
      go_wp2_with (first
        | (go_at_call 8; ((with_reducible refine (CG).mono ?_); rintro e w1 ⟨rfl, rfl⟩))
        | (go_at_call 10; ((with_reducible refine (CN).mono ?_); rintro e w1 ⟨rfl, b1⟩))
        | (go_at_call 11; ((with_reducible refine (CR _).mono ?_); rintro e w2 ⟨rfl, rfl⟩))
        | (go_at_call 9; ((with_reducible refine (CU _).mono ?_); rintro e w3 ⟨rfl, b3⟩)))
      go_ret
      exact ⟨rfl, b1.trans (b3.mono b1.size)⟩
    · have CN := I.newNo n w (.inr h1) hn
      have CR := fun w' => rnew_no n w' (.inr h1)
      rw [hg] at CG
      have d2 : decide (300 < n) = true := decide_eq_true (by omega)
      have d3 : decide (n ≤ 4096) = false := decide_eq_false (by omega)
      clear hg h hn
      go_enter Try.func3, Try.ntmps3
      go_wp2_with (first
        | (go_at_call 8; ((with_reducible refine (CG).mono ?_); rintro e w1 ⟨rfl, rfl⟩))
        | (go_at_call 10; ((with_reducible refine (CN).mono ?_); rintro e w1 ⟨rfl, b1⟩))
        | (go_at_call 11; ((with_reducible refine (CR _).mono ?_); rintro e w2 ⟨rfl, rfl⟩))
        | (go_at_call 9; ((with_reducible refine (CU _).mono ?_); rintro e w3 ⟨rfl, b3⟩)))
      go_ret
      exact ⟨rfl, b1.trans (b3.mono b1.size)⟩
    · have CN := I.newNo 0 w (.inl (by decide)) (small_I (by decide))
      have CR := fun w' => rnew_no 0 w' (.inl (by decide))
      rw [hg] at CG
      have e1 : n.tmod 300 = 0 := by rw [Int.tmod_eq_emod_of_nonneg (by omega)]; exact h3
      clear hg h hn
      go_enter Try.func3, Try.ntmps3
      go_wp2_with (first
        | (go_at_call 8; ((with_reducible refine (CG).mono ?_); rintro e w1 ⟨rfl, rfl⟩))
        | (go_at_call 10; ((with_reducible refine (CN).mono ?_); rintro e w1 ⟨rfl, b1⟩))
        | (go_at_call 11; ((with_reducible refine (CR _).mono ?_); rintro e w2 ⟨rfl, rfl⟩))
        | (go_at_call 9; ((with_reducible refine (CU _).mono ?_); rintro e w3 ⟨rfl, b3⟩)))
      go_ret
      exact ⟨rfl, b1.trans (b3.mono b1.size)⟩
    · exact play_in I n (m := (n % 300).toNat) hn h hg (by omega) (by have := Int.emod_lt_of_pos n (show (0 : Int) < 300 by decide); omega) (.inl ⟨h1, h2, by omega⟩)
    · exact play_in I n (m := n.toNat) hn h hg (by omega) (by omega) (.inr ⟨h2, by omega⟩)
  · rw [hg] at CG
    clear hg h
    go_enter Try.func3, Try.ntmps3
    go_wp2_with (first
      | (go_at_call 8; ((with_reducible refine (CG).mono ?_); rintro e w1 ⟨rfl, rfl⟩))
      | (go_at_call 9; ((with_reducible refine (CU _).mono ?_); rintro e w2 ⟨rfl, b2⟩)))
    go_ret
    exact ⟨rfl, b2⟩
section
variable {H : Type} {enc : TypeId × Value → H} {W : World} {base : Nat} {sp : Nat → Bool} {held : Bool}
theorem bounds_i64 {n : Int} (h : (Lit.int .i64 n).wf = true) : isI n := by
  simp [Lit.wf, IntKind.min, IntKind.max, IntKind.signed, IntKind.bits] at h
  unfold isI
  omega
theorem byte_of {n : Int} (h : (Lit.int .u8 n).wf = true) : ∃ b : Nat, n = b ∧ b < 256 := by
  have hb : 0 ≤ n ∧ n ≤ 255 := by
    simp [Lit.wf, IntKind.min, IntKind.max, IntKind.signed, IntKind.bits] at h
    omega
  exact ⟨n.toNat, by omega, by omega⟩
theorem add_pos (a : Addr) (j : Nat) (h : j ≠ 0) : a.add j = ⟨a.block, a.off + j, none⟩ := by unfold Addr.add; rw [if_neg h]
/-- An extent, of its two cells. -/
theorem open_extent {fuel : Nat} {cs : List Value} {x : DataW H × List MemPlace} (h : DataW.trod enc Try.prog W base sp held fuel 41 cs = some x) :
    ∃ f c : Int, cs = [.int .i64 f, .int .i64 c] ∧ isI f ∧ isI c := by
  obtain ⟨xs, n, _, _, hlen, _, hf⟩ := DataW.trod_struct Try.underlying41 h
  have hc : Try.prog.cellsOf 41 = 2 := by kernel_rfl
  have c1 : Try.prog.cellsOf 3 = 1 := by kernel_rfl
  rw [hc] at hlen
  match cs, hlen with
  | [v0, v1], _ =>
    have f0 : DataW.trod enc Try.prog W base sp held n 3 (([v0, v1].drop 0).take (Try.prog.cellsOf 3)) = xs[0]? := hf 0 _ rfl
    have f1 : DataW.trod enc Try.prog W base sp held n 3 (([v0, v1].drop 1).take (Try.prog.cellsOf 3)) = xs[1]? := hf 1 _ rfl
    rw [c1] at f0 f1
    replace f0 : DataW.trod enc Try.prog W base sp held n 3 [v0] = xs[0]? := f0
    replace f1 : DataW.trod enc Try.prog W base sp held n 3 [v1] = xs[1]? := f1
    have get : ∀ {i : Nat} {t : TypeId} {l : List Value}, DataW.trod enc Try.prog W base sp held n t l = xs[i]? → i < xs.length → ∃ y, DataW.trod enc Try.prog W base sp held n t l = some y := fun h hi => ⟨_, h.trans (List.getElem?_eq_getElem hi)⟩
    have hx : xs.length = 2 := by assumption
    obtain ⟨y0, g0⟩ := get f0 (by omega)
    obtain ⟨y1, g1⟩ := get f1 (by omega)
    obtain ⟨n0, e0, _, w0⟩ := DataW.trod_int Try.underlying3 g0
    obtain ⟨n1, e1, _, w1⟩ := DataW.trod_int Try.underlying3 g1
    refine ⟨n0, n1, ?_, bounds_i64 w0, bounds_i64 w1⟩
    rw [(List.cons.inj e0).1, (List.cons.inj e1).1]
/-- A list of extents that comes in. -/
theorem open_ext {fuel : Nat} {v : Value} {x : DataW H × List MemPlace} (h : DataW.trod enc Try.prog W base sp held fuel 33 [v] = some x) : ∃ l : List (Int × Int), ExtAt W v l ∧ extOk l := by
  have hc2 : Try.prog.cellsOf 41 = 2 := by kernel_rfl
  rcases open_slice Try.underlying33 h with ⟨hcs, _⟩ | ⟨a, len, cap, m, n, D, Pl, hcs, _, hl, hm, hmm, _, hx⟩
  · exact ⟨[], .inl ⟨(List.cons.inj hcs).1, rfl⟩, fun j hj => absurd hj (Nat.not_lt_zero _)⟩
  · have hlm : len ≤ m := by rw [hmm]; split <;> omega
    rw [hc2] at hx
    have key : ∀ i, i < len → ∃ z : Int × Int, (W.cell? (a.add (i * 2)) = some (.int .i64 z.1) ∧ W.cell? ⟨(a.add (i * 2)).block, (a.add (i * 2)).off + 1, none⟩ = some (.int .i64 z.2)) ∧ isI z.1 ∧ isI z.2 := by
      intro i hi
      obtain ⟨cs', h1, h2⟩ := hx i (by omega)
      obtain ⟨_, h3, hat⟩ := World.cells?_some h1
      obtain ⟨f, c, rfl, hf, hc⟩ := open_extent h2
      refine ⟨(f, c), ⟨?_, ?_⟩, hf, hc⟩
      · have := hat 0 (by decide)
        rwa [Addr.add_zero'] at this
      · have := hat 1 (by decide)
        rwa [add_pos _ 1 (by decide)] at this
    haveI : Inhabited (Int × Int) := ⟨(0, 0)⟩
    obtain ⟨f, hf⟩ := choose_lt key
    have hg : ∀ j, j < len → ((List.range len).map f).getD j (0, 0) = f j := fun j hj => by
      rw [List.getD_eq_getElem?_getD, List.getElem?_map, List.getElem?_range hj]; rfl
    refine ⟨(List.range len).map f, .inr ⟨a, cap, ?_, ?_, fun j hj => ?_⟩, fun j hj => ?_⟩
    · rw [List.length_map, List.length_range]; exact (List.cons.inj hcs).1
    · rw [List.length_map, List.length_range]; omega
    · rw [List.length_map, List.length_range] at hj
      rw [hg j hj]
      exact (hf j hj).1
    · rw [List.length_map, List.length_range] at hj
      rw [hg j hj]
      exact (hf j hj).2
/-- An act, of its three cells. -/
theorem open_act {fuel : Nat} {cs : List Value} {x : DataW H × List MemPlace} (h : DataW.trod enc Try.prog W base sp held fuel 35 cs = some x) :
    ∃ (a : Act1) (v : Value), cs = [.int .u8 (a.kind : Int), .int .i64 a.n, v] ∧ ExtAt W v a.raw ∧ a.ok := by
  obtain ⟨xs, n, _, _, hlen, _, hf⟩ := DataW.trod_struct Try.underlying35 h
  have hc : Try.prog.cellsOf 35 = 3 := by kernel_rfl
  have c1 : Try.prog.cellsOf 5 = 1 := by kernel_rfl
  have c2 : Try.prog.cellsOf 3 = 1 := by kernel_rfl
  have c3 : Try.prog.cellsOf 33 = 1 := by kernel_rfl
  rw [hc] at hlen
  match cs, hlen with
  | [v0, v1, v2], _ =>
    have f0 : DataW.trod enc Try.prog W base sp held n 5 (([v0, v1, v2].drop 0).take (Try.prog.cellsOf 5)) = xs[0]? := hf 0 _ rfl
    have f1 : DataW.trod enc Try.prog W base sp held n 3 (([v0, v1, v2].drop 1).take (Try.prog.cellsOf 3)) = xs[1]? := hf 1 _ rfl
    have f2 : DataW.trod enc Try.prog W base sp held n 33 (([v0, v1, v2].drop 2).take (Try.prog.cellsOf 33)) = xs[2]? := hf 2 _ rfl
    rw [c1] at f0
    rw [c2] at f1
    rw [c3] at f2
    replace f0 : DataW.trod enc Try.prog W base sp held n 5 [v0] = xs[0]? := f0
    replace f1 : DataW.trod enc Try.prog W base sp held n 3 [v1] = xs[1]? := f1
    replace f2 : DataW.trod enc Try.prog W base sp held n 33 [v2] = xs[2]? := f2
    have get : ∀ {i : Nat} {t : TypeId} {l : List Value}, DataW.trod enc Try.prog W base sp held n t l = xs[i]? → i < xs.length → ∃ y, DataW.trod enc Try.prog W base sp held n t l = some y := fun h hi => ⟨_, h.trans (List.getElem?_eq_getElem hi)⟩
    have hx : xs.length = 3 := by assumption
    obtain ⟨y0, g0⟩ := get f0 (by omega)
    obtain ⟨y1, g1⟩ := get f1 (by omega)
    obtain ⟨y2, g2⟩ := get f2 (by omega)
    obtain ⟨n0, e0, _, w0⟩ := DataW.trod_int Try.underlying5 g0
    obtain ⟨n1, e1, _, w1⟩ := DataW.trod_int Try.underlying3 g1
    obtain ⟨l, hl, hlo⟩ := open_ext g2
    obtain ⟨b0, rfl, hb⟩ := byte_of w0
    refine ⟨⟨b0, n1, l⟩, v2, ?_, hl, ⟨hb, bounds_i64 w1, hlo⟩⟩
    rw [(List.cons.inj e0).1, (List.cons.inj e1).1]
/-- A list of acts that comes in. -/
theorem open_acts {fuel : Nat} {v : Value} {x : DataW H × List MemPlace} (h : DataW.trod enc Try.prog W base sp held fuel 22 [v] = some x) : ∃ l : List Act1, ActsAt W v l := by
  have hc3 : Try.prog.cellsOf 35 = 3 := by kernel_rfl
  rcases open_slice Try.underlying22 h with ⟨hcs, _⟩ | ⟨a, len, cap, m, n, D, Pl, hcs, _, hl, hm, hmm, _, hx⟩
  · exact ⟨[], .inl ⟨(List.cons.inj hcs).1, rfl⟩⟩
  · have hlm : len ≤ m := by rw [hmm]; split <;> omega
    rw [hc3] at hx
    have key : ∀ i, i < len → ∃ z : Act1 × Value, ActAt W a i z.1 z.2 := by
      intro i hi
      obtain ⟨cs', h1, h2⟩ := hx i (by omega)
      obtain ⟨_, h3, hat⟩ := World.cells?_some h1
      obtain ⟨b, u, rfl, hk, hok⟩ := open_act h2
      refine ⟨(b, u), ?_, ?_, ?_, hk, hok⟩
      · have := hat 0 (by decide)
        rwa [Addr.add_zero'] at this
      · have := hat 1 (by decide)
        rwa [add_pos _ 1 (by decide)] at this
      · have := hat 2 (by decide)
        rwa [add_pos _ 2 (by decide)] at this
    haveI : Inhabited (Act1 × Value) := ⟨(⟨0, 0, []⟩, .slice none 0 0)⟩
    obtain ⟨f, hf⟩ := choose_lt key
    refine ⟨(List.range len).map (fun i => (f i).1), .inr ⟨a, cap, ?_, ?_, fun i b hi => ?_⟩⟩
    · rw [List.length_map, List.length_range]; exact (List.cons.inj hcs).1
    · rw [List.length_map, List.length_range]; omega
    · have hlt : i < len := by
        have := (List.getElem?_eq_some_iff.1 hi).1
        rwa [List.length_map, List.length_range] at this
      rw [List.getElem?_map, List.getElem?_range hlt] at hi
      obtain rfl : (f i).1 = b := Option.some.inj hi
      exact ⟨_, hf i hlt⟩
end
/-- As the statement hands it its input. -/
theorem play_walk (I : Impl) {H : Type} {enc : TypeId × Value → H} {base : Nat} {sp : Nat → Bool} {held : Bool} {x : DataW H × List MemPlace} (a0 : Int) (a1 : Option Addr) (len1 cap1 : Nat) (W : World) (w0 : (Lit.int .i64 a0).wf = true)
    (k1 : ∃ fuel, DataW.trod enc Try.prog W base sp held fuel 22 [.slice a1 len1 cap1] = some x) :
    Calls Try.prog 3 #[.int .i64 a0, .slice a1 len1 cap1] W fun e w' => e = .returned (.bool true) ∧ Below W.heap.size W w' := by
  obtain ⟨fuel, hf⟩ := k1
  obtain ⟨l, hl⟩ := open_acts hf
  exact play_any I a0 (bounds_i64 w0) hl
end Go.Proofs.Ytdngkpdiaeicmaa
