/- Merged: PtL, PtE. -/
import Derived.RangeFuncNested
import Derived.RangeFuncBound
import Derived.RangeFuncCalls
import Derived.RangeFuncLeaves
import Derived.RangeFuncFrom
import Derived.Shelf.Abstract
import Derived.OwnWalkIn
import Derived.TacticsInMore
import Derived.LoopNIn
import Derived.LoopIn
import Derived.Test.YtbjgmkjinnbokaaGreatDoorM02
import Derived.Test.YtbjgmkjinnbokaaGreatDoorShelf
import Derived.Test.YtbjgmkjinnbokaaGreatDoorM03
/- Generic: a range over a function whose iterator keeps a text of its own in a box that was laid ahead of the loop, and stores into it between two rounds. -/
namespace Go.Proofs.YtbjgmkjinnbokaaGreatDoor
open Go.RowKit Go.Shelf

/-- What a round leaves of the iterator's boxes. -/
def KeepsIn (s : Nat → Prop) (W W' : World) : Prop := ∀ b, s b → ∀ v, W.cell? ⟨b, 0, none⟩ = some v → W.frozen? ⟨b, 0, none⟩ = false → W'.cell? ⟨b, 0, none⟩ = some v ∧ W'.frozen? ⟨b, 0, none⟩ = false
theorem KeepsIn.refl (s : Nat → Prop) (W : World) : KeepsIn s W W := fun _ _ _ h h' => ⟨h, h'⟩
theorem KeepsIn.trans {s : Nat → Prop} {W W' W'' : World} (h : KeepsIn s W W') (h' : KeepsIn s W' W'') : KeepsIn s W W'' := fun b hb v hv hf => h' b hb v (h b hb v hv hf).1 (h b hb v hv hf).2
theorem KeepsIn.put (s : Nat → Prop) (W : World) (l : Nat) (o o' : Obj) (h : W.heap[l]? = some o) (hc : o.isCells = false) : KeepsIn s W (W.putObj l o') := fun _ _ _ hv hf =>
  ⟨cell_kept hv (grownBy_putObj' _ l o') (fun r e => by cases e; exact ⟨_, h, hc⟩), (frozen_kept hv (grownBy_putObj' _ l o') (fun r e => by cases e; exact ⟨_, h, hc⟩)).trans hf⟩
theorem frozen_block {W W' : World} {p : Addr} (h : W'.heap[p.block]? = W.heap[p.block]?) : W'.frozen? p = W.frozen? p := by unfold World.frozen?; rw [h]
theorem KeepsIn.below {s : Nat → Prop} {W W' : World} (h : Below W.heap.size W W') : KeepsIn s W W' := fun b _ _ hv hf =>
  have hb := h.block b (World.block_lt_of_cell? W ⟨b, 0, none⟩ hv)
  ⟨(World.cell?_of_block hb).trans hv, (frozen_block (p := ⟨b, 0, none⟩) hb).trans hf⟩
theorem KeepsIn.setCell {s : Nat → Prop} {W : World} {p : Addr} (h : ¬ s p.block) (u : Value) : KeepsIn s W (W.setCell p u) := fun b hb _ hv hf =>
  ⟨(World.cell?_setCell_other W p ⟨b, 0, none⟩ u (fun e => h (by rw [e]; exact hb))).trans hv, by rw [World.frozen?_setCell]; exact hf⟩
/-- What lies when the loop begins may be said between two rounds. -/
structure Abode (w : World) (Bs : Nat) {β : Type} (I : β → World → Prop) : Prop where
  alloc : ∀ k W o, I k W → I k (W.alloc o)
  put : ∀ k W l o o', I k W → w.heap.size ≤ l → W.heap[l]? = some o → o.isCells = false → I k (W.putObj l o')
  own : ∀ k W v, I k W → I k (W.setCell ⟨Bs, 0, none⟩ v)
/-- AN ITERATOR OVER xs, with boxes s, that stores into the box at Bs alone. -/
def IterB (P : Program) (n gf : Nat) (lb : Array Value) (s : Nat → Prop) (Bs : Nat) (xs : List (List UInt8)) (w : World) : Prop :=
  ∀ (l : Nat) (J Jx : List (List UInt8) → World → Prop) (W : World), KeepsIn s w W → (∀ k W v, J k W → J k (W.setCell ⟨Bs, 0, none⟩ v)) →
    (∀ pre x W1, J pre W1 → pre ++ [x] <+: xs → YieldAt Fence.wide (n - 1) P l #[.string (str x)] W1 fun e W' =>
      (e = .returned (.bool true) ∧ J (pre ++ [x]) W' ∧ KeepsIn s W1 W') ∨ (e = .returned (.bool false) ∧ Jx (pre ++ [x]) W')) →
    J [] W →
    CallsIn Fence.wide n P gf (#[.func (.yield l) #[] #[]] ++ lb) W fun e W' => (∃ v, e = .returned v) ∧ (J xs W' ∨ (∃ pre, pre <+: xs ∧ Jx pre W'))
/-- How a round's body may be left. -/
def leftBy (s : Nat → Prop) (I Ix : List (List UInt8) → World → Prop) (xs : List (List UInt8)) (W : World) : Exit → Act → World → Prop
  | .normal, _, W' => KeepsOthers W W' ∧ KeepsIn s W W' ∧ I xs W'
  | .ret, _, W' => KeepsOthers W W' ∧ Ix xs W'
  | _, _, _ => False
theorem heap_own {W : World} {b k : Nat} {v : Value} {o : Obj} (h : W.heap[k]? = some o) (ho : o.isCells = false) : (W.setCell ⟨b, 0, none⟩ v).heap[k]? = some o :=
  (KeepsOthers.setCell W ⟨b, 0, none⟩ v).same k o h ho
/-- THE LAW. -/
theorem range_own {P : Program} {n : Nat} {g : Operand} {ps : Array Tmp} {assign body : Code} {Q : Exit → Act → World → Prop} {a : Act} {w : World} (h1 : 1 ≤ n)
    {gf : Nat} {lb : Array Value} (hg : a.eval g = .func (.func gf) #[] lb) (eg : ∀ args w, (callFunc gf args).run P w = .ok (.enter gf args) w)
    {s : Nat → Prop} {Bs : Nat} {xs : List (List UInt8)} (hit : IterB P (n - 1) gf lb s Bs xs w) (hps : ps.size = 1)
    (I Ix : List (List UInt8) → World → Prop) (hI : Abode w Bs I) (hIx : Abode w Bs Ix) (h0 : I [] w) (a₁ : List UInt8 → Act)
    (hassign : ∀ (l : Nat) (x : List UInt8) (W : World) (K : Act → World → Prop), K (a₁ x) W →
      assign.wpIn (Fence.wide.inRound l) (n - 1 - 1) P (Exit.then K (fun _ _ _ => False)) { tmps := (ps.zip #[.string (str x)]).foldl (fun t (p, v) => t.setIfInBounds p v) a.tmps, defers := [] } W)
    (hbody : ∀ (l : Nat) (pre : List (List UInt8)) (x : List UInt8) (W : World), I pre W → pre ++ [x] <+: xs → body.wpIn (Fence.wide.inRound l) (n - 1 - 1) P (leftBy s I Ix (pre ++ [x]) W) (a₁ x) W)
    (hdone : ∀ (D : Nat) (W : World), w.heap.size ≤ D → I xs W → W.heap[D]? = some (.deferred (some [])) → Q .normal { a with defers := { target := .collected D, args := #[] } :: a.defers } W)
    (hstop : ∀ (D : Nat) (pre : List (List UInt8)) (W : World), w.heap.size ≤ D → pre <+: xs → Ix pre W → W.heap[D]? = some (.deferred (some [])) → Code.ret.wpIn Fence.wide n P Q { a with defers := { target := .collected D, args := #[] } :: a.defers } W) :
    (Code.rangeFunc g ps assign body).wpIn Fence.wide n P Q a w := by
  refine wpIn_rangeFunc fun fn hfn => ?_
  -- the loop's record, in each of its states
  obtain ⟨R, hR⟩ : ∃ R : LoopState → Option Code → Loop, R = fun st pe => { state := st, pending := pe, fn, tmps := a.tmps, params := ps, assign, body, defers := w.heap.size } := ⟨_, rfl⟩
  obtain ⟨V, hV⟩ : ∃ V, V = (w.alloc (.deferred (some []))).alloc (.loop (R .ready none)) := ⟨_, rfl⟩
  have v0 : V.heap[w.heap.size]? = some (.deferred (some [])) := by
    rw [hV]; exact (Below.heap_alloc _ _ _ (by simp)).trans (World.alloc_heap_new w _)
  have v1 : V.heap[w.heap.size + 1]? = some (.loop (R .ready none)) := by
    rw [hV]
    have := World.alloc_heap_new (w.alloc (.deferred (some []))) (.loop (R .ready none))
    rwa [World.size_alloc] at this
  have vI : I [] V := by rw [hV]; exact hI.alloc _ _ _ (hI.alloc _ _ _ h0)
  have vK : KeepsIn s w V := by
    rw [hV]
    exact KeepsIn.below (((Below.refl _ w).alloc (Nat.le_refl _) _).alloc (by simp) _)
  refine ⟨w.heap.size + 1, [{ target := .collected w.heap.size, args := #[] }], V, { target := .fn (.func gf) lb, args := #[.func (.yield (w.heap.size + 1)) #[] #[]] }, V, gf,
    #[.func (.yield (w.heap.size + 1)) #[] #[]] ++ lb, V, ?_, ?_, fun _ _ => trivial, ?_, fun _ => h1, ?_⟩
  · rw [hV, hR]; exact run_enterLoop_outer _ _ _ _ _
  · simp only [resolve, hg]
    simp [go_sem]
  · simp [invoke, go_sem, eg]
  refine (hit (w.heap.size + 1)
    (fun pre W => I pre W ∧ W.heap[w.heap.size + 1]? = some (.loop (R .ready none)) ∧ W.heap[w.heap.size]? = some (.deferred (some [])))
    (fun pre W => Ix pre W ∧ W.heap[w.heap.size + 1]? = some (.loop (R .done (some .ret))) ∧ W.heap[w.heap.size]? = some (.deferred (some [])))
    V vK (fun k W v hs => ⟨hI.own _ _ _ hs.1, heap_own hs.2.1 rfl, heap_own hs.2.2 rfl⟩) ?_ ⟨vI, v1, v0⟩).mono ?_
  · rintro pre x W ⟨hi, hl, hk⟩ hpre
    have hlt : w.heap.size + 1 < W.heap.size := (Array.getElem?_eq_some_iff.1 hl).1
    have hy := run_yield (P := P) (args := #[.string (str x)]) hl (by rw [hR]; exact hps.symm)
    rw [hR] at hy
    refine ⟨fn, _, assign, body, hy, roundIn_of_wpIn hfn (hassign _ x W _ ⟨_, run_beginRound hl (by rw [hR]), ?_⟩)⟩
    obtain ⟨X, hX⟩ : ∃ X, X = W.putObj (w.heap.size + 1) (.loop { R .ready none with state := .busy }) := ⟨_, rfl⟩
    rw [← hX]
    have x1 : X.heap[w.heap.size + 1]? = some (.loop { R .ready none with state := .busy }) := by rw [hX]; exact World.putObj_heap_same hlt
    have x0 : X.heap[w.heap.size]? = some (.deferred (some [])) := by rw [hX]; exact (World.putObj_heap_other (by omega)).trans hk
    have xI : I pre X := by rw [hX]; exact hI.put _ _ _ _ _ hi (by omega) hl rfl
    have xK : KeepsIn s W X := by rw [hX]; exact KeepsIn.put _ _ _ _ _ hl rfl
    refine wpIn_mono (hbody _ pre x X xI hpre) ?_
    intro e a3 Y hp
    cases e with
    | normal =>
      obtain ⟨ko, kb, hi3⟩ := hp
      have y1 := ko.same _ _ x1 rfl
      have y0 := ko.same _ _ x0 rfl
      have hr := run_endRound (P := P) none y1
      rw [hR] at hr y1
      refine ⟨_, _, hr, .inl ⟨rfl, ⟨hI.put _ _ _ _ _ hi3 (by omega) y1 rfl, ?_, (World.putObj_heap_other (by omega)).trans y0⟩, (xK.trans kb).trans (KeepsIn.put _ _ _ _ _ y1 rfl)⟩⟩
      rw [hR]
      exact World.putObj_heap_same (Array.getElem?_eq_some_iff.1 y1).1
    | ret =>
      obtain ⟨ko, hi3⟩ := hp
      have y1 := ko.same _ _ x1 rfl
      have y0 := ko.same _ _ x0 rfl
      have hr := run_endRound (P := P) (some .ret) y1
      rw [hR] at hr y1
      refine ⟨_, _, hr, .inr ⟨rfl, hIx.put _ _ _ _ _ hi3 (by omega) y1 rfl, ?_, (World.putObj_heap_other (by omega)).trans y0⟩⟩
      rw [hR]
      exact World.putObj_heap_same (Array.getElem?_eq_some_iff.1 y1).1
    | exit id => exact hp.elim
    | goto t => exact hp.elim
    | panic ch => exact hp.elim
    | outgrown => exact hp.elim
  · rintro e Y ⟨⟨v, rfl⟩, (⟨hi, hl, hk⟩ | ⟨pre, hpre, hi, hl, hk⟩)⟩
    · have hr := run_endLoop (P := P) hl (by rw [hR]; simp)
      rw [hR] at hr hl
      exact ⟨none, _, hr, hdone _ _ (Nat.le_refl _) (hI.put _ _ _ _ _ hi (by omega) hl rfl) ((World.putObj_heap_other (by omega)).trans hk)⟩
    · have hr := run_endLoop (P := P) hl (by rw [hR]; simp)
      rw [hR] at hr hl
      exact ⟨some .ret, _, hr, hstop _ pre _ (Nat.le_refl _) hpre (hIx.put _ _ _ _ _ hi (by omega) hl rfl) ((World.putObj_heap_other (by omega)).trans hk)⟩
end Go.Proofs.YtbjgmkjinnbokaaGreatDoor

/- Layer 14: the program's Parent, Base, Join, Inside. -/
namespace Go.Proofs.YtbjgmkjinnbokaaGreatDoor
open Go.RowKit

theorem extract_str (s : List UInt8) (a b : Nat) : (str s).extract a b = str ((s.take b).drop a) := by
  refine bytes_toList ?_
  rw [str_toList, ByteArray.data_extract, Array.toList_extract, str_toList, List.extract_eq_take_drop, List.drop_take]
theorem eq_lit (h l : List UInt8) : ((str h).toList == l) = decide (h = l) := by
  unfold str
  rw [ByteArray.toList_mk, Bool.eq_iff_iff, beq_iff_eq, decide_eq_true_eq]
theorem eq_none (h : List UInt8) : ((str h).toList == []) = decide (h = []) := eq_lit h []
theorem eq_strs (a b : List UInt8) : ((str a).toList == (str b).toList) = decide (a = b) := by
  have h : ∀ l : List UInt8, (str l).toList = l := fun l => by rw [Lib.toList_data]; rfl
  rw [h, h]
  rw [Bool.eq_iff_iff, beq_iff_eq, decide_eq_true_eq]
theorem empty_lit (h : List UInt8) : (str h).toList.isEmpty = decide (h = []) := by
  rw [← eq_none h]
  cases (str h).toList <;> rfl
theorem ret2s {a a' b b' : ByteArray} (h : a = a') (h' : b = b') : Ending.returned (.tuple #[.string a, .string b]) = .returned (.tuple #[.string a', .string b']) := by rw [h, h']
theorem index_at {a : List UInt8} {c : UInt8} (b : List UInt8) (h : c ∉ a) : Lib.indexByte (a ++ c :: b) c = (a.length : Int) := by
  induction a with
  | nil => simp [Lib.indexByte]
  | cons x a ih =>
    have h1 : ¬ (x == c) = true := fun e => h (by simp [beq_iff_eq.1 e])
    have h2 : c ∉ a := fun e => h (List.mem_cons_of_mem _ e)
    have h3 : ¬ (((a.length : Nat) : Int) == -1) = true := by rw [beq_iff_eq]; omega
    rw [List.cons_append, Lib.indexByte, if_neg h1, ih h2, if_neg h3, List.length_cons]
    rfl
theorem index_miss {s : List UInt8} {c : UInt8} (h : c ∉ s) : Lib.indexByte s c = -1 := by
  induction s with
  | nil => rfl
  | cons x a ih =>
    have h1 : ¬ (x == c) = true := fun e => h (by simp [beq_iff_eq.1 e])
    have h2 : c ∉ a := fun e => h (List.mem_cons_of_mem _ e)
    rw [Lib.indexByte, if_neg h1, ih h2]
    rfl
theorem index_dec (s : List UInt8) (c : UInt8) : decide (0 ≤ Lib.indexByte s c) = decide (c ∈ s) := by
  by_cases h : c ∈ s
  · obtain ⟨a, b, rfl, hn⟩ := cut_first h
    rw [index_at b hn, decide_eq_true h, decide_eq_true (by omega)]
  · rw [index_miss h, decide_eq_false h]
    rfl
theorem contains_any (s : List UInt8) (c : UInt8) (w : World) :
    Calls Tryz.prog 81 #[.string (str s), .string ⟨#[c]⟩] w fun e w' => e = .returned (.bool (decide (c ∈ s))) ∧ w = w' := by
  have h := Tryz.strings_Contains_one (str s) c w
  rw [show (str s).data.toList = s from rfl, index_dec] at h
  exact h.mono fun _ _ ⟨h1, h2⟩ => ⟨h1, h2.symm⟩
theorem part_ahead (a b : List UInt8) (c : UInt8) : (str (a ++ c :: b)).extract 0 a.length = str a := by
  rw [extract_str, List.drop_zero, List.take_left]
theorem part_behind (a b : List UInt8) (c : UInt8) : (str (a ++ c :: b)).extract (a.length + 1) (a ++ c :: b).length = str b := by
  rw [extract_str, List.take_length, show a ++ c :: b = (a ++ [c]) ++ b by simp, show a.length + 1 = (a ++ [c]).length by simp, List.drop_left]
/-- Where a byte stands last. -/
theorem last_miss {s : List UInt8} {c : UInt8} (h : c ∉ s) : Lib.lastIndexByte (str s) (c.toNat : Int) = -1 := by
  unfold Lib.lastIndexByte
  rcases Lib.lastIdx_spec (str s) (c.toNat : Int) (str s).size with ⟨h1, _⟩ | ⟨i, hi, h1, h2, _⟩
  · exact h1
  · exfalso
    have hi' : i < s.length := by rw [← str_size s]; exact hi
    have e : (str s).data[i]! = s[i]'hi' := by
      rw [getElem!_pos (str s).data i (by simpa using hi)]
      rfl
    rw [e] at h2
    have e2 : s[i]'hi' = c := UInt8.toNat_inj.1 (by omega)
    exact h (e2 ▸ List.getElem_mem hi')
theorem last_at (u : List UInt8) {v : List UInt8} {c : UInt8} (h : c ∉ v) : Lib.lastIndexByte (str (u ++ c :: v)) (c.toNat : Int) = (u.length : Int) := by
  unfold Lib.lastIndexByte
  have hz := str_size (u ++ c :: v)
  rw [List.length_append, List.length_cons] at hz
  have at_ : ∀ i (hi : i < (u ++ c :: v).length), (str (u ++ c :: v)).data[i]! = (u ++ c :: v)[i]'hi := fun i hi => by
    rw [getElem!_pos (str (u ++ c :: v)).data i (by simpa [str] using hi)]
    rfl
  rcases Lib.lastIdx_spec (str (u ++ c :: v)) (c.toNat : Int) (str (u ++ c :: v)).size with ⟨_, h2⟩ | ⟨i, hi, h1, h2, h3⟩
  · exfalso
    have hu : u.length < (u ++ c :: v).length := by rw [List.length_append, List.length_cons]; omega
    refine h2 u.length (by omega) ?_
    rw [at_ u.length hu]
    simp
  · rw [h1]
    have hi' : i < (u ++ c :: v).length := by rw [List.length_append, List.length_cons]; omega
    have hu : u.length < (u ++ c :: v).length := by rw [List.length_append, List.length_cons]; omega
    rcases Nat.lt_trichotomy i u.length with hlt | he | hgt
    · exfalso
      refine h3 u.length hlt (by omega) ?_
      rw [at_ u.length hu]
      simp
    · rw [he]
    · exfalso
      rw [at_ i hi'] at h2
      have e2 : (u ++ c :: v)[i]'hi' = c := UInt8.toNat_inj.1 (by omega)
      rw [List.getElem_append_right (by omega)] at e2
      obtain ⟨k, hk⟩ : ∃ k, i - u.length = k + 1 := ⟨i - u.length - 1, by omega⟩
      simp only [hk, List.getElem_cons_succ] at e2
      exact h (e2 ▸ List.getElem_mem _)
theorem clone_any (s : ByteArray) (hs : s.size ≤ 2000000) (w : World) :
    Calls Tryz.prog 46 #[.string s] w fun e w' => e = .returned (.string s) ∧ Below w.heap.size w w' := by
  have C := fun w => Tryz.stringslite_Clone s w (by omega)
  go_enter Tryz.func46, Tryz.ntmps46
  go_wp2_with (go_at_call 66; ((with_reducible refine (C _).mono ?_); rintro e w1 ⟨rfl, hB⟩))
  go_ret
  exact ⟨rfl, hB⟩
set_option maxRecDepth 100000 in
set_option maxHeartbeats 2000000 in
theorem cutLast_any (s : List UInt8) (hl : s.length ≤ 1000000) (w : World) :
    Calls Tryz.prog 56 #[.string (str s)] w fun e w' => e = .returned (.tuple #[.string (str (parentL s)), .string (str (baseL s))]) ∧ Below w.heap.size w w' := by
  have CL := fun w => Tryz.strings_LastIndex_one (str s) ⟨#[47]⟩ rfl (by rw [str_size]; omega) w
  rw [show ((⟨#[47]⟩ : ByteArray)[0]'(by decide)).toNat = 47 from rfl] at CL
  by_cases hm : (47 : UInt8) ∈ s
  · obtain ⟨u, v, hs, hn⟩ := cut_last hm
    obtain ⟨hp, hb⟩ := parent_hit u hn
    rw [← hs] at hp hb
    rw [show Lib.lastIndexByte (str s) ((47 : Nat) : Int) = (u.length : Int) by rw [hs]; exact last_at u hn] at CL
    rw [hp, hb]
    have hzs := str_size s
    have hlen : s.length = u.length + (v.length + 1) := by rw [hs, List.length_append, List.length_cons]
    have c0 : ¬ ((u.length : Int) < 0) := by omega
    have HB := Lib.hid (show u.length + 1 ≤ (str s).size ∧ u.length ≤ 1000000 by rw [hzs]; omega)
    have ha := Lib.hid (show (str s).extract 0 u.length = str u by rw [hs]; exact part_ahead u v 47)
    have hb2 := Lib.hid (show (str s).extract (u.length + 1) (str s).size = str v by rw [hzs, hs]; exact part_behind u v 47)
    clear hp hb hs hn hm hlen hzs hl
    generalize str s = S at *
    generalize u.length = i at *
    go_enter Tryz.func56, Tryz.ntmps56
    go_wp2_with (go_at_call 84; ((with_reducible refine (CL _).mono ?_); rintro e w1 ⟨rfl, rfl⟩))
    obtain ⟨d1, d2⟩ := HB.out
    have c1 : (0 : Int) ≤ (i : Int) := by omega
    have c2 : (i : Int) ≤ (S.size : Int) := by omega
    have c3 : (0 : Int) ≤ (i : Int) + 1 := by omega
    have c4 : (i : Int) + 1 ≤ (S.size : Int) := by omega
    have c5 : (i : Int) + 1 ≤ 1000001 := by omega
    clear d1 d2
    go_region
    go_wp2
    go_ret2
    exact ⟨ret2s ha.out hb2.out, below_drewN (Below.refl _ _) _⟩
  · rw [show Lib.lastIndexByte (str s) ((47 : Nat) : Int) = -1 from last_miss hm] at CL
    obtain ⟨hp, hb⟩ := parent_miss hm
    rw [hp, hb]
    clear hp hb hm
    go_enter Tryz.func56, Tryz.ntmps56
    go_wp2_with (go_at_call 84; ((with_reducible refine (CL _).mono ?_); rintro e w1 ⟨rfl, rfl⟩))
    go_ret2
    exact ⟨rfl, Below.refl _ _⟩
theorem base_le (s : List UInt8) : (baseL s).length ≤ s.length := cutL_getD_le s 47 _
theorem parent_le (s : List UInt8) : (parentL s).length ≤ s.length := by
  by_cases h : (47 : UInt8) ∈ s
  · obtain ⟨a, b, rfl, hn⟩ := cut_last h
    rw [(parent_hit a hn).1, List.length_append]
    omega
  · rw [(parent_miss h).1]
    exact Nat.zero_le _
theorem parent_any (s : List UInt8) (hl : s.length ≤ 1000000) (w : World) :
    Calls Tryz.prog 36 #[.string (str s)] w fun e w' => e = .returned (.string (str (parentL s))) ∧ Below w.heap.size w w' := by
  have C := fun w => cutLast_any s hl w
  have CC := fun w => clone_any (str (parentL s)) (by rw [str_size]; have := parent_le s; omega) w
  go_enter Tryz.func36, Tryz.ntmps36
  go_wp2_with (first
    | (go_at_call 56; ((with_reducible refine (C _).mono ?_); rintro e w1 ⟨rfl, hB⟩))
    | (go_at_call 46; ((with_reducible refine (CC _).mono ?_); rintro e w2 ⟨rfl, hB2⟩)))
  go_ret
  exact ⟨rfl, hB.trans (hB2.mono hB.size)⟩
theorem base_any (s : List UInt8) (hl : s.length ≤ 1000000) (w : World) :
    Calls Tryz.prog 41 #[.string (str s)] w fun e w' => e = .returned (.string (str (baseL s))) ∧ Below w.heap.size w w' := by
  have C := fun w => cutLast_any s hl w
  have CC := fun w => clone_any (str (baseL s)) (by rw [str_size]; have := base_le s; omega) w
  go_enter Tryz.func41, Tryz.ntmps41
  go_wp2_with (first
    | (go_at_call 56; ((with_reducible refine (C _).mono ?_); rintro e w1 ⟨rfl, hB⟩))
    | (go_at_call 46; ((with_reducible refine (CC _).mono ?_); rintro e w2 ⟨rfl, hB2⟩)))
  go_ret
  exact ⟨rfl, hB.trans (hB2.mono hB.size)⟩
theorem join_any (d p : List UInt8) (hd : d.length ≤ 1000000) (hp : p.length ≤ 1000000) (w : World) :
    Calls Tryz.prog 60 #[.string (str d), .string (str p)] w fun e w' => e = .returned (.string (str (join2 d p))) ∧ Below w.heap.size w w' := by
  have C1 := fun w => clone_any (str d) (by rw [str_size]; omega) w
  have C2 := fun w => clone_any (str p) (by rw [str_size]; omega) w
  have zd := str_size d
  have zp := str_size p
  have z1 : (⟨#[47]⟩ : ByteArray).size = 1 := rfl
  have q1 : (str d).toList.isEmpty = decide (d = []) := empty_lit d
  have q2 : (str p).toList.isEmpty = decide (p = []) := empty_lit p
  by_cases h1 : d = []
  · have HR := Lib.hid (show join2 d p = p by unfold join2; rw [if_pos h1])
    rw [decide_eq_true h1] at q1
    clear h1
    go_enter Tryz.func60, Tryz.ntmps60
    go_wp2_with (go_at_call 46; ((with_reducible refine (C2 _).mono ?_); rintro e w1 ⟨rfl, hB⟩))
    go_ret
    exact ⟨by rw [HR.out]; rfl, hB⟩
  · rw [decide_eq_false h1] at q1
    by_cases h2 : p = []
    · have HR := Lib.hid (show join2 d p = d by unfold join2; rw [if_neg h1, if_pos h2])
      rw [decide_eq_true h2] at q2
      clear h1 h2
      go_enter Tryz.func60, Tryz.ntmps60
      go_wp2_with (go_at_call 46; ((with_reducible refine (C1 _).mono ?_); rintro e w1 ⟨rfl, hB⟩))
      go_ret
      exact ⟨by rw [HR.out]; rfl, hB⟩
    · have HR := Lib.hid (show join2 d p = d ++ [47] ++ p by unfold join2; rw [if_neg h1, if_neg h2]; simp)
      rw [decide_eq_false h2] at q2
      have zx : (str d ++ ⟨#[47]⟩ : ByteArray).size = d.length + 1 := by rw [ByteArray.size_append, zd, z1]
      clear h1 h2
      go_enter Tryz.func60, Tryz.ntmps60
      go_wp2
      go_ret
      refine ⟨?_, Below.refl _ _⟩
      rw [HR.out, ← str_append, ← str_append]
      rfl
theorem inside_pre {d : List UInt8} (hd : d ≠ []) (r : List UInt8) : insideB d (d ++ r) = (decide (r = []) || decide ([47] <+: r)) := by
  unfold insideB
  rw [decide_eq_false hd, Bool.false_or]
  congr 1
  · rw [decide_eq_decide]
    exact ⟨fun h => by simpa using h, fun h => by rw [h, List.append_nil]⟩
  · rw [decide_eq_decide]
    exact List.prefix_append_right_inj d
theorem inside_not {d p : List UInt8} (hd : d ≠ []) (h : ¬ d <+: p) : insideB d p = false := by
  unfold insideB
  rw [decide_eq_false hd, decide_eq_false (by rintro rfl; exact h (List.prefix_refl _)), decide_eq_false (fun h2 => h ((List.prefix_append d [47]).trans h2))]
  rfl
theorem hasP_iff (s p : List UInt8) : Lib.hasPrefix s p = decide (p <+: s) := by
  unfold Lib.hasPrefix
  rw [Bool.eq_iff_iff, List.isPrefixOf_iff_prefix, decide_eq_true_eq]
theorem trimP {a b : List UInt8} : Lib.trimPrefix (a ++ b) a = b := by
  unfold Lib.trimPrefix Lib.hasPrefix
  simp
theorem cutP_hit (p r : List UInt8) (w : World) : Calls Tryz.prog 57 #[.string (str (p ++ r)), .string (str p)] w fun e w' => e = .returned (.tuple #[.string (str r), .bool true]) ∧ w = w' := by
  have h := Tryz.strings_CutPrefix (str (p ++ r)) (str p) w
  rw [show (str (p ++ r)).data.toList = p ++ r from rfl, show (str p).data.toList = p from rfl, trimP, hasP_iff, decide_eq_true (List.prefix_append p r)] at h
  exact h.mono fun _ _ ⟨h1, h2⟩ => ⟨h1, h2.symm⟩
theorem cutP_miss {s p : List UInt8} (hn : ¬ p <+: s) (w : World) : ∃ r : ByteArray, Calls Tryz.prog 57 #[.string (str s), .string (str p)] w fun e w' => e = .returned (.tuple #[.string r, .bool false]) ∧ w = w' := by
  have h := Tryz.strings_CutPrefix (str s) (str p) w
  rw [show (str s).data.toList = s from rfl, show (str p).data.toList = p from rfl, hasP_iff, decide_eq_false hn] at h
  exact ⟨_, h.mono fun _ _ ⟨h1, h2⟩ => ⟨h1, h2.symm⟩⟩
theorem hasP_any (s p : List UInt8) (w : World) : Calls Tryz.prog 86 #[.string (str s), .string (str p)] w fun e w' => e = .returned (.bool (decide (p <+: s))) ∧ w = w' := by
  have h := Tryz.strings_HasPrefix (str s) (str p) w
  rw [show (str s).data.toList = s from rfl, show (str p).data.toList = p from rfl, hasP_iff] at h
  exact h.mono fun _ _ ⟨h1, h2⟩ => ⟨h1, h2.symm⟩
set_option maxRecDepth 100000 in
set_option maxHeartbeats 2000000 in
theorem inside_any (d p : List UInt8) (w : World) :
    Calls Tryz.prog 88 #[.string (str d), .string (str p)] w fun e w' => e = .returned (.bool (insideB d p)) ∧ w = w' := by
  have q1 : (str d).toList.isEmpty = decide (d = []) := empty_lit d
  by_cases h1 : d = []
  · have HR := Lib.hid (show insideB d p = true by unfold insideB; rw [decide_eq_true h1]; rfl)
    rw [decide_eq_true h1] at q1
    clear h1
    go_enter Tryz.func88, Tryz.ntmps88
    go_wp2
    go_ret
    exact ⟨retB HR.out.symm, by trivial⟩
  · rw [decide_eq_false h1] at q1
    by_cases h2 : d <+: p
    · obtain ⟨r, hr⟩ := h2
      have HR := Lib.hid (hr ▸ inside_pre h1 r)
      have CP := fun w => hr ▸ cutP_hit d r w
      have CH := fun w => hasP_any r [47] w
      rw [show str [47] = ⟨#[47]⟩ from rfl] at CH
      have q2 : (str r).toList.isEmpty = decide (r = []) := empty_lit r
      clear h1 hr
      generalize decide (r = []) = b1 at *
      generalize decide ([47] <+: r) = b2 at *
      cases b1
      all_goals
        go_enter Tryz.func88, Tryz.ntmps88
        go_wp2_with (first
          | (go_at_call 57; ((with_reducible refine (CP _).mono ?_); rintro e w1 ⟨rfl, rfl⟩))
          | (go_at_call 86; ((with_reducible refine (CH _).mono ?_); rintro e w2 ⟨rfl, rfl⟩)))
        go_ret
        exact ⟨retB (by rw [HR.out]; rfl), by trivial⟩
    · have HR := Lib.hid (inside_not h1 h2)
      have CP := fun w => cutP_miss h2 w
      clear h1 h2
      go_enter Tryz.func88, Tryz.ntmps88
      go_wp2_with (go_at_call 57; obtain ⟨r, CQ⟩ := CP w; ((with_reducible refine CQ.mono ?_); rintro e w1 ⟨rfl, rfl⟩))
      go_ret
      exact ⟨retB HR.out.symm, by trivial⟩
end Go.Proofs.YtbjgmkjinnbokaaGreatDoor

