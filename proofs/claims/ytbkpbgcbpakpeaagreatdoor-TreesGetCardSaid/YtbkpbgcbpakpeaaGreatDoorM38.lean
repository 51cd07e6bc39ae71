/- Merged: UvY, UvN. -/
import Derived.Test.YtbkpbgcbpakpeaaGreatDoorM37
import Derived.Test.YtbkpbgcbpakpeaaGreatDoorM35
import Derived.Test.YtbkpbgcbpakpeaaGreatDoorRows
import Derived.ProofKit
import Derived.LaidMore
import Derived.LaidLaws
import Derived.LaidHandle
import Derived.Lib.LaidU8T
import Derived.OpenShut
import Derived.Stop.Joined
import Derived.Sort.BigQuietIn
import Derived.ChangeArms
import Derived.Deep.Slices
import Derived.Deep.Fields
import Derived.ChangeSame
/- Layer 16: TreesGet. -/
namespace Go.Proofs.YtbkpbgcbpakpeaaGreatDoor
open Go.RowKit
attribute [local go_sem] wide_fn round_fn

theorem docN_len (s : List UInt8) : ∀ n i : Nat, (docN s n i).1.length ≤ n
  | 0, _ => Nat.le_refl _
  | n + 1, i => by
    rw [docN]
    split
    · exact Nat.zero_le _
    · exact Nat.succ_le_succ (docN_len s n (p6 s i))
theorem docG_len (s : List UInt8) : (docG s).1.length ≤ 65535 := by
  unfold docG
  split
  · have h0 := docN_len s (getN (takeV 2 s)) (atN s 0 2)
    have h1 := getK_lt (takeV 2 s) (min (takeV 2 s).length 8)
    have h2 : 256 ^ (min (takeV 2 s).length 8) ≤ 256 ^ 2 := Nat.pow_le_pow_right (by omega) (by have := takeV_le 2 s; omega)
    have h3 : getN (takeV 2 s) < 65536 := by
      unfold getN
      exact Nat.lt_of_lt_of_le h1 (by simpa using h2)
    exact Nat.le_trans h0 (by omega)
  · exact Nat.zero_le _
set_option maxRecDepth 100000 in
set_option maxHeartbeats 8000000 in
theorem getlaw_any (s : List UInt8) (w : World) :
    Calls Tryz.prog 4 #[.string (str s)] w fun e w' => e = .returned (.bool true) ∧ Below w.heap.size w w' := by
  have CL := laidT w
  have zs := str_size s
  by_cases h1 : 1000 < s.length
  · have g1 : (1000 : Int) < (s.length : Int) := by omega
    generalize s.length = L at *
    go_enter Tryz.func4, Tryz.ntmps4
    go_wp2_with (go_at_call 6; ((with_reducible refine (CL _ (Below.refl _ _)).mono ?_); rintro e w2 ⟨rfl, hb2⟩))
    go_ret
    exact ⟨rfl, hb2⟩
  · have g1 : ¬ (1000 : Int) < (s.length : Int) := by omega
    have hlen := docG_len s
    have hsame := get_same (s := s) (by omega)
    rw [hsame] at hlen
    have CA := get16_any s (by omega) w
    have CB := fun W => rget16_any s (by omega) W
    rw [hsame] at CB
    generalize get16 s = Z at *
    obtain ⟨l, E⟩ := Z
    simp only at CA CB hlen
    have CD := fun (W : World) (a : Option Addr) (c : Nat) (h : NodesAt W a l) => doc_any l a c (by omega) W h
    have CS := fun (W : World) (a b : Option Addr) (c d : Nat) (ha : NodesAt W a l) (hb : NodesAt W b l) => sameT (rsameN_any l l a b c d W ha hb (by omega)) (show (true : Bool) = true ↔ l = l by simp)
    generalize l.length = M at *
    generalize s.length = L at *
    clear hsame hlen h1
    go_enter Tryz.func4, Tryz.ntmps4
    go_upto_region 4 with (go_at_call 18; ((with_reducible refine CA.mono ?_); rintro e w1 ⟨⟨a1, c1, rfl, n1⟩, b1⟩))
    go_upto_region 5 with (go_at_call 19; ((with_reducible refine (CB _).mono ?_); rintro e w2 ⟨⟨a2, c2, rfl, n2⟩, b2⟩))
    have HB2 := Lib.hid (b1.trans (b2.mono b1.size))
    have n1b := Lib.hid (n1.below b2)
    have HN2 := Lib.hid n2
    clear n1 n2 b1 b2 CA CB
    go_wp2_with (first
      | (go_at_call 7; ((with_reducible refine (CD _ _ _ n1b.out).mono ?_); rintro e w3 ⟨⟨a3, c3, rfl, n3⟩, b3⟩))
      | (go_at_call 17; ((with_reducible refine (CS _ _ _ _ _ n3 (HN2.out.below b3)).mono ?_); rintro e w4 ⟨rfl, b4⟩))
      | (go_at_call 6; ((with_reducible refine (CL _ ((HB2.out.trans (b3.mono HB2.out.size)).trans (b4.mono (Nat.le_trans HB2.out.size b3.size)))).mono ?_); rintro e w5 ⟨rfl, b5⟩)))
    go_ret
    exact ⟨rfl, b5⟩
end Go.Proofs.YtbkpbgcbpakpeaaGreatDoor

/- Layer 16: what the variables that start-up laid give (nothing is asked of them); what is handed in to TreesTell. -/
namespace Go.Proofs.YtbkpbgcbpakpeaaGreatDoor
open Go.ChangeShapes Go.WideShapes Go.ChangeAt Go.WideElems Go.RowKit Go.Deep

theorem own : ownKnob Tryz.prog.godebug = none := by kernel_rfl
def laid2 : List (String × DataW Unit) := [("unicode/utf8.acceptRanges", Rows.laid_unicode_utf8_acceptRanges), ("unicode/utf8.first", Rows.laid_unicode_utf8_first)]
/-- The door's own heap, with the library's great table laid. -/
noncomputable def startW (os : Os) : World :=
  let w0 := World.doorLaid Tryz.prog 400 os
  { w0 with heap := w0.heap.modify 1 fun
      | .cells _ t frozen => .cells (Go.Pinned.utf8FirstZ.map fun (z : Nat) => Value.int .u8 (z : Int)).toArray t frozen
      | o => o }
theorem door_met (os : Os) (args : Array Value) : laidMetH Tryz.prog laid2 ((startW os).forCall (fun _ _ => 0) ⟨#[], args, []⟩).memory :=
  laidMetH_of_parts3 (fuel := 8) (laidMet_of_run' 8 (by kernel_rfl) (by kernel_rfl)) (by kernel_rfl) (by kernel_rfl)
theorem of_laid {W : World} (_h : laidMetH Tryz.prog laid2 W) : True := trivial
theorem len4 {cs : List Value} (h : cs.length = 4) : ∃ a b c d, cs = [a, b, c, d] := by
  match cs, h with
  | [a, b, c, d], _ => exact ⟨a, b, c, d, rfl⟩
section
variable {H : Type} {enc : TypeId × Value → H} {W : World} {base : Nat} {sp : Nat → Bool} {held : Bool}
theorem open_nodeL {fuel : Nat} {cs : List Value} {x : DataW H × List MemPlace} (h : DataW.trod enc Tryz.prog W base sp held fuel 32 cs = some x) : ∃ r : Nd, cs = ndV r := by
  obtain ⟨xs, n, _, _, hlen, hx, hf⟩ := DataW.trod_struct Tryz.underlying32 h
  have hc : Tryz.prog.cellsOf 32 = 4 := by kernel_rfl
  have c1 : Tryz.prog.cellsOf 9 = 1 := by kernel_rfl
  have c3 : Tryz.prog.cellsOf 3 = 1 := by kernel_rfl
  rw [hc] at hlen
  replace hx : xs.length = 4 := hx
  have f0 : DataW.trod enc Tryz.prog W base sp held n 9 ((cs.drop 0).take (Tryz.prog.cellsOf 9)) = xs[0]? := hf 0 _ rfl
  have f1 : DataW.trod enc Tryz.prog W base sp held n 3 ((cs.drop 1).take (Tryz.prog.cellsOf 3)) = xs[1]? := hf 1 _ rfl
  have f2 : DataW.trod enc Tryz.prog W base sp held n 3 ((cs.drop 2).take (Tryz.prog.cellsOf 3)) = xs[2]? := hf 2 _ rfl
  have f3 : DataW.trod enc Tryz.prog W base sp held n 9 ((cs.drop 3).take (Tryz.prog.cellsOf 9)) = xs[3]? := hf 3 _ rfl
  rw [c3] at f1 f2
  rw [c1] at f0 f3
  rw [List.getElem?_eq_getElem (by omega)] at f0 f1 f2 f3
  obtain ⟨s0, e0, _, _⟩ := DataW.trod_string Tryz.underlying9 f0
  obtain ⟨n1, e1, _, _⟩ := DataW.trod_int Tryz.underlying3 f1
  obtain ⟨n2, e2, _, _⟩ := DataW.trod_int Tryz.underlying3 f2
  obtain ⟨s3, e3, _, _⟩ := DataW.trod_string Tryz.underlying9 f3
  refine ⟨⟨s0.data.toList, n1, n2, s3.data.toList⟩, ?_⟩
  obtain ⟨v0, v1, v2, v3, rfl⟩ := len4 hlen
  obtain rfl : v0 = .string s0 := by simpa only [List.drop_zero, List.take_succ_cons, List.take_zero, List.cons.injEq, and_true] using e0
  obtain rfl : v1 = .int .i64 n1 := by simpa only [List.drop_succ_cons, List.drop_zero, List.take_succ_cons, List.take_zero, List.cons.injEq, and_true] using e1
  obtain rfl : v2 = .int .i64 n2 := by simpa only [List.drop_succ_cons, List.drop_zero, List.take_succ_cons, List.take_zero, List.cons.injEq, and_true] using e2
  obtain rfl : v3 = .string s3 := by simpa only [List.drop_succ_cons, List.drop_zero, List.take_succ_cons, List.take_zero, List.cons.injEq, and_true] using e3
  rfl
/-- A list of them that comes in. -/
theorem open_nodes {fuel : Nat} {v : Value} {x : DataW H × List MemPlace} (h : DataW.trod enc Tryz.prog W base sp held fuel 22 [v] = some x) :
    ∃ (l : List Nd) (xp : Option Addr) (cp : Nat), v = .slice xp l.length cp ∧ NodesAt W xp l ∧ l.length ≤ maxLen ∧ l.length ≤ cp := by
  have hc4 : Tryz.prog.cellsOf 32 = 4 := by kernel_rfl
  rcases open_slice Tryz.underlying22 h with ⟨hcs, _⟩ | ⟨a, len, cap, m, n, D, Pl, hcs, _, hl, hm, hmm, hdx, hx⟩
  · exact ⟨[], none, 0, (List.cons.inj hcs).1, (fun i p hi => by cases hi), Nat.zero_le _, Nat.le_refl _⟩
  · have hlm : len ≤ m := by rw [hmm]; split <;> omega
    rw [hc4] at hx
    have key : ∀ i, i < len → ∃ z : Nd, a.block < W.heap.size ∧ ∀ j v, (ndV z)[j]? = some v → W.cell? ((a.add (i * 4)).add j) = some v := by
      intro i hi
      obtain ⟨cs', h1, h2⟩ := hx i (by omega)
      obtain ⟨_, h3, hat⟩ := World.cells?_some h1
      obtain ⟨r, rfl⟩ := open_nodeL h2
      have q0 := hat 0 (by decide)
      rw [Addr.add_zero'] at q0
      have hb := World.block_lt_of_cell? W _ (q0.trans (List.getElem?_eq_getElem (show 0 < (ndV r).length from Nat.zero_lt_succ 3)))
      rw [add_blk] at hb
      refine ⟨r, hb, fun j v hj => ?_⟩
      have hj4 : j < 4 := (List.getElem?_eq_some_iff.1 hj).1
      exact (hat j hj4).trans hj
    obtain ⟨f, hf⟩ := choose_lt key
    have e1 : ((List.range len).map f).length = len := by rw [List.length_map, List.length_range]
    have e2 : v = .slice (some a) len cap := (List.cons.inj hcs).1
    refine ⟨(List.range len).map f, some a, cap, by rw [e1]; exact e2, fun i p hi => ?_, ?_⟩
    · have hlt : i < len := by
        have := (List.getElem?_eq_some_iff.1 hi).1
        rwa [e1] at this
      rw [List.getElem?_map, List.getElem?_range hlt] at hi
      obtain rfl : f i = p := Option.some.inj hi
      exact ⟨a, rfl, (hf i hlt).1, (hf i hlt).2⟩
    · rw [e1]
      exact ⟨by omega, by omega⟩
end
theorem str_ofT (s : ByteArray) : s = str s.data.toList := by
  obtain ⟨a⟩ := s
  rfl
theorem tell_w {H : Type} {enc : TypeId × Value → H} {base base1 : Nat} {sp sp1 : Nat → Bool} {held held1 : Bool} {d d1 : DataW H} {p p1 : List MemPlace} (a0 : Option Addr) (len0 cap0 : Nat) (a1 : Option Addr) (len1 cap1 : Nat) (a2 : ByteArray) (W : World)
    (k0 : DataW.Trod enc Tryz.prog W base sp held 22 (.slice a0 len0 cap0) d p) (k1 : DataW.Trod enc Tryz.prog W base1 sp1 held1 22 (.slice a1 len1 cap1) d1 p1) (_w2 : a2.size ≤ maxLen) (_h : True) :
    Calls Tryz.prog 3 #[.slice a0 len0 cap0, .slice a1 len1 cap1, .string a2] W fun e w' => e = .returned (.bool true) ∧ Below W.heap.size W w' := by
  obtain ⟨f0, h0⟩ := k0
  obtain ⟨f1, h1⟩ := k1
  obtain ⟨l, xp, cp, hv, hl, hle, hlc⟩ := open_nodes h0
  simp only [Value.slice.injEq] at hv
  obtain ⟨rfl, rfl, rfl⟩ := hv
  obtain ⟨m, xq, cq, hv, hm, hme, _⟩ := open_nodes h1
  simp only [Value.slice.injEq] at hv
  obtain ⟨rfl, rfl, rfl⟩ := hv
  rw [str_ofT a2]
  exact tell_any l m a2.data.toList a0 a1 cap0 cap1 hle hlc hme W hl hm
end Go.Proofs.YtbkpbgcbpakpeaaGreatDoor
#print axioms Go.Proofs.YtbkpbgcbpakpeaaGreatDoor.tell_w

