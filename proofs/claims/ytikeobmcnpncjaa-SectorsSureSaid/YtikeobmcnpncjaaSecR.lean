/- Layer 6: acts, and lists of bools, as they come in. -/
import Derived.Test.YtikeobmcnpncjaaSecQ
import Derived.Deep.Slices
import Derived.Deep.Fields
import Derived.ChangeSame
import Derived.OpenShut
namespace Go.Proofs.Ytikeobmcnpncjaa
open Go.RowKit Go.ChangeShapes Go.WideShapes Go.Deep

section
variable {H : Type} {enc : TypeId × Value → H} {W : World} {base : Nat} {sp : Nat → Bool} {held : Bool}
/-- A list of bools that comes in. -/
theorem open_keep {fuel : Nat} {v : Value} {x : DataW H × List MemPlace} (h : DataW.trod enc Try.prog W base sp held fuel 32 [v] = some x) : ∃ ks : List Bool, KeepAt W v ks ∧ ks.length ≤ maxLen := by
  rcases open_slice1 Try.underlying32 (by kernel_rfl) h with ⟨hcs, _⟩ | ⟨a, len, cap, m, n, V, D, Pl, hcs, _, hl, hm, hmm, _, hc⟩
  · exact ⟨[], .inl ⟨(List.cons.inj hcs).1, rfl⟩, Nat.zero_le _⟩
  · have hlm : len ≤ m := by rw [hmm]; split <;> omega
    refine ⟨(List.range len).map (fun i => match V i with | .bool b => b | _ => false), .inr ⟨a, cap, ?_, fun j hj => ?_⟩, ?_⟩
    · rw [List.length_map, List.length_range]; exact (List.cons.inj hcs).1
    · rw [List.length_map, List.length_range] at hj
      obtain ⟨h1, h2⟩ := hc j (by omega)
      obtain ⟨b, hb, _⟩ := DataW.trod_bool Try.underlying4 h2
      rw [h1, List.getD_eq_getElem?_getD, List.getElem?_map, List.getElem?_range hj]
      have := (List.cons.inj hb).1
      simp [this]
    · rw [List.length_map, List.length_range]; omega
theorem bounds_i64 {n : Int} (h : (Lit.int .i64 n).wf = true) : -9223372036854775808 ≤ n ∧ n ≤ 9223372036854775807 := by
  simp [Lit.wf, IntKind.min, IntKind.max, IntKind.signed, IntKind.bits] at h
  omega
theorem byte_of {n : Int} (h : (Lit.int .u8 n).wf = true) : ∃ b : UInt8, n = (b.toNat : Int) := by
  have hb : 0 ≤ n ∧ n ≤ 255 := by
    simp [Lit.wf, IntKind.min, IntKind.max, IntKind.signed, IntKind.bits] at h
    omega
  refine ⟨UInt8.ofNat n.toNat, ?_⟩
  rw [UInt8.toNat_ofNat_of_lt' (show _ < 256 by omega)]
  omega
theorem add_pos (a : Addr) (j : Nat) (h : j ≠ 0) : a.add j = ⟨a.block, a.off + j, none⟩ := by unfold Addr.add; rw [if_neg h]
/-- An act, of its five cells. -/
theorem open_act {fuel : Nat} {cs : List Value} {x : DataW H × List MemPlace} (h : DataW.trod enc Try.prog W base sp held fuel 34 cs = some x) :
    ∃ (a : Act1) (v : Value), cs = [.int .u8 (a.kind : Int), byteV a.c, .int .i64 a.n, .string a.data, v] ∧ KeepAt W v a.keep ∧ a.ok := by
  obtain ⟨xs, n, _, _, hlen, _, hf⟩ := DataW.trod_struct Try.underlying34 h
  have hc : Try.prog.cellsOf 34 = 5 := by kernel_rfl
  have c1 : Try.prog.cellsOf 5 = 1 := by kernel_rfl
  have c2 : Try.prog.cellsOf 3 = 1 := by kernel_rfl
  have c3 : Try.prog.cellsOf 9 = 1 := by kernel_rfl
  have c4 : Try.prog.cellsOf 32 = 1 := by kernel_rfl
  rw [hc] at hlen
  match cs, hlen with
  | [v0, v1, v2, v3, v4], _ =>
    have f0 : DataW.trod enc Try.prog W base sp held n 5 (([v0, v1, v2, v3, v4].drop 0).take (Try.prog.cellsOf 5)) = xs[0]? := hf 0 _ rfl
    have f1 : DataW.trod enc Try.prog W base sp held n 5 (([v0, v1, v2, v3, v4].drop 1).take (Try.prog.cellsOf 5)) = xs[1]? := hf 1 _ rfl
    have f2 : DataW.trod enc Try.prog W base sp held n 3 (([v0, v1, v2, v3, v4].drop 2).take (Try.prog.cellsOf 3)) = xs[2]? := hf 2 _ rfl
    have f3 : DataW.trod enc Try.prog W base sp held n 9 (([v0, v1, v2, v3, v4].drop 3).take (Try.prog.cellsOf 9)) = xs[3]? := hf 3 _ rfl
    have f4 : DataW.trod enc Try.prog W base sp held n 32 (([v0, v1, v2, v3, v4].drop 4).take (Try.prog.cellsOf 32)) = xs[4]? := hf 4 _ rfl
    rw [c1] at f0 f1
    rw [c2] at f2
    rw [c3] at f3
    rw [c4] at f4
    replace f0 : DataW.trod enc Try.prog W base sp held n 5 [v0] = xs[0]? := f0
    replace f1 : DataW.trod enc Try.prog W base sp held n 5 [v1] = xs[1]? := f1
    replace f2 : DataW.trod enc Try.prog W base sp held n 3 [v2] = xs[2]? := f2
    replace f3 : DataW.trod enc Try.prog W base sp held n 9 [v3] = xs[3]? := f3
    replace f4 : DataW.trod enc Try.prog W base sp held n 32 [v4] = xs[4]? := f4
    have get : ∀ {i : Nat} {t : TypeId} {l : List Value}, DataW.trod enc Try.prog W base sp held n t l = xs[i]? → i < xs.length → ∃ y, DataW.trod enc Try.prog W base sp held n t l = some y := fun h hi => ⟨_, h.trans (List.getElem?_eq_getElem hi)⟩
    have hx : xs.length = 5 := by assumption
    obtain ⟨y0, g0⟩ := get f0 (by omega)
    obtain ⟨y1, g1⟩ := get f1 (by omega)
    obtain ⟨y2, g2⟩ := get f2 (by omega)
    obtain ⟨y3, g3⟩ := get f3 (by omega)
    obtain ⟨y4, g4⟩ := get f4 (by omega)
    obtain ⟨n0, e0, _, w0⟩ := DataW.trod_int Try.underlying5 g0
    obtain ⟨n1, e1, _, w1⟩ := DataW.trod_int Try.underlying5 g1
    obtain ⟨n2, e2, _, w2⟩ := DataW.trod_int Try.underlying3 g2
    obtain ⟨s, e3, _, w3⟩ := DataW.trod_string Try.underlying9 g3
    obtain ⟨ks, hk, hkl⟩ := open_keep g4
    obtain ⟨b0, rfl⟩ := byte_of w0
    obtain ⟨b1, rfl⟩ := byte_of w1
    refine ⟨⟨b0.toNat, b1, n2, s, ks⟩, v4, ?_, hk, ⟨UInt8.toNat_lt _, bounds_i64 w2, w3, hkl⟩⟩
    rw [(List.cons.inj e0).1, (List.cons.inj e1).1, (List.cons.inj e2).1, (List.cons.inj e3).1]
    rfl
/-- A list of acts that comes in. -/
theorem open_acts {fuel : Nat} {v : Value} {x : DataW H × List MemPlace} (h : DataW.trod enc Try.prog W base sp held fuel 22 [v] = some x) : ∃ l : List Act1, ActsAt W v l := by
  have hc5 : Try.prog.cellsOf 34 = 5 := by kernel_rfl
  rcases open_slice Try.underlying22 h with ⟨hcs, _⟩ | ⟨a, len, cap, m, n, D, Pl, hcs, _, hl, hm, hmm, _, hx⟩
  · exact ⟨[], .inl ⟨(List.cons.inj hcs).1, rfl⟩⟩
  · have hlm : len ≤ m := by rw [hmm]; split <;> omega
    rw [hc5] at hx
    have key : ∀ i, i < len → ∃ z : Act1 × Value, ActAt W a i z.1 z.2 := by
      intro i hi
      obtain ⟨cs', h1, h2⟩ := hx i (by omega)
      obtain ⟨_, h3, hat⟩ := World.cells?_some h1
      obtain ⟨b, u, rfl, hk, hok⟩ := open_act h2
      refine ⟨(b, u), ?_, ?_, ?_, ?_, ?_, hk, hok⟩
      · have := hat 0 (by decide)
        rwa [Addr.add_zero'] at this
      · have := hat 1 (by decide)
        rwa [add_pos _ 1 (by decide)] at this
      · have := hat 2 (by decide)
        rwa [add_pos _ 2 (by decide)] at this
      · have := hat 3 (by decide)
        rwa [add_pos _ 3 (by decide)] at this
      · have := hat 4 (by decide)
        rwa [add_pos _ 4 (by decide)] at this
    haveI : Inhabited (Act1 × Value) := ⟨(⟨0, 0, 0, ByteArray.empty, []⟩, .slice none 0 0)⟩
    obtain ⟨f, hf⟩ := choose_lt key
    refine ⟨(List.range len).map (fun i => (f i).1), .inr ⟨a, cap, ?_, ?_, fun i b hi => ?_⟩⟩
    · rw [List.length_map, List.length_range]; exact (List.cons.inj hcs).1
    · rw [List.length_map, List.length_range]; omega
    · have hlt : i < len := by
        have := (List.getElem?_eq_some_iff.1 hi).1
        rwa [List.length_map, List.length_range] at this
      rw [List.getElem?_map, List.getElem?_range hlt] at hi
      obtain rfl : (f i).1 = b := Option.some.inj hi
      exact ⟨_, hf i hlt⟩
end
end Go.Proofs.Ytikeobmcnpncjaa
