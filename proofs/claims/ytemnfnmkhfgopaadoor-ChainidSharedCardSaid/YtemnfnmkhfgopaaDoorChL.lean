/- Layer 17: ChainidTell and ChainidShared, of what is handed in. -/
import Derived.Test.YtemnfnmkhfgopaaDoorChJ
import Derived.Test.YtemnfnmkhfgopaaDoorChK
namespace Go.Proofs.YtemnfnmkhfgopaaDoor
open Go.RowKit Go.ChangeShapes Go.WideShapes Go.Deep

theorem open_digs {H : Type} {enc : TypeId × Value → H} {W : World} {base : Nat} {sp : Nat → Bool} {held : Bool} {d : DataW H} {p : List MemPlace} {a : Option Addr} {len cap : Nat}
    (k : DataW.Trod enc Tryd.prog W base sp held 22 (.slice a len cap) d p) : ∃ l : List (List UInt8), len = l.length ∧ l.length ≤ maxLen ∧ DgE.At W a l := by
  obtain ⟨fuel, hf⟩ := k
  obtain ⟨l, xp, cp, he, hR, hm⟩ := open_digests hf
  obtain ⟨rfl, rfl, rfl⟩ := Value.slice.inj he
  exact ⟨l, rfl, hm, hR⟩
theorem tell_w {H : Type} {enc : TypeId × Value → H} {base base1 : Nat} {sp sp1 : Nat → Bool} {held held1 : Bool} {d d1 : DataW H} {p p1 : List MemPlace} (a0 : Option Addr) (len0 cap0 : Nat) (a1 : Option Addr) (len1 cap1 : Nat) (W : World)
    (k0 : DataW.Trod enc Tryd.prog W base sp held 22 (.slice a0 len0 cap0) d p) (k1 : DataW.Trod enc Tryd.prog W base1 sp1 held1 22 (.slice a1 len1 cap1) d1 p1) (hL : Laid W) :
    Calls Tryd.prog 3 #[.slice a0 len0 cap0, .slice a1 len1 cap1] W fun e w' => e = .returned (.bool true) ∧ Below W.heap.size W w' := by
  obtain ⟨l0, rfl, m0, h0⟩ := open_digs k0
  obtain ⟨l1, rfl, m1, h1⟩ := open_digs k1
  exact tell_any l0 l1 a0 a1 cap0 cap1 W hL m0 m1 h0 h1
theorem cshared_w {H : Type} {enc : TypeId × Value → H} {base base1 base2 : Nat} {sp sp1 sp2 : Nat → Bool} {held held1 held2 : Bool} {d d1 d2 : DataW H} {p p1 p2 : List MemPlace} (a0 : Option Addr) (len0 cap0 : Nat) (a1 : Option Addr) (len1 cap1 : Nat) (a2 : Option Addr) (len2 cap2 : Nat) (W : World)
    (k0 : DataW.Trod enc Tryd.prog W base sp held 22 (.slice a0 len0 cap0) d p) (k1 : DataW.Trod enc Tryd.prog W base1 sp1 held1 22 (.slice a1 len1 cap1) d1 p1) (k2 : DataW.Trod enc Tryd.prog W base2 sp2 held2 22 (.slice a2 len2 cap2) d2 p2) (hL : Laid W) :
    Calls Tryd.prog 4 #[.slice a0 len0 cap0, .slice a1 len1 cap1, .slice a2 len2 cap2] W fun e w' => e = .returned (.bool true) ∧ Below W.heap.size W w' := by
  obtain ⟨l0, rfl, m0, h0⟩ := open_digs k0
  obtain ⟨l1, rfl, m1, h1⟩ := open_digs k1
  obtain ⟨l2, rfl, m2, h2⟩ := open_digs k2
  exact cshared_any l0 l1 l2 a0 a1 a2 cap0 cap1 cap2 W hL m0 m1 m2 h0 h1 h2
end Go.Proofs.YtemnfnmkhfgopaaDoor
