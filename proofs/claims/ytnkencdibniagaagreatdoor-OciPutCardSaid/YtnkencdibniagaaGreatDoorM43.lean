/- Merged: OfJ, OfL, OfM. -/
import Derived.Test.YtnkencdibniagaaGreatDoorM40
import Derived.Test.YtnkencdibniagaaGreatDoorM34
/- Layer 13: two lists of descriptors, two of digests: are they the same? -/
namespace Go.Proofs.YtnkencdibniagaaGreatDoor
open Go.RowKit
attribute [local go_sem] wide_fn round_fn

end Go.Proofs.YtnkencdibniagaaGreatDoor

/- Layer 13: what is put, read again, and put again: the three rounds as contracts. -/
namespace Go.Proofs.YtnkencdibniagaaGreatDoor
open Go.RowKit

end Go.Proofs.YtnkencdibniagaaGreatDoor

/- Layer 13: what OciBack keeps: three rows of descriptors; a platform in a row is cleared. -/
namespace Go.Proofs.YtnkencdibniagaaGreatDoor
open Go.RowKit

theorem own_lower {w : World} {B B' size n : Nat} {e : TypeId} {v : Value} {xs : List Value} (h : w.ownsRow B e size v n xs) (hle : B' ≤ B) : w.ownsRow B' e size v n xs := by
  refine ⟨h.1, ?_⟩
  rcases h.2 with h2 | ⟨g, c, cur, hv, hb, h3⟩
  · exact .inl h2
  · exact .inr ⟨g, c, cur, hv, Nat.le_trans hle hb, h3⟩
/-- What is kept: the configuration's box, and three rows of descriptors, each elder than the next. -/
structure BkM (w : World) (r : RG) (S1 S2 : Nat) (x t p : Value) (X Y Z : List DV) (W : World) : Prop where
  ox : W.ownsRow (w.heap.size + 1) 28 36 x X.length (flatD X)
  xl : ∀ g, x.ownBlock = some g → g < S1
  ot : W.ownsRow S1 28 36 t Y.length (flatD Y)
  tl : ∀ g, t.ownBlock = some g → g < S2
  op : W.ownsRow S2 28 36 p Z.length (flatD Z)
  s : w.heap.size + 1 ≤ S1 ∧ S1 ≤ S2
  r : rowC W w.heap.size (encR r).toArray 46
  b : Below w.heap.size w W
theorem BkM.below {w W W' : World} {r : RG} {S1 S2 : Nat} {x t p : Value} {X Y Z : List DV} (h : BkM w r S1 S2 x t p X Y Z W) (hb : Below W.heap.size W W') : BkM w r S1 S2 x t p X Y Z W' :=
  ⟨(Chg.of_below (s := no) hb).owns h.ox (fun _ _ h => h), h.xl, (Chg.of_below (s := no) hb).owns h.ot (fun _ _ h => h), h.tl, (Chg.of_below (s := no) hb).owns h.op (fun _ _ h => h), h.s, rowC_below h.r hb (rowC_lt h.r), h.b.trans (hb.mono h.b.size)⟩
theorem one_rough {W : World} {g : Nat} {r : RG} (hr : r.ok) (hR : rowC W g (encR r).toArray 46) : RghsC W (some ⟨g, 0, none⟩) [r] := fun i r' hi => by
  match i, hi with
  | 0, hi =>
    rw [List.getElem?_cons_zero] at hi
    injection hi with hi
    subst hi
    refine ⟨hr, ⟨g, 0, none⟩, rfl, rowC_lt hR, fun j v hj => ?_⟩
    rw [show ((⟨g, 0, none⟩ : Addr).add (0 * 37)).add j = ⟨g, j, none⟩ by simp [Addr.add]; exact fun h => h.symm, rowC_cell hR, List.getElem?_toArray]
    exact hj
theorem of_one (r : RG) (hr : r.ok) (g : Nat) (w : World) (hR : rowC w g (encR r).toArray 46) :
    Calls Tryz.prog 17 #[.slice (some ⟨g, 0, none⟩) 1 1, .int .i64 1] w fun e w' => ∃ t, e = .returned (.tuple #[t, .bool (ofR [r] 1)]) ∧ (ofR [r] 1 = true → w'.ownsRow w.heap.size 28 36 t 1 (flatD [descOf r])) ∧ Below w.heap.size w w' :=
  of_any [r] (some ⟨g, 0, none⟩) 1 1 w (by show 1 * 96 ≤ _; omega) (one_rough hr hR)
end Go.Proofs.YtnkencdibniagaaGreatDoor

