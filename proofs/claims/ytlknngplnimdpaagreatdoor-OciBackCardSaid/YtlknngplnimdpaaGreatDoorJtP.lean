/- Layer 11: what is gathered, in memory. -/
import Derived.Test.YtlknngplnimdpaaGreatDoorJtO
import Derived.Deep.DrawnRows
namespace Go.Proofs.YtlknngplnimdpaaGreatDoor
open Go.RowKit

/-- The cells of values, four each. -/
def ItemsC (w : World) (F : Nat → Prop) : List JV → List Value → Prop
  | [], [] => True
  | x :: l, a :: b :: c :: d :: xs => HoldsC w F x a b c d ∧ ItemsC w F l xs
  | _, _ => False
theorem ItemsC.chg {s F : Nat → Prop} {w w' : World} (hc : Chg s w w') (hs : ∀ k, F k → ¬ s k) : ∀ (l : List JV) (xs : List Value), ItemsC w F l xs → ItemsC w' F l xs
  | [], [], _ => trivial
  | x :: l, a :: b :: c :: d :: xs, h => ⟨HoldsC.chg hc hs x a b c d h.1, ItemsC.chg hc hs l xs h.2⟩
  | [], _ :: _, h => h.elim
  | _ :: _, [], h => h.elim
  | _ :: _, [_], h => h.elim
  | _ :: _, [_, _], h => h.elim
  | _ :: _, [_, _, _], h => h.elim
theorem ItemsC.mono {F G : Nat → Prop} {w : World} (hs : ∀ k, F k → k < w.heap.size → G k) : ∀ (l : List JV) (xs : List Value), ItemsC w F l xs → ItemsC w G l xs
  | [], [], _ => trivial
  | x :: l, a :: b :: c :: d :: xs, h => ⟨HoldsC.mono hs x a b c d h.1, ItemsC.mono hs l xs h.2⟩
  | [], _ :: _, h => h.elim
  | _ :: _, [], h => h.elim
  | _ :: _, [_], h => h.elim
  | _ :: _, [_, _], h => h.elim
  | _ :: _, [_, _, _], h => h.elim
theorem ItemsC.snoc {F : Nat → Prop} {w : World} {x : JV} {a b c d : Value} (hx : HoldsC w F x a b c d) : ∀ (l : List JV) (xs : List Value), ItemsC w F l xs → ItemsC w F (l ++ [x]) (xs ++ [a, b, c, d])
  | [], [], _ => ⟨hx, trivial⟩
  | _ :: l, _ :: _ :: _ :: _ :: xs, h => ⟨h.1, ItemsC.snoc hx l xs h.2⟩
  | [], _ :: _, h => h.elim
  | _ :: _, [], h => h.elim
  | _ :: _, [_], h => h.elim
  | _ :: _, [_, _], h => h.elim
  | _ :: _, [_, _, _], h => h.elim
theorem ItemsC.len {F : Nat → Prop} {w : World} : ∀ (l : List JV) (xs : List Value), ItemsC w F l xs → xs.length = l.length * 4
  | [], [], _ => rfl
  | _ :: l, _ :: _ :: _ :: _ :: xs, h => by have := ItemsC.len l xs h.2; simp only [List.length_cons]; omega
  | [], _ :: _, h => h.elim
  | _ :: _, [], h => h.elim
  | _ :: _, [_], h => h.elim
  | _ :: _, [_, _], h => h.elim
  | _ :: _, [_, _, _], h => h.elim
theorem ItemsC.row {F : Nat → Prop} {w : World} {ad : Addr} : ∀ (l : List JV) (xs : List Value) (i : Nat), ItemsC w F l xs → (0 < l.length → F ad.block) → (∀ j u, xs[j]? = some u → w.cell? (ad.add (4 * i + j)) = some u) → HoldsR w F l ad i
  | [], [], i, _, _, _ => by rw [HoldsR]; trivial
  | x :: l, a :: b :: c :: d :: xs, i, h, hF, hc => by
    rw [HoldsR]
    refine ⟨⟨a, b, c, d, hF (by simp), hc 0 a rfl, hc 1 b rfl, hc 2 c rfl, hc 3 d rfl, h.1⟩, ?_⟩
    refine ItemsC.row l xs (i + 1) h.2 (fun _ => hF (by simp)) fun j u hj => ?_
    have := hc (j + 4) u (by simpa using hj)
    rw [show 4 * (i + 1) + j = 4 * i + (j + 4) by omega]
    exact this
  | [], _ :: _, _, h, _, _ => h.elim
  | _ :: _, [], _, h, _, _ => h.elim
  | _ :: _, [_], _, h, _, _ => h.elim
  | _ :: _, [_, _], _, h, _, _ => h.elim
  | _ :: _, [_, _, _], _, h, _, _ => h.elim
theorem set4 (xs : List Value) (z0 z1 z2 z3 a b c d : Value) : ((((xs ++ [z0, z1, z2, z3]).set xs.length a).set (xs.length + 1) b).set (xs.length + 2) c).set (xs.length + 3) d = xs ++ [a, b, c, d] := by
  rw [List.set_append_right _ _ (Nat.le_refl _), Nat.sub_self, List.set_cons_zero]
  rw [List.set_append_right _ _ (by omega), show xs.length + 1 - xs.length = 1 by omega]
  rw [List.set_cons_succ, List.set_cons_zero]
  rw [List.set_append_right _ _ (by omega), show xs.length + 2 - xs.length = 2 by omega]
  rw [List.set_cons_succ, List.set_cons_succ, List.set_cons_zero]
  rw [List.set_append_right _ _ (by omega), show xs.length + 3 - xs.length = 3 by omega]
  rw [List.set_cons_succ, List.set_cons_succ, List.set_cons_succ, List.set_cons_zero]
/-- A row of values of the call's own, what they are, and where else they lie. -/
structure RowJ (w : World) (bL : Nat) (I : Value) (acc : List JV) (own : Nat → Prop) : Prop where
  ex : ∃ xs F, w.ownsRow bL 63 4 I acc.length xs ∧ ItemsC w F acc xs ∧ (∀ k, F k → bL ≤ k ∧ ¬ own k ∧ I.ownBlock ≠ some k)
  ne : ∀ k, own k → I.ownBlock ≠ some k
theorem RowJ.nil (w : World) (bL : Nat) (own : Nat → Prop) : RowJ w bL (.slice none 0 0) [] own :=
  ⟨⟨[], fun _ => False, World.ownsRow_nil _ _ _ _, trivial, fun _ h => h.elim⟩, fun _ _ h => by cases h⟩
theorem RowJ.chg {w w' : World} {bL : Nat} {I : Value} {acc : List JV} {own : Nat → Prop} (h : RowJ w bL I acc own) {s : Nat → Prop} (hc : Chg s w w') (hs : ∀ k, s k → k < bL ∨ own k) : RowJ w' bL I acc own := by
  obtain ⟨⟨xs, F, h1, h2, h3⟩, h4⟩ := h
  refine ⟨⟨xs, F, hc.owns h1 (fun g hg hsg => ?_), ItemsC.chg hc (fun k hk hsk => ?_) acc xs h2, h3⟩, h4⟩
  · rcases hs g hsg with hlt | ho
    · have := (h1.lt g hg).1; omega
    · exact h4 g ho hg
  · rcases hs k hsk with hlt | ho
    · have := (h3 k hk).1; omega
    · exact (h3 k hk).2.1 ho
/-- The value that has them. -/
theorem RowJ.holds {w : World} {bL : Nat} {I : Value} {acc : List JV} {own : Nat → Prop} (h : RowJ w bL I acc own) : (I = .slice none 0 0 ∧ acc = []) ∨ ∃ (ad : Addr) (cap : Nat), I = .slice (some ad) acc.length cap ∧ HoldsR w (fun k => bL ≤ k) acc ad 0 := by
  obtain ⟨⟨xs, F, h1, h2, h3⟩, _⟩ := h
  rcases h1.2 with ⟨hv, hn⟩ | ⟨g, cap, cur, hv, hb, _⟩
  · exact .inl ⟨hv, List.eq_nil_of_length_eq_zero hn⟩
  · refine .inr ⟨⟨g, 0, none⟩, cap, hv, ItemsC.row acc xs 0 (ItemsC.mono (fun k hk _ => (h3 k hk).1) acc xs h2) (fun _ => hb) fun j u hj => ?_⟩
    have := h1.cells (g := g) (by rw [hv]; rfl) j u hj
    simpa using this
end Go.Proofs.YtlknngplnimdpaaGreatDoor
