/- What a call changes: new blocks, and of the old ones just some. (Generic: it names nothing of the cut.) -/
import Derived.Test.YtmgpofdmoaafoaaGreatDoorRow
namespace Go.Proofs.YtmgpofdmoaafoaaGreatDoor
open Go.RowKit

/-- w' is w with new blocks, and of the old ones none but those of s is another one. -/
structure Chg (s : Nat → Prop) (w w' : World) : Prop where
  os : w'.os = w.os
  tape : w'.tape = w.tape
  output : w'.output = w.output
  size : w.heap.size ≤ w'.heap.size
  block : ∀ k, k < w.heap.size → ¬ s k → w'.heap[k]? = w.heap[k]?
theorem Chg.refl (s : Nat → Prop) (w : World) : Chg s w w := ⟨rfl, rfl, rfl, Nat.le_refl _, fun _ _ _ => rfl⟩
theorem Chg.trans {s t : Nat → Prop} {a b c : World} (h : Chg s a b) (g : Chg t b c) (ht : ∀ k, k < a.heap.size → t k → s k) : Chg s a c :=
  ⟨g.os.trans h.os, g.tape.trans h.tape, g.output.trans h.output, Nat.le_trans h.size g.size, fun k hk hs => (g.block k (Nat.lt_of_lt_of_le hk h.size) (fun hh => hs (ht k hk hh))).trans (h.block k hk hs)⟩
theorem Chg.of_below {s : Nat → Prop} {w w' : World} (h : Below w.heap.size w w') : Chg s w w' := ⟨h.os, h.tape, h.output, h.size, fun k hk _ => h.block k hk⟩
theorem Chg.below {s : Nat → Prop} {w w' : World} (h : Chg s w w') {B : Nat} (hB : B ≤ w.heap.size) (hs : ∀ k, k < B → ¬ s k) : Below B w w' :=
  ⟨h.os, h.tape, h.output, h.size, fun k hk => h.block k (Nat.lt_of_lt_of_le hk hB) (hs k hk)⟩
theorem Chg.mono {s t : Nat → Prop} {w w' : World} (h : Chg s w w') (hs : ∀ k, k < w.heap.size → s k → t k) : Chg t w w' :=
  ⟨h.os, h.tape, h.output, h.size, fun k hk ht => h.block k hk (fun hh => ht (hs k hk hh))⟩
theorem Chg.then_below {s : Nat → Prop} {a w w' : World} (h : Chg s a w) (g : Below w.heap.size w w') : Chg s a w' := h.trans (t := s) (Chg.of_below g) (fun _ _ h => h)
theorem Chg.alloc {s : Nat → Prop} {a w : World} (h : Chg s a w) (o : Obj) : Chg s a (w.alloc o) := h.then_below ((Below.refl _ _).alloc (Nat.le_refl _) _)
theorem Chg.drew {s : Nat → Prop} {a w : World} (h : Chg s a w) : Chg s a w.drew := ⟨h.os, h.tape, h.output, h.size, h.block⟩
theorem Chg.drewN {s : Nat → Prop} {a w : World} (h : Chg s a w) (n : Nat) : Chg s a (w.drewN n) := ⟨h.os, h.tape, h.output, h.size, h.block⟩
theorem Chg.setCell {s : Nat → Prop} {a w : World} (h : Chg s a w) (p : Addr) (v : Value) (hp : s p.block ∨ a.heap.size ≤ p.block) : Chg s a (w.setCell p v) := by
  refine ⟨h.os, h.tape, h.output, ?_, fun k hk hs => ?_⟩
  · rw [World.size_setCell]; exact h.size
  · rw [heap_setCell_other w p k v (fun e => by subst e; rcases hp with hp | hp; exact hs hp; omega)]
    exact h.block k hk hs
theorem Chg.setRow {s : Nat → Prop} {a w : World} (h : Chg s a w) (g : Nat) (cs : Array Value) (hp : s g ∨ a.heap.size ≤ g) : Chg s a (w.setRow g cs) := by
  refine ⟨h.os, h.tape, h.output, ?_, fun k hk hs => ?_⟩
  · rw [setRow_size]; exact h.size
  · rw [setRow_other w g k cs (fun e => by subst e; rcases hp with hp | hp; exact hs hp; omega)]
    exact h.block k hk hs
theorem Chg.grown {s : Nat → Prop} {a w w' : World} (h : Chg s a w) {row : Option Nat} (g : w.grownBy w' row) (hr : ∀ k, row = some k → s k ∨ a.heap.size ≤ k) : Chg s a w' := by
  refine ⟨g.os.trans h.os, g.tape.trans h.tape, g.output.trans h.output, Nat.le_trans h.size g.size, fun k hk hs => ?_⟩
  rw [g.block k (Nat.lt_of_lt_of_le hk h.size) (fun e => by rcases hr k e.symm with hp | hp; exact hs hp; omega)]
  exact h.block k hk hs
theorem Chg.rowC {s : Nat → Prop} {w w' : World} (h : Chg s w w') {b : Nat} {cs : Array Value} {t : TypeId} (hr : rowC w b cs t) (hs : ¬ s b) : rowC w' b cs t := (h.block b (rowC_lt hr) hs).trans hr
theorem Chg.owns {s : Nat → Prop} {w w' : World} (h : Chg s w w') {base : Nat} {e : TypeId} {size n : Nat} {v : Value} {xs : List Value} (ho : w.ownsRow base e size v n xs) (hs : ∀ g, v.ownBlock = some g → ¬ s g) : w'.ownsRow base e size v n xs := by
  have hl := ho.lt
  refine ⟨ho.1, ?_⟩
  rcases ho.2 with hn | ⟨g, cap, cur, hv, hb, hg, hrest⟩
  · exact .inl hn
  · refine .inr ⟨g, cap, cur, hv, hb, ?_, hrest⟩
    have hlt := (hl g (by rw [hv]; rfl)).2
    exact (h.block g hlt (hs g (by rw [hv]; rfl))).trans hg
/-- A row that the call owns is no block of other cells. -/
theorem owns_ne {w : World} {base : Nat} {e t : TypeId} {size n b : Nat} {v : Value} {xs : List Value} {cs : Array Value} (ho : w.ownsRow base e size v n xs) (hr : rowC w b cs t) (hne : e ≠ t) : ∀ g, v.ownBlock = some g → g ≠ b := by
  intro g hg hgb
  rcases ho.2 with ⟨hv, _⟩ | ⟨g', cap, cur, hv, _, hgg, _⟩
  · rw [hv] at hg; cases hg
  · rw [hv] at hg
    simp [Value.ownBlock] at hg
    subst hg
    subst hgb
    unfold Go.Proofs.YtmgpofdmoaafoaaGreatDoor.rowC at hr
    rw [hgg] at hr
    have := Option.some.inj hr
    injection this with _ h2 _
    exact hne h2
theorem owns_form {w : World} {base : Nat} {e : TypeId} {size n : Nat} {v : Value} {xs : List Value} (ho : w.ownsRow base e size v n xs) : ∃ a cap, v = .slice a n cap := by
  rcases ho.2 with ⟨hv, rfl⟩ | ⟨g, cap, cur, hv, _⟩
  · exact ⟨none, 0, hv⟩
  · exact ⟨_, cap, hv⟩
theorem owns_some {w : World} {base : Nat} {e : TypeId} {size n : Nat} {v : Value} {xs : List Value} (ho : w.ownsRow base e size v n xs) (hn : 0 < n) : ∃ g cap, v = .slice (some ⟨g, 0, none⟩) n cap := by
  rcases ho.2 with ⟨hv, rfl⟩ | ⟨g, cap, cur, hv, _⟩
  · omega
  · exact ⟨g, cap, hv⟩
theorem owns_base {w : World} {base : Nat} {e : TypeId} {size n : Nat} {v : Value} {xs : List Value} (ho : w.ownsRow base e size v n xs) : w.ownsRow 0 e size v n xs := by
  refine ⟨ho.1, ?_⟩
  rcases ho.2 with hn | ⟨g, cap, cur, hv, _, hrest⟩
  · exact .inl hn
  · exact .inr ⟨g, cap, cur, hv, Nat.zero_le _, hrest⟩
end Go.Proofs.YtmgpofdmoaafoaaGreatDoor
