/- Merged: OcQ, OgA, OgB. -/
import Derived.Test.YtnkencdibniagaaGreatDoorM44
import Derived.Lib.ItoaLen
import Derived.Test.YtnkencdibniagaaGreatDoorM21
import Derived.Test.YtnkencdibniagaaGreatDoorM34
import Derived.Deep.RegionHeld3
import Derived.Deep.DeepCutAuto
import Derived.Deep.CutBlock
import Derived.Test.YtnkencdibniagaaGreatDoorM26
/- Layer 13, plain: how long what is turned is, as a text. -/
namespace Go.Proofs.YtnkencdibniagaaGreatDoor
open Go.Lib

end Go.Proofs.YtnkencdibniagaaGreatDoor

/- Layer 13: what 'turned' keeps while it gathers: the value's box, the answer's row, and the value that is gathered, with a row of keys and a row of values of its own. -/
namespace Go.Proofs.YtnkencdibniagaaGreatDoor
open Go.RowKit

theorem keysV_snoc (ks : List Bs) (y : Bs) : keysV (ks ++ [y]) = keysV ks ++ [.string (str y)] := by simp [keysV]
structure TuM (w : World) (row : Array Value) (bL b2 : Nat) (kk : Int) (t : Bs) (ks : List Bs) (acc : List JV) (VI VK : Value) (W : World) : Prop where
  o : w.heap.size + 2 ≤ b2 ∧ b2 < bL
  b : Below w.heap.size w W
  x : rowC W w.heap.size row 63
  z : rowC W (w.heap.size + 1) zeroV4 63
  r : rowC W b2 #[.int .i64 kk, .string (str t), VI, VK] 63
  k : W.ownsRow bL 9 1 VK ks.length (keysV ks)
  i : RowJ W bL VI acc (fun q => q = b2 ∨ VK.ownBlock = some q)
theorem TuM.key {w : World} {row : Array Value} {bL b2 n g cap : Nat} {kk : Int} {t y : Bs} {ks : List Bs} {acc : List JV} {VI VK : Value} {W W1 w7 : World} (h : TuM w row bL b2 kk t ks acc VI VK W) (c1 : Chg (fun _ => False) W W1) (hn : ks.length = n)
    (ho : w7.ownsRow bL 9 1 (.slice (some ⟨g, 0, none⟩) (n + 1) cap) (n + 1) (keysV ks ++ [.string (str y)])) (hg : W1.grownBy w7 VK.ownBlock) (hat : VK.ownBlock = some g ∨ W1.heap.size ≤ g) :
    TuM w row bL b2 kk t (ks ++ [y]) acc VI (.slice (some ⟨g, 0, none⟩) (n + 1) cap) (w7.setCell ⟨b2, 3, none⟩ (.slice (some ⟨g, 0, none⟩) (n + 1) cap)) := by
  have o1 := h.o.1
  have o2 := h.o.2
  have s0 := h.b.size
  have s1 := c1.size
  have hK : ∀ q, VK.ownBlock = some q → bL ≤ q ∧ q < W.heap.size := fun q hq => h.k.lt q hq
  have c7 : Chg (fun q => VK.ownBlock = some q) W w7 := (c1.mono (fun _ _ h => h.elim)).trans ((Chg.refl (fun q => VK.ownBlock = some q) W1).grown hg (fun q hq => .inl hq)) (fun q _ hq => hq)
  have c8 : Chg (fun q => q = b2) w7 (w7.setCell ⟨b2, 3, none⟩ (.slice (some ⟨g, 0, none⟩) (n + 1) cap)) := (Chg.refl _ w7).cellq 3 _
  have r7 := c7.rowC h.r (fun e => by have := (hK b2 e).1; omega)
  have hgb : bL ≤ g := (ho.lt g rfl).1
  refine ⟨h.o, ?_, c8.rowC (c7.rowC h.x (fun e => by have := (hK _ e).1; omega)) (by omega), c8.rowC (c7.rowC h.z (fun e => by have := (hK _ e).1; omega)) (by omega), rowC_set r7 3 _, ?_, ?_⟩
  · exact (h.b.trans (c7.below s0 (fun q hq e => by have := (hK q e).1; omega))).setCell (p := ⟨b2, 3, none⟩) (show w.heap.size ≤ b2 by omega) _
  · rw [keysV_snoc, List.length_append, List.length_singleton, hn]
    exact c8.owns ho (fun q hq e => by simp only [Value.ownBlock, Option.some.injEq] at hq; omega)
  · have i1 : RowJ W bL VI acc (fun q => q = b2 ∨ VK.ownBlock = some q ∨ g = q) := h.i.renew (fun q hq => by
      rcases hq with e | e | e
      · exact .inl (.inl e)
      · exact .inl (.inr e)
      · rcases hat with e2 | e2
        · exact .inl (.inr (by rw [e2, e]))
        · exact .inr (by omega))
    have i2 := i1.chg c7 (fun q hq => .inr (.inr (.inl hq)))
    have i3 := i2.chg c8 (fun q hq => .inr (.inl hq))
    refine i3.renew (fun q hq => ?_)
    rcases hq with e | e
    · exact .inl (.inl e)
    · simp only [Value.ownBlock, Option.some.injEq] at e
      exact .inl (.inr (.inr e))
theorem TuM.item {w : World} {row : Array Value} {bL b2 n g cap lo : Nat} {kk : Int} {t : Bs} {ks : List Bs} {acc : List JV} {VI VK : Value} {W w5 w7 : World} {x : JV} {a b c d : Value} {xs : List Value} {F : Nat → Prop} {o2 : Obj} (h : TuM w row bL b2 kk t ks acc VI VK W)
    (hI : ItemsC W F acc xs) (hF : ∀ q, F q → bL ≤ q ∧ ¬ (q = b2 ∨ VK.ownBlock = some q) ∧ VI.ownBlock ≠ some q) (hVI : ∀ q, VI.ownBlock = some q → q < W.heap.size) (hn : acc.length = n)
    (c5 : Chg (fun _ => False) W w5) (hlo : W.heap.size ≤ lo) (hbl : bL ≤ W.heap.size) (hx : HoldsC w5 (fun q => lo ≤ q ∧ q < w5.heap.size) x a b c d)
    (ho7 : w7.ownsRow bL 63 4 (.slice (some ⟨g, 0, none⟩) (n + 1) cap) (n + 1) (xs ++ [a, b, c, d])) (hg7 : (w5.alloc o2).grownBy w7 VI.ownBlock) (hat : VI.ownBlock = some g ∨ g = w5.heap.size + 1) :
    TuM w row bL b2 kk t ks (acc ++ [x]) (.slice (some ⟨g, 0, none⟩) (n + 1) cap) VK (w7.setCell ⟨b2, 2, none⟩ (.slice (some ⟨g, 0, none⟩) (n + 1) cap)) := by
  have p1 := h.o.1
  have p2 := h.o.2
  have s0 := h.b.size
  have s5 := c5.size
  have sa : (w5.alloc o2).heap.size = w5.heap.size + 1 := size_alloc _ _
  have hne := h.i.ne
  have hK : ∀ q, VK.ownBlock = some q → bL ≤ q ∧ q < W.heap.size := fun q hq => h.k.lt q hq
  have hJ : ∀ q, VI.ownBlock = some q → bL ≤ q := fun q hq => by
    obtain ⟨_, _, h1, _⟩ := h.i.ex
    exact (h1.lt q hq).1
  have c5a : Chg (fun _ => False) W (w5.alloc o2) := c5.alloc _
  have c7 : Chg (fun q => VI.ownBlock = some q) (w5.alloc o2) w7 := (Chg.refl _ _).grown hg7 (fun q hq => .inl hq)
  have cw7 : Chg (fun q => VI.ownBlock = some q) W w7 := (c5a.mono (fun _ _ h => h.elim)).trans c7 (fun q _ hq => hq)
  have c8 : Chg (fun q => q = b2) w7 (w7.setCell ⟨b2, 2, none⟩ (.slice (some ⟨g, 0, none⟩) (n + 1) cap)) := (Chg.refl _ w7).cellq 2 _
  have r7 := cw7.rowC h.r (fun e => by have := hJ b2 e; omega)
  refine ⟨h.o, ?_, c8.rowC (cw7.rowC h.x (fun e => by have := hJ _ e; omega)) (by omega), c8.rowC (cw7.rowC h.z (fun e => by have := hJ _ e; omega)) (by omega), rowC_set r7 2 _, ?_, ?_⟩
  · exact (h.b.trans (cw7.below s0 (fun q hq e => by have := hJ q e; omega))).setCell (p := ⟨b2, 2, none⟩) (show w.heap.size ≤ b2 by omega) _
  · exact c8.owns (cw7.owns h.k (fun q hq e => hne q (.inr hq) e)) (fun q hq e => by have := (hK q hq).1; omega)
  · refine RowJ.chg ?_ c8 (fun q hq => .inr (.inl hq))
    refine RowJ.app (w := w5.alloc o2) (lo := lo) (hi := w5.heap.size) (ItemsC.chg c5a (fun _ _ h => h) acc xs (ItemsC.mono (G := fun q => F q ∧ q < W.heap.size) (fun q hq hlt => ⟨hq, hlt⟩) acc xs hI)) (fun q hq => hF q hq.1) hn (HoldsC.chg ((Chg.refl (fun _ => False) w5).alloc o2) (fun _ _ h => h) x _ _ _ _ hx) (by omega) (by omega) ?_ (fun q hq => by have := hVI q hq; omega) ho7 c7 ?_ ?_
    · intro q hq
      rcases hq with e | e
      · exact .inl (by omega)
      · exact .inl (by have := (hK q e).2; omega)
    · rcases hat with e | e
      · exact .inl e
      · exact .inr (by omega)
    · rintro (e | e)
      · rcases hat with e2 | e2
        · have := hJ _ e2; omega
        · omega
      · rcases hat with e2 | e2
        · exact hne g (.inr e) e2
        · have := (hK g e).2; omega
/-- What is answered. -/
theorem TuM.fin {w : World} {row : Array Value} {bL b2 : Nat} {kk : Int} {t : Bs} {ks : List Bs} {acc : List JV} {VI VK : Value} {W : World} (h : TuM w row bL b2 kk t ks acc VI VK W) (ht : t.length ≤ 281474976710656) (r : Array Value) :
    HoldsJ (W.setRow (w.heap.size + 1) r) (fun k => w.heap.size ≤ k ∧ k < (W.setRow (w.heap.size + 1) r).heap.size) (.mk kk t acc ks) (.agg #[.int .i64 kk, .string (str t), VI, VK]) ∧ Below w.heap.size w (W.setRow (w.heap.size + 1) r) := by
  have p1 := h.o.1
  have p2 := h.o.2
  have hc : Chg (fun q => q = w.heap.size + 1) W (W.setRow (w.heap.size + 1) r) := (Chg.refl _ _).setRow _ _ (.inl rfl)
  have hsz : (W.setRow (w.heap.size + 1) r).heap.size = W.heap.size := setRow_size _ _ _
  refine ⟨⟨_, _, _, _, rfl, ?_⟩, below_setRow h.b (by omega) _⟩
  rw [HoldsC]
  refine ⟨rfl, rfl, ht, ?_, ?_⟩
  · have hk := hc.owns h.k (fun q hq e => by have := (h.k.lt q hq).1; omega)
    rcases hk.2 with ⟨hv, hn⟩ | ⟨g, cap, cur, hv, hb, _⟩
    · exact .inl ⟨hv, List.eq_nil_of_length_eq_zero hn⟩
    · refine .inr ⟨⟨g, 0, none⟩, cap, hv, fun i hi => ⟨⟨by show w.heap.size ≤ g; omega, (hk.lt g (by rw [hv]; rfl)).2⟩, ?_⟩⟩
      have := hk.cells (g := g) (by rw [hv]; rfl) i (.string (str (ks.getD i []))) (by unfold keysV; rw [List.getElem?_map, List.getElem?_eq_getElem hi]; simp [List.getD, hi])
      simpa [Addr.add] using this
  · have hj := (h.i.chg (own := fun q => q = b2 ∨ VK.ownBlock = some q) hc (fun q hq => .inl (by omega))).holds
    rcases hj with h1 | ⟨ad, cap, h1, h2⟩
    · exact .inl h1
    · exact .inr ⟨ad, cap, h1, HoldsR.mono (fun k hk hlt => ⟨by show w.heap.size ≤ k; have hk : bL ≤ k := hk; omega, hlt⟩) _ _ _ h2⟩
end Go.Proofs.YtnkencdibniagaaGreatDoor

/- Layer 13: a value, turned. -/
namespace Go.Proofs.YtnkencdibniagaaGreatDoor
open Go.RowKit

end Go.Proofs.YtnkencdibniagaaGreatDoor

