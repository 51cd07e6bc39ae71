/- Layer 11: an item of a list. -/
import Derived.Test.YtlknngplnimdpaaGreatDoorJtP
namespace Go.Proofs.YtlknngplnimdpaaGreatDoor
open Go.RowKit

theorem info_V3 : (Tryz.prog.info? 63).map (fun i => (i.zero, i.size, i.bytes)) = some (some (.agg #[.int .i64 0, .string ⟨#[]⟩, .slice none 0 0, .slice none 0 0]), 4, 72) := by kernel_rfl
/-- What is asked of 'value', by some fuel. -/
def ValOk (n : Nat) : Prop := ∀ (w : World) (q : Nat) (S l : Bs) (lev : Nat) (R : Res JV), okS S → Env w → 10 ≤ q → RdAt w q S l lev → lev ≤ 16 → valP n lev l = some R →
  Calls Tryz.prog 98 #[.pointer (some ⟨q, 0, none⟩)] w fun e w' => saysV w q S l lev R e w'
/-- What a list has gathered. -/
structure StL (bL br bv q : Nat) (acc : List JV) (w : World) : Prop where
  le : bL ≤ w.heap.size
  box : rowC w br #[.pointer (some ⟨q, 0, none⟩)] 118
  row : ∃ I, rowC w bv #[.int .i64 5, .string ⟨#[]⟩, I, .slice none 0 0] 63 ∧ RowJ w bL I acc (fun k => k = br ∨ k = bv)
theorem StL.kept {bL br bv q : Nat} {acc : List JV} {w w' : World} (h : StL bL br bv q acc w) (hc : Chg (· = q) w w') (hq : q < bL) (h1 : br ≠ q) (h2 : bv ≠ q) : StL bL br bv q acc w' := by
  obtain ⟨I, hr, hj⟩ := h.row
  exact ⟨Nat.le_trans h.le hc.size, hc.rowC h.box h1, I, hc.rowC hr h2, hj.chg hc (fun k hk => .inl (by omega))⟩
theorem row_far {w w' : World} {b : Nat} {cs : Array Value} {t : TypeId} {row : Option Nat} (h : rowC w b cs t) (g : w.grownBy w' row) (hne : row ≠ some b) : rowC w' b cs t := (g.block b (rowC_lt h) (fun e => hne e.symm)).trans h
/-- A value is put to the end of what was gathered. -/
theorem RowJ.put {w w1 : World} {bL : Nat} {I : Value} {acc : List JV} {own : Nat → Prop} {x : JV} {a b c d : Value} {lo hi g cap n : Nat} {xs : List Value} {F : Nat → Prop}
    (hI : ItemsC w F acc xs) (hF : ∀ k, F k → bL ≤ k ∧ ¬ own k ∧ I.ownBlock ≠ some k) (hn : acc.length = n)
    (hx : HoldsC w (fun k => lo ≤ k ∧ k < hi) x a b c d) (hlo : bL ≤ lo) (hhi : hi ≤ w.heap.size) (hown : ∀ k, own k → k < lo ∨ hi ≤ k) (hIo : ∀ k, I.ownBlock = some k → k < lo)
    (h1 : w1.ownsRow bL 63 4 (.slice (some ⟨g, 0, none⟩) (n + 1) cap) (n + 1) (xs ++ [.int .i64 0, .string ⟨#[]⟩, .slice none 0 0, .slice none 0 0])) (hc1 : Chg (fun k => I.ownBlock = some k ∨ own k ∨ k < bL) w w1) (hat : I.ownBlock = some g ∨ w.heap.size ≤ g) (hno : ¬ own g) :
    RowJ ((((w1.setCell ⟨g, n * 4, none⟩ a).setCell ⟨g, n * 4 + 1, none⟩ b).setCell ⟨g, n * 4 + 2, none⟩ c).setCell ⟨g, n * 4 + 3, none⟩ d) bL (.slice (some ⟨g, 0, none⟩) (n + 1) cap) (acc ++ [x]) own := by
  have hl := ItemsC.len acc xs hI
  rw [hn] at hl
  have s1 := (h1.stored (n * 4) a).1
  have s2 := (s1.stored (n * 4 + 1) b).1
  have s3 := (s2.stored (n * 4 + 2) c).1
  have s4 := (s3.stored (n * 4 + 3) d).1
  rw [← hl, set4] at s4
  have hc2 : Chg (fun k => k = g) w1 ((((w1.setCell ⟨g, n * 4, none⟩ a).setCell ⟨g, n * 4 + 1, none⟩ b).setCell ⟨g, n * 4 + 2, none⟩ c).setCell ⟨g, n * 4 + 3, none⟩ d) := ((((Chg.refl _ w1).cellq _ _).cellq _ _).cellq _ _).cellq _ _
  have items : ItemsC ((((w1.setCell ⟨g, n * 4, none⟩ a).setCell ⟨g, n * 4 + 1, none⟩ b).setCell ⟨g, n * 4 + 2, none⟩ c).setCell ⟨g, n * 4 + 3, none⟩ d) (fun k => (F k ∧ k < w.heap.size) ∨ (lo ≤ k ∧ k < hi)) (acc ++ [x]) (xs ++ [a, b, c, d]) := by
    have ne1 : ∀ k, ((F k ∧ k < w.heap.size) ∨ (lo ≤ k ∧ k < hi)) → ¬ I.ownBlock = some k := by
      rintro k (⟨hk, _⟩ | ⟨hk1, _⟩) e
      · exact (hF k hk).2.2 e
      · have := hIo k e; omega
    have ne2 : ∀ k, ((F k ∧ k < w.heap.size) ∨ (lo ≤ k ∧ k < hi)) → ¬ k = g := by
      intro k hk e
      subst e
      rcases hat with hat | hat
      · exact ne1 _ hk hat
      · rcases hk with ⟨_, hk⟩ | ⟨_, hk⟩ <;> omega
    have ne3 : ∀ k, ((F k ∧ k < w.heap.size) ∨ (lo ≤ k ∧ k < hi)) → ¬ (I.ownBlock = some k ∨ own k ∨ k < bL) := by
      intro k hk e
      rcases e with e | e | e
      · exact ne1 k hk e
      · rcases hk with ⟨hk, _⟩ | ⟨hk1, _⟩
        · exact (hF k hk).2.1 e
        · have := hown k e; omega
      · rcases hk with ⟨hk, _⟩ | ⟨hk1, _⟩
        · have := (hF k hk).1; omega
        · omega
    refine ItemsC.snoc ?_ acc xs ?_
    · exact HoldsC.chg hc2 ne2 x _ _ _ _ (HoldsC.chg hc1 ne3 x _ _ _ _ (HoldsC.mono (fun k hk _ => .inr hk) x _ _ _ _ hx))
    · exact ItemsC.chg hc2 ne2 acc xs (ItemsC.chg hc1 ne3 acc xs (ItemsC.mono (fun k hk hlt => .inl ⟨hk, hlt⟩) acc xs hI))
  refine ⟨⟨_, _, ?_, items, ?_⟩, ?_⟩
  · rw [List.length_append, List.length_singleton, hn, ← hl]
    exact s4
  · rintro k (⟨hk, hlt⟩ | ⟨hk1, hk2⟩)
    · refine ⟨(hF k hk).1, (hF k hk).2.1, fun e => ?_⟩
      simp only [Value.ownBlock, Option.some.injEq] at e
      subst e
      rcases hat with hat | hat
      · exact (hF _ hk).2.2 hat
      · omega
    · refine ⟨by omega, fun ho => by have := hown k ho; omega, fun e => ?_⟩
      simp only [Value.ownBlock, Option.some.injEq] at e
      subst e
      rcases hat with hat | hat
      · have := hIo _ hat; omega
      · omega
  · intro k hk e
    simp only [Value.ownBlock, Option.some.injEq] at e
    subst e
    exact hno hk
theorem RowJ.renew {w : World} {bL : Nat} {I : Value} {acc : List JV} {own own' : Nat → Prop} (h : RowJ w bL I acc own) (ho : ∀ k, own' k → own k ∨ w.heap.size ≤ k) : RowJ w bL I acc own' := by
  obtain ⟨⟨xs, F, h1, h2, h3⟩, h4⟩ := h
  refine ⟨⟨xs, fun k => F k ∧ k < w.heap.size, h1, ItemsC.mono (fun k hk hlt => ⟨hk, hlt⟩) acc xs h2, fun k hk => ⟨(h3 k hk.1).1, fun hok => ?_, (h3 k hk.1).2.2⟩⟩, fun k hk e => ?_⟩
  · rcases ho k hok with h5 | h5
    · exact (h3 k hk.1).2.1 h5
    · have := hk.2; omega
  · rcases ho k hk with h5 | h5
    · exact h4 k h5 e
    · have := (h1.lt k e).2; omega
/-- What a value's reading says, both ways in one. -/
def gotV (w : World) (q : Nat) (S r : Bs) (lev : Nat) (R : Res JV) (a b c d ev : Value) (w' : World) : Prop :=
  match R with
  | .ok v x => ev = .nilIface ∧ HoldsC w' (fun k => w.heap.size ≤ k ∧ k < w'.heap.size) v a b c d ∧ okP w q S x lev w'
  | .bad code x => ev = errAt S code x ∧ badP w q S r w'
theorem saysV_all {w w' : World} {q : Nat} {S r : Bs} {lev : Nat} {R : Res JV} {e : Ending} (h : saysV w q S r lev R e w') :
    ∃ (k : Int) (t : ByteArray) (x1 : Option Addr) (n1 c1 : Nat) (x2 : Option Addr) (n2 c2 : Nat) (ev : Value), e = .returned (.tuple #[.agg #[.int .i64 k, .string t, .slice x1 n1 c1, .slice x2 n2 c2], ev]) ∧
      Hid (Chg (· = q) w w' ∧ gotV w q S r lev R (.int .i64 k) (.string t) (.slice x1 n1 c1) (.slice x2 n2 c2) ev w') := by
  cases R with
  | ok v x =>
    obtain ⟨V, rfl, ⟨a, b, c, d, rfl, h2⟩, h3⟩ := h
    obtain ⟨rfl, rfl, ⟨x, cap, rfl⟩, y, cap', rfl⟩ := h2.form
    exact ⟨_, _, _, _, _, _, _, _, _, rfl, Lib.hid ⟨h3.2, rfl, h2, h3⟩⟩
  | bad code x =>
    obtain ⟨V, rfl, ⟨k, t, x1, n1, c1, x2, n2, c2, rfl⟩, h3⟩ := h
    exact ⟨_, _, _, _, _, _, _, _, _, rfl, Lib.hid ⟨h3.2, rfl, h3⟩⟩
theorem suf_of {S r x : Bs} (h1 : x <:+ S) (h2 : r <:+ S) (h : x.length ≤ r.length) : x <:+ r := List.suffix_of_suffix_length_le h1 h2 h
end Go.Proofs.YtlknngplnimdpaaGreatDoor
