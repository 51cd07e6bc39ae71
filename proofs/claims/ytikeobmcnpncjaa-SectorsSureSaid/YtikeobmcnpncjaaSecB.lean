/- Layer 6: the document's disk in memory; fails, Start, Fail. -/
import Derived.Test.YtikeobmcnpncjaaSecA
namespace Go.Proofs.Ytikeobmcnpncjaa
open Go.RowKit

def looseV (l : List (Nat × ByteArray)) : List Value := l.flatMap fun p => [.int .i64 (p.1 : Int), .string p.2]
theorem looseV_length (l : List (Nat × ByteArray)) : (looseV l).length = 2 * l.length := by
  induction l with
  | nil => rfl
  | cons a r ih => simp only [looseV, List.flatMap_cons, List.length_append, List.length_cons, List.length_nil] at ih ⊢; omega
def refC (vS vL vK : Value) (d : RD) : Array Value := #[vS, vL, .bool d.down, .int .i64 (d.starts : Int), .int .i64 d.left, vK]
/-- The document's disk d lies in block p; its three slices are these. -/
structure RefV (w : World) (p : Nat) (vS vL vK : Value) (d : RD) : Prop where
  r : rowC w p (refC vS vL vK d) 66
  s : w.ownsRow 0 9 1 vS d.sure.length (d.sure.map Value.string)
  l : w.ownsRow 0 72 2 vL d.loose.length (looseV d.loose)
  k : w.ownsRow 0 4 1 vK d.keep.length (d.keep.map Value.bool)
/-- The blocks that are its own. -/
def refOwn (p : Nat) (vS vL vK : Value) (k : Nat) : Prop := k = p ∨ vS.ownBlock = some k ∨ vL.ownBlock = some k ∨ vK.ownBlock = some k
theorem RefV.lt {w : World} {p : Nat} {vS vL vK : Value} {d : RD} (h : RefV w p vS vL vK d) : ∀ k, refOwn p vS vL vK k → k < w.heap.size := by
  intro k hk
  rcases hk with rfl | hk | hk | hk
  · exact rowC_lt h.r
  · exact (h.s.lt k hk).2
  · exact (h.l.lt k hk).2
  · exact (h.k.lt k hk).2
/-- It stays where none of its own blocks is changed. -/
theorem RefV.chg {w w' : World} {p : Nat} {vS vL vK : Value} {d : RD} (h : RefV w p vS vL vK d) {s : Nat → Prop} (hc : Chg s w w') (hs : ∀ k, refOwn p vS vL vK k → ¬ s k) : RefV w' p vS vL vK d :=
  ⟨hc.rowC h.r (hs p (.inl rfl)), hc.owns h.s (fun g hg => hs g (.inr (.inl hg))), hc.owns h.l (fun g hg => hs g (.inr (.inr (.inl hg)))), hc.owns h.k (fun g hg => hs g (.inr (.inr (.inr hg))))⟩
theorem RefV.below {w w' : World} {p : Nat} {vS vL vK : Value} {d : RD} (h : RefV w p vS vL vK d) (hb : Below w.heap.size w w') : RefV w' p vS vL vK d := h.chg (s := fun _ => False) (Chg.of_below hb) (fun _ _ => id)
/-- A store into its block leaves its rows. -/
theorem RefV.rows {w : World} {p : Nat} {vS vL vK : Value} {d : RD} (h : RefV w p vS vL vK d) (i : Nat) (x : Value) :
    (w.setCell ⟨p, i, none⟩ x).ownsRow 0 9 1 vS d.sure.length (d.sure.map Value.string) ∧ (w.setCell ⟨p, i, none⟩ x).ownsRow 0 72 2 vL d.loose.length (looseV d.loose) ∧ (w.setCell ⟨p, i, none⟩ x).ownsRow 0 4 1 vK d.keep.length (d.keep.map Value.bool) := by
  have hc : Chg (· = p) w (w.setCell ⟨p, i, none⟩ x) := (Chg.refl _ w).setCell _ _ (.inl rfl)
  exact ⟨hc.owns h.s (owns_ne h.s h.r (by decide)), hc.owns h.l (owns_ne h.l h.r (by decide)), hc.owns h.k (owns_ne h.k h.r (by decide))⟩
/-- A number or a bool of it is another one. -/
theorem RefV.set {w : World} {p : Nat} {vS vL vK : Value} {d d' : RD} (h : RefV w p vS vL vK d) (i : Nat) (x : Value) (hcs : (refC vS vL vK d).setIfInBounds i x = refC vS vL vK d') (hs : d'.sure = d.sure) (hl : d'.loose = d.loose) (hk : d'.keep = d.keep) : RefV (w.setCell ⟨p, i, none⟩ x) p vS vL vK d' := by
  obtain ⟨h1, h2, h3⟩ := h.rows i x
  refine ⟨?_, by rw [hs]; exact h1, by rw [hl]; exact h2, by rw [hk]; exact h3⟩
  rw [← hcs]
  exact rowC_set h.r i x
theorem RefV.free {w : World} {p : Nat} {vS vL vK : Value} {d : RD} (h : RefV w p vS vL vK d) (i : Nat) : w.frozen? ⟨p, i, none⟩ = false := rowC_free h.r i
theorem RefV.cell {w : World} {p : Nat} {vS vL vK : Value} {d : RD} (h : RefV w p vS vL vK d) :
    w.cell? ⟨p, 0, none⟩ = some vS ∧ w.cell? ⟨p, 1, none⟩ = some vL ∧ w.cell? ⟨p, 2, none⟩ = some (.bool d.down) ∧ w.cell? ⟨p, 3, none⟩ = some (.int .i64 (d.starts : Int)) ∧ w.cell? ⟨p, 4, none⟩ = some (.int .i64 d.left) ∧ w.cell? ⟨p, 5, none⟩ = some vK :=
  ⟨rowC_cell h.r 0, rowC_cell h.r 1, rowC_cell h.r 2, rowC_cell h.r 3, rowC_cell h.r 4, rowC_cell h.r 5⟩
/-- What a call leaves of it: d' in the same block, in rows that were its own, or are new; nothing else is changed. -/
def RefPost (w : World) (p : Nat) (vS vL vK : Value) (d' : RD) (w' : World) : Prop :=
  ∃ vS' vL' vK', RefV w' p vS' vL' vK' d' ∧ Chg (· = p) w w' ∧ ∀ k, refOwn p vS' vL' vK' k → refOwn p vS vL vK k ∨ w.heap.size ≤ k
theorem RefPost.same {w w' : World} {p : Nat} {vS vL vK : Value} {d' : RD} (h : RefV w' p vS vL vK d') (hc : Chg (· = p) w w') : RefPost w p vS vL vK d' w' := ⟨vS, vL, vK, h, hc, fun _ hk => .inl hk⟩
theorem RefPost.trans {w w1 w2 : World} {p : Nat} {vS vL vK vS1 vL1 vK1 : Value} {d : RD} (h : RefPost w1 p vS1 vL1 vK1 d w2) (hc : Chg (· = p) w w1) (ho : ∀ k, refOwn p vS1 vL1 vK1 k → refOwn p vS vL vK k ∨ w.heap.size ≤ k) : RefPost w p vS vL vK d w2 := by
  obtain ⟨a, b, c, h1, h2, h3⟩ := h
  refine ⟨a, b, c, h1, hc.trans h2 (fun _ _ h => h), fun k hk => ?_⟩
  rcases h3 k hk with h | h
  · exact ho k h
  · exact .inr (Nat.le_trans hc.size h)

theorem Chg.setP {p : Nat} {a w : World} (h : Chg (· = p) a w) (i : Nat) (v : Value) : Chg (· = p) a (w.setCell ⟨p, i, none⟩ v) := h.setCell _ _ (.inl rfl)
set_option maxHeartbeats 400000 in
theorem rfails_any {w : World} {p : Nat} {vS vL vK : Value} {d : RD} (h : RefV w p vS vL vK d) (hok : d.ok) :
    Calls Try.prog 48 #[.pointer (some ⟨p, 0, none⟩)] w fun e w' => e = .returned (.bool d.fails) ∧ RefV w' p vS vL vK d.less ∧ Chg (· = p) w w' := by
  obtain ⟨_, _, _, _, c4, _⟩ := h.cell
  have f4 := h.free 4
  obtain ⟨l1, l2⟩ := hok.left
  have H := Lib.hid h
  clear h hok
  by_cases h0 : d.left = 0
  · have HR := Lib.hid (show d.fails = true ∧ d.less = d by
      unfold RD.fails RD.less
      rw [h0]; exact ⟨rfl, by cases d; simp_all⟩)
    rw [h0] at c4
    clear h0 l1 l2
    go_enter Try.func48, Try.ntmps48
    go_wp2
    go_ret
    exact ⟨retBool HR.out.1.symm, by rw [HR.out.2]; exact H.out, Chg.refl _ _⟩
  · have hb : (d.left == 0) = false := by simpa using h0
    have HF := Lib.hid (show d.fails = false by unfold RD.fails; simpa using h0)
    by_cases h1 : 0 < d.left
    · have HL := Lib.hid (show d.less = { d with left := d.left - 1 } by unfold RD.less; rw [if_pos h1])
      have HS := Lib.hid (H.out.set (d' := { d with left := d.left - 1 }) 4 (.int .i64 (d.left - 1)) rfl rfl rfl rfl)
      generalize d.left = q at *
      clear h0
      go_enter Try.func48, Try.ntmps48
      go_wp2
      go_ret
      exact ⟨retBool HF.out.symm, by rw [HL.out]; exact HS.out, (Chg.refl _ _).setP _ _⟩
    · have HL := Lib.hid (show d.less = d by unfold RD.less; rw [if_neg h1])
      generalize d.left = q at *
      clear h0
      go_enter Try.func48, Try.ntmps48
      go_wp2
      go_ret
      exact ⟨retBool HF.out.symm, by rw [HL.out]; exact H.out, Chg.refl _ _⟩
set_option maxHeartbeats 400000 in
theorem rstart_any {w : World} {p : Nat} {vS vL vK : Value} {d : RD} (h : RefV w p vS vL vK d) (hst : d.starts ≤ 1000000) :
    Calls Try.prog 29 #[.pointer (some ⟨p, 0, none⟩)] w fun e w' => e = .returned (.int .i64 d.start.2) ∧ RefPost w p vS vL vK d.start.1 w' := by
  obtain ⟨_, _, c2, c3, _, _⟩ := h.cell
  have f2 := h.free 2
  have f3 := h.free 3
  have H := Lib.hid h
  clear h
  cases hd : d.down
  · have HR := Lib.hid (show d.start = (d, 2) by unfold RD.start; rw [hd]; rfl)
    rw [hd] at c2
    clear hd
    go_enter Try.func29, Try.ntmps29
    go_wp2
    go_ret
    exact ⟨retInt (by rw [HR.out]), by rw [HR.out]; exact RefPost.same H.out (Chg.refl _ _)⟩
  · have HR := Lib.hid (show d.start = ({ d with down := false, starts := d.starts + 1 }, 0) by unfold RD.start; rw [hd]; rfl)
    rw [hd] at c2
    have h1 := H.out.set (d' := { d with down := false }) 2 (.bool false) rfl rfl rfl rfl
    have h2 := h1.set (d' := { d with down := false, starts := d.starts + 1 }) 3 (.int .i64 ((d.starts : Int) + 1)) rfl rfl rfl rfl
    have HS := Lib.hid h2
    clear hd h1 h2
    go_enter Try.func29, Try.ntmps29
    go_wp2
    go_ret
    exact ⟨retInt (by rw [HR.out]), by rw [HR.out]; exact RefPost.same HS.out (((Chg.refl _ _).setP _ _).setP _ _)⟩
end Go.Proofs.Ytikeobmcnpncjaa
