/- Layer 15: the document's reader: its memory, and its steps plainly. -/
import Derived.Test.YtmgpofdmoaafoaaGreatDoorTsW
namespace Go.Proofs.YtmgpofdmoaafoaaGreatDoor
open Go.RowKit

def rec00 : Recs := ⟨none, none, none⟩
/-- What the reader keeps: the entries so far, and the box of three rows that stand in wait. -/
structure RdM (w : World) (v : Value) (out : List Ent) (wt : Option Recs) (W : World) : Prop where
  o : OwnsE W (w.heap.size + 1) v out
  q : ∃ c0 c1 c2, rowC W w.heap.size #[c0, c1, c2] 61 ∧ RcAt (w.heap.size + 1) W c0 c1 c2 (wt.getD rec00)
  b : Below w.heap.size w W
theorem RdM.start (w : World) : RdM w (.slice none 0 0) [] none (w.alloc (.cells none3 61)) :=
  ⟨ownsE_nil _ _, ⟨_, _, _, rowC_new w _ _, ⟨rfl, rfl, rfl⟩⟩, (Below.refl _ _).alloc (Nat.le_refl _) _⟩
theorem RdM.lt {w W : World} {v : Value} {out : List Ent} {wt : Option Recs} (h : RdM w v out wt W) : w.heap.size + 1 ≤ W.heap.size := by
  obtain ⟨_, _, _, h1, _⟩ := h.q
  exact rowC_lt h1
theorem RdM.below {w W W' : World} {v : Value} {out : List Ent} {wt : Option Recs} (h : RdM w v out wt W) (hb : Below W.heap.size W W') : RdM w v out wt W' := by
  have hl := h.lt
  obtain ⟨c0, c1, c2, h1, h2⟩ := h.q
  exact ⟨(Chg.of_below (s := fun _ => False) hb).owns h.o (fun _ _ h => h), ⟨c0, c1, c2, rowC_below h1 hb (by omega), h2.chg (Chg.of_below (s := fun _ => False) hb) (fun _ _ h => h)⟩, h.b.trans (hb.mono (by omega))⟩
theorem RdM.drewN {w W : World} {v : Value} {out : List Ent} {wt : Option Recs} (h : RdM w v out wt W) (n : Nat) : RdM w v out wt (W.drewN n) := h.below (below_drewN (Below.refl _ _) n)
/-- The box is told other rows. -/
theorem RdM.setBox {w W : World} {v : Value} {out : List Ent} {wt : Option Recs} (h : RdM w v out wt W) {c0 c1 c2 : Value} {r : Recs} (hr : RcAt (w.heap.size + 1) W c0 c1 c2 r) : RdM w v out (some r) (W.drew.setRow w.heap.size #[c0, c1, c2]) := by
  obtain ⟨d0, d1, d2, h1, _⟩ := h.q
  have hc : Chg (fun k => k = w.heap.size) W (W.drew.setRow w.heap.size #[c0, c1, c2]) := (Chg.drew (Chg.refl _ _)).setRow _ _ (.inl rfl)
  refine ⟨hc.owns h.o (fun g hg e => by have := (World.ownsRow.lt h.o g hg).1; omega), ⟨c0, c1, c2, rowC_setRow (rowC_drew h1) _, hr.chg hc (fun k hk e => by omega)⟩, below_setRow (h.b.drew) (Nat.le_refl _) _⟩
/-- .. and beside it an entry that is being made, in a block that is younger. -/
def EtM (w : World) (v : Value) (out : List Ent) (wt : Option Recs) (bx : Nat) (x : Ent) (W : World) : Prop :=
  ∃ W1, RdM w v out wt W1 ∧ W1.heap.size ≤ bx ∧ Below W1.heap.size W1 W ∧ rowC W bx (entA x) 39
theorem EtM.m {w : World} {v : Value} {out : List Ent} {wt : Option Recs} {bx : Nat} {x : Ent} {W : World} (h : EtM w v out wt bx x W) : RdM w v out wt W := by
  obtain ⟨W1, h1, _, h3, _⟩ := h
  exact h1.below h3
theorem EtM.r {w : World} {v : Value} {out : List Ent} {wt : Option Recs} {bx : Nat} {x : Ent} {W : World} (h : EtM w v out wt bx x W) : rowC W bx (entA x) 39 := by
  obtain ⟨_, _, _, _, h4⟩ := h
  exact h4
theorem EtM.start {w : World} {v : Value} {out : List Ent} {wt : Option Recs} {W : World} (h : RdM w v out wt W) (x : Ent) : EtM w v out wt W.heap.size x (W.alloc (.cells (entA x) 39)) :=
  ⟨W, h, Nat.le_refl _, (Below.refl _ _).alloc (Nat.le_refl _) _, rowC_new _ _ _⟩
theorem EtM.drewN {w : World} {v : Value} {out : List Ent} {wt : Option Recs} {bx : Nat} {x : Ent} {W : World} (h : EtM w v out wt bx x W) (n : Nat) : EtM w v out wt bx x (W.drewN n) := by
  obtain ⟨W1, h1, h2, h3, h4⟩ := h
  exact ⟨W1, h1, h2, below_drewN h3 n, rowC_drewN h4 n⟩
theorem EtM.set {w : World} {v : Value} {out : List Ent} {wt : Option Recs} {bx : Nat} {x y : Ent} {W : World} (h : EtM w v out wt bx x W) (i : Nat) (u : Value) (hu : (entA x).setIfInBounds i u = entA y) : EtM w v out wt bx y (W.setCell ⟨bx, i, none⟩ u) := by
  obtain ⟨W1, h1, h2, h3, h4⟩ := h
  exact ⟨W1, h1, h2, h3.setCell (p := ⟨bx, i, none⟩) h2 _, by have := rowC_set h4 i u; rwa [hu] at this⟩
theorem EtM.cells {w : World} {v : Value} {out : List Ent} {wt : Option Recs} {bx : Nat} {x : Ent} {W : World} (h : EtM w v out wt bx x W) :
    W.cell? ⟨bx, 0, none⟩ = some (.int .i64 x.kind) ∧ W.cell? ⟨bx, 1, none⟩ = some (.string (str x.name)) ∧ W.cell? ⟨bx, 2, none⟩ = some (.string (str x.to)) ∧ W.cell? ⟨bx, 4, none⟩ = some (.string (str x.data)) ∧ ∀ i, W.frozen? ⟨bx, i, none⟩ = false :=
  ⟨rowC_cell h.r 0, rowC_cell h.r 1, rowC_cell h.r 2, rowC_cell h.r 4, fun i => rowC_free h.r i⟩
/-- What the box tells of a key. -/
theorem RdM.rows {w W : World} {v : Value} {out : List Ent} {wt : Option Recs} (h : RdM w v out wt W) : ∃ c0 c1 c2, W.cell? ⟨w.heap.size, 0, none⟩ = some c0 ∧ W.cell? ⟨w.heap.size, 1, none⟩ = some c1 ∧ W.cell? ⟨w.heap.size, 2, none⟩ = some c2 ∧
    OptAt (w.heap.size + 1) W c0 (wPath wt) ∧ OptAt (w.heap.size + 1) W c1 (wLink wt) ∧ OptAt (w.heap.size + 1) W c2 (wSize wt) := by
  obtain ⟨c0, c1, c2, h1, h2⟩ := h.q
  refine ⟨c0, c1, c2, rowC_cell h1 0, rowC_cell h1 1, rowC_cell h1 2, ?_, ?_, ?_⟩
  · cases wt with
    | none => exact h2.p
    | some r => exact h2.p
  · cases wt with
    | none => exact h2.l
    | some r => exact h2.l
  · cases wt with
    | none => exact h2.s
    | some r => exact h2.s
theorem OptAt.form {base : Nat} {w : World} {v : Value} {o : Option Bs} (h : OptAt base w v o) : ∃ a n, v = .slice a n n ∧ (o = none ∧ a = none ∧ n = 0 ∨ ∃ t b, o = some t ∧ a = some ⟨b, 0, none⟩ ∧ n = 1 ∧ w.cell? ⟨b, 0, none⟩ = some (.string (str t))) := by
  cases o with
  | none => exact ⟨none, 0, h, .inl ⟨rfl, rfl, rfl⟩⟩
  | some t =>
    obtain ⟨b, h1, _, _, h4⟩ := h
    exact ⟨_, _, h1, .inr ⟨t, b, rfl, rfl, rfl, h4⟩⟩
/-- An entry is appended, and nothing waits any more. -/
theorem RdM.push {w W W' : World} {v v' : Value} {out out' : List Ent} {wt : Option Recs} (h : RdM w v out wt W) (ho : OwnsE W' (w.heap.size + 1) v' out') (hb : Below (w.heap.size + 1) W W') : RdM w v' out' none (W'.setRow w.heap.size none3) := by
  obtain ⟨d0, d1, d2, h1, _⟩ := h.q
  have hc : Chg (fun k => k = w.heap.size) W' (W'.setRow w.heap.size none3) := (Chg.refl _ _).setRow _ _ (.inl rfl)
  have hlt := h.lt
  refine ⟨hc.owns ho (fun g hg e => by have := (World.ownsRow.lt ho g hg).1; omega), ⟨_, _, _, rowC_setRow (rowC_below h1 hb (by omega)) none3, ⟨rfl, rfl, rfl⟩⟩, below_setRow (h.b.trans (hb.mono (by omega))) (Nat.le_refl _) _⟩
theorem EtM.box {w : World} {v : Value} {out : List Ent} {wt : Option Recs} {bx : Nat} {x : Ent} {W : World} (h : EtM w v out wt bx x W) : ∃ d0 d1 d2, rowC W w.heap.size #[d0, d1, d2] 61 := by
  obtain ⟨d0, d1, d2, h1, _⟩ := h.m.q
  exact ⟨d0, d1, d2, h1⟩
theorem EtM.drew {w : World} {v : Value} {out : List Ent} {wt : Option Recs} {bx : Nat} {x : Ent} {W : World} (h : EtM w v out wt bx x W) : EtM w v out wt bx x W.drew := by
  obtain ⟨W1, h1, h2, h3, h4⟩ := h
  exact ⟨W1, h1, h2, h3.drew, rowC_drew h4⟩
/-- What is wrong with an entry's texts. -/
def entE (k : Int) (nm lk : Bs) : Nat := if textE nm ≠ 0 then textE nm else if isLinkK k = true then textE lk else 0
theorem addR_e {x : Ent} {r : Bs} {out : List Ent} : addR x r out = if entE x.kind x.name x.to ≠ 0 then .inl (entE x.kind x.name x.to) else if out.length = 200 then .inl 63 else .inr (r, none, out ++ [x]) := by
  unfold addR entE
  by_cases h1 : textE x.name = 0
  · rw [if_neg (not_not_intro h1), if_neg (not_not_intro h1)]
    by_cases h2 : isLinkK x.kind = true
    · rw [if_pos h2]
      by_cases h3 : textE x.to = 0
      · rw [if_neg (fun e => e.2 h3), if_neg (not_not_intro h3)]
      · rw [if_pos ⟨h2, h3⟩, if_pos h3]
    · rw [if_neg (fun e => h2 e.1), if_neg h2, if_neg (show ¬ ((0 : Nat) ≠ 0) from not_not_intro rfl)]
  · rw [if_pos h1, if_pos h1, if_pos h1]
theorem entE_one {K : Int} {nm lk : Bs} (h : textE nm = 0) (hk : isLinkK K = true) : entE K nm lk = textE lk := by
  unfold entE
  rw [if_neg (not_not_intro h), if_pos hk]
theorem entE_two {K : Int} {nm lk : Bs} (h : ¬ (textE nm = 0 ∧ isLinkK K = true)) : entE K nm lk = textE nm := by
  unfold entE
  by_cases h1 : textE nm = 0
  · rw [if_neg (not_not_intro h1), if_neg (fun e => h ⟨h1, e⟩), h1]
  · rw [if_pos h1]
theorem kindL_link {k : UInt8} (hk : k = 0 ∨ k = 48 ∨ k = 49 ∨ k = 50 ∨ k = 53) {K : Int} (h : K = kindL k) : (isLinkK K = true ↔ 2 < K) := by
  subst h
  rcases hk with e | e | e | e | e <;> subst e <;> decide
theorem ents_1 (w : World) (x : Ent) : EntsAt (w.alloc (.cells (entA x) 39)) (some ⟨w.heap.size, 0, none⟩) [x] := fun i y hy => by
  match i, hy with
  | 0, hy =>
    obtain rfl : x = y := by simpa using hy
    refine ⟨_, rfl, by rw [size_alloc]; show w.heap.size < w.heap.size + 1; omega, fun j u hu => ?_⟩
    have e : ((⟨w.heap.size, 0, none⟩ : Addr).add (0 * 5)).add j = ⟨w.heap.size, j, none⟩ := by
      unfold Addr.add
      by_cases h2 : j = 0 <;> simp [h2]
    rw [e, rowC_cell (rowC_new w (entA x) 39) j, ← entV_arr, List.getElem?_toArray]
    exact hu
  | i + 1, hy => simp at hy
theorem none3_one : none3.all (·.oneCell') = true := by simp [Value.oneCell', none3]
/-! ### A step, as the document takes it -/
/-- How many bytes an entry has: its own number, or a record's, of files. -/
def sizeK (k : UInt8) (wt : Option Recs) (own : Nat) : Option Nat := if kindL k = 1 then sizeOr wt own else some own
def entD (h : Hd) (wt : Option Recs) (d : Bs) : Ent := ⟨kindL h.kind, (wPath wt).getD h.name, if isLinkK (kindL h.kind) = true then (wLink wt).getD h.link else [], ((h.mode % 4096 : Nat) : Int), d⟩
theorem step_file {h : Hd} {r : Bs} {wt : Option Recs} {out : List Ent} (hk : h.kind = 0 ∨ h.kind = 48) :
    stepR h r wt out = match sizeOr wt h.size with
      | none => .inl 10
      | some n => if r.length < 512 * blocksN n then .inl 10 else addR ⟨1, (wPath wt).getD h.name, [], ((h.mode % 4096 : Nat) : Int), r.take n⟩ (r.drop (512 * blocksN n)) out := by
  unfold stepR
  rw [if_neg (by rcases hk with e | e <;> rw [e] <;> decide), if_pos hk]
  cases sizeOr wt h.size with
  | none => rfl
  | some n =>
    simp only
    unfold takeR
    by_cases hl : r.length < 512 * blocksN n
    · rw [if_pos hl, if_pos hl]
    · rw [if_neg hl, if_neg hl]
theorem step_ent {h : Hd} {r : Bs} {wt : Option Recs} {out : List Ent} (hk : h.kind = 0 ∨ h.kind = 48 ∨ h.kind = 49 ∨ h.kind = 50 ∨ h.kind = 53) :
    stepR h r wt out = match sizeK h.kind wt h.size with
      | none => .inl 10
      | some n => if (kindL h.kind ≠ 1 ∧ n ≠ 0) ∨ r.length < 512 * blocksN n then .inl 10 else addR (entD h wt (r.take n)) (r.drop (512 * blocksN n)) out := by
  by_cases h2 : h.kind = 0 ∨ h.kind = 48
  · have hk1 : kindL h.kind = 1 := by rcases h2 with e | e <;> rw [e] <;> decide
    rw [step_file h2]
    unfold sizeK entD
    rw [if_pos hk1, hk1]
    cases sizeOr wt h.size with
    | none => rfl
    | some n =>
      simp only
      by_cases hl : r.length < 512 * blocksN n
      · rw [if_pos hl, if_pos (.inr hl)]
      · rw [if_neg hl, if_neg (by rintro (⟨h1, _⟩ | h2); exact h1 rfl; exact hl h2)]; rfl
  · have h3 : h.kind = 49 ∨ h.kind = 50 ∨ h.kind = 53 := by
      rcases hk with e | e | e
      · exact absurd (.inl e) h2
      · exact absurd (.inr e) h2
      · exact e
    have hk1 : kindL h.kind ≠ 1 := by rcases h3 with e | e | e <;> rw [e] <;> decide
    have b0 : blocksN 0 = 0 := rfl
    have hto : (if h.kind = 53 then [] else (wLink wt).getD h.link) = (if isLinkK (kindL h.kind) = true then (wLink wt).getD h.link else []) := by
      rcases h3 with e | e | e <;> rw [e] <;> rfl
    unfold stepR sizeK entD
    rw [if_pos h3, if_neg hk1]
    simp only
    by_cases hs : h.size = 0
    · rw [hto, if_neg (show ¬ h.size ≠ 0 by simp [hs]), hs, b0, Nat.mul_zero, List.drop_zero, List.take_zero, if_neg (show ¬ ((kindL h.kind ≠ 1 ∧ (0 : Nat) ≠ 0) ∨ r.length < 0) by rintro (⟨_, h2⟩ | h2); exact h2 rfl; omega)]
    · rw [if_pos hs, if_pos (.inl ⟨hk1, hs⟩)]
theorem step_other {h : Hd} {r : Bs} {wt : Option Recs} {out : List Ent} (h0 : h.kind ≠ 0) (h1 : h.kind ≠ 48) (h2 : h.kind ≠ 49) (h3 : h.kind ≠ 50) (h4 : h.kind ≠ 53) (h5 : h.kind ≠ 120) : stepR h r wt out = .inl 72 := by
  unfold stepR
  rw [if_neg (by rintro (e | e | e); exact h2 e; exact h3 e; exact h4 e), if_neg (by rintro (e | e); exact h0 e; exact h1 e), if_neg h5]
theorem step_x {h : Hd} {r : Bs} {wt : Option Recs} {out : List Ent} (hk : h.kind = 120) :
    stepR h r wt out = if r.length < 512 * blocksN h.size then .inl 10 else match recsR (r.take h.size) rec00 with
      | none => .inl 10
      | some rs => if wt.isSome then .inl 10 else .inr (r.drop (512 * blocksN h.size), some rs, out) := by
  unfold stepR takeR
  rw [if_neg (by rw [hk]; decide), if_neg (by rw [hk]; decide), if_pos hk]
  by_cases hl : r.length < 512 * blocksN h.size
  · rw [if_pos hl, if_pos hl]
  · rw [if_neg hl, if_neg hl]; rfl
theorem kindL_of {k : UInt8} (hk : k = 0 ∨ k = 48 ∨ k = 49 ∨ k = 50 ∨ k = 53) {K : Int} (h : K = kindL k) {T : Bs} {T2 : Bs} (h2 : T2 = if isLinkK K = true then T else []) :
    (k.toNat = 0 → K = 1 ∧ T2 = []) ∧ (k.toNat = 48 → K = 1 ∧ T2 = []) ∧ (k.toNat = 49 → K = 3 ∧ T2 = T) ∧ (k.toNat = 50 → K = 4 ∧ T2 = T) ∧ (k.toNat = 53 → K = 2 ∧ T2 = []) := by
  subst h2 h
  rcases hk with e | e | e | e | e <;> subst e <;> refine ⟨?_, ?_, ?_, ?_, ?_⟩ <;> intro h <;> first | exact absurd h (by decide) | exact ⟨rfl, rfl⟩
theorem sizeK_lt {k : UInt8} {wt : Option Recs} {own n : Nat} (ho : own < 1099511627776) (h : sizeK k wt own = some n) : n < 1099511627776 := by
  unfold sizeK at h
  split at h
  · unfold sizeOr at h
    split at h
    · cases h; exact ho
    · exact (numP_lt h).1
  · cases h; exact ho
theorem sizeK_ne {k : UInt8} {wt : Option Recs} {own : Nat} (h : kindL k ≠ 1) : sizeK k wt own = some own := if_neg h
theorem sizeK_none {k : UInt8} {wt : Option Recs} {own : Nat} (hw : wSize wt = none) : sizeK k wt own = some own := by
  unfold sizeK sizeOr
  rw [hw]
  split <;> rfl
theorem sizeK_some {k : UInt8} {wt : Option Recs} {own : Nat} {t : Bs} (h : kindL k = 1) (hw : wSize wt = some t) : sizeK k wt own = numP 10 t := by
  unfold sizeK sizeOr
  rw [if_pos h, hw]
theorem magic_cat : (⟨#[117, 115, 116, 97, 114]⟩ : ByteArray) ++ (⟨#[0]⟩ : ByteArray) ++ (⟨#[48, 48]⟩ : ByteArray) = str magicL := by
  rw [show (⟨#[117, 115, 116, 97, 114]⟩ : ByteArray) = str [117, 115, 116, 97, 114] from rfl, show (⟨#[0]⟩ : ByteArray) = str [0] from rfl, show (⟨#[48, 48]⟩ : ByteArray) = str [48, 48] from rfl, str_append, str_append]
  rfl
theorem numF_lt {t : Bs} {n : Nat} (h : numF t = some n) : n < 1099511627776 := (numP_lt h).1
end Go.Proofs.YtmgpofdmoaafoaaGreatDoor
