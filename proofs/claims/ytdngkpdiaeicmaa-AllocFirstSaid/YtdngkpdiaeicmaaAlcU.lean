/- Layer 8: AllocApart: the map, the list of what is in use, and what was told. -/
import Derived.Test.YtdngkpdiaeicmaaAlcT
namespace Go.Proofs.Ytdngkpdiaeicmaa
open Go.RowKit

/-- A list of bytes, wherever it lies. -/
def BytesAt (w : World) (v : Value) (zs : List UInt8) : Prop :=
  (v = .slice none 0 0 ∧ zs = []) ∨ ∃ (ad : Addr) (cap : Nat), v = .slice (some ad) zs.length cap ∧ zs.length ≤ maxLen ∧ ∀ j, j < zs.length → w.cell? (ad.add j) = some (byteV (zs.getD j 0))
theorem bytes_form {w : World} {v : Value} {zs : List UInt8} (h : BytesAt w v zs) : ∃ a cap, v = .slice a zs.length cap := by
  rcases h with ⟨rfl, rfl⟩ | ⟨ad, cap, rfl, _⟩
  · exact ⟨none, 0, rfl⟩
  · exact ⟨_, cap, rfl⟩
theorem bytes_le {w : World} {v : Value} {zs : List UInt8} (h : BytesAt w v zs) : zs.length ≤ maxLen := by
  rcases h with ⟨_, rfl⟩ | ⟨_, _, _, h, _⟩
  · exact Nat.zero_le _
  · exact h
theorem bytes_at {W : World} {a : Option Addr} {n cap : Nat} {zs : List UInt8} (h : BytesAt W (.slice a n cap) zs) {k : Nat} (hk : k < zs.length) : ∃ (ad : Addr) (x : Nat), a = some ad ∧ x < 256 ∧ ∀ w, Below W.heap.size W w → w.cell? (ad.add k) = some (.int .u8 (x : Int)) := by
  rcases h with ⟨_, rfl⟩ | ⟨ad, cap', hv, _, hc⟩
  · simp at hk
  · simp only [Value.slice.injEq] at hv
    refine ⟨ad, (zs.getD k 0).toNat, hv.1, UInt8.toNat_lt _, fun w hb => ?_⟩
    have h1 := hc k hk
    have hlt := World.block_lt_of_cell? W _ h1
    exact (hb.cell hlt).trans h1
/-- The map is L; the list of what is in use, in block gU, is U; xs: what was told. -/
structure ApC (I : Impl) (W w : World) (q gU capU n : Nat) (L U : List Bool) (xs : List (Value × List (Nat × Nat))) (o : Nat → Prop) : Prop where
  i : I.Inv w q L o
  oW : ∀ k, o k → W.heap.size ≤ k
  h : ∀ y ∈ xs, OwnsE w W.heap.size y.1 y.2 ∧ ∀ g, y.1.ownBlock = some g → ¬ o g
  u : w.ownsRow W.heap.size 4 1 (.slice (some ⟨gU, 0, none⟩) n capU) n (U.map Value.bool)
  uo : ¬ o gU
  b : Below W.heap.size W w
  un : U.length = n
def ApI (I : Impl) (W w : World) (q gU capU n : Nat) (L U : List Bool) (xs : List (Value × List (Nat × Nat))) : Prop := ∃ o, ApC I W w q gU capU n L U xs o
section
variable {I : Impl} {W w w' : World} {q gU capU n : Nat} {L U : List Bool} {xs : List (Value × List (Nat × Nat))} {o : Nat → Prop}
theorem ApC.step (h : ApC I W w q gU capU n L U xs o) {s : Nat → Prop} (hc : Chg s w w') (hs : ∀ j, s j → o j) {L' : List Bool} {o' : Nat → Prop} (i' : I.Inv w' q L' o') (ho : ∀ k, o' k → o k ∨ w.heap.size ≤ k) : ApC I W w' q gU capU n L' U xs o' := by
  have hgU := (h.u.lt gU rfl).2
  refine ⟨i', fun k hk => ?_, fun y hy => ?_, hc.owns h.u (fun g hg e => ?_), fun e => ?_, Chg.belowW h.b hc (fun j hj => h.oW j (hs j hj)), h.un⟩
  · rcases ho k hk with hk | hk
    · exact h.oW k hk
    · exact Nat.le_trans h.b.size hk
  · obtain ⟨j1, j2⟩ := h.h y hy
    refine ⟨owns_chg j1 hc (fun g hg e => j2 g hg (hs g e)), fun g hg e => ?_⟩
    rcases ho g e with hk | hk
    · exact j2 g hg hk
    · have := (j1.lt g hg).2; omega
  · simp only [Value.ownBlock, Option.some.injEq] at hg
    subst hg
    exact h.uo (hs _ e)
  · rcases ho gU e with hk | hk
    · exact h.uo hk
    · omega
theorem ApI.below (h : ApI I W w q gU capU n L U xs) (hb : Below w.heap.size w w') : ApI I W w' q gU capU n L U xs := by
  obtain ⟨o, h⟩ := h
  exact ⟨o, h.step (Chg.of_below (s := fun _ => False) hb) (fun _ hj => hj.elim) (I.below h.i hb) (fun _ hk => .inl hk)⟩
theorem ApI.size (h : ApI I W w q gU capU n L U xs) : Below W.heap.size W w := by obtain ⟨o, h⟩ := h; exact h.b
theorem ap_take (h : ApI I W w q gU capU n L U xs) (k : Int) (hn : isI k) {l : List (Nat × Nat)} {b : Bool} {M : List Bool} (ht : takeL L k = (l, b, M)) :
    Calls Try.prog 15 #[.pointer (some ⟨q, 0, none⟩), .int .i64 k] w fun e w' => ∃ a cap, e = .returned (.tuple #[.slice a l.length cap, .bool b]) ∧ ApI I W w' q gU capU n M U [(.slice a l.length cap, l)] := by
  obtain ⟨o, h⟩ := h
  refine (I.take k h.i hn).mono fun e w' ⟨x, he, hx, o', i1, i2, i3, i4⟩ => ?_
  rw [ht] at he hx i1
  replace hx : OwnsE w' w.heap.size x l := hx
  obtain ⟨a, cap, rfl⟩ := hx.form
  have h2 := h.step i2 (fun _ hj => hj) i1 i3
  exact ⟨a, cap, he, o', h2.i, h2.oW, fun y hy => by rw [List.mem_singleton.1 hy]; exact ⟨owns_up hx h.b.size, i4⟩, h2.u, h2.uo, h2.b, h2.un⟩
theorem ap_give (h : ApI I W w q gU capU n L U xs) {x : Value} {l : List (Nat × Nat)} (hx : (x, l) ∈ xs) (hl : ∀ y ∈ l, y.1 + y.2 ≤ 4096) (hle : l.length ≤ 8) {b : Bool} {M : List Bool} (ht : giveR L (toI l) = (b, M)) :
    Calls Try.prog 12 #[.pointer (some ⟨q, 0, none⟩), x] w fun e w' => e = .returned (.bool b) ∧ ApI I W w' q gU capU n M U xs := by
  obtain ⟨o, h⟩ := h
  obtain ⟨hx1, hx2⟩ := h.h _ hx
  replace hx1 : OwnsE w W.heap.size x l := hx1
  replace hx2 : ∀ g, x.ownBlock = some g → ¬ o g := hx2
  refine (I.give h.i (hx1.ext (by unfold maxLen; omega)) (toI_ok hl) (fun ad n' cap he hn ho => ?_)).mono fun e w' ⟨he, o', i1, i2, i3⟩ => ?_
  · subst he
    obtain ⟨_, _, hv⟩ := OwnsE.form hx1
    simp only [Value.slice.injEq] at hv
    obtain ⟨g, cap', hv2⟩ := owns_some hx1 (by omega)
    simp only [Value.slice.injEq, Option.some.injEq] at hv2
    obtain ⟨rfl, _⟩ := hv2
    exact hx2 g rfl ho
  · rw [ht] at he i1
    exact ⟨he, o', h.step i2 (fun _ hj => hj) i1 i3⟩
theorem ap_bytes (h : ApI I W w q gU capU n L U xs) : Calls Try.prog 21 #[.pointer (some ⟨q, 0, none⟩)] w fun e w' => e = .returned (.string (str (packL L))) ∧ ApI I W w' q gU capU n L U xs := by
  obtain ⟨o, h0⟩ := id h
  exact (I.bytes h0.i).mono fun e w' ⟨he, hb⟩ => ⟨he, h.below hb⟩
theorem ap_used (h : ApI I W w q gU capU n L U xs) : Calls Try.prog 18 #[.pointer (some ⟨q, 0, none⟩)] w fun e w' => e = .returned (.int .i64 (usedL L : Int)) ∧ ApI I W w' q gU capU n L U xs := by
  obtain ⟨o, h0⟩ := id h
  exact (I.used h0.i).mono fun e w' ⟨he, hb⟩ => ⟨he, h.below hb⟩
theorem ap_of (I : Impl) {w : World} {n : Nat} {L : List Bool} (hn : L.length = n) (h1 : 1 ≤ n) (h2 : n ≤ 4096) : Calls Try.prog 23 #[.string (str (packL L)), .int .i64 (n : Int)] w fun e w' => ∃ q', e = .returned (.tuple #[.pointer (some ⟨q', 0, none⟩), .int .i64 0]) ∧ I.Own w w' q' L := by
  refine (I.of (str (packL L)) n w h1 h2 (by rw [str_size, packL_length]; omega)).mono fun e w' hh => ?_
  rw [str_toList] at hh
  have ho := of_pack L
  rw [hn] at ho
  rcases hh with ⟨h1, _⟩ | ⟨L', q', o', h1, h2, h3, h4, h5⟩
  · rw [ho] at h1; cases h1
  · rw [ho] at h1
    obtain rfl := Option.some.inj h1
    exact ⟨q', h2, o', h3, h4, h5⟩
/-- A cell of the list. -/
theorem ApI.at (h : ApI I W w q gU capU n L U xs) {j : Nat} (hj : j < n) : w.cell? ⟨gU, j, none⟩ = some (.bool (U.getD j false)) ∧ w.frozen? ⟨gU, j, none⟩ = false := by
  obtain ⟨o, h⟩ := h
  have hn := h.un
  refine ⟨?_, h.u.frozenAt j⟩
  rw [h.u.cellAt j (by omega), List.getElem?_map, List.getElem?_eq_getElem (by omega), List.getD_eq_getElem?_getD, List.getElem?_eq_getElem (by omega)]
  rfl
theorem ApI.set (h : ApI I W w q gU capU n L U xs) (j : Nat) (b : Bool) : ApI I W (w.setCell ⟨gU, j, none⟩ (.bool b)) q gU capU n L (U.set j b) xs := by
  obtain ⟨o, h⟩ := h
  have hc : Chg (· = gU) w (w.setCell ⟨gU, j, none⟩ (.bool b)) := (Chg.refl _ _).setCell _ _ (.inl rfl)
  have hg := (h.u.lt gU rfl).1
  refine ⟨o, I.chg h.i hc (fun k hk e => h.uo (by rw [← e]; exact hk)), h.oW, fun y hy => ?_, ?_, h.uo, h.b.setCell (p := ⟨gU, j, none⟩) hg _, by rw [List.length_set]; exact h.un⟩
  · obtain ⟨j1, j2⟩ := h.h y hy
    exact ⟨owns_chg j1 hc (fun g hg e => owns_apart h.u j1 (by decide) gU rfl (by rw [← e]; exact hg)), j2⟩
  · rw [List.map_set]
    exact (h.u.stored j (.bool b)).1
theorem ApI.ext (h : ApI I W w q gU capU n L U xs) {a : Option Addr} {m cap : Nat} {l : List (Nat × Nat)} (hx : (.slice a m cap, l) ∈ xs) {k : Nat} (hk : k < l.length) :
    ∃ g, a = some ⟨g, 0, none⟩ ∧ w.cell? ⟨g, k * 2, none⟩ = some (.int .i64 ((l.getD k (0, 0)).1 : Int)) ∧ w.cell? ⟨g, k * 2 + 1, none⟩ = some (.int .i64 ((l.getD k (0, 0)).2 : Int)) := by
  obtain ⟨o, h⟩ := h
  obtain ⟨g, h1, _, h4, h5⟩ := (h.h _ hx).1.at hk
  exact ⟨g, h1, h4, h5⟩
theorem ApI.none (h : ApI I W w q gU capU n L U xs) : ApI I W w q gU capU n L U [] := by
  obtain ⟨o, h⟩ := h
  exact ⟨o, h.i, h.oW, fun y hy => by simp at hy, h.u, h.uo, h.b, h.un⟩
theorem ap_start {w1 : World} {capU : Nat} (h : I.Own W w1 q L) (hb : Below w1.heap.size w1 w') (hu : w'.ownsRow w1.heap.size 4 1 (.slice (some ⟨gU, 0, none⟩) n capU) n (U.map Value.bool)) (hn : U.length = n) : ApI I W w' q gU capU n L U [] := by
  obtain ⟨o, h1, h2, h3⟩ := h
  have hg := (hu.lt gU rfl).1
  refine ⟨o, I.below h1 hb, h3, fun y hy => by simp at hy, ?_, fun e => by have := I.lt h1 gU e; omega, h2.trans (hb.mono h2.size), hn⟩
  refine ⟨hu.1, ?_⟩
  rcases hu.2 with hn | ⟨g, cap, cur, hv, hg, hrest⟩
  · exact .inl hn
  · exact .inr ⟨g, cap, cur, hv, Nat.le_trans h2.size hg, hrest⟩
end
end Go.Proofs.Ytdngkpdiaeicmaa
