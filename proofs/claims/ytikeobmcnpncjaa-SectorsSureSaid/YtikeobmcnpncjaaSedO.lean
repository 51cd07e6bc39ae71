/- Layer 6: SectorsSure: the disk and the three arrays in memory. -/
import Derived.Test.YtikeobmcnpncjaaSedN
namespace Go.Proofs.Ytikeobmcnpncjaa
open Go.RowKit

def cellsB (l : List Bool) : Array Value := (l.map Value.bool).toArray
theorem cellsB_size (l : List Bool) : (cellsB l).size = l.length := by simp [cellsB]
theorem cellsB_get (l : List Bool) (i : Nat) (h : i < l.length) : (cellsB l)[i]? = some (.bool (l.getD i false)) := by
  simp [cellsB, h, List.getD_eq_getElem?_getD]
theorem cellsB_set (l : List Bool) (i : Nat) (x : Bool) : (cellsB l).setIfInBounds i (.bool x) = cellsB (l.set i x) := by
  simp [cellsB, List.map_set]
theorem cellsB_one (l : List Bool) : (cellsB l).all (·.oneCell') = true := all_oneCell_toArray (fun v hv => by
  obtain ⟨x, _, rfl⟩ := List.mem_map.1 hv
  rfl)
/-- The disk d, in blocks of the call's own; S, L and X in three blocks that are not the disk's. -/
structure SureM (I : Impl) (W w : World) (q b7 b8 b9 : Nat) (d : RD) (S L : List UInt8) (X : List Bool) : Prop where
  ex : ∃ o, I.Inv w q d o ∧ (∀ j, o j → W.heap.size ≤ j) ∧ ¬ o b7 ∧ ¬ o b8 ∧ ¬ o b9
  r7 : rowC w b7 (cells8 S) 49
  r8 : rowC w b8 (cells8 L) 49
  r9 : rowC w b9 (cellsB X) 51
  g : W.heap.size ≤ b7 ∧ W.heap.size ≤ b8 ∧ W.heap.size ≤ b9
  ne : b7 ≠ b8 ∧ b7 ≠ b9 ∧ b8 ≠ b9
  b : Below W.heap.size W w
section
variable {I : Impl} {W w : World} {q b7 b8 b9 : Nat} {d : RD} {S L : List UInt8} {X : List Bool}
theorem SureM.below (h : SureM I W w q b7 b8 b9 d S L X) {w' : World} (hb : Below w.heap.size w w') : SureM I W w' q b7 b8 b9 d S L X := by
  obtain ⟨o, h1, h2⟩ := h.ex
  exact ⟨⟨o, I.below h1 hb, h2⟩, rowC_below h.r7 hb (rowC_lt h.r7), rowC_below h.r8 hb (rowC_lt h.r8), rowC_below h.r9 hb (rowC_lt h.r9), h.g, h.ne, h.b.trans (hb.mono h.b.size)⟩
theorem SureM.post (h : SureM I W w q b7 b8 b9 d S L X) {o : Nat → Prop} (h2 : ∀ j, o j → W.heap.size ≤ j) (h3 : ¬ o b7 ∧ ¬ o b8 ∧ ¬ o b9) {d' : RD} {w' : World} (hp : InvPost I.Inv w q o d' w') : SureM I W w' q b7 b8 b9 d' S L X := by
  obtain ⟨o', i1, i2, i3⟩ := hp
  have far : ∀ b, b < w.heap.size → ¬ o b → ¬ o' b := fun b hb ho hx => by
    rcases i3 b hx with h | h
    · exact ho h
    · omega
  refine ⟨⟨o', i1, fun j hj => ?_, far _ (rowC_lt h.r7) h3.1, far _ (rowC_lt h.r8) h3.2.1, far _ (rowC_lt h.r9) h3.2.2⟩, i2.rowC h.r7 h3.1, i2.rowC h.r8 h3.2.1, i2.rowC h.r9 h3.2.2, h.g, h.ne, h.b.trans (i2.below h.b.size (fun j hj hk => by have := h2 j hk; omega))⟩
  rcases i3 j hj with h' | h'
  · exact h2 j h'
  · exact Nat.le_trans h.b.size h'
/-- A change in one of the three blocks. -/
theorem SureM.arr (h : SureM I W w q b7 b8 b9 d S L X) {w' : World} {b : Nat} (hb : b = b7 ∨ b = b8 ∨ b = b9) (hc : Chg (· = b) w w') {S' L' : List UInt8} {X' : List Bool} (r7 : rowC w' b7 (cells8 S') 49) (r8 : rowC w' b8 (cells8 L') 49) (r9 : rowC w' b9 (cellsB X') 51) : SureM I W w' q b7 b8 b9 d S' L' X' := by
  obtain ⟨o, h1, h2, h3, h4, h5⟩ := h.ex
  have hob : ¬ o b := by rcases hb with rfl | rfl | rfl <;> assumption
  have hg : W.heap.size ≤ b := by rcases hb with rfl | rfl | rfl <;> first | exact h.g.1 | exact h.g.2.1 | exact h.g.2.2
  exact ⟨⟨o, I.chg h1 hc (fun j hj e => hob (by rw [← e]; exact hj)), h2, h3, h4, h5⟩, r7, r8, r9, h.g, h.ne, h.b.trans (hc.below h.b.size (fun j hj e => by omega))⟩
theorem SureM.set7 (h : SureM I W w q b7 b8 b9 d S L X) (i : Nat) (c : UInt8) : SureM I W (w.setCell ⟨b7, i, none⟩ (byteV c)) q b7 b8 b9 d (S.set i c) L X := by
  have hc : Chg (· = b7) w (w.setCell ⟨b7, i, none⟩ (byteV c)) := (Chg.refl _ _).setCell _ _ (.inl rfl)
  exact h.arr (.inl rfl) hc (by rw [← cells8_set]; exact rowC_set h.r7 i _) (hc.rowC h.r8 (fun e => h.ne.1 e.symm)) (hc.rowC h.r9 (fun e => h.ne.2.1 e.symm))
theorem SureM.set8 (h : SureM I W w q b7 b8 b9 d S L X) (i : Nat) (c : UInt8) : SureM I W (w.setCell ⟨b8, i, none⟩ (byteV c)) q b7 b8 b9 d S (L.set i c) X := by
  have hc : Chg (· = b8) w (w.setCell ⟨b8, i, none⟩ (byteV c)) := (Chg.refl _ _).setCell _ _ (.inl rfl)
  exact h.arr (.inr (.inl rfl)) hc (hc.rowC h.r7 h.ne.1) (by rw [← cells8_set]; exact rowC_set h.r8 i _) (hc.rowC h.r9 (fun e => h.ne.2.2 e.symm))
theorem SureM.set9 (h : SureM I W w q b7 b8 b9 d S L X) (i : Nat) (c : Bool) : SureM I W (w.setCell ⟨b9, i, none⟩ (.bool c)) q b7 b8 b9 d S L (X.set i c) := by
  have hc : Chg (· = b9) w (w.setCell ⟨b9, i, none⟩ (.bool c)) := (Chg.refl _ _).setCell _ _ (.inl rfl)
  exact h.arr (.inr (.inr rfl)) hc (hc.rowC h.r7 h.ne.2.1) (hc.rowC h.r8 h.ne.2.2) (by rw [← cellsB_set]; exact rowC_set h.r9 i _)
theorem SureM.row7 (h : SureM I W w q b7 b8 b9 d S L X) (S' : List UInt8) : SureM I W (w.setRow b7 (cells8 S')) q b7 b8 b9 d S' L X := by
  have hc : Chg (· = b7) w (w.setRow b7 (cells8 S')) := (Chg.refl _ _).setRow _ _ (.inl rfl)
  exact h.arr (.inl rfl) hc (rowC_setRow h.r7 _) (hc.rowC h.r8 (fun e => h.ne.1 e.symm)) (hc.rowC h.r9 (fun e => h.ne.2.1 e.symm))
theorem SureM.row9 (h : SureM I W w q b7 b8 b9 d S L X) (X' : List Bool) : SureM I W (w.setRow b9 (cellsB X')) q b7 b8 b9 d S L X' := by
  have hc : Chg (· = b9) w (w.setRow b9 (cellsB X')) := (Chg.refl _ _).setRow _ _ (.inl rfl)
  exact h.arr (.inr (.inr rfl)) hc (hc.rowC h.r7 h.ne.2.1) (hc.rowC h.r8 h.ne.2.2) (rowC_setRow h.r9 _)
variable {k : Nat}
theorem s_write (h : SureM I W w q b7 b8 b9 d S L X) (D : SureD d S L X k) (hk : k ≤ 900) {n : Nat} (hn : n < 8) {s : ByteArray} (hs : s.size = 512) :
    Calls Try.prog 14 #[.pointer (some ⟨q, 0, none⟩), .int .i64 (n : Int), .string s] w fun e w' => e = .returned (.int .i64 0) ∧ SureM I W w' q b7 b8 b9 (d.wrote n s) S L X := by
  obtain ⟨o, h1, h2, h3⟩ := h.ex
  refine (I.write n s h1 D.ok (D.few (by omega)) (by rw [hs]; decide)).mono fun e w' ⟨he, hp⟩ => ?_
  rw [D.writes hn hs] at he hp
  exact ⟨he, h.post h2 h3 hp⟩
theorem s_flush (h : SureM I W w q b7 b8 b9 d S L X) (D : SureD d S L X k) (hk : k ≤ 900) : Calls Try.prog 15 #[.pointer (some ⟨q, 0, none⟩)] w fun e w' => e = .returned (.int .i64 0) ∧ SureM I W w' q b7 b8 b9 d.flushed S L X := by
  obtain ⟨o, h1, h2, h3⟩ := h.ex
  refine (I.flush h1 D.ok (D.few (by omega))).mono fun e w' ⟨he, hp⟩ => ?_
  rw [D.flushes] at he hp
  exact ⟨he, h.post h2 h3 hp⟩
theorem s_crash (h : SureM I W w q b7 b8 b9 d S L X) (D : SureD d S L X k) (hk : k ≤ 900) {v : Value} {ks : List Bool} (hv : KeepAt W v ks) (hl : ks.length ≤ 100000) : Calls Try.prog 16 #[.pointer (some ⟨q, 0, none⟩), v] w fun e w' => e = .returned (.int .i64 0) ∧ SureM I W w' q b7 b8 b9 (d.fall ks) S L X := by
  obtain ⟨o, h1, h2, h3⟩ := h.ex
  refine (I.crash h1 D.ok (D.few (by omega)) (hv.keep h.b) hl (two_keep hv h2)).mono fun e w' ⟨he, hp⟩ => ?_
  rw [D.crashes ks] at he hp
  exact ⟨he, h.post h2 h3 hp⟩
theorem s_start {d0 : RD} {ks : List Bool} (h : SureM I W w q b7 b8 b9 (d0.fall ks) S L X) (D : SureD d0 S L X k) (hk : k ≤ 900) : Calls Try.prog 17 #[.pointer (some ⟨q, 0, none⟩)] w fun e w' => e = .returned (.int .i64 0) ∧ SureM I W w' q b7 b8 b9 (d0.fall ks).again S L X := by
  obtain ⟨o, h1, h2, h3⟩ := h.ex
  refine (I.start h1 (D.ok.fall ks) ⟨by simp [RD.fall], by show d0.starts ≤ _; have := D.starts; omega⟩).mono fun e w' ⟨he, hp⟩ => ?_
  rw [fall_start] at he hp
  exact ⟨he, h.post h2 h3 hp⟩
theorem s_loose {n : Nat} (h : SureM I W w q b7 b8 b9 d S L X) (hok : d.ok) (hn : d.loose.length = n) : Calls Try.prog 20 #[.pointer (some ⟨q, 0, none⟩)] w fun e w' => e = .returned (.int .i64 (n : Int)) ∧ SureM I W w' q b7 b8 b9 d S L X := by
  obtain ⟨o, h1, _⟩ := h.ex
  refine (I.loose h1 hok).mono fun e w' ⟨he, hb⟩ => ?_
  rw [hn] at he
  exact ⟨he, h.below hb⟩
theorem s_read {S' L' : List UInt8} {X' : List Bool} (h : SureM I W w q b7 b8 b9 d S L X) (D : SureD d S' L' X' k) (hk : k ≤ 900) {n : Nat} (hn : n < 8) : Calls Try.prog 13 #[.pointer (some ⟨q, 0, none⟩), .int .i64 (n : Int)] w fun e w' => e = .returned (.tuple #[.string (secB (L'.getD n 0)), .int .i64 0]) ∧ SureM I W w' q b7 b8 b9 d S L X := by
  obtain ⟨o, h1, _⟩ := h.ex
  refine (I.read n h1 D.ok (D.few (by omega))).mono fun e w' ⟨he, hb⟩ => ?_
  rw [D.read hn] at he
  exact ⟨he, h.below hb⟩
theorem s_sector (h : SureM I W w q b7 b8 b9 d S L X) (c : UInt8) : Calls Try.prog 23 #[byteV c] w fun e w' => e = .returned (.string (secB c)) ∧ SureM I W w' q b7 b8 b9 d S L X :=
  (sector_any c w).mono fun _ _ ⟨he, hb⟩ => ⟨he, h.below hb⟩
end
theorem s_new {I : Impl} {W w1 : World} {q : Nat} {o : Nat → Prop} {d : RD} (h : I.Inv w1 q d o) (hb : Below W.heap.size W w1) (ho : ∀ k, o k → W.heap.size ≤ k) {S L : List UInt8} {X : List Bool} :
    SureM I W (((w1.alloc (.cells (cells8 S) 49)).alloc (.cells (cells8 L) 49)).alloc (.cells (cellsB X) 51)) q w1.heap.size (w1.heap.size + 1) (w1.heap.size + 1 + 1) d S L X := by
  have b3 : Below w1.heap.size w1 (((w1.alloc (.cells (cells8 S) 49)).alloc (.cells (cells8 L) 49)).alloc (.cells (cellsB X) 51)) := (((Below.refl _ w1).alloc (Nat.le_refl _) _).alloc (by rw [size_alloc]; omega) _).alloc (by rw [size_alloc, size_alloc]; omega) _
  have c0 := rowC_alloc (rowC_alloc (rowC_new w1 (cells8 S) 49) (.cells (cells8 L) 49)) (.cells (cellsB X) 51)
  have c1 := rowC_alloc (rowC_new (w1.alloc (.cells (cells8 S) 49)) (cells8 L) 49) (.cells (cellsB X) 51)
  have c2 := rowC_new ((w1.alloc (.cells (cells8 S) 49)).alloc (.cells (cells8 L) 49)) (cellsB X) 51
  rw [size_alloc] at c1
  rw [size_alloc, size_alloc] at c2
  have hs := hb.size
  have nb : ∀ b, w1.heap.size ≤ b → ¬ o b := fun b hb hx => by have := I.lt h b hx; omega
  exact ⟨⟨o, I.below h b3, ho, nb _ (Nat.le_refl _), nb _ (by omega), nb _ (by omega)⟩, c0, c1, c2, ⟨hs, by omega, by omega⟩, ⟨by omega, by omega, by omega⟩, hb.trans (b3.mono hs)⟩
end Go.Proofs.Ytikeobmcnpncjaa
