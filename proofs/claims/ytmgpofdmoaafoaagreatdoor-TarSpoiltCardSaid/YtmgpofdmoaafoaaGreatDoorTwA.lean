/- Layer 15: bytes that stand in a row and may be written. -/
import Derived.Test.YtmgpofdmoaafoaaGreatDoorTsP
import Derived.Test.YtmgpofdmoaafoaaGreatDoorTrU
import Derived.Laws.IdiomStrings
namespace Go.Proofs.YtmgpofdmoaafoaaGreatDoor
open Go.RowKit Go.WideShapes

/-- Bytes that stand in a row, each of which may be written. -/
structure BytesF (w : World) (q : Nat) (l : Bs) : Prop where
  lt : q < w.heap.size
  c : ∀ j, j < l.length → w.cell? ⟨q, j, none⟩ = some (byteV (l.getD j 0))
  f : ∀ j, j < l.length → w.frozen? ⟨q, j, none⟩ = false
theorem BytesF.of_block {w w' : World} {q : Nat} {l : Bs} (h : BytesF w q l) (hs : q < w'.heap.size) (hb : w'.heap[q]? = w.heap[q]?) : BytesF w' q l :=
  ⟨hs, fun j hj => by rw [World.cell?_of_block (a := ⟨q, j, none⟩) hb]; exact h.c j hj, fun j hj => by rw [World.frozen?_of_block (a := ⟨q, j, none⟩) hb]; exact h.f j hj⟩
theorem BytesF.chg {s : Nat → Prop} {w w' : World} {q : Nat} {l : Bs} (h : BytesF w q l) (hc : Chg s w w') (hs : ¬ s q) : BytesF w' q l :=
  h.of_block (Nat.lt_of_lt_of_le h.lt hc.size) (hc.block q h.lt hs)
theorem BytesF.set {w : World} {q : Nat} {l : Bs} (h : BytesF w q l) {k : Nat} (hk : k < l.length) (v : UInt8) : BytesF (w.setCell ⟨q, k, none⟩ (.int .u8 (v.toNat : Int))) q (l.set k v) := by
  refine ⟨by rw [World.size_setCell]; exact h.lt, fun j hj => ?_, fun j hj => ?_⟩
  · rw [List.length_set] at hj
    by_cases e : j = k
    · subst e
      rw [World.cell?_setCell_same _ _ _ (h.c j hj)]
      simp [List.getD, hj, byteV]
    · rw [World.cell?_setCell_other _ _ _ _ (by simp <;> omega), h.c j hj]
      simp [List.getD, List.getElem?_set_ne (Ne.symm e)]
  · rw [List.length_set] at hj
    rw [World.frozen?_setCell]
    exact h.f j hj
theorem BytesF.drew {w : World} {q : Nat} {l : Bs} (h : BytesF w q l) : BytesF w.drew q l := h.of_block h.lt rfl
/-- '[]byte(s)': a row anew. -/
theorem convF_row (l : Bs) (w : World) : ∃ cap W', (convert 9 30 (.string (str l))).run Tryz.prog w = .ok (.slice (some ⟨w.heap.size, 0, none⟩) l.length cap) W' ∧ l.length ≤ cap ∧ BytesF W' w.heap.size l ∧ Below w.heap.size w W' := by
  have hrun := run_bytes_of_string (P := Tryz.prog) w 9 30 5 (str l) Tryz.underlying9 Tryz.underlying30 Tryz.underlying5
  rw [str_size] at hrun
  obtain ⟨cap, hcap⟩ : ∃ c, c = grownCap w l.length 0 5 := ⟨_, rfl⟩
  rw [← hcap] at hrun
  refine ⟨cap, _, hrun, ?_, ?_, ((Below.refl _ _).drew).alloc (Nat.le_refl _) _⟩
  · rw [hcap]; exact grownCap_ge _ _ _ _
  · refine ⟨by simp, fun j hj => ?_, fun j hj => ?_⟩
    · have := World.cell?_alloc_mark w.drew (bytesRow (str l) cap) 5 ((bytesRow (str l) cap).size, (bytesRow (str l) cap).size + 1) j
      refine Eq.trans this ?_
      unfold bytesRow str byteV
      rw [Array.getElem?_append_left (by simpa using hj)]
      simp [List.getD, hj]
    · refine Eq.trans (World.frozen?_alloc_mark w.drew (bytesRow (str l) cap) 5 (bytesRow (str l) cap).size ((bytesRow (str l) cap).size + 1) j) ?_
      have : l.length ≤ (bytesRow (str l) cap).size := by unfold bytesRow str; simp
      simp; omega
/-- .. and back, all of it or a piece. -/
theorem conv_text {w : World} {q cap n : Nat} {z : Bs} (h : BytesF w q z) (hn : z.length = n) : (convert 30 9 (.slice (some ⟨q, 0, none⟩) n cap)).run Tryz.prog w = .ok (.string (str z)) w := by
  subst hn
  refine run_convert_bytes_back (P := Tryz.prog) w 30 9 5 ⟨q, 0, none⟩ cap z Tryz.underlying30 Tryz.underlying5 Tryz.underlying9 (fun j hj => ?_)
  rw [Go.WideShapes.add_plain, Nat.zero_add, h.c j hj]
  simp [byteV, List.getD, hj]
theorem conv_piece {w : World} {q cap k n : Nat} {z : Bs} (h : BytesF w q z) (hn : k + n ≤ z.length) : (convert 30 9 (.slice (some ⟨q, k, none⟩) n cap)).run Tryz.prog w = .ok (.string (str ((z.drop k).take n))) w := by
  have hl : ((z.drop k).take n).length = n := by simp; omega
  have := run_convert_bytes_back (P := Tryz.prog) w 30 9 5 ⟨q, k, none⟩ cap ((z.drop k).take n) Tryz.underlying30 Tryz.underlying5 Tryz.underlying9 (fun j hj => by
    rw [hl] at hj
    rw [Go.WideShapes.add_plain, h.c (k + j) (by omega)]
    simp [byteV, List.getD, List.getElem_take, List.getElem_drop, show k + j < z.length by omega])
  rwa [hl] at this
theorem one_bytes (v : UInt8) (wd : World) : BytesF (wd.alloc (.cells #[.int .u8 (v.toNat : Int)] 5)) wd.heap.size [v] := by
  have h := rowC_new wd #[.int .u8 (v.toNat : Int)] 5
  refine ⟨rowC_lt h, fun j hj => ?_, fun j _ => rowC_free h j⟩
  have : j = 0 := by simpa using hj
  subst this
  rw [rowC_cell h 0]; rfl
theorem conv_one (v : UInt8) (wd : World) : (convert 30 9 (.slice (some ⟨wd.heap.size, 0, none⟩) 1 1)).run Tryz.prog (wd.alloc (.cells #[.int .u8 (v.toNat : Int)] 5)) = .ok (.string (str [v])) (wd.alloc (.cells #[.int .u8 (v.toNat : Int)] 5)) :=
  conv_text (one_bytes v wd) rfl
theorem conv_one_alloc (v : UInt8) (wd : World) (cs : Array Value) (ty : TypeId) : (convert 30 9 (.slice (some ⟨wd.heap.size, 0, none⟩) 1 1)).run Tryz.prog ((wd.alloc (.cells #[.int .u8 (v.toNat : Int)] 5)).alloc (.cells cs ty)) = .ok (.string (str [v])) ((wd.alloc (.cells #[.int .u8 (v.toNat : Int)] 5)).alloc (.cells cs ty)) :=
  conv_text ((one_bytes v wd).chg (s := fun _ => False) ((Chg.refl _ _).alloc _) (fun h => h)) rfl
/-- What the law holds: the numbers that came in, a row of bytes that stays, and another one that is written on. -/
structure SpM (w : World) (at_ : Array Value) (q1 q2 N : Nat) (B1 : Bs) (W : World) : Prop where
  a : rowC W w.heap.size at_ 24
  b : BytesF W q1 B1
  c : ∃ z : Bs, z.length = N ∧ BytesF W q2 z
  e : Below w.heap.size w W
  o : w.heap.size < q1 ∧ q1 < q2
theorem SpM.set {w W : World} {at_ : Array Value} {q1 q2 N : Nat} {B1 : Bs} (h : SpM w at_ q1 q2 N B1 W) {k : Nat} (hk : k < N) (v : UInt8) : SpM w at_ q1 q2 N B1 (W.setCell ⟨q2, k, none⟩ (.int .u8 (v.toNat : Int))) := by
  obtain ⟨z, hz, hc⟩ := h.c
  have h1 := h.o.1
  have h2 := h.o.2
  have ho : ∀ k', k' ≠ q2 → (W.setCell ⟨q2, k, none⟩ (.int .u8 (v.toNat : Int))).heap[k']? = W.heap[k']? := fun k' hk' => heap_setCell_other _ _ _ _ hk'
  exact ⟨Eq.trans (ho _ (by omega)) h.a, h.b.of_block (by rw [World.size_setCell]; exact h.b.lt) (ho _ (by omega)), ⟨z.set k v, by rw [List.length_set, hz], hc.set (by omega) v⟩, h.e.setCell (p := ⟨q2, k, none⟩) (show w.heap.size ≤ q2 by omega) _, h.o⟩
theorem SpM.cell {w W : World} {at_ : Array Value} {q1 q2 N : Nat} {B1 : Bs} (h : SpM w at_ q1 q2 N B1 W) {k : Nat} (hk : k < N) : ∃ u : Value, W.cell? ⟨q2, k, none⟩ = some u ∧ W.frozen? ⟨q2, k, none⟩ = false := by
  obtain ⟨z, hz, hc⟩ := h.c
  exact ⟨_, hc.c k (by omega), hc.f k (by omega)⟩
theorem SpM.below {w W W' : World} {at_ : Array Value} {q1 q2 N : Nat} {B1 : Bs} (h : SpM w at_ q1 q2 N B1 W) (hb : Below W.heap.size W W') : SpM w at_ q1 q2 N B1 W' := by
  obtain ⟨z, hz, hc⟩ := h.c
  exact ⟨rowC_below h.a hb (rowC_lt h.a), h.b.of_block (Nat.lt_of_lt_of_le h.b.lt hb.size) (hb.block _ h.b.lt), ⟨z, hz, hc.of_block (Nat.lt_of_lt_of_le hc.lt hb.size) (hb.block _ hc.lt)⟩, h.e.trans (hb.mono h.e.size), h.o⟩
/-- No more than 200 are read. -/
theorem readR_200 : ∀ (n : Nat) (s : Bs) (wt : Option Recs) (out : List Ent), s.length ≤ n → out.length ≤ 200 → (readR s wt out).2.length ≤ 200
  | 0, s, wt, out, hn, _ => by rw [readR, if_pos (by omega)]; exact Nat.zero_le _
  | n + 1, s, wt, out, hn, ho => by
    rw [readR]
    split
    · exact Nat.zero_le _
    · split
      · split
        · exact Nat.zero_le _
        · exact ho
      · split
        · exact Nat.zero_le _
        · split
          · exact Nat.zero_le _
          · rename_i he
            split
            · exact readR_200 n _ _ _ (by omega) ((stepR_le he).2 ho)
            · exact Nat.zero_le _
end Go.Proofs.YtmgpofdmoaafoaaGreatDoor
