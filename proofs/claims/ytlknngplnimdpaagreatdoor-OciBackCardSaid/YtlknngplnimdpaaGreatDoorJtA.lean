/- Layer 11: a reader in memory; the next byte, what is taken, blanks. -/
import Derived.Test.YtlknngplnimdpaaGreatDoorJsG
import Derived.Test.YtlknngplnimdpaaGreatDoorChg
namespace Go.Proofs.YtlknngplnimdpaaGreatDoor
open Go.RowKit

/-- A reader's cells. -/
def rdC (s : ByteArray) (k lev : Nat) : Array Value := #[.string s, .int .i64 (k : Int), .int .i64 (lev : Int)]
/-- The reader at block q has the text S, of which r is left, and stands in so many lists and objects. -/
structure RdAt (w : World) (q : Nat) (S r : Bs) (lev : Nat) : Prop where
  row : rowC w q (rdC (str S) (S.length - r.length) lev) 120
  suf : r <:+ S
/-- A text that a reader may have. -/
def okT (S : Bs) : Prop := S.length ≤ 4611686018427387904
theorem RdAt.cell {w : World} {q : Nat} {S r : Bs} {lev : Nat} (h : RdAt w q S r lev) : w.cell? ⟨q, 0, none⟩ = some (.string (str S)) ∧ w.cell? ⟨q, 1, none⟩ = some (.int .i64 ((S.length - r.length : Nat) : Int)) ∧ w.cell? ⟨q, 2, none⟩ = some (.int .i64 (lev : Int)) :=
  ⟨rowC_cell h.row 0, rowC_cell h.row 1, rowC_cell h.row 2⟩
theorem RdAt.free {w : World} {q : Nat} {S r : Bs} {lev : Nat} (h : RdAt w q S r lev) (i : Nat) : w.frozen? ⟨q, i, none⟩ = false := rowC_free h.row i
theorem RdAt.lt {w : World} {q : Nat} {S r : Bs} {lev : Nat} (h : RdAt w q S r lev) : q < w.heap.size := rowC_lt h.row
theorem RdAt.chg {w w' : World} {q : Nat} {S r : Bs} {lev : Nat} (h : RdAt w q S r lev) {s : Nat → Prop} (hc : Chg s w w') (hs : ¬ s q) : RdAt w' q S r lev := ⟨hc.rowC h.row hs, h.suf⟩
theorem RdAt.below {w w' : World} {q : Nat} {S r : Bs} {lev : Nat} (h : RdAt w q S r lev) (hb : Below w.heap.size w w') : RdAt w' q S r lev := h.chg (s := fun _ => False) (Chg.of_below hb) id
theorem RdAt.drewN {w : World} {q : Nat} {S r : Bs} {lev : Nat} (h : RdAt w q S r lev) (n : Nat) : RdAt (w.drewN n) q S r lev := ⟨h.row, h.suf⟩
theorem RdAt.le {w : World} {q : Nat} {S r : Bs} {lev : Nat} (h : RdAt w q S r lev) : r.length ≤ S.length := h.suf.length_le
theorem suf_tail {r S : Bs} (h : r <:+ S) : r.tail <:+ S := (List.tail_suffix r).trans h
/-- One byte further. -/
theorem RdAt.move {w : World} {q : Nat} {S r : Bs} {lev : Nat} (h : RdAt w q S r lev) (hr : r ≠ []) {k : Nat} (hk : k = S.length - r.length) : RdAt (w.setCell ⟨q, 1, none⟩ (.int .i64 ((k : Int) + 1))) q S r.tail lev := by
  have hl := List.length_pos_iff.2 hr
  have hle := h.le
  refine ⟨?_, suf_tail h.suf⟩
  have := rowC_set h.row 1 (.int .i64 ((k : Int) + 1))
  have e : (rdC (str S) (S.length - r.length) lev).setIfInBounds 1 (.int .i64 ((k : Int) + 1)) = rdC (str S) (S.length - r.tail.length) lev := by
    have e2 : ((S.length - r.tail.length : Nat) : Int) = (k : Int) + 1 := by rw [List.length_tail]; omega
    show #[_, _, _] = #[_, _, _]
    rw [e2]
  rw [e] at this
  exact this
theorem byte_at {S r : Bs} (h : r <:+ S) (hr : r ≠ []) : (str S).data.toList.getD (S.length - r.length) 0 = hd r := by
  obtain ⟨p, rfl⟩ := h
  rw [str_toList, List.length_append, Nat.add_sub_cancel]
  cases r with
  | nil => exact absurd rfl hr
  | cons c r => simp [hd]
set_option maxHeartbeats 1000000 in
/-- The next byte. -/
theorem next_any {w : World} {q : Nat} {S r : Bs} {lev : Nat} (h : RdAt w q S r lev) :
    Calls Tryz.prog 132 #[.pointer (some ⟨q, 0, none⟩)] w fun e w' => e = .returned (.int .u8 ((hd r).toNat : Int)) ∧ ∃ n, w' = w.drewN n := by
  obtain ⟨c0, c1, _⟩ := h.cell
  have hsz := str_size S
  have hle := h.le
  generalize hs : str S = s at c0 hsz
  generalize hk : S.length - r.length = k at c1
  by_cases hr : r = []
  · subst hr
    obtain rfl : k = s.size := by simp at hk; omega
    go_enter Tryz.func132, Tryz.ntmps132
    clear hs hk hsz hle h
    go_wp2
    go_quiet (fail)
    go_wp2
    go_ret
    exact ⟨rfl, _, rfl⟩
  · have hl := List.length_pos_iff.2 hr
    have hlt : k < s.size := by omega
    have hb := byte_at h.suf hr
    rw [hs, hk] at hb
    have hidx := idx_str s k (k : Int) rfl hlt
    rw [hb] at hidx
    have hne : ((k : Int) == (s.size : Int)) = false := by rw [beq_eq_false_iff_ne]; omega
    generalize hd r = c at hidx ⊢
    clear hs hk hsz hle h hl hr hb
    go_enter Tryz.func132, Tryz.ntmps132
    go_wp2
    go_quiet (fail)
    go_wp2
    go_quiet (fail)
    go_wp2
    go_ret
    exact ⟨rfl, _, World.drewN_drewN _ _ _⟩
end Go.Proofs.YtlknngplnimdpaaGreatDoor
