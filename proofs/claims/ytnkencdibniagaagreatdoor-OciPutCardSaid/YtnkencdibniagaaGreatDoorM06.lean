/- Merged: JtA, JtB, JtC. -/
import Derived.Test.YtnkencdibniagaaGreatDoorM03
import Derived.Test.YtnkencdibniagaaGreatDoorM05
import Derived.Deep.LoopGhost
/- Layer 11: a reader in memory; the next byte, what is taken, blanks. -/
namespace Go.Proofs.YtnkencdibniagaaGreatDoor
open Go.RowKit

/-- A reader's cells. -/
def rdC (s : ByteArray) (k lev : Nat) : Array Value := #[.string s, .int .i64 (k : Int), .int .i64 (lev : Int)]
/-- The reader at block q has the text S, of which r is left, and stands in so many lists and objects. -/
structure RdAt (w : World) (q : Nat) (S r : Bs) (lev : Nat) : Prop where
  row : rowC w q (rdC (str S) (S.length - r.length) lev) 120
  suf : r <:+ S
/-- A text that a reader may have. -/
def okT (S : Bs) : Prop := S.length ≤ 4611686018427387904
theorem RdAt.cell {w : World} {q : Nat} {S r : Bs} {lev : Nat} (h : RdAt w q S r lev) : w.cell? ⟨q, 0, none⟩ = some (.string (str S)) ∧ w.cell? ⟨q, 1, none⟩ = some (.int .i64 ((S.length - r.length : Nat) : Int)) ∧ w.cell? ⟨q, 2, none⟩ = some (.int .i64 (lev : Int)) :=
  ⟨rowC_cell h.row 0, rowC_cell h.row 1, rowC_cell h.row 2⟩
theorem RdAt.free {w : World} {q : Nat} {S r : Bs} {lev : Nat} (h : RdAt w q S r lev) (i : Nat) : w.frozen? ⟨q, i, none⟩ = false := rowC_free h.row i
theorem RdAt.lt {w : World} {q : Nat} {S r : Bs} {lev : Nat} (h : RdAt w q S r lev) : q < w.heap.size := rowC_lt h.row
theorem RdAt.chg {w w' : World} {q : Nat} {S r : Bs} {lev : Nat} (h : RdAt w q S r lev) {s : Nat → Prop} (hc : Chg s w w') (hs : ¬ s q) : RdAt w' q S r lev := ⟨hc.rowC h.row hs, h.suf⟩
theorem RdAt.below {w w' : World} {q : Nat} {S r : Bs} {lev : Nat} (h : RdAt w q S r lev) (hb : Below w.heap.size w w') : RdAt w' q S r lev := h.chg (s := fun _ => False) (Chg.of_below hb) id
theorem RdAt.drewN {w : World} {q : Nat} {S r : Bs} {lev : Nat} (h : RdAt w q S r lev) (n : Nat) : RdAt (w.drewN n) q S r lev := ⟨h.row, h.suf⟩
theorem RdAt.le {w : World} {q : Nat} {S r : Bs} {lev : Nat} (h : RdAt w q S r lev) : r.length ≤ S.length := h.suf.length_le
theorem suf_tail {r S : Bs} (h : r <:+ S) : r.tail <:+ S := (List.tail_suffix r).trans h
/-- One byte further. -/
theorem RdAt.move {w : World} {q : Nat} {S r : Bs} {lev : Nat} (h : RdAt w q S r lev) (hr : r ≠ []) {k : Nat} (hk : k = S.length - r.length) : RdAt (w.setCell ⟨q, 1, none⟩ (.int .i64 ((k : Int) + 1))) q S r.tail lev := by
  have hl := List.length_pos_iff.2 hr
  have hle := h.le
  refine ⟨?_, suf_tail h.suf⟩
  have := rowC_set h.row 1 (.int .i64 ((k : Int) + 1))
  have e : (rdC (str S) (S.length - r.length) lev).setIfInBounds 1 (.int .i64 ((k : Int) + 1)) = rdC (str S) (S.length - r.tail.length) lev := by
    have e2 : ((S.length - r.tail.length : Nat) : Int) = (k : Int) + 1 := by rw [List.length_tail]; omega
    show #[_, _, _] = #[_, _, _]
    rw [e2]
  rw [e] at this
  exact this
theorem byte_at {S r : Bs} (h : r <:+ S) (hr : r ≠ []) : (str S).data.toList.getD (S.length - r.length) 0 = hd r := by
  obtain ⟨p, rfl⟩ := h
  rw [str_toList, List.length_append, Nat.add_sub_cancel]
  cases r with
  | nil => exact absurd rfl hr
  | cons c r => simp [hd]
set_option maxHeartbeats 1000000 in
/-- The next byte. -/
theorem next_any {w : World} {q : Nat} {S r : Bs} {lev : Nat} (h : RdAt w q S r lev) :
    Calls Tryz.prog 132 #[.pointer (some ⟨q, 0, none⟩)] w fun e w' => e = .returned (.int .u8 ((hd r).toNat : Int)) ∧ ∃ n, w' = w.drewN n := by
  obtain ⟨c0, c1, _⟩ := h.cell
  have hsz := str_size S
  have hle := h.le
  generalize hs : str S = s at c0 hsz
  generalize hk : S.length - r.length = k at c1
  by_cases hr : r = []
  · subst hr
    obtain rfl : k = s.size := by simp at hk; omega
    go_enter Tryz.func132, Tryz.ntmps132
    clear hs hk hsz hle h
    go_wp2
    go_quiet (fail)
    go_wp2
    go_ret
    exact ⟨rfl, _, rfl⟩
  · have hl := List.length_pos_iff.2 hr
    have hlt : k < s.size := by omega
    have hb := byte_at h.suf hr
    rw [hs, hk] at hb
    have hidx := idx_str s k (k : Int) rfl hlt
    rw [hb] at hidx
    have hne : ((k : Int) == (s.size : Int)) = false := by rw [beq_eq_false_iff_ne]; omega
    generalize hd r = c at hidx ⊢
    clear hs hk hsz hle h hl hr hb
    go_enter Tryz.func132, Tryz.ntmps132
    go_wp2
    go_quiet (fail)
    go_wp2
    go_quiet (fail)
    go_wp2
    go_ret
    exact ⟨rfl, _, World.drewN_drewN _ _ _⟩
end Go.Proofs.YtnkencdibniagaaGreatDoor

/- Layer 11: what is taken; where it is wrong; blanks. -/
namespace Go.Proofs.YtnkencdibniagaaGreatDoor
open Go.RowKit

/-- An error, and where it stands. -/
def errV (code : Nat) (k : Nat) : Value := .iface 126 (.agg #[.int .i64 (k : Int), .int .i64 (code : Int)])
def errAt (S : Bs) (code : Nat) (r : Bs) : Value := errV code (S.length - r.length)
theorem unfit_any (k : Nat) (x : Int) (hx : x = k) (w : World) : Calls Tryz.prog 100 #[.int .i64 x] w fun e w' => e = .returned (errV 10 k) ∧ w = w' := by
  subst hx
  go_enter Tryz.func100, Tryz.ntmps100
  go_wp2
  go_ret
  exact ⟨rfl, rfl⟩
def takeB (r : Bs) (c : UInt8) : Bool := decide (hd r = c)
def takeR (r : Bs) (c : UInt8) : Bs := if hd r = c then r.tail else r
theorem take_yes {r : Bs} {c : UInt8} (h : hd r = c) : takeB r c = true ∧ takeR r c = r.tail := ⟨by unfold takeB; simpa using h, if_pos h⟩
theorem take_no {r : Bs} {c : UInt8} (h : ¬ hd r = c) : takeB r c = false ∧ takeR r c = r := ⟨by unfold takeB; simpa using h, if_neg h⟩
theorem u8_ne {a b : UInt8} (h : ¬ a = b) : ¬ ((a.toNat : Int) = (b.toNat : Int)) := fun e => h (UInt8.toNat_inj.1 (by omega))
set_option maxHeartbeats 1000000 in
/-- A byte is taken. -/
theorem take_any {w : World} {q : Nat} {S r : Bs} {lev : Nat} (h : RdAt w q S r lev) (hS : okT S) (c : UInt8) (x : Int) (hx : x = (c.toNat : Int)) (hc : c ≠ 0) :
    Calls Tryz.prog 138 #[.pointer (some ⟨q, 0, none⟩), .int .u8 x] w fun e w' => e = .returned (.bool (takeB r c)) ∧ RdAt w' q S (takeR r c) lev ∧ Chg (· = q) w w' := by
  subst hx
  have hN := fun w' (h' : RdAt w' q S r lev) => next_any h'
  have H := Lib.hid h
  by_cases hr : hd r = c
  · have hne : r ≠ [] := ne_hd hr hc
    rw [(take_yes hr).1, (take_yes hr).2]
    rw [hr] at hN
    have hle := h.le
    unfold okT at hS
    obtain ⟨_, c1, _⟩ := h.cell
    have f1 := h.free 1
    generalize hk : S.length - r.length = k at c1
    have hk2 : k ≤ 4611686018427387904 := by omega
    have HM := Lib.hid (fun n => (h.drewN n).move hne hk.symm)
    clear hle hS hk hr h
    go_enter Tryz.func138, Tryz.ntmps138
    go_wp2_with (go_at_call 132; ((with_reducible refine (hN _ H.out).mono ?_); rintro e w' ⟨rfl, n, rfl⟩))
    go_ret
    exact ⟨rfl, HM.out n, ((Chg.refl _ w).drewN n).setCell _ _ (.inl rfl)⟩
  · rw [(take_no hr).1, (take_no hr).2]
    have hne : ((((hd r).toNat : Nat) : Int) != ((c.toNat : Nat) : Int)) = true := by
      rw [bne_iff_ne]; exact u8_ne hr
    clear hr h hS
    go_enter Tryz.func138, Tryz.ntmps138
    go_wp2_with (go_at_call 132; ((with_reducible refine (hN _ H.out).mono ?_); rintro e w' ⟨rfl, n, rfl⟩))
    go_ret
    exact ⟨rfl, H.out.drewN n, (Chg.refl _ w).drewN n⟩
end Go.Proofs.YtnkencdibniagaaGreatDoor

/- Layer 11: blanks, digits, a number. -/
namespace Go.Proofs.YtnkencdibniagaaGreatDoor
open Go.RowKit

theorem take_T {q : Nat} {S r : Bs} {lev : Nat} (hS : okT S) (c : UInt8) (x : Int) (hx : x = (c.toNat : Int)) (hc : c ≠ 0) (hr : hd r = c) : ∀ w, RdAt w q S r lev →
    Calls Tryz.prog 138 #[.pointer (some ⟨q, 0, none⟩), .int .u8 x] w fun e w' => e = .returned (.bool true) ∧ RdAt w' q S r.tail lev ∧ Chg (· = q) w w' := by
  intro w h
  have := take_any h hS c x hx hc
  rwa [(take_yes hr).1, (take_yes hr).2] at this
theorem take_F {q : Nat} {S r : Bs} {lev : Nat} (hS : okT S) (c : UInt8) (x : Int) (hx : x = (c.toNat : Int)) (hc : c ≠ 0) (hr : ¬ hd r = c) : ∀ w, RdAt w q S r lev →
    Calls Tryz.prog 138 #[.pointer (some ⟨q, 0, none⟩), .int .u8 x] w fun e w' => e = .returned (.bool false) ∧ RdAt w' q S r lev ∧ Chg (· = q) w w' := by
  intro w h
  have := take_any h hS c x hx hc
  rwa [(take_no hr).1, (take_no hr).2] at this
theorem Chg.two {q : Nat} {a b c : World} (h : Chg (· = q) a b) (g : Chg (· = q) b c) : Chg (· = q) a c := h.trans g (fun _ _ h => h)
theorem bl_not {r : Bs} (h : isBl (hd r) = false) : ¬ hd r = 32 ∧ ¬ hd r = 9 ∧ ¬ hd r = 10 ∧ ¬ hd r = 13 := by
  refine ⟨?_, ?_, ?_, ?_⟩ <;> (intro e; rw [e] at h; exact absurd h (by decide))
theorem bl_cases {r : Bs} (h : isBl (hd r) = true) : hd r = 32 ∨ (¬ hd r = 32 ∧ hd r = 9) ∨ (¬ hd r = 32 ∧ ¬ hd r = 9 ∧ hd r = 10) ∨ (¬ hd r = 32 ∧ ¬ hd r = 9 ∧ ¬ hd r = 10 ∧ hd r = 13) := by
  rcases bl_ne h with e | e | e | e <;> rw [e] <;> decide
theorem dropB_tail {r : Bs} (h : isBl (hd r) = true) : dropB r = dropB r.tail ∧ r.tail.length < r.length := by
  cases r with
  | nil => exact absurd h (by decide)
  | cons c r => exact ⟨by rw [dropB, if_pos (show isBl c = true from h)]; rfl, by simp⟩
set_option maxHeartbeats 2000000 in
theorem blanks_any {w : World} {q : Nat} {S r : Bs} {lev : Nat} (h : RdAt w q S r lev) (hS : okT S) :
    Calls Tryz.prog 99 #[.pointer (some ⟨q, 0, none⟩)] w fun e w' => e = .returned (.tuple #[]) ∧ RdAt w' q S (dropB r) lev ∧ Chg (· = q) w w' := by
  go_enter Tryz.func99, Tryz.ntmps99
  go_wp2
  go_loopg [] r.length (fun k wr => ∃ r', RdAt wr q S r' lev ∧ Hid (dropB r' = dropB r) ∧ Hid (r'.length = k) ∧ Chg (· = q) w wr)
  case atStart => exact ⟨r, h, Lib.hid rfl, Lib.hid rfl, Chg.refl _ _⟩
  case round =>
    obtain ⟨r', h', HD, HK, hC⟩ := hrel
    by_cases hb : isBl (hd r') = true
    · obtain ⟨hd1, hd2⟩ := dropB_tail hb
      have HD2 := Lib.hid hd1
      have HL := Lib.hid hd2
      have hb' := bl_cases hb
      clear hd1 hd2 hb
      rcases hb' with e | ⟨n1, e⟩ | ⟨n1, n2, e⟩ | ⟨n1, n2, n3, e⟩
      · have T1 := take_T (q := q) (lev := lev) hS 32 32 rfl (by decide) e
        clear e
        go_wp2_with (go_at_call 138; ((with_reducible refine (T1 _ (by assumption)).mono ?_); rintro e w' ⟨rfl, h1, c1⟩))
        go_roundg (r'.tail.length)
        case measure => rw [← HK.out]; exact HL.out
        case rel => exact ⟨r'.tail, h1, Lib.hid (HD2.out.symm.trans HD.out), Lib.hid rfl, hC.two c1⟩
      · have T1 := take_F (q := q) (lev := lev) hS 32 32 rfl (by decide) n1
        have T2 := take_T (q := q) (lev := lev) hS 9 9 rfl (by decide) e
        clear e n1
        go_wp2_with (first
          | (go_at_call 138; ((with_reducible refine (T1 _ (by assumption)).mono ?_); rintro e w1 ⟨rfl, h1, c1⟩))
          | (go_at_call 138; ((with_reducible refine (T2 _ (by assumption)).mono ?_); rintro e w2 ⟨rfl, h2, c2⟩)))
        go_roundg (r'.tail.length)
        case measure => rw [← HK.out]; exact HL.out
        case rel => exact ⟨r'.tail, by assumption, Lib.hid (HD2.out.symm.trans HD.out), Lib.hid rfl, (hC.two c1).two (by assumption)⟩
      · have T1 := take_F (q := q) (lev := lev) hS 32 32 rfl (by decide) n1
        have T2 := take_F (q := q) (lev := lev) hS 9 9 rfl (by decide) n2
        have T3 := take_T (q := q) (lev := lev) hS 10 10 rfl (by decide) e
        clear e n1 n2
        go_wp2_with (first
          | (go_at_call 138; ((with_reducible refine (T1 _ (by assumption)).mono ?_); rintro e w1 ⟨rfl, h1, c1⟩))
          | (go_at_call 138; ((with_reducible refine (T2 _ (by assumption)).mono ?_); rintro e w2 ⟨rfl, h2, c2⟩))
          | (go_at_call 138; ((with_reducible refine (T3 _ (by assumption)).mono ?_); rintro e w3 ⟨rfl, h3, c3⟩)))
        go_roundg (r'.tail.length)
        case measure => rw [← HK.out]; exact HL.out
        case rel => exact ⟨r'.tail, by assumption, Lib.hid (HD2.out.symm.trans HD.out), Lib.hid rfl, ((hC.two c1).two c2).two c3⟩
      · have T1 := take_F (q := q) (lev := lev) hS 32 32 rfl (by decide) n1
        have T2 := take_F (q := q) (lev := lev) hS 9 9 rfl (by decide) n2
        have T3 := take_F (q := q) (lev := lev) hS 10 10 rfl (by decide) n3
        have T4 := take_T (q := q) (lev := lev) hS 13 13 rfl (by decide) e
        clear e n1 n2 n3
        go_wp2_with (first
          | (go_at_call 138; ((with_reducible refine (T1 _ (by assumption)).mono ?_); rintro e w1 ⟨rfl, h1, c1⟩))
          | (go_at_call 138; ((with_reducible refine (T2 _ (by assumption)).mono ?_); rintro e w2 ⟨rfl, h2, c2⟩))
          | (go_at_call 138; ((with_reducible refine (T3 _ (by assumption)).mono ?_); rintro e w3 ⟨rfl, h3, c3⟩))
          | (go_at_call 138; ((with_reducible refine (T4 _ (by assumption)).mono ?_); rintro e w4 ⟨rfl, h4, c4⟩)))
        go_roundg (r'.tail.length)
        case measure => rw [← HK.out]; exact HL.out
        case rel => exact ⟨r'.tail, by assumption, Lib.hid (HD2.out.symm.trans HD.out), Lib.hid rfl, (((hC.two c1).two c2).two c3).two c4⟩
    · have hb' : isBl (hd r') = false := by simpa using hb
      obtain ⟨n1, n2, n3, n4⟩ := bl_not hb'
      have HE := Lib.hid (dropB_hd hb')
      have T1 := take_F (q := q) (lev := lev) hS 32 32 rfl (by decide) n1
      have T2 := take_F (q := q) (lev := lev) hS 9 9 rfl (by decide) n2
      have T3 := take_F (q := q) (lev := lev) hS 10 10 rfl (by decide) n3
      have T4 := take_F (q := q) (lev := lev) hS 13 13 rfl (by decide) n4
      clear hb hb' n1 n2 n3 n4
      go_wp2_with (first
        | (go_at_call 138; ((with_reducible refine (T1 _ (by assumption)).mono ?_); rintro e w1 ⟨rfl, h1, c1⟩))
        | (go_at_call 138; ((with_reducible refine (T2 _ (by assumption)).mono ?_); rintro e w2 ⟨rfl, h2, c2⟩))
        | (go_at_call 138; ((with_reducible refine (T3 _ (by assumption)).mono ?_); rintro e w3 ⟨rfl, h3, c3⟩))
        | (go_at_call 138; ((with_reducible refine (T4 _ (by assumption)).mono ?_); rintro e w4 ⟨rfl, h4, c4⟩)))
      go_end0
      refine ⟨rfl, ?_, (((hC.two c1).two c2).two c3).two c4⟩
      rw [← HD.out, HE.out]
      exact h4
end Go.Proofs.YtnkencdibniagaaGreatDoor

