/- Layer 11: blanks, digits, a number. -/
import Derived.Test.YtlknngplnimdpaaGreatDoorJtB
namespace Go.Proofs.YtlknngplnimdpaaGreatDoor
open Go.RowKit

theorem take_T {q : Nat} {S r : Bs} {lev : Nat} (hS : okT S) (c : UInt8) (x : Int) (hx : x = (c.toNat : Int)) (hc : c ≠ 0) (hr : hd r = c) : ∀ w, RdAt w q S r lev →
    Calls Tryz.prog 138 #[.pointer (some ⟨q, 0, none⟩), .int .u8 x] w fun e w' => e = .returned (.bool true) ∧ RdAt w' q S r.tail lev ∧ Chg (· = q) w w' := by
  intro w h
  have := take_any h hS c x hx hc
  rwa [(take_yes hr).1, (take_yes hr).2] at this
theorem take_F {q : Nat} {S r : Bs} {lev : Nat} (hS : okT S) (c : UInt8) (x : Int) (hx : x = (c.toNat : Int)) (hc : c ≠ 0) (hr : ¬ hd r = c) : ∀ w, RdAt w q S r lev →
    Calls Tryz.prog 138 #[.pointer (some ⟨q, 0, none⟩), .int .u8 x] w fun e w' => e = .returned (.bool false) ∧ RdAt w' q S r lev ∧ Chg (· = q) w w' := by
  intro w h
  have := take_any h hS c x hx hc
  rwa [(take_no hr).1, (take_no hr).2] at this
theorem Chg.two {q : Nat} {a b c : World} (h : Chg (· = q) a b) (g : Chg (· = q) b c) : Chg (· = q) a c := h.trans g (fun _ _ h => h)
theorem bl_not {r : Bs} (h : isBl (hd r) = false) : ¬ hd r = 32 ∧ ¬ hd r = 9 ∧ ¬ hd r = 10 ∧ ¬ hd r = 13 := by
  refine ⟨?_, ?_, ?_, ?_⟩ <;> (intro e; rw [e] at h; exact absurd h (by decide))
theorem bl_cases {r : Bs} (h : isBl (hd r) = true) : hd r = 32 ∨ (¬ hd r = 32 ∧ hd r = 9) ∨ (¬ hd r = 32 ∧ ¬ hd r = 9 ∧ hd r = 10) ∨ (¬ hd r = 32 ∧ ¬ hd r = 9 ∧ ¬ hd r = 10 ∧ hd r = 13) := by
  rcases bl_ne h with e | e | e | e <;> rw [e] <;> decide
theorem dropB_tail {r : Bs} (h : isBl (hd r) = true) : dropB r = dropB r.tail ∧ r.tail.length < r.length := by
  cases r with
  | nil => exact absurd h (by decide)
  | cons c r => exact ⟨by rw [dropB, if_pos (show isBl c = true from h)]; rfl, by simp⟩
set_option maxHeartbeats 2000000 in
theorem blanks_any {w : World} {q : Nat} {S r : Bs} {lev : Nat} (h : RdAt w q S r lev) (hS : okT S) :
    Calls Tryz.prog 99 #[.pointer (some ⟨q, 0, none⟩)] w fun e w' => e = .returned (.tuple #[]) ∧ RdAt w' q S (dropB r) lev ∧ Chg (· = q) w w' := by
  go_enter Tryz.func99, Tryz.ntmps99
  go_wp2
  go_loopg [] r.length (fun k wr => ∃ r', RdAt wr q S r' lev ∧ Hid (dropB r' = dropB r) ∧ Hid (r'.length = k) ∧ Chg (· = q) w wr)
  case atStart => exact ⟨r, h, Lib.hid rfl, Lib.hid rfl, Chg.refl _ _⟩
  case round =>
    obtain ⟨r', h', HD, HK, hC⟩ := hrel
    by_cases hb : isBl (hd r') = true
    · obtain ⟨hd1, hd2⟩ := dropB_tail hb
      have HD2 := Lib.hid hd1
      have HL := Lib.hid hd2
      have hb' := bl_cases hb
      clear hd1 hd2 hb
      rcases hb' with e | ⟨n1, e⟩ | ⟨n1, n2, e⟩ | ⟨n1, n2, n3, e⟩
      · have T1 := take_T (q := q) (lev := lev) hS 32 32 rfl (by decide) e
        clear e
        go_wp2_with (go_at_call 138; ((with_reducible refine (T1 _ (by assumption)).mono ?_); rintro e w' ⟨rfl, h1, c1⟩))
        go_roundg (r'.tail.length)
        case measure => rw [← HK.out]; exact HL.out
        case rel => exact ⟨r'.tail, h1, Lib.hid (HD2.out.symm.trans HD.out), Lib.hid rfl, hC.two c1⟩
      · have T1 := take_F (q := q) (lev := lev) hS 32 32 rfl (by decide) n1
        have T2 := take_T (q := q) (lev := lev) hS 9 9 rfl (by decide) e
        clear e n1
        go_wp2_with (first
          | (go_at_call 138; ((with_reducible refine (T1 _ (by assumption)).mono ?_); rintro e w1 ⟨rfl, h1, c1⟩))
          | (go_at_call 138; ((with_reducible refine (T2 _ (by assumption)).mono ?_); rintro e w2 ⟨rfl, h2, c2⟩)))
        go_roundg (r'.tail.length)
        case measure => rw [← HK.out]; exact HL.out
        case rel => exact ⟨r'.tail, by assumption, Lib.hid (HD2.out.symm.trans HD.out), Lib.hid rfl, (hC.two c1).two (by assumption)⟩
      · have T1 := take_F (q := q) (lev := lev) hS 32 32 rfl (by decide) n1
        have T2 := take_F (q := q) (lev := lev) hS 9 9 rfl (by decide) n2
        have T3 := take_T (q := q) (lev := lev) hS 10 10 rfl (by decide) e
        clear e n1 n2
        go_wp2_with (first
          | (go_at_call 138; ((with_reducible refine (T1 _ (by assumption)).mono ?_); rintro e w1 ⟨rfl, h1, c1⟩))
          | (go_at_call 138; ((with_reducible refine (T2 _ (by assumption)).mono ?_); rintro e w2 ⟨rfl, h2, c2⟩))
          | (go_at_call 138; ((with_reducible refine (T3 _ (by assumption)).mono ?_); rintro e w3 ⟨rfl, h3, c3⟩)))
        go_roundg (r'.tail.length)
        case measure => rw [← HK.out]; exact HL.out
        case rel => exact ⟨r'.tail, by assumption, Lib.hid (HD2.out.symm.trans HD.out), Lib.hid rfl, ((hC.two c1).two c2).two c3⟩
      · have T1 := take_F (q := q) (lev := lev) hS 32 32 rfl (by decide) n1
        have T2 := take_F (q := q) (lev := lev) hS 9 9 rfl (by decide) n2
        have T3 := take_F (q := q) (lev := lev) hS 10 10 rfl (by decide) n3
        have T4 := take_T (q := q) (lev := lev) hS 13 13 rfl (by decide) e
        clear e n1 n2 n3
        go_wp2_with (first
          | (go_at_call 138; ((with_reducible refine (T1 _ (by assumption)).mono ?_); rintro e w1 ⟨rfl, h1, c1⟩))
          | (go_at_call 138; ((with_reducible refine (T2 _ (by assumption)).mono ?_); rintro e w2 ⟨rfl, h2, c2⟩))
          | (go_at_call 138; ((with_reducible refine (T3 _ (by assumption)).mono ?_); rintro e w3 ⟨rfl, h3, c3⟩))
          | (go_at_call 138; ((with_reducible refine (T4 _ (by assumption)).mono ?_); rintro e w4 ⟨rfl, h4, c4⟩)))
        go_roundg (r'.tail.length)
        case measure => rw [← HK.out]; exact HL.out
        case rel => exact ⟨r'.tail, by assumption, Lib.hid (HD2.out.symm.trans HD.out), Lib.hid rfl, (((hC.two c1).two c2).two c3).two c4⟩
    · have hb' : isBl (hd r') = false := by simpa using hb
      obtain ⟨n1, n2, n3, n4⟩ := bl_not hb'
      have HE := Lib.hid (dropB_hd hb')
      have T1 := take_F (q := q) (lev := lev) hS 32 32 rfl (by decide) n1
      have T2 := take_F (q := q) (lev := lev) hS 9 9 rfl (by decide) n2
      have T3 := take_F (q := q) (lev := lev) hS 10 10 rfl (by decide) n3
      have T4 := take_F (q := q) (lev := lev) hS 13 13 rfl (by decide) n4
      clear hb hb' n1 n2 n3 n4
      go_wp2_with (first
        | (go_at_call 138; ((with_reducible refine (T1 _ (by assumption)).mono ?_); rintro e w1 ⟨rfl, h1, c1⟩))
        | (go_at_call 138; ((with_reducible refine (T2 _ (by assumption)).mono ?_); rintro e w2 ⟨rfl, h2, c2⟩))
        | (go_at_call 138; ((with_reducible refine (T3 _ (by assumption)).mono ?_); rintro e w3 ⟨rfl, h3, c3⟩))
        | (go_at_call 138; ((with_reducible refine (T4 _ (by assumption)).mono ?_); rintro e w4 ⟨rfl, h4, c4⟩)))
      go_end0
      refine ⟨rfl, ?_, (((hC.two c1).two c2).two c3).two c4⟩
      rw [← HD.out, HE.out]
      exact h4
end Go.Proofs.YtlknngplnimdpaaGreatDoor
