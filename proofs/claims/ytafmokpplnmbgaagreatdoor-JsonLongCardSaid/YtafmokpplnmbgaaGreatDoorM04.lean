/- Merged: JtC, JtD, JtE, JtF, JtG, JtH. -/
import Derived.Test.YtafmokpplnmbgaaGreatDoorM03
import Derived.Deep.Cut
import Derived.Deep.CutRange
import Derived.Deep.DeepCutAuto
import Derived.Deep.CutBlock
import Derived.Test.YtafmokpplnmbgaaGreatDoorM02
/- Layer 11: blanks, digits, a number. -/
namespace Go.Proofs.YtafmokpplnmbgaaGreatDoor
open Go.RowKit

theorem take_T {q : Nat} {S r : Bs} {lev : Nat} (hS : okT S) (c : UInt8) (x : Int) (hx : x = (c.toNat : Int)) (hc : c ≠ 0) (hr : hd r = c) : ∀ w, RdAt w q S r lev →
    Calls Tryz.prog 48 #[.pointer (some ⟨q, 0, none⟩), .int .u8 x] w fun e w' => e = .returned (.bool true) ∧ RdAt w' q S r.tail lev ∧ Chg (· = q) w w' := by
  intro w h
  have := take_any h hS c x hx hc
  rwa [(take_yes hr).1, (take_yes hr).2] at this
theorem take_F {q : Nat} {S r : Bs} {lev : Nat} (hS : okT S) (c : UInt8) (x : Int) (hx : x = (c.toNat : Int)) (hc : c ≠ 0) (hr : ¬ hd r = c) : ∀ w, RdAt w q S r lev →
    Calls Tryz.prog 48 #[.pointer (some ⟨q, 0, none⟩), .int .u8 x] w fun e w' => e = .returned (.bool false) ∧ RdAt w' q S r lev ∧ Chg (· = q) w w' := by
  intro w h
  have := take_any h hS c x hx hc
  rwa [(take_no hr).1, (take_no hr).2] at this
theorem Chg.two {q : Nat} {a b c : World} (h : Chg (· = q) a b) (g : Chg (· = q) b c) : Chg (· = q) a c := h.trans g (fun _ _ h => h)
theorem bl_not {r : Bs} (h : isBl (hd r) = false) : ¬ hd r = 32 ∧ ¬ hd r = 9 ∧ ¬ hd r = 10 ∧ ¬ hd r = 13 := by
  refine ⟨?_, ?_, ?_, ?_⟩ <;> (intro e; rw [e] at h; exact absurd h (by decide))
theorem bl_cases {r : Bs} (h : isBl (hd r) = true) : hd r = 32 ∨ (¬ hd r = 32 ∧ hd r = 9) ∨ (¬ hd r = 32 ∧ ¬ hd r = 9 ∧ hd r = 10) ∨ (¬ hd r = 32 ∧ ¬ hd r = 9 ∧ ¬ hd r = 10 ∧ hd r = 13) := by
  rcases bl_ne h with e | e | e | e <;> rw [e] <;> decide
theorem dropB_tail {r : Bs} (h : isBl (hd r) = true) : dropB r = dropB r.tail ∧ r.tail.length < r.length := by
  cases r with
  | nil => exact absurd h (by decide)
  | cons c r => exact ⟨by rw [dropB, if_pos (show isBl c = true from h)]; rfl, by simp⟩
set_option maxHeartbeats 2000000 in
theorem blanks_any {w : World} {q : Nat} {S r : Bs} {lev : Nat} (h : RdAt w q S r lev) (hS : okT S) :
    Calls Tryz.prog 26 #[.pointer (some ⟨q, 0, none⟩)] w fun e w' => e = .returned (.tuple #[]) ∧ RdAt w' q S (dropB r) lev ∧ Chg (· = q) w w' := by
  go_enter Tryz.func26, Tryz.ntmps26
  go_wp2
  go_loopg [] r.length (fun k wr => ∃ r', RdAt wr q S r' lev ∧ Hid (dropB r' = dropB r) ∧ Hid (r'.length = k) ∧ Chg (· = q) w wr)
  case atStart => exact ⟨r, h, Lib.hid rfl, Lib.hid rfl, Chg.refl _ _⟩
  case round =>
    obtain ⟨r', h', HD, HK, hC⟩ := hrel
    by_cases hb : isBl (hd r') = true
    · obtain ⟨hd1, hd2⟩ := dropB_tail hb
      have HD2 := Lib.hid hd1
      have HL := Lib.hid hd2
      have hb' := bl_cases hb
      clear hd1 hd2 hb
      rcases hb' with e | ⟨n1, e⟩ | ⟨n1, n2, e⟩ | ⟨n1, n2, n3, e⟩
      · have T1 := take_T (q := q) (lev := lev) hS 32 32 rfl (by decide) e
        clear e
        go_wp2_with (go_at_call 48; ((with_reducible refine (T1 _ (by assumption)).mono ?_); rintro e w' ⟨rfl, h1, c1⟩))
        go_roundg (r'.tail.length)
        case measure => rw [← HK.out]; exact HL.out
        case rel => exact ⟨r'.tail, h1, Lib.hid (HD2.out.symm.trans HD.out), Lib.hid rfl, hC.two c1⟩
      · have T1 := take_F (q := q) (lev := lev) hS 32 32 rfl (by decide) n1
        have T2 := take_T (q := q) (lev := lev) hS 9 9 rfl (by decide) e
        clear e n1
        go_wp2_with (first
          | (go_at_call 48; ((with_reducible refine (T1 _ (by assumption)).mono ?_); rintro e w1 ⟨rfl, h1, c1⟩))
          | (go_at_call 48; ((with_reducible refine (T2 _ (by assumption)).mono ?_); rintro e w2 ⟨rfl, h2, c2⟩)))
        go_roundg (r'.tail.length)
        case measure => rw [← HK.out]; exact HL.out
        case rel => exact ⟨r'.tail, by assumption, Lib.hid (HD2.out.symm.trans HD.out), Lib.hid rfl, (hC.two c1).two (by assumption)⟩
      · have T1 := take_F (q := q) (lev := lev) hS 32 32 rfl (by decide) n1
        have T2 := take_F (q := q) (lev := lev) hS 9 9 rfl (by decide) n2
        have T3 := take_T (q := q) (lev := lev) hS 10 10 rfl (by decide) e
        clear e n1 n2
        go_wp2_with (first
          | (go_at_call 48; ((with_reducible refine (T1 _ (by assumption)).mono ?_); rintro e w1 ⟨rfl, h1, c1⟩))
          | (go_at_call 48; ((with_reducible refine (T2 _ (by assumption)).mono ?_); rintro e w2 ⟨rfl, h2, c2⟩))
          | (go_at_call 48; ((with_reducible refine (T3 _ (by assumption)).mono ?_); rintro e w3 ⟨rfl, h3, c3⟩)))
        go_roundg (r'.tail.length)
        case measure => rw [← HK.out]; exact HL.out
        case rel => exact ⟨r'.tail, by assumption, Lib.hid (HD2.out.symm.trans HD.out), Lib.hid rfl, ((hC.two c1).two c2).two c3⟩
      · have T1 := take_F (q := q) (lev := lev) hS 32 32 rfl (by decide) n1
        have T2 := take_F (q := q) (lev := lev) hS 9 9 rfl (by decide) n2
        have T3 := take_F (q := q) (lev := lev) hS 10 10 rfl (by decide) n3
        have T4 := take_T (q := q) (lev := lev) hS 13 13 rfl (by decide) e
        clear e n1 n2 n3
        go_wp2_with (first
          | (go_at_call 48; ((with_reducible refine (T1 _ (by assumption)).mono ?_); rintro e w1 ⟨rfl, h1, c1⟩))
          | (go_at_call 48; ((with_reducible refine (T2 _ (by assumption)).mono ?_); rintro e w2 ⟨rfl, h2, c2⟩))
          | (go_at_call 48; ((with_reducible refine (T3 _ (by assumption)).mono ?_); rintro e w3 ⟨rfl, h3, c3⟩))
          | (go_at_call 48; ((with_reducible refine (T4 _ (by assumption)).mono ?_); rintro e w4 ⟨rfl, h4, c4⟩)))
        go_roundg (r'.tail.length)
        case measure => rw [← HK.out]; exact HL.out
        case rel => exact ⟨r'.tail, by assumption, Lib.hid (HD2.out.symm.trans HD.out), Lib.hid rfl, (((hC.two c1).two c2).two c3).two c4⟩
    · have hb' : isBl (hd r') = false := by simpa using hb
      obtain ⟨n1, n2, n3, n4⟩ := bl_not hb'
      have HE := Lib.hid (dropB_hd hb')
      have T1 := take_F (q := q) (lev := lev) hS 32 32 rfl (by decide) n1
      have T2 := take_F (q := q) (lev := lev) hS 9 9 rfl (by decide) n2
      have T3 := take_F (q := q) (lev := lev) hS 10 10 rfl (by decide) n3
      have T4 := take_F (q := q) (lev := lev) hS 13 13 rfl (by decide) n4
      clear hb hb' n1 n2 n3 n4
      go_wp2_with (first
        | (go_at_call 48; ((with_reducible refine (T1 _ (by assumption)).mono ?_); rintro e w1 ⟨rfl, h1, c1⟩))
        | (go_at_call 48; ((with_reducible refine (T2 _ (by assumption)).mono ?_); rintro e w2 ⟨rfl, h2, c2⟩))
        | (go_at_call 48; ((with_reducible refine (T3 _ (by assumption)).mono ?_); rintro e w3 ⟨rfl, h3, c3⟩))
        | (go_at_call 48; ((with_reducible refine (T4 _ (by assumption)).mono ?_); rintro e w4 ⟨rfl, h4, c4⟩)))
      go_end0
      refine ⟨rfl, ?_, (((hC.two c1).two c2).two c3).two c4⟩
      rw [← HD.out, HE.out]
      exact h4
end Go.Proofs.YtafmokpplnmbgaaGreatDoor

/- Layer 11: digits, a number. -/
namespace Go.Proofs.YtafmokpplnmbgaaGreatDoor
open Go.RowKit

theorem isDg_iff (c : UInt8) : isDg c = true ↔ 48 ≤ c.toNat ∧ c.toNat ≤ 57 := by
  unfold isDg
  simp [UInt8.le_iff_toNat_le]
set_option maxHeartbeats 1000000 in
theorem isDigit_any (c : UInt8) (w : World) : Calls Tryz.prog 80 #[.int .u8 (c.toNat : Int)] w fun e w' => e = .returned (.bool (isDg c)) ∧ w = w' := by
  have hc := c.toNat_lt
  have hi := isDg_iff c
  generalize c.toNat = n at hc hi ⊢
  generalize isDg c = b at hi ⊢
  by_cases h1 : 48 ≤ n
  · by_cases h2 : n ≤ 57
    · obtain rfl : b = true := hi.2 ⟨h1, h2⟩
      have e1 : decide ((48 : Int) ≤ (n : Int)) = true := by rw [decide_eq_true_eq]; omega
      have e2 : decide ((n : Int) ≤ 57) = true := by rw [decide_eq_true_eq]; omega
      clear hi hc
      go_enter Tryz.func80, Tryz.ntmps80
      go_wp2
      go_ret
      exact ⟨rfl, rfl⟩
    · obtain rfl : b = false := by cases b; rfl; exact absurd (hi.1 rfl).2 h2
      have e1 : decide ((48 : Int) ≤ (n : Int)) = true := by rw [decide_eq_true_eq]; omega
      have e2 : decide ((n : Int) ≤ 57) = false := by rw [decide_eq_false_iff_not]; omega
      clear hi hc h2
      go_enter Tryz.func80, Tryz.ntmps80
      go_wp2
      go_ret
      exact ⟨rfl, rfl⟩
  · obtain rfl : b = false := by cases b; rfl; exact absurd (hi.1 rfl).1 h1
    have e1 : decide ((48 : Int) ≤ (n : Int)) = false := by rw [decide_eq_false_iff_not]; omega
    clear hi hc h1
    go_enter Tryz.func80, Tryz.ntmps80
    go_wp2
    go_ret
    exact ⟨rfl, rfl⟩
theorem dropD_tail {r : Bs} (h : isDg (hd r) = true) : dropD r = dropD r.tail ∧ r.tail.length < r.length ∧ r ≠ [] := by
  cases r with
  | nil => exact absurd h (by decide)
  | cons c r => exact ⟨by rw [dropD, if_pos (show isDg c = true from h)]; rfl, by simp, by simp⟩
/-- What a step leaves of the reader, when it is OK, and when it is wrong. -/
def okP (w : World) (q : Nat) (S x : Bs) (lev : Nat) (w' : World) : Prop := RdAt w' q S x lev ∧ Chg (· = q) w w'
def badP (w : World) (q : Nat) (S r : Bs) (w' : World) : Prop := (∃ x lev, RdAt w' q S x lev ∧ x <:+ r) ∧ Chg (· = q) w w'
theorem dig_yes {r x : Bs} (h : digP r = .ok () x) : (dropD r).length ≠ r.length ∧ dropD r = x := by
  unfold digP at h
  split at h
  · cases h
  · rename_i hn
    rw [Res.ok.injEq] at h
    exact ⟨hn, h.2⟩
theorem dig_no {r x : Bs} {code : Nat} (h : digP r = .bad code x) : (dropD r).length = r.length ∧ dropD r = x ∧ code = 10 ∧ x = r := by
  unfold digP at h
  split at h
  · rename_i hn
    rw [Res.bad.injEq] at h
    refine ⟨hn, ?_, h.1.symm, h.2.symm⟩
    rw [← h.2]
    obtain ⟨t, h1, _⟩ := dropD_pre r
    have : t = [] := List.eq_nil_of_length_eq_zero (by have := congrArg List.length h1; rw [List.length_append] at this; omega)
    rw [this, List.nil_append] at h1
    exact h1.symm
  · cases h
set_option maxHeartbeats 2000000 in
theorem digits_ok {w : World} {q : Nat} {S r x : Bs} {lev : Nat} (hS : okT S) (hx : digP r = .ok () x) (h : RdAt w q S r lev) :
    Calls Tryz.prog 64 #[.pointer (some ⟨q, 0, none⟩)] w fun e w' => e = .returned .nilIface ∧ okP w q S x lev w' := by
  obtain ⟨hx1, hx2⟩ := dig_yes hx
  have HX1 := Lib.hid hx1
  have HX2 := Lib.hid hx2
  have hN := fun w' r' (h' : RdAt w' q S r' lev) => next_any h'
  obtain ⟨_, c1, _⟩ := h.cell
  have H := Lib.hid h
  have HLE := Lib.hid h.le
  unfold okT at hS
  have HS := Lib.hid hS
  generalize hk0 : S.length - r.length = k0 at c1
  have HK0 := Lib.hid hk0
  clear hx hx1 hx2 hk0 h hS
  go_enter Tryz.func64, Tryz.ntmps64
  go_wp2
  go_loopg [] r.length (fun k wr => ∃ r', RdAt wr q S r' lev ∧ Hid (dropD r' = dropD r) ∧ Hid (r'.length = k) ∧ Chg (· = q) w wr)
  case atStart => exact ⟨r, H.out, Lib.hid rfl, Lib.hid rfl, Chg.refl _ _⟩
  case round =>
    clear c1
    obtain ⟨r', h', HD, HK, hC⟩ := hrel
    by_cases hb : isDg (hd r') = true
    · obtain ⟨hd1, hd2, hd3⟩ := dropD_tail hb
      have HD2 := Lib.hid hd1
      have HL := Lib.hid hd2
      obtain ⟨_, c1, _⟩ := h'.cell
      have f1 := h'.free 1
      have hle := h'.le
      have hSS := HS.out
      generalize hk : S.length - r'.length = k at c1
      have hk2 : k ≤ 4611686018427387904 := by omega
      have HM := Lib.hid (fun n => (h'.drewN n).move hd3 hk.symm)
      have hDg := fun w => isDigit_any (hd r') w
      rw [hb] at hDg
      clear hd1 hd2 hd3 hb hk hle hSS
      go_wp2_with (first
        | (go_at_call 41; ((with_reducible refine (hN _ _ h').mono ?_); rintro e w' ⟨rfl, n, rfl⟩))
        | (go_at_call 80; ((with_reducible refine (hDg _).mono ?_); rintro e w' ⟨rfl, rfl⟩)))
      go_roundg (r'.tail.length)
      case measure => rw [← HK.out]; exact HL.out
      case rel => exact ⟨r'.tail, HM.out _, Lib.hid (HD2.out.symm.trans HD.out), Lib.hid rfl, (hC.drewN _).setCell _ _ (.inl rfl)⟩
    · have hb' : isDg (hd r') = false := by simpa using hb
      have HE := Lib.hid (dropD_hd hb')
      obtain ⟨_, c1, _⟩ := h'.cell
      have hle := h'.le
      have hDg := fun w => isDigit_any (hd r') w
      rw [hb'] at hDg
      have hne : (((S.length - r'.length : Nat) : Int) == (k0 : Int)) = false := by
        rw [beq_eq_false_iff_ne]
        have h1 := HX1.out
        have h2 := HK0.out
        have h3 := HLE.out
        rw [← HD.out, HE.out] at h1
        omega
      generalize S.length - r'.length = k at c1 hne
      clear hb hb' hle
      go_wp2_with (first
        | (go_at_call 41; ((with_reducible refine (hN _ _ h').mono ?_); rintro e w' ⟨rfl, n, rfl⟩))
        | (go_at_call 80; ((with_reducible refine (hDg _).mono ?_); rintro e w' ⟨rfl, rfl⟩)))
      go_ret
      refine ⟨rfl, ?_, hC.drewN _⟩
      rw [← HX2.out, ← HD.out, HE.out]
      exact h'.drewN _
set_option maxHeartbeats 2000000 in
theorem digits_bad {w : World} {q : Nat} {S r x : Bs} {lev code : Nat} (hx : digP r = .bad code x) (h : RdAt w q S r lev) :
    Calls Tryz.prog 64 #[.pointer (some ⟨q, 0, none⟩)] w fun e w' => e = .returned (errAt S code x) ∧ badP w q S r w' := by
  obtain ⟨hx1, hx2, rfl, rfl⟩ := dig_no hx
  have hb' : isDg (hd x) = false := by
    rw [← hx2]; exact dropD_stop x
  have hN := next_any h
  obtain ⟨_, c1, _⟩ := h.cell
  have hDg := fun w => isDigit_any (hd x) w
  rw [hb'] at hDg
  have HP := Lib.hid (fun n => (⟨⟨x, lev, h.drewN n, List.suffix_refl x⟩, (Chg.refl _ w).drewN n⟩ : badP w q S x (w.drewN n)))
  unfold errAt
  generalize hk0 : S.length - x.length = k0 at c1 ⊢
  have heq : ((k0 : Int) == (k0 : Int)) = true := by simp
  clear hx hx1 hx2 hb' hk0 h
  go_enter Tryz.func64, Tryz.ntmps64
  go_wp2
  refine wp_loop_rounds 1 ?_
  rw [rounds_succ]
  go_wp2_with (first
    | (go_at_call 41; ((with_reducible refine hN.mono ?_); rintro e w' ⟨rfl, n, rfl⟩))
    | (go_at_call 80; ((with_reducible refine (hDg _).mono ?_); rintro e w' ⟨rfl, rfl⟩))
    | (go_at_call 27; ((with_reducible refine (unfit_any k0 _ rfl _).mono ?_); rintro e w' ⟨rfl, rfl⟩)))
  go_ret
  exact ⟨rfl, HP.out _⟩
end Go.Proofs.YtafmokpplnmbgaaGreatDoor

/- Layer 11: a number. -/
namespace Go.Proofs.YtafmokpplnmbgaaGreatDoor
open Go.RowKit

theorem okP.trans {w w1 w2 : World} {q : Nat} {S y : Bs} {l2 : Nat} (h : Chg (· = q) w w1) (g : okP w1 q S y l2 w2) : okP w q S y l2 w2 := ⟨g.1, h.two g.2⟩
theorem badP.trans {w w1 w2 : World} {q : Nat} {S r r' : Bs} (h : Chg (· = q) w w1) (hs : r' <:+ r) (g : badP w1 q S r' w2) : badP w q S r w2 := by
  obtain ⟨⟨x, lev, h1, h2⟩, h3⟩ := g
  exact ⟨⟨x, lev, h1, h2.trans hs⟩, h.two h3⟩
/-- What a reading of one thing says of a call that answers an error alone. -/
def saysU (w : World) (q : Nat) (S r : Bs) (lev : Nat) (R : Res Unit) (e : Ending) (w' : World) : Prop :=
  match R with
  | .ok _ x => e = .returned .nilIface ∧ okP w q S x lev w'
  | .bad code x => e = .returned (errAt S code x) ∧ badP w q S r w'
theorem exp_suf {t x : Bs} (h : expP t = .ok () x) : x <:+ t := by
  obtain ⟨u, h1, _⟩ := exp_pre h
  exact ⟨u, h1.symm⟩
theorem frac_suf {t x : Bs} (h : fracP t = .ok () x) : x <:+ t := by
  obtain ⟨u, h1, _⟩ := frac_pre h
  exact ⟨u, h1.symm⟩
theorem dig_suf {t x : Bs} (h : digP t = .ok () x) : x <:+ t := by
  obtain ⟨u, h1, _⟩ := dig_pre h
  exact ⟨u, h1.symm⟩
/-- The end of Go's 'number', from the exponent on, as the walk meets it: what is left to do at each way. -/
def minus (r : Bs) : Bs := if hd r = 45 then r.tail else r
theorem numP_minus (r : Bs) : numP r = intP (minus r) := by
  unfold numP minus
  split <;> rfl
theorem takeR_minus (r : Bs) : takeR r 45 = minus r := rfl
theorem hd_case {r : Bs} (c : UInt8) : (takeB r c = true ∧ takeR r c = r.tail ∧ hd r = c) ∨ (takeB r c = false ∧ takeR r c = r ∧ ¬ hd r = c) := by
  by_cases h : hd r = c
  · exact .inl ⟨(take_yes h).1, (take_yes h).2, h⟩
  · exact .inr ⟨(take_no h).1, (take_no h).2, h⟩

theorem saysU_ok {w w' : World} {q : Nat} {S r x : Bs} {lev : Nat} {R : Res Unit} (hR : R = .ok () x) (h : okP w q S x lev w') : saysU w q S r lev R (.returned .nilIface) w' := by
  rw [hR]; exact ⟨rfl, h⟩
theorem saysU_bad {w w' : World} {q : Nat} {S r x : Bs} {lev code : Nat} {R : Res Unit} (hR : R = .bad code x) (h : badP w q S r w') : saysU w q S r lev R (.returned (errAt S code x)) w' := by
  rw [hR]; exact ⟨rfl, h⟩
set_option maxHeartbeats 2000000 in
set_option maxRecDepth 100000 in
theorem number_any {w : World} {q : Nat} {S r : Bs} {lev : Nat} (hS : okT S) (h : RdAt w q S r lev) :
    Calls Tryz.prog 46 #[.pointer (some ⟨q, 0, none⟩)] w fun e w' => saysU w q S r lev (numP r) e w' := by
  have HN := Lib.hid (numP_minus r)
  have T1 := fun w (h : RdAt w q S r lev) => take_any h hS 45 45 rfl (by decide)
  rw [takeR_minus] at T1
  have HS1 := Lib.hid (show minus r <:+ r by unfold minus; split; exact List.tail_suffix r; exact List.suffix_refl r)
  generalize minus r = r1 at T1 HN HS1
  go_enter Tryz.func46, Tryz.ntmps46
  have T2 := fun w (h : RdAt w q S r1 lev) => take_any h hS 48 48 rfl (by decide)
  go_upto_if 9 with (first
    | (go_at_call 48; ((with_reducible refine (T1 _ (by assumption)).mono ?_); rintro e w1 ⟨rfl, h1, c1⟩))
    | (go_at_call 48; ((with_reducible refine (T2 _ (by assumption)).mono ?_); rintro e w2 ⟨rfl, h2, c2⟩)))
  clear T1 T2 h
  have c3 := c1.two c2
  clear h1 c1 c2
  go_cut [2] from 3 (fun s2 wx => s2 = .nilIface ∧ ∃ r2, RdAt wx q S r2 lev ∧ Hid (r2 <:+ r) ∧ Hid (numP r = fracP r2) ∧ Chg (· = q) w wx)
  case first =>
    rcases hd_case (r := r1) 48 with ⟨e0, e1, e2⟩ | ⟨e0, e1, e2⟩
    · rw [e1] at h2
      generalize takeB r1 48 = b at e0 ⊢
      subst e0
      have HF := Lib.hid (show numP r = fracP r1.tail by rw [HN.out]; unfold intP; rw [if_pos e2])
      clear e1 e2
      go_wp2
      go_meet
      case rel => exact ⟨rfl, r1.tail, h2, Lib.hid ((List.tail_suffix r1).trans HS1.out), HF, c3⟩
    · rw [e1] at h2
      generalize takeB r1 48 = b at e0 ⊢
      subst e0
      cases hx : digP r1 with
      | bad code x =>
        have HF := Lib.hid (show numP r = .bad code x by rw [HN.out]; unfold intP; rw [if_neg e2, hx])
        have D := fun w (h : RdAt w q S r1 lev) => digits_bad hx h
        clear e1 e2 hx
        go_wp2_with (go_at_call 64; ((with_reducible refine (D _ (by assumption)).mono ?_); rintro e w3 ⟨rfl, h3⟩; unfold errAt errV))
        go_ret
        exact saysU_bad HF.out (h3.trans c3 HS1.out)
      | ok u x =>
        have HF := Lib.hid (show numP r = fracP x by rw [HN.out]; unfold intP; rw [if_neg e2, hx])
        have D := fun w (h : RdAt w q S r1 lev) => digits_ok hS hx h
        have HX := Lib.hid (dig_suf hx)
        clear e1 e2 hx
        go_wp2_with (go_at_call 64; ((with_reducible refine (D _ (by assumption)).mono ?_); rintro e w3 ⟨rfl, h3⟩))
        go_meet
        case rel => exact ⟨rfl, x, h3.1, Lib.hid (HX.out.trans HS1.out), HF, c3.two h3.2⟩
  case rest =>
    clear c3 h2 HN HS1 w2
    obtain ⟨rfl, r2, h2, HS2, HN, c3⟩ := hcut
    have T3 := fun w (h : RdAt w q S r2 lev) => take_any h hS 46 46 rfl (by decide)
    go_upto_if 16 with (go_at_call 48; ((with_reducible refine (T3 _ (by assumption)).mono ?_); rintro e w3 ⟨rfl, h3, c4⟩))
    clear T3 h2
    have c5 := c3.two c4
    clear c3 c4
    go_cut [2] from 3 (fun s2 wx => s2 = .nilIface ∧ ∃ r3, RdAt wx q S r3 lev ∧ Hid (r3 <:+ r) ∧ Hid (numP r = expP r3) ∧ Chg (· = q) w wx)
    case first =>
      rcases hd_case (r := r2) 46 with ⟨e0, e1, e2⟩ | ⟨e0, e1, e2⟩
      · rw [e1] at h3
        generalize takeB r2 46 = b at e0 ⊢
        subst e0
        cases hx : digP r2.tail with
        | bad code x =>
          have HF := Lib.hid (show numP r = .bad code x by rw [HN.out]; unfold fracP; rw [if_pos e2, hx])
          have D := fun w (h : RdAt w q S r2.tail lev) => digits_bad hx h
          clear e1 e2 hx
          go_wp2_with (go_at_call 64; ((with_reducible refine (D _ (by assumption)).mono ?_); rintro e w3 ⟨rfl, h3⟩; unfold errAt errV))
          go_ret
          exact saysU_bad HF.out (h3.trans c5 ((List.tail_suffix r2).trans HS2.out))
        | ok u x =>
          have HF := Lib.hid (show numP r = expP x by rw [HN.out]; unfold fracP; rw [if_pos e2, hx])
          have D := fun w (h : RdAt w q S r2.tail lev) => digits_ok hS hx h
          have HX := Lib.hid (dig_suf hx)
          clear e1 e2 hx
          go_wp2_with (go_at_call 64; ((with_reducible refine (D _ (by assumption)).mono ?_); rintro e w3 ⟨rfl, h3⟩))
          go_meet
          case rel => exact ⟨rfl, x, h3.1, Lib.hid ((HX.out.trans (List.tail_suffix r2)).trans HS2.out), HF, c5.two h3.2⟩
      · rw [e1] at h3
        generalize takeB r2 46 = b at e0 ⊢
        subst e0
        have HF := Lib.hid (show numP r = expP r2 by rw [HN.out]; unfold fracP; rw [if_neg e2])
        clear e1 e2
        go_wp2
        go_meet
        case rel => exact ⟨rfl, r2, h3, HS2, HF, c5⟩
    case rest =>
      clear c5 h3 HN HS2 w3
      obtain ⟨rfl, r3, h3, HS3, HN, c5⟩ := hcut
      by_cases he : hd r3 = 101 ∨ hd r3 = 69
      · -- an exponent
        have HX := Lib.hid (show numP r = if hd r3.tail = 43 ∨ hd r3.tail = 45 then digP r3.tail.tail else digP r3.tail by rw [HN.out]; unfold expP; rw [if_pos he])
        have hsuf : r3.tail <:+ r := (List.tail_suffix r3).trans HS3.out
        have HT := Lib.hid hsuf
        clear hsuf
        by_cases h1 : hd r3 = 101
        · have TE := take_T (q := q) (lev := lev) hS 101 101 rfl (by decide) h1
          rcases hd_case (r := r3.tail) 43 with ⟨_, _, s1⟩ | ⟨_, _, s1⟩
          · have TP := take_T (q := q) (lev := lev) hS 43 43 rfl (by decide) s1
            cases hx : digP r3.tail.tail with
            | bad code x =>
              have HF := Lib.hid (show numP r = .bad code x by rw [HX.out, if_pos (.inl s1), hx])
              have D := fun w (h : RdAt w q S (r3.tail.tail) lev) => digits_bad hx h
              clear hx s1 h1 he HX
              go_wp2_with (first
                | (go_at_call 48; ((with_reducible refine (TE _ (by assumption)).mono ?_); rintro e wTE ⟨rfl, hTE, cTE⟩))
                | (go_at_call 48; ((with_reducible refine (TP _ (by assumption)).mono ?_); rintro e wTP ⟨rfl, hTP, cTP⟩))
                | (go_at_call 64; ((with_reducible refine (D _ (by assumption)).mono ?_); rintro e wD ⟨rfl, hD⟩; unfold errAt errV)))
              go_ret
              exact saysU_bad HF.out (hD.trans ((c5.two cTE).two cTP) ((List.tail_suffix r3.tail).trans HT.out))
            | ok u x =>
              have HF := Lib.hid (show numP r = .ok () x by rw [HX.out, if_pos (.inl s1), hx])
              have D := fun w (h : RdAt w q S (r3.tail.tail) lev) => digits_ok hS hx h
              clear hx s1 h1 he HX
              go_wp2_with (first
                | (go_at_call 48; ((with_reducible refine (TE _ (by assumption)).mono ?_); rintro e wTE ⟨rfl, hTE, cTE⟩))
                | (go_at_call 48; ((with_reducible refine (TP _ (by assumption)).mono ?_); rintro e wTP ⟨rfl, hTP, cTP⟩))
                | (go_at_call 64; ((with_reducible refine (D _ (by assumption)).mono ?_); rintro e wD ⟨rfl, hD⟩)))
              go_ret
              exact saysU_ok HF.out ⟨hD.1, ((c5.two cTE).two cTP).two hD.2⟩
          · have TP := take_F (q := q) (lev := lev) hS 43 43 rfl (by decide) s1
            by_cases s2 : hd r3.tail = 45
            · have TM := take_T (q := q) (lev := lev) hS 45 45 rfl (by decide) s2
              cases hx : digP r3.tail.tail with
              | bad code x =>
                have HF := Lib.hid (show numP r = .bad code x by rw [HX.out, if_pos (.inr s2), hx])
                have D := fun w (h : RdAt w q S (r3.tail.tail) lev) => digits_bad hx h
                clear hx s1 h1 he s2 HX
                go_wp2_with (first
                  | (go_at_call 48; ((with_reducible refine (TE _ (by assumption)).mono ?_); rintro e wTE ⟨rfl, hTE, cTE⟩))
                  | (go_at_call 48; ((with_reducible refine (TP _ (by assumption)).mono ?_); rintro e wTP ⟨rfl, hTP, cTP⟩))
                  | (go_at_call 48; ((with_reducible refine (TM _ (by assumption)).mono ?_); rintro e wTM ⟨rfl, hTM, cTM⟩))
                  | (go_at_call 64; ((with_reducible refine (D _ (by assumption)).mono ?_); rintro e wD ⟨rfl, hD⟩; unfold errAt errV)))
                go_ret
                exact saysU_bad HF.out (hD.trans (((c5.two cTE).two cTP).two cTM) ((List.tail_suffix r3.tail).trans HT.out))
              | ok u x =>
                have HF := Lib.hid (show numP r = .ok () x by rw [HX.out, if_pos (.inr s2), hx])
                have D := fun w (h : RdAt w q S (r3.tail.tail) lev) => digits_ok hS hx h
                clear hx s1 h1 he s2 HX
                go_wp2_with (first
                  | (go_at_call 48; ((with_reducible refine (TE _ (by assumption)).mono ?_); rintro e wTE ⟨rfl, hTE, cTE⟩))
                  | (go_at_call 48; ((with_reducible refine (TP _ (by assumption)).mono ?_); rintro e wTP ⟨rfl, hTP, cTP⟩))
                  | (go_at_call 48; ((with_reducible refine (TM _ (by assumption)).mono ?_); rintro e wTM ⟨rfl, hTM, cTM⟩))
                  | (go_at_call 64; ((with_reducible refine (D _ (by assumption)).mono ?_); rintro e wD ⟨rfl, hD⟩)))
                go_ret
                exact saysU_ok HF.out ⟨hD.1, (((c5.two cTE).two cTP).two cTM).two hD.2⟩
            · have TM := take_F (q := q) (lev := lev) hS 45 45 rfl (by decide) s2
              cases hx : digP r3.tail with
              | bad code x =>
                have HF := Lib.hid (show numP r = .bad code x by rw [HX.out, if_neg (fun h => h.elim s1 s2), hx])
                have D := fun w (h : RdAt w q S (r3.tail) lev) => digits_bad hx h
                clear hx s1 h1 he s2 HX
                go_wp2_with (first
                  | (go_at_call 48; ((with_reducible refine (TE _ (by assumption)).mono ?_); rintro e wTE ⟨rfl, hTE, cTE⟩))
                  | (go_at_call 48; ((with_reducible refine (TP _ (by assumption)).mono ?_); rintro e wTP ⟨rfl, hTP, cTP⟩))
                  | (go_at_call 48; ((with_reducible refine (TM _ (by assumption)).mono ?_); rintro e wTM ⟨rfl, hTM, cTM⟩))
                  | (go_at_call 64; ((with_reducible refine (D _ (by assumption)).mono ?_); rintro e wD ⟨rfl, hD⟩; unfold errAt errV)))
                go_ret
                exact saysU_bad HF.out (hD.trans (((c5.two cTE).two cTP).two cTM) (HT.out))
              | ok u x =>
                have HF := Lib.hid (show numP r = .ok () x by rw [HX.out, if_neg (fun h => h.elim s1 s2), hx])
                have D := fun w (h : RdAt w q S (r3.tail) lev) => digits_ok hS hx h
                clear hx s1 h1 he s2 HX
                go_wp2_with (first
                  | (go_at_call 48; ((with_reducible refine (TE _ (by assumption)).mono ?_); rintro e wTE ⟨rfl, hTE, cTE⟩))
                  | (go_at_call 48; ((with_reducible refine (TP _ (by assumption)).mono ?_); rintro e wTP ⟨rfl, hTP, cTP⟩))
                  | (go_at_call 48; ((with_reducible refine (TM _ (by assumption)).mono ?_); rintro e wTM ⟨rfl, hTM, cTM⟩))
                  | (go_at_call 64; ((with_reducible refine (D _ (by assumption)).mono ?_); rintro e wD ⟨rfl, hD⟩)))
                go_ret
                exact saysU_ok HF.out ⟨hD.1, (((c5.two cTE).two cTP).two cTM).two hD.2⟩
        · have TE := take_F (q := q) (lev := lev) hS 101 101 rfl (by decide) h1
          have TG := take_T (q := q) (lev := lev) hS 69 69 rfl (by decide) (he.resolve_left h1)
          rcases hd_case (r := r3.tail) 43 with ⟨_, _, s1⟩ | ⟨_, _, s1⟩
          · have TP := take_T (q := q) (lev := lev) hS 43 43 rfl (by decide) s1
            cases hx : digP r3.tail.tail with
            | bad code x =>
              have HF := Lib.hid (show numP r = .bad code x by rw [HX.out, if_pos (.inl s1), hx])
              have D := fun w (h : RdAt w q S (r3.tail.tail) lev) => digits_bad hx h
              clear hx s1 h1 he HX
              go_wp2_with (first
                | (go_at_call 48; ((with_reducible refine (TE _ (by assumption)).mono ?_); rintro e wTE ⟨rfl, hTE, cTE⟩))
                | (go_at_call 48; ((with_reducible refine (TG _ (by assumption)).mono ?_); rintro e wTG ⟨rfl, hTG, cTG⟩))
                | (go_at_call 48; ((with_reducible refine (TP _ (by assumption)).mono ?_); rintro e wTP ⟨rfl, hTP, cTP⟩))
                | (go_at_call 64; ((with_reducible refine (D _ (by assumption)).mono ?_); rintro e wD ⟨rfl, hD⟩; unfold errAt errV)))
              go_ret
              exact saysU_bad HF.out (hD.trans (((c5.two cTE).two cTG).two cTP) ((List.tail_suffix r3.tail).trans HT.out))
            | ok u x =>
              have HF := Lib.hid (show numP r = .ok () x by rw [HX.out, if_pos (.inl s1), hx])
              have D := fun w (h : RdAt w q S (r3.tail.tail) lev) => digits_ok hS hx h
              clear hx s1 h1 he HX
              go_wp2_with (first
                | (go_at_call 48; ((with_reducible refine (TE _ (by assumption)).mono ?_); rintro e wTE ⟨rfl, hTE, cTE⟩))
                | (go_at_call 48; ((with_reducible refine (TG _ (by assumption)).mono ?_); rintro e wTG ⟨rfl, hTG, cTG⟩))
                | (go_at_call 48; ((with_reducible refine (TP _ (by assumption)).mono ?_); rintro e wTP ⟨rfl, hTP, cTP⟩))
                | (go_at_call 64; ((with_reducible refine (D _ (by assumption)).mono ?_); rintro e wD ⟨rfl, hD⟩)))
              go_ret
              exact saysU_ok HF.out ⟨hD.1, (((c5.two cTE).two cTG).two cTP).two hD.2⟩
          · have TP := take_F (q := q) (lev := lev) hS 43 43 rfl (by decide) s1
            by_cases s2 : hd r3.tail = 45
            · have TM := take_T (q := q) (lev := lev) hS 45 45 rfl (by decide) s2
              cases hx : digP r3.tail.tail with
              | bad code x =>
                have HF := Lib.hid (show numP r = .bad code x by rw [HX.out, if_pos (.inr s2), hx])
                have D := fun w (h : RdAt w q S (r3.tail.tail) lev) => digits_bad hx h
                clear hx s1 h1 he s2 HX
                go_wp2_with (first
                  | (go_at_call 48; ((with_reducible refine (TE _ (by assumption)).mono ?_); rintro e wTE ⟨rfl, hTE, cTE⟩))
                  | (go_at_call 48; ((with_reducible refine (TG _ (by assumption)).mono ?_); rintro e wTG ⟨rfl, hTG, cTG⟩))
                  | (go_at_call 48; ((with_reducible refine (TP _ (by assumption)).mono ?_); rintro e wTP ⟨rfl, hTP, cTP⟩))
                  | (go_at_call 48; ((with_reducible refine (TM _ (by assumption)).mono ?_); rintro e wTM ⟨rfl, hTM, cTM⟩))
                  | (go_at_call 64; ((with_reducible refine (D _ (by assumption)).mono ?_); rintro e wD ⟨rfl, hD⟩; unfold errAt errV)))
                go_ret
                exact saysU_bad HF.out (hD.trans ((((c5.two cTE).two cTG).two cTP).two cTM) ((List.tail_suffix r3.tail).trans HT.out))
              | ok u x =>
                have HF := Lib.hid (show numP r = .ok () x by rw [HX.out, if_pos (.inr s2), hx])
                have D := fun w (h : RdAt w q S (r3.tail.tail) lev) => digits_ok hS hx h
                clear hx s1 h1 he s2 HX
                go_wp2_with (first
                  | (go_at_call 48; ((with_reducible refine (TE _ (by assumption)).mono ?_); rintro e wTE ⟨rfl, hTE, cTE⟩))
                  | (go_at_call 48; ((with_reducible refine (TG _ (by assumption)).mono ?_); rintro e wTG ⟨rfl, hTG, cTG⟩))
                  | (go_at_call 48; ((with_reducible refine (TP _ (by assumption)).mono ?_); rintro e wTP ⟨rfl, hTP, cTP⟩))
                  | (go_at_call 48; ((with_reducible refine (TM _ (by assumption)).mono ?_); rintro e wTM ⟨rfl, hTM, cTM⟩))
                  | (go_at_call 64; ((with_reducible refine (D _ (by assumption)).mono ?_); rintro e wD ⟨rfl, hD⟩)))
                go_ret
                exact saysU_ok HF.out ⟨hD.1, ((((c5.two cTE).two cTG).two cTP).two cTM).two hD.2⟩
            · have TM := take_F (q := q) (lev := lev) hS 45 45 rfl (by decide) s2
              cases hx : digP r3.tail with
              | bad code x =>
                have HF := Lib.hid (show numP r = .bad code x by rw [HX.out, if_neg (fun h => h.elim s1 s2), hx])
                have D := fun w (h : RdAt w q S (r3.tail) lev) => digits_bad hx h
                clear hx s1 h1 he s2 HX
                go_wp2_with (first
                  | (go_at_call 48; ((with_reducible refine (TE _ (by assumption)).mono ?_); rintro e wTE ⟨rfl, hTE, cTE⟩))
                  | (go_at_call 48; ((with_reducible refine (TG _ (by assumption)).mono ?_); rintro e wTG ⟨rfl, hTG, cTG⟩))
                  | (go_at_call 48; ((with_reducible refine (TP _ (by assumption)).mono ?_); rintro e wTP ⟨rfl, hTP, cTP⟩))
                  | (go_at_call 48; ((with_reducible refine (TM _ (by assumption)).mono ?_); rintro e wTM ⟨rfl, hTM, cTM⟩))
                  | (go_at_call 64; ((with_reducible refine (D _ (by assumption)).mono ?_); rintro e wD ⟨rfl, hD⟩; unfold errAt errV)))
                go_ret
                exact saysU_bad HF.out (hD.trans ((((c5.two cTE).two cTG).two cTP).two cTM) (HT.out))
              | ok u x =>
                have HF := Lib.hid (show numP r = .ok () x by rw [HX.out, if_neg (fun h => h.elim s1 s2), hx])
                have D := fun w (h : RdAt w q S (r3.tail) lev) => digits_ok hS hx h
                clear hx s1 h1 he s2 HX
                go_wp2_with (first
                  | (go_at_call 48; ((with_reducible refine (TE _ (by assumption)).mono ?_); rintro e wTE ⟨rfl, hTE, cTE⟩))
                  | (go_at_call 48; ((with_reducible refine (TG _ (by assumption)).mono ?_); rintro e wTG ⟨rfl, hTG, cTG⟩))
                  | (go_at_call 48; ((with_reducible refine (TP _ (by assumption)).mono ?_); rintro e wTP ⟨rfl, hTP, cTP⟩))
                  | (go_at_call 48; ((with_reducible refine (TM _ (by assumption)).mono ?_); rintro e wTM ⟨rfl, hTM, cTM⟩))
                  | (go_at_call 64; ((with_reducible refine (D _ (by assumption)).mono ?_); rintro e wD ⟨rfl, hD⟩)))
                go_ret
                exact saysU_ok HF.out ⟨hD.1, ((((c5.two cTE).two cTG).two cTP).two cTM).two hD.2⟩
      · have T4 := take_F (q := q) (lev := lev) hS 101 101 rfl (by decide) (fun e => he (.inl e))
        have T5 := take_F (q := q) (lev := lev) hS 69 69 rfl (by decide) (fun e => he (.inr e))
        have HF := Lib.hid (show numP r = .ok () r3 by rw [HN.out]; unfold expP; rw [if_neg he])
        clear he
        go_wp2_with (first
          | (go_at_call 48; ((with_reducible refine (T4 _ (by assumption)).mono ?_); rintro e w4 ⟨rfl, h4, c6⟩))
          | (go_at_call 48; ((with_reducible refine (T5 _ (by assumption)).mono ?_); rintro e w5 ⟨rfl, h5, c7⟩)))
        go_ret
        exact saysU_ok HF.out ⟨h5, (c5.two c6).two c7⟩
end Go.Proofs.YtafmokpplnmbgaaGreatDoor

/- Layer 11: what start-up laid; values in memory; words. -/
namespace Go.Proofs.YtafmokpplnmbgaaGreatDoor
open Go.RowKit

/-- What start-up laid, as far as it is read. -/
structure Env (w : World) : Prop where
  words : ∀ i, i < 3 → w.cell? ⟨0, i, none⟩ = some (.string (str (wordOf (i : Int))))
  tabs : Lib.Utf8Tabs 2 3 w
  errT : w.cell? ⟨1, 0, none⟩ = some (.iface 105 (.agg #[.pointer (some ⟨10, 60, none⟩)]))
  syn : ∃ tp p, w.var? Tryz.prog "strconv.ErrSyntax" = some #[.iface tp p]
  big : 10 ≤ w.heap.size
  tz : w.cell? ⟨9, 15, none⟩ = some (.int .u8 4)
theorem cell_same {w w' : World} (h : ∀ k, k < 10 → w'.heap[k]? = w.heap[k]?) (k : Nat) (hk : k < 10) (i : Nat) : w'.cell? ⟨k, i, none⟩ = w.cell? ⟨k, i, none⟩ :=
  World.cell?_of_block (w := w) (w' := w') (a := ⟨k, i, none⟩) (h k hk)
theorem syn_glob : Tryz.prog.globalNamed "strconv.ErrSyntax" = some 4 := by kernel_rfl
theorem Env.same {w w' : World} (e : Env w) (h : ∀ k, k < 10 → w'.heap[k]? = w.heap[k]?) (hs : w.heap.size ≤ w'.heap.size) : Env w' := by
  refine ⟨fun i hi => (cell_same h _ (by decide) i).trans (e.words i hi), ⟨fun c hc => (cell_same h _ (by decide) c).trans (e.tabs.1 c hc), fun i hi => ⟨(cell_same h _ (by decide) _).trans (e.tabs.2 i hi).1, (cell_same h _ (by decide) _).trans (e.tabs.2 i hi).2⟩⟩, (cell_same h _ (by decide) 0).trans e.errT, ?_, Nat.le_trans e.big hs, (cell_same h _ (by decide) 15).trans e.tz⟩
  obtain ⟨tp, p, hv⟩ := e.syn
  refine ⟨tp, p, ?_⟩
  rw [← hv]
  unfold World.var?
  rw [syn_glob]
  have := h 4 (by decide)
  simp [this]
theorem Env.chg {s : Nat → Prop} {w w' : World} (e : Env w) (h : Chg s w w') (hs : ∀ k, k < 10 → ¬ s k) : Env w' :=
  e.same (fun k hk => h.block k (Nat.lt_of_lt_of_le hk e.big) (hs k hk)) h.size
theorem Env.q {w w' : World} {q : Nat} (e : Env w) (h : Chg (· = q) w w') (hq : 10 ≤ q) : Env w' := e.chg h (fun k hk hkq => by omega)
theorem Env.below {w w' : World} (e : Env w) (h : Below w.heap.size w w') : Env w' := e.chg (s := fun _ => False) (Chg.of_below h) (fun _ _ => id)
theorem Env.drewN {w : World} (e : Env w) (n : Nat) : Env (w.drewN n) := e.same (fun _ _ => rfl) (Nat.le_refl _)
/-! ### Values in memory -/
/-- Texts, one behind the other. -/
def HoldsK (w : World) (F : Nat → Prop) (keys : List Bs) (V : Value) : Prop :=
  (V = .slice none 0 0 ∧ keys = []) ∨ ∃ (ad : Addr) (cap : Nat), V = .slice (some ad) keys.length cap ∧ ∀ i, i < keys.length → F ad.block ∧ w.cell? (ad.add i) = some (.string (str (keys.getD i [])))
mutual
/-- A value's four cells. -/
def HoldsC (w : World) (F : Nat → Prop) : JV → Value → Value → Value → Value → Prop
  | .mk k t items keys, a, b, c, d => a = .int .i64 k ∧ b = .string (str t) ∧ t.length ≤ 281474976710656 ∧ HoldsK w F keys d ∧
      ((c = .slice none 0 0 ∧ items = []) ∨ ∃ (ad : Addr) (cap : Nat), c = .slice (some ad) items.length cap ∧ HoldsR w F items ad 0)
/-- Values, one behind the other, from the i-th one on. -/
def HoldsR (w : World) (F : Nat → Prop) : List JV → Addr → Nat → Prop
  | [], _, _ => True
  | x :: l, ad, i => (∃ a b c d, F ad.block ∧ w.cell? (ad.add (4 * i)) = some a ∧ w.cell? (ad.add (4 * i + 1)) = some b ∧ w.cell? (ad.add (4 * i + 2)) = some c ∧ w.cell? (ad.add (4 * i + 3)) = some d ∧ HoldsC w F x a b c d) ∧ HoldsR w F l ad (i + 1)
end
def HoldsJ (w : World) (F : Nat → Prop) (v : JV) (V : Value) : Prop := ∃ a b c d, V = .agg #[a, b, c, d] ∧ HoldsC w F v a b c d
theorem add_block (a : Addr) (i : Nat) : (a.add i).block = a.block := by unfold Addr.add; split <;> rfl
theorem cell_chg {s : Nat → Prop} {w w' : World} (h : Chg s w w') {a : Addr} {v : Value} (hc : w.cell? a = some v) (hs : ¬ s a.block) : w'.cell? a = some v := by
  have hlt : a.block < w.heap.size := World.block_lt_of_cell? w _ hc
  rw [World.cell?_of_block (w := w) (w' := w') (a := a) (h.block _ hlt hs)]
  exact hc
theorem HoldsK.chg {s F : Nat → Prop} {w w' : World} {keys : List Bs} {V : Value} (h : HoldsK w F keys V) (hc : Chg s w w') (hs : ∀ k, F k → ¬ s k) : HoldsK w' F keys V := by
  rcases h with h | ⟨ad, cap, hv, hk⟩
  · exact .inl h
  · exact .inr ⟨ad, cap, hv, fun i hi => ⟨(hk i hi).1, cell_chg hc (hk i hi).2 (by rw [add_block]; exact hs _ (hk i hi).1)⟩⟩
theorem HoldsK.mono {F G : Nat → Prop} {w : World} {keys : List Bs} {V : Value} (h : HoldsK w F keys V) (hs : ∀ k, F k → k < w.heap.size → G k) : HoldsK w G keys V := by
  rcases h with h | ⟨ad, cap, hv, hk⟩
  · exact .inl h
  · refine .inr ⟨ad, cap, hv, fun i hi => ⟨hs _ (hk i hi).1 ?_, (hk i hi).2⟩⟩
    have := World.block_lt_of_cell? w _ (hk i hi).2
    rwa [add_block] at this
mutual
theorem HoldsC.chg {s F : Nat → Prop} {w w' : World} (hc : Chg s w w') (hs : ∀ k, F k → ¬ s k) : ∀ (v : JV) (a b c d : Value), HoldsC w F v a b c d → HoldsC w' F v a b c d
  | .mk k t items keys, a, b, c, d, h => by
    rw [HoldsC] at h ⊢
    obtain ⟨h1, h2, h3, h4, h5⟩ := h
    refine ⟨h1, h2, h3, h4.chg hc hs, ?_⟩
    rcases h5 with h5 | ⟨ad, cap, h5, h6⟩
    · exact .inl h5
    · exact .inr ⟨ad, cap, h5, HoldsR.chg hc hs items ad 0 h6⟩
theorem HoldsR.chg {s F : Nat → Prop} {w w' : World} (hc : Chg s w w') (hs : ∀ k, F k → ¬ s k) : ∀ (l : List JV) (ad : Addr) (i : Nat), HoldsR w F l ad i → HoldsR w' F l ad i
  | [], _, _, _ => by rw [HoldsR]; trivial
  | x :: l, ad, i, h => by
    rw [HoldsR] at h ⊢
    obtain ⟨⟨a, b, c, d, h0, h1, h2, h3, h4, h5⟩, h6⟩ := h
    exact ⟨⟨a, b, c, d, h0, cell_chg hc h1 (by rw [add_block]; exact hs _ h0), cell_chg hc h2 (by rw [add_block]; exact hs _ h0), cell_chg hc h3 (by rw [add_block]; exact hs _ h0), cell_chg hc h4 (by rw [add_block]; exact hs _ h0), HoldsC.chg hc hs x a b c d h5⟩, HoldsR.chg hc hs l ad (i + 1) h6⟩
end
mutual
theorem HoldsC.mono {F G : Nat → Prop} {w : World} (hs : ∀ k, F k → k < w.heap.size → G k) : ∀ (v : JV) (a b c d : Value), HoldsC w F v a b c d → HoldsC w G v a b c d
  | .mk k t items keys, a, b, c, d, h => by
    rw [HoldsC] at h ⊢
    obtain ⟨h1, h2, h3, h4, h5⟩ := h
    refine ⟨h1, h2, h3, h4.mono hs, ?_⟩
    rcases h5 with h5 | ⟨ad, cap, h5, h6⟩
    · exact .inl h5
    · exact .inr ⟨ad, cap, h5, HoldsR.mono hs items ad 0 h6⟩
theorem HoldsR.mono {F G : Nat → Prop} {w : World} (hs : ∀ k, F k → k < w.heap.size → G k) : ∀ (l : List JV) (ad : Addr) (i : Nat), HoldsR w F l ad i → HoldsR w G l ad i
  | [], _, _, _ => by rw [HoldsR]; trivial
  | x :: l, ad, i, h => by
    rw [HoldsR] at h ⊢
    obtain ⟨⟨a, b, c, d, h0, h1, h2, h3, h4, h5⟩, h6⟩ := h
    have hlt : ad.block < w.heap.size := by
      have := World.block_lt_of_cell? w _ h1
      rwa [add_block] at this
    exact ⟨⟨a, b, c, d, hs _ h0 hlt, h1, h2, h3, h4, HoldsC.mono hs x a b c d h5⟩, HoldsR.mono hs l ad (i + 1) h6⟩
end
theorem HoldsJ.chg {s F : Nat → Prop} {w w' : World} {v : JV} {V : Value} (h : HoldsJ w F v V) (hc : Chg s w w') (hs : ∀ k, F k → ¬ s k) : HoldsJ w' F v V := by
  obtain ⟨a, b, c, d, h1, h2⟩ := h
  exact ⟨a, b, c, d, h1, HoldsC.chg hc hs v a b c d h2⟩
theorem HoldsJ.mono {F G : Nat → Prop} {w : World} {v : JV} {V : Value} (h : HoldsJ w F v V) (hs : ∀ k, F k → k < w.heap.size → G k) : HoldsJ w G v V := by
  obtain ⟨a, b, c, d, h1, h2⟩ := h
  exact ⟨a, b, c, d, h1, HoldsC.mono hs v a b c d h2⟩
/-- The form that the four cells have. -/
theorem HoldsC.form {F : Nat → Prop} {w : World} {v : JV} {a b c d : Value} (h : HoldsC w F v a b c d) : a = .int .i64 v.kind ∧ b = .string (str v.text) ∧ (∃ x cap, c = .slice x v.items.length cap) ∧ ∃ x cap, d = .slice x v.keys.length cap := by
  obtain ⟨k, t, items, keys⟩ := v
  rw [HoldsC] at h
  obtain ⟨h1, h2, _, h4, h5⟩ := h
  refine ⟨h1, h2, ?_, ?_⟩
  · rcases h5 with ⟨h5, h6⟩ | ⟨ad, cap, h5, _⟩
    · exact ⟨none, 0, by rw [h5]; show _ = Value.slice none items.length 0; rw [h6]; rfl⟩
    · exact ⟨some ad, cap, h5⟩
  · rcases h4 with ⟨h5, h6⟩ | ⟨ad, cap, h5, _⟩
    · exact ⟨none, 0, by rw [h5]; show _ = Value.slice none keys.length 0; rw [h6]; rfl⟩
    · exact ⟨some ad, cap, h5⟩
theorem holds_word (w : World) (F : Nat → Prop) (k : Int) : HoldsJ w F (.mk k [] [] []) (.agg #[.int .i64 k, .string ⟨#[]⟩, .slice none 0 0, .slice none 0 0]) :=
  ⟨_, _, _, _, rfl, by rw [HoldsC]; exact ⟨rfl, rfl, by simp, .inl ⟨rfl, rfl⟩, .inl ⟨rfl, rfl⟩⟩⟩
theorem holds_text (w : World) (F : Nat → Prop) (k : Int) {t : Bs} (ht : t.length ≤ 281474976710656) : HoldsJ w F (.mk k t [] []) (.agg #[.int .i64 k, .string (str t), .slice none 0 0, .slice none 0 0]) :=
  ⟨_, _, _, _, rfl, by rw [HoldsC]; exact ⟨rfl, rfl, ht, .inl ⟨rfl, rfl⟩, .inl ⟨rfl, rfl⟩⟩⟩
/-- Four cells that may stand in a block. -/
def four (V : Value) : Prop := ∃ (k : Int) (t : ByteArray) (x1 : Option Addr) (n1 c1 : Nat) (x2 : Option Addr) (n2 c2 : Nat), V = .agg #[.int .i64 k, .string t, .slice x1 n1 c1, .slice x2 n2 c2]
theorem HoldsJ.four {F : Nat → Prop} {w : World} {v : JV} {V : Value} (h : HoldsJ w F v V) : four V := by
  obtain ⟨a, b, c, d, rfl, h2⟩ := h
  obtain ⟨rfl, rfl, ⟨x, cap, rfl⟩, y, cap', rfl⟩ := h2.form
  exact ⟨_, _, _, _, _, _, _, _, rfl⟩
/-- What a reading of a value says of a call that answers it and an error. New blocks hold it. -/
def saysV (w : World) (q : Nat) (S r : Bs) (lev : Nat) (R : Res JV) (e : Ending) (w' : World) : Prop :=
  match R with
  | .ok v x => ∃ V, e = .returned (.tuple #[V, .nilIface]) ∧ HoldsJ w' (fun k => w.heap.size ≤ k ∧ k < w'.heap.size) v V ∧ okP w q S x lev w'
  | .bad code x => ∃ V, e = .returned (.tuple #[V, errAt S code x]) ∧ four V ∧ badP w q S r w'
end Go.Proofs.YtafmokpplnmbgaaGreatDoor

/- Layer 11: words. -/
namespace Go.Proofs.YtafmokpplnmbgaaGreatDoor
open Go.RowKit

def zeroV4 : Array Value := #[.int .i64 0, .string ⟨#[]⟩, .slice none 0 0, .slice none 0 0]
def cells4 (k : Int) (t : ByteArray) : Array Value := #[.int .i64 k, .string t, .slice none 0 0, .slice none 0 0]
def row4 (k : Int) (t : ByteArray) (x1 : Option Addr) (n1 c1 : Nat) (x2 : Option Addr) (n2 c2 : Nat) : Array Value := #[.int .i64 k, .string t, .slice x1 n1 c1, .slice x2 n2 c2]
theorem row4_all (k : Int) (t : ByteArray) (x1 : Option Addr) (n1 c1 : Nat) (x2 : Option Addr) (n2 c2 : Nat) : (row4 k t x1 n1 c1 x2 n2 c2).all (·.oneCell') = true := all_oneCell_toArray (fun v hv => by
  rcases List.mem_cons.1 hv with rfl | hv
  · rfl
  rcases List.mem_cons.1 hv with rfl | hv
  · rfl
  rcases List.mem_cons.1 hv with rfl | hv
  · rfl
  rw [List.mem_singleton.1 hv]; rfl)
theorem cells4_all (k : Int) (t : ByteArray) : (cells4 k t).all (·.oneCell') = true := row4_all k t none 0 0 none 0 0
theorem zeroV4_all : zeroV4.all (·.oneCell') = true := cells4_all 0 ⟨#[]⟩
theorem info_V : (Tryz.prog.info? 27).map (·.size) = some 4 := by kernel_rfl
theorem zero_four : four (.agg zeroV4) := ⟨0, ⟨#[]⟩, none, 0, 0, none, 0, 0, rfl⟩
theorem Chg.from_alloc {q : Nat} {w w' : World} {o : Obj} (h : Chg (· = q) (w.alloc o) w') : Chg (· = q) w w' := ((Chg.refl _ w).alloc o).two h
theorem saysV_bad {w w' : World} {q : Nat} {S r x : Bs} {lev code : Nat} {R : Res JV} {V : Value} (hR : R = .bad code x) (hV : four V) (h : badP w q S r w') : saysV w q S r lev R (.returned (.tuple #[V, errAt S code x])) w' := by
  rw [hR]; exact ⟨V, rfl, hV, h⟩
theorem saysV_ok {w w' : World} {q : Nat} {S r x : Bs} {lev : Nat} {R : Res JV} {V : Value} {v : JV} (hR : R = .ok v x) (hV : HoldsJ w' (fun k => w.heap.size ≤ k ∧ k < w'.heap.size) v V) (h : okP w q S x lev w') : saysV w q S r lev R (.returned (.tuple #[V, .nilIface])) w' := by
  rw [hR]; exact ⟨V, rfl, hV, h⟩
theorem word_ne (k : Nat) (hk : k < 3) : ∀ c ∈ wordOf (k : Int), c ≠ 0 := by
  have : k = 0 ∨ k = 1 ∨ k = 2 := by omega
  rcases this with rfl | rfl | rfl <;> decide
theorem word_len (k : Nat) : (wordOf (k : Int)).length ≤ 5 := by
  unfold wordOf
  split
  · decide
  split <;> decide
theorem word_step {W r : Bs} {j : Nat} (hj : j < W.length) : wordP (W.drop j) r = if hd r = W.getD j 0 then wordP (W.drop (j + 1)) r.tail else .bad 10 r := by
  rw [List.drop_eq_getElem_cons hj, wordP, List.getD_eq_getElem?_getD, List.getElem?_eq_getElem hj]
  rfl
set_option maxRecDepth 100000 in
set_option maxHeartbeats 2000000 in
theorem word_any {w : World} {q : Nat} {S r : Bs} {lev : Nat} (hS : okT S) (hE : Env w) (hq : 10 ≤ q) (h : RdAt w q S r lev) (k : Nat) (hk : k < 3) :
    Calls Tryz.prog 42 #[.pointer (some ⟨q, 0, none⟩), .int .i64 (k : Int)] w fun e w' => saysV w q S r lev (mkW (k : Int) (wordOf (k : Int)) r) e w' := by
  have hne := word_ne k hk
  have hlen := word_len k
  have hc0 := hE.words k hk
  obtain ⟨W, hW⟩ : ∃ W, W = wordOf (k : Int) := ⟨_, rfl⟩
  rw [← hW] at hne hlen hc0 ⊢
  have hqw := h.lt
  obtain ⟨W0, hW0⟩ : ∃ W0, W0 = w.alloc (.cells #[.int .i64 0, .string ⟨#[]⟩, .slice none 0 0, .slice none 0 0] 27) := ⟨_, rfl⟩
  have R0 : rowC W0 w.heap.size zeroV4 27 := by rw [hW0]; exact rowC_new w _ _
  have A0 : Chg (· = q) w W0 := by rw [hW0]; exact (Chg.refl _ w).alloc _
  have E0 : Env W0 := hE.q A0 hq
  have H0 : RdAt W0 q S r lev := by rw [hW0]; exact h.below ((Below.refl _ _).alloc (Nat.le_refl _) _)
  have c1 := E0.words k hk
  rw [← hW] at c1
  have HR0 := Lib.hid R0
  have HA0 := Lib.hid A0
  have HE0 := Lib.hid E0
  have HH0 := Lib.hid H0
  have HW := Lib.hid hW
  have HW0 := Lib.hid hW0
  have HI := Lib.hid info_V
  have hsz := str_size W
  clear hW hW0 R0 A0 E0 H0 hE h hc0
  have k0 : (k : Int) < 3 := by omega
  have HK3 := Lib.hid hk
  go_enter Tryz.func42, Tryz.ntmps42
  go_upto_region 1 with (fail)
  rw [← HW0.out]
  go_wp2
  go_loopg [11, 6] 6 (fun g t11 t6 wr => ∃ (j : Nat) (r' : Bs), t11 = .int .i64 (j : Int) ∧ j ≤ W.length ∧ Hid (g = 6 - j) ∧ RdAt wr q S r' lev ∧ Hid (wordP (W.drop j) r' = wordP W r) ∧ Hid (r' <:+ r) ∧ Chg (· = q) W0 wr)
  case atStart => exact ⟨0, r, rfl, Nat.zero_le _, Lib.hid rfl, HH0.out, Lib.hid rfl, Lib.hid (List.suffix_refl r), Chg.refl _ _⟩
  case round =>
    obtain ⟨j, r', rfl, hj, HG, h', HP, HS, hC⟩ := hrel
    have c1' := (HE0.out.q hC hq).words k HK3.out
    rw [← HW.out] at c1'
    have Rr := hC.rowC HR0.out (by omega)
    have HRr := Lib.hid Rr
    clear c1 Rr
    by_cases hlt : j < W.length
    · have hidx := idx_str (str W) j (j : Int) rfl (by rw [str_size]; exact hlt)
      rw [str_toList] at hidx
      have hst := word_step (r := r') hlt
      have hcn : W.getD j 0 ≠ 0 := hne _ (by rw [List.getD_eq_getElem?_getD, List.getElem?_eq_getElem hlt]; exact List.getElem_mem _)
      generalize W.getD j 0 = c at hidx hst hcn
      by_cases hc : hd r' = c
      · rw [if_pos hc] at hst
        have HQ := Lib.hid (hst.symm.trans HP.out)
        have T := take_T (q := q) (lev := lev) hS c _ rfl hcn hc
        clear hst hc hcn
        go_wp2_with (go_at_call 48; ((with_reducible refine (T _ (by assumption)).mono ?_); rintro e w1 ⟨rfl, h1, c2⟩))
        go_roundg (6 - (j + 1))
        case measure => have := HG.out; omega
        case rel => exact ⟨j + 1, r'.tail, by go_num, by omega, Lib.hid rfl, h1, HQ, Lib.hid ((List.tail_suffix r').trans HS.out), hC.two c2⟩
      · rw [if_neg hc] at hst
        have HQ := Lib.hid (show mkW (k : Int) W r = .bad 10 r' by unfold mkW; rw [← HP.out, hst]; rfl)
        have T := take_F (q := q) (lev := lev) hS c _ rfl hcn hc
        generalize hkk : S.length - r'.length = kk at HQ
        have HKK := Lib.hid hkk
        clear hst hc hcn hkk
        go_wp2_with (first
          | (go_at_call 48; ((with_reducible refine (T _ (by assumption)).mono ?_); rintro e w1 ⟨rfl, h1, c2⟩; obtain ⟨_, ck, _⟩ := h1.cell; rw [HKK.out] at ck; have HR1 := Lib.hid (c2.rowC HRr.out (by omega)); have Hh1 := Lib.hid h1))
          | (go_at_call 27; ((with_reducible refine (unfit_any kk _ rfl _).mono ?_); rintro e w2 ⟨rfl, rfl⟩; unfold errV))
          | ((with_reducible show wpList _ _ _ (⟨none, .store _ (.tmp 4) _, _, _, _, _⟩ :: _) _ _); refine wpList_store_row rfl 27 _ _ rfl w.heap.size zeroV4 rfl rfl 27 zeroV4 HR1.out HI.out rfl zeroV4_all ?_))
        refine bodyPost_ret (results_row_tmp rfl _ _ w.heap.size 27 zeroV4 _ rfl (rowC_setRow HR1.out _) Tryz.underlying27 rfl HI.out (errV 10 kk) rfl) rfl ?_
        have := saysV_bad (w := w) (w' := w1.setRow w.heap.size zeroV4) (q := q) (S := S) (r := r) (lev := lev) HQ.out zero_four ⟨⟨r', lev, Hh1.out.chg (s := (· = w.heap.size)) ((Chg.refl _ _).setRow _ _ (.inl rfl)) (by omega), HS.out⟩, ((HA0.out.two hC).two c2).setRow _ _ (.inr (Nat.le_refl _))⟩
        unfold errAt at this
        rw [HKK.out] at this
        exact this
    · obtain rfl : j = W.length := by omega
      have hsz2 : ((W.length : Int) < (W.length : Int)) = False := by simp
      have HQ := Lib.hid (show mkW (k : Int) W r = .ok (.mk (k : Int) [] [] []) r' by unfold mkW; rw [← HP.out, List.drop_length]; rfl)
      clear hsz2 hlt
      go_wp2_with (first
        | ((with_reducible show wpList _ _ _ (⟨none, .store _ (.tmp 4) _, _, _, _, _⟩ :: _) _ _); refine wpList_store_row rfl 27 _ _ rfl w.heap.size (cells4 (k : Int) ⟨#[]⟩) rfl rfl 27 zeroV4 HRr.out HI.out rfl (cells4_all _ _) ?_))
      refine bodyPost_ret (results_row_tmp rfl _ _ w.heap.size 27 (cells4 (k : Int) ⟨#[]⟩) _ rfl (rowC_setRow HRr.out _) Tryz.underlying27 rfl HI.out .nilIface rfl) rfl ?_
      exact saysV_ok HQ.out (holds_word _ _ _) ⟨h'.chg (s := (· = w.heap.size)) ((Chg.refl _ _).setRow _ _ (.inl rfl)) (by omega), (HA0.out.two hC).setRow _ _ (.inr (Nat.le_refl _))⟩
end Go.Proofs.YtafmokpplnmbgaaGreatDoor

/- Layer 11: digits to the base 16, units. -/
namespace Go.Proofs.YtafmokpplnmbgaaGreatDoor
open Go.RowKit

theorem ret2 {k : IntKind} {a b : Int} {x y : Value} (h : a = b) (g : x = y) : Ending.returned (.tuple #[.int k a, x]) = .returned (.tuple #[.int k b, y]) := by rw [h, g]
set_option maxHeartbeats 1000000 in
theorem valueOf_some {c : UInt8} {n : Nat} (h : hexV c = some n) (w : World) : Calls Tryz.prog 107 #[.int .u8 (c.toNat : Int)] w fun e w' => e = .returned (.tuple #[.int .i32 (n : Int), .bool true]) ∧ w = w' := by
  have hd := fun w => isDigit_any c w
  have hi := isDg_iff c
  have hc := c.toNat_lt
  unfold hexV at h
  generalize isDg c = b at hd hi
  generalize c.toNat = m at hd hi hc h ⊢
  by_cases h1 : 48 ≤ m ∧ m ≤ 57
  · rw [if_pos h1, Option.some.injEq] at h
    obtain rfl : b = true := hi.2 h1
    obtain ⟨a1, a2⟩ := h1
    have HN := Lib.hid h
    clear hi h
    go_enter Tryz.func107, Tryz.ntmps107
    go_wp2_with (go_at_call 80; ((with_reducible refine (hd _).mono ?_); rintro e w' ⟨rfl, rfl⟩))
    go_ret2
    exact ⟨ret2 (by have := HN.out; omega) rfl, rfl⟩
  · obtain rfl : b = false := by cases b; rfl; exact absurd (hi.1 rfl) h1
    rw [if_neg h1] at h
    by_cases h2 : 97 ≤ m ∧ m ≤ 102
    · rw [if_pos h2, Option.some.injEq] at h
      obtain ⟨a1, a2⟩ := h2
      have e1 : decide ((97 : Int) ≤ (m : Int)) = true := by rw [decide_eq_true_eq]; omega
      have e2 : decide ((m : Int) ≤ 102) = true := by rw [decide_eq_true_eq]; omega
      have HN := Lib.hid h
      clear hi h h1
      go_enter Tryz.func107, Tryz.ntmps107
      go_wp2_with (go_at_call 80; ((with_reducible refine (hd _).mono ?_); rintro e w' ⟨rfl, rfl⟩))
      go_ret2
      exact ⟨ret2 (by have := HN.out; omega) rfl, rfl⟩
    · rw [if_neg h2] at h
      by_cases h3 : 65 ≤ m ∧ m ≤ 70
      · rw [if_pos h3, Option.some.injEq] at h
        obtain ⟨a1, a2⟩ := h3
        have e0 : decide ((97 : Int) ≤ (m : Int)) = false := by rw [decide_eq_false_iff_not]; omega
        have e1 : decide ((65 : Int) ≤ (m : Int)) = true := by rw [decide_eq_true_eq]; omega
        have e2 : decide ((m : Int) ≤ 70) = true := by rw [decide_eq_true_eq]; omega
        have HN := Lib.hid h
        clear hi h h1 h2
        go_enter Tryz.func107, Tryz.ntmps107
        go_wp2_with (go_at_call 80; ((with_reducible refine (hd _).mono ?_); rintro e w' ⟨rfl, rfl⟩))
        go_ret2
        exact ⟨ret2 (by have := HN.out; omega) rfl, rfl⟩
      · rw [if_neg h3] at h; cases h
set_option maxHeartbeats 1000000 in
theorem valueOf_none {c : UInt8} (h : hexV c = none) (w : World) : Calls Tryz.prog 107 #[.int .u8 (c.toNat : Int)] w fun e w' => e = .returned (.tuple #[.int .i32 0, .bool false]) ∧ w = w' := by
  have hd := fun w => isDigit_any c w
  have hi := isDg_iff c
  unfold hexV at h
  generalize isDg c = b at hd hi
  generalize c.toNat = m at hd hi h ⊢
  by_cases h1 : 48 ≤ m ∧ m ≤ 57
  · rw [if_pos h1] at h; cases h
  rw [if_neg h1] at h
  by_cases h2 : 97 ≤ m ∧ m ≤ 102
  · rw [if_pos h2] at h; cases h
  rw [if_neg h2] at h
  by_cases h3 : 65 ≤ m ∧ m ≤ 70
  · rw [if_pos h3] at h; cases h
  obtain rfl : b = false := by cases b; rfl; exact absurd (hi.1 rfl) h1
  clear h hi h1
  by_cases k1 : 97 ≤ m
  · have e1 : decide ((97 : Int) ≤ (m : Int)) = true := by rw [decide_eq_true_eq]; omega
    have e2 : decide ((m : Int) ≤ 102) = false := by rw [decide_eq_false_iff_not]; omega
    have e3 : decide ((65 : Int) ≤ (m : Int)) = true := by rw [decide_eq_true_eq]; omega
    have e4 : decide ((m : Int) ≤ 70) = false := by rw [decide_eq_false_iff_not]; omega
    clear h2 h3 k1
    go_enter Tryz.func107, Tryz.ntmps107
    go_wp2_with (go_at_call 80; ((with_reducible refine (hd _).mono ?_); rintro e w' ⟨rfl, rfl⟩))
    go_ret2
    exact ⟨rfl, rfl⟩
  · have e1 : decide ((97 : Int) ≤ (m : Int)) = false := by rw [decide_eq_false_iff_not]; omega
    by_cases k2 : 65 ≤ m
    · have e3 : decide ((65 : Int) ≤ (m : Int)) = true := by rw [decide_eq_true_eq]; omega
      have e4 : decide ((m : Int) ≤ 70) = false := by rw [decide_eq_false_iff_not]; omega
      clear h2 h3 k1 k2
      go_enter Tryz.func107, Tryz.ntmps107
      go_wp2_with (go_at_call 80; ((with_reducible refine (hd _).mono ?_); rintro e w' ⟨rfl, rfl⟩))
      go_ret2
      exact ⟨rfl, rfl⟩
    · have e3 : decide ((65 : Int) ≤ (m : Int)) = false := by rw [decide_eq_false_iff_not]; omega
      clear h2 h3 k1 k2
      go_enter Tryz.func107, Tryz.ntmps107
      go_wp2_with (go_at_call 80; ((with_reducible refine (hd _).mono ?_); rintro e w' ⟨rfl, rfl⟩))
      go_ret2
      exact ⟨rfl, rfl⟩
set_option maxHeartbeats 1000000 in
theorem isLow_any (n : Nat) (w : World) : Calls Tryz.prog 102 #[.int .i32 (n : Int)] w fun e w' => e = .returned (.bool (isLo n)) ∧ w = w' := by
  have hi := isLo_iff n
  generalize isLo n = b at hi ⊢
  by_cases h1 : 56320 ≤ n
  · have e1 : decide ((56320 : Int) ≤ (n : Int)) = true := by rw [decide_eq_true_eq]; omega
    by_cases h2 : n < 57344
    · obtain rfl : b = true := hi.2 ⟨h1, h2⟩
      have e2 : decide ((n : Int) < 57344) = true := by rw [decide_eq_true_eq]; omega
      clear hi h1 h2
      go_enter Tryz.func102, Tryz.ntmps102
      go_wp2
      go_ret
      exact ⟨rfl, rfl⟩
    · obtain rfl : b = false := by cases b; rfl; exact absurd (hi.1 rfl).2 h2
      have e2 : decide ((n : Int) < 57344) = false := by rw [decide_eq_false_iff_not]; omega
      clear hi h1 h2
      go_enter Tryz.func102, Tryz.ntmps102
      go_wp2
      go_ret
      exact ⟨rfl, rfl⟩
  · obtain rfl : b = false := by cases b; rfl; exact absurd (hi.1 rfl).1 h1
    have e1 : decide ((56320 : Int) ≤ (n : Int)) = false := by rw [decide_eq_false_iff_not]; omega
    clear hi h1
    go_enter Tryz.func102, Tryz.ntmps102
    go_wp2
    go_ret
    exact ⟨rfl, rfl⟩
set_option maxHeartbeats 1000000 in
theorem isHigh_any (n : Nat) (w : World) : Calls Tryz.prog 103 #[.int .i32 (n : Int)] w fun e w' => e = .returned (.bool (isHi n)) ∧ w = w' := by
  have hi := isHi_iff n
  generalize isHi n = b at hi ⊢
  by_cases h1 : 55296 ≤ n
  · have e1 : decide ((55296 : Int) ≤ (n : Int)) = true := by rw [decide_eq_true_eq]; omega
    by_cases h2 : n < 56320
    · obtain rfl : b = true := hi.2 ⟨h1, h2⟩
      have e2 : decide ((n : Int) < 56320) = true := by rw [decide_eq_true_eq]; omega
      clear hi h1 h2
      go_enter Tryz.func103, Tryz.ntmps103
      go_wp2
      go_ret
      exact ⟨rfl, rfl⟩
    · obtain rfl : b = false := by cases b; rfl; exact absurd (hi.1 rfl).2 h2
      have e2 : decide ((n : Int) < 56320) = false := by rw [decide_eq_false_iff_not]; omega
      clear hi h1 h2
      go_enter Tryz.func103, Tryz.ntmps103
      go_wp2
      go_ret
      exact ⟨rfl, rfl⟩
  · obtain rfl : b = false := by cases b; rfl; exact absurd (hi.1 rfl).1 h1
    have e1 : decide ((55296 : Int) ≤ (n : Int)) = false := by rw [decide_eq_false_iff_not]; omega
    clear hi h1
    go_enter Tryz.func103, Tryz.ntmps103
    go_wp2
    go_ret
    exact ⟨rfl, rfl⟩
end Go.Proofs.YtafmokpplnmbgaaGreatDoor

