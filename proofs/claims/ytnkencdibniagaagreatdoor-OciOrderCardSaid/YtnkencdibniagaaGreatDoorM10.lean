/- Merged: JtD, JtE, JtF. -/
import Derived.Test.YtnkencdibniagaaGreatDoorM09
import Derived.Deep.Cut
import Derived.Deep.CutRange
import Derived.Deep.DeepCutAuto
import Derived.Deep.CutBlock
import Derived.Test.YtnkencdibniagaaGreatDoorM07
/- Layer 11: digits, a number. -/
namespace Go.Proofs.YtnkencdibniagaaGreatDoor
open Go.RowKit

theorem isDg_iff (c : UInt8) : isDg c = true ↔ 48 ≤ c.toNat ∧ c.toNat ≤ 57 := by
  unfold isDg
  simp [UInt8.le_iff_toNat_le]
set_option maxHeartbeats 1000000 in
theorem isDigit_any (c : UInt8) (w : World) : Calls Tryz.prog 181 #[.int .u8 (c.toNat : Int)] w fun e w' => e = .returned (.bool (isDg c)) ∧ w = w' := by
  have hc := c.toNat_lt
  have hi := isDg_iff c
  generalize c.toNat = n at hc hi ⊢
  generalize isDg c = b at hi ⊢
  by_cases h1 : 48 ≤ n
  · by_cases h2 : n ≤ 57
    · obtain rfl : b = true := hi.2 ⟨h1, h2⟩
      have e1 : decide ((48 : Int) ≤ (n : Int)) = true := by rw [decide_eq_true_eq]; omega
      have e2 : decide ((n : Int) ≤ 57) = true := by rw [decide_eq_true_eq]; omega
      clear hi hc
      go_enter Tryz.func181, Tryz.ntmps181
      go_wp2
      go_ret
      exact ⟨rfl, rfl⟩
    · obtain rfl : b = false := by cases b; rfl; exact absurd (hi.1 rfl).2 h2
      have e1 : decide ((48 : Int) ≤ (n : Int)) = true := by rw [decide_eq_true_eq]; omega
      have e2 : decide ((n : Int) ≤ 57) = false := by rw [decide_eq_false_iff_not]; omega
      clear hi hc h2
      go_enter Tryz.func181, Tryz.ntmps181
      go_wp2
      go_ret
      exact ⟨rfl, rfl⟩
  · obtain rfl : b = false := by cases b; rfl; exact absurd (hi.1 rfl).1 h1
    have e1 : decide ((48 : Int) ≤ (n : Int)) = false := by rw [decide_eq_false_iff_not]; omega
    clear hi hc h1
    go_enter Tryz.func181, Tryz.ntmps181
    go_wp2
    go_ret
    exact ⟨rfl, rfl⟩
theorem dropD_tail {r : Bs} (h : isDg (hd r) = true) : dropD r = dropD r.tail ∧ r.tail.length < r.length ∧ r ≠ [] := by
  cases r with
  | nil => exact absurd h (by decide)
  | cons c r => exact ⟨by rw [dropD, if_pos (show isDg c = true from h)]; rfl, by simp, by simp⟩
/-- What a step leaves of the reader, when it is OK, and when it is wrong. -/
def okP (w : World) (q : Nat) (S x : Bs) (lev : Nat) (w' : World) : Prop := RdAt w' q S x lev ∧ Chg (· = q) w w'
def badP (w : World) (q : Nat) (S r : Bs) (w' : World) : Prop := (∃ x lev, RdAt w' q S x lev ∧ x <:+ r) ∧ Chg (· = q) w w'
theorem dig_yes {r x : Bs} (h : digP r = .ok () x) : (dropD r).length ≠ r.length ∧ dropD r = x := by
  unfold digP at h
  split at h
  · cases h
  · rename_i hn
    rw [Res.ok.injEq] at h
    exact ⟨hn, h.2⟩
theorem dig_no {r x : Bs} {code : Nat} (h : digP r = .bad code x) : (dropD r).length = r.length ∧ dropD r = x ∧ code = 10 ∧ x = r := by
  unfold digP at h
  split at h
  · rename_i hn
    rw [Res.bad.injEq] at h
    refine ⟨hn, ?_, h.1.symm, h.2.symm⟩
    rw [← h.2]
    obtain ⟨t, h1, _⟩ := dropD_pre r
    have : t = [] := List.eq_nil_of_length_eq_zero (by have := congrArg List.length h1; rw [List.length_append] at this; omega)
    rw [this, List.nil_append] at h1
    exact h1.symm
  · cases h
set_option maxHeartbeats 2000000 in
theorem digits_ok {w : World} {q : Nat} {S r x : Bs} {lev : Nat} (hS : okT S) (hx : digP r = .ok () x) (h : RdAt w q S r lev) :
    Calls Tryz.prog 161 #[.pointer (some ⟨q, 0, none⟩)] w fun e w' => e = .returned .nilIface ∧ okP w q S x lev w' := by
  obtain ⟨hx1, hx2⟩ := dig_yes hx
  have HX1 := Lib.hid hx1
  have HX2 := Lib.hid hx2
  have hN := fun w' r' (h' : RdAt w' q S r' lev) => next_any h'
  obtain ⟨_, c1, _⟩ := h.cell
  have H := Lib.hid h
  have HLE := Lib.hid h.le
  unfold okT at hS
  have HS := Lib.hid hS
  generalize hk0 : S.length - r.length = k0 at c1
  have HK0 := Lib.hid hk0
  clear hx hx1 hx2 hk0 h hS
  go_enter Tryz.func161, Tryz.ntmps161
  go_wp2
  go_loopg [] r.length (fun k wr => ∃ r', RdAt wr q S r' lev ∧ Hid (dropD r' = dropD r) ∧ Hid (r'.length = k) ∧ Chg (· = q) w wr)
  case atStart => exact ⟨r, H.out, Lib.hid rfl, Lib.hid rfl, Chg.refl _ _⟩
  case round =>
    clear c1
    obtain ⟨r', h', HD, HK, hC⟩ := hrel
    by_cases hb : isDg (hd r') = true
    · obtain ⟨hd1, hd2, hd3⟩ := dropD_tail hb
      have HD2 := Lib.hid hd1
      have HL := Lib.hid hd2
      obtain ⟨_, c1, _⟩ := h'.cell
      have f1 := h'.free 1
      have hle := h'.le
      have hSS := HS.out
      generalize hk : S.length - r'.length = k at c1
      have hk2 : k ≤ 4611686018427387904 := by omega
      have HM := Lib.hid (fun n => (h'.drewN n).move hd3 hk.symm)
      have hDg := fun w => isDigit_any (hd r') w
      rw [hb] at hDg
      clear hd1 hd2 hd3 hb hk hle hSS
      go_wp2_with (first
        | (go_at_call 132; ((with_reducible refine (hN _ _ h').mono ?_); rintro e w' ⟨rfl, n, rfl⟩))
        | (go_at_call 181; ((with_reducible refine (hDg _).mono ?_); rintro e w' ⟨rfl, rfl⟩)))
      go_roundg (r'.tail.length)
      case measure => rw [← HK.out]; exact HL.out
      case rel => exact ⟨r'.tail, HM.out _, Lib.hid (HD2.out.symm.trans HD.out), Lib.hid rfl, (hC.drewN _).setCell _ _ (.inl rfl)⟩
    · have hb' : isDg (hd r') = false := by simpa using hb
      have HE := Lib.hid (dropD_hd hb')
      obtain ⟨_, c1, _⟩ := h'.cell
      have hle := h'.le
      have hDg := fun w => isDigit_any (hd r') w
      rw [hb'] at hDg
      have hne : (((S.length - r'.length : Nat) : Int) == (k0 : Int)) = false := by
        rw [beq_eq_false_iff_ne]
        have h1 := HX1.out
        have h2 := HK0.out
        have h3 := HLE.out
        rw [← HD.out, HE.out] at h1
        omega
      generalize S.length - r'.length = k at c1 hne
      clear hb hb' hle
      go_wp2_with (first
        | (go_at_call 132; ((with_reducible refine (hN _ _ h').mono ?_); rintro e w' ⟨rfl, n, rfl⟩))
        | (go_at_call 181; ((with_reducible refine (hDg _).mono ?_); rintro e w' ⟨rfl, rfl⟩)))
      go_ret
      refine ⟨rfl, ?_, hC.drewN _⟩
      rw [← HX2.out, ← HD.out, HE.out]
      exact h'.drewN _
set_option maxHeartbeats 2000000 in
theorem digits_bad {w : World} {q : Nat} {S r x : Bs} {lev code : Nat} (hx : digP r = .bad code x) (h : RdAt w q S r lev) :
    Calls Tryz.prog 161 #[.pointer (some ⟨q, 0, none⟩)] w fun e w' => e = .returned (errAt S code x) ∧ badP w q S r w' := by
  obtain ⟨hx1, hx2, rfl, rfl⟩ := dig_no hx
  have hb' : isDg (hd x) = false := by
    rw [← hx2]; exact dropD_stop x
  have hN := next_any h
  obtain ⟨_, c1, _⟩ := h.cell
  have hDg := fun w => isDigit_any (hd x) w
  rw [hb'] at hDg
  have HP := Lib.hid (fun n => (⟨⟨x, lev, h.drewN n, List.suffix_refl x⟩, (Chg.refl _ w).drewN n⟩ : badP w q S x (w.drewN n)))
  unfold errAt
  generalize hk0 : S.length - x.length = k0 at c1 ⊢
  have heq : ((k0 : Int) == (k0 : Int)) = true := by simp
  clear hx hx1 hx2 hb' hk0 h
  go_enter Tryz.func161, Tryz.ntmps161
  go_wp2
  refine wp_loop_rounds 1 ?_
  rw [rounds_succ]
  go_wp2_with (first
    | (go_at_call 132; ((with_reducible refine hN.mono ?_); rintro e w' ⟨rfl, n, rfl⟩))
    | (go_at_call 181; ((with_reducible refine (hDg _).mono ?_); rintro e w' ⟨rfl, rfl⟩))
    | (go_at_call 100; ((with_reducible refine (unfit_any k0 _ rfl _).mono ?_); rintro e w' ⟨rfl, rfl⟩)))
  go_ret
  exact ⟨rfl, HP.out _⟩
end Go.Proofs.YtnkencdibniagaaGreatDoor

/- Layer 11: a number. -/
namespace Go.Proofs.YtnkencdibniagaaGreatDoor
open Go.RowKit

theorem okP.trans {w w1 w2 : World} {q : Nat} {S y : Bs} {l2 : Nat} (h : Chg (· = q) w w1) (g : okP w1 q S y l2 w2) : okP w q S y l2 w2 := ⟨g.1, h.two g.2⟩
theorem badP.trans {w w1 w2 : World} {q : Nat} {S r r' : Bs} (h : Chg (· = q) w w1) (hs : r' <:+ r) (g : badP w1 q S r' w2) : badP w q S r w2 := by
  obtain ⟨⟨x, lev, h1, h2⟩, h3⟩ := g
  exact ⟨⟨x, lev, h1, h2.trans hs⟩, h.two h3⟩
/-- What a reading of one thing says of a call that answers an error alone. -/
def saysU (w : World) (q : Nat) (S r : Bs) (lev : Nat) (R : Res Unit) (e : Ending) (w' : World) : Prop :=
  match R with
  | .ok _ x => e = .returned .nilIface ∧ okP w q S x lev w'
  | .bad code x => e = .returned (errAt S code x) ∧ badP w q S r w'
theorem dig_suf {t x : Bs} (h : digP t = .ok () x) : x <:+ t := by
  obtain ⟨u, h1, _⟩ := dig_pre h
  exact ⟨u, h1.symm⟩
/-- The end of Go's 'number', from the exponent on, as the walk meets it: what is left to do at each way. -/
def minus (r : Bs) : Bs := if hd r = 45 then r.tail else r
theorem numP_minus (r : Bs) : numP r = intP (minus r) := by
  unfold numP minus
  split <;> rfl
theorem takeR_minus (r : Bs) : takeR r 45 = minus r := rfl
theorem hd_case {r : Bs} (c : UInt8) : (takeB r c = true ∧ takeR r c = r.tail ∧ hd r = c) ∨ (takeB r c = false ∧ takeR r c = r ∧ ¬ hd r = c) := by
  by_cases h : hd r = c
  · exact .inl ⟨(take_yes h).1, (take_yes h).2, h⟩
  · exact .inr ⟨(take_no h).1, (take_no h).2, h⟩

theorem saysU_ok {w w' : World} {q : Nat} {S r x : Bs} {lev : Nat} {R : Res Unit} (hR : R = .ok () x) (h : okP w q S x lev w') : saysU w q S r lev R (.returned .nilIface) w' := by
  rw [hR]; exact ⟨rfl, h⟩
theorem saysU_bad {w w' : World} {q : Nat} {S r x : Bs} {lev code : Nat} {R : Res Unit} (hR : R = .bad code x) (h : badP w q S r w') : saysU w q S r lev R (.returned (errAt S code x)) w' := by
  rw [hR]; exact ⟨rfl, h⟩
set_option maxHeartbeats 2000000 in
set_option maxRecDepth 100000 in
theorem number_any {w : World} {q : Nat} {S r : Bs} {lev : Nat} (hS : okT S) (h : RdAt w q S r lev) :
    Calls Tryz.prog 137 #[.pointer (some ⟨q, 0, none⟩)] w fun e w' => saysU w q S r lev (numP r) e w' := by
  have HN := Lib.hid (numP_minus r)
  have T1 := fun w (h : RdAt w q S r lev) => take_any h hS 45 45 rfl (by decide)
  rw [takeR_minus] at T1
  have HS1 := Lib.hid (show minus r <:+ r by unfold minus; split; exact List.tail_suffix r; exact List.suffix_refl r)
  generalize minus r = r1 at T1 HN HS1
  go_enter Tryz.func137, Tryz.ntmps137
  have T2 := fun w (h : RdAt w q S r1 lev) => take_any h hS 48 48 rfl (by decide)
  go_upto_if 9 with (first
    | (go_at_call 138; ((with_reducible refine (T1 _ (by assumption)).mono ?_); rintro e w1 ⟨rfl, h1, c1⟩))
    | (go_at_call 138; ((with_reducible refine (T2 _ (by assumption)).mono ?_); rintro e w2 ⟨rfl, h2, c2⟩)))
  clear T1 T2 h
  have c3 := c1.two c2
  clear h1 c1 c2
  go_cut [2] from 3 (fun s2 wx => s2 = .nilIface ∧ ∃ r2, RdAt wx q S r2 lev ∧ Hid (r2 <:+ r) ∧ Hid (numP r = fracP r2) ∧ Chg (· = q) w wx)
  case first =>
    rcases hd_case (r := r1) 48 with ⟨e0, e1, e2⟩ | ⟨e0, e1, e2⟩
    · rw [e1] at h2
      generalize takeB r1 48 = b at e0 ⊢
      subst e0
      have HF := Lib.hid (show numP r = fracP r1.tail by rw [HN.out]; unfold intP; rw [if_pos e2])
      clear e1 e2
      go_wp2
      go_meet
      case rel => exact ⟨rfl, r1.tail, h2, Lib.hid ((List.tail_suffix r1).trans HS1.out), HF, c3⟩
    · rw [e1] at h2
      generalize takeB r1 48 = b at e0 ⊢
      subst e0
      cases hx : digP r1 with
      | bad code x =>
        have HF := Lib.hid (show numP r = .bad code x by rw [HN.out]; unfold intP; rw [if_neg e2, hx])
        have D := fun w (h : RdAt w q S r1 lev) => digits_bad hx h
        clear e1 e2 hx
        go_wp2_with (go_at_call 161; ((with_reducible refine (D _ (by assumption)).mono ?_); rintro e w3 ⟨rfl, h3⟩; unfold errAt errV))
        go_ret
        exact saysU_bad HF.out (h3.trans c3 HS1.out)
      | ok u x =>
        have HF := Lib.hid (show numP r = fracP x by rw [HN.out]; unfold intP; rw [if_neg e2, hx])
        have D := fun w (h : RdAt w q S r1 lev) => digits_ok hS hx h
        have HX := Lib.hid (dig_suf hx)
        clear e1 e2 hx
        go_wp2_with (go_at_call 161; ((with_reducible refine (D _ (by assumption)).mono ?_); rintro e w3 ⟨rfl, h3⟩))
        go_meet
        case rel => exact ⟨rfl, x, h3.1, Lib.hid (HX.out.trans HS1.out), HF, c3.two h3.2⟩
  case rest =>
    clear c3 h2 HN HS1 w2
    obtain ⟨rfl, r2, h2, HS2, HN, c3⟩ := hcut
    have T3 := fun w (h : RdAt w q S r2 lev) => take_any h hS 46 46 rfl (by decide)
    go_upto_if 16 with (go_at_call 138; ((with_reducible refine (T3 _ (by assumption)).mono ?_); rintro e w3 ⟨rfl, h3, c4⟩))
    clear T3 h2
    have c5 := c3.two c4
    clear c3 c4
    go_cut [2] from 3 (fun s2 wx => s2 = .nilIface ∧ ∃ r3, RdAt wx q S r3 lev ∧ Hid (r3 <:+ r) ∧ Hid (numP r = expP r3) ∧ Chg (· = q) w wx)
    case first =>
      rcases hd_case (r := r2) 46 with ⟨e0, e1, e2⟩ | ⟨e0, e1, e2⟩
      · rw [e1] at h3
        generalize takeB r2 46 = b at e0 ⊢
        subst e0
        cases hx : digP r2.tail with
        | bad code x =>
          have HF := Lib.hid (show numP r = .bad code x by rw [HN.out]; unfold fracP; rw [if_pos e2, hx])
          have D := fun w (h : RdAt w q S r2.tail lev) => digits_bad hx h
          clear e1 e2 hx
          go_wp2_with (go_at_call 161; ((with_reducible refine (D _ (by assumption)).mono ?_); rintro e w3 ⟨rfl, h3⟩; unfold errAt errV))
          go_ret
          exact saysU_bad HF.out (h3.trans c5 ((List.tail_suffix r2).trans HS2.out))
        | ok u x =>
          have HF := Lib.hid (show numP r = expP x by rw [HN.out]; unfold fracP; rw [if_pos e2, hx])
          have D := fun w (h : RdAt w q S r2.tail lev) => digits_ok hS hx h
          have HX := Lib.hid (dig_suf hx)
          clear e1 e2 hx
          go_wp2_with (go_at_call 161; ((with_reducible refine (D _ (by assumption)).mono ?_); rintro e w3 ⟨rfl, h3⟩))
          go_meet
          case rel => exact ⟨rfl, x, h3.1, Lib.hid ((HX.out.trans (List.tail_suffix r2)).trans HS2.out), HF, c5.two h3.2⟩
      · rw [e1] at h3
        generalize takeB r2 46 = b at e0 ⊢
        subst e0
        have HF := Lib.hid (show numP r = expP r2 by rw [HN.out]; unfold fracP; rw [if_neg e2])
        clear e1 e2
        go_wp2
        go_meet
        case rel => exact ⟨rfl, r2, h3, HS2, HF, c5⟩
    case rest =>
      clear c5 h3 HN HS2 w3
      obtain ⟨rfl, r3, h3, HS3, HN, c5⟩ := hcut
      by_cases he : hd r3 = 101 ∨ hd r3 = 69
      · -- an exponent
        have HX := Lib.hid (show numP r = if hd r3.tail = 43 ∨ hd r3.tail = 45 then digP r3.tail.tail else digP r3.tail by rw [HN.out]; unfold expP; rw [if_pos he])
        have hsuf : r3.tail <:+ r := (List.tail_suffix r3).trans HS3.out
        have HT := Lib.hid hsuf
        clear hsuf
        by_cases h1 : hd r3 = 101
        · have TE := take_T (q := q) (lev := lev) hS 101 101 rfl (by decide) h1
          rcases hd_case (r := r3.tail) 43 with ⟨_, _, s1⟩ | ⟨_, _, s1⟩
          · have TP := take_T (q := q) (lev := lev) hS 43 43 rfl (by decide) s1
            cases hx : digP r3.tail.tail with
            | bad code x =>
              have HF := Lib.hid (show numP r = .bad code x by rw [HX.out, if_pos (.inl s1), hx])
              have D := fun w (h : RdAt w q S (r3.tail.tail) lev) => digits_bad hx h
              clear hx s1 h1 he HX
              go_wp2_with (first
                | (go_at_call 138; ((with_reducible refine (TE _ (by assumption)).mono ?_); rintro e wTE ⟨rfl, hTE, cTE⟩))
                | (go_at_call 138; ((with_reducible refine (TP _ (by assumption)).mono ?_); rintro e wTP ⟨rfl, hTP, cTP⟩))
                | (go_at_call 161; ((with_reducible refine (D _ (by assumption)).mono ?_); rintro e wD ⟨rfl, hD⟩; unfold errAt errV)))
              go_ret
              exact saysU_bad HF.out (hD.trans ((c5.two cTE).two cTP) ((List.tail_suffix r3.tail).trans HT.out))
            | ok u x =>
              have HF := Lib.hid (show numP r = .ok () x by rw [HX.out, if_pos (.inl s1), hx])
              have D := fun w (h : RdAt w q S (r3.tail.tail) lev) => digits_ok hS hx h
              clear hx s1 h1 he HX
              go_wp2_with (first
                | (go_at_call 138; ((with_reducible refine (TE _ (by assumption)).mono ?_); rintro e wTE ⟨rfl, hTE, cTE⟩))
                | (go_at_call 138; ((with_reducible refine (TP _ (by assumption)).mono ?_); rintro e wTP ⟨rfl, hTP, cTP⟩))
                | (go_at_call 161; ((with_reducible refine (D _ (by assumption)).mono ?_); rintro e wD ⟨rfl, hD⟩)))
              go_ret
              exact saysU_ok HF.out ⟨hD.1, ((c5.two cTE).two cTP).two hD.2⟩
          · have TP := take_F (q := q) (lev := lev) hS 43 43 rfl (by decide) s1
            by_cases s2 : hd r3.tail = 45
            · have TM := take_T (q := q) (lev := lev) hS 45 45 rfl (by decide) s2
              cases hx : digP r3.tail.tail with
              | bad code x =>
                have HF := Lib.hid (show numP r = .bad code x by rw [HX.out, if_pos (.inr s2), hx])
                have D := fun w (h : RdAt w q S (r3.tail.tail) lev) => digits_bad hx h
                clear hx s1 h1 he s2 HX
                go_wp2_with (first
                  | (go_at_call 138; ((with_reducible refine (TE _ (by assumption)).mono ?_); rintro e wTE ⟨rfl, hTE, cTE⟩))
                  | (go_at_call 138; ((with_reducible refine (TP _ (by assumption)).mono ?_); rintro e wTP ⟨rfl, hTP, cTP⟩))
                  | (go_at_call 138; ((with_reducible refine (TM _ (by assumption)).mono ?_); rintro e wTM ⟨rfl, hTM, cTM⟩))
                  | (go_at_call 161; ((with_reducible refine (D _ (by assumption)).mono ?_); rintro e wD ⟨rfl, hD⟩; unfold errAt errV)))
                go_ret
                exact saysU_bad HF.out (hD.trans (((c5.two cTE).two cTP).two cTM) ((List.tail_suffix r3.tail).trans HT.out))
              | ok u x =>
                have HF := Lib.hid (show numP r = .ok () x by rw [HX.out, if_pos (.inr s2), hx])
                have D := fun w (h : RdAt w q S (r3.tail.tail) lev) => digits_ok hS hx h
                clear hx s1 h1 he s2 HX
                go_wp2_with (first
                  | (go_at_call 138; ((with_reducible refine (TE _ (by assumption)).mono ?_); rintro e wTE ⟨rfl, hTE, cTE⟩))
                  | (go_at_call 138; ((with_reducible refine (TP _ (by assumption)).mono ?_); rintro e wTP ⟨rfl, hTP, cTP⟩))
                  | (go_at_call 138; ((with_reducible refine (TM _ (by assumption)).mono ?_); rintro e wTM ⟨rfl, hTM, cTM⟩))
                  | (go_at_call 161; ((with_reducible refine (D _ (by assumption)).mono ?_); rintro e wD ⟨rfl, hD⟩)))
                go_ret
                exact saysU_ok HF.out ⟨hD.1, (((c5.two cTE).two cTP).two cTM).two hD.2⟩
            · have TM := take_F (q := q) (lev := lev) hS 45 45 rfl (by decide) s2
              cases hx : digP r3.tail with
              | bad code x =>
                have HF := Lib.hid (show numP r = .bad code x by rw [HX.out, if_neg (fun h => h.elim s1 s2), hx])
                have D := fun w (h : RdAt w q S (r3.tail) lev) => digits_bad hx h
                clear hx s1 h1 he s2 HX
                go_wp2_with (first
                  | (go_at_call 138; ((with_reducible refine (TE _ (by assumption)).mono ?_); rintro e wTE ⟨rfl, hTE, cTE⟩))
                  | (go_at_call 138; ((with_reducible refine (TP _ (by assumption)).mono ?_); rintro e wTP ⟨rfl, hTP, cTP⟩))
                  | (go_at_call 138; ((with_reducible refine (TM _ (by assumption)).mono ?_); rintro e wTM ⟨rfl, hTM, cTM⟩))
                  | (go_at_call 161; ((with_reducible refine (D _ (by assumption)).mono ?_); rintro e wD ⟨rfl, hD⟩; unfold errAt errV)))
                go_ret
                exact saysU_bad HF.out (hD.trans (((c5.two cTE).two cTP).two cTM) (HT.out))
              | ok u x =>
                have HF := Lib.hid (show numP r = .ok () x by rw [HX.out, if_neg (fun h => h.elim s1 s2), hx])
                have D := fun w (h : RdAt w q S (r3.tail) lev) => digits_ok hS hx h
                clear hx s1 h1 he s2 HX
                go_wp2_with (first
                  | (go_at_call 138; ((with_reducible refine (TE _ (by assumption)).mono ?_); rintro e wTE ⟨rfl, hTE, cTE⟩))
                  | (go_at_call 138; ((with_reducible refine (TP _ (by assumption)).mono ?_); rintro e wTP ⟨rfl, hTP, cTP⟩))
                  | (go_at_call 138; ((with_reducible refine (TM _ (by assumption)).mono ?_); rintro e wTM ⟨rfl, hTM, cTM⟩))
                  | (go_at_call 161; ((with_reducible refine (D _ (by assumption)).mono ?_); rintro e wD ⟨rfl, hD⟩)))
                go_ret
                exact saysU_ok HF.out ⟨hD.1, (((c5.two cTE).two cTP).two cTM).two hD.2⟩
        · have TE := take_F (q := q) (lev := lev) hS 101 101 rfl (by decide) h1
          have TG := take_T (q := q) (lev := lev) hS 69 69 rfl (by decide) (he.resolve_left h1)
          rcases hd_case (r := r3.tail) 43 with ⟨_, _, s1⟩ | ⟨_, _, s1⟩
          · have TP := take_T (q := q) (lev := lev) hS 43 43 rfl (by decide) s1
            cases hx : digP r3.tail.tail with
            | bad code x =>
              have HF := Lib.hid (show numP r = .bad code x by rw [HX.out, if_pos (.inl s1), hx])
              have D := fun w (h : RdAt w q S (r3.tail.tail) lev) => digits_bad hx h
              clear hx s1 h1 he HX
              go_wp2_with (first
                | (go_at_call 138; ((with_reducible refine (TE _ (by assumption)).mono ?_); rintro e wTE ⟨rfl, hTE, cTE⟩))
                | (go_at_call 138; ((with_reducible refine (TG _ (by assumption)).mono ?_); rintro e wTG ⟨rfl, hTG, cTG⟩))
                | (go_at_call 138; ((with_reducible refine (TP _ (by assumption)).mono ?_); rintro e wTP ⟨rfl, hTP, cTP⟩))
                | (go_at_call 161; ((with_reducible refine (D _ (by assumption)).mono ?_); rintro e wD ⟨rfl, hD⟩; unfold errAt errV)))
              go_ret
              exact saysU_bad HF.out (hD.trans (((c5.two cTE).two cTG).two cTP) ((List.tail_suffix r3.tail).trans HT.out))
            | ok u x =>
              have HF := Lib.hid (show numP r = .ok () x by rw [HX.out, if_pos (.inl s1), hx])
              have D := fun w (h : RdAt w q S (r3.tail.tail) lev) => digits_ok hS hx h
              clear hx s1 h1 he HX
              go_wp2_with (first
                | (go_at_call 138; ((with_reducible refine (TE _ (by assumption)).mono ?_); rintro e wTE ⟨rfl, hTE, cTE⟩))
                | (go_at_call 138; ((with_reducible refine (TG _ (by assumption)).mono ?_); rintro e wTG ⟨rfl, hTG, cTG⟩))
                | (go_at_call 138; ((with_reducible refine (TP _ (by assumption)).mono ?_); rintro e wTP ⟨rfl, hTP, cTP⟩))
                | (go_at_call 161; ((with_reducible refine (D _ (by assumption)).mono ?_); rintro e wD ⟨rfl, hD⟩)))
              go_ret
              exact saysU_ok HF.out ⟨hD.1, (((c5.two cTE).two cTG).two cTP).two hD.2⟩
          · have TP := take_F (q := q) (lev := lev) hS 43 43 rfl (by decide) s1
            by_cases s2 : hd r3.tail = 45
            · have TM := take_T (q := q) (lev := lev) hS 45 45 rfl (by decide) s2
              cases hx : digP r3.tail.tail with
              | bad code x =>
                have HF := Lib.hid (show numP r = .bad code x by rw [HX.out, if_pos (.inr s2), hx])
                have D := fun w (h : RdAt w q S (r3.tail.tail) lev) => digits_bad hx h
                clear hx s1 h1 he s2 HX
                go_wp2_with (first
                  | (go_at_call 138; ((with_reducible refine (TE _ (by assumption)).mono ?_); rintro e wTE ⟨rfl, hTE, cTE⟩))
                  | (go_at_call 138; ((with_reducible refine (TG _ (by assumption)).mono ?_); rintro e wTG ⟨rfl, hTG, cTG⟩))
                  | (go_at_call 138; ((with_reducible refine (TP _ (by assumption)).mono ?_); rintro e wTP ⟨rfl, hTP, cTP⟩))
                  | (go_at_call 138; ((with_reducible refine (TM _ (by assumption)).mono ?_); rintro e wTM ⟨rfl, hTM, cTM⟩))
                  | (go_at_call 161; ((with_reducible refine (D _ (by assumption)).mono ?_); rintro e wD ⟨rfl, hD⟩; unfold errAt errV)))
                go_ret
                exact saysU_bad HF.out (hD.trans ((((c5.two cTE).two cTG).two cTP).two cTM) ((List.tail_suffix r3.tail).trans HT.out))
              | ok u x =>
                have HF := Lib.hid (show numP r = .ok () x by rw [HX.out, if_pos (.inr s2), hx])
                have D := fun w (h : RdAt w q S (r3.tail.tail) lev) => digits_ok hS hx h
                clear hx s1 h1 he s2 HX
                go_wp2_with (first
                  | (go_at_call 138; ((with_reducible refine (TE _ (by assumption)).mono ?_); rintro e wTE ⟨rfl, hTE, cTE⟩))
                  | (go_at_call 138; ((with_reducible refine (TG _ (by assumption)).mono ?_); rintro e wTG ⟨rfl, hTG, cTG⟩))
                  | (go_at_call 138; ((with_reducible refine (TP _ (by assumption)).mono ?_); rintro e wTP ⟨rfl, hTP, cTP⟩))
                  | (go_at_call 138; ((with_reducible refine (TM _ (by assumption)).mono ?_); rintro e wTM ⟨rfl, hTM, cTM⟩))
                  | (go_at_call 161; ((with_reducible refine (D _ (by assumption)).mono ?_); rintro e wD ⟨rfl, hD⟩)))
                go_ret
                exact saysU_ok HF.out ⟨hD.1, ((((c5.two cTE).two cTG).two cTP).two cTM).two hD.2⟩
            · have TM := take_F (q := q) (lev := lev) hS 45 45 rfl (by decide) s2
              cases hx : digP r3.tail with
              | bad code x =>
                have HF := Lib.hid (show numP r = .bad code x by rw [HX.out, if_neg (fun h => h.elim s1 s2), hx])
                have D := fun w (h : RdAt w q S (r3.tail) lev) => digits_bad hx h
                clear hx s1 h1 he s2 HX
                go_wp2_with (first
                  | (go_at_call 138; ((with_reducible refine (TE _ (by assumption)).mono ?_); rintro e wTE ⟨rfl, hTE, cTE⟩))
                  | (go_at_call 138; ((with_reducible refine (TG _ (by assumption)).mono ?_); rintro e wTG ⟨rfl, hTG, cTG⟩))
                  | (go_at_call 138; ((with_reducible refine (TP _ (by assumption)).mono ?_); rintro e wTP ⟨rfl, hTP, cTP⟩))
                  | (go_at_call 138; ((with_reducible refine (TM _ (by assumption)).mono ?_); rintro e wTM ⟨rfl, hTM, cTM⟩))
                  | (go_at_call 161; ((with_reducible refine (D _ (by assumption)).mono ?_); rintro e wD ⟨rfl, hD⟩; unfold errAt errV)))
                go_ret
                exact saysU_bad HF.out (hD.trans ((((c5.two cTE).two cTG).two cTP).two cTM) (HT.out))
              | ok u x =>
                have HF := Lib.hid (show numP r = .ok () x by rw [HX.out, if_neg (fun h => h.elim s1 s2), hx])
                have D := fun w (h : RdAt w q S (r3.tail) lev) => digits_ok hS hx h
                clear hx s1 h1 he s2 HX
                go_wp2_with (first
                  | (go_at_call 138; ((with_reducible refine (TE _ (by assumption)).mono ?_); rintro e wTE ⟨rfl, hTE, cTE⟩))
                  | (go_at_call 138; ((with_reducible refine (TG _ (by assumption)).mono ?_); rintro e wTG ⟨rfl, hTG, cTG⟩))
                  | (go_at_call 138; ((with_reducible refine (TP _ (by assumption)).mono ?_); rintro e wTP ⟨rfl, hTP, cTP⟩))
                  | (go_at_call 138; ((with_reducible refine (TM _ (by assumption)).mono ?_); rintro e wTM ⟨rfl, hTM, cTM⟩))
                  | (go_at_call 161; ((with_reducible refine (D _ (by assumption)).mono ?_); rintro e wD ⟨rfl, hD⟩)))
                go_ret
                exact saysU_ok HF.out ⟨hD.1, ((((c5.two cTE).two cTG).two cTP).two cTM).two hD.2⟩
      · have T4 := take_F (q := q) (lev := lev) hS 101 101 rfl (by decide) (fun e => he (.inl e))
        have T5 := take_F (q := q) (lev := lev) hS 69 69 rfl (by decide) (fun e => he (.inr e))
        have HF := Lib.hid (show numP r = .ok () r3 by rw [HN.out]; unfold expP; rw [if_neg he])
        clear he
        go_wp2_with (first
          | (go_at_call 138; ((with_reducible refine (T4 _ (by assumption)).mono ?_); rintro e w4 ⟨rfl, h4, c6⟩))
          | (go_at_call 138; ((with_reducible refine (T5 _ (by assumption)).mono ?_); rintro e w5 ⟨rfl, h5, c7⟩)))
        go_ret
        exact saysU_ok HF.out ⟨h5, (c5.two c6).two c7⟩
end Go.Proofs.YtnkencdibniagaaGreatDoor

/- Layer 11: what start-up laid; values in memory; words. -/
namespace Go.Proofs.YtnkencdibniagaaGreatDoor
open Go.RowKit

/-- What start-up laid, as far as it is read. -/
structure Env (w : World) : Prop where
  words : ∀ i, i < 3 → w.cell? ⟨1, i, none⟩ = some (.string (str (wordOf (i : Int))))
  tabs : Lib.Utf8Tabs 2 3 w
  errT : w.cell? ⟨0, 0, none⟩ = some (.iface 206 (.agg #[.pointer (some ⟨10, 122, none⟩)]))
  syn : ∃ tp p, w.var? Tryz.prog "strconv.ErrSyntax" = some #[.iface tp p]
  big : 10 ≤ w.heap.size
  tz : w.cell? ⟨9, 15, none⟩ = some (.int .u8 4)
theorem cell_same {w w' : World} (h : ∀ k, k < 10 → w'.heap[k]? = w.heap[k]?) (k : Nat) (hk : k < 10) (i : Nat) : w'.cell? ⟨k, i, none⟩ = w.cell? ⟨k, i, none⟩ :=
  World.cell?_of_block (w := w) (w' := w') (a := ⟨k, i, none⟩) (h k hk)
theorem syn_glob : Tryz.prog.globalNamed "strconv.ErrSyntax" = some 4 := by kernel_rfl
theorem Env.same {w w' : World} (e : Env w) (h : ∀ k, k < 10 → w'.heap[k]? = w.heap[k]?) (hs : w.heap.size ≤ w'.heap.size) : Env w' := by
  refine ⟨fun i hi => (cell_same h _ (by decide) i).trans (e.words i hi), ⟨fun c hc => (cell_same h _ (by decide) c).trans (e.tabs.1 c hc), fun i hi => ⟨(cell_same h _ (by decide) _).trans (e.tabs.2 i hi).1, (cell_same h _ (by decide) _).trans (e.tabs.2 i hi).2⟩⟩, (cell_same h _ (by decide) 0).trans e.errT, ?_, Nat.le_trans e.big hs, (cell_same h _ (by decide) 15).trans e.tz⟩
  obtain ⟨tp, p, hv⟩ := e.syn
  refine ⟨tp, p, ?_⟩
  rw [← hv]
  unfold World.var?
  rw [syn_glob]
  have := h 4 (by decide)
  simp [this]
theorem Env.chg {s : Nat → Prop} {w w' : World} (e : Env w) (h : Chg s w w') (hs : ∀ k, k < 10 → ¬ s k) : Env w' :=
  e.same (fun k hk => h.block k (Nat.lt_of_lt_of_le hk e.big) (hs k hk)) h.size
theorem Env.q {w w' : World} {q : Nat} (e : Env w) (h : Chg (· = q) w w') (hq : 10 ≤ q) : Env w' := e.chg h (fun k hk hkq => by omega)
theorem Env.below {w w' : World} (e : Env w) (h : Below w.heap.size w w') : Env w' := e.chg (s := fun _ => False) (Chg.of_below h) (fun _ _ => id)
theorem Env.drewN {w : World} (e : Env w) (n : Nat) : Env (w.drewN n) := e.same (fun _ _ => rfl) (Nat.le_refl _)
/-! ### Values in memory -/
/-- Texts, one behind the other. -/
def HoldsK (w : World) (F : Nat → Prop) (keys : List Bs) (V : Value) : Prop :=
  (V = .slice none 0 0 ∧ keys = []) ∨ ∃ (ad : Addr) (cap : Nat), V = .slice (some ad) keys.length cap ∧ ∀ i, i < keys.length → F ad.block ∧ w.cell? (ad.add i) = some (.string (str (keys.getD i [])))
mutual
/-- A value's four cells. -/
def HoldsC (w : World) (F : Nat → Prop) : JV → Value → Value → Value → Value → Prop
  | .mk k t items keys, a, b, c, d => a = .int .i64 k ∧ b = .string (str t) ∧ t.length ≤ 281474976710656 ∧ HoldsK w F keys d ∧
      ((c = .slice none 0 0 ∧ items = []) ∨ ∃ (ad : Addr) (cap : Nat), c = .slice (some ad) items.length cap ∧ HoldsR w F items ad 0)
/-- Values, one behind the other, from the i-th one on. -/
def HoldsR (w : World) (F : Nat → Prop) : List JV → Addr → Nat → Prop
  | [], _, _ => True
  | x :: l, ad, i => (∃ a b c d, F ad.block ∧ w.cell? (ad.add (4 * i)) = some a ∧ w.cell? (ad.add (4 * i + 1)) = some b ∧ w.cell? (ad.add (4 * i + 2)) = some c ∧ w.cell? (ad.add (4 * i + 3)) = some d ∧ HoldsC w F x a b c d) ∧ HoldsR w F l ad (i + 1)
end
def HoldsJ (w : World) (F : Nat → Prop) (v : JV) (V : Value) : Prop := ∃ a b c d, V = .agg #[a, b, c, d] ∧ HoldsC w F v a b c d
theorem add_block (a : Addr) (i : Nat) : (a.add i).block = a.block := by unfold Addr.add; split <;> rfl
theorem cell_chg {s : Nat → Prop} {w w' : World} (h : Chg s w w') {a : Addr} {v : Value} (hc : w.cell? a = some v) (hs : ¬ s a.block) : w'.cell? a = some v := by
  have hlt : a.block < w.heap.size := World.block_lt_of_cell? w _ hc
  rw [World.cell?_of_block (w := w) (w' := w') (a := a) (h.block _ hlt hs)]
  exact hc
theorem HoldsK.chg {s F : Nat → Prop} {w w' : World} {keys : List Bs} {V : Value} (h : HoldsK w F keys V) (hc : Chg s w w') (hs : ∀ k, F k → ¬ s k) : HoldsK w' F keys V := by
  rcases h with h | ⟨ad, cap, hv, hk⟩
  · exact .inl h
  · exact .inr ⟨ad, cap, hv, fun i hi => ⟨(hk i hi).1, cell_chg hc (hk i hi).2 (by rw [add_block]; exact hs _ (hk i hi).1)⟩⟩
theorem HoldsK.mono {F G : Nat → Prop} {w : World} {keys : List Bs} {V : Value} (h : HoldsK w F keys V) (hs : ∀ k, F k → k < w.heap.size → G k) : HoldsK w G keys V := by
  rcases h with h | ⟨ad, cap, hv, hk⟩
  · exact .inl h
  · refine .inr ⟨ad, cap, hv, fun i hi => ⟨hs _ (hk i hi).1 ?_, (hk i hi).2⟩⟩
    have := World.block_lt_of_cell? w _ (hk i hi).2
    rwa [add_block] at this
mutual
theorem HoldsC.chg {s F : Nat → Prop} {w w' : World} (hc : Chg s w w') (hs : ∀ k, F k → ¬ s k) : ∀ (v : JV) (a b c d : Value), HoldsC w F v a b c d → HoldsC w' F v a b c d
  | .mk k t items keys, a, b, c, d, h => by
    rw [HoldsC] at h ⊢
    obtain ⟨h1, h2, h3, h4, h5⟩ := h
    refine ⟨h1, h2, h3, h4.chg hc hs, ?_⟩
    rcases h5 with h5 | ⟨ad, cap, h5, h6⟩
    · exact .inl h5
    · exact .inr ⟨ad, cap, h5, HoldsR.chg hc hs items ad 0 h6⟩
theorem HoldsR.chg {s F : Nat → Prop} {w w' : World} (hc : Chg s w w') (hs : ∀ k, F k → ¬ s k) : ∀ (l : List JV) (ad : Addr) (i : Nat), HoldsR w F l ad i → HoldsR w' F l ad i
  | [], _, _, _ => by rw [HoldsR]; trivial
  | x :: l, ad, i, h => by
    rw [HoldsR] at h ⊢
    obtain ⟨⟨a, b, c, d, h0, h1, h2, h3, h4, h5⟩, h6⟩ := h
    exact ⟨⟨a, b, c, d, h0, cell_chg hc h1 (by rw [add_block]; exact hs _ h0), cell_chg hc h2 (by rw [add_block]; exact hs _ h0), cell_chg hc h3 (by rw [add_block]; exact hs _ h0), cell_chg hc h4 (by rw [add_block]; exact hs _ h0), HoldsC.chg hc hs x a b c d h5⟩, HoldsR.chg hc hs l ad (i + 1) h6⟩
end
mutual
theorem HoldsC.mono {F G : Nat → Prop} {w : World} (hs : ∀ k, F k → k < w.heap.size → G k) : ∀ (v : JV) (a b c d : Value), HoldsC w F v a b c d → HoldsC w G v a b c d
  | .mk k t items keys, a, b, c, d, h => by
    rw [HoldsC] at h ⊢
    obtain ⟨h1, h2, h3, h4, h5⟩ := h
    refine ⟨h1, h2, h3, h4.mono hs, ?_⟩
    rcases h5 with h5 | ⟨ad, cap, h5, h6⟩
    · exact .inl h5
    · exact .inr ⟨ad, cap, h5, HoldsR.mono hs items ad 0 h6⟩
theorem HoldsR.mono {F G : Nat → Prop} {w : World} (hs : ∀ k, F k → k < w.heap.size → G k) : ∀ (l : List JV) (ad : Addr) (i : Nat), HoldsR w F l ad i → HoldsR w G l ad i
  | [], _, _, _ => by rw [HoldsR]; trivial
  | x :: l, ad, i, h => by
    rw [HoldsR] at h ⊢
    obtain ⟨⟨a, b, c, d, h0, h1, h2, h3, h4, h5⟩, h6⟩ := h
    have hlt : ad.block < w.heap.size := by
      have := World.block_lt_of_cell? w _ h1
      rwa [add_block] at this
    exact ⟨⟨a, b, c, d, hs _ h0 hlt, h1, h2, h3, h4, HoldsC.mono hs x a b c d h5⟩, HoldsR.mono hs l ad (i + 1) h6⟩
end
theorem HoldsJ.chg {s F : Nat → Prop} {w w' : World} {v : JV} {V : Value} (h : HoldsJ w F v V) (hc : Chg s w w') (hs : ∀ k, F k → ¬ s k) : HoldsJ w' F v V := by
  obtain ⟨a, b, c, d, h1, h2⟩ := h
  exact ⟨a, b, c, d, h1, HoldsC.chg hc hs v a b c d h2⟩
theorem HoldsJ.mono {F G : Nat → Prop} {w : World} {v : JV} {V : Value} (h : HoldsJ w F v V) (hs : ∀ k, F k → k < w.heap.size → G k) : HoldsJ w G v V := by
  obtain ⟨a, b, c, d, h1, h2⟩ := h
  exact ⟨a, b, c, d, h1, HoldsC.mono hs v a b c d h2⟩
/-- The form that the four cells have. -/
theorem HoldsC.form {F : Nat → Prop} {w : World} {v : JV} {a b c d : Value} (h : HoldsC w F v a b c d) : a = .int .i64 v.kind ∧ b = .string (str v.text) ∧ (∃ x cap, c = .slice x v.items.length cap) ∧ ∃ x cap, d = .slice x v.keys.length cap := by
  obtain ⟨k, t, items, keys⟩ := v
  rw [HoldsC] at h
  obtain ⟨h1, h2, _, h4, h5⟩ := h
  refine ⟨h1, h2, ?_, ?_⟩
  · rcases h5 with ⟨h5, h6⟩ | ⟨ad, cap, h5, _⟩
    · exact ⟨none, 0, by rw [h5]; show _ = Value.slice none items.length 0; rw [h6]; rfl⟩
    · exact ⟨some ad, cap, h5⟩
  · rcases h4 with ⟨h5, h6⟩ | ⟨ad, cap, h5, _⟩
    · exact ⟨none, 0, by rw [h5]; show _ = Value.slice none keys.length 0; rw [h6]; rfl⟩
    · exact ⟨some ad, cap, h5⟩
theorem holds_word (w : World) (F : Nat → Prop) (k : Int) : HoldsJ w F (.mk k [] [] []) (.agg #[.int .i64 k, .string ⟨#[]⟩, .slice none 0 0, .slice none 0 0]) :=
  ⟨_, _, _, _, rfl, by rw [HoldsC]; exact ⟨rfl, rfl, by simp, .inl ⟨rfl, rfl⟩, .inl ⟨rfl, rfl⟩⟩⟩
theorem holds_text (w : World) (F : Nat → Prop) (k : Int) {t : Bs} (ht : t.length ≤ 281474976710656) : HoldsJ w F (.mk k t [] []) (.agg #[.int .i64 k, .string (str t), .slice none 0 0, .slice none 0 0]) :=
  ⟨_, _, _, _, rfl, by rw [HoldsC]; exact ⟨rfl, rfl, ht, .inl ⟨rfl, rfl⟩, .inl ⟨rfl, rfl⟩⟩⟩
/-- Four cells that may stand in a block. -/
def four (V : Value) : Prop := ∃ (k : Int) (t : ByteArray) (x1 : Option Addr) (n1 c1 : Nat) (x2 : Option Addr) (n2 c2 : Nat), V = .agg #[.int .i64 k, .string t, .slice x1 n1 c1, .slice x2 n2 c2]
theorem HoldsJ.four {F : Nat → Prop} {w : World} {v : JV} {V : Value} (h : HoldsJ w F v V) : four V := by
  obtain ⟨a, b, c, d, rfl, h2⟩ := h
  obtain ⟨rfl, rfl, ⟨x, cap, rfl⟩, y, cap', rfl⟩ := h2.form
  exact ⟨_, _, _, _, _, _, _, _, rfl⟩
/-- What a reading of a value says of a call that answers it and an error. New blocks hold it. -/
def saysV (w : World) (q : Nat) (S r : Bs) (lev : Nat) (R : Res JV) (e : Ending) (w' : World) : Prop :=
  match R with
  | .ok v x => ∃ V, e = .returned (.tuple #[V, .nilIface]) ∧ HoldsJ w' (fun k => w.heap.size ≤ k ∧ k < w'.heap.size) v V ∧ okP w q S x lev w'
  | .bad code x => ∃ V, e = .returned (.tuple #[V, errAt S code x]) ∧ four V ∧ badP w q S r w'
end Go.Proofs.YtnkencdibniagaaGreatDoor

