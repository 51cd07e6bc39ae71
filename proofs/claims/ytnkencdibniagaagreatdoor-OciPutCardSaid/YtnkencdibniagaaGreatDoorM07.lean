/- Merged: JtD, JtE, JsW. -/
import Derived.Test.YtnkencdibniagaaGreatDoorM06
import Derived.Deep.Cut
import Derived.Deep.CutRange
import Derived.Deep.DeepCutAuto
import Derived.Deep.CutBlock
import Derived.Test.YtnkencdibniagaaGreatDoorShelf
/- Layer 11: digits, a number. -/
namespace Go.Proofs.YtnkencdibniagaaGreatDoor
open Go.RowKit

theorem isDg_iff (c : UInt8) : isDg c = true ↔ 48 ≤ c.toNat ∧ c.toNat ≤ 57 := by
  unfold isDg
  simp [UInt8.le_iff_toNat_le]
set_option maxHeartbeats 1000000 in
theorem isDigit_any (c : UInt8) (w : World) : Calls Tryz.prog 181 #[.int .u8 (c.toNat : Int)] w fun e w' => e = .returned (.bool (isDg c)) ∧ w = w' := by
  have hc := c.toNat_lt
  have hi := isDg_iff c
  generalize c.toNat = n at hc hi ⊢
  generalize isDg c = b at hi ⊢
  by_cases h1 : 48 ≤ n
  · by_cases h2 : n ≤ 57
    · obtain rfl : b = true := hi.2 ⟨h1, h2⟩
      have e1 : decide ((48 : Int) ≤ (n : Int)) = true := by rw [decide_eq_true_eq]; omega
      have e2 : decide ((n : Int) ≤ 57) = true := by rw [decide_eq_true_eq]; omega
      clear hi hc
      go_enter Tryz.func181, Tryz.ntmps181
      go_wp2
      go_ret
      exact ⟨rfl, rfl⟩
    · obtain rfl : b = false := by cases b; rfl; exact absurd (hi.1 rfl).2 h2
      have e1 : decide ((48 : Int) ≤ (n : Int)) = true := by rw [decide_eq_true_eq]; omega
      have e2 : decide ((n : Int) ≤ 57) = false := by rw [decide_eq_false_iff_not]; omega
      clear hi hc h2
      go_enter Tryz.func181, Tryz.ntmps181
      go_wp2
      go_ret
      exact ⟨rfl, rfl⟩
  · obtain rfl : b = false := by cases b; rfl; exact absurd (hi.1 rfl).1 h1
    have e1 : decide ((48 : Int) ≤ (n : Int)) = false := by rw [decide_eq_false_iff_not]; omega
    clear hi hc h1
    go_enter Tryz.func181, Tryz.ntmps181
    go_wp2
    go_ret
    exact ⟨rfl, rfl⟩
theorem dropD_tail {r : Bs} (h : isDg (hd r) = true) : dropD r = dropD r.tail ∧ r.tail.length < r.length ∧ r ≠ [] := by
  cases r with
  | nil => exact absurd h (by decide)
  | cons c r => exact ⟨by rw [dropD, if_pos (show isDg c = true from h)]; rfl, by simp, by simp⟩
/-- What a step leaves of the reader, when it is OK, and when it is wrong. -/
def okP (w : World) (q : Nat) (S x : Bs) (lev : Nat) (w' : World) : Prop := RdAt w' q S x lev ∧ Chg (· = q) w w'
def badP (w : World) (q : Nat) (S r : Bs) (w' : World) : Prop := (∃ x lev, RdAt w' q S x lev ∧ x <:+ r) ∧ Chg (· = q) w w'
theorem dig_yes {r x : Bs} (h : digP r = .ok () x) : (dropD r).length ≠ r.length ∧ dropD r = x := by
  unfold digP at h
  split at h
  · cases h
  · rename_i hn
    rw [Res.ok.injEq] at h
    exact ⟨hn, h.2⟩
theorem dig_no {r x : Bs} {code : Nat} (h : digP r = .bad code x) : (dropD r).length = r.length ∧ dropD r = x ∧ code = 10 ∧ x = r := by
  unfold digP at h
  split at h
  · rename_i hn
    rw [Res.bad.injEq] at h
    refine ⟨hn, ?_, h.1.symm, h.2.symm⟩
    rw [← h.2]
    obtain ⟨t, h1, _⟩ := dropD_pre r
    have : t = [] := List.eq_nil_of_length_eq_zero (by have := congrArg List.length h1; rw [List.length_append] at this; omega)
    rw [this, List.nil_append] at h1
    exact h1.symm
  · cases h
set_option maxHeartbeats 2000000 in
theorem digits_ok {w : World} {q : Nat} {S r x : Bs} {lev : Nat} (hS : okT S) (hx : digP r = .ok () x) (h : RdAt w q S r lev) :
    Calls Tryz.prog 161 #[.pointer (some ⟨q, 0, none⟩)] w fun e w' => e = .returned .nilIface ∧ okP w q S x lev w' := by
  obtain ⟨hx1, hx2⟩ := dig_yes hx
  have HX1 := Lib.hid hx1
  have HX2 := Lib.hid hx2
  have hN := fun w' r' (h' : RdAt w' q S r' lev) => next_any h'
  obtain ⟨_, c1, _⟩ := h.cell
  have H := Lib.hid h
  have HLE := Lib.hid h.le
  unfold okT at hS
  have HS := Lib.hid hS
  generalize hk0 : S.length - r.length = k0 at c1
  have HK0 := Lib.hid hk0
  clear hx hx1 hx2 hk0 h hS
  go_enter Tryz.func161, Tryz.ntmps161
  go_wp2
  go_loopg [] r.length (fun k wr => ∃ r', RdAt wr q S r' lev ∧ Hid (dropD r' = dropD r) ∧ Hid (r'.length = k) ∧ Chg (· = q) w wr)
  case atStart => exact ⟨r, H.out, Lib.hid rfl, Lib.hid rfl, Chg.refl _ _⟩
  case round =>
    clear c1
    obtain ⟨r', h', HD, HK, hC⟩ := hrel
    by_cases hb : isDg (hd r') = true
    · obtain ⟨hd1, hd2, hd3⟩ := dropD_tail hb
      have HD2 := Lib.hid hd1
      have HL := Lib.hid hd2
      obtain ⟨_, c1, _⟩ := h'.cell
      have f1 := h'.free 1
      have hle := h'.le
      have hSS := HS.out
      generalize hk : S.length - r'.length = k at c1
      have hk2 : k ≤ 4611686018427387904 := by omega
      have HM := Lib.hid (fun n => (h'.drewN n).move hd3 hk.symm)
      have hDg := fun w => isDigit_any (hd r') w
      rw [hb] at hDg
      clear hd1 hd2 hd3 hb hk hle hSS
      go_wp2_with (first
        | (go_at_call 132; ((with_reducible refine (hN _ _ h').mono ?_); rintro e w' ⟨rfl, n, rfl⟩))
        | (go_at_call 181; ((with_reducible refine (hDg _).mono ?_); rintro e w' ⟨rfl, rfl⟩)))
      go_roundg (r'.tail.length)
      case measure => rw [← HK.out]; exact HL.out
      case rel => exact ⟨r'.tail, HM.out _, Lib.hid (HD2.out.symm.trans HD.out), Lib.hid rfl, (hC.drewN _).setCell _ _ (.inl rfl)⟩
    · have hb' : isDg (hd r') = false := by simpa using hb
      have HE := Lib.hid (dropD_hd hb')
      obtain ⟨_, c1, _⟩ := h'.cell
      have hle := h'.le
      have hDg := fun w => isDigit_any (hd r') w
      rw [hb'] at hDg
      have hne : (((S.length - r'.length : Nat) : Int) == (k0 : Int)) = false := by
        rw [beq_eq_false_iff_ne]
        have h1 := HX1.out
        have h2 := HK0.out
        have h3 := HLE.out
        rw [← HD.out, HE.out] at h1
        omega
      generalize S.length - r'.length = k at c1 hne
      clear hb hb' hle
      go_wp2_with (first
        | (go_at_call 132; ((with_reducible refine (hN _ _ h').mono ?_); rintro e w' ⟨rfl, n, rfl⟩))
        | (go_at_call 181; ((with_reducible refine (hDg _).mono ?_); rintro e w' ⟨rfl, rfl⟩)))
      go_ret
      refine ⟨rfl, ?_, hC.drewN _⟩
      rw [← HX2.out, ← HD.out, HE.out]
      exact h'.drewN _
set_option maxHeartbeats 2000000 in
theorem digits_bad {w : World} {q : Nat} {S r x : Bs} {lev code : Nat} (hx : digP r = .bad code x) (h : RdAt w q S r lev) :
    Calls Tryz.prog 161 #[.pointer (some ⟨q, 0, none⟩)] w fun e w' => e = .returned (errAt S code x) ∧ badP w q S r w' := by
  obtain ⟨hx1, hx2, rfl, rfl⟩ := dig_no hx
  have hb' : isDg (hd x) = false := by
    rw [← hx2]; exact dropD_stop x
  have hN := next_any h
  obtain ⟨_, c1, _⟩ := h.cell
  have hDg := fun w => isDigit_any (hd x) w
  rw [hb'] at hDg
  have HP := Lib.hid (fun n => (⟨⟨x, lev, h.drewN n, List.suffix_refl x⟩, (Chg.refl _ w).drewN n⟩ : badP w q S x (w.drewN n)))
  unfold errAt
  generalize hk0 : S.length - x.length = k0 at c1 ⊢
  have heq : ((k0 : Int) == (k0 : Int)) = true := by simp
  clear hx hx1 hx2 hb' hk0 h
  go_enter Tryz.func161, Tryz.ntmps161
  go_wp2
  refine wp_loop_rounds 1 ?_
  rw [rounds_succ]
  go_wp2_with (first
    | (go_at_call 132; ((with_reducible refine hN.mono ?_); rintro e w' ⟨rfl, n, rfl⟩))
    | (go_at_call 181; ((with_reducible refine (hDg _).mono ?_); rintro e w' ⟨rfl, rfl⟩))
    | (go_at_call 100; ((with_reducible refine (unfit_any k0 _ rfl _).mono ?_); rintro e w' ⟨rfl, rfl⟩)))
  go_ret
  exact ⟨rfl, HP.out _⟩
end Go.Proofs.YtnkencdibniagaaGreatDoor

/- Layer 11: a number. -/
namespace Go.Proofs.YtnkencdibniagaaGreatDoor
open Go.RowKit

theorem okP.trans {w w1 w2 : World} {q : Nat} {S y : Bs} {l2 : Nat} (h : Chg (· = q) w w1) (g : okP w1 q S y l2 w2) : okP w q S y l2 w2 := ⟨g.1, h.two g.2⟩
theorem badP.trans {w w1 w2 : World} {q : Nat} {S r r' : Bs} (h : Chg (· = q) w w1) (hs : r' <:+ r) (g : badP w1 q S r' w2) : badP w q S r w2 := by
  obtain ⟨⟨x, lev, h1, h2⟩, h3⟩ := g
  exact ⟨⟨x, lev, h1, h2.trans hs⟩, h.two h3⟩
/-- What a reading of one thing says of a call that answers an error alone. -/
def saysU (w : World) (q : Nat) (S r : Bs) (lev : Nat) (R : Res Unit) (e : Ending) (w' : World) : Prop :=
  match R with
  | .ok _ x => e = .returned .nilIface ∧ okP w q S x lev w'
  | .bad code x => e = .returned (errAt S code x) ∧ badP w q S r w'
theorem dig_suf {t x : Bs} (h : digP t = .ok () x) : x <:+ t := by
  obtain ⟨u, h1, _⟩ := dig_pre h
  exact ⟨u, h1.symm⟩
/-- The end of Go's 'number', from the exponent on, as the walk meets it: what is left to do at each way. -/
def minus (r : Bs) : Bs := if hd r = 45 then r.tail else r
theorem numP_minus (r : Bs) : numP r = intP (minus r) := by
  unfold numP minus
  split <;> rfl
theorem takeR_minus (r : Bs) : takeR r 45 = minus r := rfl
theorem hd_case {r : Bs} (c : UInt8) : (takeB r c = true ∧ takeR r c = r.tail ∧ hd r = c) ∨ (takeB r c = false ∧ takeR r c = r ∧ ¬ hd r = c) := by
  by_cases h : hd r = c
  · exact .inl ⟨(take_yes h).1, (take_yes h).2, h⟩
  · exact .inr ⟨(take_no h).1, (take_no h).2, h⟩

theorem saysU_ok {w w' : World} {q : Nat} {S r x : Bs} {lev : Nat} {R : Res Unit} (hR : R = .ok () x) (h : okP w q S x lev w') : saysU w q S r lev R (.returned .nilIface) w' := by
  rw [hR]; exact ⟨rfl, h⟩
theorem saysU_bad {w w' : World} {q : Nat} {S r x : Bs} {lev code : Nat} {R : Res Unit} (hR : R = .bad code x) (h : badP w q S r w') : saysU w q S r lev R (.returned (errAt S code x)) w' := by
  rw [hR]; exact ⟨rfl, h⟩
set_option maxHeartbeats 2000000 in
set_option maxRecDepth 100000 in
theorem number_any {w : World} {q : Nat} {S r : Bs} {lev : Nat} (hS : okT S) (h : RdAt w q S r lev) :
    Calls Tryz.prog 137 #[.pointer (some ⟨q, 0, none⟩)] w fun e w' => saysU w q S r lev (numP r) e w' := by
  have HN := Lib.hid (numP_minus r)
  have T1 := fun w (h : RdAt w q S r lev) => take_any h hS 45 45 rfl (by decide)
  rw [takeR_minus] at T1
  have HS1 := Lib.hid (show minus r <:+ r by unfold minus; split; exact List.tail_suffix r; exact List.suffix_refl r)
  generalize minus r = r1 at T1 HN HS1
  go_enter Tryz.func137, Tryz.ntmps137
  have T2 := fun w (h : RdAt w q S r1 lev) => take_any h hS 48 48 rfl (by decide)
  go_upto_if 9 with (first
    | (go_at_call 138; ((with_reducible refine (T1 _ (by assumption)).mono ?_); rintro e w1 ⟨rfl, h1, c1⟩))
    | (go_at_call 138; ((with_reducible refine (T2 _ (by assumption)).mono ?_); rintro e w2 ⟨rfl, h2, c2⟩)))
  clear T1 T2 h
  have c3 := c1.two c2
  clear h1 c1 c2
  go_cut [2] from 3 (fun s2 wx => s2 = .nilIface ∧ ∃ r2, RdAt wx q S r2 lev ∧ Hid (r2 <:+ r) ∧ Hid (numP r = fracP r2) ∧ Chg (· = q) w wx)
  case first =>
    rcases hd_case (r := r1) 48 with ⟨e0, e1, e2⟩ | ⟨e0, e1, e2⟩
    · rw [e1] at h2
      generalize takeB r1 48 = b at e0 ⊢
      subst e0
      have HF := Lib.hid (show numP r = fracP r1.tail by rw [HN.out]; unfold intP; rw [if_pos e2])
      clear e1 e2
      go_wp2
      go_meet
      case rel => exact ⟨rfl, r1.tail, h2, Lib.hid ((List.tail_suffix r1).trans HS1.out), HF, c3⟩
    · rw [e1] at h2
      generalize takeB r1 48 = b at e0 ⊢
      subst e0
      cases hx : digP r1 with
      | bad code x =>
        have HF := Lib.hid (show numP r = .bad code x by rw [HN.out]; unfold intP; rw [if_neg e2, hx])
        have D := fun w (h : RdAt w q S r1 lev) => digits_bad hx h
        clear e1 e2 hx
        go_wp2_with (go_at_call 161; ((with_reducible refine (D _ (by assumption)).mono ?_); rintro e w3 ⟨rfl, h3⟩; unfold errAt errV))
        go_ret
        exact saysU_bad HF.out (h3.trans c3 HS1.out)
      | ok u x =>
        have HF := Lib.hid (show numP r = fracP x by rw [HN.out]; unfold intP; rw [if_neg e2, hx])
        have D := fun w (h : RdAt w q S r1 lev) => digits_ok hS hx h
        have HX := Lib.hid (dig_suf hx)
        clear e1 e2 hx
        go_wp2_with (go_at_call 161; ((with_reducible refine (D _ (by assumption)).mono ?_); rintro e w3 ⟨rfl, h3⟩))
        go_meet
        case rel => exact ⟨rfl, x, h3.1, Lib.hid (HX.out.trans HS1.out), HF, c3.two h3.2⟩
  case rest =>
    clear c3 h2 HN HS1 w2
    obtain ⟨rfl, r2, h2, HS2, HN, c3⟩ := hcut
    have T3 := fun w (h : RdAt w q S r2 lev) => take_any h hS 46 46 rfl (by decide)
    go_upto_if 16 with (go_at_call 138; ((with_reducible refine (T3 _ (by assumption)).mono ?_); rintro e w3 ⟨rfl, h3, c4⟩))
    clear T3 h2
    have c5 := c3.two c4
    clear c3 c4
    go_cut [2] from 3 (fun s2 wx => s2 = .nilIface ∧ ∃ r3, RdAt wx q S r3 lev ∧ Hid (r3 <:+ r) ∧ Hid (numP r = expP r3) ∧ Chg (· = q) w wx)
    case first =>
      rcases hd_case (r := r2) 46 with ⟨e0, e1, e2⟩ | ⟨e0, e1, e2⟩
      · rw [e1] at h3
        generalize takeB r2 46 = b at e0 ⊢
        subst e0
        cases hx : digP r2.tail with
        | bad code x =>
          have HF := Lib.hid (show numP r = .bad code x by rw [HN.out]; unfold fracP; rw [if_pos e2, hx])
          have D := fun w (h : RdAt w q S r2.tail lev) => digits_bad hx h
          clear e1 e2 hx
          go_wp2_with (go_at_call 161; ((with_reducible refine (D _ (by assumption)).mono ?_); rintro e w3 ⟨rfl, h3⟩; unfold errAt errV))
          go_ret
          exact saysU_bad HF.out (h3.trans c5 ((List.tail_suffix r2).trans HS2.out))
        | ok u x =>
          have HF := Lib.hid (show numP r = expP x by rw [HN.out]; unfold fracP; rw [if_pos e2, hx])
          have D := fun w (h : RdAt w q S r2.tail lev) => digits_ok hS hx h
          have HX := Lib.hid (dig_suf hx)
          clear e1 e2 hx
          go_wp2_with (go_at_call 161; ((with_reducible refine (D _ (by assumption)).mono ?_); rintro e w3 ⟨rfl, h3⟩))
          go_meet
          case rel => exact ⟨rfl, x, h3.1, Lib.hid ((HX.out.trans (List.tail_suffix r2)).trans HS2.out), HF, c5.two h3.2⟩
      · rw [e1] at h3
        generalize takeB r2 46 = b at e0 ⊢
        subst e0
        have HF := Lib.hid (show numP r = expP r2 by rw [HN.out]; unfold fracP; rw [if_neg e2])
        clear e1 e2
        go_wp2
        go_meet
        case rel => exact ⟨rfl, r2, h3, HS2, HF, c5⟩
    case rest =>
      clear c5 h3 HN HS2 w3
      obtain ⟨rfl, r3, h3, HS3, HN, c5⟩ := hcut
      by_cases he : hd r3 = 101 ∨ hd r3 = 69
      · -- an exponent
        have HX := Lib.hid (show numP r = if hd r3.tail = 43 ∨ hd r3.tail = 45 then digP r3.tail.tail else digP r3.tail by rw [HN.out]; unfold expP; rw [if_pos he])
        have hsuf : r3.tail <:+ r := (List.tail_suffix r3).trans HS3.out
        have HT := Lib.hid hsuf
        clear hsuf
        by_cases h1 : hd r3 = 101
        · have TE := take_T (q := q) (lev := lev) hS 101 101 rfl (by decide) h1
          rcases hd_case (r := r3.tail) 43 with ⟨_, _, s1⟩ | ⟨_, _, s1⟩
          · have TP := take_T (q := q) (lev := lev) hS 43 43 rfl (by decide) s1
            cases hx : digP r3.tail.tail with
            | bad code x =>
              have HF := Lib.hid (show numP r = .bad code x by rw [HX.out, if_pos (.inl s1), hx])
              have D := fun w (h : RdAt w q S (r3.tail.tail) lev) => digits_bad hx h
              clear hx s1 h1 he HX
              go_wp2_with (first
                | (go_at_call 138; ((with_reducible refine (TE _ (by assumption)).mono ?_); rintro e wTE ⟨rfl, hTE, cTE⟩))
                | (go_at_call 138; ((with_reducible refine (TP _ (by assumption)).mono ?_); rintro e wTP ⟨rfl, hTP, cTP⟩))
                | (go_at_call 161; ((with_reducible refine (D _ (by assumption)).mono ?_); rintro e wD ⟨rfl, hD⟩; unfold errAt errV)))
              go_ret
              exact saysU_bad HF.out (hD.trans ((c5.two cTE).two cTP) ((List.tail_suffix r3.tail).trans HT.out))
            | ok u x =>
              have HF := Lib.hid (show numP r = .ok () x by rw [HX.out, if_pos (.inl s1), hx])
              have D := fun w (h : RdAt w q S (r3.tail.tail) lev) => digits_ok hS hx h
              clear hx s1 h1 he HX
              go_wp2_with (first
                | (go_at_call 138; ((with_reducible refine (TE _ (by assumption)).mono ?_); rintro e wTE ⟨rfl, hTE, cTE⟩))
                | (go_at_call 138; ((with_reducible refine (TP _ (by assumption)).mono ?_); rintro e wTP ⟨rfl, hTP, cTP⟩))
                | (go_at_call 161; ((with_reducible refine (D _ (by assumption)).mono ?_); rintro e wD ⟨rfl, hD⟩)))
              go_ret
              exact saysU_ok HF.out ⟨hD.1, ((c5.two cTE).two cTP).two hD.2⟩
          · have TP := take_F (q := q) (lev := lev) hS 43 43 rfl (by decide) s1
            by_cases s2 : hd r3.tail = 45
            · have TM := take_T (q := q) (lev := lev) hS 45 45 rfl (by decide) s2
              cases hx : digP r3.tail.tail with
              | bad code x =>
                have HF := Lib.hid (show numP r = .bad code x by rw [HX.out, if_pos (.inr s2), hx])
                have D := fun w (h : RdAt w q S (r3.tail.tail) lev) => digits_bad hx h
                clear hx s1 h1 he s2 HX
                go_wp2_with (first
                  | (go_at_call 138; ((with_reducible refine (TE _ (by assumption)).mono ?_); rintro e wTE ⟨rfl, hTE, cTE⟩))
                  | (go_at_call 138; ((with_reducible refine (TP _ (by assumption)).mono ?_); rintro e wTP ⟨rfl, hTP, cTP⟩))
                  | (go_at_call 138; ((with_reducible refine (TM _ (by assumption)).mono ?_); rintro e wTM ⟨rfl, hTM, cTM⟩))
                  | (go_at_call 161; ((with_reducible refine (D _ (by assumption)).mono ?_); rintro e wD ⟨rfl, hD⟩; unfold errAt errV)))
                go_ret
                exact saysU_bad HF.out (hD.trans (((c5.two cTE).two cTP).two cTM) ((List.tail_suffix r3.tail).trans HT.out))
              | ok u x =>
                have HF := Lib.hid (show numP r = .ok () x by rw [HX.out, if_pos (.inr s2), hx])
                have D := fun w (h : RdAt w q S (r3.tail.tail) lev) => digits_ok hS hx h
                clear hx s1 h1 he s2 HX
                go_wp2_with (first
                  | (go_at_call 138; ((with_reducible refine (TE _ (by assumption)).mono ?_); rintro e wTE ⟨rfl, hTE, cTE⟩))
                  | (go_at_call 138; ((with_reducible refine (TP _ (by assumption)).mono ?_); rintro e wTP ⟨rfl, hTP, cTP⟩))
                  | (go_at_call 138; ((with_reducible refine (TM _ (by assumption)).mono ?_); rintro e wTM ⟨rfl, hTM, cTM⟩))
                  | (go_at_call 161; ((with_reducible refine (D _ (by assumption)).mono ?_); rintro e wD ⟨rfl, hD⟩)))
                go_ret
                exact saysU_ok HF.out ⟨hD.1, (((c5.two cTE).two cTP).two cTM).two hD.2⟩
            · have TM := take_F (q := q) (lev := lev) hS 45 45 rfl (by decide) s2
              cases hx : digP r3.tail with
              | bad code x =>
                have HF := Lib.hid (show numP r = .bad code x by rw [HX.out, if_neg (fun h => h.elim s1 s2), hx])
                have D := fun w (h : RdAt w q S (r3.tail) lev) => digits_bad hx h
                clear hx s1 h1 he s2 HX
                go_wp2_with (first
                  | (go_at_call 138; ((with_reducible refine (TE _ (by assumption)).mono ?_); rintro e wTE ⟨rfl, hTE, cTE⟩))
                  | (go_at_call 138; ((with_reducible refine (TP _ (by assumption)).mono ?_); rintro e wTP ⟨rfl, hTP, cTP⟩))
                  | (go_at_call 138; ((with_reducible refine (TM _ (by assumption)).mono ?_); rintro e wTM ⟨rfl, hTM, cTM⟩))
                  | (go_at_call 161; ((with_reducible refine (D _ (by assumption)).mono ?_); rintro e wD ⟨rfl, hD⟩; unfold errAt errV)))
                go_ret
                exact saysU_bad HF.out (hD.trans (((c5.two cTE).two cTP).two cTM) (HT.out))
              | ok u x =>
                have HF := Lib.hid (show numP r = .ok () x by rw [HX.out, if_neg (fun h => h.elim s1 s2), hx])
                have D := fun w (h : RdAt w q S (r3.tail) lev) => digits_ok hS hx h
                clear hx s1 h1 he s2 HX
                go_wp2_with (first
                  | (go_at_call 138; ((with_reducible refine (TE _ (by assumption)).mono ?_); rintro e wTE ⟨rfl, hTE, cTE⟩))
                  | (go_at_call 138; ((with_reducible refine (TP _ (by assumption)).mono ?_); rintro e wTP ⟨rfl, hTP, cTP⟩))
                  | (go_at_call 138; ((with_reducible refine (TM _ (by assumption)).mono ?_); rintro e wTM ⟨rfl, hTM, cTM⟩))
                  | (go_at_call 161; ((with_reducible refine (D _ (by assumption)).mono ?_); rintro e wD ⟨rfl, hD⟩)))
                go_ret
                exact saysU_ok HF.out ⟨hD.1, (((c5.two cTE).two cTP).two cTM).two hD.2⟩
        · have TE := take_F (q := q) (lev := lev) hS 101 101 rfl (by decide) h1
          have TG := take_T (q := q) (lev := lev) hS 69 69 rfl (by decide) (he.resolve_left h1)
          rcases hd_case (r := r3.tail) 43 with ⟨_, _, s1⟩ | ⟨_, _, s1⟩
          · have TP := take_T (q := q) (lev := lev) hS 43 43 rfl (by decide) s1
            cases hx : digP r3.tail.tail with
            | bad code x =>
              have HF := Lib.hid (show numP r = .bad code x by rw [HX.out, if_pos (.inl s1), hx])
              have D := fun w (h : RdAt w q S (r3.tail.tail) lev) => digits_bad hx h
              clear hx s1 h1 he HX
              go_wp2_with (first
                | (go_at_call 138; ((with_reducible refine (TE _ (by assumption)).mono ?_); rintro e wTE ⟨rfl, hTE, cTE⟩))
                | (go_at_call 138; ((with_reducible refine (TG _ (by assumption)).mono ?_); rintro e wTG ⟨rfl, hTG, cTG⟩))
                | (go_at_call 138; ((with_reducible refine (TP _ (by assumption)).mono ?_); rintro e wTP ⟨rfl, hTP, cTP⟩))
                | (go_at_call 161; ((with_reducible refine (D _ (by assumption)).mono ?_); rintro e wD ⟨rfl, hD⟩; unfold errAt errV)))
              go_ret
              exact saysU_bad HF.out (hD.trans (((c5.two cTE).two cTG).two cTP) ((List.tail_suffix r3.tail).trans HT.out))
            | ok u x =>
              have HF := Lib.hid (show numP r = .ok () x by rw [HX.out, if_pos (.inl s1), hx])
              have D := fun w (h : RdAt w q S (r3.tail.tail) lev) => digits_ok hS hx h
              clear hx s1 h1 he HX
              go_wp2_with (first
                | (go_at_call 138; ((with_reducible refine (TE _ (by assumption)).mono ?_); rintro e wTE ⟨rfl, hTE, cTE⟩))
                | (go_at_call 138; ((with_reducible refine (TG _ (by assumption)).mono ?_); rintro e wTG ⟨rfl, hTG, cTG⟩))
                | (go_at_call 138; ((with_reducible refine (TP _ (by assumption)).mono ?_); rintro e wTP ⟨rfl, hTP, cTP⟩))
                | (go_at_call 161; ((with_reducible refine (D _ (by assumption)).mono ?_); rintro e wD ⟨rfl, hD⟩)))
              go_ret
              exact saysU_ok HF.out ⟨hD.1, (((c5.two cTE).two cTG).two cTP).two hD.2⟩
          · have TP := take_F (q := q) (lev := lev) hS 43 43 rfl (by decide) s1
            by_cases s2 : hd r3.tail = 45
            · have TM := take_T (q := q) (lev := lev) hS 45 45 rfl (by decide) s2
              cases hx : digP r3.tail.tail with
              | bad code x =>
                have HF := Lib.hid (show numP r = .bad code x by rw [HX.out, if_pos (.inr s2), hx])
                have D := fun w (h : RdAt w q S (r3.tail.tail) lev) => digits_bad hx h
                clear hx s1 h1 he s2 HX
                go_wp2_with (first
                  | (go_at_call 138; ((with_reducible refine (TE _ (by assumption)).mono ?_); rintro e wTE ⟨rfl, hTE, cTE⟩))
                  | (go_at_call 138; ((with_reducible refine (TG _ (by assumption)).mono ?_); rintro e wTG ⟨rfl, hTG, cTG⟩))
                  | (go_at_call 138; ((with_reducible refine (TP _ (by assumption)).mono ?_); rintro e wTP ⟨rfl, hTP, cTP⟩))
                  | (go_at_call 138; ((with_reducible refine (TM _ (by assumption)).mono ?_); rintro e wTM ⟨rfl, hTM, cTM⟩))
                  | (go_at_call 161; ((with_reducible refine (D _ (by assumption)).mono ?_); rintro e wD ⟨rfl, hD⟩; unfold errAt errV)))
                go_ret
                exact saysU_bad HF.out (hD.trans ((((c5.two cTE).two cTG).two cTP).two cTM) ((List.tail_suffix r3.tail).trans HT.out))
              | ok u x =>
                have HF := Lib.hid (show numP r = .ok () x by rw [HX.out, if_pos (.inr s2), hx])
                have D := fun w (h : RdAt w q S (r3.tail.tail) lev) => digits_ok hS hx h
                clear hx s1 h1 he s2 HX
                go_wp2_with (first
                  | (go_at_call 138; ((with_reducible refine (TE _ (by assumption)).mono ?_); rintro e wTE ⟨rfl, hTE, cTE⟩))
                  | (go_at_call 138; ((with_reducible refine (TG _ (by assumption)).mono ?_); rintro e wTG ⟨rfl, hTG, cTG⟩))
                  | (go_at_call 138; ((with_reducible refine (TP _ (by assumption)).mono ?_); rintro e wTP ⟨rfl, hTP, cTP⟩))
                  | (go_at_call 138; ((with_reducible refine (TM _ (by assumption)).mono ?_); rintro e wTM ⟨rfl, hTM, cTM⟩))
                  | (go_at_call 161; ((with_reducible refine (D _ (by assumption)).mono ?_); rintro e wD ⟨rfl, hD⟩)))
                go_ret
                exact saysU_ok HF.out ⟨hD.1, ((((c5.two cTE).two cTG).two cTP).two cTM).two hD.2⟩
            · have TM := take_F (q := q) (lev := lev) hS 45 45 rfl (by decide) s2
              cases hx : digP r3.tail with
              | bad code x =>
                have HF := Lib.hid (show numP r = .bad code x by rw [HX.out, if_neg (fun h => h.elim s1 s2), hx])
                have D := fun w (h : RdAt w q S (r3.tail) lev) => digits_bad hx h
                clear hx s1 h1 he s2 HX
                go_wp2_with (first
                  | (go_at_call 138; ((with_reducible refine (TE _ (by assumption)).mono ?_); rintro e wTE ⟨rfl, hTE, cTE⟩))
                  | (go_at_call 138; ((with_reducible refine (TG _ (by assumption)).mono ?_); rintro e wTG ⟨rfl, hTG, cTG⟩))
                  | (go_at_call 138; ((with_reducible refine (TP _ (by assumption)).mono ?_); rintro e wTP ⟨rfl, hTP, cTP⟩))
                  | (go_at_call 138; ((with_reducible refine (TM _ (by assumption)).mono ?_); rintro e wTM ⟨rfl, hTM, cTM⟩))
                  | (go_at_call 161; ((with_reducible refine (D _ (by assumption)).mono ?_); rintro e wD ⟨rfl, hD⟩; unfold errAt errV)))
                go_ret
                exact saysU_bad HF.out (hD.trans ((((c5.two cTE).two cTG).two cTP).two cTM) (HT.out))
              | ok u x =>
                have HF := Lib.hid (show numP r = .ok () x by rw [HX.out, if_neg (fun h => h.elim s1 s2), hx])
                have D := fun w (h : RdAt w q S (r3.tail) lev) => digits_ok hS hx h
                clear hx s1 h1 he s2 HX
                go_wp2_with (first
                  | (go_at_call 138; ((with_reducible refine (TE _ (by assumption)).mono ?_); rintro e wTE ⟨rfl, hTE, cTE⟩))
                  | (go_at_call 138; ((with_reducible refine (TG _ (by assumption)).mono ?_); rintro e wTG ⟨rfl, hTG, cTG⟩))
                  | (go_at_call 138; ((with_reducible refine (TP _ (by assumption)).mono ?_); rintro e wTP ⟨rfl, hTP, cTP⟩))
                  | (go_at_call 138; ((with_reducible refine (TM _ (by assumption)).mono ?_); rintro e wTM ⟨rfl, hTM, cTM⟩))
                  | (go_at_call 161; ((with_reducible refine (D _ (by assumption)).mono ?_); rintro e wD ⟨rfl, hD⟩)))
                go_ret
                exact saysU_ok HF.out ⟨hD.1, ((((c5.two cTE).two cTG).two cTP).two cTM).two hD.2⟩
      · have T4 := take_F (q := q) (lev := lev) hS 101 101 rfl (by decide) (fun e => he (.inl e))
        have T5 := take_F (q := q) (lev := lev) hS 69 69 rfl (by decide) (fun e => he (.inr e))
        have HF := Lib.hid (show numP r = .ok () r3 by rw [HN.out]; unfold expP; rw [if_neg he])
        clear he
        go_wp2_with (first
          | (go_at_call 138; ((with_reducible refine (T4 _ (by assumption)).mono ?_); rintro e w4 ⟨rfl, h4, c6⟩))
          | (go_at_call 138; ((with_reducible refine (T5 _ (by assumption)).mono ?_); rintro e w5 ⟨rfl, h5, c7⟩)))
        go_ret
        exact saysU_ok HF.out ⟨h5, (c5.two c6).two c7⟩
end Go.Proofs.YtnkencdibniagaaGreatDoor

/- Layer 11: the library's contracts that the shelf's command does not lay here: (*strings.Builder).WriteRune (its structure laid by hand), utf8.ValidString. -/
namespace Go.Proofs
open Go.Shelf
def Tryz.lays168_ren : Go.Shelf.Ren := ⟨fun | 168 => 156 | 240 => 162 | 242 => 180 | 276 => 182 | 278 => 198 | n => n, fun | 0 => 0 | 3 => 3 | 4 => 4 | 5 => 5 | 9 => 9 | 20 => 20 | 21 => 21 | 37 => 132 | 46 => 195 | 51 => 270 | 70 => 131 | 72 => 134 | 75 => 122 | 80 => 139 | 164 => 163 | n => n, fun | n => n⟩
theorem Tryz.lays168 : Go.Proofs.Lays.n168 Tryz.prog Tryz.lays168_ren := {
  mixed := by kernel_rfl
  f168 := Tryz.func156.trans (congrArg some (by kernel_rfl))
  f240 := Tryz.func162.trans (congrArg some (by kernel_rfl))
  f242 := Tryz.func180.trans (congrArg some (by kernel_rfl))
  f276 := Tryz.func182.trans (congrArg some (by kernel_rfl))
  f278 := Tryz.func198.trans (congrArg some (by kernel_rfl))
  t0 := Tryz.underlying0
  a0 := Tryz.isAgg0
  z0 := Tryz.sizeOf0
  v0 := Tryz.zeroValue0
  t3 := Tryz.underlying3
  a3 := Tryz.isAgg3
  z3 := Tryz.sizeOf3
  v3 := Tryz.zeroValue3
  t4 := Tryz.underlying4
  a4 := Tryz.isAgg4
  z4 := Tryz.sizeOf4
  v4 := Tryz.zeroValue4
  t5 := Tryz.underlying5
  a5 := Tryz.isAgg5
  z5 := Tryz.sizeOf5
  v5 := Tryz.zeroValue5
  t9 := Tryz.underlying9
  a9 := Tryz.isAgg9
  z9 := Tryz.sizeOf9
  v9 := Tryz.zeroValue9
  t20 := Tryz.underlying20
  a20 := Tryz.isAgg20
  z20 := Tryz.sizeOf20
  v20 := Tryz.zeroValue20
  t21 := Tryz.underlying21
  a21 := Tryz.isAgg21
  z21 := Tryz.sizeOf21
  v21 := Tryz.zeroValue21
  t37 := Tryz.underlying132
  a37 := Tryz.isAgg132
  z37 := Tryz.sizeOf132
  v37 := Tryz.zeroValue132
  t46 := Tryz.underlying195
  a46 := Tryz.isAgg195
  z46 := Tryz.sizeOf195
  v46 := Tryz.zeroValue195
  t51 := Tryz.underlying270
  a51 := Tryz.isAgg270
  z51 := Tryz.sizeOf270
  v51 := Tryz.zeroValue270
  t70 := Tryz.underlying131
  a70 := Tryz.isAgg131
  z70 := Tryz.sizeOf131
  v70 := Tryz.zeroValue131
  t72 := Tryz.underlying134
  a72 := Tryz.isAgg134
  z72 := Tryz.sizeOf134
  v72 := Tryz.zeroValue134
  t75 := Tryz.underlying122
  a75 := Tryz.isAgg122
  z75 := Tryz.sizeOf122
  v75 := Tryz.zeroValue122
  t164 := Tryz.underlying163
  a164 := Tryz.isAgg163
  z164 := Tryz.sizeOf163
  v164 := Tryz.zeroValue163 }
theorem Tryz.Builder_Extra_168 : Builder.Extra Tryz.prog Tryz.lays168_ren := {
  sizeBuilder := by kernel_rfl
  liesBuilder := by kernel_rfl
  t5 := Tryz.underlying5
  a5 := Tryz.isAgg5
  z5 := Tryz.sizeOf5
  v5 := Tryz.zeroValue5
  infoByte := by kernel_rfl
  cellsByte := by kernel_rfl
  sizeByte := by kernel_rfl
  neB5 := by decide }
open Go.RowKit Go.Lib in
theorem Tryz.Builder_WriteRune_k (B b : Nat) (bs : List Value) (r : Int) (hr0 : -2147483648 ≤ r) (hr1 : r ≤ 2147483647) (w : World) (h : Lib.IsBuilderF 134 5 B b bs w) (hlen : bs.length + 4 ≤ 140737488355328) (hBw : B ≤ w.heap.size) :
    Calls Tryz.prog 156 #[.pointer (some ⟨b, 0, none⟩), .int .i32 r] w fun e w' => e = .returned (.tuple #[.int .i64 (Lib.runeCells r).length, .nilIface]) ∧ (Lib.BuilderAtF 134 5 B b (.pointer (some ⟨b, 0, none⟩)) (bs ++ Lib.runeCells r) w' ∧ Below B w w' ∧ Lib.OthersKept 5 (some b) w w') := Any.Builder_WriteRune_k Tryz.lays168 Tryz.Builder_Extra_168 B b bs r hr0 hr1 w h hlen hBw
end Go.Proofs

