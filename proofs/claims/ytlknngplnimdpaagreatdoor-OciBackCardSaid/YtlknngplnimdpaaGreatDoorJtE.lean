/- Layer 11: a number. -/
import Derived.Test.YtlknngplnimdpaaGreatDoorJtD
import Derived.Deep.Cut
import Derived.Deep.CutRange
import Derived.Deep.DeepCutAuto
import Derived.Deep.CutBlock
namespace Go.Proofs.YtlknngplnimdpaaGreatDoor
open Go.RowKit

theorem okP.trans {w w1 w2 : World} {q : Nat} {S y : Bs} {l2 : Nat} (h : Chg (· = q) w w1) (g : okP w1 q S y l2 w2) : okP w q S y l2 w2 := ⟨g.1, h.two g.2⟩
theorem badP.trans {w w1 w2 : World} {q : Nat} {S r r' : Bs} (h : Chg (· = q) w w1) (hs : r' <:+ r) (g : badP w1 q S r' w2) : badP w q S r w2 := by
  obtain ⟨⟨x, lev, h1, h2⟩, h3⟩ := g
  exact ⟨⟨x, lev, h1, h2.trans hs⟩, h.two h3⟩
/-- What a reading of one thing says of a call that answers an error alone. -/
def saysU (w : World) (q : Nat) (S r : Bs) (lev : Nat) (R : Res Unit) (e : Ending) (w' : World) : Prop :=
  match R with
  | .ok _ x => e = .returned .nilIface ∧ okP w q S x lev w'
  | .bad code x => e = .returned (errAt S code x) ∧ badP w q S r w'
theorem exp_suf {t x : Bs} (h : expP t = .ok () x) : x <:+ t := by
  obtain ⟨u, h1, _⟩ := exp_pre h
  exact ⟨u, h1.symm⟩
theorem frac_suf {t x : Bs} (h : fracP t = .ok () x) : x <:+ t := by
  obtain ⟨u, h1, _⟩ := frac_pre h
  exact ⟨u, h1.symm⟩
theorem dig_suf {t x : Bs} (h : digP t = .ok () x) : x <:+ t := by
  obtain ⟨u, h1, _⟩ := dig_pre h
  exact ⟨u, h1.symm⟩
/-- The end of Go's 'number', from the exponent on, as the walk meets it: what is left to do at each way. -/
def minus (r : Bs) : Bs := if hd r = 45 then r.tail else r
theorem numP_minus (r : Bs) : numP r = intP (minus r) := by
  unfold numP minus
  split <;> rfl
theorem takeR_minus (r : Bs) : takeR r 45 = minus r := rfl
theorem hd_case {r : Bs} (c : UInt8) : (takeB r c = true ∧ takeR r c = r.tail ∧ hd r = c) ∨ (takeB r c = false ∧ takeR r c = r ∧ ¬ hd r = c) := by
  by_cases h : hd r = c
  · exact .inl ⟨(take_yes h).1, (take_yes h).2, h⟩
  · exact .inr ⟨(take_no h).1, (take_no h).2, h⟩

theorem saysU_ok {w w' : World} {q : Nat} {S r x : Bs} {lev : Nat} {R : Res Unit} (hR : R = .ok () x) (h : okP w q S x lev w') : saysU w q S r lev R (.returned .nilIface) w' := by
  rw [hR]; exact ⟨rfl, h⟩
theorem saysU_bad {w w' : World} {q : Nat} {S r x : Bs} {lev code : Nat} {R : Res Unit} (hR : R = .bad code x) (h : badP w q S r w') : saysU w q S r lev R (.returned (errAt S code x)) w' := by
  rw [hR]; exact ⟨rfl, h⟩
set_option maxHeartbeats 2000000 in
set_option maxRecDepth 100000 in
theorem number_any {w : World} {q : Nat} {S r : Bs} {lev : Nat} (hS : okT S) (h : RdAt w q S r lev) :
    Calls Tryz.prog 137 #[.pointer (some ⟨q, 0, none⟩)] w fun e w' => saysU w q S r lev (numP r) e w' := by
  have HN := Lib.hid (numP_minus r)
  have T1 := fun w (h : RdAt w q S r lev) => take_any h hS 45 45 rfl (by decide)
  rw [takeR_minus] at T1
  have HS1 := Lib.hid (show minus r <:+ r by unfold minus; split; exact List.tail_suffix r; exact List.suffix_refl r)
  generalize minus r = r1 at T1 HN HS1
  go_enter Tryz.func137, Tryz.ntmps137
  have T2 := fun w (h : RdAt w q S r1 lev) => take_any h hS 48 48 rfl (by decide)
  go_upto_if 9 with (first
    | (go_at_call 138; ((with_reducible refine (T1 _ (by assumption)).mono ?_); rintro e w1 ⟨rfl, h1, c1⟩))
    | (go_at_call 138; ((with_reducible refine (T2 _ (by assumption)).mono ?_); rintro e w2 ⟨rfl, h2, c2⟩)))
  clear T1 T2 h
  have c3 := c1.two c2
  clear h1 c1 c2
  go_cut [2] from 3 (fun s2 wx => s2 = .nilIface ∧ ∃ r2, RdAt wx q S r2 lev ∧ Hid (r2 <:+ r) ∧ Hid (numP r = fracP r2) ∧ Chg (· = q) w wx)
  case first =>
    rcases hd_case (r := r1) 48 with ⟨e0, e1, e2⟩ | ⟨e0, e1, e2⟩
    · rw [e1] at h2
      generalize takeB r1 48 = b at e0 ⊢
      subst e0
      have HF := Lib.hid (show numP r = fracP r1.tail by rw [HN.out]; unfold intP; rw [if_pos e2])
      clear e1 e2
      go_wp2
      go_meet
      case rel => exact ⟨rfl, r1.tail, h2, Lib.hid ((List.tail_suffix r1).trans HS1.out), HF, c3⟩
    · rw [e1] at h2
      generalize takeB r1 48 = b at e0 ⊢
      subst e0
      cases hx : digP r1 with
      | bad code x =>
        have HF := Lib.hid (show numP r = .bad code x by rw [HN.out]; unfold intP; rw [if_neg e2, hx])
        have D := fun w (h : RdAt w q S r1 lev) => digits_bad hx h
        clear e1 e2 hx
        go_wp2_with (go_at_call 161; ((with_reducible refine (D _ (by assumption)).mono ?_); rintro e w3 ⟨rfl, h3⟩; unfold errAt errV))
        go_ret
        exact saysU_bad HF.out (h3.trans c3 HS1.out)
      | ok u x =>
        have HF := Lib.hid (show numP r = fracP x by rw [HN.out]; unfold intP; rw [if_neg e2, hx])
        have D := fun w (h : RdAt w q S r1 lev) => digits_ok hS hx h
        have HX := Lib.hid (dig_suf hx)
        clear e1 e2 hx
        go_wp2_with (go_at_call 161; ((with_reducible refine (D _ (by assumption)).mono ?_); rintro e w3 ⟨rfl, h3⟩))
        go_meet
        case rel => exact ⟨rfl, x, h3.1, Lib.hid (HX.out.trans HS1.out), HF, c3.two h3.2⟩
  case rest =>
    clear c3 h2 HN HS1 w2
    obtain ⟨rfl, r2, h2, HS2, HN, c3⟩ := hcut
    have T3 := fun w (h : RdAt w q S r2 lev) => take_any h hS 46 46 rfl (by decide)
    go_upto_if 16 with (go_at_call 138; ((with_reducible refine (T3 _ (by assumption)).mono ?_); rintro e w3 ⟨rfl, h3, c4⟩))
    clear T3 h2
    have c5 := c3.two c4
    clear c3 c4
    go_cut [2] from 3 (fun s2 wx => s2 = .nilIface ∧ ∃ r3, RdAt wx q S r3 lev ∧ Hid (r3 <:+ r) ∧ Hid (numP r = expP r3) ∧ Chg (· = q) w wx)
    case first =>
      rcases hd_case (r := r2) 46 with ⟨e0, e1, e2⟩ | ⟨e0, e1, e2⟩
      · rw [e1] at h3
        generalize takeB r2 46 = b at e0 ⊢
        subst e0
        cases hx : digP r2.tail with
        | bad code x =>
          have HF := Lib.hid (show numP r = .bad code x by rw [HN.out]; unfold fracP; rw [if_pos e2, hx])
          have D := fun w (h : RdAt w q S r2.tail lev) => digits_bad hx h
          clear e1 e2 hx
          go_wp2_with (go_at_call 161; ((with_reducible refine (D _ (by assumption)).mono ?_); rintro e w3 ⟨rfl, h3⟩; unfold errAt errV))
          go_ret
          exact saysU_bad HF.out (h3.trans c5 ((List.tail_suffix r2).trans HS2.out))
        | ok u x =>
          have HF := Lib.hid (show numP r = expP x by rw [HN.out]; unfold fracP; rw [if_pos e2, hx])
          have D := fun w (h : RdAt w q S r2.tail lev) => digits_ok hS hx h
          have HX := Lib.hid (dig_suf hx)
          clear e1 e2 hx
          go_wp2_with (go_at_call 161; ((with_reducible refine (D _ (by assumption)).mono ?_); rintro e w3 ⟨rfl, h3⟩))
          go_meet
          case rel => exact ⟨rfl, x, h3.1, Lib.hid ((HX.out.trans (List.tail_suffix r2)).trans HS2.out), HF, c5.two h3.2⟩
      · rw [e1] at h3
        generalize takeB r2 46 = b at e0 ⊢
        subst e0
        have HF := Lib.hid (show numP r = expP r2 by rw [HN.out]; unfold fracP; rw [if_neg e2])
        clear e1 e2
        go_wp2
        go_meet
        case rel => exact ⟨rfl, r2, h3, HS2, HF, c5⟩
    case rest =>
      clear c5 h3 HN HS2 w3
      obtain ⟨rfl, r3, h3, HS3, HN, c5⟩ := hcut
      by_cases he : hd r3 = 101 ∨ hd r3 = 69
      · -- an exponent
        have HX := Lib.hid (show numP r = if hd r3.tail = 43 ∨ hd r3.tail = 45 then digP r3.tail.tail else digP r3.tail by rw [HN.out]; unfold expP; rw [if_pos he])
        have hsuf : r3.tail <:+ r := (List.tail_suffix r3).trans HS3.out
        have HT := Lib.hid hsuf
        clear hsuf
        by_cases h1 : hd r3 = 101
        · have TE := take_T (q := q) (lev := lev) hS 101 101 rfl (by decide) h1
          rcases hd_case (r := r3.tail) 43 with ⟨_, _, s1⟩ | ⟨_, _, s1⟩
          · have TP := take_T (q := q) (lev := lev) hS 43 43 rfl (by decide) s1
            cases hx : digP r3.tail.tail with
            | bad code x =>
              have HF := Lib.hid (show numP r = .bad code x by rw [HX.out, if_pos (.inl s1), hx])
              have D := fun w (h : RdAt w q S (r3.tail.tail) lev) => digits_bad hx h
              clear hx s1 h1 he HX
              go_wp2_with (first
                | (go_at_call 138; ((with_reducible refine (TE _ (by assumption)).mono ?_); rintro e wTE ⟨rfl, hTE, cTE⟩))
                | (go_at_call 138; ((with_reducible refine (TP _ (by assumption)).mono ?_); rintro e wTP ⟨rfl, hTP, cTP⟩))
                | (go_at_call 161; ((with_reducible refine (D _ (by assumption)).mono ?_); rintro e wD ⟨rfl, hD⟩; unfold errAt errV)))
              go_ret
              exact saysU_bad HF.out (hD.trans ((c5.two cTE).two cTP) ((List.tail_suffix r3.tail).trans HT.out))
            | ok u x =>
              have HF := Lib.hid (show numP r = .ok () x by rw [HX.out, if_pos (.inl s1), hx])
              have D := fun w (h : RdAt w q S (r3.tail.tail) lev) => digits_ok hS hx h
              clear hx s1 h1 he HX
              go_wp2_with (first
                | (go_at_call 138; ((with_reducible refine (TE _ (by assumption)).mono ?_); rintro e wTE ⟨rfl, hTE, cTE⟩))
                | (go_at_call 138; ((with_reducible refine (TP _ (by assumption)).mono ?_); rintro e wTP ⟨rfl, hTP, cTP⟩))
                | (go_at_call 161; ((with_reducible refine (D _ (by assumption)).mono ?_); rintro e wD ⟨rfl, hD⟩)))
              go_ret
              exact saysU_ok HF.out ⟨hD.1, ((c5.two cTE).two cTP).two hD.2⟩
          · have TP := take_F (q := q) (lev := lev) hS 43 43 rfl (by decide) s1
            by_cases s2 : hd r3.tail = 45
            · have TM := take_T (q := q) (lev := lev) hS 45 45 rfl (by decide) s2
              cases hx : digP r3.tail.tail with
              | bad code x =>
                have HF := Lib.hid (show numP r = .bad code x by rw [HX.out, if_pos (.inr s2), hx])
                have D := fun w (h : RdAt w q S (r3.tail.tail) lev) => digits_bad hx h
                clear hx s1 h1 he s2 HX
                go_wp2_with (first
                  | (go_at_call 138; ((with_reducible refine (TE _ (by assumption)).mono ?_); rintro e wTE ⟨rfl, hTE, cTE⟩))
                  | (go_at_call 138; ((with_reducible refine (TP _ (by assumption)).mono ?_); rintro e wTP ⟨rfl, hTP, cTP⟩))
                  | (go_at_call 138; ((with_reducible refine (TM _ (by assumption)).mono ?_); rintro e wTM ⟨rfl, hTM, cTM⟩))
                  | (go_at_call 161; ((with_reducible refine (D _ (by assumption)).mono ?_); rintro e wD ⟨rfl, hD⟩; unfold errAt errV)))
                go_ret
                exact saysU_bad HF.out (hD.trans (((c5.two cTE).two cTP).two cTM) ((List.tail_suffix r3.tail).trans HT.out))
              | ok u x =>
                have HF := Lib.hid (show numP r = .ok () x by rw [HX.out, if_pos (.inr s2), hx])
                have D := fun w (h : RdAt w q S (r3.tail.tail) lev) => digits_ok hS hx h
                clear hx s1 h1 he s2 HX
                go_wp2_with (first
                  | (go_at_call 138; ((with_reducible refine (TE _ (by assumption)).mono ?_); rintro e wTE ⟨rfl, hTE, cTE⟩))
                  | (go_at_call 138; ((with_reducible refine (TP _ (by assumption)).mono ?_); rintro e wTP ⟨rfl, hTP, cTP⟩))
                  | (go_at_call 138; ((with_reducible refine (TM _ (by assumption)).mono ?_); rintro e wTM ⟨rfl, hTM, cTM⟩))
                  | (go_at_call 161; ((with_reducible refine (D _ (by assumption)).mono ?_); rintro e wD ⟨rfl, hD⟩)))
                go_ret
                exact saysU_ok HF.out ⟨hD.1, (((c5.two cTE).two cTP).two cTM).two hD.2⟩
            · have TM := take_F (q := q) (lev := lev) hS 45 45 rfl (by decide) s2
              cases hx : digP r3.tail with
              | bad code x =>
                have HF := Lib.hid (show numP r = .bad code x by rw [HX.out, if_neg (fun h => h.elim s1 s2), hx])
                have D := fun w (h : RdAt w q S (r3.tail) lev) => digits_bad hx h
                clear hx s1 h1 he s2 HX
                go_wp2_with (first
                  | (go_at_call 138; ((with_reducible refine (TE _ (by assumption)).mono ?_); rintro e wTE ⟨rfl, hTE, cTE⟩))
                  | (go_at_call 138; ((with_reducible refine (TP _ (by assumption)).mono ?_); rintro e wTP ⟨rfl, hTP, cTP⟩))
                  | (go_at_call 138; ((with_reducible refine (TM _ (by assumption)).mono ?_); rintro e wTM ⟨rfl, hTM, cTM⟩))
                  | (go_at_call 161; ((with_reducible refine (D _ (by assumption)).mono ?_); rintro e wD ⟨rfl, hD⟩; unfold errAt errV)))
                go_ret
                exact saysU_bad HF.out (hD.trans (((c5.two cTE).two cTP).two cTM) (HT.out))
              | ok u x =>
                have HF := Lib.hid (show numP r = .ok () x by rw [HX.out, if_neg (fun h => h.elim s1 s2), hx])
                have D := fun w (h : RdAt w q S (r3.tail) lev) => digits_ok hS hx h
                clear hx s1 h1 he s2 HX
                go_wp2_with (first
                  | (go_at_call 138; ((with_reducible refine (TE _ (by assumption)).mono ?_); rintro e wTE ⟨rfl, hTE, cTE⟩))
                  | (go_at_call 138; ((with_reducible refine (TP _ (by assumption)).mono ?_); rintro e wTP ⟨rfl, hTP, cTP⟩))
                  | (go_at_call 138; ((with_reducible refine (TM _ (by assumption)).mono ?_); rintro e wTM ⟨rfl, hTM, cTM⟩))
                  | (go_at_call 161; ((with_reducible refine (D _ (by assumption)).mono ?_); rintro e wD ⟨rfl, hD⟩)))
                go_ret
                exact saysU_ok HF.out ⟨hD.1, (((c5.two cTE).two cTP).two cTM).two hD.2⟩
        · have TE := take_F (q := q) (lev := lev) hS 101 101 rfl (by decide) h1
          have TG := take_T (q := q) (lev := lev) hS 69 69 rfl (by decide) (he.resolve_left h1)
          rcases hd_case (r := r3.tail) 43 with ⟨_, _, s1⟩ | ⟨_, _, s1⟩
          · have TP := take_T (q := q) (lev := lev) hS 43 43 rfl (by decide) s1
            cases hx : digP r3.tail.tail with
            | bad code x =>
              have HF := Lib.hid (show numP r = .bad code x by rw [HX.out, if_pos (.inl s1), hx])
              have D := fun w (h : RdAt w q S (r3.tail.tail) lev) => digits_bad hx h
              clear hx s1 h1 he HX
              go_wp2_with (first
                | (go_at_call 138; ((with_reducible refine (TE _ (by assumption)).mono ?_); rintro e wTE ⟨rfl, hTE, cTE⟩))
                | (go_at_call 138; ((with_reducible refine (TG _ (by assumption)).mono ?_); rintro e wTG ⟨rfl, hTG, cTG⟩))
                | (go_at_call 138; ((with_reducible refine (TP _ (by assumption)).mono ?_); rintro e wTP ⟨rfl, hTP, cTP⟩))
                | (go_at_call 161; ((with_reducible refine (D _ (by assumption)).mono ?_); rintro e wD ⟨rfl, hD⟩; unfold errAt errV)))
              go_ret
              exact saysU_bad HF.out (hD.trans (((c5.two cTE).two cTG).two cTP) ((List.tail_suffix r3.tail).trans HT.out))
            | ok u x =>
              have HF := Lib.hid (show numP r = .ok () x by rw [HX.out, if_pos (.inl s1), hx])
              have D := fun w (h : RdAt w q S (r3.tail.tail) lev) => digits_ok hS hx h
              clear hx s1 h1 he HX
              go_wp2_with (first
                | (go_at_call 138; ((with_reducible refine (TE _ (by assumption)).mono ?_); rintro e wTE ⟨rfl, hTE, cTE⟩))
                | (go_at_call 138; ((with_reducible refine (TG _ (by assumption)).mono ?_); rintro e wTG ⟨rfl, hTG, cTG⟩))
                | (go_at_call 138; ((with_reducible refine (TP _ (by assumption)).mono ?_); rintro e wTP ⟨rfl, hTP, cTP⟩))
                | (go_at_call 161; ((with_reducible refine (D _ (by assumption)).mono ?_); rintro e wD ⟨rfl, hD⟩)))
              go_ret
              exact saysU_ok HF.out ⟨hD.1, (((c5.two cTE).two cTG).two cTP).two hD.2⟩
          · have TP := take_F (q := q) (lev := lev) hS 43 43 rfl (by decide) s1
            by_cases s2 : hd r3.tail = 45
            · have TM := take_T (q := q) (lev := lev) hS 45 45 rfl (by decide) s2
              cases hx : digP r3.tail.tail with
              | bad code x =>
                have HF := Lib.hid (show numP r = .bad code x by rw [HX.out, if_pos (.inr s2), hx])
                have D := fun w (h : RdAt w q S (r3.tail.tail) lev) => digits_bad hx h
                clear hx s1 h1 he s2 HX
                go_wp2_with (first
                  | (go_at_call 138; ((with_reducible refine (TE _ (by assumption)).mono ?_); rintro e wTE ⟨rfl, hTE, cTE⟩))
                  | (go_at_call 138; ((with_reducible refine (TG _ (by assumption)).mono ?_); rintro e wTG ⟨rfl, hTG, cTG⟩))
                  | (go_at_call 138; ((with_reducible refine (TP _ (by assumption)).mono ?_); rintro e wTP ⟨rfl, hTP, cTP⟩))
                  | (go_at_call 138; ((with_reducible refine (TM _ (by assumption)).mono ?_); rintro e wTM ⟨rfl, hTM, cTM⟩))
                  | (go_at_call 161; ((with_reducible refine (D _ (by assumption)).mono ?_); rintro e wD ⟨rfl, hD⟩; unfold errAt errV)))
                go_ret
                exact saysU_bad HF.out (hD.trans ((((c5.two cTE).two cTG).two cTP).two cTM) ((List.tail_suffix r3.tail).trans HT.out))
              | ok u x =>
                have HF := Lib.hid (show numP r = .ok () x by rw [HX.out, if_pos (.inr s2), hx])
                have D := fun w (h : RdAt w q S (r3.tail.tail) lev) => digits_ok hS hx h
                clear hx s1 h1 he s2 HX
                go_wp2_with (first
                  | (go_at_call 138; ((with_reducible refine (TE _ (by assumption)).mono ?_); rintro e wTE ⟨rfl, hTE, cTE⟩))
                  | (go_at_call 138; ((with_reducible refine (TG _ (by assumption)).mono ?_); rintro e wTG ⟨rfl, hTG, cTG⟩))
                  | (go_at_call 138; ((with_reducible refine (TP _ (by assumption)).mono ?_); rintro e wTP ⟨rfl, hTP, cTP⟩))
                  | (go_at_call 138; ((with_reducible refine (TM _ (by assumption)).mono ?_); rintro e wTM ⟨rfl, hTM, cTM⟩))
                  | (go_at_call 161; ((with_reducible refine (D _ (by assumption)).mono ?_); rintro e wD ⟨rfl, hD⟩)))
                go_ret
                exact saysU_ok HF.out ⟨hD.1, ((((c5.two cTE).two cTG).two cTP).two cTM).two hD.2⟩
            · have TM := take_F (q := q) (lev := lev) hS 45 45 rfl (by decide) s2
              cases hx : digP r3.tail with
              | bad code x =>
                have HF := Lib.hid (show numP r = .bad code x by rw [HX.out, if_neg (fun h => h.elim s1 s2), hx])
                have D := fun w (h : RdAt w q S (r3.tail) lev) => digits_bad hx h
                clear hx s1 h1 he s2 HX
                go_wp2_with (first
                  | (go_at_call 138; ((with_reducible refine (TE _ (by assumption)).mono ?_); rintro e wTE ⟨rfl, hTE, cTE⟩))
                  | (go_at_call 138; ((with_reducible refine (TG _ (by assumption)).mono ?_); rintro e wTG ⟨rfl, hTG, cTG⟩))
                  | (go_at_call 138; ((with_reducible refine (TP _ (by assumption)).mono ?_); rintro e wTP ⟨rfl, hTP, cTP⟩))
                  | (go_at_call 138; ((with_reducible refine (TM _ (by assumption)).mono ?_); rintro e wTM ⟨rfl, hTM, cTM⟩))
                  | (go_at_call 161; ((with_reducible refine (D _ (by assumption)).mono ?_); rintro e wD ⟨rfl, hD⟩; unfold errAt errV)))
                go_ret
                exact saysU_bad HF.out (hD.trans ((((c5.two cTE).two cTG).two cTP).two cTM) (HT.out))
              | ok u x =>
                have HF := Lib.hid (show numP r = .ok () x by rw [HX.out, if_neg (fun h => h.elim s1 s2), hx])
                have D := fun w (h : RdAt w q S (r3.tail) lev) => digits_ok hS hx h
                clear hx s1 h1 he s2 HX
                go_wp2_with (first
                  | (go_at_call 138; ((with_reducible refine (TE _ (by assumption)).mono ?_); rintro e wTE ⟨rfl, hTE, cTE⟩))
                  | (go_at_call 138; ((with_reducible refine (TG _ (by assumption)).mono ?_); rintro e wTG ⟨rfl, hTG, cTG⟩))
                  | (go_at_call 138; ((with_reducible refine (TP _ (by assumption)).mono ?_); rintro e wTP ⟨rfl, hTP, cTP⟩))
                  | (go_at_call 138; ((with_reducible refine (TM _ (by assumption)).mono ?_); rintro e wTM ⟨rfl, hTM, cTM⟩))
                  | (go_at_call 161; ((with_reducible refine (D _ (by assumption)).mono ?_); rintro e wD ⟨rfl, hD⟩)))
                go_ret
                exact saysU_ok HF.out ⟨hD.1, ((((c5.two cTE).two cTG).two cTP).two cTM).two hD.2⟩
      · have T4 := take_F (q := q) (lev := lev) hS 101 101 rfl (by decide) (fun e => he (.inl e))
        have T5 := take_F (q := q) (lev := lev) hS 69 69 rfl (by decide) (fun e => he (.inr e))
        have HF := Lib.hid (show numP r = .ok () r3 by rw [HN.out]; unfold expP; rw [if_neg he])
        clear he
        go_wp2_with (first
          | (go_at_call 138; ((with_reducible refine (T4 _ (by assumption)).mono ?_); rintro e w4 ⟨rfl, h4, c6⟩))
          | (go_at_call 138; ((with_reducible refine (T5 _ (by assumption)).mono ?_); rintro e w5 ⟨rfl, h5, c7⟩)))
        go_ret
        exact saysU_ok HF.out ⟨h5, (c5.two c6).two c7⟩
end Go.Proofs.YtlknngplnimdpaaGreatDoor
