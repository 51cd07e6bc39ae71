/- Layer 11: parts of lists and objects. -/
import Derived.Test.YtlknngplnimdpaaGreatDoorJtN
namespace Go.Proofs.YtlknngplnimdpaaGreatDoor
open Go.RowKit

theorem Chg.cellq {q : Nat} {a w : World} (h : Chg (· = q) a w) (i : Nat) (v : Value) : Chg (· = q) a (w.setCell ⟨q, i, none⟩ v) := h.setCell _ _ (.inl rfl)
/-- What a part says: s: the blocks that may have changed; St: what is gathered, in memory. -/
def saysA {α : Type} (w : World) (q : Nat) (S r : Bs) (lev : Nat) (s : Nat → Prop) (St : α → World → Prop) (Wk : World → Prop) (R : Res α) (e : Ending) (w' : World) : Prop :=
  match R with
  | .ok a x => e = .returned .nilIface ∧ RdAt w' q S x lev ∧ St a w' ∧ Chg s w w' ∧ x <:+ r
  | .bad code x => e = .returned (errAt S code x) ∧ (∃ x lev, RdAt w' q S x lev ∧ x <:+ r) ∧ Chg s w w' ∧ Wk w'
theorem saysA_ok {α : Type} {w w' : World} {q : Nat} {S r x : Bs} {lev : Nat} {s : Nat → Prop} {St : α → World → Prop} {Wk : World → Prop} {R : Res α} {a : α} (hR : R = .ok a x) (h1 : RdAt w' q S x lev) (h2 : St a w') (h3 : Chg s w w') (h4 : x <:+ r) : saysA w q S r lev s St Wk R (.returned .nilIface) w' := by
  rw [hR]; exact ⟨rfl, h1, h2, h3, h4⟩
theorem saysA_bad {α : Type} {w w' : World} {q : Nat} {S r x : Bs} {lev code : Nat} {s : Nat → Prop} {St : α → World → Prop} {Wk : World → Prop} {R : Res α} (hR : R = .bad code x) (h1 : ∃ x lev, RdAt w' q S x lev ∧ x <:+ r) (h3 : Chg s w w') (h4 : Wk w') : saysA w q S r lev s St Wk R (.returned (errAt S code x)) w' := by
  rw [hR]; exact ⟨rfl, h1, h3, h4⟩
/-- A function that reads one part. -/
structure Part {α : Type} (q : Nat) (S : Bs) (lev : Nat) (s : Nat → Prop) (St : α → World → Prop) (Wk : World → Prop) (B : α → Bs → Prop) (fn : FuncId) (lb : Array Value) (step : α → Bs → Option (Res α)) : Prop where
  enter : ∀ args w1, (callFunc fn args).run Tryz.prog w1 = .ok (.enter fn args) w1
  weak : ∀ a w, St a w → Wk w
  kept : ∀ a w1 w2, St a w1 → Chg (· = q) w1 w2 → St a w2
  own : s q
  env : ∀ k, k < 10 → ¬ s k
  sub : ∀ a r x, x <:+ r → B a r → B a x
  go : ∀ a r a' x, B a r → step a r = some (.ok a' x) → B a' x
  call : ∀ a r R w1, Env w1 → RdAt w1 q S r lev → St a w1 → B a r → step a r = some R → Calls Tryz.prog fn lb w1 fun e w2 => saysA w1 q S r lev s St Wk R e w2
/-- Another level. -/
theorem RdAt.toLev {w : World} {q : Nat} {S r : Bs} {lev : Nat} (h : RdAt w q S r lev) {l2 : Nat} {x : Int} (hx : x = (l2 : Int)) : RdAt (w.setCell ⟨q, 2, none⟩ (.int .i64 x)) q S r l2 := by
  refine ⟨?_, h.suf⟩
  have := rowC_set h.row 2 (.int .i64 x)
  have e : (rdC (str S) (S.length - r.length) lev).setIfInBounds 2 (.int .i64 x) = rdC (str S) (S.length - r.length) l2 := by rw [hx]; rfl
  rw [e] at this
  exact this
theorem parts_deep {w : World} {q : Nat} {S l : Bs} {y : Int} {f : Value} (h : RdAt w q S l 16) :
    Calls Tryz.prog 157 #[.pointer (some ⟨q, 0, none⟩), .int .u8 y, f] w fun e w' => e = .returned (errAt S 11 l) ∧ w = w' := by
  obtain ⟨_, c1, c2⟩ := h.cell
  unfold errAt errV
  generalize S.length - l.length = k at c1 ⊢
  clear h
  go_enter Tryz.func157, Tryz.ntmps157
  go_wp2
  go_ret
  exact ⟨rfl, rfl⟩
set_option maxRecDepth 100000 in
set_option maxHeartbeats 4000000 in
theorem parts_any {α : Type} {w : World} {q : Nat} {S l : Bs} {lev N : Nat} {s : Nat → Prop} {St : α → World → Prop} {Wk : World → Prop} {B : α → Bs → Prop} {fn : FuncId} {lb : Array Value} {step : α → Bs → Option (Res α)} {e : UInt8} {a : α} {R : Res α}
    (hS : okS S) (hE : Env w) (hq : 10 ≤ q) (h : RdAt w q S l lev) (hlev : lev < 16) (hne : l ≠ []) (he : e = 93 ∨ e = 125) (y : Int) (hy : y = (e.toNat : Int)) (P : Part q S (lev + 1) s St Wk B fn lb step) (hst : St a w) (hBd : B a l.tail) (hR : partsP e step N true a l.tail = some R) :
    Calls Tryz.prog 157 #[.pointer (some ⟨q, 0, none⟩), .int .u8 y, .func (.func fn) #[] lb] w fun e' w' => saysA w q S l lev s St Wk R e' w' := by
  subst hy
  have he0 : e ≠ 0 := by rcases he with rfl | rfl <;> decide
  have hEn := P.enter
  have hCall := P.call
  have HP := Lib.hid P
  obtain ⟨_, c1, c2⟩ := h.cell
  have f1 := h.free 1
  have f2 := h.free 2
  have hle := h.le
  have hlp := List.length_pos_iff.2 hne
  have hSS := hS
  unfold okS at hSS
  generalize hk : S.length - l.length = k at c1
  have hk2 : k ≤ 65536 := by omega
  have hlv : ¬ (lev : Int) = 16 := by omega
  have hlb : ((lev : Int) == 16) = false := by rw [beq_eq_false_iff_ne]; exact hlv
  have hm := (h.toLev (l2 := lev + 1) (x := (lev : Int) + 1) (by omega)).put (List.tail_suffix l) (x := (k : Int) + 1) (by rw [List.length_tail]; omega)
  have hcm : Chg (· = q) w ((w.setCell ⟨q, 2, none⟩ (.int .i64 ((lev : Int) + 1))).setCell ⟨q, 1, none⟩ (.int .i64 ((k : Int) + 1))) := ((Chg.refl _ w).cellq 2 _).cellq 1 _
  have HM := Lib.hid hm
  have HCM := Lib.hid hcm
  have HST := Lib.hid (P.kept a _ _ hst hcm)
  have HBD := Lib.hid hBd
  have HRR := Lib.hid hR
  have HE := Lib.hid hE
  have HS := Lib.hid hS
  have he0' := Lib.hid he0
  have hlv16 : lev ≤ 16 := by omega
  clear hm hcm hst hBd hR hE hS he hlp hle hSS hk P hlv he0 h
  go_enter Tryz.func157, Tryz.ntmps157
  go_wp2
  go_loopg [7, 8] N (fun k s7 s8 wr => ∃ first a r', s7 = .bool first ∧ RdAt wr q S r' (lev + 1) ∧ Hid (St a wr) ∧ Hid (partsP e step k first a r' = some R) ∧ Hid (r' <:+ l) ∧ Hid (Chg s w wr) ∧ Hid (B a r'))
  case atStart => exact ⟨true, a, l.tail, rfl, HM.out, HST, HRR, Lib.hid (List.tail_suffix l), Lib.hid (HCM.out.mono (fun k _ h => by rw [h]; exact HP.out.own)), HBD⟩
  case round =>
    clear HM HCM HST HRR HBD c1 c2 f1 f2
    obtain ⟨first, a', r', rfl, h', HSt, HPa, HSf, HC, HB'⟩ := hrel
    obtain ⟨m, hm⟩ : ∃ m, gk = m + 1 := by
      cases gk with
      | zero => exact absurd HPa.out (by intro e; cases e)
      | succ m => exact ⟨m, rfl⟩
    have HM := Lib.hid hm
    have hst : partsP e step (m + 1) first a' r' = some R := by rw [← hm]; exact HPa.out
    rw [partsP] at hst
    have hB := blanks_any h' HS.out.T
    have HBS := Lib.hid ((dropB_suf r').trans HSf.out)
    have HBd := Lib.hid (HP.out.sub a' r' _ (dropB_suf r') HB'.out)
    generalize dropB r' = d at hst hB HBS HBd
    clear hm
    by_cases h1 : hd d = e
    · rw [if_pos h1, Option.some.injEq] at hst
      have HQ := Lib.hid hst.symm
      have T1 := take_T (q := q) (lev := lev + 1) HS.out.T e _ rfl he0'.out h1
      clear hst h1 hCall
      go_wp2_with (first
        | (go_at_call 99; ((with_reducible refine hB.mono ?_); rintro e w1 ⟨rfl, h1, c1⟩))
        | (go_at_call 138; ((with_reducible refine (T1 _ h1).mono ?_); rintro e w2 ⟨rfl, h2, c2⟩; obtain ⟨_, _, d2⟩ := h2.cell; have f2 := h2.free 2)))
      go_ret
      have h3 := h2.toLev (l2 := lev) (x := (lev : Int) + 1 - 1) (by omega)
      have h3' : (lev : Int) + 1 - 1 = (lev : Int) := by omega
      rw [h3'] at h3
      have cc := (c1.two c2).cellq 2 (.int .i64 (lev : Int))
      exact saysA_ok HQ.out h3 (HP.out.kept a' _ _ HSt.out cc) (HC.out.trans cc (fun _ _ h => by rw [h]; exact HP.out.own)) ((List.tail_suffix d).trans HBS.out)
    · rw [if_neg h1] at hst
      have TE := take_F (q := q) (lev := lev + 1) HS.out.T e _ rfl he0'.out h1
      cases first with
      | true =>
        rw [if_pos rfl] at hst
        cases hs1 : step a' d with
        | none => rw [hs1] at hst; cases hst
        | some Q =>
          rw [hs1] at hst
          have C := fun w1 (hE1 : Env w1) (h1 : RdAt w1 q S d (lev + 1)) (hs2 : St a' w1) => hCall a' d Q w1 hE1 h1 hs2 HBd.out hs1
          cases Q with
          | bad code x =>
            have HQ := Lib.hid (show R = .bad code x from (Option.some.inj hst).symm)
            unfold saysA errAt errV at C
            clear hst hs1 hCall h1
            go_wp2_with (first
              | (go_at_call 99; ((with_reducible refine hB.mono ?_); rintro e w1 ⟨rfl, h1, c1⟩))
              | (go_at_call 138; ((with_reducible refine (TE _ h1).mono ?_); rintro e w2 ⟨rfl, h2, c2⟩; have cc := c1.two c2; have EE := (HE.out.chg HC.out HP.out.env).q cc hq; have hh := h2; have SS := HP.out.kept a' _ _ HSt.out cc))
              | ((with_reducible refine (C _ EE hh SS).mono ?_); rintro e w3 ⟨rfl, h3, c3, k3⟩))
            go_ret
            obtain ⟨y', ly, hy1, hy2⟩ := h3
            exact saysA_bad HQ.out ⟨y', ly, hy1, hy2.trans HBS.out⟩ ((HC.out.trans cc (fun _ _ h => by rw [h]; exact HP.out.own)).trans c3 (fun _ _ h => h)) k3
          | ok a2 x =>
            have HQ := Lib.hid (show partsP e step m false a2 x = some R from hst)
            have HB2 := Lib.hid (HP.out.go a' d a2 x HBd.out hs1)
            unfold saysA at C
            clear hst hs1 hCall h1
            go_wp2_with (first
              | (go_at_call 99; ((with_reducible refine hB.mono ?_); rintro e w1 ⟨rfl, h1, c1⟩))
              | (go_at_call 138; ((with_reducible refine (TE _ h1).mono ?_); rintro e w2 ⟨rfl, h2, c2⟩; have cc := c1.two c2; have EE := (HE.out.chg HC.out HP.out.env).q cc hq; have hh := h2; have SS := HP.out.kept a' _ _ HSt.out cc))
              | ((with_reducible refine (C _ EE hh SS).mono ?_); rintro e w3 ⟨rfl, h3, t3, c3, x3⟩))
            go_roundg m
            case measure => rw [HM.out]; omega
            case rel => exact ⟨false, a2, x, rfl, h3, Lib.hid t3, HQ, Lib.hid (x3.trans HBS.out), Lib.hid ((HC.out.trans cc (fun _ _ h => by rw [h]; exact HP.out.own)).trans c3 (fun _ _ h => h)), HB2⟩
      | false =>
        rw [if_neg (by decide)] at hst
        by_cases h44 : hd d = 44
        · rw [if_pos h44] at hst
          have TC := take_T (q := q) (lev := lev + 1) HS.out.T 44 44 rfl (by decide) h44
          cases hs1 : step a' d.tail with
          | none => rw [hs1] at hst; cases hst
          | some Q =>
            rw [hs1] at hst
            have C := fun w1 (hE1 : Env w1) (h1 : RdAt w1 q S d.tail (lev + 1)) (hs2 : St a' w1) => hCall a' d.tail Q w1 hE1 h1 hs2 (HP.out.sub a' d _ (List.tail_suffix d) HBd.out) hs1
            cases Q with
            | bad code x =>
              have HQ := Lib.hid (show R = .bad code x from (Option.some.inj hst).symm)
              unfold saysA errAt errV at C
              clear hst hs1 hCall h1 h44
              go_wp2_with (first
                | (go_at_call 99; ((with_reducible refine hB.mono ?_); rintro e w1 ⟨rfl, h1, c1⟩))
                | (go_at_call 138; ((with_reducible refine (TE _ h1).mono ?_); rintro e w2 ⟨rfl, h2, c2⟩))
                | (go_at_call 138; ((with_reducible refine (TC _ h2).mono ?_); rintro e w4 ⟨rfl, h4, c4⟩; have cc := (c1.two c2).two c4; have EE := (HE.out.chg HC.out HP.out.env).q cc hq; have hh := h4; have SS := HP.out.kept a' _ _ HSt.out cc))
                | ((with_reducible refine (C _ EE hh SS).mono ?_); rintro e w3 ⟨rfl, h3, c3, k3⟩))
              go_ret
              obtain ⟨y', ly, hy1, hy2⟩ := h3
              exact saysA_bad HQ.out ⟨y', ly, hy1, (hy2.trans (List.tail_suffix d)).trans HBS.out⟩ ((HC.out.trans cc (fun _ _ h => by rw [h]; exact HP.out.own)).trans c3 (fun _ _ h => h)) k3
            | ok a2 x =>
              have HQ := Lib.hid (show partsP e step m false a2 x = some R from hst)
              have HB2 := Lib.hid (HP.out.go a' d.tail a2 x (HP.out.sub a' d _ (List.tail_suffix d) HBd.out) hs1)
              unfold saysA at C
              clear hst hs1 hCall h1 h44
              go_wp2_with (first
                | (go_at_call 99; ((with_reducible refine hB.mono ?_); rintro e w1 ⟨rfl, h1, c1⟩))
                | (go_at_call 138; ((with_reducible refine (TE _ h1).mono ?_); rintro e w2 ⟨rfl, h2, c2⟩))
                | (go_at_call 138; ((with_reducible refine (TC _ h2).mono ?_); rintro e w4 ⟨rfl, h4, c4⟩; have cc := (c1.two c2).two c4; have EE := (HE.out.chg HC.out HP.out.env).q cc hq; have hh := h4; have SS := HP.out.kept a' _ _ HSt.out cc))
                | ((with_reducible refine (C _ EE hh SS).mono ?_); rintro e w3 ⟨rfl, h3, t3, c3, x3⟩))
              go_roundg m
              case measure => rw [HM.out]; omega
              case rel => exact ⟨false, a2, x, rfl, h3, Lib.hid t3, HQ, Lib.hid ((x3.trans (List.tail_suffix d)).trans HBS.out), Lib.hid ((HC.out.trans cc (fun _ _ h => by rw [h]; exact HP.out.own)).trans c3 (fun _ _ h => h)), HB2⟩
        · rw [if_neg h44, Option.some.injEq] at hst
          have HQ := Lib.hid hst.symm
          have TC := take_F (q := q) (lev := lev + 1) HS.out.T 44 44 rfl (by decide) h44
          generalize hg : S.length - d.length = g0
          have HG := Lib.hid hg
          clear hst hCall h1 h44 hg
          go_wp2_with (first
            | (go_at_call 99; ((with_reducible refine hB.mono ?_); rintro e w1 ⟨rfl, h1, c1⟩))
            | (go_at_call 138; ((with_reducible refine (TE _ h1).mono ?_); rintro e w2 ⟨rfl, h2, c2⟩))
            | (go_at_call 138; ((with_reducible refine (TC _ h2).mono ?_); rintro e w4 ⟨rfl, h4, c4⟩; obtain ⟨_, d4, _⟩ := h4.cell; rw [HG.out] at d4))
            | (go_at_call 100; ((with_reducible refine (unfit_any g0 _ rfl _).mono ?_); rintro e w6 ⟨rfl, rfl⟩; unfold errV)))
          go_ret
          have := saysA_bad (w := w) (w' := w4) (q := q) (S := S) (r := l) (lev := lev) (s := s) (St := St) (Wk := Wk) HQ.out ⟨d, lev + 1, h4, HBS.out⟩ (HC.out.trans ((c1.two c2).two c4) (fun _ _ h => by rw [h]; exact HP.out.own)) (HP.out.weak a' _ (HP.out.kept a' _ _ HSt.out ((c1.two c2).two c4)))
          unfold errAt at this
          rw [HG.out] at this
          exact this
end Go.Proofs.YtlknngplnimdpaaGreatDoor
