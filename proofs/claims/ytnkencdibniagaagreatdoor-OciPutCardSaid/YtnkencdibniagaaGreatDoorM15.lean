/- Merged: JtO, JtP, JtQ. -/
import Derived.Test.YtnkencdibniagaaGreatDoorM14
import Derived.Deep.DrawnRows
/- Layer 11: parts of lists and objects. -/
namespace Go.Proofs.YtnkencdibniagaaGreatDoor
open Go.RowKit

theorem Chg.cellq {q : Nat} {a w : World} (h : Chg (· = q) a w) (i : Nat) (v : Value) : Chg (· = q) a (w.setCell ⟨q, i, none⟩ v) := h.setCell _ _ (.inl rfl)
/-- What a part says: s: the blocks that may have changed; St: what is gathered, in memory. -/
def saysA {α : Type} (w : World) (q : Nat) (S r : Bs) (lev : Nat) (s : Nat → Prop) (St : α → World → Prop) (Wk : World → Prop) (R : Res α) (e : Ending) (w' : World) : Prop :=
  match R with
  | .ok a x => e = .returned .nilIface ∧ RdAt w' q S x lev ∧ St a w' ∧ Chg s w w' ∧ x <:+ r
  | .bad code x => e = .returned (errAt S code x) ∧ (∃ x lev, RdAt w' q S x lev ∧ x <:+ r) ∧ Chg s w w' ∧ Wk w'
theorem saysA_ok {α : Type} {w w' : World} {q : Nat} {S r x : Bs} {lev : Nat} {s : Nat → Prop} {St : α → World → Prop} {Wk : World → Prop} {R : Res α} {a : α} (hR : R = .ok a x) (h1 : RdAt w' q S x lev) (h2 : St a w') (h3 : Chg s w w') (h4 : x <:+ r) : saysA w q S r lev s St Wk R (.returned .nilIface) w' := by
  rw [hR]; exact ⟨rfl, h1, h2, h3, h4⟩
theorem saysA_bad {α : Type} {w w' : World} {q : Nat} {S r x : Bs} {lev code : Nat} {s : Nat → Prop} {St : α → World → Prop} {Wk : World → Prop} {R : Res α} (hR : R = .bad code x) (h1 : ∃ x lev, RdAt w' q S x lev ∧ x <:+ r) (h3 : Chg s w w') (h4 : Wk w') : saysA w q S r lev s St Wk R (.returned (errAt S code x)) w' := by
  rw [hR]; exact ⟨rfl, h1, h3, h4⟩
/-- A function that reads one part. -/
structure Part {α : Type} (q : Nat) (S : Bs) (lev : Nat) (s : Nat → Prop) (St : α → World → Prop) (Wk : World → Prop) (B : α → Bs → Prop) (fn : FuncId) (lb : Array Value) (step : α → Bs → Option (Res α)) : Prop where
  enter : ∀ args w1, (callFunc fn args).run Tryz.prog w1 = .ok (.enter fn args) w1
  weak : ∀ a w, St a w → Wk w
  kept : ∀ a w1 w2, St a w1 → Chg (· = q) w1 w2 → St a w2
  own : s q
  env : ∀ k, k < 10 → ¬ s k
  sub : ∀ a r x, x <:+ r → B a r → B a x
  go : ∀ a r a' x, B a r → step a r = some (.ok a' x) → B a' x
  call : ∀ a r R w1, Env w1 → RdAt w1 q S r lev → St a w1 → B a r → step a r = some R → Calls Tryz.prog fn lb w1 fun e w2 => saysA w1 q S r lev s St Wk R e w2
/-- Another level. -/
theorem RdAt.toLev {w : World} {q : Nat} {S r : Bs} {lev : Nat} (h : RdAt w q S r lev) {l2 : Nat} {x : Int} (hx : x = (l2 : Int)) : RdAt (w.setCell ⟨q, 2, none⟩ (.int .i64 x)) q S r l2 := by
  refine ⟨?_, h.suf⟩
  have := rowC_set h.row 2 (.int .i64 x)
  have e : (rdC (str S) (S.length - r.length) lev).setIfInBounds 2 (.int .i64 x) = rdC (str S) (S.length - r.length) l2 := by rw [hx]; rfl
  rw [e] at this
  exact this
theorem parts_deep {w : World} {q : Nat} {S l : Bs} {y : Int} {f : Value} (h : RdAt w q S l 16) :
    Calls Tryz.prog 157 #[.pointer (some ⟨q, 0, none⟩), .int .u8 y, f] w fun e w' => e = .returned (errAt S 11 l) ∧ w = w' := by
  obtain ⟨_, c1, c2⟩ := h.cell
  unfold errAt errV
  generalize S.length - l.length = k at c1 ⊢
  clear h
  go_enter Tryz.func157, Tryz.ntmps157
  go_wp2
  go_ret
  exact ⟨rfl, rfl⟩
set_option maxRecDepth 100000 in
set_option maxHeartbeats 4000000 in
theorem parts_any {α : Type} {w : World} {q : Nat} {S l : Bs} {lev N : Nat} {s : Nat → Prop} {St : α → World → Prop} {Wk : World → Prop} {B : α → Bs → Prop} {fn : FuncId} {lb : Array Value} {step : α → Bs → Option (Res α)} {e : UInt8} {a : α} {R : Res α}
    (hS : okS S) (hE : Env w) (hq : 10 ≤ q) (h : RdAt w q S l lev) (hlev : lev < 16) (hne : l ≠ []) (he : e = 93 ∨ e = 125) (y : Int) (hy : y = (e.toNat : Int)) (P : Part q S (lev + 1) s St Wk B fn lb step) (hst : St a w) (hBd : B a l.tail) (hR : partsP e step N true a l.tail = some R) :
    Calls Tryz.prog 157 #[.pointer (some ⟨q, 0, none⟩), .int .u8 y, .func (.func fn) #[] lb] w fun e' w' => saysA w q S l lev s St Wk R e' w' := by
  subst hy
  have he0 : e ≠ 0 := by rcases he with rfl | rfl <;> decide
  have hEn := P.enter
  have hCall := P.call
  have HP := Lib.hid P
  obtain ⟨_, c1, c2⟩ := h.cell
  have f1 := h.free 1
  have f2 := h.free 2
  have hle := h.le
  have hlp := List.length_pos_iff.2 hne
  have hSS := hS
  unfold okS at hSS
  generalize hk : S.length - l.length = k at c1
  have hk2 : k ≤ 65536 := by omega
  have hlv : ¬ (lev : Int) = 16 := by omega
  have hlb : ((lev : Int) == 16) = false := by rw [beq_eq_false_iff_ne]; exact hlv
  have hm := (h.toLev (l2 := lev + 1) (x := (lev : Int) + 1) (by omega)).put (List.tail_suffix l) (x := (k : Int) + 1) (by rw [List.length_tail]; omega)
  have hcm : Chg (· = q) w ((w.setCell ⟨q, 2, none⟩ (.int .i64 ((lev : Int) + 1))).setCell ⟨q, 1, none⟩ (.int .i64 ((k : Int) + 1))) := ((Chg.refl _ w).cellq 2 _).cellq 1 _
  have HM := Lib.hid hm
  have HCM := Lib.hid hcm
  have HST := Lib.hid (P.kept a _ _ hst hcm)
  have HBD := Lib.hid hBd
  have HRR := Lib.hid hR
  have HE := Lib.hid hE
  have HS := Lib.hid hS
  have he0' := Lib.hid he0
  have hlv16 : lev ≤ 16 := by omega
  clear hm hcm hst hBd hR hE hS he hlp hle hSS hk P hlv he0 h
  go_enter Tryz.func157, Tryz.ntmps157
  go_wp2
  go_loopg [7, 8] N (fun k s7 s8 wr => ∃ first a r', s7 = .bool first ∧ RdAt wr q S r' (lev + 1) ∧ Hid (St a wr) ∧ Hid (partsP e step k first a r' = some R) ∧ Hid (r' <:+ l) ∧ Hid (Chg s w wr) ∧ Hid (B a r'))
  case atStart => exact ⟨true, a, l.tail, rfl, HM.out, HST, HRR, Lib.hid (List.tail_suffix l), Lib.hid (HCM.out.mono (fun k _ h => by rw [h]; exact HP.out.own)), HBD⟩
  case round =>
    clear HM HCM HST HRR HBD c1 c2 f1 f2
    obtain ⟨first, a', r', rfl, h', HSt, HPa, HSf, HC, HB'⟩ := hrel
    obtain ⟨m, hm⟩ : ∃ m, gk = m + 1 := by
      cases gk with
      | zero => exact absurd HPa.out (by intro e; cases e)
      | succ m => exact ⟨m, rfl⟩
    have HM := Lib.hid hm
    have hst : partsP e step (m + 1) first a' r' = some R := by rw [← hm]; exact HPa.out
    rw [partsP] at hst
    have hB := blanks_any h' HS.out.T
    have HBS := Lib.hid ((dropB_suf r').trans HSf.out)
    have HBd := Lib.hid (HP.out.sub a' r' _ (dropB_suf r') HB'.out)
    generalize dropB r' = d at hst hB HBS HBd
    clear hm
    by_cases h1 : hd d = e
    · rw [if_pos h1, Option.some.injEq] at hst
      have HQ := Lib.hid hst.symm
      have T1 := take_T (q := q) (lev := lev + 1) HS.out.T e _ rfl he0'.out h1
      clear hst h1 hCall
      go_wp2_with (first
        | (go_at_call 99; ((with_reducible refine hB.mono ?_); rintro e w1 ⟨rfl, h1, c1⟩))
        | (go_at_call 138; ((with_reducible refine (T1 _ h1).mono ?_); rintro e w2 ⟨rfl, h2, c2⟩; obtain ⟨_, _, d2⟩ := h2.cell; have f2 := h2.free 2)))
      go_ret
      have h3 := h2.toLev (l2 := lev) (x := (lev : Int) + 1 - 1) (by omega)
      have h3' : (lev : Int) + 1 - 1 = (lev : Int) := by omega
      rw [h3'] at h3
      have cc := (c1.two c2).cellq 2 (.int .i64 (lev : Int))
      exact saysA_ok HQ.out h3 (HP.out.kept a' _ _ HSt.out cc) (HC.out.trans cc (fun _ _ h => by rw [h]; exact HP.out.own)) ((List.tail_suffix d).trans HBS.out)
    · rw [if_neg h1] at hst
      have TE := take_F (q := q) (lev := lev + 1) HS.out.T e _ rfl he0'.out h1
      cases first with
      | true =>
        rw [if_pos rfl] at hst
        cases hs1 : step a' d with
        | none => rw [hs1] at hst; cases hst
        | some Q =>
          rw [hs1] at hst
          have C := fun w1 (hE1 : Env w1) (h1 : RdAt w1 q S d (lev + 1)) (hs2 : St a' w1) => hCall a' d Q w1 hE1 h1 hs2 HBd.out hs1
          cases Q with
          | bad code x =>
            have HQ := Lib.hid (show R = .bad code x from (Option.some.inj hst).symm)
            unfold saysA errAt errV at C
            clear hst hs1 hCall h1
            go_wp2_with (first
              | (go_at_call 99; ((with_reducible refine hB.mono ?_); rintro e w1 ⟨rfl, h1, c1⟩))
              | (go_at_call 138; ((with_reducible refine (TE _ h1).mono ?_); rintro e w2 ⟨rfl, h2, c2⟩; have cc := c1.two c2; have EE := (HE.out.chg HC.out HP.out.env).q cc hq; have hh := h2; have SS := HP.out.kept a' _ _ HSt.out cc))
              | ((with_reducible refine (C _ EE hh SS).mono ?_); rintro e w3 ⟨rfl, h3, c3, k3⟩))
            go_ret
            obtain ⟨y', ly, hy1, hy2⟩ := h3
            exact saysA_bad HQ.out ⟨y', ly, hy1, hy2.trans HBS.out⟩ ((HC.out.trans cc (fun _ _ h => by rw [h]; exact HP.out.own)).trans c3 (fun _ _ h => h)) k3
          | ok a2 x =>
            have HQ := Lib.hid (show partsP e step m false a2 x = some R from hst)
            have HB2 := Lib.hid (HP.out.go a' d a2 x HBd.out hs1)
            unfold saysA at C
            clear hst hs1 hCall h1
            go_wp2_with (first
              | (go_at_call 99; ((with_reducible refine hB.mono ?_); rintro e w1 ⟨rfl, h1, c1⟩))
              | (go_at_call 138; ((with_reducible refine (TE _ h1).mono ?_); rintro e w2 ⟨rfl, h2, c2⟩; have cc := c1.two c2; have EE := (HE.out.chg HC.out HP.out.env).q cc hq; have hh := h2; have SS := HP.out.kept a' _ _ HSt.out cc))
              | ((with_reducible refine (C _ EE hh SS).mono ?_); rintro e w3 ⟨rfl, h3, t3, c3, x3⟩))
            go_roundg m
            case measure => rw [HM.out]; omega
            case rel => exact ⟨false, a2, x, rfl, h3, Lib.hid t3, HQ, Lib.hid (x3.trans HBS.out), Lib.hid ((HC.out.trans cc (fun _ _ h => by rw [h]; exact HP.out.own)).trans c3 (fun _ _ h => h)), HB2⟩
      | false =>
        rw [if_neg (by decide)] at hst
        by_cases h44 : hd d = 44
        · rw [if_pos h44] at hst
          have TC := take_T (q := q) (lev := lev + 1) HS.out.T 44 44 rfl (by decide) h44
          cases hs1 : step a' d.tail with
          | none => rw [hs1] at hst; cases hst
          | some Q =>
            rw [hs1] at hst
            have C := fun w1 (hE1 : Env w1) (h1 : RdAt w1 q S d.tail (lev + 1)) (hs2 : St a' w1) => hCall a' d.tail Q w1 hE1 h1 hs2 (HP.out.sub a' d _ (List.tail_suffix d) HBd.out) hs1
            cases Q with
            | bad code x =>
              have HQ := Lib.hid (show R = .bad code x from (Option.some.inj hst).symm)
              unfold saysA errAt errV at C
              clear hst hs1 hCall h1 h44
              go_wp2_with (first
                | (go_at_call 99; ((with_reducible refine hB.mono ?_); rintro e w1 ⟨rfl, h1, c1⟩))
                | (go_at_call 138; ((with_reducible refine (TE _ h1).mono ?_); rintro e w2 ⟨rfl, h2, c2⟩))
                | (go_at_call 138; ((with_reducible refine (TC _ h2).mono ?_); rintro e w4 ⟨rfl, h4, c4⟩; have cc := (c1.two c2).two c4; have EE := (HE.out.chg HC.out HP.out.env).q cc hq; have hh := h4; have SS := HP.out.kept a' _ _ HSt.out cc))
                | ((with_reducible refine (C _ EE hh SS).mono ?_); rintro e w3 ⟨rfl, h3, c3, k3⟩))
              go_ret
              obtain ⟨y', ly, hy1, hy2⟩ := h3
              exact saysA_bad HQ.out ⟨y', ly, hy1, (hy2.trans (List.tail_suffix d)).trans HBS.out⟩ ((HC.out.trans cc (fun _ _ h => by rw [h]; exact HP.out.own)).trans c3 (fun _ _ h => h)) k3
            | ok a2 x =>
              have HQ := Lib.hid (show partsP e step m false a2 x = some R from hst)
              have HB2 := Lib.hid (HP.out.go a' d.tail a2 x (HP.out.sub a' d _ (List.tail_suffix d) HBd.out) hs1)
              unfold saysA at C
              clear hst hs1 hCall h1 h44
              go_wp2_with (first
                | (go_at_call 99; ((with_reducible refine hB.mono ?_); rintro e w1 ⟨rfl, h1, c1⟩))
                | (go_at_call 138; ((with_reducible refine (TE _ h1).mono ?_); rintro e w2 ⟨rfl, h2, c2⟩))
                | (go_at_call 138; ((with_reducible refine (TC _ h2).mono ?_); rintro e w4 ⟨rfl, h4, c4⟩; have cc := (c1.two c2).two c4; have EE := (HE.out.chg HC.out HP.out.env).q cc hq; have hh := h4; have SS := HP.out.kept a' _ _ HSt.out cc))
                | ((with_reducible refine (C _ EE hh SS).mono ?_); rintro e w3 ⟨rfl, h3, t3, c3, x3⟩))
              go_roundg m
              case measure => rw [HM.out]; omega
              case rel => exact ⟨false, a2, x, rfl, h3, Lib.hid t3, HQ, Lib.hid ((x3.trans (List.tail_suffix d)).trans HBS.out), Lib.hid ((HC.out.trans cc (fun _ _ h => by rw [h]; exact HP.out.own)).trans c3 (fun _ _ h => h)), HB2⟩
        · rw [if_neg h44, Option.some.injEq] at hst
          have HQ := Lib.hid hst.symm
          have TC := take_F (q := q) (lev := lev + 1) HS.out.T 44 44 rfl (by decide) h44
          generalize hg : S.length - d.length = g0
          have HG := Lib.hid hg
          clear hst hCall h1 h44 hg
          go_wp2_with (first
            | (go_at_call 99; ((with_reducible refine hB.mono ?_); rintro e w1 ⟨rfl, h1, c1⟩))
            | (go_at_call 138; ((with_reducible refine (TE _ h1).mono ?_); rintro e w2 ⟨rfl, h2, c2⟩))
            | (go_at_call 138; ((with_reducible refine (TC _ h2).mono ?_); rintro e w4 ⟨rfl, h4, c4⟩; obtain ⟨_, d4, _⟩ := h4.cell; rw [HG.out] at d4))
            | (go_at_call 100; ((with_reducible refine (unfit_any g0 _ rfl _).mono ?_); rintro e w6 ⟨rfl, rfl⟩; unfold errV)))
          go_ret
          have := saysA_bad (w := w) (w' := w4) (q := q) (S := S) (r := l) (lev := lev) (s := s) (St := St) (Wk := Wk) HQ.out ⟨d, lev + 1, h4, HBS.out⟩ (HC.out.trans ((c1.two c2).two c4) (fun _ _ h => by rw [h]; exact HP.out.own)) (HP.out.weak a' _ (HP.out.kept a' _ _ HSt.out ((c1.two c2).two c4)))
          unfold errAt at this
          rw [HG.out] at this
          exact this
end Go.Proofs.YtnkencdibniagaaGreatDoor

/- Layer 11: what is gathered, in memory. -/
namespace Go.Proofs.YtnkencdibniagaaGreatDoor
open Go.RowKit

/-- The cells of values, four each. -/
def ItemsC (w : World) (F : Nat → Prop) : List JV → List Value → Prop
  | [], [] => True
  | x :: l, a :: b :: c :: d :: xs => HoldsC w F x a b c d ∧ ItemsC w F l xs
  | _, _ => False
theorem ItemsC.chg {s F : Nat → Prop} {w w' : World} (hc : Chg s w w') (hs : ∀ k, F k → ¬ s k) : ∀ (l : List JV) (xs : List Value), ItemsC w F l xs → ItemsC w' F l xs
  | [], [], _ => trivial
  | x :: l, a :: b :: c :: d :: xs, h => ⟨HoldsC.chg hc hs x a b c d h.1, ItemsC.chg hc hs l xs h.2⟩
  | [], _ :: _, h => h.elim
  | _ :: _, [], h => h.elim
  | _ :: _, [_], h => h.elim
  | _ :: _, [_, _], h => h.elim
  | _ :: _, [_, _, _], h => h.elim
theorem ItemsC.mono {F G : Nat → Prop} {w : World} (hs : ∀ k, F k → k < w.heap.size → G k) : ∀ (l : List JV) (xs : List Value), ItemsC w F l xs → ItemsC w G l xs
  | [], [], _ => trivial
  | x :: l, a :: b :: c :: d :: xs, h => ⟨HoldsC.mono hs x a b c d h.1, ItemsC.mono hs l xs h.2⟩
  | [], _ :: _, h => h.elim
  | _ :: _, [], h => h.elim
  | _ :: _, [_], h => h.elim
  | _ :: _, [_, _], h => h.elim
  | _ :: _, [_, _, _], h => h.elim
theorem ItemsC.snoc {F : Nat → Prop} {w : World} {x : JV} {a b c d : Value} (hx : HoldsC w F x a b c d) : ∀ (l : List JV) (xs : List Value), ItemsC w F l xs → ItemsC w F (l ++ [x]) (xs ++ [a, b, c, d])
  | [], [], _ => ⟨hx, trivial⟩
  | _ :: l, _ :: _ :: _ :: _ :: xs, h => ⟨h.1, ItemsC.snoc hx l xs h.2⟩
  | [], _ :: _, h => h.elim
  | _ :: _, [], h => h.elim
  | _ :: _, [_], h => h.elim
  | _ :: _, [_, _], h => h.elim
  | _ :: _, [_, _, _], h => h.elim
theorem ItemsC.len {F : Nat → Prop} {w : World} : ∀ (l : List JV) (xs : List Value), ItemsC w F l xs → xs.length = l.length * 4
  | [], [], _ => rfl
  | _ :: l, _ :: _ :: _ :: _ :: xs, h => by have := ItemsC.len l xs h.2; simp only [List.length_cons]; omega
  | [], _ :: _, h => h.elim
  | _ :: _, [], h => h.elim
  | _ :: _, [_], h => h.elim
  | _ :: _, [_, _], h => h.elim
  | _ :: _, [_, _, _], h => h.elim
theorem ItemsC.row {F : Nat → Prop} {w : World} {ad : Addr} : ∀ (l : List JV) (xs : List Value) (i : Nat), ItemsC w F l xs → (0 < l.length → F ad.block) → (∀ j u, xs[j]? = some u → w.cell? (ad.add (4 * i + j)) = some u) → HoldsR w F l ad i
  | [], [], i, _, _, _ => by rw [HoldsR]; trivial
  | x :: l, a :: b :: c :: d :: xs, i, h, hF, hc => by
    rw [HoldsR]
    refine ⟨⟨a, b, c, d, hF (by simp), hc 0 a rfl, hc 1 b rfl, hc 2 c rfl, hc 3 d rfl, h.1⟩, ?_⟩
    refine ItemsC.row l xs (i + 1) h.2 (fun _ => hF (by simp)) fun j u hj => ?_
    have := hc (j + 4) u (by simpa using hj)
    rw [show 4 * (i + 1) + j = 4 * i + (j + 4) by omega]
    exact this
  | [], _ :: _, _, h, _, _ => h.elim
  | _ :: _, [], _, h, _, _ => h.elim
  | _ :: _, [_], _, h, _, _ => h.elim
  | _ :: _, [_, _], _, h, _, _ => h.elim
  | _ :: _, [_, _, _], _, h, _, _ => h.elim
theorem set4 (xs : List Value) (z0 z1 z2 z3 a b c d : Value) : ((((xs ++ [z0, z1, z2, z3]).set xs.length a).set (xs.length + 1) b).set (xs.length + 2) c).set (xs.length + 3) d = xs ++ [a, b, c, d] := by
  rw [List.set_append_right _ _ (Nat.le_refl _), Nat.sub_self, List.set_cons_zero]
  rw [List.set_append_right _ _ (by omega), show xs.length + 1 - xs.length = 1 by omega]
  rw [List.set_cons_succ, List.set_cons_zero]
  rw [List.set_append_right _ _ (by omega), show xs.length + 2 - xs.length = 2 by omega]
  rw [List.set_cons_succ, List.set_cons_succ, List.set_cons_zero]
  rw [List.set_append_right _ _ (by omega), show xs.length + 3 - xs.length = 3 by omega]
  rw [List.set_cons_succ, List.set_cons_succ, List.set_cons_succ, List.set_cons_zero]
/-- A row of values of the call's own, what they are, and where else they lie. -/
structure RowJ (w : World) (bL : Nat) (I : Value) (acc : List JV) (own : Nat → Prop) : Prop where
  ex : ∃ xs F, w.ownsRow bL 63 4 I acc.length xs ∧ ItemsC w F acc xs ∧ (∀ k, F k → bL ≤ k ∧ ¬ own k ∧ I.ownBlock ≠ some k)
  ne : ∀ k, own k → I.ownBlock ≠ some k
theorem RowJ.nil (w : World) (bL : Nat) (own : Nat → Prop) : RowJ w bL (.slice none 0 0) [] own :=
  ⟨⟨[], fun _ => False, World.ownsRow_nil _ _ _ _, trivial, fun _ h => h.elim⟩, fun _ _ h => by cases h⟩
theorem RowJ.chg {w w' : World} {bL : Nat} {I : Value} {acc : List JV} {own : Nat → Prop} (h : RowJ w bL I acc own) {s : Nat → Prop} (hc : Chg s w w') (hs : ∀ k, s k → k < bL ∨ own k) : RowJ w' bL I acc own := by
  obtain ⟨⟨xs, F, h1, h2, h3⟩, h4⟩ := h
  refine ⟨⟨xs, F, hc.owns h1 (fun g hg hsg => ?_), ItemsC.chg hc (fun k hk hsk => ?_) acc xs h2, h3⟩, h4⟩
  · rcases hs g hsg with hlt | ho
    · have := (h1.lt g hg).1; omega
    · exact h4 g ho hg
  · rcases hs k hsk with hlt | ho
    · have := (h3 k hk).1; omega
    · exact (h3 k hk).2.1 ho
/-- The value that has them. -/
theorem RowJ.holds {w : World} {bL : Nat} {I : Value} {acc : List JV} {own : Nat → Prop} (h : RowJ w bL I acc own) : (I = .slice none 0 0 ∧ acc = []) ∨ ∃ (ad : Addr) (cap : Nat), I = .slice (some ad) acc.length cap ∧ HoldsR w (fun k => bL ≤ k) acc ad 0 := by
  obtain ⟨⟨xs, F, h1, h2, h3⟩, _⟩ := h
  rcases h1.2 with ⟨hv, hn⟩ | ⟨g, cap, cur, hv, hb, _⟩
  · exact .inl ⟨hv, List.eq_nil_of_length_eq_zero hn⟩
  · refine .inr ⟨⟨g, 0, none⟩, cap, hv, ItemsC.row acc xs 0 (ItemsC.mono (fun k hk _ => (h3 k hk).1) acc xs h2) (fun _ => hb) fun j u hj => ?_⟩
    have := h1.cells (g := g) (by rw [hv]; rfl) j u hj
    simpa using this
end Go.Proofs.YtnkencdibniagaaGreatDoor

/- Layer 11: an item of a list. -/
namespace Go.Proofs.YtnkencdibniagaaGreatDoor
open Go.RowKit

theorem info_V3 : (Tryz.prog.info? 63).map (fun i => (i.zero, i.size, i.bytes)) = some (some (.agg #[.int .i64 0, .string ⟨#[]⟩, .slice none 0 0, .slice none 0 0]), 4, 72) := by kernel_rfl
/-- What is asked of 'value', by some fuel. -/
def ValOk (n : Nat) : Prop := ∀ (w : World) (q : Nat) (S l : Bs) (lev : Nat) (R : Res JV), okS S → Env w → 10 ≤ q → RdAt w q S l lev → lev ≤ 16 → valP n lev l = some R →
  Calls Tryz.prog 98 #[.pointer (some ⟨q, 0, none⟩)] w fun e w' => saysV w q S l lev R e w'
/-- What a list has gathered. -/
structure StL (bL br bv q : Nat) (acc : List JV) (w : World) : Prop where
  le : bL ≤ w.heap.size
  box : rowC w br #[.pointer (some ⟨q, 0, none⟩)] 118
  row : ∃ I, rowC w bv #[.int .i64 5, .string ⟨#[]⟩, I, .slice none 0 0] 63 ∧ RowJ w bL I acc (fun k => k = br ∨ k = bv)
theorem StL.kept {bL br bv q : Nat} {acc : List JV} {w w' : World} (h : StL bL br bv q acc w) (hc : Chg (· = q) w w') (hq : q < bL) (h1 : br ≠ q) (h2 : bv ≠ q) : StL bL br bv q acc w' := by
  obtain ⟨I, hr, hj⟩ := h.row
  exact ⟨Nat.le_trans h.le hc.size, hc.rowC h.box h1, I, hc.rowC hr h2, hj.chg hc (fun k hk => .inl (by omega))⟩
theorem row_far {w w' : World} {b : Nat} {cs : Array Value} {t : TypeId} {row : Option Nat} (h : rowC w b cs t) (g : w.grownBy w' row) (hne : row ≠ some b) : rowC w' b cs t := (g.block b (rowC_lt h) (fun e => hne e.symm)).trans h
/-- A value is put to the end of what was gathered. -/
theorem RowJ.put {w w1 : World} {bL : Nat} {I : Value} {acc : List JV} {own : Nat → Prop} {x : JV} {a b c d : Value} {lo hi g cap n : Nat} {xs : List Value} {F : Nat → Prop}
    (hI : ItemsC w F acc xs) (hF : ∀ k, F k → bL ≤ k ∧ ¬ own k ∧ I.ownBlock ≠ some k) (hn : acc.length = n)
    (hx : HoldsC w (fun k => lo ≤ k ∧ k < hi) x a b c d) (hlo : bL ≤ lo) (hhi : hi ≤ w.heap.size) (hown : ∀ k, own k → k < lo ∨ hi ≤ k) (hIo : ∀ k, I.ownBlock = some k → k < lo)
    (h1 : w1.ownsRow bL 63 4 (.slice (some ⟨g, 0, none⟩) (n + 1) cap) (n + 1) (xs ++ [.int .i64 0, .string ⟨#[]⟩, .slice none 0 0, .slice none 0 0])) (hc1 : Chg (fun k => I.ownBlock = some k ∨ own k ∨ k < bL) w w1) (hat : I.ownBlock = some g ∨ w.heap.size ≤ g) (hno : ¬ own g) :
    RowJ ((((w1.setCell ⟨g, n * 4, none⟩ a).setCell ⟨g, n * 4 + 1, none⟩ b).setCell ⟨g, n * 4 + 2, none⟩ c).setCell ⟨g, n * 4 + 3, none⟩ d) bL (.slice (some ⟨g, 0, none⟩) (n + 1) cap) (acc ++ [x]) own := by
  have hl := ItemsC.len acc xs hI
  rw [hn] at hl
  have s1 := (h1.stored (n * 4) a).1
  have s2 := (s1.stored (n * 4 + 1) b).1
  have s3 := (s2.stored (n * 4 + 2) c).1
  have s4 := (s3.stored (n * 4 + 3) d).1
  rw [← hl, set4] at s4
  have hc2 : Chg (fun k => k = g) w1 ((((w1.setCell ⟨g, n * 4, none⟩ a).setCell ⟨g, n * 4 + 1, none⟩ b).setCell ⟨g, n * 4 + 2, none⟩ c).setCell ⟨g, n * 4 + 3, none⟩ d) := ((((Chg.refl _ w1).cellq _ _).cellq _ _).cellq _ _).cellq _ _
  have items : ItemsC ((((w1.setCell ⟨g, n * 4, none⟩ a).setCell ⟨g, n * 4 + 1, none⟩ b).setCell ⟨g, n * 4 + 2, none⟩ c).setCell ⟨g, n * 4 + 3, none⟩ d) (fun k => (F k ∧ k < w.heap.size) ∨ (lo ≤ k ∧ k < hi)) (acc ++ [x]) (xs ++ [a, b, c, d]) := by
    have ne1 : ∀ k, ((F k ∧ k < w.heap.size) ∨ (lo ≤ k ∧ k < hi)) → ¬ I.ownBlock = some k := by
      rintro k (⟨hk, _⟩ | ⟨hk1, _⟩) e
      · exact (hF k hk).2.2 e
      · have := hIo k e; omega
    have ne2 : ∀ k, ((F k ∧ k < w.heap.size) ∨ (lo ≤ k ∧ k < hi)) → ¬ k = g := by
      intro k hk e
      subst e
      rcases hat with hat | hat
      · exact ne1 _ hk hat
      · rcases hk with ⟨_, hk⟩ | ⟨_, hk⟩ <;> omega
    have ne3 : ∀ k, ((F k ∧ k < w.heap.size) ∨ (lo ≤ k ∧ k < hi)) → ¬ (I.ownBlock = some k ∨ own k ∨ k < bL) := by
      intro k hk e
      rcases e with e | e | e
      · exact ne1 k hk e
      · rcases hk with ⟨hk, _⟩ | ⟨hk1, _⟩
        · exact (hF k hk).2.1 e
        · have := hown k e; omega
      · rcases hk with ⟨hk, _⟩ | ⟨hk1, _⟩
        · have := (hF k hk).1; omega
        · omega
    refine ItemsC.snoc ?_ acc xs ?_
    · exact HoldsC.chg hc2 ne2 x _ _ _ _ (HoldsC.chg hc1 ne3 x _ _ _ _ (HoldsC.mono (fun k hk _ => .inr hk) x _ _ _ _ hx))
    · exact ItemsC.chg hc2 ne2 acc xs (ItemsC.chg hc1 ne3 acc xs (ItemsC.mono (fun k hk hlt => .inl ⟨hk, hlt⟩) acc xs hI))
  refine ⟨⟨_, _, ?_, items, ?_⟩, ?_⟩
  · rw [List.length_append, List.length_singleton, hn, ← hl]
    exact s4
  · rintro k (⟨hk, hlt⟩ | ⟨hk1, hk2⟩)
    · refine ⟨(hF k hk).1, (hF k hk).2.1, fun e => ?_⟩
      simp only [Value.ownBlock, Option.some.injEq] at e
      subst e
      rcases hat with hat | hat
      · exact (hF _ hk).2.2 hat
      · omega
    · refine ⟨by omega, fun ho => by have := hown k ho; omega, fun e => ?_⟩
      simp only [Value.ownBlock, Option.some.injEq] at e
      subst e
      rcases hat with hat | hat
      · have := hIo _ hat; omega
      · omega
  · intro k hk e
    simp only [Value.ownBlock, Option.some.injEq] at e
    subst e
    exact hno hk
theorem RowJ.renew {w : World} {bL : Nat} {I : Value} {acc : List JV} {own own' : Nat → Prop} (h : RowJ w bL I acc own) (ho : ∀ k, own' k → own k ∨ w.heap.size ≤ k) : RowJ w bL I acc own' := by
  obtain ⟨⟨xs, F, h1, h2, h3⟩, h4⟩ := h
  refine ⟨⟨xs, fun k => F k ∧ k < w.heap.size, h1, ItemsC.mono (fun k hk hlt => ⟨hk, hlt⟩) acc xs h2, fun k hk => ⟨(h3 k hk.1).1, fun hok => ?_, (h3 k hk.1).2.2⟩⟩, fun k hk e => ?_⟩
  · rcases ho k hok with h5 | h5
    · exact (h3 k hk.1).2.1 h5
    · have := hk.2; omega
  · rcases ho k hk with h5 | h5
    · exact h4 k h5 e
    · have := (h1.lt k e).2; omega
/-- What a value's reading says, both ways in one. -/
def gotV (w : World) (q : Nat) (S r : Bs) (lev : Nat) (R : Res JV) (a b c d ev : Value) (w' : World) : Prop :=
  match R with
  | .ok v x => ev = .nilIface ∧ HoldsC w' (fun k => w.heap.size ≤ k ∧ k < w'.heap.size) v a b c d ∧ okP w q S x lev w'
  | .bad code x => ev = errAt S code x ∧ badP w q S r w'
theorem saysV_all {w w' : World} {q : Nat} {S r : Bs} {lev : Nat} {R : Res JV} {e : Ending} (h : saysV w q S r lev R e w') :
    ∃ (k : Int) (t : ByteArray) (x1 : Option Addr) (n1 c1 : Nat) (x2 : Option Addr) (n2 c2 : Nat) (ev : Value), e = .returned (.tuple #[.agg #[.int .i64 k, .string t, .slice x1 n1 c1, .slice x2 n2 c2], ev]) ∧
      Hid (Chg (· = q) w w' ∧ gotV w q S r lev R (.int .i64 k) (.string t) (.slice x1 n1 c1) (.slice x2 n2 c2) ev w') := by
  cases R with
  | ok v x =>
    obtain ⟨V, rfl, ⟨a, b, c, d, rfl, h2⟩, h3⟩ := h
    obtain ⟨rfl, rfl, ⟨x, cap, rfl⟩, y, cap', rfl⟩ := h2.form
    exact ⟨_, _, _, _, _, _, _, _, _, rfl, Lib.hid ⟨h3.2, rfl, h2, h3⟩⟩
  | bad code x =>
    obtain ⟨V, rfl, ⟨k, t, x1, n1, c1, x2, n2, c2, rfl⟩, h3⟩ := h
    exact ⟨_, _, _, _, _, _, _, _, _, rfl, Lib.hid ⟨h3.2, rfl, h3⟩⟩
theorem suf_of {S r x : Bs} (h1 : x <:+ S) (h2 : r <:+ S) (h : x.length ≤ r.length) : x <:+ r := List.suffix_of_suffix_length_le h1 h2 h
end Go.Proofs.YtnkencdibniagaaGreatDoor

