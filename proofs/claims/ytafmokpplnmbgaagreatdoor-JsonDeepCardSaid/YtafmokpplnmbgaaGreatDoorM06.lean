/- Merged: JtN, JtO, JtP, JtQ, JuG, JuH. -/
import Derived.Test.YtafmokpplnmbgaaGreatDoorM05
import Derived.Maps.OwnSet
import Derived.Maps.OwnOps
import Derived.Deep.DrawnRows
/- Layer 11: a set of texts; a key. -/
namespace Go.Proofs.YtafmokpplnmbgaaGreatDoor
open Go.RowKit Go.Maps

def litS (t : Bs) : Lit := .string t
def setS (seen : List Bs) : DataW Unit := setOf (.agg []) (seen.map litS)
/-- The map at block m is the set of these. -/
def SetM (w : World) (m : Nat) (seen : List Bs) : Prop := w.ownsMap Tryz.prog 9 (unitElem (H := Unit)) m seen.length (setS seen)
theorem SetM.chg {w w' : World} {m : Nat} {seen : List Bs} (h : SetM w m seen) {s : Nat → Prop} (hc : Chg s w w') (hs : ¬ s m) : SetM w' m seen := by
  obtain ⟨es, clock, h1, h2⟩ := h
  exact ⟨es, clock, (hc.block m (Array.getElem?_eq_some_iff.1 h1).1 hs).trans h1, h2⟩
theorem SetM.lt {w : World} {m : Nat} {seen : List Bs} (h : SetM w m seen) : m < w.heap.size := by
  obtain ⟨es, clock, h1, _⟩ := h
  exact (Array.getElem?_eq_some_iff.1 h1).1
theorem SetM.ne {w : World} {m q : Nat} {seen : List Bs} (h : SetM w m seen) {cs : Array Value} {t : TypeId} (hr : rowC w q cs t) : q ≠ m := by
  rintro rfl
  obtain ⟨es, clock, h1, _⟩ := h
  unfold rowC at hr
  rw [hr] at h1
  cases h1
theorem has_setS (seen : List Bs) (t : Bs) : Maps.has (setS seen) (litS t) = decide (t ∈ seen) := by
  unfold setS
  rw [has_setOf _ _ _ (fun y hy => by obtain ⟨_, _, rfl⟩ := List.mem_map.1 hy; trivial), List.any_map]
  induction seen with
  | nil => rfl
  | cons a r ih =>
    rw [List.any_cons, ih]
    have e : ((fun x : Lit => x.sameKey (litS t)) ∘ litS) a = (a == t) := rfl
    rw [e]
    by_cases h : a = t
    · subst h; simp
    · have h' : ¬ t = a := fun e => h e.symm
      simp [h, h']
theorem law_str : Keyed Tryz.prog 9 := string_keyed Tryz.underlying9
theorem key_str (t : Bs) (ht : t.length ≤ 262144) : keyOf Tryz.prog 9 (.string (str t)) = some (litS t) := by
  have h1 : (str t).size ≤ maxLen := by rw [str_size]; unfold maxLen; omega
  have h2 : (str t).data.toList = t := str_toList t
  simp [keyOf, mapKey, Tryz.underlying9, h1, h2, litS]
theorem zero_unit (w : World) : (zeroValue 125).run Tryz.prog w = .ok (.agg #[]) w := by kernel_rfl
/-- What a reading of a key says. -/
def saysK (w : World) (q m : Nat) (S r : Bs) (lev : Nat) (seen : List Bs) (R : Res Bs) (e : Ending) (w' : World) : Prop :=
  match R with
  | .ok t x => e = .returned (.tuple #[.string (str t), .nilIface]) ∧ t.length ≤ 262144 ∧ RdAt w' q S x lev ∧ SetM w' m (seen ++ [t]) ∧ Chg (fun k => k = q ∨ k = m) w w'
  | .bad code x => e = .returned (.tuple #[.string ⟨#[]⟩, errAt S code x]) ∧ (∃ x lev, RdAt w' q S x lev ∧ x <:+ r) ∧ Chg (fun k => k = q ∨ k = m) w w'
theorem saysK_ok {w w' : World} {q m : Nat} {S r x t : Bs} {lev : Nat} {seen : List Bs} {R : Res Bs} (hR : R = .ok t x) (hl : t.length ≤ 262144) (h : RdAt w' q S x lev) (h2 : SetM w' m (seen ++ [t])) (h3 : Chg (fun k => k = q ∨ k = m) w w') : saysK w q m S r lev seen R (.returned (.tuple #[.string (str t), .nilIface])) w' := by
  rw [hR]; exact ⟨rfl, hl, h, h2, h3⟩
theorem saysK_bad {w w' : World} {q m : Nat} {S r x : Bs} {lev code : Nat} {seen : List Bs} {R : Res Bs} (hR : R = .bad code x) (h : ∃ x lev, RdAt w' q S x lev ∧ x <:+ r) (h3 : Chg (fun k => k = q ∨ k = m) w w') : saysK w q m S r lev seen R (.returned (.tuple #[.string ⟨#[]⟩, errAt S code x])) w' := by
  rw [hR]; exact ⟨rfl, h, h3⟩
theorem dropB_suf (l : Bs) : dropB l <:+ l := by
  induction l with
  | nil => exact List.suffix_refl _
  | cons c l ih =>
    rw [dropB]
    split
    · exact ih.trans (List.suffix_cons c l)
    · exact List.suffix_refl _
theorem Chg.or {q m : Nat} {a b c : World} (h : Chg (fun k => k = q ∨ k = m) a b) (g : Chg (· = q) b c) : Chg (fun k => k = q ∨ k = m) a c := h.trans g (fun _ _ h => .inl h)
theorem Chg.toOr {q m : Nat} {a b : World} (h : Chg (· = q) a b) : Chg (fun k => k = q ∨ k = m) a b := h.mono (fun _ _ h => .inl h)
theorem quo_suf {n : Nat} {l t q : Bs} (h : quoP n l = some (.ok t q)) : q <:+ l := by
  have key : ∀ (n : Nat) {l acc t q : Bs}, strP n l acc = some (.ok t q) → q <:+ l := by
    intro n
    induction n with
    | zero => intro l acc t q h; cases h
    | succ n ih =>
      intro l acc t q h
      rw [strP] at h
      split at h
      · rw [Option.some.injEq, Res.ok.injEq] at h; rw [← h.2]; exact List.tail_suffix l
      · cases ho : oneP l with
        | bad k r => rw [ho] at h; cases h
        | ok c r => rw [ho] at h; exact (ih h).trans (one_suf ho)
  unfold quoP at h
  split at h
  · exact (key n h).trans (List.tail_suffix l)
  · cases h
set_option maxRecDepth 100000 in
set_option maxHeartbeats 4000000 in
theorem key_any {w : World} {q m : Nat} {S l : Bs} {lev N : Nat} {seen : List Bs} {R : Res Bs} (hS : okS S) (hE : Env w) (hq : 10 ≤ q) (h : RdAt w q S l lev) (hM : SetM w m seen) (hsl : seen.length ≤ 65536) (hR : keyP N seen l = some R) :
    Calls Tryz.prog 63 #[.pointer (some ⟨q, 0, none⟩), .map (some m)] w fun e w' => saysK w q m S l lev seen R e w' := by
  have hB := blanks_any h hS.T
  have hqm := hM.ne h.row
  have hlw := h.lt
  have HSf := Lib.hid (dropB_suf l)
  have hst := hR
  unfold keyP at hst
  generalize hl' : dropB l = l' at hB HSf hst
  cases hq1 : quoP N l' with
  | none => rw [hq1] at hst; cases hst
  | some Q =>
    rw [hq1] at hst
    have hQ := fun w' (hE' : Env w') (h' : RdAt w' q S l' lev) => quoted_any hS hE' hq h' hq1
    generalize hf : S.length - l'.length = f0
    have HF := Lib.hid hf
    have HE := Lib.hid hE
    have HM := Lib.hid hM
    have HS := Lib.hid hS
    cases Q with
    | bad code x =>
      have HQ := Lib.hid (show R = .bad code x from (Option.some.inj hst).symm)
      unfold saysT errAt errV at hQ
      clear hst hq1 hR hf hE hM hS hl'
      go_enter Tryz.func63, Tryz.ntmps63
      go_wp2_with (first
        | (go_at_call 26; ((with_reducible refine hB.mono ?_); rintro e w1 ⟨rfl, h1, c1⟩; obtain ⟨_, d1, _⟩ := h1.cell; rw [HF.out] at d1; have E1 := HE.out.q c1 hq))
        | (go_at_call 43; ((with_reducible refine (hQ _ E1 h1).mono ?_); rintro e w2 ⟨rfl, hb⟩)))
      go_ret2
      obtain ⟨⟨y, ly, hy1, hy2⟩, hy3⟩ := hb
      exact saysK_bad HQ.out ⟨y, ly, hy1, hy2.trans HSf.out⟩ (c1.two hy3).toOr
    | ok t x =>
      unfold saysT okP at hQ
      dsimp only at hst
      have HXS := Lib.hid ((quo_suf hq1).trans HSf.out)
      have hxB := fun w' (h' : RdAt w' q S x lev) => blanks_any h' hS.T
      by_cases hin : t ∈ seen
      · rw [if_pos hin, Option.some.injEq] at hst
        have HQ := Lib.hid hst.symm
        have hhas : Maps.has (setS seen) (litS t) = true := by rw [has_setS]; simpa using hin
        clear hst hq1 hR hf hE hM hS hl' hin hxB
        go_enter Tryz.func63, Tryz.ntmps63
        go_wp2_with (first
          | (go_at_call 26; ((with_reducible refine hB.mono ?_); rintro e w1 ⟨rfl, h1, c1⟩; obtain ⟨_, d1, _⟩ := h1.cell; rw [HF.out] at d1; have E1 := HE.out.q c1 hq))
          | (go_at_call 43; ((with_reducible refine (hQ _ E1 h1).mono ?_); rintro e w2 ⟨rfl, hl2, h2, c2⟩; have M2 := HM.out.chg (c1.two c2) (fun e => hqm e.symm); have HK := Lib.hid (key_str t (by have := HS.out; unfold okS at this; omega))))
          | (at_lookup; refine wpList_lookup_own_unit _ rfl _ _ 124 rfl 9 125 law_str Tryz.underlying124 (zero_unit _) m _ _ rfl M2 _ _ rfl HK.out ?_)
          | (go_at_call 27; ((with_reducible refine (unfit_any f0 _ rfl _).mono ?_); rintro e w5 ⟨rfl, rfl⟩; unfold errV)))
        go_ret2
        have := saysK_bad (w := w) (w' := w2.alloc (.cells #[] 125)) (q := q) (m := m) (S := S) (r := l) (lev := lev) (seen := seen) HQ.out ⟨x, lev, h2.below ((Below.refl _ _).alloc (Nat.le_refl _) _), HXS.out⟩ ((c1.two c2).alloc _).toOr
        unfold errAt at this
        rw [HF.out] at this
        exact this
      · rw [if_neg hin] at hst
        have hhas : Maps.has (setS seen) (litS t) = false := by rw [has_setS]; simpa using hin
        have HSN := Lib.hid (show (seen ++ [t]).length = seen.length + 1 ∧ setS (seen ++ [t]) = (setS seen).put (litS t) (.agg []) from ⟨by simp, by unfold setS; rw [List.map_append]; exact setOf_snoc _ _ _⟩)
        have HXB := Lib.hid (dropB_suf x)
        generalize hx' : dropB x = x' at hxB hst HXB
        by_cases h58 : hd x' = 58
        · rw [if_pos h58, Option.some.injEq] at hst
          have HQ := Lib.hid hst.symm
          have T1 := take_T (q := q) (lev := lev) hS.T 58 58 rfl (by decide) h58
          clear hst hq1 hR hf hE hM hS hl' hin hx' h58
          go_enter Tryz.func63, Tryz.ntmps63
          go_wp2_with (first
          | (go_at_call 26; ((with_reducible refine hB.mono ?_); rintro e w1 ⟨rfl, h1, c1⟩; obtain ⟨_, d1, _⟩ := h1.cell; rw [HF.out] at d1; have E1 := HE.out.q c1 hq))
          | (go_at_call 43; ((with_reducible refine (hQ _ E1 h1).mono ?_); rintro e w2 ⟨rfl, hl2, h2, c2⟩; have M2 := HM.out.chg (c1.two c2) (fun e => hqm e.symm); have HK := Lib.hid (key_str t (by have := HS.out; unfold okS at this; omega))))
          | (at_lookup; refine wpList_lookup_own_unit _ rfl _ _ 124 rfl 9 125 law_str Tryz.underlying124 (zero_unit _) m _ _ rfl M2 _ _ rfl HK.out ?_)
          | (at_mapUpdate; refine wpList_mapUpdate_own _ rfl _ _ _ 124 rfl 9 125 law_str Tryz.underlying124 (unitElem (H := Unit)) m seen.length _ rfl (M2.alloc _) (by unfold maxLen; omega) _ _ _ rfl rfl HK.out _ [] unitElem_mk ?_; intro w3 hown3 hgrow3; have hc3 : Chg (· = m) w2 w3 := ((Chg.refl _ w2).alloc _).grown hgrow3 (fun k hk => .inl (Option.some.inj hk).symm); have h3 := h2.chg hc3 hqm; have M3 := Lib.hid hown3; clear hown3 hgrow3)
          | (go_at_call 26; ((with_reducible refine (hxB _ h3).mono ?_); rintro e w4 ⟨rfl, h4, c4⟩))
          | (go_at_call 48; ((with_reducible refine (T1 _ h4).mono ?_); rintro e w5 ⟨rfl, h5, c5⟩)))
          go_ret2
          have hSS := HS.out
          unfold okS at hSS
          have hch : Chg (fun k => k = q ∨ k = m) w w3 := (c1.two c2).toOr.trans hc3 (fun k _ h => .inr h)
          have hM4 : SetM w5 m (seen ++ [t]) := by
            refine SetM.chg (w := w3) ?_ (c4.two c5) (fun e => hqm e.symm)
            unfold SetM
            rw [HSN.out.1, HSN.out.2]
            exact M3.out
          exact saysK_ok HQ.out (by omega) h5 hM4 ((hch.or c4).or c5)
        · rw [if_neg h58, Option.some.injEq] at hst
          have HQ := Lib.hid hst.symm
          have T1 := take_F (q := q) (lev := lev) hS.T 58 58 rfl (by decide) h58
          generalize hg : S.length - x'.length = g0
          have HG := Lib.hid hg
          clear hst hq1 hR hf hE hM hS hl' hin hx' h58 hg
          go_enter Tryz.func63, Tryz.ntmps63
          go_wp2_with (first
          | (go_at_call 26; ((with_reducible refine hB.mono ?_); rintro e w1 ⟨rfl, h1, c1⟩; obtain ⟨_, d1, _⟩ := h1.cell; rw [HF.out] at d1; have E1 := HE.out.q c1 hq))
          | (go_at_call 43; ((with_reducible refine (hQ _ E1 h1).mono ?_); rintro e w2 ⟨rfl, hl2, h2, c2⟩; have M2 := HM.out.chg (c1.two c2) (fun e => hqm e.symm); have HK := Lib.hid (key_str t (by have := HS.out; unfold okS at this; omega))))
          | (at_lookup; refine wpList_lookup_own_unit _ rfl _ _ 124 rfl 9 125 law_str Tryz.underlying124 (zero_unit _) m _ _ rfl M2 _ _ rfl HK.out ?_)
          | (at_mapUpdate; refine wpList_mapUpdate_own _ rfl _ _ _ 124 rfl 9 125 law_str Tryz.underlying124 (unitElem (H := Unit)) m seen.length _ rfl (M2.alloc _) (by unfold maxLen; omega) _ _ _ rfl rfl HK.out _ [] unitElem_mk ?_; intro w3 hown3 hgrow3; have hc3 : Chg (· = m) w2 w3 := ((Chg.refl _ w2).alloc _).grown hgrow3 (fun k hk => .inl (Option.some.inj hk).symm); have h3 := h2.chg hc3 hqm; have M3 := Lib.hid hown3; clear hown3 hgrow3)
          | (go_at_call 26; ((with_reducible refine (hxB _ h3).mono ?_); rintro e w4 ⟨rfl, h4, c4⟩))
          | (go_at_call 48; ((with_reducible refine (T1 _ h4).mono ?_); rintro e w5 ⟨rfl, h5, c5⟩; obtain ⟨_, d5, _⟩ := h5.cell; rw [HG.out] at d5))
          | (go_at_call 27; ((with_reducible refine (unfit_any g0 _ rfl _).mono ?_); rintro e w6 ⟨rfl, rfl⟩; unfold errV)))
          go_ret2
          have hch : Chg (fun k => k = q ∨ k = m) w w3 := (c1.two c2).toOr.trans hc3 (fun k _ h => .inr h)
          have := saysK_bad (w := w) (w' := w5) (q := q) (m := m) (S := S) (r := l) (lev := lev) (seen := seen) HQ.out ⟨x', lev, h5, HXB.out.trans HXS.out⟩ ((hch.or c4).or c5)
          unfold errAt at this
          rw [HG.out] at this
          exact this
end Go.Proofs.YtafmokpplnmbgaaGreatDoor

/- Layer 11: parts of lists and objects. -/
namespace Go.Proofs.YtafmokpplnmbgaaGreatDoor
open Go.RowKit

theorem Chg.cellq {q : Nat} {a w : World} (h : Chg (· = q) a w) (i : Nat) (v : Value) : Chg (· = q) a (w.setCell ⟨q, i, none⟩ v) := h.setCell _ _ (.inl rfl)
/-- What a part says: s: the blocks that may have changed; St: what is gathered, in memory. -/
def saysA {α : Type} (w : World) (q : Nat) (S r : Bs) (lev : Nat) (s : Nat → Prop) (St : α → World → Prop) (Wk : World → Prop) (R : Res α) (e : Ending) (w' : World) : Prop :=
  match R with
  | .ok a x => e = .returned .nilIface ∧ RdAt w' q S x lev ∧ St a w' ∧ Chg s w w' ∧ x <:+ r
  | .bad code x => e = .returned (errAt S code x) ∧ (∃ x lev, RdAt w' q S x lev ∧ x <:+ r) ∧ Chg s w w' ∧ Wk w'
theorem saysA_ok {α : Type} {w w' : World} {q : Nat} {S r x : Bs} {lev : Nat} {s : Nat → Prop} {St : α → World → Prop} {Wk : World → Prop} {R : Res α} {a : α} (hR : R = .ok a x) (h1 : RdAt w' q S x lev) (h2 : St a w') (h3 : Chg s w w') (h4 : x <:+ r) : saysA w q S r lev s St Wk R (.returned .nilIface) w' := by
  rw [hR]; exact ⟨rfl, h1, h2, h3, h4⟩
theorem saysA_bad {α : Type} {w w' : World} {q : Nat} {S r x : Bs} {lev code : Nat} {s : Nat → Prop} {St : α → World → Prop} {Wk : World → Prop} {R : Res α} (hR : R = .bad code x) (h1 : ∃ x lev, RdAt w' q S x lev ∧ x <:+ r) (h3 : Chg s w w') (h4 : Wk w') : saysA w q S r lev s St Wk R (.returned (errAt S code x)) w' := by
  rw [hR]; exact ⟨rfl, h1, h3, h4⟩
/-- A function that reads one part. -/
structure Part {α : Type} (q : Nat) (S : Bs) (lev : Nat) (s : Nat → Prop) (St : α → World → Prop) (Wk : World → Prop) (B : α → Bs → Prop) (fn : FuncId) (lb : Array Value) (step : α → Bs → Option (Res α)) : Prop where
  enter : ∀ args w1, (callFunc fn args).run Tryz.prog w1 = .ok (.enter fn args) w1
  weak : ∀ a w, St a w → Wk w
  kept : ∀ a w1 w2, St a w1 → Chg (· = q) w1 w2 → St a w2
  own : s q
  env : ∀ k, k < 10 → ¬ s k
  sub : ∀ a r x, x <:+ r → B a r → B a x
  go : ∀ a r a' x, B a r → step a r = some (.ok a' x) → B a' x
  call : ∀ a r R w1, Env w1 → RdAt w1 q S r lev → St a w1 → B a r → step a r = some R → Calls Tryz.prog fn lb w1 fun e w2 => saysA w1 q S r lev s St Wk R e w2
/-- Another level. -/
theorem RdAt.toLev {w : World} {q : Nat} {S r : Bs} {lev : Nat} (h : RdAt w q S r lev) {l2 : Nat} {x : Int} (hx : x = (l2 : Int)) : RdAt (w.setCell ⟨q, 2, none⟩ (.int .i64 x)) q S r l2 := by
  refine ⟨?_, h.suf⟩
  have := rowC_set h.row 2 (.int .i64 x)
  have e : (rdC (str S) (S.length - r.length) lev).setIfInBounds 2 (.int .i64 x) = rdC (str S) (S.length - r.length) l2 := by rw [hx]; rfl
  rw [e] at this
  exact this
theorem parts_deep {w : World} {q : Nat} {S l : Bs} {y : Int} {f : Value} (h : RdAt w q S l 16) :
    Calls Tryz.prog 60 #[.pointer (some ⟨q, 0, none⟩), .int .u8 y, f] w fun e w' => e = .returned (errAt S 11 l) ∧ w = w' := by
  obtain ⟨_, c1, c2⟩ := h.cell
  unfold errAt errV
  generalize S.length - l.length = k at c1 ⊢
  clear h
  go_enter Tryz.func60, Tryz.ntmps60
  go_wp2
  go_ret
  exact ⟨rfl, rfl⟩
set_option maxRecDepth 100000 in
set_option maxHeartbeats 4000000 in
theorem parts_any {α : Type} {w : World} {q : Nat} {S l : Bs} {lev N : Nat} {s : Nat → Prop} {St : α → World → Prop} {Wk : World → Prop} {B : α → Bs → Prop} {fn : FuncId} {lb : Array Value} {step : α → Bs → Option (Res α)} {e : UInt8} {a : α} {R : Res α}
    (hS : okS S) (hE : Env w) (hq : 10 ≤ q) (h : RdAt w q S l lev) (hlev : lev < 16) (hne : l ≠ []) (he : e = 93 ∨ e = 125) (y : Int) (hy : y = (e.toNat : Int)) (P : Part q S (lev + 1) s St Wk B fn lb step) (hst : St a w) (hBd : B a l.tail) (hR : partsP e step N true a l.tail = some R) :
    Calls Tryz.prog 60 #[.pointer (some ⟨q, 0, none⟩), .int .u8 y, .func (.func fn) #[] lb] w fun e' w' => saysA w q S l lev s St Wk R e' w' := by
  subst hy
  have he0 : e ≠ 0 := by rcases he with rfl | rfl <;> decide
  have hEn := P.enter
  have hCall := P.call
  have HP := Lib.hid P
  obtain ⟨_, c1, c2⟩ := h.cell
  have f1 := h.free 1
  have f2 := h.free 2
  have hle := h.le
  have hlp := List.length_pos_iff.2 hne
  have hSS := hS
  unfold okS at hSS
  generalize hk : S.length - l.length = k at c1
  have hk2 : k ≤ 65536 := by omega
  have hlv : ¬ (lev : Int) = 16 := by omega
  have hlb : ((lev : Int) == 16) = false := by rw [beq_eq_false_iff_ne]; exact hlv
  have hm := (h.toLev (l2 := lev + 1) (x := (lev : Int) + 1) (by omega)).put (List.tail_suffix l) (x := (k : Int) + 1) (by rw [List.length_tail]; omega)
  have hcm : Chg (· = q) w ((w.setCell ⟨q, 2, none⟩ (.int .i64 ((lev : Int) + 1))).setCell ⟨q, 1, none⟩ (.int .i64 ((k : Int) + 1))) := ((Chg.refl _ w).cellq 2 _).cellq 1 _
  have HM := Lib.hid hm
  have HCM := Lib.hid hcm
  have HST := Lib.hid (P.kept a _ _ hst hcm)
  have HBD := Lib.hid hBd
  have HRR := Lib.hid hR
  have HE := Lib.hid hE
  have HS := Lib.hid hS
  have he0' := Lib.hid he0
  have hlv16 : lev ≤ 16 := by omega
  clear hm hcm hst hBd hR hE hS he hlp hle hSS hk P hlv he0 h
  go_enter Tryz.func60, Tryz.ntmps60
  go_wp2
  go_loopg [7, 8] N (fun k s7 s8 wr => ∃ first a r', s7 = .bool first ∧ RdAt wr q S r' (lev + 1) ∧ Hid (St a wr) ∧ Hid (partsP e step k first a r' = some R) ∧ Hid (r' <:+ l) ∧ Hid (Chg s w wr) ∧ Hid (B a r'))
  case atStart => exact ⟨true, a, l.tail, rfl, HM.out, HST, HRR, Lib.hid (List.tail_suffix l), Lib.hid (HCM.out.mono (fun k _ h => by rw [h]; exact HP.out.own)), HBD⟩
  case round =>
    clear HM HCM HST HRR HBD c1 c2 f1 f2
    obtain ⟨first, a', r', rfl, h', HSt, HPa, HSf, HC, HB'⟩ := hrel
    obtain ⟨m, hm⟩ : ∃ m, gk = m + 1 := by
      cases gk with
      | zero => exact absurd HPa.out (by intro e; cases e)
      | succ m => exact ⟨m, rfl⟩
    have HM := Lib.hid hm
    have hst : partsP e step (m + 1) first a' r' = some R := by rw [← hm]; exact HPa.out
    rw [partsP] at hst
    have hB := blanks_any h' HS.out.T
    have HBS := Lib.hid ((dropB_suf r').trans HSf.out)
    have HBd := Lib.hid (HP.out.sub a' r' _ (dropB_suf r') HB'.out)
    generalize dropB r' = d at hst hB HBS HBd
    clear hm
    by_cases h1 : hd d = e
    · rw [if_pos h1, Option.some.injEq] at hst
      have HQ := Lib.hid hst.symm
      have T1 := take_T (q := q) (lev := lev + 1) HS.out.T e _ rfl he0'.out h1
      clear hst h1 hCall
      go_wp2_with (first
        | (go_at_call 26; ((with_reducible refine hB.mono ?_); rintro e w1 ⟨rfl, h1, c1⟩))
        | (go_at_call 48; ((with_reducible refine (T1 _ h1).mono ?_); rintro e w2 ⟨rfl, h2, c2⟩; obtain ⟨_, _, d2⟩ := h2.cell; have f2 := h2.free 2)))
      go_ret
      have h3 := h2.toLev (l2 := lev) (x := (lev : Int) + 1 - 1) (by omega)
      have h3' : (lev : Int) + 1 - 1 = (lev : Int) := by omega
      rw [h3'] at h3
      have cc := (c1.two c2).cellq 2 (.int .i64 (lev : Int))
      exact saysA_ok HQ.out h3 (HP.out.kept a' _ _ HSt.out cc) (HC.out.trans cc (fun _ _ h => by rw [h]; exact HP.out.own)) ((List.tail_suffix d).trans HBS.out)
    · rw [if_neg h1] at hst
      have TE := take_F (q := q) (lev := lev + 1) HS.out.T e _ rfl he0'.out h1
      cases first with
      | true =>
        rw [if_pos rfl] at hst
        cases hs1 : step a' d with
        | none => rw [hs1] at hst; cases hst
        | some Q =>
          rw [hs1] at hst
          have C := fun w1 (hE1 : Env w1) (h1 : RdAt w1 q S d (lev + 1)) (hs2 : St a' w1) => hCall a' d Q w1 hE1 h1 hs2 HBd.out hs1
          cases Q with
          | bad code x =>
            have HQ := Lib.hid (show R = .bad code x from (Option.some.inj hst).symm)
            unfold saysA errAt errV at C
            clear hst hs1 hCall h1
            go_wp2_with (first
              | (go_at_call 26; ((with_reducible refine hB.mono ?_); rintro e w1 ⟨rfl, h1, c1⟩))
              | (go_at_call 48; ((with_reducible refine (TE _ h1).mono ?_); rintro e w2 ⟨rfl, h2, c2⟩; have cc := c1.two c2; have EE := (HE.out.chg HC.out HP.out.env).q cc hq; have hh := h2; have SS := HP.out.kept a' _ _ HSt.out cc))
              | ((with_reducible refine (C _ EE hh SS).mono ?_); rintro e w3 ⟨rfl, h3, c3, k3⟩))
            go_ret
            obtain ⟨y', ly, hy1, hy2⟩ := h3
            exact saysA_bad HQ.out ⟨y', ly, hy1, hy2.trans HBS.out⟩ ((HC.out.trans cc (fun _ _ h => by rw [h]; exact HP.out.own)).trans c3 (fun _ _ h => h)) k3
          | ok a2 x =>
            have HQ := Lib.hid (show partsP e step m false a2 x = some R from hst)
            have HB2 := Lib.hid (HP.out.go a' d a2 x HBd.out hs1)
            unfold saysA at C
            clear hst hs1 hCall h1
            go_wp2_with (first
              | (go_at_call 26; ((with_reducible refine hB.mono ?_); rintro e w1 ⟨rfl, h1, c1⟩))
              | (go_at_call 48; ((with_reducible refine (TE _ h1).mono ?_); rintro e w2 ⟨rfl, h2, c2⟩; have cc := c1.two c2; have EE := (HE.out.chg HC.out HP.out.env).q cc hq; have hh := h2; have SS := HP.out.kept a' _ _ HSt.out cc))
              | ((with_reducible refine (C _ EE hh SS).mono ?_); rintro e w3 ⟨rfl, h3, t3, c3, x3⟩))
            go_roundg m
            case measure => rw [HM.out]; omega
            case rel => exact ⟨false, a2, x, rfl, h3, Lib.hid t3, HQ, Lib.hid (x3.trans HBS.out), Lib.hid ((HC.out.trans cc (fun _ _ h => by rw [h]; exact HP.out.own)).trans c3 (fun _ _ h => h)), HB2⟩
      | false =>
        rw [if_neg (by decide)] at hst
        by_cases h44 : hd d = 44
        · rw [if_pos h44] at hst
          have TC := take_T (q := q) (lev := lev + 1) HS.out.T 44 44 rfl (by decide) h44
          cases hs1 : step a' d.tail with
          | none => rw [hs1] at hst; cases hst
          | some Q =>
            rw [hs1] at hst
            have C := fun w1 (hE1 : Env w1) (h1 : RdAt w1 q S d.tail (lev + 1)) (hs2 : St a' w1) => hCall a' d.tail Q w1 hE1 h1 hs2 (HP.out.sub a' d _ (List.tail_suffix d) HBd.out) hs1
            cases Q with
            | bad code x =>
              have HQ := Lib.hid (show R = .bad code x from (Option.some.inj hst).symm)
              unfold saysA errAt errV at C
              clear hst hs1 hCall h1 h44
              go_wp2_with (first
                | (go_at_call 26; ((with_reducible refine hB.mono ?_); rintro e w1 ⟨rfl, h1, c1⟩))
                | (go_at_call 48; ((with_reducible refine (TE _ h1).mono ?_); rintro e w2 ⟨rfl, h2, c2⟩))
                | (go_at_call 48; ((with_reducible refine (TC _ h2).mono ?_); rintro e w4 ⟨rfl, h4, c4⟩; have cc := (c1.two c2).two c4; have EE := (HE.out.chg HC.out HP.out.env).q cc hq; have hh := h4; have SS := HP.out.kept a' _ _ HSt.out cc))
                | ((with_reducible refine (C _ EE hh SS).mono ?_); rintro e w3 ⟨rfl, h3, c3, k3⟩))
              go_ret
              obtain ⟨y', ly, hy1, hy2⟩ := h3
              exact saysA_bad HQ.out ⟨y', ly, hy1, (hy2.trans (List.tail_suffix d)).trans HBS.out⟩ ((HC.out.trans cc (fun _ _ h => by rw [h]; exact HP.out.own)).trans c3 (fun _ _ h => h)) k3
            | ok a2 x =>
              have HQ := Lib.hid (show partsP e step m false a2 x = some R from hst)
              have HB2 := Lib.hid (HP.out.go a' d.tail a2 x (HP.out.sub a' d _ (List.tail_suffix d) HBd.out) hs1)
              unfold saysA at C
              clear hst hs1 hCall h1 h44
              go_wp2_with (first
                | (go_at_call 26; ((with_reducible refine hB.mono ?_); rintro e w1 ⟨rfl, h1, c1⟩))
                | (go_at_call 48; ((with_reducible refine (TE _ h1).mono ?_); rintro e w2 ⟨rfl, h2, c2⟩))
                | (go_at_call 48; ((with_reducible refine (TC _ h2).mono ?_); rintro e w4 ⟨rfl, h4, c4⟩; have cc := (c1.two c2).two c4; have EE := (HE.out.chg HC.out HP.out.env).q cc hq; have hh := h4; have SS := HP.out.kept a' _ _ HSt.out cc))
                | ((with_reducible refine (C _ EE hh SS).mono ?_); rintro e w3 ⟨rfl, h3, t3, c3, x3⟩))
              go_roundg m
              case measure => rw [HM.out]; omega
              case rel => exact ⟨false, a2, x, rfl, h3, Lib.hid t3, HQ, Lib.hid ((x3.trans (List.tail_suffix d)).trans HBS.out), Lib.hid ((HC.out.trans cc (fun _ _ h => by rw [h]; exact HP.out.own)).trans c3 (fun _ _ h => h)), HB2⟩
        · rw [if_neg h44, Option.some.injEq] at hst
          have HQ := Lib.hid hst.symm
          have TC := take_F (q := q) (lev := lev + 1) HS.out.T 44 44 rfl (by decide) h44
          generalize hg : S.length - d.length = g0
          have HG := Lib.hid hg
          clear hst hCall h1 h44 hg
          go_wp2_with (first
            | (go_at_call 26; ((with_reducible refine hB.mono ?_); rintro e w1 ⟨rfl, h1, c1⟩))
            | (go_at_call 48; ((with_reducible refine (TE _ h1).mono ?_); rintro e w2 ⟨rfl, h2, c2⟩))
            | (go_at_call 48; ((with_reducible refine (TC _ h2).mono ?_); rintro e w4 ⟨rfl, h4, c4⟩; obtain ⟨_, d4, _⟩ := h4.cell; rw [HG.out] at d4))
            | (go_at_call 27; ((with_reducible refine (unfit_any g0 _ rfl _).mono ?_); rintro e w6 ⟨rfl, rfl⟩; unfold errV)))
          go_ret
          have := saysA_bad (w := w) (w' := w4) (q := q) (S := S) (r := l) (lev := lev) (s := s) (St := St) (Wk := Wk) HQ.out ⟨d, lev + 1, h4, HBS.out⟩ (HC.out.trans ((c1.two c2).two c4) (fun _ _ h => by rw [h]; exact HP.out.own)) (HP.out.weak a' _ (HP.out.kept a' _ _ HSt.out ((c1.two c2).two c4)))
          unfold errAt at this
          rw [HG.out] at this
          exact this
end Go.Proofs.YtafmokpplnmbgaaGreatDoor

/- Layer 11: what is gathered, in memory. -/
namespace Go.Proofs.YtafmokpplnmbgaaGreatDoor
open Go.RowKit

/-- The cells of values, four each. -/
def ItemsC (w : World) (F : Nat → Prop) : List JV → List Value → Prop
  | [], [] => True
  | x :: l, a :: b :: c :: d :: xs => HoldsC w F x a b c d ∧ ItemsC w F l xs
  | _, _ => False
theorem ItemsC.chg {s F : Nat → Prop} {w w' : World} (hc : Chg s w w') (hs : ∀ k, F k → ¬ s k) : ∀ (l : List JV) (xs : List Value), ItemsC w F l xs → ItemsC w' F l xs
  | [], [], _ => trivial
  | x :: l, a :: b :: c :: d :: xs, h => ⟨HoldsC.chg hc hs x a b c d h.1, ItemsC.chg hc hs l xs h.2⟩
  | [], _ :: _, h => h.elim
  | _ :: _, [], h => h.elim
  | _ :: _, [_], h => h.elim
  | _ :: _, [_, _], h => h.elim
  | _ :: _, [_, _, _], h => h.elim
theorem ItemsC.mono {F G : Nat → Prop} {w : World} (hs : ∀ k, F k → k < w.heap.size → G k) : ∀ (l : List JV) (xs : List Value), ItemsC w F l xs → ItemsC w G l xs
  | [], [], _ => trivial
  | x :: l, a :: b :: c :: d :: xs, h => ⟨HoldsC.mono hs x a b c d h.1, ItemsC.mono hs l xs h.2⟩
  | [], _ :: _, h => h.elim
  | _ :: _, [], h => h.elim
  | _ :: _, [_], h => h.elim
  | _ :: _, [_, _], h => h.elim
  | _ :: _, [_, _, _], h => h.elim
theorem ItemsC.snoc {F : Nat → Prop} {w : World} {x : JV} {a b c d : Value} (hx : HoldsC w F x a b c d) : ∀ (l : List JV) (xs : List Value), ItemsC w F l xs → ItemsC w F (l ++ [x]) (xs ++ [a, b, c, d])
  | [], [], _ => ⟨hx, trivial⟩
  | _ :: l, _ :: _ :: _ :: _ :: xs, h => ⟨h.1, ItemsC.snoc hx l xs h.2⟩
  | [], _ :: _, h => h.elim
  | _ :: _, [], h => h.elim
  | _ :: _, [_], h => h.elim
  | _ :: _, [_, _], h => h.elim
  | _ :: _, [_, _, _], h => h.elim
theorem ItemsC.len {F : Nat → Prop} {w : World} : ∀ (l : List JV) (xs : List Value), ItemsC w F l xs → xs.length = l.length * 4
  | [], [], _ => rfl
  | _ :: l, _ :: _ :: _ :: _ :: xs, h => by have := ItemsC.len l xs h.2; simp only [List.length_cons]; omega
  | [], _ :: _, h => h.elim
  | _ :: _, [], h => h.elim
  | _ :: _, [_], h => h.elim
  | _ :: _, [_, _], h => h.elim
  | _ :: _, [_, _, _], h => h.elim
theorem ItemsC.row {F : Nat → Prop} {w : World} {ad : Addr} : ∀ (l : List JV) (xs : List Value) (i : Nat), ItemsC w F l xs → (0 < l.length → F ad.block) → (∀ j u, xs[j]? = some u → w.cell? (ad.add (4 * i + j)) = some u) → HoldsR w F l ad i
  | [], [], i, _, _, _ => by rw [HoldsR]; trivial
  | x :: l, a :: b :: c :: d :: xs, i, h, hF, hc => by
    rw [HoldsR]
    refine ⟨⟨a, b, c, d, hF (by simp), hc 0 a rfl, hc 1 b rfl, hc 2 c rfl, hc 3 d rfl, h.1⟩, ?_⟩
    refine ItemsC.row l xs (i + 1) h.2 (fun _ => hF (by simp)) fun j u hj => ?_
    have := hc (j + 4) u (by simpa using hj)
    rw [show 4 * (i + 1) + j = 4 * i + (j + 4) by omega]
    exact this
  | [], _ :: _, _, h, _, _ => h.elim
  | _ :: _, [], _, h, _, _ => h.elim
  | _ :: _, [_], _, h, _, _ => h.elim
  | _ :: _, [_, _], _, h, _, _ => h.elim
  | _ :: _, [_, _, _], _, h, _, _ => h.elim
theorem set4 (xs : List Value) (z0 z1 z2 z3 a b c d : Value) : ((((xs ++ [z0, z1, z2, z3]).set xs.length a).set (xs.length + 1) b).set (xs.length + 2) c).set (xs.length + 3) d = xs ++ [a, b, c, d] := by
  rw [List.set_append_right _ _ (Nat.le_refl _), Nat.sub_self, List.set_cons_zero]
  rw [List.set_append_right _ _ (by omega), show xs.length + 1 - xs.length = 1 by omega]
  rw [List.set_cons_succ, List.set_cons_zero]
  rw [List.set_append_right _ _ (by omega), show xs.length + 2 - xs.length = 2 by omega]
  rw [List.set_cons_succ, List.set_cons_succ, List.set_cons_zero]
  rw [List.set_append_right _ _ (by omega), show xs.length + 3 - xs.length = 3 by omega]
  rw [List.set_cons_succ, List.set_cons_succ, List.set_cons_succ, List.set_cons_zero]
/-- A row of values of the call's own, what they are, and where else they lie. -/
structure RowJ (w : World) (bL : Nat) (I : Value) (acc : List JV) (own : Nat → Prop) : Prop where
  ex : ∃ xs F, w.ownsRow bL 27 4 I acc.length xs ∧ ItemsC w F acc xs ∧ (∀ k, F k → bL ≤ k ∧ ¬ own k ∧ I.ownBlock ≠ some k)
  ne : ∀ k, own k → I.ownBlock ≠ some k
theorem RowJ.nil (w : World) (bL : Nat) (own : Nat → Prop) : RowJ w bL (.slice none 0 0) [] own :=
  ⟨⟨[], fun _ => False, World.ownsRow_nil _ _ _ _, trivial, fun _ h => h.elim⟩, fun _ _ h => by cases h⟩
theorem RowJ.chg {w w' : World} {bL : Nat} {I : Value} {acc : List JV} {own : Nat → Prop} (h : RowJ w bL I acc own) {s : Nat → Prop} (hc : Chg s w w') (hs : ∀ k, s k → k < bL ∨ own k) : RowJ w' bL I acc own := by
  obtain ⟨⟨xs, F, h1, h2, h3⟩, h4⟩ := h
  refine ⟨⟨xs, F, hc.owns h1 (fun g hg hsg => ?_), ItemsC.chg hc (fun k hk hsk => ?_) acc xs h2, h3⟩, h4⟩
  · rcases hs g hsg with hlt | ho
    · have := (h1.lt g hg).1; omega
    · exact h4 g ho hg
  · rcases hs k hsk with hlt | ho
    · have := (h3 k hk).1; omega
    · exact (h3 k hk).2.1 ho
/-- The value that has them. -/
theorem RowJ.holds {w : World} {bL : Nat} {I : Value} {acc : List JV} {own : Nat → Prop} (h : RowJ w bL I acc own) : (I = .slice none 0 0 ∧ acc = []) ∨ ∃ (ad : Addr) (cap : Nat), I = .slice (some ad) acc.length cap ∧ HoldsR w (fun k => bL ≤ k) acc ad 0 := by
  obtain ⟨⟨xs, F, h1, h2, h3⟩, _⟩ := h
  rcases h1.2 with ⟨hv, hn⟩ | ⟨g, cap, cur, hv, hb, _⟩
  · exact .inl ⟨hv, List.eq_nil_of_length_eq_zero hn⟩
  · refine .inr ⟨⟨g, 0, none⟩, cap, hv, ItemsC.row acc xs 0 (ItemsC.mono (fun k hk _ => (h3 k hk).1) acc xs h2) (fun _ => hb) fun j u hj => ?_⟩
    have := h1.cells (g := g) (by rw [hv]; rfl) j u hj
    simpa using this
end Go.Proofs.YtafmokpplnmbgaaGreatDoor

/- Layer 11: an item of a list. -/
namespace Go.Proofs.YtafmokpplnmbgaaGreatDoor
open Go.RowKit

theorem info_V3 : (Tryz.prog.info? 27).map (fun i => (i.zero, i.size, i.bytes)) = some (some (.agg #[.int .i64 0, .string ⟨#[]⟩, .slice none 0 0, .slice none 0 0]), 4, 72) := by kernel_rfl
/-- What is asked of 'value', by some fuel. -/
def ValOk (n : Nat) : Prop := ∀ (w : World) (q : Nat) (S l : Bs) (lev : Nat) (R : Res JV), okS S → Env w → 10 ≤ q → RdAt w q S l lev → lev ≤ 16 → valP n lev l = some R →
  Calls Tryz.prog 25 #[.pointer (some ⟨q, 0, none⟩)] w fun e w' => saysV w q S l lev R e w'
/-- What a list has gathered. -/
structure StL (bL br bv q : Nat) (acc : List JV) (w : World) : Prop where
  le : bL ≤ w.heap.size
  box : rowC w br #[.pointer (some ⟨q, 0, none⟩)] 56
  row : ∃ I, rowC w bv #[.int .i64 5, .string ⟨#[]⟩, I, .slice none 0 0] 27 ∧ RowJ w bL I acc (fun k => k = br ∨ k = bv)
theorem StL.kept {bL br bv q : Nat} {acc : List JV} {w w' : World} (h : StL bL br bv q acc w) (hc : Chg (· = q) w w') (hq : q < bL) (h1 : br ≠ q) (h2 : bv ≠ q) : StL bL br bv q acc w' := by
  obtain ⟨I, hr, hj⟩ := h.row
  exact ⟨Nat.le_trans h.le hc.size, hc.rowC h.box h1, I, hc.rowC hr h2, hj.chg hc (fun k hk => .inl (by omega))⟩
theorem row_far {w w' : World} {b : Nat} {cs : Array Value} {t : TypeId} {row : Option Nat} (h : rowC w b cs t) (g : w.grownBy w' row) (hne : row ≠ some b) : rowC w' b cs t := (g.block b (rowC_lt h) (fun e => hne e.symm)).trans h
/-- A value is put to the end of what was gathered. -/
theorem RowJ.put {w w1 : World} {bL : Nat} {I : Value} {acc : List JV} {own : Nat → Prop} {x : JV} {a b c d : Value} {lo hi g cap n : Nat} {xs : List Value} {F : Nat → Prop}
    (hI : ItemsC w F acc xs) (hF : ∀ k, F k → bL ≤ k ∧ ¬ own k ∧ I.ownBlock ≠ some k) (hn : acc.length = n)
    (hx : HoldsC w (fun k => lo ≤ k ∧ k < hi) x a b c d) (hlo : bL ≤ lo) (hhi : hi ≤ w.heap.size) (hown : ∀ k, own k → k < lo ∨ hi ≤ k) (hIo : ∀ k, I.ownBlock = some k → k < lo)
    (h1 : w1.ownsRow bL 27 4 (.slice (some ⟨g, 0, none⟩) (n + 1) cap) (n + 1) (xs ++ [.int .i64 0, .string ⟨#[]⟩, .slice none 0 0, .slice none 0 0])) (hc1 : Chg (fun k => I.ownBlock = some k ∨ own k ∨ k < bL) w w1) (hat : I.ownBlock = some g ∨ w.heap.size ≤ g) (hno : ¬ own g) :
    RowJ ((((w1.setCell ⟨g, n * 4, none⟩ a).setCell ⟨g, n * 4 + 1, none⟩ b).setCell ⟨g, n * 4 + 2, none⟩ c).setCell ⟨g, n * 4 + 3, none⟩ d) bL (.slice (some ⟨g, 0, none⟩) (n + 1) cap) (acc ++ [x]) own := by
  have hl := ItemsC.len acc xs hI
  rw [hn] at hl
  have s1 := (h1.stored (n * 4) a).1
  have s2 := (s1.stored (n * 4 + 1) b).1
  have s3 := (s2.stored (n * 4 + 2) c).1
  have s4 := (s3.stored (n * 4 + 3) d).1
  rw [← hl, set4] at s4
  have hc2 : Chg (fun k => k = g) w1 ((((w1.setCell ⟨g, n * 4, none⟩ a).setCell ⟨g, n * 4 + 1, none⟩ b).setCell ⟨g, n * 4 + 2, none⟩ c).setCell ⟨g, n * 4 + 3, none⟩ d) := ((((Chg.refl _ w1).cellq _ _).cellq _ _).cellq _ _).cellq _ _
  have items : ItemsC ((((w1.setCell ⟨g, n * 4, none⟩ a).setCell ⟨g, n * 4 + 1, none⟩ b).setCell ⟨g, n * 4 + 2, none⟩ c).setCell ⟨g, n * 4 + 3, none⟩ d) (fun k => (F k ∧ k < w.heap.size) ∨ (lo ≤ k ∧ k < hi)) (acc ++ [x]) (xs ++ [a, b, c, d]) := by
    have ne1 : ∀ k, ((F k ∧ k < w.heap.size) ∨ (lo ≤ k ∧ k < hi)) → ¬ I.ownBlock = some k := by
      rintro k (⟨hk, _⟩ | ⟨hk1, _⟩) e
      · exact (hF k hk).2.2 e
      · have := hIo k e; omega
    have ne2 : ∀ k, ((F k ∧ k < w.heap.size) ∨ (lo ≤ k ∧ k < hi)) → ¬ k = g := by
      intro k hk e
      subst e
      rcases hat with hat | hat
      · exact ne1 _ hk hat
      · rcases hk with ⟨_, hk⟩ | ⟨_, hk⟩ <;> omega
    have ne3 : ∀ k, ((F k ∧ k < w.heap.size) ∨ (lo ≤ k ∧ k < hi)) → ¬ (I.ownBlock = some k ∨ own k ∨ k < bL) := by
      intro k hk e
      rcases e with e | e | e
      · exact ne1 k hk e
      · rcases hk with ⟨hk, _⟩ | ⟨hk1, _⟩
        · exact (hF k hk).2.1 e
        · have := hown k e; omega
      · rcases hk with ⟨hk, _⟩ | ⟨hk1, _⟩
        · have := (hF k hk).1; omega
        · omega
    refine ItemsC.snoc ?_ acc xs ?_
    · exact HoldsC.chg hc2 ne2 x _ _ _ _ (HoldsC.chg hc1 ne3 x _ _ _ _ (HoldsC.mono (fun k hk _ => .inr hk) x _ _ _ _ hx))
    · exact ItemsC.chg hc2 ne2 acc xs (ItemsC.chg hc1 ne3 acc xs (ItemsC.mono (fun k hk hlt => .inl ⟨hk, hlt⟩) acc xs hI))
  refine ⟨⟨_, _, ?_, items, ?_⟩, ?_⟩
  · rw [List.length_append, List.length_singleton, hn, ← hl]
    exact s4
  · rintro k (⟨hk, hlt⟩ | ⟨hk1, hk2⟩)
    · refine ⟨(hF k hk).1, (hF k hk).2.1, fun e => ?_⟩
      simp only [Value.ownBlock, Option.some.injEq] at e
      subst e
      rcases hat with hat | hat
      · exact (hF _ hk).2.2 hat
      · omega
    · refine ⟨by omega, fun ho => by have := hown k ho; omega, fun e => ?_⟩
      simp only [Value.ownBlock, Option.some.injEq] at e
      subst e
      rcases hat with hat | hat
      · have := hIo _ hat; omega
      · omega
  · intro k hk e
    simp only [Value.ownBlock, Option.some.injEq] at e
    subst e
    exact hno hk
theorem RowJ.renew {w : World} {bL : Nat} {I : Value} {acc : List JV} {own own' : Nat → Prop} (h : RowJ w bL I acc own) (ho : ∀ k, own' k → own k ∨ w.heap.size ≤ k) : RowJ w bL I acc own' := by
  obtain ⟨⟨xs, F, h1, h2, h3⟩, h4⟩ := h
  refine ⟨⟨xs, fun k => F k ∧ k < w.heap.size, h1, ItemsC.mono (fun k hk hlt => ⟨hk, hlt⟩) acc xs h2, fun k hk => ⟨(h3 k hk.1).1, fun hok => ?_, (h3 k hk.1).2.2⟩⟩, fun k hk e => ?_⟩
  · rcases ho k hok with h5 | h5
    · exact (h3 k hk.1).2.1 h5
    · have := hk.2; omega
  · rcases ho k hk with h5 | h5
    · exact h4 k h5 e
    · have := (h1.lt k e).2; omega
/-- What a value's reading says, both ways in one. -/
def gotV (w : World) (q : Nat) (S r : Bs) (lev : Nat) (R : Res JV) (a b c d ev : Value) (w' : World) : Prop :=
  match R with
  | .ok v x => ev = .nilIface ∧ HoldsC w' (fun k => w.heap.size ≤ k ∧ k < w'.heap.size) v a b c d ∧ okP w q S x lev w'
  | .bad code x => ev = errAt S code x ∧ badP w q S r w'
theorem saysV_all {w w' : World} {q : Nat} {S r : Bs} {lev : Nat} {R : Res JV} {e : Ending} (h : saysV w q S r lev R e w') :
    ∃ (k : Int) (t : ByteArray) (x1 : Option Addr) (n1 c1 : Nat) (x2 : Option Addr) (n2 c2 : Nat) (ev : Value), e = .returned (.tuple #[.agg #[.int .i64 k, .string t, .slice x1 n1 c1, .slice x2 n2 c2], ev]) ∧
      Hid (Chg (· = q) w w' ∧ gotV w q S r lev R (.int .i64 k) (.string t) (.slice x1 n1 c1) (.slice x2 n2 c2) ev w') := by
  cases R with
  | ok v x =>
    obtain ⟨V, rfl, ⟨a, b, c, d, rfl, h2⟩, h3⟩ := h
    obtain ⟨rfl, rfl, ⟨x, cap, rfl⟩, y, cap', rfl⟩ := h2.form
    exact ⟨_, _, _, _, _, _, _, _, _, rfl, Lib.hid ⟨h3.2, rfl, h2, h3⟩⟩
  | bad code x =>
    obtain ⟨V, rfl, ⟨k, t, x1, n1, c1, x2, n2, c2, rfl⟩, h3⟩ := h
    exact ⟨_, _, _, _, _, _, _, _, _, rfl, Lib.hid ⟨h3.2, rfl, h3⟩⟩
theorem suf_of {S r x : Bs} (h1 : x <:+ S) (h2 : r <:+ S) (h : x.length ≤ r.length) : x <:+ r := List.suffix_of_suffix_length_le h1 h2 h
end Go.Proofs.YtafmokpplnmbgaaGreatDoor

/- Layer 11: values in memory, opened; a part that is loaded. -/
namespace Go.Proofs.YtafmokpplnmbgaaGreatDoor
open Go.RowKit

theorem add_add (a : Addr) (i j : Nat) : (a.add i).add j = a.add (i + j) := by
  unfold Addr.add
  by_cases h : i = 0
  · subst h; simp
  · by_cases h2 : j = 0
    · subst h2; simp
    · rw [if_neg h, if_neg h2, if_neg (by omega)]
      simp [Nat.add_assoc]
theorem run_loadVar_at (w : World) (a : Addr) (ty : TypeId) (cs : List Value) (d : TypeDesc) (hc : ∀ j v, cs[j]? = some v → w.cell? (a.add j) = some v)
    (hu : Tryz.prog.underlying ty = some d) (hd : d.isRow = true) (hi : (Tryz.prog.info? ty).map (·.size) = some cs.length) :
    (loadVar ty a).run Tryz.prog w = .ok (.agg cs.toArray) w := by
  have hl := run_loadCells_list (P := Tryz.prog) w a cs hc
  cases hq : Tryz.prog.info? ty with
  | none => simp [hq] at hi
  | some i =>
    have hs : i.size = cs.length := by simpa [hq] using hi
    have hagg : (isAgg ty).run Tryz.prog w = .ok true w := by
      unfold isAgg
      rw [Sem.run_bind, run_underlying hu w]
      cases d <;> simp_all
    simp [loadVar, Sem.run_bind, hagg, sizeOf, typeInfo, hq, hs, hl]
theorem wpList_load_at {ops : Array Oper} {rest : List Oper} {op : Oper} {a : Act} {w : World} {Q : Exit → Act → World → Prop} (hw : Region.wanted op (yielded ops a.tmps) = true) (ty : TypeId) (x : Operand) (ho : op.op = .load ty x)
    (p : Addr) (hx : a.eval x = .pointer (some p)) (cs : List Value) (d : TypeDesc) (hc : ∀ j v, cs[j]? = some v → w.cell? (p.add j) = some v)
    (hu : Tryz.prog.underlying ty = some d) (hd : d.isRow = true) (hi : (Tryz.prog.info? ty).map (·.size) = some cs.length)
    (h : wpList Tryz.prog ops Q rest (a.put op.dst (.agg cs.toArray)) w) : wpList Tryz.prog ops Q (op :: rest) a w := by
  rw [wpList, if_pos hw]
  refine .inl ?_
  unfold Oper.wp execOp
  simp only [ho, hx, Instr.loadAt, Instr.sureAddr, Sem.run_bind, Sem.run_pure, Result.andThen_ok, run_loadVar_at w p ty cs d hc hu hd hi]
  exact h
theorem HoldsR.get {w : World} {F : Nat → Prop} {ad : Addr} : ∀ (l : List JV) (j i : Nat) (x : JV), HoldsR w F l ad j → l[i]? = some x →
    ∃ a b c d, F ad.block ∧ w.cell? (ad.add (4 * (j + i))) = some a ∧ w.cell? (ad.add (4 * (j + i) + 1)) = some b ∧ w.cell? (ad.add (4 * (j + i) + 2)) = some c ∧ w.cell? (ad.add (4 * (j + i) + 3)) = some d ∧ HoldsC w F x a b c d
  | [], j, i, x, _, hx => by simp at hx
  | y :: l, j, 0, x, h, hx => by
    obtain rfl : y = x := by simpa using hx
    rw [HoldsR] at h
    obtain ⟨⟨a, b, c, d, h1⟩, _⟩ := h
    exact ⟨a, b, c, d, h1⟩
  | y :: l, j, i + 1, x, h, hx => by
    rw [HoldsR] at h
    have := HoldsR.get l (j + 1) i x h.2 (by simpa using hx)
    rw [show j + 1 + i = j + (i + 1) by omega] at this
    exact this
/-- The four cells of an item, as a load asks for them. -/
def at4 (w : World) (p : Addr) (a b c d : Value) : Prop := ∀ j v, [a, b, c, d][j]? = some v → w.cell? (p.add j) = some v
/-- A value's cells, opened. -/
theorem HoldsC.opens {w : World} {F : Nat → Prop} {k : Int} {t : Bs} {items : List JV} {keys : List Bs} {a b c d : Value} (h : HoldsC w F (.mk k t items keys) a b c d) :
    a = .int .i64 k ∧ b = .string (str t) ∧ t.length ≤ 281474976710656 ∧
    (∃ x1 c1, c = .slice x1 items.length c1 ∧ ∀ i x, items[i]? = some x → ∃ ad a' b' c' d', x1 = some ad ∧ F ad.block ∧ at4 w (ad.add (i * 4)) a' b' c' d' ∧ HoldsC w F x a' b' c' d') ∧
    (∃ x2 c2, d = .slice x2 keys.length c2 ∧ ∀ i, i < keys.length → ∃ ad, x2 = some ad ∧ F ad.block ∧ w.cell? (ad.add i) = some (.string (str (keys.getD i [])))) := by
  rw [HoldsC] at h
  obtain ⟨h1, h2, h3, h4, h5⟩ := h
  refine ⟨h1, h2, h3, ?_, ?_⟩
  · rcases h5 with ⟨h5, h6⟩ | ⟨ad, cap, h5, h6⟩
    · subst h6
      exact ⟨none, 0, h5, fun i x hx => by simp at hx⟩
    · refine ⟨some ad, cap, h5, fun i x hx => ?_⟩
      obtain ⟨a', b', c', d', g0, g1, g2, g3, g4, g5⟩ := HoldsR.get items 0 i x h6 hx
      rw [Nat.zero_add] at g1 g2 g3 g4
      refine ⟨ad, a', b', c', d', rfl, g0, fun j v hj => ?_, g5⟩
      rw [add_add, Nat.mul_comm i 4]
      match j, hj with
      | 0, hj => simp at hj; subst hj; exact g1
      | 1, hj => simp at hj; subst hj; exact g2
      | 2, hj => simp at hj; subst hj; exact g3
      | 3, hj => simp at hj; subst hj; exact g4
  · rcases h4 with ⟨h4, h6⟩ | ⟨ad, cap, h4, h6⟩
    · subst h6
      exact ⟨none, 0, h4, fun i hi => by simp at hi⟩
    · exact ⟨some ad, cap, h4, fun i hi => ⟨ad, rfl, (h6 i hi).1, (h6 i hi).2⟩⟩
theorem at4.chg {s : Nat → Prop} {w w' : World} {p : Addr} {a b c d : Value} (h : at4 w p a b c d) (hc : Chg s w w') (hs : ¬ s p.block) : at4 w' p a b c d := fun j v hj => cell_chg hc (h j v hj) (by rw [add_block]; exact hs)
/-- Memory below B stands. -/
theorem chg_of_below {B : Nat} {w w' : World} (h : Below B w w') : Chg (fun k => B ≤ k) w w' := ⟨h.os, h.tape, h.output, h.size, fun k _ hk => h.block k (by omega)⟩
theorem HoldsC.far {B : Nat} {w w' : World} {v : JV} {a b c d : Value} (h : HoldsC w (fun k => k < B) v a b c d) (hb : Below B w w') : HoldsC w' (fun k => k < B) v a b c d :=
  HoldsC.chg (chg_of_below hb) (fun k hk hs => by omega) _ _ _ _ _ h
theorem Env.far {B : Nat} {w w' : World} (h : Env w) (hb : Below B w w') (hB : 10 ≤ B) : Env w' := h.chg (chg_of_below hb) (fun k hk hs => by omega)
end Go.Proofs.YtafmokpplnmbgaaGreatDoor

/- Layer 11: the parts of a list, or of an object, are written. -/
namespace Go.Proofs.YtafmokpplnmbgaaGreatDoor
open Go.RowKit
set_option linter.unusedSimpArgs false

/-- What is asked of 'value' at one value. -/
def PvOk (v : JV) : Prop := ∀ (w : World) (B b : Nat) (l : Bs) (a b' c d : Value), PrAt w B b l → B ≤ w.heap.size → Env w → 10 ≤ B → HoldsC w (fun k => k < B) v a b' c d →
  Calls Tryz.prog 14 #[.pointer (some ⟨b, 0, none⟩), .agg #[a, b', c, d]] w fun e w' => e = .returned (.tuple #[]) ∧ PrS w B b (putsL l (psJ v)) w'
theorem psL_cons (k : Int) (first : Bool) (x : JV) (l : List JV) (keys : List Bs) : psL k first (x :: l) keys = (if first = true then [] else [[44]]) ++ (if k = 6 then quoPs (keys.headD []) ++ [[58]] else []) ++ psJ x ++ psL k false l keys.tail := by rw [psL]
theorem psL_nil (k : Int) (first : Bool) (keys : List Bs) : psL k first [] keys = [] := by rw [psL]
/-- What is written of parts from the n-th one on. -/
def restP (k : Int) (items : List JV) (keys : List Bs) (n : Nat) : List Bs := psL k (decide (n = 0)) (items.drop n) (keys.drop n)
theorem restP_step {k : Int} {items : List JV} {keys : List Bs} {n : Nat} {x : JV} (hx : items[n]? = some x) :
    restP k items keys n = (if n = 0 then [] else [[44]]) ++ (if k = 6 then quoPs (keys.getD n []) ++ [[58]] else []) ++ psJ x ++ restP k items keys (n + 1) := by
  have hn : n < items.length := (List.getElem?_eq_some_iff.1 hx).1
  have e : items.drop n = x :: items.drop (n + 1) := by
    rw [List.drop_eq_getElem_cons hn]
    congr 1
    exact (List.getElem?_eq_some_iff.1 hx).2
  have h2 : (keys.drop n).headD [] = keys.getD n [] := by
    rw [List.headD_eq_head?_getD, List.head?_drop, List.getD_eq_getElem?_getD]
  unfold restP
  rw [e, psL_cons, h2, List.tail_drop]
  by_cases h : n = 0
  · subst h; simp
  · simp [h]
theorem restP_end {k : Int} {items : List JV} {keys : List Bs} {n : Nat} (h : items.length ≤ n) : restP k items keys n = [] := by
  unfold restP
  rw [List.drop_eq_nil_of_le h, psL_nil]
set_option maxRecDepth 100000 in
set_option maxHeartbeats 8000000 in
theorem pparts_any {k : Int} {t : Bs} {items : List JV} {keys : List Bs} (hk : k = 5 ∨ k = 6) (hkl : k = 6 → keys.length = items.length) (hlen : items.length ≤ 4611686018427387904) (IH : ∀ x ∈ items, PvOk x) (p q : UInt8) (sp sq : ByteArray) (hp : sp = str [p]) (hq : sq = str [q])
    {w : World} {B b : Nat} {l : Bs} {a b' c d : Value} (h : PrAt w B b l) (hB : B ≤ w.heap.size) (hE : Env w) (h10 : 10 ≤ B) (hH : HoldsC w (fun k => k < B) (.mk k t items keys) a b' c d) :
    Calls Tryz.prog 24 #[.pointer (some ⟨b, 0, none⟩), .string sp, .string sq, .agg #[a, b', c, d]] w fun e w' => e = .returned (.tuple #[]) ∧ PrS w B b (putsL l ([p] :: (psL k true items keys ++ [[q]]))) w' := by
  have hbB := h.lt
  obtain ⟨rfl, rfl, ht, ⟨x1, c1, rfl, hI⟩, ⟨x2, c2, rfl, hK⟩⟩ := hH.opens
  have C1 := fun (w2 : World) (acc : Bs) (g : PrAt w2 B b acc) (hB2 : B ≤ w2.heap.size) => put_any [p] g hB2 (show ([p] : Bs).length ≤ 70368744177664 by simp)
  have C2 := fun (w2 : World) (acc : Bs) (g : PrAt w2 B b acc) (hB2 : B ≤ w2.heap.size) => put_any [q] g hB2 (show ([q] : Bs).length ≤ 70368744177664 by simp)
  rw [← hp] at C1
  rw [← hq] at C2
  have C44 : ∀ (w2 : World) (acc : Bs), PrAt w2 B b acc → B ≤ w2.heap.size → Calls Tryz.prog 22 #[.pointer (some ⟨b, 0, none⟩), .string ⟨#[44]⟩] w2 fun e w' => e = .returned (.tuple #[]) ∧ PrS w2 B b (putL acc [44]) w' := fun w2 acc g hB2 => put_any [44] g hB2 (by decide)
  have C58 : ∀ (w2 : World) (acc : Bs), PrAt w2 B b acc → B ≤ w2.heap.size → Calls Tryz.prog 22 #[.pointer (some ⟨b, 0, none⟩), .string ⟨#[58]⟩] w2 fun e w' => e = .returned (.tuple #[]) ∧ PrS w2 B b (putL acc [58]) w' := fun w2 acc g hB2 => put_any [58] g hB2 (by decide)
  have HFin : Hid (putsL l ([p] :: (psL k true items keys ++ [[q]])) = putL (putsL (putL l [p]) (restP k items keys 0)) [q]) := Lib.hid (by
    rw [← List.singleton_append, putsL_app, putsL_app]
    rfl)
  obtain ⟨W0, hW0⟩ : ∃ W0, W0 = w.alloc (.cells #[.int .i64 k, .string (str t), .slice x1 items.length c1, .slice x2 keys.length c2] 27) := ⟨_, rfl⟩
  have R0 : rowC W0 w.heap.size (row4 k (str t) x1 items.length c1 x2 keys.length c2) 27 := by rw [hW0]; exact rowC_new w _ _
  have S0 : PrS w B b l W0 := by rw [hW0]; exact (PrS.start h).below hB ((Below.refl _ _).alloc (Nat.le_refl _) _)
  have s0 : W0.heap.size = w.heap.size + 1 := by rw [hW0]; exact size_alloc _ _
  have HS0 := Lib.hid S0
  have HR0 := Lib.hid R0
  have Hs0 := Lib.hid s0
  have HW0 := Lib.hid hW0
  have HE := Lib.hid hE
  have HB := Lib.hid hB
  have H10 := Lib.hid h10
  have HbB := Lib.hid hbB
  have HII := Lib.hid hI
  have HKK := Lib.hid hK
  have HKL := Lib.hid hkl
  unfold PvOk at IH
  have HIH := Lib.hid IH
  have HIF := Lib.hid info_V
  have HLN := Lib.hid hlen
  clear hW0 S0 R0 s0 hE hbB hI hK hkl IH hp hq ht hH
  go_enter Tryz.func24, Tryz.ntmps24
  go_upto_region 1 with (fail)
  rw [← HW0.out]
  go_upto_region 2 with (go_at_call 22; ((with_reducible refine (C1 _ _ HS0.out.pr (by have := Hs0.out; have := HB.out; omega)).mono ?_); rintro e w1 ⟨rfl, h1⟩))
  have g2 : w1.cell? ⟨w.heap.size, 2, none⟩ = some (.slice x1 items.length c1) := rowC_cell (h1.row HR0.out (by have := HbB.out; omega) (by decide)) 2
  have P1 := HS0.out.trans h1
  go_wp2
  go_loopg [8, 16] items.length (fun kk s8 s16 wr => ∃ (n : Nat) (acc : Bs), s16 = .int .i64 (n : Int) ∧ Hid (kk = items.length - n) ∧ Hid (n ≤ items.length) ∧ Hid (PrS w B b acc wr) ∧ Hid (rowC wr w.heap.size (row4 k (str t) x1 items.length c1 x2 keys.length c2) 27) ∧ Hid (putsL acc (restP k items keys n) = putsL (putL l [p]) (restP k items keys 0)))
  case atStart => exact ⟨0, _, rfl, Lib.hid rfl, Lib.hid (Nat.zero_le _), Lib.hid P1, Lib.hid (h1.row HR0.out (by have := HbB.out; omega) (by decide)), Lib.hid rfl⟩
  case round =>
    obtain ⟨n, acc, rfl, HN, HNL, HP, HR, HQ⟩ := hrel
    clear g2
    by_cases hn : n < items.length
    · obtain ⟨x, hx⟩ : ∃ x, items[n]? = some x := ⟨_, List.getElem?_eq_getElem hn⟩
      obtain ⟨ad, a1, a2, a3, a4, rfl, hF, h4c, hHx⟩ := HII.out n x hx
      obtain ⟨rfl, rfl, ⟨y1, yc1, rfl⟩, y2, yc2, rfl⟩ := hHx.form
      have hbq : B ≤ wr.heap.size := by have := HB.out; have := HP.out.size; omega
      have hc := chg_of_below HP.out.bel
      have L4 := Lib.hid (h4c.chg hc (by rw [add_block]; omega))
      have hHx0 := hHx
      have HIX := Lib.hid (HIH.out x (List.mem_of_getElem? hx))
      have HST := Lib.hid (restP_step (k := k) (keys := keys) hx)
      have hlen2 : (n : Int) < (items.length : Int) := by omega
      obtain ⟨W2, hW2⟩ : ∃ W2, W2 = wr.alloc (.cells (row4 x.kind (str x.text) y1 x.items.length yc1 y2 x.keys.length yc2) 27) := ⟨_, rfl⟩
      have P2 : PrS w B b acc W2 := by rw [hW2]; exact HP.out.below hbq ((Below.refl _ _).alloc (Nat.le_refl _) _)
      have R2 : rowC W2 w.heap.size (row4 k (str t) (some ad) items.length c1 x2 keys.length c2) 27 := by rw [hW2]; exact rowC_alloc HR.out _
      have X2 : rowC W2 wr.heap.size (row4 x.kind (str x.text) y1 x.items.length yc1 y2 x.keys.length yc2) 27 := by rw [hW2]; exact rowC_new _ _ _
      have hsz := HP.out.size
      have hbW2 : B ≤ W2.heap.size := by have := P2.size; have := HB.out; omega
      have g0 : W2.cell? ⟨w.heap.size, 0, none⟩ = some (.int .i64 k) := rowC_cell R2 0
      have g3 : W2.cell? ⟨w.heap.size, 3, none⟩ = some (.slice x2 keys.length c2) := rowC_cell R2 3
      have HW2 := Lib.hid hW2
      have HP2 := Lib.hid P2
      have HR2 := Lib.hid R2
      have HX2 := Lib.hid X2
      clear hW2 hx hF h4c hHx hc
      go_upto_region 5 with (first
        | ((with_reducible show wpList _ _ _ (⟨some 20, .load _ (.tmp 19), _, _, _, _⟩ :: _) _ _); refine wpList_load_at rfl 27 _ rfl (ad.add (n * 4)) rfl [.int .i64 x.kind, .string (str x.text), .slice y1 x.items.length yc1, .slice y2 x.keys.length yc2] _ L4.out Tryz.underlying27 rfl HIF.out ?_)
        | ((with_reducible show wpList _ _ _ (⟨none, .store _ (.tmp 9) (.tmp 20), _, _, _, _⟩ :: _) _ _); refine wpList_store_last rfl 27 _ _ rfl wr.heap.size (row4 x.kind (str x.text) y1 x.items.length yc1 y2 x.keys.length yc2) rfl rfl 27 zeroV4 rfl HIF.out rfl (row4_all _ _ _ _ _ _ _ _) ?_))
      rw [← HW2.out]
      have HX0 := Lib.hid hHx0
      clear hHx0
      rcases hk with rfl | rfl
      · clear HKK C58 g3
        by_cases h0 : n = 0
        · subst h0
          go_wp2_with (first
          | (go_at_call 22; first
              | ((with_reducible refine (C44 _ _ P2.pr hbW2).mono ?_); rintro e w3 ⟨rfl, h3⟩; have P2 := P2.trans h3; have hbW2 := Nat.le_trans hbW2 h3.size; have R2 := h3.row R2 (by have := HbB.out; omega) (by decide); have X2 := h3.row X2 (by have := HbB.out; omega) (by decide); have g0 : w3.cell? ⟨w.heap.size, 0, none⟩ = some (.int .i64 5) := rowC_cell R2 0)
              | ((with_reducible refine (C58 _ _ P2.pr hbW2).mono ?_); rintro e w5 ⟨rfl, h5⟩; have P2 := P2.trans h5; have hbW2 := Nat.le_trans hbW2 h5.size; have R2 := h5.row R2 (by have := HbB.out; omega) (by decide); have X2 := h5.row X2 (by have := HbB.out; omega) (by decide)))
          | (go_at_call 14; ((with_reducible refine (HIX.out _ B b _ _ _ _ _ P2.pr hbW2 (HE.out.far P2.bel H10.out) H10.out (HX0.out.far P2.bel)).mono ?_); rintro e w6 ⟨rfl, h6⟩; have P2 := P2.trans h6; have R2 := h6.row R2 (by have := HbB.out; omega) (by decide)))
          | ((with_reducible show wpList _ _ _ (⟨some 38, .load _ (.tmp 9), _, _, _, _⟩ :: _) _ _); refine wpList_load_row rfl 27 _ rfl wr.heap.size rfl 27 #[.int .i64 x.kind, .string (str x.text), .slice y1 x.items.length yc1, .slice y2 x.keys.length yc2] (0, 0) _ X2 Tryz.underlying27 rfl HIF.out ?_))
          go_roundg (items.length - (0 + 1))
          case measure => rw [HN.out]; omega
          case rel => exact ⟨0 + 1, _, rfl, Lib.hid rfl, Lib.hid (by omega), Lib.hid P2, Lib.hid R2, Lib.hid (by
            rw [← HQ.out, HST.out]
            simp only [reduceIte, Int.reduceEq, putsL_app, putsL_one, List.nil_append]
            try rfl)⟩
        · have hpos : (0 : Int) < (n : Int) := by omega
          go_wp2_with (first
          | (go_at_call 22; first
              | ((with_reducible refine (C44 _ _ P2.pr hbW2).mono ?_); rintro e w3 ⟨rfl, h3⟩; have P2 := P2.trans h3; have hbW2 := Nat.le_trans hbW2 h3.size; have R2 := h3.row R2 (by have := HbB.out; omega) (by decide); have X2 := h3.row X2 (by have := HbB.out; omega) (by decide); have g0 : w3.cell? ⟨w.heap.size, 0, none⟩ = some (.int .i64 5) := rowC_cell R2 0)
              | ((with_reducible refine (C58 _ _ P2.pr hbW2).mono ?_); rintro e w5 ⟨rfl, h5⟩; have P2 := P2.trans h5; have hbW2 := Nat.le_trans hbW2 h5.size; have R2 := h5.row R2 (by have := HbB.out; omega) (by decide); have X2 := h5.row X2 (by have := HbB.out; omega) (by decide)))
          | (go_at_call 14; ((with_reducible refine (HIX.out _ B b _ _ _ _ _ P2.pr hbW2 (HE.out.far P2.bel H10.out) H10.out (HX0.out.far P2.bel)).mono ?_); rintro e w6 ⟨rfl, h6⟩; have P2 := P2.trans h6; have R2 := h6.row R2 (by have := HbB.out; omega) (by decide)))
          | ((with_reducible show wpList _ _ _ (⟨some 38, .load _ (.tmp 9), _, _, _, _⟩ :: _) _ _); refine wpList_load_row rfl 27 _ rfl wr.heap.size rfl 27 #[.int .i64 x.kind, .string (str x.text), .slice y1 x.items.length yc1, .slice y2 x.keys.length yc2] (0, 0) _ X2 Tryz.underlying27 rfl HIF.out ?_))
          go_roundg (items.length - (n + 1))
          case measure => rw [HN.out]; omega
          case rel => exact ⟨n + 1, _, rfl, Lib.hid rfl, Lib.hid (by omega), Lib.hid P2, Lib.hid R2, Lib.hid (by
            rw [← HQ.out, HST.out]
            simp only [h0, reduceIte, Int.reduceEq, putsL_app, putsL_one, List.nil_append]
            try rfl)⟩
      · have hkl := HKL.out rfl
        obtain ⟨adk, rfl, hFk, hck⟩ := HKK.out n (by omega)
        have HKC : Hid (∀ w', Below B w w' → w'.cell? (adk.add n) = some (.string (str (keys.getD n [])))) := Lib.hid fun w' hb => cell_chg (chg_of_below hb) hck (by rw [add_block]; omega)
        have gk := HKC.out _ P2.bel
        have hn2 : (n : Int) < (keys.length : Int) := by omega
        clear HKK HKL hck hFk hkl
        generalize keys.getD n [] = kt at *
        by_cases h0 : n = 0
        · subst h0
          replace gk : W2.cell? adk = some (.string (str kt)) := gk
          go_wp2_with (first
          | (go_at_call 22; first
              | ((with_reducible refine (C44 _ _ P2.pr hbW2).mono ?_); rintro e w3 ⟨rfl, h3⟩; have P2 := P2.trans h3; have hbW2 := Nat.le_trans hbW2 h3.size; have R2 := h3.row R2 (by have := HbB.out; omega) (by decide); have X2 := h3.row X2 (by have := HbB.out; omega) (by decide); have g0 : w3.cell? ⟨w.heap.size, 0, none⟩ = some (.int .i64 6) := rowC_cell R2 0; have g3 : w3.cell? ⟨w.heap.size, 3, none⟩ = some (.slice (some adk) keys.length c2) := rowC_cell R2 3; have gk := HKC.out _ P2.bel)
              | ((with_reducible refine (C58 _ _ P2.pr hbW2).mono ?_); rintro e w5 ⟨rfl, h5⟩; have P2 := P2.trans h5; have hbW2 := Nat.le_trans hbW2 h5.size; have R2 := h5.row R2 (by have := HbB.out; omega) (by decide); have X2 := h5.row X2 (by have := HbB.out; omega) (by decide)))
          | (go_at_call 14; ((with_reducible refine (HIX.out _ B b _ _ _ _ _ P2.pr hbW2 (HE.out.far P2.bel H10.out) H10.out (HX0.out.far P2.bel)).mono ?_); rintro e w6 ⟨rfl, h6⟩; have P2 := P2.trans h6; have R2 := h6.row R2 (by have := HbB.out; omega) (by decide)))
          | (go_at_call 23; ((with_reducible refine (pquoted_any (kt) P2.pr hbW2 H10.out (HE.out.far P2.bel H10.out).tz).mono ?_); rintro e w4 ⟨rfl, h4⟩; have P2 := P2.trans h4; have hbW2 := Nat.le_trans hbW2 h4.size; have R2 := h4.row R2 (by have := HbB.out; omega) (by decide); have X2 := h4.row X2 (by have := HbB.out; omega) (by decide)))
          | ((with_reducible show wpList _ _ _ (⟨some 38, .load _ (.tmp 9), _, _, _, _⟩ :: _) _ _); refine wpList_load_row rfl 27 _ rfl wr.heap.size rfl 27 #[.int .i64 x.kind, .string (str x.text), .slice y1 x.items.length yc1, .slice y2 x.keys.length yc2] (0, 0) _ X2 Tryz.underlying27 rfl HIF.out ?_))
          go_roundg (items.length - (0 + 1))
          case measure => rw [HN.out]; omega
          case rel => exact ⟨0 + 1, _, rfl, Lib.hid rfl, Lib.hid (by omega), Lib.hid P2, Lib.hid R2, Lib.hid (by
            rw [← HQ.out, HST.out]
            simp only [reduceIte, Int.reduceEq, putsL_app, putsL_one, List.nil_append]
            try rfl)⟩
        · have hpos : (0 : Int) < (n : Int) := by omega
          go_wp2_with (first
          | (go_at_call 22; first
              | ((with_reducible refine (C44 _ _ P2.pr hbW2).mono ?_); rintro e w3 ⟨rfl, h3⟩; have P2 := P2.trans h3; have hbW2 := Nat.le_trans hbW2 h3.size; have R2 := h3.row R2 (by have := HbB.out; omega) (by decide); have X2 := h3.row X2 (by have := HbB.out; omega) (by decide); have g0 : w3.cell? ⟨w.heap.size, 0, none⟩ = some (.int .i64 6) := rowC_cell R2 0; have g3 : w3.cell? ⟨w.heap.size, 3, none⟩ = some (.slice (some adk) keys.length c2) := rowC_cell R2 3; have gk := HKC.out _ P2.bel)
              | ((with_reducible refine (C58 _ _ P2.pr hbW2).mono ?_); rintro e w5 ⟨rfl, h5⟩; have P2 := P2.trans h5; have hbW2 := Nat.le_trans hbW2 h5.size; have R2 := h5.row R2 (by have := HbB.out; omega) (by decide); have X2 := h5.row X2 (by have := HbB.out; omega) (by decide)))
          | (go_at_call 14; ((with_reducible refine (HIX.out _ B b _ _ _ _ _ P2.pr hbW2 (HE.out.far P2.bel H10.out) H10.out (HX0.out.far P2.bel)).mono ?_); rintro e w6 ⟨rfl, h6⟩; have P2 := P2.trans h6; have R2 := h6.row R2 (by have := HbB.out; omega) (by decide)))
          | (go_at_call 23; ((with_reducible refine (pquoted_any (kt) P2.pr hbW2 H10.out (HE.out.far P2.bel H10.out).tz).mono ?_); rintro e w4 ⟨rfl, h4⟩; have P2 := P2.trans h4; have hbW2 := Nat.le_trans hbW2 h4.size; have R2 := h4.row R2 (by have := HbB.out; omega) (by decide); have X2 := h4.row X2 (by have := HbB.out; omega) (by decide)))
          | ((with_reducible show wpList _ _ _ (⟨some 38, .load _ (.tmp 9), _, _, _, _⟩ :: _) _ _); refine wpList_load_row rfl 27 _ rfl wr.heap.size rfl 27 #[.int .i64 x.kind, .string (str x.text), .slice y1 x.items.length yc1, .slice y2 x.keys.length yc2] (0, 0) _ X2 Tryz.underlying27 rfl HIF.out ?_))
          go_roundg (items.length - (n + 1))
          case measure => rw [HN.out]; omega
          case rel => exact ⟨n + 1, _, rfl, Lib.hid rfl, Lib.hid (by omega), Lib.hid P2, Lib.hid R2, Lib.hid (by
            rw [← HQ.out, HST.out]
            simp only [h0, reduceIte, Int.reduceEq, putsL_app, putsL_one, List.nil_append]
            try rfl)⟩
    · have hn' : ¬ (n : Int) < (items.length : Int) := by omega
      have hbq : B ≤ wr.heap.size := by have := HB.out; have := HP.out.size; omega
      have HE2 : Hid (acc = putsL (putL l [p]) (restP k items keys 0)) := Lib.hid (by rw [← HQ.out, restP_end (by omega)]; rfl)
      clear HQ hn
      go_wp2_with (go_at_call 22; ((with_reducible refine (C2 _ _ HP.out.pr hbq).mono ?_); rintro e w4 ⟨rfl, h4⟩))
      go_end0
      rw [HFin.out, ← HE2.out]
      exact ⟨rfl, HP.out.trans h4⟩
end Go.Proofs.YtafmokpplnmbgaaGreatDoor

