/- Layer 11: a set of texts; a key. -/
import Derived.Test.YtlknngplnimdpaaGreatDoorJtM
import Derived.Maps.OwnSet
import Derived.Maps.OwnOps
namespace Go.Proofs.YtlknngplnimdpaaGreatDoor
open Go.RowKit Go.Maps

def litS (t : Bs) : Lit := .string t
def setS (seen : List Bs) : DataW Unit := setOf (.agg []) (seen.map litS)
/-- The map at block m is the set of these. -/
def SetM (w : World) (m : Nat) (seen : List Bs) : Prop := w.ownsMap Tryz.prog 9 (unitElem (H := Unit)) m seen.length (setS seen)
theorem SetM.chg {w w' : World} {m : Nat} {seen : List Bs} (h : SetM w m seen) {s : Nat → Prop} (hc : Chg s w w') (hs : ¬ s m) : SetM w' m seen := by
  obtain ⟨es, clock, h1, h2⟩ := h
  exact ⟨es, clock, (hc.block m (Array.getElem?_eq_some_iff.1 h1).1 hs).trans h1, h2⟩
theorem SetM.lt {w : World} {m : Nat} {seen : List Bs} (h : SetM w m seen) : m < w.heap.size := by
  obtain ⟨es, clock, h1, _⟩ := h
  exact (Array.getElem?_eq_some_iff.1 h1).1
theorem SetM.ne {w : World} {m q : Nat} {seen : List Bs} (h : SetM w m seen) {cs : Array Value} {t : TypeId} (hr : rowC w q cs t) : q ≠ m := by
  rintro rfl
  obtain ⟨es, clock, h1, _⟩ := h
  unfold rowC at hr
  rw [hr] at h1
  cases h1
theorem has_setS (seen : List Bs) (t : Bs) : Maps.has (setS seen) (litS t) = decide (t ∈ seen) := by
  unfold setS
  rw [has_setOf _ _ _ (fun y hy => by obtain ⟨_, _, rfl⟩ := List.mem_map.1 hy; trivial), List.any_map]
  induction seen with
  | nil => rfl
  | cons a r ih =>
    rw [List.any_cons, ih]
    have e : ((fun x : Lit => x.sameKey (litS t)) ∘ litS) a = (a == t) := rfl
    rw [e]
    by_cases h : a = t
    · subst h; simp
    · have h' : ¬ t = a := fun e => h e.symm
      simp [h, h']
theorem law_str : Keyed Tryz.prog 9 := string_keyed Tryz.underlying9
theorem key_str (t : Bs) (ht : t.length ≤ 262144) : keyOf Tryz.prog 9 (.string (str t)) = some (litS t) := by
  have h1 : (str t).size ≤ maxLen := by rw [str_size]; unfold maxLen; omega
  have h2 : (str t).data.toList = t := str_toList t
  simp [keyOf, mapKey, Tryz.underlying9, h1, h2, litS]
theorem zero_unit (w : World) : (zeroValue 233).run Tryz.prog w = .ok (.agg #[]) w := by kernel_rfl
/-- What a reading of a key says. -/
def saysK (w : World) (q m : Nat) (S r : Bs) (lev : Nat) (seen : List Bs) (R : Res Bs) (e : Ending) (w' : World) : Prop :=
  match R with
  | .ok t x => e = .returned (.tuple #[.string (str t), .nilIface]) ∧ t.length ≤ 262144 ∧ RdAt w' q S x lev ∧ SetM w' m (seen ++ [t]) ∧ Chg (fun k => k = q ∨ k = m) w w'
  | .bad code x => e = .returned (.tuple #[.string ⟨#[]⟩, errAt S code x]) ∧ (∃ x lev, RdAt w' q S x lev ∧ x <:+ r) ∧ Chg (fun k => k = q ∨ k = m) w w'
theorem saysK_ok {w w' : World} {q m : Nat} {S r x t : Bs} {lev : Nat} {seen : List Bs} {R : Res Bs} (hR : R = .ok t x) (hl : t.length ≤ 262144) (h : RdAt w' q S x lev) (h2 : SetM w' m (seen ++ [t])) (h3 : Chg (fun k => k = q ∨ k = m) w w') : saysK w q m S r lev seen R (.returned (.tuple #[.string (str t), .nilIface])) w' := by
  rw [hR]; exact ⟨rfl, hl, h, h2, h3⟩
theorem saysK_bad {w w' : World} {q m : Nat} {S r x : Bs} {lev code : Nat} {seen : List Bs} {R : Res Bs} (hR : R = .bad code x) (h : ∃ x lev, RdAt w' q S x lev ∧ x <:+ r) (h3 : Chg (fun k => k = q ∨ k = m) w w') : saysK w q m S r lev seen R (.returned (.tuple #[.string ⟨#[]⟩, errAt S code x])) w' := by
  rw [hR]; exact ⟨rfl, h, h3⟩
theorem dropB_suf (l : Bs) : dropB l <:+ l := by
  induction l with
  | nil => exact List.suffix_refl _
  | cons c l ih =>
    rw [dropB]
    split
    · exact ih.trans (List.suffix_cons c l)
    · exact List.suffix_refl _
theorem Chg.or {q m : Nat} {a b c : World} (h : Chg (fun k => k = q ∨ k = m) a b) (g : Chg (· = q) b c) : Chg (fun k => k = q ∨ k = m) a c := h.trans g (fun _ _ h => .inl h)
theorem Chg.toOr {q m : Nat} {a b : World} (h : Chg (· = q) a b) : Chg (fun k => k = q ∨ k = m) a b := h.mono (fun _ _ h => .inl h)
theorem quo_suf {n : Nat} {l t q : Bs} (h : quoP n l = some (.ok t q)) : q <:+ l := by
  have key : ∀ (n : Nat) {l acc t q : Bs}, strP n l acc = some (.ok t q) → q <:+ l := by
    intro n
    induction n with
    | zero => intro l acc t q h; cases h
    | succ n ih =>
      intro l acc t q h
      rw [strP] at h
      split at h
      · rw [Option.some.injEq, Res.ok.injEq] at h; rw [← h.2]; exact List.tail_suffix l
      · cases ho : oneP l with
        | bad k r => rw [ho] at h; cases h
        | ok c r => rw [ho] at h; exact (ih h).trans (one_suf ho)
  unfold quoP at h
  split at h
  · exact (key n h).trans (List.tail_suffix l)
  · cases h
set_option maxRecDepth 100000 in
set_option maxHeartbeats 4000000 in
theorem key_any {w : World} {q m : Nat} {S l : Bs} {lev N : Nat} {seen : List Bs} {R : Res Bs} (hS : okS S) (hE : Env w) (hq : 10 ≤ q) (h : RdAt w q S l lev) (hM : SetM w m seen) (hsl : seen.length ≤ 65536) (hR : keyP N seen l = some R) :
    Calls Tryz.prog 160 #[.pointer (some ⟨q, 0, none⟩), .map (some m)] w fun e w' => saysK w q m S l lev seen R e w' := by
  have hB := blanks_any h hS.T
  have hqm := hM.ne h.row
  have hlw := h.lt
  have HSf := Lib.hid (dropB_suf l)
  have hst := hR
  unfold keyP at hst
  generalize hl' : dropB l = l' at hB HSf hst
  cases hq1 : quoP N l' with
  | none => rw [hq1] at hst; cases hst
  | some Q =>
    rw [hq1] at hst
    have hQ := fun w' (hE' : Env w') (h' : RdAt w' q S l' lev) => quoted_any hS hE' hq h' hq1
    generalize hf : S.length - l'.length = f0
    have HF := Lib.hid hf
    have HE := Lib.hid hE
    have HM := Lib.hid hM
    have HS := Lib.hid hS
    cases Q with
    | bad code x =>
      have HQ := Lib.hid (show R = .bad code x from (Option.some.inj hst).symm)
      unfold saysT errAt errV at hQ
      clear hst hq1 hR hf hE hM hS hl'
      go_enter Tryz.func160, Tryz.ntmps160
      go_wp2_with (first
        | (go_at_call 99; ((with_reducible refine hB.mono ?_); rintro e w1 ⟨rfl, h1, c1⟩; obtain ⟨_, d1, _⟩ := h1.cell; rw [HF.out] at d1; have E1 := HE.out.q c1 hq))
        | (go_at_call 134; ((with_reducible refine (hQ _ E1 h1).mono ?_); rintro e w2 ⟨rfl, hb⟩)))
      go_ret2
      obtain ⟨⟨y, ly, hy1, hy2⟩, hy3⟩ := hb
      exact saysK_bad HQ.out ⟨y, ly, hy1, hy2.trans HSf.out⟩ (c1.two hy3).toOr
    | ok t x =>
      unfold saysT okP at hQ
      dsimp only at hst
      have HXS := Lib.hid ((quo_suf hq1).trans HSf.out)
      have hxB := fun w' (h' : RdAt w' q S x lev) => blanks_any h' hS.T
      by_cases hin : t ∈ seen
      · rw [if_pos hin, Option.some.injEq] at hst
        have HQ := Lib.hid hst.symm
        have hhas : Maps.has (setS seen) (litS t) = true := by rw [has_setS]; simpa using hin
        clear hst hq1 hR hf hE hM hS hl' hin hxB
        go_enter Tryz.func160, Tryz.ntmps160
        go_wp2_with (first
          | (go_at_call 99; ((with_reducible refine hB.mono ?_); rintro e w1 ⟨rfl, h1, c1⟩; obtain ⟨_, d1, _⟩ := h1.cell; rw [HF.out] at d1; have E1 := HE.out.q c1 hq))
          | (go_at_call 134; ((with_reducible refine (hQ _ E1 h1).mono ?_); rintro e w2 ⟨rfl, hl2, h2, c2⟩; have M2 := HM.out.chg (c1.two c2) (fun e => hqm e.symm); have HK := Lib.hid (key_str t (by have := HS.out; unfold okS at this; omega))))
          | (at_lookup; refine wpList_lookup_own_unit _ rfl _ _ 231 rfl 9 233 law_str Tryz.underlying231 (zero_unit _) m _ _ rfl M2 _ _ rfl HK.out ?_)
          | (go_at_call 100; ((with_reducible refine (unfit_any f0 _ rfl _).mono ?_); rintro e w5 ⟨rfl, rfl⟩; unfold errV)))
        go_ret2
        have := saysK_bad (w := w) (w' := w2.alloc (.cells #[] 233)) (q := q) (m := m) (S := S) (r := l) (lev := lev) (seen := seen) HQ.out ⟨x, lev, h2.below ((Below.refl _ _).alloc (Nat.le_refl _) _), HXS.out⟩ ((c1.two c2).alloc _).toOr
        unfold errAt at this
        rw [HF.out] at this
        exact this
      · rw [if_neg hin] at hst
        have hhas : Maps.has (setS seen) (litS t) = false := by rw [has_setS]; simpa using hin
        have HSN := Lib.hid (show (seen ++ [t]).length = seen.length + 1 ∧ setS (seen ++ [t]) = (setS seen).put (litS t) (.agg []) from ⟨by simp, by unfold setS; rw [List.map_append]; exact setOf_snoc _ _ _⟩)
        have HXB := Lib.hid (dropB_suf x)
        generalize hx' : dropB x = x' at hxB hst HXB
        by_cases h58 : hd x' = 58
        · rw [if_pos h58, Option.some.injEq] at hst
          have HQ := Lib.hid hst.symm
          have T1 := take_T (q := q) (lev := lev) hS.T 58 58 rfl (by decide) h58
          clear hst hq1 hR hf hE hM hS hl' hin hx' h58
          go_enter Tryz.func160, Tryz.ntmps160
          go_wp2_with (first
          | (go_at_call 99; ((with_reducible refine hB.mono ?_); rintro e w1 ⟨rfl, h1, c1⟩; obtain ⟨_, d1, _⟩ := h1.cell; rw [HF.out] at d1; have E1 := HE.out.q c1 hq))
          | (go_at_call 134; ((with_reducible refine (hQ _ E1 h1).mono ?_); rintro e w2 ⟨rfl, hl2, h2, c2⟩; have M2 := HM.out.chg (c1.two c2) (fun e => hqm e.symm); have HK := Lib.hid (key_str t (by have := HS.out; unfold okS at this; omega))))
          | (at_lookup; refine wpList_lookup_own_unit _ rfl _ _ 231 rfl 9 233 law_str Tryz.underlying231 (zero_unit _) m _ _ rfl M2 _ _ rfl HK.out ?_)
          | (at_mapUpdate; refine wpList_mapUpdate_own _ rfl _ _ _ 231 rfl 9 233 law_str Tryz.underlying231 (unitElem (H := Unit)) m seen.length _ rfl (M2.alloc _) (by unfold maxLen; omega) _ _ _ rfl rfl HK.out _ [] unitElem_mk ?_; intro w3 hown3 hgrow3; have hc3 : Chg (· = m) w2 w3 := ((Chg.refl _ w2).alloc _).grown hgrow3 (fun k hk => .inl (Option.some.inj hk).symm); have h3 := h2.chg hc3 hqm; have M3 := Lib.hid hown3; clear hown3 hgrow3)
          | (go_at_call 99; ((with_reducible refine (hxB _ h3).mono ?_); rintro e w4 ⟨rfl, h4, c4⟩))
          | (go_at_call 138; ((with_reducible refine (T1 _ h4).mono ?_); rintro e w5 ⟨rfl, h5, c5⟩)))
          go_ret2
          have hSS := HS.out
          unfold okS at hSS
          have hch : Chg (fun k => k = q ∨ k = m) w w3 := (c1.two c2).toOr.trans hc3 (fun k _ h => .inr h)
          have hM4 : SetM w5 m (seen ++ [t]) := by
            refine SetM.chg (w := w3) ?_ (c4.two c5) (fun e => hqm e.symm)
            unfold SetM
            rw [HSN.out.1, HSN.out.2]
            exact M3.out
          exact saysK_ok HQ.out (by omega) h5 hM4 ((hch.or c4).or c5)
        · rw [if_neg h58, Option.some.injEq] at hst
          have HQ := Lib.hid hst.symm
          have T1 := take_F (q := q) (lev := lev) hS.T 58 58 rfl (by decide) h58
          generalize hg : S.length - x'.length = g0
          have HG := Lib.hid hg
          clear hst hq1 hR hf hE hM hS hl' hin hx' h58 hg
          go_enter Tryz.func160, Tryz.ntmps160
          go_wp2_with (first
          | (go_at_call 99; ((with_reducible refine hB.mono ?_); rintro e w1 ⟨rfl, h1, c1⟩; obtain ⟨_, d1, _⟩ := h1.cell; rw [HF.out] at d1; have E1 := HE.out.q c1 hq))
          | (go_at_call 134; ((with_reducible refine (hQ _ E1 h1).mono ?_); rintro e w2 ⟨rfl, hl2, h2, c2⟩; have M2 := HM.out.chg (c1.two c2) (fun e => hqm e.symm); have HK := Lib.hid (key_str t (by have := HS.out; unfold okS at this; omega))))
          | (at_lookup; refine wpList_lookup_own_unit _ rfl _ _ 231 rfl 9 233 law_str Tryz.underlying231 (zero_unit _) m _ _ rfl M2 _ _ rfl HK.out ?_)
          | (at_mapUpdate; refine wpList_mapUpdate_own _ rfl _ _ _ 231 rfl 9 233 law_str Tryz.underlying231 (unitElem (H := Unit)) m seen.length _ rfl (M2.alloc _) (by unfold maxLen; omega) _ _ _ rfl rfl HK.out _ [] unitElem_mk ?_; intro w3 hown3 hgrow3; have hc3 : Chg (· = m) w2 w3 := ((Chg.refl _ w2).alloc _).grown hgrow3 (fun k hk => .inl (Option.some.inj hk).symm); have h3 := h2.chg hc3 hqm; have M3 := Lib.hid hown3; clear hown3 hgrow3)
          | (go_at_call 99; ((with_reducible refine (hxB _ h3).mono ?_); rintro e w4 ⟨rfl, h4, c4⟩))
          | (go_at_call 138; ((with_reducible refine (T1 _ h4).mono ?_); rintro e w5 ⟨rfl, h5, c5⟩; obtain ⟨_, d5, _⟩ := h5.cell; rw [HG.out] at d5))
          | (go_at_call 100; ((with_reducible refine (unfit_any g0 _ rfl _).mono ?_); rintro e w6 ⟨rfl, rfl⟩; unfold errV)))
          go_ret2
          have hch : Chg (fun k => k = q ∨ k = m) w w3 := (c1.two c2).toOr.trans hc3 (fun k _ h => .inr h)
          have := saysK_bad (w := w) (w' := w5) (q := q) (m := m) (S := S) (r := l) (lev := lev) (seen := seen) HQ.out ⟨x', lev, h5, HXB.out.trans HXS.out⟩ ((hch.or c4).or c5)
          unfold errAt at this
          rw [HG.out] at this
          exact this
end Go.Proofs.YtlknngplnimdpaaGreatDoor
