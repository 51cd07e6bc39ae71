/- Layer 16, plainly: what is taken away of the family's trees, and what is not. -/
import Derived.Test.YtokeiagcdahmaaaDoorTuD
namespace Go.Proofs.YtokeiagcdahmaaaDoor

/-- The ground of a family's nodes: every place of layer 0. -/
theorem ground_fam {g : List Pl} (h : Fam g) : Fam (groundOf (g.map Pl.nd)) ∧ (∀ q, lookG (groundOf (g.map Pl.nd)) q = (lookG g q).map fun p => ⟨p.nd, 0⟩) := by
  have hne : (g.map Pl.nd).Pairwise (fun a b => a.path ≠ b.path) := (rise_map h.r).imp fun hb => bb_ne hb
  have hl : ∀ q, lookG (groundOf (g.map Pl.nd)) q = (lookG g q).map fun p => ⟨p.nd, 0⟩ := fun q => by
    rw [ground_look _ hne, find_map]
    cases lookG g q <;> rfl
  refine ⟨⟨ground_rise _, fun p hp => ?_, fun r s hr hs h0 hx => ?_⟩, hl⟩
  · have h1 := look_of (ground_rise _) hp
    rw [hl] at h1
    cases hg : lookG g p.nd.path with
    | none => rw [hg] at h1; cases h1
    | some q =>
      rw [hg] at h1
      simp only [Option.map_some, Option.some.injEq] at h1
      have := h.m q (look_some hg).1
      unfold Mem at this ⊢
      rw [← h1]
      exact this
  · rw [hl] at hx ⊢
    have := h.d r s hr hs h0 (fun e => hx (by rw [e]; rfl))
    cases hg : lookG g (dirN r) with
    | none => exact absurd hg this
    | some q => simp
theorem filter_none {α : Type} {f : α → Bool} : (none : Option α).filter f = none := rfl
/-- What is in a directory of the family's. -/
theorem mem_inside {p : Pl} (h : Mem p) {r s : Nat} (hr : r < 3) (hs : s < 6) : insideB (pathRS r s) p.nd.path = decide (p.nd.path = pathRS r s) := by
  rcases h with e | e | ⟨r', s', h1, h2, d, hd, e⟩
  · rw [e]
    show insideB (pathRS r s) [97] = decide ([97] = pathRS r s)
    rw [(f_indir hr hs).1, decide_eq_false (fun e2 => (f_ne hr hs).2.1 e2.symm)]
  · rw [e]
    show insideB (pathRS r s) [98] = decide ([98] = pathRS r s)
    rw [(f_indir hr hs).2, decide_eq_false (fun e2 => (f_ne hr hs).2.2 e2.symm)]
  · rw [e]
    exact f_in hr hs h1 h2
theorem mem_ina {p : Pl} (h : Mem p) : (!decide (p.nd.path = [97]) && insideB [97] p.nd.path) = goneB p.nd.path := by
  rcases h with e | e | ⟨r', s', h1, h2, d, hd, e⟩
  · rw [e]; decide +kernel
  · rw [e]; decide +kernel
  · rw [e]
    show (!decide (pathRS r' s' = [97]) && insideB [97] (pathRS r' s')) = goneB (pathRS r' s')
    rw [f_ina h1 h2, f_gone h1 h2, decide_eq_false (f_ne h1 h2).2.1]
    rfl
/-- A file that is taken away. -/
theorem step_white {g : List Pl} (h : Fam g) (k : Int) {r s : Nat} (hr : r < 3) (hs : s < 6) :
    ∃ g', stepT k g (fileE (whP (pathRS r s)) []) = (g', 0) ∧ g'.length ≤ g.length ∧ ∀ q, lookG g' q = (lookG g q).filter fun p => !(!decide (p.lay = k) && decide (p.nd.path = pathRS r s)) := by
  have hc := f_wclean hr hs
  have hb := f_wbase hr hs
  refine ⟨_, stepT_wh (P := whP (pathRS r s)) (by show _ = (cleanL (whP (pathRS r s))).1; rw [hc.1]) (by show (cleanL (whP (pathRS r s))).2 = 0; rw [hc.1]) hc.2 (by rw [hb]), ?_, fun q => ?_⟩
  · unfold takeG
    exact List.length_filter_le _ _
  · rw [hb]
    rw [takeG_from, look_filter h.r, f_wjoin hr hs]
    cases hl : lookG g q with
    | none => rfl
    | some p =>
      have hm := h.m p (look_some hl).1
      rw [Option.filter_some, Option.filter_some, mem_inside hm hr hs]
/-- An opaque directory a. -/
theorem step_opq {g : List Pl} (h : Fam g) (k : Int) (hk : ∀ p ∈ g, p.lay ≠ k) :
    ∃ g', stepT k g (fileE opqN []) = (g', 0) ∧ g'.length ≤ g.length ∧ Fam g' ∧ ∀ q, lookG g' q = (lookG g q).filter fun p => !goneB p.nd.path := by
  obtain ⟨h1, h2, h3, h4⟩ := f_opq
  have hl : ∀ q, lookG (takeG k g [97] [] true) q = (lookG g q).filter fun p => !goneB p.nd.path := fun q => by
    rw [takeG_in, look_filter h.r]
    cases hl : lookG g q with
    | none => rfl
    | some p =>
      have hp := (look_some hl).1
      rw [Option.filter_some, Option.filter_some, mem_ina (h.m p hp), decide_eq_false (hk p hp)]
      rfl
  refine ⟨takeG k g [97] [] true, ?_, ?_, ⟨?_, fun p hp => ?_, fun r s hr hs h0 hx => ?_⟩, hl⟩
  · have := stepT_wh (k := k) (g := g) (x := fileE opqN []) (P := opqN) (by show _ = (cleanL opqN).1; rw [h1]) (by show (cleanL opqN).2 = 0; rw [h1]) h2 (by rw [h3])
    rw [this, h3, h4]
  · unfold takeG
    exact List.length_filter_le _ _
  · exact rise_filter h.r _
  · exact h.m p (List.mem_filter.1 hp).1
  · rw [hl] at hx ⊢
    cases hg : lookG g (pathRS r s) with
    | none => rw [hg] at hx; exact absurd rfl hx
    | some p =>
      rw [hg, Option.filter_some] at hx
      have hpp := (look_some hg).2
      have hgo : goneB (pathRS r s) = false := by
        cases hgb : goneB (pathRS r s)
        · rfl
        · rw [hpp, hgb] at hx
          exact absurd rfl hx
      rw [f_gone hr hs, decide_eq_false_iff_not] at hgo
      have hr2 : r = 2 := by omega
      subst hr2
      cases hd : lookG g (dirN 2) with
      | none => exact absurd hd (h.d 2 s hr hs h0 (by rw [hg]; simp))
      | some d =>
        rw [Option.filter_some, (look_some hd).2]
        have : goneB (dirN 2) = false := by decide +kernel
        rw [this]
        simp
def condB (p : Nd) (a b : Option Nd) (x y : List UInt8) : Bool :=
  (!decide (p.path = x) && (!a.isSome || (!decide (p.path = y) && !decide (a.getD nd0 = p)))) || (goneB p.path && (b.isSome != decide (p.path = y))) ||
    (!goneB p.path && (!b.isSome || (!decide (p.path = y) && !decide (b.getD nd0 = p) && decide (p.kind = 1))))
/-- All that the law asks. -/
structure Hides (L M N : List Nd) (x y : List UInt8) : Prop where
  gone : (findN M x).isSome = decide (x = y)
  all : ∀ p ∈ L, condB p (findN M p.path) (findN N p.path) x y = false
  last : ∃ z, findN M y = some z ∧ z.data = [50]
structure Szs (L : List Nd) : Prop where
  len : L.length ≤ 100
  sz : ∀ n ∈ L, n.path.length ≤ 900000 ∧ n.data.length ≤ 900000
theorem szs_of {g : List Pl} (h : SzG g) (hl : g.length ≤ 100) : Szs (g.map Pl.nd) := by
  refine ⟨by rw [List.length_map]; exact hl, fun n hn => ?_⟩
  obtain ⟨p, hp, rfl⟩ := List.mem_map.1 hn
  have := h p hp
  omega
theorem fam_sz {g : List Pl} (h : Fam g) : SzG g := fun p hp => by
  rcases h.m p hp with e | e | ⟨r, s, h1, h2, d, hd, e⟩
  · rw [e]; decide +kernel
  · rw [e]; decide +kernel
  · rw [e]
    have := (f_len h1 h2).1
    exact ⟨by show (pathRS r s).length ≤ 200; omega, by show d.length ≤ 65536; omega⟩
theorem hides {g : List Pl} (h : Fam g) (hlen : g.length ≤ 40) {rx sx ry sy : Nat} (hrx : rx < 3) (hsx : sx < 6) (hry : ry < 3) (hsy : sy < 6) :
    ∃ M N, applyT (g.map Pl.nd) [fileE (pathRS ry sy) [50], fileE (whP (pathRS rx sx)) []] = (M, 0) ∧ applyT (g.map Pl.nd) [fileE opqN [], fileE (pathRS ry sy) [50]] = (N, 0) ∧ Szs M ∧ Szs N ∧
      Hides (g.map Pl.nd) M N (pathRS rx sx) (pathRS ry sy) := by
  obtain ⟨hF0, hL0⟩ := ground_fam h
  have hlay : ∀ p ∈ groundOf (g.map Pl.nd), p.lay = 0 := fun p hp => by
    have h1 := look_of (ground_rise _) hp
    rw [hL0] at h1
    cases hg : lookG g p.nd.path with
    | none => rw [hg] at h1; cases h1
    | some q =>
      rw [hg] at h1
      simp only [Option.map_some, Option.some.injEq] at h1
      rw [← h1]
  have hg0 := ground_len (g.map Pl.nd)
  rw [List.length_map] at hg0
  have hct := fam_tree h (by omega)
  generalize hG : groundOf (g.map Pl.nd) = g0 at *
  -- M
  have hs1 := step_file hF0 1 hry hsy (d := [50]) (Nat.le_refl _)
  have hFy := fam_fileG hF0 1 hry hsy (d := [50]) (Nat.le_refl _)
  have hly := file_len 1 ry sy [50] g0
  obtain ⟨gm, hm1, hm2, hm3⟩ := step_white hFy 1 hrx hsx
  have hsM : stepsT 1 g0 [fileE (pathRS ry sy) [50], fileE (whP (pathRS rx sx)) []] = (gm, 0) := by
    rw [stepsT_cons, hs1, if_pos (by rfl), stepsT_cons]
    simp only
    rw [hm1, if_pos (by rfl)]
    rfl
  have hlM := lays_ok (by simp) hsM (by omega)
  -- N
  obtain ⟨go, ho1, ho2, ho3, ho4⟩ := step_opq hF0 1 (fun p hp => by rw [hlay p hp]; decide)
  have hs2 := step_file ho3 1 hry hsy (d := [50]) (Nat.le_refl _)
  have hFn := fam_fileG ho3 1 hry hsy (d := [50]) (Nat.le_refl _)
  have hln := file_len 1 ry sy [50] go
  have hsN : stepsT 1 g0 [fileE opqN [], fileE (pathRS ry sy) [50]] = (fileG 1 ry sy [50] go, 0) := by
    rw [stepsT_cons, ho1, if_pos (by rfl), stepsT_cons]
    simp only
    rw [hs2, if_pos (by rfl)]
    rfl
  have hlN := lays_ok (by simp) hsN (by omega)
  have hszm : SzG gm := fun p hp => by
    have h1 : OkG g0 := ⟨hF0.r, fam_sz hF0⟩
    have := (laysT_ok h1 (by rw [hlM])).1.s
    rw [hlM] at this
    exact this p hp
  refine ⟨gm.map Pl.nd, (fileG 1 ry sy [50] go).map Pl.nd, ?_, ?_, szs_of hszm (by omega), szs_of (fam_sz hFn) (by omega), ?_, ?_, ?_⟩
  · rw [applyT_ok hct (by rw [hG, hlM]), hG, hlM]
  · rw [applyT_ok hct (by rw [hG, hlN]), hG, hlN]
  · rw [find_map, hm3, file_look hF0.r]
    by_cases e : pathRS rx sx = pathRS ry sy
    · rw [if_pos e, Option.filter_some, decide_eq_true e]
      simp
    · rw [if_neg e, if_neg (fun hh => dir_rs hry hh.1 hrx hsx hh.2.symm), decide_eq_false e]
      cases hl : lookG g0 (pathRS rx sx) with
      | none => rfl
      | some p =>
        obtain ⟨hp1, hp2⟩ := look_some hl
        rw [Option.filter_some, hlay p hp1, decide_eq_true hp2]
        rfl
  · intro p hp
    obtain ⟨q, hq, rfl⟩ := List.mem_map.1 hp
    have hlq := look_of h.r hq
    have hl0 : lookG g0 q.nd.path = some ⟨q.nd, 0⟩ := by rw [hL0, hlq]; rfl
    have hmem := h.m q hq
    unfold condB
    rw [find_map, find_map, hm3, file_look hF0.r, file_look ho3.r, ho4, hl0]
    by_cases e : q.nd.path = pathRS ry sy
    · rw [if_pos e, if_pos e, e, Option.filter_some, decide_eq_true rfl]
      by_cases e2 : pathRS ry sy = pathRS rx sx
      · simp [e2]
      · simp [e2]
    · rw [if_neg e, if_neg e, decide_eq_false e]
      by_cases e3 : ry ≠ 0 ∧ q.nd.path = dirN ry
      · rw [if_pos e3, if_pos e3]
        have hqd : q.nd = dirNd ry := fam_dir h hry e3.1 (by rw [← e3.2]; exact hlq)
        have hgo : goneB q.nd.path = false := by
          rw [e3.2]
          have : ry = 1 ∨ ry = 2 := by omega
          rcases this with rfl | rfl <;> decide +kernel
        rw [Option.filter_some, hgo, hqd]
        simp [dirNd, dir_rs hry e3.1 hrx hsx]
      · rw [if_neg e3, if_neg e3, Option.filter_some, Option.filter_some]
        cases hgo : goneB q.nd.path with
        | true =>
          by_cases e2 : q.nd.path = pathRS rx sx
          · simp [e2]
          · simp [e2]
        | false =>
          by_cases e2 : q.nd.path = pathRS rx sx
          · simp [e2]
          · simp [e2]
  · refine ⟨⟨pathRS ry sy, 1, 0, [50]⟩, ?_, rfl⟩
    rw [find_map, hm3, file_look hF0.r, if_pos rfl, Option.filter_some]
    simp
end Go.Proofs.YtokeiagcdahmaaaDoor
#print axioms Go.Proofs.YtokeiagcdahmaaaDoor.hides
