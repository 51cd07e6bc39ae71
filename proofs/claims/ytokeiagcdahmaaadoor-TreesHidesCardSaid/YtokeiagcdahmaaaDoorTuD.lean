/- Layer 16, plainly: what the family's layers come to. -/
import Derived.Test.YtokeiagcdahmaaaDoorTuC
namespace Go.Proofs.YtokeiagcdahmaaaDoor

def dirNd (r : Nat) : Nd := ⟨dirN r, 2, 493, []⟩
/-- A family's place: a directory, or a file. -/
def Mem (p : Pl) : Prop := p.nd = dirNd 1 ∨ p.nd = dirNd 2 ∨ ∃ r s, r < 3 ∧ s < 6 ∧ ∃ d, d.length ≤ 1 ∧ p.nd = ⟨pathRS r s, 1, 0, d⟩
structure Fam (g : List Pl) : Prop where
  r : Rise g
  m : ∀ p ∈ g, Mem p
  d : ∀ r s, r < 3 → s < 6 → r ≠ 0 → lookG g (pathRS r s) ≠ none → lookG g (dirN r) ≠ none
theorem dir_rs {r r' s : Nat} (hr : r < 3) (h0 : r ≠ 0) (hr' : r' < 3) (hs : s < 6) : dirN r ≠ pathRS r' s := fun e => by
  have := f_ne hr' hs
  have h : r = 1 ∨ r = 2 := by omega
  rcases h with rfl | rfl
  · exact this.2.1 e.symm
  · exact this.2.2 e.symm
/-- What is at a directory's path is the directory. -/
theorem fam_dir {g : List Pl} (h : Fam g) {r : Nat} (hr : r < 3) (h0 : r ≠ 0) {p : Pl} (hl : lookG g (dirN r) = some p) : p.nd = dirNd r := by
  obtain ⟨hp, he⟩ := look_some hl
  have hr2 : r = 1 ∨ r = 2 := by omega
  rcases h.m p hp with e | e | ⟨r', s, h1, h2, d, hd, e⟩
  · rw [e] at he
    rcases hr2 with rfl | rfl
    · exact e
    · exact absurd he (by decide)
  · rw [e] at he
    rcases hr2 with rfl | rfl
    · exact absurd he (by decide)
    · exact e
  · rw [e] at he
    exact absurd he.symm (dir_rs hr h0 h1 h2)
theorem fam_file {g : List Pl} (h : Fam g) {r s : Nat} (hr : r < 3) (hs : s < 6) {p : Pl} (hl : lookG g (pathRS r s) = some p) : p.nd.kind = 1 := by
  obtain ⟨hp, he⟩ := look_some hl
  rcases h.m p hp with e | e | ⟨r', s', h1, h2, d, hd, e⟩
  · rw [e] at he
    exact absurd he (dir_rs (r := 1) (by decide) (by decide) hr hs)
  · rw [e] at he
    exact absurd he (dir_rs (r := 2) (by decide) (by decide) hr hs)
  · rw [e]
/-- A file of the family is laid. -/
def inG (k : Int) (r : Nat) (g : List Pl) : List Pl := if r = 0 then g else putG g ⟨dirNd r, k⟩
def fileG (k : Int) (r s : Nat) (d : List UInt8) (g : List Pl) : List Pl := putG (inG k r g) ⟨⟨pathRS r s, 1, 0, d⟩, k⟩
theorem enter_fam {g : List Pl} (h : Fam g) (k : Int) {r : Nat} (hr : r < 3) : enterG k (dirN r) g = some (inG k r g) := by
  unfold inG
  by_cases h0 : r = 0
  · subst h0
    rw [if_pos rfl]
    exact enterG_nil k g
  · rw [if_neg h0]
    obtain ⟨h1, h2, h3⟩ := f_dir hr h0
    rw [enterG_step k h1, h2, enterG_nil]
    simp only
    cases hl : lookG g (dirN r) with
    | none => rfl
    | some p =>
      have := fam_dir h hr h0 hl
      simp only
      rw [this, if_pos (by rfl)]
theorem rise_in {g : List Pl} (h : Rise g) (k : Int) (r : Nat) : Rise (inG k r g) := by
  unfold inG
  split
  · exact h
  · exact rise_put h _
theorem in_look {g : List Pl} (h : Rise g) (k : Int) {r : Nat} (s : List UInt8) : lookG (inG k r g) s = if r ≠ 0 ∧ s = dirN r then some ⟨dirNd r, k⟩ else lookG g s := by
  unfold inG
  by_cases h0 : r = 0
  · rw [if_pos h0, if_neg (fun h => h.1 h0)]
  · rw [if_neg h0, look_put h]
    show (if s = dirN r then _ else _) = _
    by_cases hs : s = dirN r
    · rw [if_pos hs, if_pos ⟨h0, hs⟩]
    · rw [if_neg hs, if_neg (fun h => hs h.2)]
theorem file_look {g : List Pl} (h : Rise g) (k : Int) {r s : Nat} (d q : List UInt8) : lookG (fileG k r s d g) q = if q = pathRS r s then some ⟨⟨pathRS r s, 1, 0, d⟩, k⟩ else if r ≠ 0 ∧ q = dirN r then some ⟨dirNd r, k⟩ else lookG g q := by
  unfold fileG
  rw [look_put (rise_in h k r), in_look h]
theorem fam_fileG {g : List Pl} (h : Fam g) (k : Int) {r s : Nat} (hr : r < 3) (hs : s < 6) {d : List UInt8} (hd : d.length ≤ 1) : Fam (fileG k r s d g) := by
  refine ⟨rise_put (rise_in h.r k r) _, fun p hp => ?_, fun r' s' hr' hs' h0 hne => ?_⟩
  · rcases put_mem.1 hp with rfl | ⟨hp, _⟩
    · exact .inr (.inr ⟨r, s, hr, hs, d, hd, rfl⟩)
    · unfold inG at hp
      split at hp
      · exact h.m p hp
      · rename_i h0
        rcases put_mem.1 hp with rfl | ⟨hp, _⟩
        · have : r = 1 ∨ r = 2 := by omega
          rcases this with rfl | rfl
          · exact .inl rfl
          · exact .inr (.inl rfl)
        · exact h.m p hp
  · rw [file_look h.r] at hne ⊢
    rw [if_neg (dir_rs hr' h0 hr hs)]
    by_cases h1 : r ≠ 0 ∧ dirN r' = dirN r
    · rw [if_pos h1]; simp
    · rw [if_neg h1]
      by_cases e : pathRS r' s' = pathRS r s
      · exfalso
        have e2 : dirN r' = dirN r := by rw [← f_parent hr' hs', ← f_parent hr hs, e]
        refine h1 ⟨fun hz => ?_, e2⟩
        rw [hz] at e2
        exact (f_dir hr' h0).1 e2
      · rw [if_neg e, if_neg (fun hh => dir_rs hr hh.1 hr' hs' hh.2.symm)] at hne
        exact h.d r' s' hr' hs' h0 hne
theorem may_file {r s : Nat} (hr : r < 3) (hs : s < 6) {d : List UInt8} (hd : d.length ≤ 1) : mayN ⟨pathRS r s, 1, 0, d⟩ = true := by
  unfold mayN
  have hk : kindN ⟨pathRS r s, 1, 0, d⟩ = true := by
    unfold kindN
    rw [if_pos rfl]
    exact decide_eq_true (by show d.length ≤ 65536; omega)
  simp only [hk, f_clean hr hs, decide_eq_false (f_ne hr hs).1]
  rfl
/-- The step of a file of the family. -/
theorem step_file {g : List Pl} (h : Fam g) (k : Int) {r s : Nat} (hr : r < 3) (hs : s < 6) {d : List UInt8} (hd : d.length ≤ 1) : stepT k g (fileE (pathRS r s) d) = (fileG k r s d g, 0) := by
  have hc := f_clean hr hs
  have hb := f_base hr hs
  rw [stepT_in (P := pathRS r s) (by show _ = (cleanL (pathRS r s)).1; rw [hc]) (by show (cleanL (pathRS r s)).2 = 0; rw [hc]) (f_ne hr hs).1 (by rw [hb]), f_parent hr hs, enter_fam h k hr]
  simp only
  have hn : nodeG (inG k r g) (fileE (pathRS r s) d) (pathRS r s) = (⟨pathRS r s, 1, 0, d⟩, 0) := by
    rw [nodeG_file (by rfl)]
    exact if_pos (may_file hr hs hd)
  rw [hn]
  simp only
  rw [if_pos (by trivial)]
  have hdir : isDir (inG k r g) (pathRS r s) = false := by
    unfold isDir
    rw [in_look h.r, if_neg (fun hh => dir_rs hr hh.1 hr hs hh.2.symm)]
    cases hl : lookG g (pathRS r s) with
    | none => rfl
    | some p =>
      have := fam_file h hr hs hl
      simp only
      rw [this]
      rfl
  unfold layG fileG
  simp only
  rw [hdir]
  rfl
theorem file_len (k : Int) (r s : Nat) (d : List UInt8) (g : List Pl) : (fileG k r s d g).length ≤ g.length + 2 := by
  unfold fileG inG
  have h1 := put_len (if r = 0 then g else putG g ⟨dirNd r, k⟩) ⟨⟨pathRS r s, 1, 0, d⟩, k⟩
  have h2 := put_len g ⟨dirNd r, k⟩
  split at h1 <;> simp_all <;> omega
theorem fam_tree {g : List Pl} (h : Fam g) (hlen : g.length ≤ 400) : checkT (g.map Pl.nd) = 0 := by
  refine tree_of h.r (fun p hp => ?_) (fun p hp => ?_) hlen
  · rcases h.m p hp with e | e | ⟨r, s, h1, h2, d, hd, e⟩
    · rw [e]; decide +kernel
    · rw [e]; decide +kernel
    · rw [e]; exact may_file h1 h2 hd
  · rcases h.m p hp with e | e | ⟨r, s, h1, h2, d, hd, e⟩
    · left; rw [e]; decide +kernel
    · left; rw [e]; decide +kernel
    · have hpath : p.nd.path = pathRS r s := by rw [e]
      rw [hpath, f_parent h1 h2]
      by_cases h0 : r = 0
      · left; rw [h0]; rfl
      · right
        have hl := look_of h.r hp
        rw [hpath] at hl
        have := h.d r s h1 h2 h0 (by rw [hl]; simp)
        cases hq : lookG g (dirN r) with
        | none => exact absurd hq this
        | some q =>
          obtain ⟨hq1, hq2⟩ := look_some hq
          exact ⟨q, hq1, hq2, by rw [fam_dir h h1 h0 hq]; rfl⟩
theorem fam_nil : Fam [] := ⟨List.Pairwise.nil, fun p hp => (by cases hp), fun r s _ _ _ hne => absurd rfl hne⟩
/-- The first layer: files of the family. -/
def firstL (ns : List Nat) : List En := ns.map fun n => fileE (pathL n) [49]
theorem steps_first (k : Int) : ∀ (ns : List Nat) (g : List Pl), Fam g → ∃ g', stepsT k g (firstL ns) = (g', 0) ∧ Fam g' ∧ g'.length ≤ g.length + 2 * ns.length
  | [], g, h => ⟨g, rfl, h, by simp⟩
  | n :: ns, g, h => by
    have hr : n % 3 < 3 := Nat.mod_lt _ (by decide)
    have hs : n / 3 % 6 < 6 := Nat.mod_lt _ (by decide)
    obtain ⟨g', h1, h2, h3⟩ := steps_first k ns (fileG k (n % 3) (n / 3 % 6) [49] g) (fam_fileG h k hr hs (Nat.le_refl _))
    refine ⟨g', ?_, h2, ?_⟩
    · have hst := step_file h k hr hs (d := [49]) (Nat.le_refl _)
      show stepsT k g (fileE (pathL n) [49] :: firstL ns) = _
      rw [stepsT_cons, pathL_rs, hst, if_pos rfl]
      exact h1
    · have := file_len k (n % 3) (n / 3 % 6) [49] g
      rw [List.length_cons]
      omega
theorem lays_ok {k : Int} {g g' : List Pl} {l : List En} (hl : l.length ≤ 200) (h : stepsT k g l = (g', 0)) (hlen : g'.length ≤ 400) : laysT k g l = (g', 0) := by
  unfold laysT
  rw [if_neg (by omega), h]
  simp only
  rw [if_pos (by trivial), if_neg (by omega)]
theorem apply_first (ns : List Nat) (hn : ns.length ≤ 20) : ∃ g, applyT [] (firstL ns) = (g.map Pl.nd, 0) ∧ Fam g ∧ g.length ≤ 40 := by
  obtain ⟨g, h1, h2, h3⟩ := steps_first 1 ns [] fam_nil
  simp only [List.length_nil] at h3
  refine ⟨g, ?_, h2, by omega⟩
  have hl := lays_ok (by unfold firstL; rw [List.length_map]; omega) h1 (by omega)
  rw [applyT_ok (by rfl) (by rw [show groundOf [] = [] from rfl, hl]), show groundOf [] = [] from rfl, hl]
end Go.Proofs.YtokeiagcdahmaaaDoor
#print axioms Go.Proofs.YtokeiagcdahmaaaDoor.apply_first
