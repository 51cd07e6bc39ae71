/- Layer 16, plainly: a family of small trees; what a layer takes away of them. -/
import Derived.Test.YtokeiagcdahmaaaDoorTuB
namespace Go.Proofs.YtokeiagcdahmaaaDoor

/-! ### The family's paths -/
def pathRS (r s : Nat) : List UInt8 := dirL r ++ [102] ++ [UInt8.ofNat (97 + s)]
def dirN (r : Nat) : List UInt8 := if r = 0 then [] else if r = 1 then [97] else [98]
theorem pathL_rs (n : Nat) : pathL n = pathRS (n % 3) (n / 3 % 6) := rfl
theorem fin36 {P : Nat → Nat → Prop} (h : ∀ r : Fin 3, ∀ s : Fin 6, P r s) {r s : Nat} (hr : r < 3) (hs : s < 6) : P r s := h ⟨r, hr⟩ ⟨s, hs⟩
theorem f_clean {r s : Nat} (hr : r < 3) (hs : s < 6) : cleanL (pathRS r s) = (pathRS r s, 0) := fin36 (P := fun r s => cleanL (pathRS r s) = (pathRS r s, 0)) (by decide +kernel) hr hs
theorem f_parent {r s : Nat} (hr : r < 3) (hs : s < 6) : parentL (pathRS r s) = dirN r := fin36 (P := fun r s => parentL (pathRS r s) = dirN r) (by decide +kernel) hr hs
theorem f_base {r s : Nat} (hr : r < 3) (hs : s < 6) : whiteL (baseL (pathRS r s)) = ([], false, false) := fin36 (P := fun r s => whiteL (baseL (pathRS r s)) = ([], false, false)) (by decide +kernel) hr hs
theorem f_ne {r s : Nat} (hr : r < 3) (hs : s < 6) : pathRS r s ≠ [] ∧ pathRS r s ≠ [97] ∧ pathRS r s ≠ [98] := fin36 (P := fun r s => pathRS r s ≠ [] ∧ pathRS r s ≠ [97] ∧ pathRS r s ≠ [98]) (by decide +kernel) hr hs
theorem f_len {r s : Nat} (hr : r < 3) (hs : s < 6) : (pathRS r s).length ≤ 4 ∧ (2 < (pathRS r s).length → (pathRS r s).getD 1 0 = 47) := fin36 (P := fun r s => (pathRS r s).length ≤ 4 ∧ (2 < (pathRS r s).length → (pathRS r s).getD 1 0 = 47)) (by decide +kernel) hr hs
theorem f_wclean {r s : Nat} (hr : r < 3) (hs : s < 6) : cleanL (whP (pathRS r s)) = (whP (pathRS r s), 0) ∧ whP (pathRS r s) ≠ [] := fin36 (P := fun r s => cleanL (whP (pathRS r s)) = (whP (pathRS r s), 0) ∧ whP (pathRS r s) ≠ []) (by decide +kernel) hr hs
theorem f_wbase {r s : Nat} (hr : r < 3) (hs : s < 6) : whiteL (baseL (whP (pathRS r s))) = ([102, UInt8.ofNat (97 + s)], false, true) := fin36 (P := fun r s => whiteL (baseL (whP (pathRS r s))) = ([102, UInt8.ofNat (97 + s)], false, true)) (by decide +kernel) hr hs
theorem f_wjoin {r s : Nat} (hr : r < 3) (hs : s < 6) : join2 (parentL (whP (pathRS r s))) [102, UInt8.ofNat (97 + s)] = pathRS r s := fin36 (P := fun r s => join2 (parentL (whP (pathRS r s))) [102, UInt8.ofNat (97 + s)] = pathRS r s) (by decide +kernel) hr hs
theorem f_wlen {r s : Nat} (hr : r < 3) (hs : s < 6) : (whP (pathRS r s)).length ≤ 8 := fin36 (P := fun r s => (whP (pathRS r s)).length ≤ 8) (by decide +kernel) hr hs
theorem f_in0 : ∀ r : Fin 3, ∀ s : Fin 6, ∀ r' : Fin 3, ∀ s' : Fin 6, insideB (pathRS r s) (pathRS r' s') = decide (pathRS r' s' = pathRS r s) := by decide +kernel
theorem f_in {r s r' s' : Nat} (hr : r < 3) (hs : s < 6) (hr' : r' < 3) (hs' : s' < 6) : insideB (pathRS r s) (pathRS r' s') = decide (pathRS r' s' = pathRS r s) := f_in0 ⟨r, hr⟩ ⟨s, hs⟩ ⟨r', hr'⟩ ⟨s', hs'⟩
theorem f_indir {r s : Nat} (hr : r < 3) (hs : s < 6) : insideB (pathRS r s) [97] = false ∧ insideB (pathRS r s) [98] = false := fin36 (P := fun r s => insideB (pathRS r s) [97] = false ∧ insideB (pathRS r s) [98] = false) (by decide +kernel) hr hs
theorem f_ina {r s : Nat} (hr : r < 3) (hs : s < 6) : insideB [97] (pathRS r s) = decide (r = 1) := fin36 (P := fun r s => insideB [97] (pathRS r s) = decide (r = 1)) (by decide +kernel) hr hs
/-- Does a path lead into a? -/
def goneB (p : List UInt8) : Bool := decide (2 < p.length) && decide (p.take 2 = [97, 47])
theorem f_gone {r s : Nat} (hr : r < 3) (hs : s < 6) : goneB (pathRS r s) = decide (r = 1) := fin36 (P := fun r s => goneB (pathRS r s) = decide (r = 1)) (by decide +kernel) hr hs
theorem f_opq : cleanL opqN = (opqN, 0) ∧ opqN ≠ [] ∧ whiteL (baseL opqN) = ([], true, true) ∧ parentL opqN = [97] := by decide +kernel
theorem f_dir {r : Nat} (hr : r < 3) (h0 : r ≠ 0) : dirN r ≠ [] ∧ parentL (dirN r) = [] ∧ (dirN r).length ≤ 200 := by
  have : r = 1 ∨ r = 2 := by omega
  rcases this with rfl | rfl <;> decide +kernel
/-! ### A tree, told by what is there -/
theorem tree_of {g : List Pl} (hr : Rise g) (hm : ∀ p ∈ g, mayN p.nd = true) (hp : ∀ p ∈ g, parentL p.nd.path = [] ∨ ∃ q ∈ g, q.nd.path = parentL p.nd.path ∧ q.nd.kind = 2) (hlen : g.length ≤ 400) : checkT (g.map Pl.nd) = 0 := by
  have hrm := rise_map hr
  unfold checkT
  rw [if_neg (by rw [List.length_map]; omega), if_pos]
  rw [treeB_iff]
  intro k x hx
  rw [List.getElem?_map] at hx
  cases hg : g[k]? with
  | none => rw [hg] at hx; cases hx
  | some p =>
    rw [hg] at hx
    cases hx
    have hpg := List.mem_of_getElem? hg
    refine ⟨hm p hpg, ?_⟩
    unfold followN
    rw [Bool.and_eq_true]
    obtain ⟨hk, hge⟩ := List.getElem?_eq_some_iff.1 hg
    constructor
    · cases hl : ((g.map Pl.nd).take k).getLast? with
      | none => rfl
      | some m =>
        have hmem := List.mem_of_getLast? hl
        obtain ⟨j, hj, rfl⟩ := List.getElem_of_mem hmem
        rw [List.length_take, List.length_map] at hj
        have := List.pairwise_iff_getElem.1 hrm j k (by rw [List.length_map]; omega) (by rw [List.length_map]; omega) (by omega)
        simp only [List.getElem_take, List.getElem_map] at this ⊢
        rw [hge] at this
        exact this
    · rcases hp p hpg with h | ⟨q, hq, hqp, hqk⟩
      · rw [decide_eq_true h]; rfl
      · rw [Bool.or_eq_true]
        right
        rw [List.any_eq_true]
        obtain ⟨j, hj, hqe⟩ := List.getElem_of_mem hq
        have hpar : bytesBefore q.nd.path p.nd.path = true := by
          rw [hqp]
          by_cases hm47 : (47 : UInt8) ∈ p.nd.path
          · obtain ⟨a, b, he, hn⟩ := cut_last hm47
            rw [he, (parent_hit a hn).1]
            exact bb_pre a (47 :: b) (by simp)
          · rw [(parent_miss hm47).1]
            have := hm p hpg
            unfold mayN at this
            simp only [Bool.and_eq_true, Bool.not_eq_true', decide_eq_false_iff_not] at this
            cases hpp : p.nd.path with
            | nil => exact absurd hpp this.1
            | cons y r => rfl
        have hjk : j < k := by
          rcases Nat.lt_trichotomy j k with h | h | h
          · exact h
          · subst h
            rw [hge] at hqe
            rw [hqe, bb_irr] at hpar
            cases hpar
          · have := List.pairwise_iff_getElem.1 hr k j hk hj h
            rw [hge, hqe] at this
            rw [bb_asym this] at hpar
            cases hpar
        refine ⟨q.nd, ?_, decide_eq_true ⟨hqp, hqk⟩⟩
        rw [List.mem_take_iff_getElem]
        exact ⟨j, by rw [List.length_map]; omega, by simp [hqe]⟩
theorem find_map {g : List Pl} (s : List UInt8) : findN (g.map Pl.nd) s = (lookG g s).map Pl.nd := by
  unfold findN lookG
  rw [List.find?_map]
  rfl
theorem ground_look : ∀ (l : List Nd), l.Pairwise (fun a b => a.path ≠ b.path) → ∀ s, lookG (groundOf l) s = (findN l s).map fun n => ⟨n, 0⟩ := by
  refine cut_recN (fun l => l.Pairwise (fun a b => a.path ≠ b.path) → ∀ s, lookG (groundOf l) s = (findN l s).map fun n => ⟨n, 0⟩) (fun _ _ => rfl) (fun l x ih h s => ?_)
  rw [List.pairwise_append] at h
  rw [ground_snoc, look_put (ground_rise l), ih h.1 s]
  unfold findN
  rw [List.find?_append]
  split
  · rename_i e
    have e1 : l.find? (fun n => decide (n.path = s)) = none := by
      rw [List.find?_eq_none]
      intro y hy
      have := h.2.2 y hy x (by simp)
      rw [e]
      simpa using this
    rw [e1, e]
    simp
  · rename_i e
    have e2 : ([x] : List Nd).find? (fun n => decide (n.path = s)) = none := by
      rw [List.find?_eq_none]
      intro y hy
      rw [List.mem_singleton.1 hy]
      simpa using fun h => e h.symm
    rw [e2]
    cases l.find? (fun n => decide (n.path = s)) <;> rfl
end Go.Proofs.YtokeiagcdahmaaaDoor
#print axioms Go.Proofs.YtokeiagcdahmaaaDoor.ground_look
