/- Layer 14: the document's Parent, Base, Join, Inside; the chapter's paths. -/
import Derived.Test.YtekfchlgkdgpdaaDoorPtK
namespace Go.Proofs.YtekfchlgkdgpdaaDoor
open Go.RowKit

theorem owns_cap {w : World} {base : Nat} {a : Option Addr} {n cap : Nat} {l : List (List UInt8)} (h : OwnsS w base (.slice a n cap) l) : n = l.length ∧ n ≤ cap := by
  rcases h.2 with ⟨h6, h7⟩ | ⟨_, _, _, h6, _, _, h7, _⟩
  · simp only [Value.slice.injEq] at h6
    omega
  · simp only [Value.slice.injEq] at h6
    omega
/-- Parts, as their callers meet them. -/
theorem parts_at (s : List UInt8) (hl : s.length ≤ 900000) (M : Nat) (hM : (cutL s 47).length = M + 1) (w : World) :
    Calls Tryd.prog 26 #[.string (str s)] w fun e w' => ∃ g cap, e = .returned (.slice (some ⟨g, 0, none⟩) (M + 1) cap) ∧ (M : Int) ≤ (cap : Int) ∧ RdS w' (some ⟨g, 0, none⟩) (cutL s 47) ∧ w'.cell? ⟨g, M, none⟩ = some (.string (str ((cutL s 47).getD M []))) ∧ Below w.heap.size w w' := by
  have CP := parts_any (str s) w (by rw [str_size]; omega)
  rw [show (str s).data.toList = s from rfl] at CP
  refine CP.mono ?_
  rintro e w1 ⟨v, rfl, hO, hB⟩
  obtain ⟨a, cap, rfl⟩ := hO.form
  obtain ⟨g, rfl, _, e1⟩ := hO.at (k := M) (by omega)
  have hcp := (owns_cap hO).2
  exact ⟨g, cap, by rw [hM], by omega, hO.rd, e1, hB⟩
theorem rparent_any (s : List UInt8) (hl : s.length ≤ 900000) (w : World) :
    Calls Tryd.prog 14 #[.string (str s)] w fun e w' => e = .returned (.string (str (parentL s))) ∧ Below w.heap.size w w' := by
  have HLE : (cutL s 47).length ≤ 900001 := by have := cutL_le s 47; omega
  have hpos := cutL_pos s 47
  obtain ⟨M, hM⟩ : ∃ M, (cutL s 47).length = M + 1 := ⟨(cutL s 47).length - 1, by omega⟩
  have CP := fun w => parts_at s hl M hM w
  have hD : (cutL s 47).dropLast.length = M := by rw [List.length_dropLast]; omega
  have CJ0 := Lib.hid (fun (w1 : World) (g cap : Nat) (hr : RdS w1 (some ⟨g, 0, none⟩) (cutL s 47)) => hD ▸ joined_any (some ⟨g, 0, none⟩) cap (cutL s 47).dropLast w1 hr.front (by rw [hD]; omega) (Nat.le_trans (parent_le s) (by omega)))
  have hm : M ≤ 900000 := by omega
  clear hD hM hpos HLE
  go_enter Tryd.func14, Tryd.ntmps14
  go_wp2_with (first
    | (go_at_call 26; refine (CP _).mono ?_; rintro e w1 ⟨g, cap, rfl, c1, hr, _, hB⟩; have CJ := CJ0.out w1 g cap hr; clear hr)
    | (go_at_call 28; refine CJ.mono ?_; rintro e w2 ⟨rfl, rfl⟩))
  go_ret
  exact ⟨rfl, hB⟩
theorem rbase_any (s : List UInt8) (hl : s.length ≤ 900000) (w : World) :
    Calls Tryd.prog 16 #[.string (str s)] w fun e w' => e = .returned (.string (str (baseL s))) ∧ Below w.heap.size w w' := by
  have HLE : (cutL s 47).length ≤ 900001 := by have := cutL_le s 47; omega
  have hpos := cutL_pos s 47
  obtain ⟨M, hM⟩ : ∃ M, (cutL s 47).length = M + 1 := ⟨(cutL s 47).length - 1, by omega⟩
  have CP := fun w => parts_at s hl M hM w
  have HV := Lib.hid (show baseL s = (cutL s 47).getD M [] by unfold baseL; rw [hM]; rfl)
  have hm : M ≤ 900000 := by omega
  clear hM hpos HLE
  go_enter Tryd.func16, Tryd.ntmps16
  go_wp2_with (go_at_call 26; refine (CP _).mono ?_; rintro e w1 ⟨g, cap, rfl, c1, hr, e1, hB⟩; clear hr)
  go_ret
  exact ⟨by rw [HV.out]; rfl, hB⟩
theorem rjoin_any (d p : List UInt8) (hd : d.length ≤ 1000000) (hp : p.length ≤ 1000000) (w : World) :
    Calls Tryd.prog 18 #[.string (str d), .string (str p)] w fun e w' => e = .returned (.string (str (join2 d p))) ∧ w = w' := by
  have zd := str_size d
  have zp := str_size p
  have z1 : (⟨#[47]⟩ : ByteArray).size = 1 := rfl
  have q1 : (str d).toList.isEmpty = decide (d = []) := empty_lit d
  have q2 : (str p).toList.isEmpty = decide (p = []) := empty_lit p
  by_cases h1 : d = []
  · have HR := Lib.hid (show join2 d p = d ++ p by unfold join2; rw [if_pos h1, h1]; rfl)
    rw [decide_eq_true h1] at q1
    clear h1
    go_enter Tryd.func18, Tryd.ntmps18
    go_wp2
    go_ret
    exact ⟨by rw [HR.out, ← str_append]; rfl, by trivial⟩
  · rw [decide_eq_false h1] at q1
    by_cases h2 : p = []
    · have HR := Lib.hid (show join2 d p = d ++ p by unfold join2; rw [if_neg h1, if_pos h2, h2, List.append_nil])
      rw [decide_eq_true h2] at q2
      clear h1 h2
      go_enter Tryd.func18, Tryd.ntmps18
      go_wp2
      go_ret
      exact ⟨by rw [HR.out, ← str_append]; rfl, by trivial⟩
    · have HR := Lib.hid (show join2 d p = d ++ [47] ++ p by unfold join2; rw [if_neg h1, if_neg h2]; simp)
      rw [decide_eq_false h2] at q2
      have zx : (str d ++ ⟨#[47]⟩ : ByteArray).size = d.length + 1 := by rw [ByteArray.size_append, zd, z1]
      clear h1 h2
      go_enter Tryd.func18, Tryd.ntmps18
      go_wp2
      go_ret
      refine ⟨?_, by trivial⟩
      rw [HR.out, ← str_append, ← str_append]
      rfl
theorem inside_parts {d p : List UInt8} (h1 : d ≠ []) (h2 : p ≠ d) : insideB d p = (decide (d.length < p.length) && (decide (p.take d.length = d) && (p.getD d.length 0 == 47))) := by
  unfold insideB
  rw [decide_eq_false h1, decide_eq_false h2, Bool.false_or, Bool.false_or]
  by_cases h : d ++ [47] <+: p
  · obtain ⟨t, rfl⟩ := h
    rw [decide_eq_true (List.prefix_append _ _), decide_eq_true (by simp), decide_eq_true (by simp)]
    simp [List.getD_eq_getElem?_getD]
  · rw [decide_eq_false h]
    symm
    rw [Bool.and_eq_false_iff, Bool.and_eq_false_iff]
    by_cases h3 : d.length < p.length
    · right
      by_cases h4 : p.take d.length = d
      · right
        rw [beq_eq_false_iff_ne]
        intro h5
        refine h ⟨p.drop (d.length + 1), ?_⟩
        rw [List.getD_eq_getElem?_getD, List.getElem?_eq_getElem h3, Option.getD_some] at h5
        conv => rhs; rw [← List.take_append_drop d.length p, h4, List.drop_eq_getElem_cons h3, h5]
        simp
      · left
        exact decide_eq_false h4
    · left
      exact decide_eq_false h3
set_option maxRecDepth 100000 in
set_option maxHeartbeats 2000000 in
theorem rinside_any (d p : List UInt8) (hd : d.length ≤ 1000000) (w : World) :
    Calls Tryd.prog 20 #[.string (str d), .string (str p)] w fun e w' => e = .returned (.bool (insideB d p)) ∧ w = w' := by
  have zd := str_size d
  have zp := str_size p
  have q1 : (str d).toList.isEmpty = decide (d = []) := empty_lit d
  have q2 : ((str p).toList == (str d).toList) = decide (p = d) := eq_strs p d
  by_cases h1 : d = []
  · have HR := Lib.hid (show insideB d p = true by unfold insideB; rw [decide_eq_true h1]; rfl)
    rw [decide_eq_true h1] at q1
    clear h1
    go_enter Tryd.func20, Tryd.ntmps20
    go_wp2
    go_ret
    exact ⟨retB HR.out.symm, by trivial⟩
  rw [decide_eq_false h1] at q1
  by_cases h2 : p = d
  · have HR := Lib.hid (show insideB d p = true by unfold insideB; rw [decide_eq_true h2, Bool.true_or, Bool.or_true])
    rw [decide_eq_true h2] at q2
    clear h1 h2
    go_enter Tryd.func20, Tryd.ntmps20
    go_wp2
    go_ret
    exact ⟨retB HR.out.symm, by trivial⟩
  rw [decide_eq_false h2] at q2
  have HR := Lib.hid (inside_parts h1 h2)
  by_cases h3 : d.length < p.length
  · have g3 : (d.length : Int) < (p.length : Int) := by omega
    rw [decide_eq_true h3] at HR
    have s1 : ∀ W, (Instr.slice 9 (.string (str p)) none (some (.int .i64 (d.length : Int))) none).run Tryd.prog W = .ok (.string (str (p.take d.length))) W := fun W => by
      have h := run_slice_string W 9 (str p) .i64 .i64 0 d.length Tryd.underlying9 (by omega) (by omega) (by rw [zp]; omega)
      rw [← show (str p).extract 0 d.length = str (p.take d.length) by rw [extract_str]; rfl]
      exact h
    have q3 : ((str (p.take d.length)).toList == (str d).toList) = decide (p.take d.length = d) := eq_strs _ d
    have i1 := idx_str (str p) d.length (d.length : Int) rfl (by rw [zp]; omega)
    rw [show (str p).data.toList = p from rfl] at i1
    have q4 : (((p.getD d.length 0).toNat : Int) == 47) = (p.getD d.length 0 == 47) := beq_u8 _ 47
    have q5 : (((p[d.length]?.getD 0).toNat : Int) == 47) = (p.getD d.length 0 == 47) := by rw [← q4, List.getD_eq_getElem?_getD]
    generalize decide (p.take d.length = d) = b1 at *
    generalize (p.getD d.length 0 == 47) = b2 at *
    clear h1 h2 h3
    cases b1
    all_goals
      go_enter Tryd.func20, Tryd.ntmps20
      go_wp2
      go_ret
      exact ⟨retB (by rw [HR.out]; rfl), by trivial⟩
  · have g3 : ¬ ((d.length : Int) < (p.length : Int)) := by omega
    rw [decide_eq_false h3] at HR
    clear h1 h2 h3
    go_enter Tryd.func20, Tryd.ntmps20
    go_wp2
    go_ret
    exact ⟨retB (by rw [HR.out]; rfl), by trivial⟩
end Go.Proofs.YtekfchlgkdgpdaaDoor
