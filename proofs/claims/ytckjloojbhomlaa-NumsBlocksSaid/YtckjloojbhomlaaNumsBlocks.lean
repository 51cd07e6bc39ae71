/-
  For any number of bytes and any whole of 32 bits: so many blocks hold the bytes and one less do not; a share is no more than it says and the next one is more; and the chapter's examples come out as it says.
  Conditions: none (every pair of numbers of 32 bits).
-/
import Derived.Test.YtckjloojbhomlaaRows
import Derived.WalkKit
import Derived.Test.YtckjloojbhomlaaNumsF
import Derived.ProofKit
import Derived.OpenShut
import Derived.ChangeOld
import Derived.Below
import Derived.ShutString
namespace Go.Proofs.Ytckjloojbhomlaa.numsBlocks
open Go.ChangeShapes Go.WideShapes Go.ChangeAt Go.RowKit
open Go.ChangeMaps (open_string shut_string)
set_option linter.unusedVariables false      -- a walk need not use every 'w<i>' (that an integer argument fits its kind)

theorem own : ownKnob Try.prog.godebug = none := by kernel_rfl

/-! ### STEP 1: THE WALK: the Go text returns true. 'Below w.heap.size w w'': the world has at most new blocks (Derived/RowKit3.lean). Part the cases AHEAD of 'go_enter' where a test parts the walk; take each callee by a contract of your own. -/
theorem share_facts (n q : Int) (n0 : 0 ≤ n) (q0 : 1 ≤ q) : 0 ≤ shareV n q ∧ shareV n q ≤ 100 ∧ 0 ≤ shareV n q * q ∧ shareV n q * q ≤ 100 * n ∧ (shareV n q + 1) * q ≤ 101 * q ∧ 0 ≤ (shareV n q + 1) * q ∧
    (shareV n q = 100 ∨ 100 * n < (shareV n q + 1) * q) := by
  have key : 0 ≤ shareV n q ∧ shareV n q ≤ 100 ∧ shareV n q * q ≤ 100 * n ∧ (shareV n q = 100 ∨ 100 * n < (shareV n q + 1) * q) := by
    by_cases h : q ≤ n
    · rw [shareV_all q0 n0 h]; omega
    · rw [shareV_part q0 n0 (by omega)]
      have h1 : 0 ≤ 100 * n / q := Int.ediv_nonneg (by omega) (by omega)
      have h2 : 100 * n / q < 100 := Int.ediv_lt_of_lt_mul (by omega) (by omega)
      have h3 := Int.ediv_mul_le (100 * n) (show q ≠ 0 by omega)
      have h4 := Int.lt_ediv_add_one_mul_self (100 * n) (show 0 < q by omega)
      exact ⟨h1, by omega, h3, Or.inr h4⟩
  obtain ⟨h1, h2, h3, h4⟩ := key
  exact ⟨h1, h2, Int.mul_nonneg h1 (by omega), h3, Int.mul_le_mul_of_nonneg_right (by omega) (by omega), Int.mul_nonneg (by omega) (by omega), h4⟩
theorem walk (a0 : Int) (a1 : Int) (w0 : (Lit.int .u32 a0).wf = true) (w1 : (Lit.int .u32 a1).wf = true) (w : World) :
    Calls Try.prog 6 #[.int .u32 a0, .int .u32 a1] w fun e w' => e = .returned (.bool true) ∧ Below w.heap.size w w' := by
  obtain ⟨n0, n1⟩ := bounds_u32 w0
  obtain ⟨q0, q1⟩ := bounds_u32 w1
  have HB : ∃ v, (∀ w, Calls Try.prog 14 #[.int .i64 a0] w fun e w' => e = .returned (.int .i64 v) ∧ w = w') ∧ 0 ≤ v ∧ a0 ≤ v * 512 ∧ ((v - 1) * 512 < a0 ∨ v = 0) ∧ v ≤ 4294967295 := by
    by_cases h : a0 < 1
    · exact ⟨0, fun w => blocks_no a0 w h, by omega⟩
    · exact ⟨_, fun w => blocks_yes a0 w (by omega) (by omega), by omega⟩
  obtain ⟨v, cB, v0, v1, v2, v3⟩ := HB
  have hv1 : ¬ v * 512 < a0 := by omega
  have hb := Below.refl w.heap.size w
  have cS := fun w => share_any a0 a1 w (by omega) (by omega)
  by_cases hq : a1 = 0
  · rw [hq, shareV_none (Or.inl (by omega))] at cS
    subst hq
    by_cases hv : 0 < v
    · have hv2 : ¬ a0 ≤ (v - 1) * 512 := by omega
      clear v2
      go_enter Try.func6, Try.ntmps6
      go_wp2_with (first
        | (go_at_call 14; ((with_reducible refine (cB _).mono ?_); rintro e w1 ⟨rfl, rfl⟩))
        | (go_at_call 16; ((with_reducible refine (cS _).mono ?_); rintro e w1 ⟨rfl, hb1⟩; replace hb := below_then hb hb1; clear hb1))
        | (go_at_call 18; ((with_reducible refine (added_any _).mono ?_); rintro e w1 ⟨rfl, hb1⟩; replace hb := below_then hb hb1; clear hb1)))
      go_ret
      exact ⟨rfl, hb⟩
    · obtain rfl : v = 0 := by omega
      clear v2
      go_enter Try.func6, Try.ntmps6
      go_wp2_with (first
        | (go_at_call 14; ((with_reducible refine (cB _).mono ?_); rintro e w1 ⟨rfl, rfl⟩))
        | (go_at_call 16; ((with_reducible refine (cS _).mono ?_); rintro e w1 ⟨rfl, hb1⟩; replace hb := below_then hb hb1; clear hb1))
        | (go_at_call 18; ((with_reducible refine (added_any _).mono ?_); rintro e w1 ⟨rfl, hb1⟩; replace hb := below_then hb hb1; clear hb1)))
      go_ret
      exact ⟨rfl, hb⟩
  · obtain ⟨s0, s1, s2, s3, s4, s5, s6⟩ := share_facts a0 a1 n0 (by omega)
    obtain ⟨s, hs⟩ : ∃ s, s = shareV a0 a1 := ⟨_, rfl⟩
    rw [← hs] at cS s0 s1 s2 s3 s4 s5 s6
    clear hs
    have e0 : (a1 == 0) = false := by simpa using hq
    clear hq
    by_cases hv : 0 < v
    · have hv2 : ¬ a0 ≤ (v - 1) * 512 := by omega
      clear v2
      by_cases hh : s = 100
      · have e1 : (s == 100) = true := by simpa using hh
        clear s6 hh
        go_enter Try.func6, Try.ntmps6
        go_wp2_with (first
          | (go_at_call 14; ((with_reducible refine (cB _).mono ?_); rintro e w1 ⟨rfl, rfl⟩))
          | (go_at_call 16; ((with_reducible refine (cS _).mono ?_); rintro e w1 ⟨rfl, hb1⟩; replace hb := below_then hb hb1; clear hb1))
          | (go_at_call 18; ((with_reducible refine (added_any _).mono ?_); rintro e w1 ⟨rfl, hb1⟩; replace hb := below_then hb hb1; clear hb1)))
        go_ret
        exact ⟨rfl, hb⟩
      · have e1 : (s == 100) = false := by simpa using hh
        have e2 : 100 * a0 < (s + 1) * a1 := by rcases s6 with h | h; exact absurd h hh; exact h
        clear s6 hh
        go_enter Try.func6, Try.ntmps6
        go_wp2_with (first
          | (go_at_call 14; ((with_reducible refine (cB _).mono ?_); rintro e w1 ⟨rfl, rfl⟩))
          | (go_at_call 16; ((with_reducible refine (cS _).mono ?_); rintro e w1 ⟨rfl, hb1⟩; replace hb := below_then hb hb1; clear hb1))
          | (go_at_call 18; ((with_reducible refine (added_any _).mono ?_); rintro e w1 ⟨rfl, hb1⟩; replace hb := below_then hb hb1; clear hb1)))
        go_ret
        exact ⟨rfl, hb⟩
    · obtain rfl : v = 0 := by omega
      obtain rfl : a0 = 0 := by omega
      have ne : a1 ≠ 0 := by simpa using e0
      have qp : 0 < a1 := by omega
      clear ne
      have hs0 : s = 0 := by
        by_cases h : s = 0
        · exact h
        · have := Int.mul_le_mul_of_nonneg_right (show 1 ≤ s by omega) (show 0 ≤ a1 by omega)
          omega
      rw [hs0] at cS
      clear v2 s6 s5 s4 s3 s2 s1 s0 hs0
      go_enter Try.func6, Try.ntmps6
      go_wp2_with (first
        | (go_at_call 14; ((with_reducible refine (cB _).mono ?_); rintro e w1 ⟨rfl, rfl⟩))
        | (go_at_call 16; ((with_reducible refine (cS _).mono ?_); rintro e w1 ⟨rfl, hb1⟩; replace hb := below_then hb hb1; clear hb1))
        | (go_at_call 18; ((with_reducible refine (added_any _).mono ?_); rintro e w1 ⟨rfl, hb1⟩; replace hb := below_then hb hb1; clear hb1)))
      go_ret
      exact ⟨rfl, hb⟩

/-! ### THE ROW's STEP: WRITTEN OUT: LEAVE IT -/
set_option maxRecDepth 100000 in
theorem lifted (os : Os) (started : os.Started) (H : Type) (enc : TypeId × Value → H) :
    ReturnsInHanded {} Try.checked os 6 .any (Rows.numsBlocksSpec.pre6 enc Try.prog Try.f6 Rows.numsBlocksRow.domain false) (Rows.numsBlocksSpec.post enc Try.prog Try.f6 false true false false) := by
  refine returnsInHanded_of_change (C := Try.checked) own started (by kernel_rfl) Try.func6
    (ChangeSpec.witness6 (enc := enc) (C := Try.checked) false ⟨#[], #[.int .u32 0, .int .u32 0], []⟩ 8 (by kernel_rfl) (by kernel_rfl) (by kernel_rfl) (by kernel_rfl)) ?_
  intro W base args ds gs before hval0 hW hcnd _
  have hval : ∀ (j : Nat) t v, Try.f6.params[j]? = some t → args[j]? = some v → Value.okWide Try.prog W .any base t v := hval0
  have hW' := hW
  obtain ⟨p, q, hA0, hV, rfl, hfz, hnd⟩ := hW
  have hA : DataW.TrodAll enc Try.prog W 0 (fun _ => true) true Try.f6.params.toList args.toList ds p := hA0
  rw [Try.params6] at hA hval
  obtain ⟨v0, vs0, d0, ds0, p0, q0, hargs, rfl, rfl, h0, r0⟩ := trodAll_cons hA
  obtain ⟨v1, vs1, d1, ds1, p1, q1, rfl, rfl, rfl, h1, r1⟩ := trodAll_cons r0
  obtain ⟨rfl, rfl, rfl⟩ := trodAll_nil r1
  obtain rfl : args = #[v0, v1] := by cases args; simp_all
  obtain ⟨rfl, rfl⟩ := trodVars_none hV
  obtain ⟨a0, rfl, rfl, rfl, w0⟩ := open_int Try.underlying33 (hval 0 33 v0 rfl rfl) h0
  obtain ⟨a1, rfl, rfl, rfl, w1⟩ := open_int Try.underlying33 (hval 1 33 v1 rfl rfl) h1
  clear hA0 hval0
  simp only [List.append_nil] at hW'
  refine (walk a0 a1 w0 w1 W).mono fun e W' ⟨he, hg⟩ => ?_
  subst he
  exact ⟨_, rfl, _, _, _, [], _, [], hW', trodAll_mk1 (shut_bool Try.underlying4 _), (trodAll_cons_mk (shut_int Try.underlying33 w0) (trodAll_cons_mk (shut_int Try.underlying33 w1) trodAll_mk0)), rfl, hg.frame _, fun h => by cases h⟩

theorem over : Rows.numsBlocksRow.holds Try.pinned (OpenSpec.ofChange Rows.numsBlocksSpec) :=
  OpenClaim.holds_of_wide 6 Try.f6 rfl rfl rfl rfl rfl rfl rfl ⟨rfl, rfl, rfl, rfl, rfl⟩ rfl rfl rfl rfl rfl (by kernel_rfl) Try.func6 (by kernel_rfl)
    (of_decide_eq_true (by kernel_rfl)) (by unfold Func.isWrapper; first | (rw [if_pos (by decide +kernel)]; kernel_rfl) | (rw [if_neg (by decide +kernel)]; exact ⟨rfl, rfl⟩))
    (fun os started H enc _ => lifted os started H enc)

/-- ████ THE STATEMENT ████ -/
theorem proved : Rows.NumsBlocksSaid :=
  over
#print axioms proved
end Go.Proofs.Ytckjloojbhomlaa.numsBlocks
