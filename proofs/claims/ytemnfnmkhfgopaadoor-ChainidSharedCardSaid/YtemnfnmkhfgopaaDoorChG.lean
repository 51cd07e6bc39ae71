/- Layer 17: the law's own: lists held against each other, the chapter's layers. -/
import Derived.Test.YtemnfnmkhfgopaaDoorChF
namespace Go.Proofs.YtemnfnmkhfgopaaDoor
open Go.RowKit
attribute [local go_sem] wide_fn round_fn

theorem ext_getD {a b : List (List UInt8)} (hl : a.length = b.length) (h : ∀ j, j < a.length → a.getD j [] = b.getD j []) : a = b := by
  refine List.ext_getElem hl fun i h1 h2 => ?_
  have := h i h1
  rwa [List.getD_eq_getElem?_getD, List.getD_eq_getElem?_getD, List.getElem?_eq_getElem h1, List.getElem?_eq_getElem h2] at this
set_option maxRecDepth 100000 in
set_option maxHeartbeats 8000000 in
theorem same_any (a b : List (List UInt8)) (x y : Option Addr) (c d : Nat) (w : World) (ha : a.length ≤ maxLen) (hA : DgE.At w x a) (hB : DgE.At w y b) :
    Calls Tryd.prog 8 #[.slice x a.length c, .slice y b.length d] w fun e w' => e = .returned (.bool (decide (a = b))) ∧ Below w.heap.size w w' := by
  have HA := Lib.hid hA
  have HB := Lib.hid hB
  obtain ⟨N, hN⟩ : ∃ N, N = a.length := ⟨_, rfl⟩
  obtain ⟨M, hM⟩ : ∃ M, M = b.length := ⟨_, rfl⟩
  rw [← hN, ← hM]
  have HN := Lib.hid hN
  have HM := Lib.hid hM
  have hn2 : N ≤ 9223372036854775807 := by unfold maxLen at ha; omega
  clear hA hB hN hM ha
  obtain ⟨R, hR⟩ : ∃ R, R = decide (a = b) := ⟨_, rfl⟩
  rw [← hR]
  have HR := Lib.hid hR
  clear hR
  by_cases hnm : N = M
  · subst hnm
    have hq : ((N : Int) == (N : Int)) = true := beq_self_eq_true _
    go_enter Tryd.func8, Tryd.ntmps8
    go_wp2
    go_loopw [5] (fun i wr => ∃ k : Nat, k ≤ N ∧ i = .int .i64 k ∧ (∀ j, j < k → a.getD j [] = b.getD j []) ∧ Below w.heap.size w wr) (fun i _ => N - (intOf i).toNat)
    case atStart => exact ⟨0, by omega, rfl, fun j hj => by omega, Below.refl _ _⟩
    case round =>
      obtain ⟨k, hk, rfl, hs, hb⟩ := hrel
      have HS := Lib.hid hs
      have HBL := Lib.hid hb
      clear hs hb
      by_cases hlt : k < N
      · obtain ⟨A, hA, hA32, ad, rfl, _, hcA⟩ := DgAt_get (HA.out.far HBL.out (Nat.le_refl _)) (k := k) (by rw [← HN.out]; exact hlt)
        obtain ⟨B, hB, hB32, bd, rfl, _, hcB⟩ := DgAt_get (HB.out.far HBL.out (Nat.le_refl _)) (k := k) (by rw [← HM.out]; exact hlt)
        have HIA := Lib.hid (info_dig32 hA32)
        have HIB := Lib.hid (info_dig32 hB32)
        have HCA : Hid (∀ w', (∃ q, w' = wr.drewN q) → ∀ j v, (A.map byteV)[j]? = some v → w'.cell? ((ad.add (k * 32)).add j) = some v) := Lib.hid fun w' ⟨q, hq⟩ => by subst hq; exact hcA
        have HCB : Hid (∀ w', (∃ q, w' = wr.drewN q) → ∀ j v, (B.map byteV)[j]? = some v → w'.cell? ((bd.add (k * 32)).add j) = some v) := Lib.hid fun w' ⟨q, hq⟩ => by subst hq; exact hcB
        have q : ∀ w, (Op.equalIn 10000 26 (.agg (A.map byteV).toArray) (.agg (B.map byteV).toArray)).run Tryd.prog w = .ok (decide (A = B)) w := fun w => eq_digest w 9998 hA32 hB32
        have gd := guard_digest
        have HAB := Lib.hid (show a.getD k [] = A ∧ b.getD k [] = B from ⟨hA.symm, hB.symm⟩)
        clear hA hB hcA hcB hA32 hB32
        go_upto_region 6 with (fail)
        refine (wpIn_wide (n := 4)).1 ?_
        refine region_quiet_drew (by kernel_rfl) (by kernel_rfl) (by kernel_rfl) ?_
        iterate 3 gi_big_quiet_step (fail)
        refine ls_wpQuiet_load (fun _ => trivial) rfl 26 _ rfl (ad.add (k * 32)) rfl (A.map byteV) _ HCA.out Tryd.underlying26 rfl HIA.out ?_
        simp only [Act.put, List.setIfInBounds_toArray, List.set_cons_zero, List.set_cons_succ]
        iterate 3 gi_big_quiet_step (fail)
        refine ls_wpQuiet_load (fun _ => trivial) rfl 26 _ rfl (bd.add (k * 32)) rfl (B.map byteV) _ HCB.out Tryd.underlying26 rfl HIB.out ?_
        simp only [Act.put, List.setIfInBounds_toArray, List.set_cons_zero, List.set_cons_succ]
        gi_big_quiet_step (fail)
        refine wpQuietIn_nil ?_
        rintro _ ⟨n, rfl⟩
        have HB2 : Hid (Below w.heap.size w (wr.drewN n)) := Lib.hid (below_drewN HBL.out n)
        clear q gd HCA HCB
        generalize wr.drewN n = w2 at *
        gi_wp2
        by_cases he : A = B
        · rw [decide_eq_true he]
          have HEQ := Lib.hid (show a.getD k [] = b.getD k [] by rw [HAB.out.1, HAB.out.2, he])
          clear he
          go_wp2
          go_roundw
          case rel => exact ⟨k + 1, by omega, by go_num, fun j hj => by
            by_cases hjk : j = k
            · subst hjk; exact HEQ.out
            · exact HS.out j (by omega), HB2.out⟩
          case measure => simp [intOf]; omega
        · rw [decide_eq_false he]
          have HF : Hid (R = false) := Lib.hid (by rw [HR.out, decide_eq_false_iff_not]; intro e; apply he; rw [← HAB.out.1, ← HAB.out.2, e])
          clear he
          go_wp2
          go_ret
          exact ⟨(by rw [HF.out]; rfl), HB2.out⟩
      · obtain rfl : k = N := by omega
        have HF : Hid (R = true) := Lib.hid (by rw [HR.out, decide_eq_true_eq]; exact ext_getD (by rw [← HN.out, ← HM.out]) (fun j hj => HS.out j (by rw [HN.out]; exact hj)))
        go_wp2
        go_ret
        exact ⟨(by rw [HF.out]; rfl), HBL.out⟩
  · have hq : ((N : Int) == (M : Int)) = false := beq_eq_false_iff_ne.2 (by omega)
    have HF : Hid (R = false) := Lib.hid (by rw [HR.out, decide_eq_false_iff_not]; intro e; apply hnm; rw [HN.out, HM.out, e])
    clear hnm
    go_enter Tryd.func8, Tryd.ntmps8
    go_wp2
    go_ret
    exact ⟨(by rw [HF.out]; rfl), Below.refl _ _⟩
set_option maxHeartbeats 4000000 in
theorem of_nil (w : World) : Calls Tryd.prog 9 #[.slice none 0 0] w fun e w' => e = .returned (.slice none 0 0) ∧ w = w' := by
  go_enter Tryd.func9, Tryd.ntmps9
  go_wp2
  go_loopw [3, 8] (fun v i wr => v = .slice none 0 0 ∧ i = .int .i64 0 ∧ wr = w) (fun _ _ _ => 0)
  case atStart => exact ⟨rfl, rfl, rfl⟩
  case round =>
    obtain ⟨rfl, rfl, rfl⟩ := hrel
    go_wp2
    go_ret
    exact ⟨rfl, rfl⟩
end Go.Proofs.YtemnfnmkhfgopaaDoor
