/- Layer 17: Shared, the program's and the document's; lists held against each other. -/
import Derived.Test.YtemnfnmkhfgopaaDoorChE
namespace Go.Proofs.YtemnfnmkhfgopaaDoor
open Go.RowKit
attribute [local go_sem] wide_fn round_fn

theorem DgAt_get {w : World} {x : Option Addr} {l : List (List UInt8)} (h : DgE.At w x l) {k : Nat} (hk : k < l.length) : ∃ d, d = l.getD k [] ∧ d.length = 32 ∧ ∃ ad, x = some ad ∧ ad.block < w.heap.size ∧ ∀ j v, (d.map byteV)[j]? = some v → w.cell? ((ad.add (k * 32)).add j) = some v := by
  obtain ⟨h1, ad, h2, h3, h4⟩ := h k l[k] (List.getElem?_eq_getElem hk)
  exact ⟨l[k], by rw [List.getD_eq_getElem?_getD, List.getElem?_eq_getElem hk]; rfl, h1, ad, h2, h3, h4⟩
set_option maxRecDepth 100000 in
set_option maxHeartbeats 8000000 in
theorem shared_any (a b : List (List UInt8)) (x y : Option Addr) (c d : Nat) (w : World) (ha : a.length ≤ maxLen) (hb : b.length ≤ maxLen) (hA : DgE.At w x a) (hB : DgE.At w y b) :
    Calls Tryd.prog 10 #[.slice x a.length c, .slice y b.length d] w fun e w' => e = .returned (.int .i64 (shareL a b : Nat)) ∧ Below w.heap.size w w' := by
  have HA := Lib.hid hA
  have HB := Lib.hid hB
  obtain ⟨N, hN⟩ : ∃ N, N = a.length := ⟨_, rfl⟩
  obtain ⟨M, hM⟩ : ∃ M, M = b.length := ⟨_, rfl⟩
  rw [← hN, ← hM]
  have HN := Lib.hid hN
  have HM := Lib.hid hM
  have hn2 : N ≤ 9223372036854775807 := by unfold maxLen at ha; omega
  have hm2 : M ≤ 9223372036854775807 := by unfold maxLen at hb; omega
  clear hA hB hN hM ha hb
  obtain ⟨m, hm⟩ : ∃ m, m = min N M := ⟨_, rfl⟩
  have HMM := Lib.hid hm
  have hmi : min (N : Int) (M : Int) = (m : Int) := by omega
  have hml : m ≤ 9223372036854775807 := by omega
  have HML : Hid (m ≤ N ∧ m ≤ M) := Lib.hid ⟨by omega, by omega⟩
  clear hm
  go_enter Tryd.func10, Tryd.ntmps10
  go_wp2
  go_loopw [13] (fun i wr => ∃ k : Nat, k ≤ m ∧ i = .int .i64 k ∧ (∀ j, j < k → a.getD j [] = b.getD j []) ∧ Below w.heap.size w wr) (fun i _ => m - (intOf i).toNat)
  case atStart => exact ⟨0, by omega, rfl, fun j hj => by omega, Below.refl _ _⟩
  case round =>
    obtain ⟨k, hk, rfl, hs, hb⟩ := hrel
    have HS := Lib.hid hs
    have HBL := Lib.hid hb
    clear hs hb
    by_cases hlt : k < m
    · obtain ⟨A, hA, hA32, ad, rfl, _, hcA⟩ := DgAt_get (HA.out.far HBL.out (Nat.le_refl _)) (k := k) (by rw [← HN.out]; have := HML.out.1; omega)
      obtain ⟨B, hB, hB32, bd, rfl, _, hcB⟩ := DgAt_get (HB.out.far HBL.out (Nat.le_refl _)) (k := k) (by rw [← HM.out]; have := HML.out.2; omega)
      have hkN : k < N := by have := HML.out.1; omega
      have hkM : k < M := by have := HML.out.2; omega
      have HIA := Lib.hid (info_dig32 hA32)
      have HIB := Lib.hid (info_dig32 hB32)
      have HCA : Hid (∀ w', (∃ q, w' = wr.drewN q) → ∀ j v, (A.map byteV)[j]? = some v → w'.cell? ((ad.add (k * 32)).add j) = some v) := Lib.hid fun w' ⟨q, hq⟩ => by subst hq; exact hcA
      have HCB : Hid (∀ w', (∃ q, w' = wr.drewN q) → ∀ j v, (B.map byteV)[j]? = some v → w'.cell? ((bd.add (k * 32)).add j) = some v) := Lib.hid fun w' ⟨q, hq⟩ => by subst hq; exact hcB
      have q : ∀ w, (Op.equalIn 10000 26 (.agg (A.map byteV).toArray) (.agg (B.map byteV).toArray)).run Tryd.prog w = .ok (decide (A = B)) w := fun w => eq_digest w 9998 hA32 hB32
      have gd := guard_digest
      have HAB := Lib.hid (show a.getD k [] = A ∧ b.getD k [] = B from ⟨hA.symm, hB.symm⟩)
      clear hA hB hcA hcB hA32 hB32
      go_upto_region 5 with (fail)
      refine (wpIn_wide (n := 4)).1 ?_
      refine region_quiet_drew (by kernel_rfl) (by kernel_rfl) (by kernel_rfl) ?_
      iterate 3 gi_big_quiet_step (fail)
      refine ls_wpQuiet_load (fun _ => trivial) rfl 26 _ rfl (ad.add (k * 32)) rfl (A.map byteV) _ HCA.out Tryd.underlying26 rfl HIA.out ?_
      simp only [Act.put, List.setIfInBounds_toArray, List.set_cons_zero, List.set_cons_succ]
      iterate 3 gi_big_quiet_step (fail)
      refine ls_wpQuiet_load (fun _ => trivial) rfl 26 _ rfl (bd.add (k * 32)) rfl (B.map byteV) _ HCB.out Tryd.underlying26 rfl HIB.out ?_
      simp only [Act.put, List.setIfInBounds_toArray, List.set_cons_zero, List.set_cons_succ]
      gi_big_quiet_step (fail)
      refine wpQuietIn_nil ?_
      rintro _ ⟨n, rfl⟩
      have HB2 : Hid (Below w.heap.size w (wr.drewN n)) := Lib.hid (below_drewN HBL.out n)
      clear q gd HCA HCB
      generalize wr.drewN n = w2 at *
      gi_wp2
      by_cases he : A = B
      · rw [decide_eq_true he]
        have HEQ := Lib.hid (show a.getD k [] = b.getD k [] by rw [HAB.out.1, HAB.out.2, he])
        clear he
        go_wp2
        go_roundw
        case rel => exact ⟨k + 1, by omega, by go_num, fun j hj => by
          by_cases hjk : j = k
          · subst hjk; exact HEQ.out
          · exact HS.out j (by omega), HB2.out⟩
        case measure => simp [intOf]; omega
      · rw [decide_eq_false he]
        have HR := Lib.hid (shareL_is (a := a) (b := b) (n := k) (by rw [← HN.out]; omega) (by rw [← HM.out]; omega) HS.out (.inr (.inr (by rw [HAB.out.1, HAB.out.2]; exact he))))
        clear he
        go_wp2
        go_ret
        exact ⟨(by rw [HR.out]; rfl), HB2.out⟩
    · obtain rfl : k = m := by omega
      have HR := Lib.hid (shareL_is (a := a) (b := b) (n := k) (by rw [← HN.out]; exact HML.out.1) (by rw [← HM.out]; exact HML.out.2) HS.out (by
        have h1 := HMM.out
        rw [HN.out, HM.out] at h1
        by_cases h2 : a.length ≤ b.length
        · exact .inl (by omega)
        · exact .inr (.inl (by omega))))
      go_wp2
      go_ret
      exact ⟨(by rw [HR.out]; rfl), HBL.out⟩
set_option maxRecDepth 100000 in
set_option maxHeartbeats 8000000 in
theorem rshared_any (a b : List (List UInt8)) (x y : Option Addr) (c d : Nat) (w : World) (ha : a.length ≤ maxLen) (hb : b.length ≤ maxLen) (hA : DgE.At w x a) (hB : DgE.At w y b) :
    Calls Tryd.prog 11 #[.slice x a.length c, .slice y b.length d] w fun e w' => e = .returned (.int .i64 (shareL a b : Nat)) ∧ Below w.heap.size w w' := by
  have HA := Lib.hid hA
  have HB := Lib.hid hB
  obtain ⟨N, hN⟩ : ∃ N, N = a.length := ⟨_, rfl⟩
  obtain ⟨M, hM⟩ : ∃ M, M = b.length := ⟨_, rfl⟩
  rw [← hN, ← hM]
  have HN := Lib.hid hN
  have HM := Lib.hid hM
  have hn2 : N ≤ 9223372036854775807 := by unfold maxLen at ha; omega
  have hm2 : M ≤ 9223372036854775807 := by unfold maxLen at hb; omega
  clear hA hB hN hM ha hb
  go_enter Tryd.func11, Tryd.ntmps11
  go_wp2
  go_loopw [5, 6] (fun n i wr => ∃ k f : Nat, f ≤ 1 ∧ k + f ≤ N ∧ k + f ≤ M ∧ n = .int .i64 k ∧ i = .int .i64 (k + f : Nat) ∧ (∀ j, j < k → a.getD j [] = b.getD j []) ∧ (f = 1 → a.getD k [] ≠ b.getD k []) ∧ Below w.heap.size w wr) (fun _ i _ => N - (intOf i).toNat)
  case atStart => exact ⟨0, 0, by omega, by omega, by omega, rfl, rfl, fun j hj => by omega, fun h => by omega, Below.refl _ _⟩
  case round =>
    obtain ⟨k, f, hf, hkN, hkM, rfl, rfl, hs, hne, hb⟩ := hrel
    have HS := Lib.hid hs
    have HNE := Lib.hid hne
    have HBL := Lib.hid hb
    clear hs hne hb
    rcases (show f = 0 ∨ f = 1 by omega) with rfl | rfl
    · simp only [Nat.add_zero] at hkN hkM ⊢
      by_cases h1 : k < N
      · by_cases h2 : k < M
        · obtain ⟨A, hA, hA32, ad, rfl, _, hcA⟩ := DgAt_get (HA.out.far HBL.out (Nat.le_refl _)) (k := k) (by rw [← HN.out]; exact h1)
          obtain ⟨B, hB, hB32, bd, rfl, _, hcB⟩ := DgAt_get (HB.out.far HBL.out (Nat.le_refl _)) (k := k) (by rw [← HM.out]; exact h2)
          have HIA := Lib.hid (info_dig32 hA32)
          have HIB := Lib.hid (info_dig32 hB32)
          have HCA : Hid (∀ w', (∃ q, w' = wr.drewN q) → ∀ j v, (A.map byteV)[j]? = some v → w'.cell? ((ad.add (k * 32)).add j) = some v) := Lib.hid fun w' ⟨q, hq⟩ => by subst hq; exact hcA
          have HCB : Hid (∀ w', (∃ q, w' = wr.drewN q) → ∀ j v, (B.map byteV)[j]? = some v → w'.cell? ((bd.add (k * 32)).add j) = some v) := Lib.hid fun w' ⟨q, hq⟩ => by subst hq; exact hcB
          have q : ∀ w, (Op.equalIn 10000 26 (.agg (A.map byteV).toArray) (.agg (B.map byteV).toArray)).run Tryd.prog w = .ok (decide (A = B)) w := fun w => eq_digest w 9998 hA32 hB32
          have gd := guard_digest
          have HAB := Lib.hid (show a.getD k [] = A ∧ b.getD k [] = B from ⟨hA.symm, hB.symm⟩)
          clear hA hB hcA hcB hA32 hB32
          go_upto_region 5 with (fail)
          refine (wpIn_wide (n := 4)).1 ?_
          refine region_quiet_drew (by kernel_rfl) (by kernel_rfl) (by kernel_rfl) ?_
          iterate 3 gi_big_quiet_step (fail)
          refine ls_wpQuiet_load (fun _ => trivial) rfl 26 _ rfl (ad.add (k * 32)) rfl (A.map byteV) _ HCA.out Tryd.underlying26 rfl HIA.out ?_
          simp only [Act.put, List.setIfInBounds_toArray, List.set_cons_zero, List.set_cons_succ]
          iterate 3 gi_big_quiet_step (fail)
          refine ls_wpQuiet_load (fun _ => trivial) rfl 26 _ rfl (bd.add (k * 32)) rfl (B.map byteV) _ HCB.out Tryd.underlying26 rfl HIB.out ?_
          simp only [Act.put, List.setIfInBounds_toArray, List.set_cons_zero, List.set_cons_succ]
          gi_big_quiet_step (fail)
          refine wpQuietIn_nil ?_
          rintro _ ⟨n, rfl⟩
          have HB2 : Hid (Below w.heap.size w (wr.drewN n)) := Lib.hid (below_drewN HBL.out n)
          clear q gd HCA HCB
          generalize wr.drewN n = w2 at *
          gi_wp2
          by_cases he : A = B
          · rw [decide_eq_true he]
            have HEQ := Lib.hid (show a.getD k [] = b.getD k [] by rw [HAB.out.1, HAB.out.2, he])
            clear he
            go_wp2
            go_roundw
            case rel => exact ⟨k + 1, 0, by omega, by omega, by omega, by go_num, by go_num, fun j hj => by
              by_cases hjk : j = k
              · subst hjk; exact HEQ.out
              · exact HS.out j (by omega), fun h => by omega, HB2.out⟩
            case measure => simp [intOf]; omega
          · rw [decide_eq_false he]
            have HEQ := Lib.hid (show a.getD k [] ≠ b.getD k [] by rw [HAB.out.1, HAB.out.2]; exact he)
            clear he
            go_wp2
            go_roundw
            case rel => exact ⟨k, 1, by omega, by omega, by omega, rfl, by go_num, HS.out, fun _ => HEQ.out, HB2.out⟩
            case measure => simp [intOf]; omega
        · have HR := Lib.hid (shareL_is (a := a) (b := b) (n := k) (by rw [← HN.out]; omega) (by rw [← HM.out]; omega) HS.out (.inr (.inl (by rw [← HM.out]; omega))))
          go_wp2
          go_ret
          exact ⟨(by rw [HR.out]; rfl), HBL.out⟩
      · have HR := Lib.hid (shareL_is (a := a) (b := b) (n := k) (by rw [← HN.out]; omega) (by rw [← HM.out]; omega) HS.out (.inl (by rw [← HN.out]; omega)))
        go_wp2
        go_ret
        exact ⟨(by rw [HR.out]; rfl), HBL.out⟩
    · have HR := Lib.hid (shareL_is (a := a) (b := b) (n := k) (by rw [← HN.out]; omega) (by rw [← HM.out]; omega) HS.out (.inr (.inr (HNE.out rfl))))
      have h3 : ((k : Int) == ((k + 1 : Nat) : Int)) = false := beq_eq_false_iff_ne.2 (by omega)
      have h4 : ((k : Int) == (k : Int) + 1) = false := beq_eq_false_iff_ne.2 (by omega)
      by_cases h1 : k + 1 < N
      · by_cases h2 : k + 1 < M
        · go_wp2
          go_ret
          exact ⟨(by rw [HR.out]; rfl), HBL.out⟩
        · go_wp2
          go_ret
          exact ⟨(by rw [HR.out]; rfl), HBL.out⟩
      · go_wp2
        go_ret
        exact ⟨(by rw [HR.out]; rfl), HBL.out⟩
end Go.Proofs.YtemnfnmkhfgopaaDoor
