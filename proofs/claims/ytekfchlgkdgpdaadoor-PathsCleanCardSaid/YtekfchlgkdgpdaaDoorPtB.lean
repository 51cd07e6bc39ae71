/- Layer 14: the document's parts of a path. -/
import Derived.Deep.AppendLies
import Derived.Test.YtekfchlgkdgpdaaDoorRnd
import Derived.Test.YtekfchlgkdgpdaaDoorPtA
namespace Go.Proofs.YtekfchlgkdgpdaaDoor
open Go.RowKit

set_option maxRecDepth 100000 in
set_option maxHeartbeats 4000000 in
theorem parts_any (s : ByteArray) (w : World) (hs : s.size ≤ 1000000) :
    Calls Tryd.prog 26 #[.string s] w fun e w' => ∃ v, e = .returned v ∧ OwnsS w' w.heap.size v (cutL s.data.toList 47) ∧ Below w.heap.size w w' := by
  have HSL := Lib.hid (show s.data.toList.length = s.size by simp)
  have IS := Lib.hid (fun (i : Nat) (h : i < s.size) => idx_str s i i rfl h)
  obtain ⟨i0, hi, hz0, hz1, hz2⟩ := info_parts info_string
  have HO := Lib.hid (owns_one_str w [])
  have HB := Lib.hid ((Below.refl w.heap.size w).alloc (Nat.le_refl _) (.cells #[.string (str [])] 9))
  go_enter Tryd.func26, Tryd.ntmps26
  go_wp2
  change Code.wp _ _ _ _ (w.alloc (.cells #[.string (str [])] 9))
  generalize w.alloc (.cells #[.string (str [])] 9) = w0 at *
  go_loopw [3, 4] (fun l v wr => ∃ k : Nat, k ≤ s.size ∧ v = .int .i64 k ∧ Hid (OwnsS wr w.heap.size l (cutL (s.data.toList.take k) 47)) ∧ Hid (Below w.heap.size w wr)) (fun _ v _ => s.size - (intOf v).toNat)
  case atStart => exact ⟨0, Nat.zero_le _, rfl, HO, HB⟩
  case round =>
    clear HO HB
    obtain ⟨k, hk, rfl, hO, hB⟩ := hrel
    obtain ⟨a, cap, rfl⟩ := hO.out.form
    by_cases hlt : k < s.size
    · have g1 : (k : Int) < (s.size : Int) := by omega
      have HN := Lib.hid (cut_take s.data.toList 47 (k := k) (by have := HSL.out; omega))
      have hq : (((s.data[k]'(by simpa using hlt)).toNat : Int) == 47) = (s.data.toList.getD k 0 == 47) := by
        rw [← getD_data s hlt]
        exact beq_u8 _ 47
      have hpos := cutL_pos (s.data.toList.take k) 47
      have hle := cutL_le (s.data.toList.take k) 47
      rw [List.length_take] at hle
      have HX := Lib.hid (extract_one s hlt)
      have i1 := IS.out k hlt
      obtain ⟨x, hx⟩ : ∃ x, x = s.data.toList.getD k 0 := ⟨_, rfl⟩
      rw [← hx] at hq HN HX
      have hpl := cutL_getD_le (s.data.toList.take k) 47 ((cutL (s.data.toList.take k) 47).length - 1)
      rw [List.length_take] at hpl
      generalize cutL (s.data.toList.take k) 47 = E at *
      obtain ⟨M, hM⟩ : ∃ M, E.length = M + 1 := ⟨E.length - 1, by omega⟩
      have hM6 : M ≤ 1000000 := by have := HSL.out; omega
      rw [hM]
      have HMl := Lib.hid hM
      clear IS
      cases hb : (x == 47)
      · have HNE := Lib.hid (show ¬ x = 47 by simpa using hb)
        rw [hb] at hq
        rw [hM] at hO
        obtain ⟨g, hga, hgB, e1⟩ := hO.out.at (k := M) (by omega)
        subst hga
        rw [hM, show M + 1 - 1 = M by omega] at hpl
        have hx1 := HX.out
        have z1 : (str [x]).size = 1 := rfl
        obtain ⟨q, hq2⟩ : ∃ q, q = E.getD M [] := ⟨_, rfl⟩
        rw [← hq2] at e1 hpl
        have zp := str_size q
        have HQ := Lib.hid hq2
        have hqM : q.length ≤ 1000000 := by omega
        clear hq2
        have HO1 := Lib.hid (show World.ownsRow wr w.heap.size 9 1 (.slice (some ⟨g, 0, none⟩) (M + 1) cap) (M + 1) (strsV E) from by have h5 := hO.out; unfold OwnsS at h5; rw [hM] at h5; exact h5)
        have fG := HO1.out.frozenAt M
        have hl : IntKind.i64.wrap ((k : Int) + 1) = (k : Int) + 1 := IntWalk.i64_in _ (by omega)
        have hmin : min (k + 1) s.size = k + 1 := by omega
        have hwM : IntKind.i64.wrap (M : Int) = (M : Int) := IntWalk.i64_in _ (by omega)
        clear hb hx hM
        go_wp2
        refine (wpIn_wide (n := 4)).1 ?_
        refine region_quiet_tail (C := fun w' => ∃ q, w' = wr.drewN q) 16 (by kernel_rfl) (by kernel_rfl) (by kernel_rfl) ⟨1, rfl⟩ ?_
        simp only [List.take_succ_cons, List.take_zero, List.drop_succ_cons, List.drop_zero]
        repeat (gi_big_quiet_step (fail))
        refine wpQuietIn_nil ?_
        rintro _ ⟨nq, rfl⟩
        have e1' : (wr.drewN nq).cell? ⟨g, M, none⟩ = some (.string (str q)) := e1
        have fG' : (wr.drewN nq).frozen? ⟨g, M, none⟩ = false := fG
        have HO2 := Lib.hid (show OwnsS (wr.drewN nq) w.heap.size (.slice (some ⟨g, 0, none⟩) (M + 1) cap) E from hO.out)
        have HB2 := Lib.hid (below_drewN hB.out nq)
        clear e1 fG hO hB HO1
        generalize wr.drewN nq = w5 at *
        gi_wp2
        go_wp2
        go_roundw
        case rel => exact ⟨k + 1, by omega, by go_num, by
          rw [HN.out, cutS, if_neg HNE.out, HMl.out, show M + 1 - 1 = M by omega, ← HQ.out, str_append]
          exact Lib.hid (HO2.out.set M (q ++ [x])), Lib.hid (HB2.out.setCell (p := ⟨g, M, none⟩) hgB _)⟩
        case measure => simp [intOf]; omega
      · have HEQ := Lib.hid (show x = 47 by simpa using hb)
        rw [hb] at hq
        have HO1 := Lib.hid (show World.ownsRow wr w.heap.size 9 1 (.slice a (M + 1) cap) (M + 1) (strsV E) from by have h5 := hO.out; unfold OwnsS at h5; rw [hM] at h5; exact h5)
        clear hb hx hM
        go_wp2_with ((with_reducible show wpList _ _ _ (⟨some 18, _, _, _, _, _⟩ :: _) _ _); refine wpList_append_own _ rfl (.tmp 16) (.tmp 17) 35 rfl w.heap.size 9 i0 (.string ⟨#[]⟩) 1 16 Tryd.underlying35 hi hz0 hz1 hz2 rfl (by decide) (.slice a (M + 1) cap) (M + 1) (strsV E) rfl (World.ownsRow.alloc HO1.out _) _ 1 1 [.string ⟨#[]⟩] rfl rfl (World.news_of_block (heap_alloc_new _ _)) (by intro u hu; simp at hu; subst hu; rfl) (by unfold maxLen; omega) (by omega) (by rw [size_alloc]; have := hB.out.size; omega) ?_; intro v' w6 hown6 hgrow6 _; obtain ⟨a6, cap6, rfl⟩ := owns_form hown6; have HO6 := Lib.hid hown6; have HB6 := Lib.hid ((hB.out.alloc hB.out.size _).grown hgrow6 (by rw [size_alloc]; have := hB.out.size; omega) (fun j hj => (HO1.out.lt j hj).1)); clear hown6 hgrow6)
        go_roundw
        case rel => exact ⟨k + 1, by omega, by go_num, by
          rw [HN.out, cutS, if_pos HEQ.out]
          refine Lib.hid ?_
          show World.ownsRow _ _ _ _ _ _ _
          rw [List.length_append, HMl.out, strsV, List.map_append]
          exact HO6.out, HB6⟩
        case measure => simp [intOf]; omega
    · have HE := Lib.hid (show s.data.toList.take k = s.data.toList by rw [List.take_of_length_le (by have := HSL.out; omega)])
      have h5 := Lib.hid hO.out
      rw [HE.out] at h5 ⊢
      clear hO
      go_wp2
      go_ret
      exact ⟨_, rfl, h5.out, hB.out⟩
end Go.Proofs.YtekfchlgkdgpdaaDoor
