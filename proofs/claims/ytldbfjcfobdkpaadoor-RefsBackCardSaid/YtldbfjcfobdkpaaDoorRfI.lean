/- Layer 12: the document's 'Parse'. -/
import Derived.Test.YtldbfjcfobdkpaaDoorRfH
namespace Go.Proofs.YtldbfjcfobdkpaaDoor
open Go.RowKit

theorem pin_le (s : List UInt8) : ((cutL s 64).getD 0 []).length ≤ s.length := cutL_getD_le s 64 0
theorem parse_long {s : List UInt8} (h : 200 < s.length) : parseR s = (zeroR, 3) := by unfold parseR; rw [if_pos h]
theorem parse_dig {s : List UInt8} (h : ¬ 200 < s.length) (hp : pinR s = true) (hd : isText (digR s) = false) : parseR s = (zeroR, 10) := by unfold parseR; rw [if_neg h, if_pos ⟨hp, hd⟩]
theorem parse_tag {s : List UInt8} (h : ¬ 200 < s.length) (hd : ¬ (pinR s = true ∧ isText (digR s) = false)) (ht : tagged ((cutL s 64).getD 0 []) = true ∧ lastR ((cutL s 64).getD 0 []) = []) : parseR s = (zeroR, 10) := by unfold parseR; rw [if_neg h, if_neg hd, if_pos ht]
theorem parse_end {s : List UInt8} (h : ¬ 200 < s.length) (hd : ¬ (pinR s = true ∧ isText (digR s) = false)) (ht : ¬ (tagged ((cutL s 64).getD 0 []) = true ∧ lastR ((cutL s 64).getD 0 []) = [])) : parseR s = if mayR (readR s) = true then (readR s, 0) else (zeroR, 10) := by unfold parseR; rw [if_neg h, if_neg hd, if_neg ht]
theorem cutL_last (s : List UInt8) (c : UInt8) : ((cutL s c).getD ((cutL s c).length - 1) []).length + (cutL s c).length ≤ s.length + 1 := by
  rcases List.eq_nil_or_concat s with rfl | ⟨r, x, rfl⟩
  · exact Nat.le_refl _
  · have := cutL_last r c
    have hp := cutL_pos r c
    rw [List.concat_eq_append, cutL_snoc, cutS_length, List.length_append, List.length_singleton]
    unfold cutS
    split
    · rw [Nat.add_sub_cancel, List.getD_eq_getElem?_getD, List.getElem?_append_right (Nat.le_refl _), Nat.sub_self]
      simp only [List.getElem?_cons_zero, Option.getD_some, List.length_nil]
      omega
    · rw [Nat.add_zero, List.getD_eq_getElem?_getD, List.getElem?_set_self (by omega), Option.getD_some, List.length_append, List.length_singleton]
      omega
termination_by s.length
decreasing_by rename_i h; rw [h]; simp
theorem tagged_lt {n : List UInt8} (h : tagged n = true) : (lastR n).length < n.length := by
  unfold tagged at h
  rw [Bool.and_eq_true, decide_eq_true_eq, decide_eq_true_eq] at h
  have := cutL_last n 58
  have e : (lastR n).length = ((cutL n 58).getD ((cutL n 58).length - 1) []).length := rfl
  omega
theorem cutL_sum (s : List UInt8) (c : UInt8) : ∀ p ∈ cutL s c, p.length + (cutL s c).length ≤ s.length + 1 := by
  rcases List.eq_nil_or_concat s with rfl | ⟨r, x, rfl⟩
  · intro p hp
    rw [cutL_nil, List.mem_singleton] at hp
    rw [hp]
    exact Nat.le_refl _
  · have IH := cutL_sum r c
    have hle := cutL_le r c
    have hp := cutL_pos r c
    rw [List.concat_eq_append, cutL_snoc, cutS_length, List.length_append, List.length_singleton]
    unfold cutS
    intro q hq
    split at hq
    · rw [List.mem_append, List.mem_singleton] at hq
      rcases hq with hq | rfl
      · have := IH q hq
        split <;> omega
      · rw [List.length_nil]
        split <;> omega
    · rcases List.mem_or_eq_of_mem_set hq with hq | rfl
      · have := IH q hq
        split <;> omega
      · have hm : (cutL r c).getD ((cutL r c).length - 1) [] ∈ cutL r c := by
          rw [List.getD_eq_getElem?_getD, List.getElem?_eq_getElem (by omega)]
          exact List.getElem_mem _
        have := IH _ hm
        rename_i hx
        rw [List.length_append, List.length_singleton, if_neg hx]
        omega
termination_by s.length
decreasing_by rename_i h; rw [h]; simp
theorem front_lt {n : List UInt8} (h : frontR n ≠ []) : (frontR n).length + 1 ≤ n.length := by
  unfold frontR at h ⊢
  split at h
  · rename_i hc
    rw [if_pos hc]
    rw [Bool.and_eq_true, decide_eq_true_eq] at hc
    have hm : (cutL n 47).getD 0 [] ∈ cutL n 47 := by
      rw [List.getD_eq_getElem?_getD, List.getElem?_eq_getElem (by omega)]
      exact List.getElem_mem _
    have := cutL_sum n 47 _ hm
    omega
  · exact absurd rfl h
theorem front_le (n : List UInt8) : (frontR n).length ≤ n.length := by
  by_cases h : frontR n = []
  · rw [h]
    exact Nat.zero_le _
  · have := front_lt h
    omega
theorem tagR_le (n : List UInt8) (p : Bool) : (tagR n p).length ≤ n.length + 6 := by
  unfold tagR
  split
  · have := cutL_getD_le n 58 ((cutL n 58).length - 1)
    exact Nat.le_trans this (by omega)
  · split
    · exact Nat.zero_le _
    · exact Nat.le_trans (show latestB.length ≤ 6 from Nat.le_refl _) (by omega)
theorem restR_le (n : List UInt8) : (restR n).length ≤ n.length := by
  unfold restR
  split
  · exact Nat.le_refl _
  · rw [List.length_drop]
    omega
theorem pathR_le (n : List UInt8) : (pathR n).length ≤ n.length + 8 := by
  have := restR_le n
  unfold pathR
  split
  · rw [List.length_append, List.length_append]
    have : libraryB.length = 7 := rfl
    have : ([47] : List UInt8).length = 1 := rfl
    omega
  · omega
theorem domR_le (n : List UInt8) : (domR n).length ≤ n.length + 9 := by
  have := front_le n
  unfold domR
  split
  · have : hubB.length = 9 := rfl
    omega
  · omega
theorem info_zero : (Tryd.prog.info? 26).map (·.size) = some (refC zeroR).size := info_ref zero_ok
set_option maxRecDepth 100000 in
set_option maxHeartbeats 16000000 in
theorem rread_any (s : List UInt8) (w : World) (hs : s.length ≤ 1000000) :
    Calls Tryd.prog 10 #[.string (str s)] w fun e w' => e = .returned (.tuple #[.agg (refC (parseR s).1), .int .i64 (parseR s).2]) ∧ Below w.heap.size w w' := by
  have szs := str_size s
  have HI := Lib.hid info_zero
  obtain ⟨w0, hw0⟩ : ∃ w0, w.alloc (.cells #[.string ⟨#[]⟩, .string ⟨#[]⟩, .string ⟨#[]⟩, .int .u8 0, .int .u8 0, .int .u8 0, .int .u8 0, .int .u8 0, .int .u8 0, .int .u8 0, .int .u8 0, .int .u8 0, .int .u8 0, .int .u8 0, .int .u8 0, .int .u8 0, .int .u8 0, .int .u8 0, .int .u8 0, .int .u8 0, .int .u8 0, .int .u8 0, .int .u8 0, .int .u8 0, .int .u8 0, .int .u8 0, .int .u8 0, .int .u8 0, .int .u8 0, .int .u8 0, .int .u8 0, .int .u8 0, .int .u8 0, .int .u8 0, .int .u8 0, .bool false] 26) = w0 := ⟨_, rfl⟩
  have HZ0 := Lib.hid (show refAt w0 w.heap.size zeroR by rw [← hw0]; unfold refAt; rw [zero_lit]; exact rowC_new w _ _)
  have HB0 := Lib.hid (show Below w.heap.size w w0 by rw [← hw0]; exact (Below.refl _ _).alloc (Nat.le_refl _) _)
  have hs0 : w0.heap.size = w.heap.size + 1 := by rw [← hw0, size_alloc]
  by_cases h2 : 200 < s.length
  · have q1 : (200 : Int) < (s.length : Int) := by omega
    have HP := Lib.hid (parse_long h2)
    go_enter Tryd.func10, Tryd.ntmps10
    go_wp2_with (first
      | ((with_reducible show wpList _ _ _ (⟨some 13, _, _, _, _, _⟩ :: _) _ _); refine wpList_build_as (o := ⟨some 13, _, _, _, _, _⟩) rfl 26 _ rfl (refC zeroR) ?_ ?_; kernel_rfl) | ((with_reducible show wpList _ _ _ (⟨some 14, _, _, _, _, _⟩ :: _) _ _); refine wpList_build_as (o := ⟨some 14, _, _, _, _, _⟩) rfl 26 _ rfl (refC zeroR) ?_ ?_; kernel_rfl) | ((with_reducible show wpList _ _ _ (⟨some 35, _, _, _, _, _⟩ :: _) _ _); refine wpList_build_as (o := ⟨some 35, _, _, _, _, _⟩) rfl 26 _ rfl (refC zeroR) ?_ ?_; kernel_rfl) | ((with_reducible show wpList _ _ _ (⟨some 58, _, _, _, _, _⟩ :: _) _ _); refine wpList_build_as (o := ⟨some 58, _, _, _, _, _⟩) rfl 26 _ rfl (refC zeroR) ?_ ?_; kernel_rfl) | ((with_reducible show wpList _ _ _ (⟨some 114, _, _, _, _, _⟩ :: _) _ _); refine wpList_build_as (o := ⟨some 114, _, _, _, _, _⟩) rfl 26 _ rfl (refC zeroR) ?_ ?_; kernel_rfl)
      | ((with_reducible show wpList _ _ _ (⟨none, .store _ (.tmp 2) _, _, _, _, _⟩ :: _) _ _); refine wpList_store_row rfl 26 _ _ rfl w.heap.size (refC zeroR) rfl rfl 26 (refC zeroR) HZ0.out HI.out rfl (refC_all _) ?_))
    refine bodyPost_ret (results_row_tmp rfl _ _ w.heap.size 26 (refC zeroR) _ rfl (rowC_setRow HZ0.out _) Tryd.underlying26 rfl HI.out _ rfl) rfl ⟨by rw [HP.out]; rfl, below_setRow HB0.out (Nat.le_refl _) _⟩
  · have q1 : ¬ (200 : Int) < (s.length : Int) := by omega
    have hp64 := cutL_pos s 64
    obtain ⟨n, hn⟩ : ∃ n, n = (cutL s 64).getD 0 [] := ⟨_, rfl⟩
    have HNm := Lib.hid hn
    clear hn
    obtain ⟨w1, hw1⟩ : ∃ w1, w0.alloc (.cells #[.string ⟨#[]⟩, .string ⟨#[]⟩, .string ⟨#[]⟩, .int .u8 0, .int .u8 0, .int .u8 0, .int .u8 0, .int .u8 0, .int .u8 0, .int .u8 0, .int .u8 0, .int .u8 0, .int .u8 0, .int .u8 0, .int .u8 0, .int .u8 0, .int .u8 0, .int .u8 0, .int .u8 0, .int .u8 0, .int .u8 0, .int .u8 0, .int .u8 0, .int .u8 0, .int .u8 0, .int .u8 0, .int .u8 0, .int .u8 0, .int .u8 0, .int .u8 0, .int .u8 0, .int .u8 0, .int .u8 0, .int .u8 0, .int .u8 0, .bool false] 26) = w1 := ⟨_, rfl⟩
    have HZ1 := Lib.hid (show refAt w1 (w.heap.size + 1) zeroR by rw [← hw1, ← hs0]; unfold refAt; rw [zero_lit]; exact rowC_new w0 _ _)
    have HZ2 := Lib.hid (show refAt w1 w.heap.size zeroR by rw [← hw1]; exact rowC_alloc HZ0.out _)
    have HB1 := Lib.hid (show Below w.heap.size w w1 by rw [← hw1]; exact HB0.out.alloc HB0.out.size _)
    have HP1 := Lib.hid (show PM w (w1.setRow (w.heap.size + 1) (refC zeroR)) zeroR zeroR from ⟨below_setRow HB1.out (by omega) _, rowC_setRow_other HZ2.out _ _ (by omega), rowC_setRow HZ1.out _⟩)
    go_enter Tryd.func10, Tryd.ntmps10
    go_upto_if 23 with (first
      | ((with_reducible show wpList _ _ _ (⟨some 13, _, _, _, _, _⟩ :: _) _ _); refine wpList_build_as (o := ⟨some 13, _, _, _, _, _⟩) rfl 26 _ rfl (refC zeroR) ?_ ?_; kernel_rfl) | ((with_reducible show wpList _ _ _ (⟨some 14, _, _, _, _, _⟩ :: _) _ _); refine wpList_build_as (o := ⟨some 14, _, _, _, _, _⟩) rfl 26 _ rfl (refC zeroR) ?_ ?_; kernel_rfl) | ((with_reducible show wpList _ _ _ (⟨some 35, _, _, _, _, _⟩ :: _) _ _); refine wpList_build_as (o := ⟨some 35, _, _, _, _, _⟩) rfl 26 _ rfl (refC zeroR) ?_ ?_; kernel_rfl) | ((with_reducible show wpList _ _ _ (⟨some 58, _, _, _, _, _⟩ :: _) _ _); refine wpList_build_as (o := ⟨some 58, _, _, _, _, _⟩) rfl 26 _ rfl (refC zeroR) ?_ ?_; kernel_rfl) | ((with_reducible show wpList _ _ _ (⟨some 114, _, _, _, _, _⟩ :: _) _ _); refine wpList_build_as (o := ⟨some 114, _, _, _, _, _⟩) rfl 26 _ rfl (refC zeroR) ?_ ?_; kernel_rfl)
      | ((with_reducible show wpList _ _ _ (⟨none, .store _ (.tmp 4) _, _, _, _, _⟩ :: _) _ _); refine wpList_store_row rfl 26 _ _ rfl (w.heap.size + 1) (refC zeroR) rfl rfl 26 (refC zeroR) HZ1.out HI.out rfl (refC_all _) ?_; generalize World.setRow _ _ _ = w2 at *)
      | (go_at_call 20; ((with_reducible refine (cutC s 64 64 rfl _ hs).mono ?_); rintro e w3 ⟨a3, cap3, rfl, o3, b3⟩); have P3 := Lib.hid (HP1.out.below b3); obtain ⟨g3, hga3, -, e3⟩ := o3.at (k := 0) (cutL_pos s 64); subst hga3; rw [← HNm.out] at e3; clear o3 b3))
    have HN6 := Lib.hid (show n.length ≤ s.length by rw [HNm.out]; exact pin_le s)
    have szn := str_size n
    have hs2 : s.length ≤ 200 := by omega
    have HPi := Lib.hid (show pinR s = decide (n.length < s.length) by rw [HNm.out]; rfl)
    have HDi := Lib.hid (show digR s = s.drop (n.length + 1) by rw [HNm.out]; rfl)
    go_cut [3] from 10 (fun s3 wx => s3 = .int .i64 0 ∧ Hid (PM w wx zeroR ⟨[], [], [], if pinR s = true then digL (digR s) else zero32, pinR s⟩) ∧ Hid (¬ (pinR s = true ∧ isText (digR s) = false)))
    case first =>
      cases hp : pinR s
      · have hlt : ¬ n.length < s.length := by
          intro e
          rw [HPi.out, decide_eq_true e] at hp
          cases hp
        have HC := Lib.hid (show ¬ (pinR s = true ∧ isText (digR s) = false) by rw [hp]; rintro ⟨e, _⟩; cases e)
        have P4 := Lib.hid (show PM w w3 zeroR ⟨[], [], [], if pinR s = true then digL (digR s) else zero32, pinR s⟩ by rw [hp, if_neg (by decide)]; exact P3.out)
        clear hp
        go_wp2
        go_meet
        case rel => exact ⟨rfl, P4, HC⟩
      · have hlt : n.length < s.length := by
          have e := HPi.out
          rw [hp] at e
          exact of_decide_eq_true e.symm
        have CD : ∀ w : World, Calls Tryd.prog 21 #[.string (str (digR s))] w fun e w' => e = .returned (.tuple #[.agg (cells8 (digL (digR s))), .int .i64 (errL (digR s))]) ∧ Below w.heap.size w w' := fun w => rparse_any (digR s) w (by rw [HDi.out, List.length_drop]; omega)
        have hx := extract_str s (n.length + 1) s.length
        rw [List.take_length, ← HDi.out] at hx
        have hDl := digL_length (digR s)
        generalize digL (digR s) = D at *
        have HDI := Lib.hid (info_digest hDl)
        have HDL := Lib.hid (info_digestL hDl)
        have HSZ := Lib.hid (show (cells8 zero32).size = (cells8 D).size by rw [cells8_size, cells8_size, hDl]; rfl)
        cases hT : isText (digR s)
        · have hE : errL (digR s) = 10 := by unfold errL; rw [if_neg (by rw [hT]; decide)]
          have HP := Lib.hid (parse_dig h2 hp hT)
          rw [hE] at CD
          clear hT hE hp
          go_wp2_with (first
            | ((with_reducible show wpList _ _ _ (⟨some 13, _, _, _, _, _⟩ :: _) _ _); refine wpList_build_as (o := ⟨some 13, _, _, _, _, _⟩) rfl 26 _ rfl (refC zeroR) ?_ ?_; kernel_rfl) | ((with_reducible show wpList _ _ _ (⟨some 14, _, _, _, _, _⟩ :: _) _ _); refine wpList_build_as (o := ⟨some 14, _, _, _, _, _⟩) rfl 26 _ rfl (refC zeroR) ?_ ?_; kernel_rfl) | ((with_reducible show wpList _ _ _ (⟨some 35, _, _, _, _, _⟩ :: _) _ _); refine wpList_build_as (o := ⟨some 35, _, _, _, _, _⟩) rfl 26 _ rfl (refC zeroR) ?_ ?_; kernel_rfl) | ((with_reducible show wpList _ _ _ (⟨some 58, _, _, _, _, _⟩ :: _) _ _); refine wpList_build_as (o := ⟨some 58, _, _, _, _, _⟩) rfl 26 _ rfl (refC zeroR) ?_ ?_; kernel_rfl) | ((with_reducible show wpList _ _ _ (⟨some 114, _, _, _, _, _⟩ :: _) _ _); refine wpList_build_as (o := ⟨some 114, _, _, _, _, _⟩) rfl 26 _ rfl (refC zeroR) ?_ ?_; kernel_rfl)
            | (go_at_call 21; ((with_reducible refine (CD _).mono ?_); rintro e w4 ⟨rfl, b4⟩); have P4 := Lib.hid (P3.out.below b4); have HA4 := Lib.hid ((Below.refl w4.heap.size w4).alloc (Nat.le_refl _) (.cells (cells8 zero32) 24)); have P5 := Lib.hid (P4.out.below (below_setRow HA4.out (Nat.le_refl _) (cells8 D))); clear b4 CD)
            | ((with_reducible show wpList _ _ _ (⟨none, .store _ (.tmp 6) _, _, _, _, _⟩ :: _) _ _); refine wpList_store_row rfl 24 _ _ rfl w4.heap.size (cells8 D) rfl rfl 24 (cells8 zero32) (rowC_new w4 _ _) HDI.out HSZ.out (cells8_one _) ?_; change wpList _ _ _ _ _ ((w4.alloc (.cells (cells8 zero32) 24)).setRow w4.heap.size (cells8 D)); generalize World.setRow _ _ _ = w5 at *)
            | ((with_reducible show wpList _ _ _ (⟨none, .store _ (.tmp 2) _, _, _, _, _⟩ :: _) _ _); refine wpList_store_row rfl 26 _ _ rfl w.heap.size (refC zeroR) rfl rfl 26 (refC zeroR) P5.out.z HI.out rfl (refC_all _) ?_))
          refine bodyPost_ret (results_row_tmp rfl _ _ w.heap.size 26 (refC zeroR) _ rfl (rowC_setRow P5.out.z _) Tryd.underlying26 rfl HI.out _ rfl) rfl ⟨by rw [HP.out]; rfl, below_setRow P5.out.b (Nat.le_refl _) _⟩
        · have hE : errL (digR s) = 0 := by unfold errL; rw [if_pos hT]
          have HC := Lib.hid (show ¬ (pinR s = true ∧ isText (digR s) = false) by rw [hT]; rintro ⟨_, e⟩; cases e)
          have HPn := Lib.hid hp
          rw [hE] at CD
          clear hT hE hp
          have HTH := Lib.hid (fun w' (m : PM w w' zeroR zeroR) => m.there zero_ok)
          have HSD := Lib.hid (show (cells8 D).size = 32 by rw [cells8_size, hDl])
          have HD32 := Lib.hid hDl
          go_wp2_with (first
            | (go_at_call 21; ((with_reducible refine (CD _).mono ?_); rintro e w4 ⟨rfl, b4⟩); have P4 := Lib.hid (P3.out.below b4); have HA4 := Lib.hid ((Below.refl w4.heap.size w4).alloc (Nat.le_refl _) (.cells (cells8 zero32) 24)); have P5 := Lib.hid (P4.out.below (below_setRow HA4.out (Nat.le_refl _) (cells8 D))); have HRD := Lib.hid (rowC_setRow (rowC_new w4 (cells8 zero32) 24) (cells8 D)); clear b4 CD)
            | ((with_reducible show wpList _ _ _ (⟨none, .store _ (.tmp 6) _, _, _, _, _⟩ :: _) _ _); refine wpList_store_row rfl 24 _ _ rfl w4.heap.size (cells8 D) rfl rfl 24 (cells8 zero32) (rowC_new w4 _ _) HDI.out HSZ.out (cells8_one _) ?_; change wpList _ _ _ _ _ ((w4.alloc (.cells (cells8 zero32) 24)).setRow w4.heap.size (cells8 D)); generalize World.setRow _ _ _ = w5 at *)
            | ((with_reducible show wpList _ _ _ (⟨some 36, _, _, _, _, _⟩ :: _) _ _); refine wpList_load_row rfl 24 _ rfl w4.heap.size rfl 24 (cells8 D) (0, 0) _ HRD.out Tryd.underlying24 rfl HDI.out ?_)
            | ((with_reducible show wpList _ _ _ (⟨none, .store _ (.tmp 37) _, _, _, _, _⟩ :: _) _ _); refine wpList_store_mid rfl 24 _ _ rfl (w.heap.size + 1) 3 (cells8 D) rfl rfl (by rw [HSD.out]; exact HTH.out _ P5.out) HDI.out (cells8_one _) ?_; have P6 := Lib.hid (P5.out.dig zero_ok.dig D HD32.out); change wpList _ _ _ _ _ (w5.setCells (w.heap.size + 1) 3 (D.map byteV)); generalize World.setCells _ _ _ _ = w6 at *; obtain ⟨⟨k0, k1, k2, k3⟩, ⟨l0, l1, l2, l3⟩⟩ := P6.out.cells ⟨Nat.zero_le _, Nat.zero_le _, Nat.zero_le _, HD32.out⟩))
          go_meet
          case rel => exact ⟨rfl, Lib.hid (by rw [HPn.out]; exact P6.out.pin HD32.out true), HC⟩
    case rest =>
      obtain ⟨rfl, P4, HC⟩ := hcut
      have HRD := Lib.hid (show readR s = ⟨domR (nameR n), pathR (nameR n), tagR n (pinR s), if pinR s = true then digL (digR s) else zero32, pinR s⟩ by rw [HNm.out]; rfl)
      have HDG := Lib.hid (show (if pinR s = true then digL (digR s) else zero32).length = 32 from (by cases pinR s with | true => exact digL_length _ | false => rfl))
      have HPE := Lib.hid (fun ht => parse_end (s := s) h2 HC.out (by rw [← HNm.out]; exact ht))
      have HPT := Lib.hid (fun ht => parse_tag (s := s) h2 HC.out (by rw [← HNm.out]; exact ht))
      generalize (if pinR s = true then digL (digR s) else zero32) = dg at *
      generalize pinR s = p at *
      clear HC HPi HDi HNm hp64 HP1 hw0 hw1 HZ0 HZ1 HZ2 HB0 HB1 hs0 q1 h2 P3 e3
      obtain ⟨M, hM⟩ : ∃ M, (cutL n 58).length = M + 1 := ⟨(cutL n 58).length - 1, by have := cutL_pos n 58; omega⟩
      have HLa := Lib.hid (show (cutL n 58).getD M [] = lastR n by unfold lastR; rw [hM]; rfl)
      have HLe := Lib.hid (show (lastR n).length ≤ n.length by rw [← HLa.out]; exact cutL_getD_le n 58 M)
      have HTg := Lib.hid (show tagged n = (decide (1 < M + 1) && decide ((cutL (lastR n) 47).length = 1)) by unfold tagged; rw [hM])
      have C58 := fun w => cutC n 58 58 rfl w (by have := HN6.out; omega)
      have C47 := fun w => cutC (lastR n) 47 47 rfl w (by have := HN6.out; have := HLe.out; omega)
      rw [hM] at C58
      have HM := Lib.hid hM
      have bM : M ≤ 1000 := by have := cutL_le n 58; have := HN6.out; omega
      clear hM
      go_upto_region 12 with (first
        | (go_at_call 20; ((with_reducible refine (C58 _).mono ?_); rintro e w5 ⟨a5, cap5, rfl, o5, b5⟩); have P5 := Lib.hid (P4.out.below b5); obtain ⟨g5, hga5, -, e5⟩ := o5.at (k := M) (by rw [HM.out]; exact Nat.lt_succ_self _); subst hga5; rw [HLa.out] at e5; clear o5 b5))
      go_cut [55] from 48 to 55 (fun c wx => c = .bool (tagged n) ∧ Hid (PM w wx zeroR ⟨[], [], [], dg, p⟩))
      case first =>
        by_cases p1 : 0 < M
        · have q1 : (1 : Int) < ((M + 1 : Nat) : Int) := by omega
          rw [decide_eq_true (show 1 < M + 1 by omega), Bool.true_and] at HTg
          have hp := cutL_pos (lastR n) 47
          have hle := cutL_le (lastR n) 47
          have bL := HLe.out
          have q3 : ((((cutL (lastR n) 47).length : Nat) : Int) == 1) = decide ((cutL (lastR n) 47).length = 1) := by rw [Bool.eq_iff_iff, beq_iff_eq, decide_eq_true_eq]; omega
          generalize (cutL (lastR n) 47).length = N3 at *
          generalize hb : decide (N3 = 1) = b at *
          clear hb
          go_wp2_with (first
            | (go_at_call 20; ((with_reducible refine (C47 _).mono ?_); rintro e w6 ⟨a6, cap6, rfl, o6, b6⟩); have P6 := Lib.hid (P5.out.below b6); clear o6 b6))
          go_meet
          case rel => exact ⟨by rw [HTg.out], P6⟩
        · have q1 : ¬ (1 : Int) < ((M + 1 : Nat) : Int) := by omega
          rw [decide_eq_false (show ¬ 1 < M + 1 by omega), Bool.false_and] at HTg
          go_wp2
          go_meet
          case rel => exact ⟨by rw [HTg.out], P5⟩
      case rest =>
        obtain ⟨rfl, P6⟩ := hcut
        clear C58 C47 HTg P5 P4
        have HTo := Lib.hid (show (⟨[], [], [], dg, p⟩ : RR).ok from ⟨Nat.zero_le _, Nat.zero_le _, Nat.zero_le _, HDG.out⟩)
        obtain ⟨⟨k0, k1, k2, k3⟩, ⟨l0, l1, l2, l3⟩⟩ := P6.out.cells HTo.out
        have HNa := Lib.hid (show nameR n = if tagged n = true then n.take (n.length - (lastR n).length - 1) else n from rfl)
        have HTa := Lib.hid (show tagR n p = if tagged n = true then lastR n else if p = true then [] else latestB from rfl)
        have HNl := Lib.hid (show (nameR n).length ≤ n.length by
          rw [HNa.out]
          split
          · rw [List.length_take]
            exact Nat.le_trans (Nat.min_le_right _ _) (Nat.le_refl _)
          · exact Nat.le_refl _)
        have HTl := Lib.hid (show tagged n = true → (lastR n).length < n.length from fun h => tagged_lt h)
        generalize tagged n = b at *
        generalize hla : lastR n = la at *
        go_upto_if 55 with (fail)
        go_cut [3, 5] from 56 (fun s3 s5 wx => s3 = .int .i64 0 ∧ s5 = .string (str (nameR n)) ∧ Hid (PM w wx zeroR ⟨[], [], tagR n p, dg, p⟩) ∧ Hid (parseR s = if mayR (readR s) = true then (readR s, 0) else (zeroR, 10)))
        case first =>
          clear hla
          dsimp only at k0 k1 k2 k3
          cases b
          · rw [if_neg (by decide)] at HNa
            rw [if_neg (by decide)] at HTa
            cases p
            · go_wp2
              go_meet
              case rel => exact ⟨rfl, by rw [HNa.out], Lib.hid (by rw [HTa.out]; exact P6.out.tag latestB), Lib.hid (HPE.out (by rintro ⟨e, _⟩; cases e))⟩
            · go_wp2
              go_meet
              case rel => exact ⟨rfl, by rw [HNa.out], Lib.hid (by rw [HTa.out]; exact P6.out), Lib.hid (HPE.out (by rintro ⟨e, _⟩; cases e))⟩
          · rw [if_pos rfl] at HNa
            rw [if_pos rfl] at HTa
            have f0 := eq_none la
            have sz := str_size la
            by_cases hl : la = []
            · have HP := Lib.hid (HPT.out ⟨rfl, hl⟩)
              rw [decide_eq_true hl] at f0
              clear hl
              go_wp2_with (first
                | ((with_reducible show wpList _ _ _ (⟨some 13, _, _, _, _, _⟩ :: _) _ _); refine wpList_build_as (o := ⟨some 13, _, _, _, _, _⟩) rfl 26 _ rfl (refC zeroR) ?_ ?_; kernel_rfl) | ((with_reducible show wpList _ _ _ (⟨some 14, _, _, _, _, _⟩ :: _) _ _); refine wpList_build_as (o := ⟨some 14, _, _, _, _, _⟩) rfl 26 _ rfl (refC zeroR) ?_ ?_; kernel_rfl) | ((with_reducible show wpList _ _ _ (⟨some 35, _, _, _, _, _⟩ :: _) _ _); refine wpList_build_as (o := ⟨some 35, _, _, _, _, _⟩) rfl 26 _ rfl (refC zeroR) ?_ ?_; kernel_rfl) | ((with_reducible show wpList _ _ _ (⟨some 58, _, _, _, _, _⟩ :: _) _ _); refine wpList_build_as (o := ⟨some 58, _, _, _, _, _⟩) rfl 26 _ rfl (refC zeroR) ?_ ?_; kernel_rfl) | ((with_reducible show wpList _ _ _ (⟨some 114, _, _, _, _, _⟩ :: _) _ _); refine wpList_build_as (o := ⟨some 114, _, _, _, _, _⟩) rfl 26 _ rfl (refC zeroR) ?_ ?_; kernel_rfl)
                | ((with_reducible show wpList _ _ _ (⟨none, .store _ (.tmp 2) _, _, _, _, _⟩ :: _) _ _); refine wpList_store_row rfl 26 _ _ rfl w.heap.size (refC zeroR) rfl rfl 26 (refC zeroR) P6.out.z HI.out rfl (refC_all _) ?_))
              refine bodyPost_ret (results_row_tmp rfl _ _ w.heap.size 26 (refC zeroR) _ rfl (rowC_setRow P6.out.z _) Tryd.underlying26 rfl HI.out _ rfl) rfl ⟨by rw [HP.out]; rfl, below_setRow P6.out.b (Nat.le_refl _) _⟩
            · rw [decide_eq_false hl] at f0
              have HP := Lib.hid (HPE.out (fun h => hl h.2))
              clear hl
              have hlt := HTl.out rfl
              have hx := extract_str n 0 (n.length - la.length - 1)
              rw [List.drop_zero, ← HNa.out] at hx
              have hn6 := HN6.out
              have hi1 : IntKind.i64.wrap ((n.length : Int) - (la.length : Int)) = ((n.length - la.length : Nat) : Int) := by
                rw [IntWalk.i64_in _ (by omega)]; omega
              have hi2 : IntKind.i64.wrap (((n.length - la.length : Nat) : Int) - 1) = ((n.length - la.length - 1 : Nat) : Int) := by
                rw [IntWalk.i64_in _ (by omega)]; omega
              have hle : n.length - la.length - 1 ≤ n.length := by omega
              go_wp2
              obtain ⟨SS, hSS⟩ : ∃ SS : World → Prop, SS = fun _ => True := ⟨_, rfl⟩
              have SO : ∀ w', True → SS w' := fun w' _ => by rw [hSS]; trivial
              clear hSS k0 k1 k3 l0 l1 l3
              have P7 := Lib.hid (P6.out.below (Below.refl wc.heap.size wc).drew)
              refine wp_region_noPanic ?_
              refine wp_region_held_drew (S := SS) (by kernel_rfl) (SO _ trivial) (fun hHeld => ?_)
              refine wpAnyH_take (i := 0) (oi := { dst := some 59, op := Op.move (Operand.tmp 9), type := 9, pos := "ref.go:140", after := #[], guard := none }) (v := ?_) rfl (by kernel_rfl) (by kernel_rfl) (by kernel_rfl) (fun _ _ _ h => h) (Or.inl ⟨by rfl, ?_⟩) (by assumption) ?_
              rotate_left
              · intro w hSw
                skip
                clear hSw
                go_simp
                try with_reducible rfl
              try simp only [Act.put, List.setIfInBounds_toArray, List.set_cons_zero, List.set_cons_succ]
              refine wpAnyH_take (i := 1) (oi := { dst := some 60, op := Op.move (Operand.tmp 5), type := 9, pos := "ref.go:140", after := #[], guard := none }) (v := ?_) rfl (by kernel_rfl) (by kernel_rfl) (by kernel_rfl) (fun _ _ _ h => h) (Or.inl ⟨by rfl, ?_⟩) (by assumption) ?_
              rotate_left
              · intro w hSw
                skip
                clear hSw
                go_simp
                try with_reducible rfl
              try simp only [Act.put, List.setIfInBounds_toArray, List.set_cons_zero, List.set_cons_succ]
              refine wpAnyH_take (i := 2) (oi := { dst := some 61, op := Op.move (Operand.tmp 5), type := 9, pos := "ref.go:140", after := #[], guard := none }) (v := ?_) rfl (by kernel_rfl) (by kernel_rfl) (by kernel_rfl) (fun _ _ _ h => h) (Or.inl ⟨by rfl, ?_⟩) (by assumption) ?_
              rotate_left
              · intro w hSw
                skip
                clear hSw
                go_simp
                try with_reducible rfl
              try simp only [Act.put, List.setIfInBounds_toArray, List.set_cons_zero, List.set_cons_succ]
              refine wpAnyH_take (i := 3) (oi := { dst := some 62, op := Op.call { callee := Callee.builtin Builtin.len, args := #[Operand.tmp 61], argTypes := #[9] }, type := 3, pos := "ref.go:140", after := #[{ on := 2, ground := Ground.data }], guard := none }) (v := ?_) rfl (by kernel_rfl) (by kernel_rfl) (by kernel_rfl) (fun _ _ _ h => h) (Or.inl ⟨by rfl, ?_⟩) (by assumption) ?_
              rotate_left
              · intro w hSw
                skip
                clear hSw
                go_simp
                try with_reducible rfl
              try simp only [Act.put, List.setIfInBounds_toArray, List.set_cons_zero, List.set_cons_succ]
              refine wpAnyH_take (i := 4) (oi := { dst := some 63, op := Op.move (Operand.tmp 9), type := 9, pos := "ref.go:140", after := #[], guard := none }) (v := ?_) rfl (by kernel_rfl) (by kernel_rfl) (by kernel_rfl) (fun _ _ _ h => h) (Or.inl ⟨by rfl, ?_⟩) (by assumption) ?_
              rotate_left
              · intro w hSw
                skip
                clear hSw
                go_simp
                try with_reducible rfl
              try simp only [Act.put, List.setIfInBounds_toArray, List.set_cons_zero, List.set_cons_succ]
              refine wpAnyH_take (i := 5) (oi := { dst := some 64, op := Op.call { callee := Callee.builtin Builtin.len, args := #[Operand.tmp 63], argTypes := #[9] }, type := 3, pos := "ref.go:140", after := #[{ on := 4, ground := Ground.data }], guard := none }) (v := ?_) rfl (by kernel_rfl) (by kernel_rfl) (by kernel_rfl) (fun _ _ _ h => h) (Or.inl ⟨by rfl, ?_⟩) (by assumption) ?_
              rotate_left
              · intro w hSw
                skip
                clear hSw
                go_simp
                try with_reducible rfl
              try simp only [Act.put, List.setIfInBounds_toArray, List.set_cons_zero, List.set_cons_succ]
              refine wpAnyH_take (i := 6) (oi := { dst := some 65, op := Op.binOp BinOp.sub 3 (Operand.tmp 62) (Operand.tmp 64) 3, type := 3, pos := "ref.go:140", after := #[{ on := 3, ground := Ground.data }, { on := 5, ground := Ground.data }], guard := none }) (v := ?_) rfl (by kernel_rfl) (by kernel_rfl) (by kernel_rfl) (fun _ _ _ h => h) (Or.inl ⟨by rfl, ?_⟩) (by assumption) ?_
              rotate_left
              · intro w hSw
                skip
                clear hSw
                go_simp
                try with_reducible rfl
              try simp only [Act.put, List.setIfInBounds_toArray, List.set_cons_zero, List.set_cons_succ]
              refine wpAnyH_take (i := 7) (oi := { dst := some 66, op := Op.binOp BinOp.sub 3 (Operand.tmp 65) (Operand.const (Value.int IntKind.i64 1)) 3, type := 3, pos := "ref.go:140", after := #[{ on := 6, ground := Ground.data }], guard := none }) (v := ?_) rfl (by kernel_rfl) (by kernel_rfl) (by kernel_rfl) (fun _ _ _ h => h) (Or.inl ⟨by rfl, ?_⟩) (by assumption) ?_
              rotate_left
              · intro w hSw
                skip
                clear hSw
                go_simp
                try with_reducible rfl
              try simp only [Act.put, List.setIfInBounds_toArray, List.set_cons_zero, List.set_cons_succ]
              refine wpAnyH_take (i := 8) (oi := { dst := some 67, op := Op.slice 9 (Operand.tmp 60) none (some (Operand.tmp 66)) none, type := 9, pos := "ref.go:140", after := #[{ on := 1, ground := Ground.data }, { on := 7, ground := Ground.data }], guard := none }) (v := ?_) rfl (by kernel_rfl) (by kernel_rfl) (by kernel_rfl) (fun _ _ _ h => h) (Or.inl ⟨by rfl, ?_⟩) (by assumption) ?_
              rotate_left
              · intro w hSw
                skip
                clear hSw
                go_simp
                try with_reducible rfl
              try simp only [Act.put, List.setIfInBounds_toArray, List.set_cons_zero, List.set_cons_succ]
              refine wpAnyH_take (i := 9) (oi := { dst := some 68, op := Op.fieldAddr 26 (Operand.tmp 4) 2, type := 0, pos := "ref.go:140", after := #[{ on := 0, ground := Ground.phase }, { on := 1, ground := Ground.textOnly Departure.lateStores }, { on := 2, ground := Ground.textOnly Departure.lateStores }, { on := 3, ground := Ground.textOnly Departure.lateStoresUnsure }, { on := 4, ground := Ground.textOnly Departure.lateStores }, { on := 5, ground := Ground.textOnly Departure.lateStoresUnsure }, { on := 6, ground := Ground.textOnly Departure.lateStores }, { on := 7, ground := Ground.textOnly Departure.lateStores }, { on := 8, ground := Ground.textOnly Departure.lateStoresUnsure }], guard := none }) (v := ?_) rfl (by kernel_rfl) (by kernel_rfl) (by kernel_rfl) (fun _ _ _ h => h) (Or.inl ⟨by rfl, ?_⟩) (by assumption) ?_
              rotate_left
              · intro w hSw
                skip
                clear hSw
                go_simp
                try with_reducible rfl
              try simp only [Act.put, List.setIfInBounds_toArray, List.set_cons_zero, List.set_cons_succ]
              refine wpAnyH_ready (rs := [10]) (by kernel_rfl) (by simp) ?_
              refine (AllReadyH.cons (o := { dst := none, op := Op.store 9 (Operand.tmp 68) (Operand.tmp 59), type := 0, pos := "ref.go:140", after := #[{ on := 9, ground := Ground.data }, { on := 0, ground := Ground.data }, { on := 0, ground := Ground.phase }, { on := 1, ground := Ground.textOnly Departure.lateStores }, { on := 2, ground := Ground.textOnly Departure.lateStores }, { on := 3, ground := Ground.textOnly Departure.lateStoresUnsure }, { on := 4, ground := Ground.textOnly Departure.lateStores }, { on := 5, ground := Ground.textOnly Departure.lateStoresUnsure }, { on := 6, ground := Ground.textOnly Departure.lateStores }, { on := 7, ground := Ground.textOnly Departure.lateStores }, { on := 8, ground := Ground.textOnly Departure.lateStoresUnsure }], guard := none }) rfl (fun K hK => ?_) AllReadyH.nil)
              skip
              go_simp
              refine hK.out _ _ (SO _ (by trivial)) (fun hHeld => ?_)
              clear hK K
              try simp only [Act.put, List.setIfInBounds_toArray, List.set_cons_zero, List.set_cons_succ]
              refine wpAnyH_take (i := 11) (oi := { dst := some 5, op := Op.assign (Operand.tmp 67), type := 9, pos := "ref.go:140", after := #[{ on := 8, ground := Ground.data }, { on := 10, ground := Ground.chain }, { on := 0, ground := Ground.phase }, { on := 1, ground := Ground.phase }, { on := 2, ground := Ground.phase }, { on := 3, ground := Ground.phase }, { on := 4, ground := Ground.phase }, { on := 5, ground := Ground.phase }, { on := 6, ground := Ground.phase }, { on := 7, ground := Ground.phase }, { on := 8, ground := Ground.phase }, { on := 9, ground := Ground.phase }, { on := 10, ground := Ground.phase }], guard := none }) (v := ?_) rfl (by kernel_rfl) (by kernel_rfl) (by kernel_rfl) (fun _ _ _ h => h) (Or.inl ⟨by rfl, ?_⟩) (by assumption) ?_
              rotate_left
              · intro w hSw
                skip
                clear hSw
                go_simp
                try with_reducible rfl
              try simp only [Act.put, List.setIfInBounds_toArray, List.set_cons_zero, List.set_cons_succ]
              refine wpAnyH_done (by kernel_rfl) ?_ _
              refine NoPanic.normal ?_
              go_wp2
              go_meet
              case rel => exact ⟨rfl, by rw [HNa.out], Lib.hid (by rw [HTa.out]; exact P7.out.tag la), Lib.hid HP.out⟩
        case rest =>
          obtain ⟨rfl, rfl, P8, HP⟩ := hcut
          have BN := HNl.out
          have BT := tagR_le n p
          have BF := front_le (nameR n)
          have BR := restR_le (nameR n)
          have BP := pathR_le (nameR n)
          have BD := domR_le (nameR n)
          have bn := HN6.out
          clear HTo k0 k1 k2 k3 l0 l1 l2 l3 HNa HTa HPE HPT hla HTl P6 HLa HLe HM e5 szn HN6 HNl
          generalize nameR n = N at *
          generalize hT : tagR n p = T at *
          clear hT
          have szN := str_size N
          have szF := str_size (frontR N)
          have HO8 := Lib.hid (show (⟨[], [], T, dg, p⟩ : RR).ok from ⟨Nat.zero_le _, Nat.zero_le _, (by change T.length ≤ 1000; omega), HDG.out⟩)
          have HO9 := Lib.hid (show (⟨frontR N, N, T, dg, p⟩ : RR).ok from ⟨(by change (frontR N).length ≤ 1000; omega), (by change N.length ≤ 1000; omega), (by change T.length ≤ 1000; omega), HDG.out⟩)
          have CF := fun w => front_any N w (by omega)
          have HF := Lib.hid (fun h => front_lt (n := N) h)
          have HR1 := Lib.hid (fun (h : frontR N = []) => show restR N = N by unfold restR; rw [if_pos h])
          have HR2 := Lib.hid (fun (h : ¬ frontR N = []) => show restR N = N.drop ((frontR N).length + 1) by unfold restR; rw [if_neg h])
          have HD := Lib.hid (show domR N = if frontR N = [] ∨ frontR N = indexB then hubB else frontR N from rfl)
          have HPa := Lib.hid (show pathR N = if domR N = hubB ∧ (cutL (restR N) 47).length = 1 then libraryB ++ [47] ++ restR N else restR N from rfl)
          obtain ⟨⟨k0, k1, k2, k3⟩, ⟨l0, l1, l2, l3⟩⟩ := P8.out.cells HO8.out
          generalize frontR N = F at *
          generalize restR N = R at *
          generalize domR N = D at *
          generalize pathR N = PA at *
          have f0 := eq_none F
          have f1 := eq_lit F indexB
          unfold indexB at f1
          have f2 := eq_lit D hubB
          unfold hubB at f2
          generalize hb0 : decide (F = []) = b0 at *
          generalize hb1 : decide (F = [105, 110, 100, 101, 120, 46, 100, 111, 99, 107, 101, 114, 46, 105, 111]) = b1 at *
          generalize hb2 : decide (D = [100, 111, 99, 107, 101, 114, 46, 105, 111]) = b2 at *
          have HB0 := Lib.hid hb0
          have HB1 := Lib.hid hb1
          have HB2 := Lib.hid hb2
          clear hb0 hb1 hb2
          go_upto_region 19 with (first
            | (go_at_call 22; ((with_reducible refine (CF _).mono ?_); rintro e w9 ⟨rfl, b9⟩); have P9 := Lib.hid ((P8.out.below b9).dom F); have P10 := Lib.hid (P9.out.path N); clear k0 k1 k2 k3 l0 l1 l2 l3; obtain ⟨⟨k0, k1, k2, k3⟩, ⟨l0, l1, l2, l3⟩⟩ := (P8.out.below b9).cells HO8.out; obtain ⟨⟨k10, k11, k12, k13⟩, ⟨l10, l11, l12, l13⟩⟩ := P10.out.cells HO9.out; clear b9))
          go_upto_if 80 with (fail)
          go_cut [3] from 78 (fun s3 wx => s3 = .int .i64 0 ∧ Hid (PM w wx zeroR ⟨F, R, T, dg, p⟩))
          case first =>
            cases b0
            · have HQ := Lib.hid (HR2.out (of_decide_eq_false HB0.out))
              have hlt := HF.out (of_decide_eq_false HB0.out)
              have hx := extract_str N (F.length + 1) N.length
              rw [List.take_length, ← HQ.out] at hx
              go_wp2
              go_meet
              case rel => exact ⟨rfl, Lib.hid (P10.out.path R)⟩
            · have HQ := Lib.hid (HR1.out (of_decide_eq_true HB0.out))
              go_wp2
              go_meet
              case rel => exact ⟨rfl, Lib.hid (by rw [HQ.out]; exact P10.out)⟩
          case rest =>
            obtain ⟨rfl, P11⟩ := hcut
            clear k10 k11 k12 k13 l10 l11 l12 l13 P10 P9
            have HO11 := Lib.hid (show (⟨F, R, T, dg, p⟩ : RR).ok from ⟨(by change F.length ≤ 1000; omega), (by change R.length ≤ 1000; omega), (by change T.length ≤ 1000; omega), HDG.out⟩)
            obtain ⟨⟨k0, k1, k2, k3⟩, ⟨l0, l1, l2, l3⟩⟩ := P11.out.cells HO11.out
            go_upto_region 21 with (fail)
            go_cut [95] from 88 to 95 (fun c wx => c = .bool (b0 || b1) ∧ Hid (PM w wx zeroR ⟨F, R, T, dg, p⟩))
            case first =>
              cases b0
              · cases b1
                · go_wp2
                  go_meet
                  case rel => exact ⟨rfl, P11⟩
                · go_wp2
                  go_meet
                  case rel => exact ⟨rfl, P11⟩
              · go_wp2
                go_meet
                case rel => exact ⟨rfl, P11⟩
            case rest =>
              obtain ⟨rfl, P12⟩ := hcut
              clear k0 k1 k2 k3 l0 l1 l2 l3
              obtain ⟨⟨k0, k1, k2, k3⟩, ⟨l0, l1, l2, l3⟩⟩ := P12.out.cells HO11.out
              go_upto_if 95 with (fail)
              go_cut [3] from 88 (fun s3 wx => s3 = .int .i64 0 ∧ Hid (PM w wx zeroR ⟨D, R, T, dg, p⟩))
              case first =>
                have HDo := Lib.hid (show D = if (b0 || b1) = true then hubB else F by
                  rw [HD.out, ← HB0.out, ← HB1.out, ← Bool.decide_or]
                  by_cases h1 : F = [] ∨ F = indexB
                  · rw [if_pos h1]
                    exact (if_pos (decide_eq_true h1)).symm
                  · rw [if_neg h1]
                    exact (if_neg (fun e => h1 (of_decide_eq_true e))).symm)
                generalize (b0 || b1) = b01 at *
                cases b01
                · go_wp2
                  go_meet
                  case rel => exact ⟨rfl, Lib.hid (by rw [HDo.out]; exact P12.out)⟩
                · go_wp2
                  go_meet
                  case rel => exact ⟨rfl, Lib.hid (by rw [HDo.out]; exact P12.out.dom hubB)⟩
              case rest =>
                obtain ⟨rfl, P13⟩ := hcut
                clear k0 k1 k2 k3 l0 l1 l2 l3 P12 P11 HO11
                have HO13 := Lib.hid (show (⟨D, R, T, dg, p⟩ : RR).ok from ⟨(by change D.length ≤ 1000; omega), (by change R.length ≤ 1000; omega), (by change T.length ≤ 1000; omega), HDG.out⟩)
                obtain ⟨⟨k0, k1, k2, k3⟩, ⟨l0, l1, l2, l3⟩⟩ := P13.out.cells HO13.out
                have C47 := fun w => cutC R 47 47 rfl w (by omega)
                have hrl := cutL_le R 47
                have q3 : ((((cutL R 47).length : Nat) : Int) == 1) = decide ((cutL R 47).length = 1) := by rw [Bool.eq_iff_iff, beq_iff_eq, decide_eq_true_eq]; omega
                generalize hN3 : (cutL R 47).length = N3 at *
                generalize hb3 : decide (N3 = 1) = b3 at *
                have HB3 := Lib.hid hb3
                clear hb3 hN3
                go_upto_region 23 with (fail)
                go_cut [106] from 97 to 106 (fun c wx => c = .bool (b2 && b3) ∧ Hid (PM w wx zeroR ⟨D, R, T, dg, p⟩))
                case first =>
                  cases b2
                  · go_wp2
                    go_meet
                    case rel => exact ⟨rfl, P13⟩
                  · go_wp2_with (first
                      | (go_at_call 20; ((with_reducible refine (C47 _).mono ?_); rintro e w6 ⟨a6, cap6, rfl, o6, b6⟩); have P14 := Lib.hid (P13.out.below b6); clear o6 b6))
                    go_meet
                    case rel => exact ⟨rfl, P14⟩
                case rest =>
                  obtain ⟨rfl, P14⟩ := hcut
                  clear k0 k1 k2 k3 l0 l1 l2 l3 C47 hrl q3
                  obtain ⟨⟨k0, k1, k2, k3⟩, ⟨l0, l1, l2, l3⟩⟩ := P14.out.cells HO13.out
                  go_upto_if 106 with (fail)
                  go_cut [3] from 97 (fun s3 wx => s3 = .int .i64 0 ∧ Hid (PM w wx zeroR ⟨D, PA, T, dg, p⟩))
                  case first =>
                    have HPo := Lib.hid (show PA = if (b2 && b3) = true then libraryB ++ [47] ++ R else R by
                      rw [HPa.out, ← HB2.out, ← HB3.out, ← Bool.decide_and]
                      by_cases h1 : D = hubB ∧ N3 = 1
                      · rw [if_pos h1]
                        exact (if_pos (decide_eq_true h1)).symm
                      · rw [if_neg h1]
                        exact (if_neg (fun e => h1 (of_decide_eq_true e))).symm)
                    generalize (b2 && b3) = b23 at *
                    cases b23
                    · go_wp2
                      go_meet
                      case rel => exact ⟨rfl, Lib.hid (by rw [HPo.out]; exact P14.out)⟩
                    · have szR := str_size R
                      have ha : (⟨#[108, 105, 98, 114, 97, 114, 121, 47]⟩ : ByteArray) ++ str R = str PA := by rw [HPo.out, if_pos rfl, ← str_append]; rfl
                      go_wp2
                      go_meet
                      case rel => exact ⟨rfl, Lib.hid (P14.out.path PA)⟩
                  case rest =>
                    obtain ⟨rfl, P15⟩ := hcut
                    clear k0 k1 k2 k3 l0 l1 l2 l3 P14 P13 HO13
                    have HO15 := Lib.hid (show (⟨D, PA, T, dg, p⟩ : RR).ok from ⟨(by change D.length ≤ 1000; omega), (by change PA.length ≤ 1000; omega), (by change T.length ≤ 1000; omega), HDG.out⟩)
                    have HRd := Lib.hid (show readR s = ⟨D, PA, T, dg, p⟩ from HRD.out)
                    have HIR := Lib.hid (info_ref HO15.out)
                    have CC := fun w => rcheck_any ⟨D, PA, T, dg, p⟩ w HO15.out
                    rw [HRd.out] at HP
                    generalize hRR : (⟨D, PA, T, dg, p⟩ : RR) = RR0 at *
                    clear hRR
                    by_cases hm : mayR RR0 = true
                    · have HQ := Lib.hid (show parseR s = (RR0, 0) by rw [HP.out, if_pos hm])
                      rw [check_yes hm] at CC
                      clear hm HP
                      go_wp2_with (first
                        | ((with_reducible show wpList _ _ _ (⟨some 111, _, _, _, _, _⟩ :: _) _ _); refine wpList_load_row rfl 26 _ rfl (w.heap.size + 1) rfl 26 (refC RR0) (0, 0) _ P15.out.r Tryd.underlying26 rfl HIR.out ?_)
                        | (go_at_call 16; ((with_reducible refine (CC _).mono ?_); rintro e w16 ⟨rfl, b16⟩); have P16 := Lib.hid (P15.out.below b16); clear b16)
                        | ((with_reducible show wpList _ _ _ (⟨some 115, _, _, _, _, _⟩ :: _) _ _); refine wpList_load_row rfl 26 _ rfl (w.heap.size + 1) rfl 26 (refC RR0) (0, 0) _ P16.out.r Tryd.underlying26 rfl HIR.out ?_)
                        | ((with_reducible show wpList _ _ _ (⟨none, .store _ (.tmp 2) _, _, _, _, _⟩ :: _) _ _); refine wpList_store_row rfl 26 _ _ rfl w.heap.size (refC RR0) rfl rfl 26 (refC zeroR) P16.out.z HIR.out (by rw [refC_size zero_ok, refC_size HO15.out]) (refC_all _) ?_))
                      refine bodyPost_ret (results_row_tmp rfl _ _ w.heap.size 26 (refC RR0) _ rfl (rowC_setRow P16.out.z _) Tryd.underlying26 rfl HIR.out _ rfl) rfl ⟨by rw [HQ.out]; rfl, below_setRow P16.out.b (Nat.le_refl _) _⟩
                    · have HQ := Lib.hid (show parseR s = (zeroR, 10) by rw [HP.out, if_neg hm])
                      rw [check_no (Bool.eq_false_iff.2 hm)] at CC
                      clear hm HP
                      go_wp2_with (first
                        | ((with_reducible show wpList _ _ _ (⟨some 111, _, _, _, _, _⟩ :: _) _ _); refine wpList_load_row rfl 26 _ rfl (w.heap.size + 1) rfl 26 (refC RR0) (0, 0) _ P15.out.r Tryd.underlying26 rfl HIR.out ?_)
                        | (go_at_call 16; ((with_reducible refine (CC _).mono ?_); rintro e w16 ⟨rfl, b16⟩); have P16 := Lib.hid (P15.out.below b16); clear b16)
                        | ((with_reducible show wpList _ _ _ (⟨some 13, _, _, _, _, _⟩ :: _) _ _); refine wpList_build_as (o := ⟨some 13, _, _, _, _, _⟩) rfl 26 _ rfl (refC zeroR) ?_ ?_; kernel_rfl) | ((with_reducible show wpList _ _ _ (⟨some 14, _, _, _, _, _⟩ :: _) _ _); refine wpList_build_as (o := ⟨some 14, _, _, _, _, _⟩) rfl 26 _ rfl (refC zeroR) ?_ ?_; kernel_rfl) | ((with_reducible show wpList _ _ _ (⟨some 35, _, _, _, _, _⟩ :: _) _ _); refine wpList_build_as (o := ⟨some 35, _, _, _, _, _⟩) rfl 26 _ rfl (refC zeroR) ?_ ?_; kernel_rfl) | ((with_reducible show wpList _ _ _ (⟨some 58, _, _, _, _, _⟩ :: _) _ _); refine wpList_build_as (o := ⟨some 58, _, _, _, _, _⟩) rfl 26 _ rfl (refC zeroR) ?_ ?_; kernel_rfl) | ((with_reducible show wpList _ _ _ (⟨some 114, _, _, _, _, _⟩ :: _) _ _); refine wpList_build_as (o := ⟨some 114, _, _, _, _, _⟩) rfl 26 _ rfl (refC zeroR) ?_ ?_; kernel_rfl)
                        | ((with_reducible show wpList _ _ _ (⟨none, .store _ (.tmp 2) _, _, _, _, _⟩ :: _) _ _); refine wpList_store_row rfl 26 _ _ rfl w.heap.size (refC zeroR) rfl rfl 26 (refC zeroR) P16.out.z HI.out rfl (refC_all _) ?_))
                      refine bodyPost_ret (results_row_tmp rfl _ _ w.heap.size 26 (refC zeroR) _ rfl (rowC_setRow P16.out.z _) Tryd.underlying26 rfl HI.out _ rfl) rfl ⟨by rw [HQ.out]; rfl, below_setRow P16.out.b (Nat.le_refl _) _⟩
end Go.Proofs.YtldbfjcfobdkpaaDoor
