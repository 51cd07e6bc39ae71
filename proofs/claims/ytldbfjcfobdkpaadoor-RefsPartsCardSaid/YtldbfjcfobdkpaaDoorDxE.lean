/- Layer 5, for whoever stands on it: a text's digest, as the document has it. (Out of DigB, DigE.) -/
import Derived.Test.YtldbfjcfobdkpaaDoorDxC
namespace Go.Proofs.YtldbfjcfobdkpaaDoor
open Go.RowKit


/-- Two digests in memory, the one behind the other. -/
structure TwoM (W w : World) (l m : List UInt8) : Prop where
  r0 : rowC w W.heap.size (cells8 l) 24
  r1 : rowC w (W.heap.size + 1) (cells8 m) 24
  nx : Below W.heap.size W w
theorem TwoM.start (w : World) (l m : List UInt8) : TwoM w ((w.alloc (.cells (cells8 l) 24)).alloc (.cells (cells8 m) 24)) l m := by
  have h2 := rowC_new (w.alloc (.cells (cells8 l) 24)) (cells8 m) 24
  simp only [size_alloc] at h2
  exact ⟨rowC_alloc (rowC_new w _ _) _, h2, ((Below.refl _ _).alloc (Nat.le_refl _) _).alloc (by simp) _⟩
theorem TwoM.drewN {W w : World} {l m : List UInt8} (h : TwoM W w l m) (n : Nat) : TwoM W (w.drewN n) l m := ⟨h.r0, h.r1, below_drewN h.nx n⟩
theorem cells8_at {w : World} {b : Nat} {l : List UInt8} {t : TypeId} (h : rowC w b (cells8 l) t) {k : Nat} (hk : k < l.length) : w.cell? ⟨b, k, none⟩ = some (.int .u8 ((l.getD k 0).toNat : Int)) := by
  rw [rowC_cell h, cells8_get l k hk]; rfl

theorem TwoM.set1 {W w : World} {l m : List UInt8} (h : TwoM W w l m) (i : Nat) (b : UInt8) : TwoM W (w.setCell ⟨W.heap.size + 1, i, none⟩ (byteV b)) l (m.set i b) := by
  refine ⟨rowC_other h.r0 _ _ (by simp), ?_, h.nx.setCell (p := ⟨W.heap.size + 1, i, none⟩) (by simp) _⟩
  rw [← cells8_set]
  exact rowC_set h.r1 i _
theorem TwoM.lt {W w : World} {l m : List UInt8} (h : TwoM W w l m) : W.heap.size + 2 ≤ w.heap.size := rowC_lt h.r1
theorem TwoM.below {W w w' : World} {l m : List UInt8} (h : TwoM W w l m) (hb : Below w.heap.size w w') : TwoM W w' l m := by
  have := h.lt
  exact ⟨rowC_below h.r0 hb (by omega), rowC_below h.r1 hb (by omega), h.nx.trans (hb.mono (by omega))⟩
theorem TwoM.row0 {W w : World} {l m : List UInt8} (h : TwoM W w l m) (y : List UInt8) : TwoM W (w.setRow W.heap.size (cells8 y)) y m :=
  ⟨rowC_setRow h.r0 _, rowC_setRow_other h.r1 _ _ (by omega), below_setRow h.nx (by omega) _⟩
theorem pair_val (a b : UInt8) : byteV (pairB a b) = .int .u8 (16 * (valN a : Int) + (valN b : Int)) := by
  unfold byteV; rw [pairB_toNat]; simp
theorem manyD_spec (S : List UInt8) : manyD S ≤ 32 ∧ (∀ k, k < manyD S → 8 + 2 * k < S.length) ∧ (manyD S = 32 ∨ S.length ≤ 8 + 2 * manyD S) := by
  unfold manyD
  refine ⟨by omega, fun k hk => by omega, by omega⟩
set_option maxRecDepth 100000 in
set_option maxHeartbeats 2000000 in
theorem rparse_any (S : List UInt8) (w : World) (hs : S.length ≤ 1000000) :
    Calls Tryd.prog 21 #[.string (str S)] w fun e w' => e = .returned (.tuple #[.agg (cells8 (digL S)), .int .i64 (errL S)]) ∧ Below w.heap.size w w' := by
  have szs := str_size S
  have IX := Lib.hid (fun i x hx h => idx_str (str S) i x hx h)
  rw [str_toList] at IX
  obtain ⟨m1, m2, m3⟩ := manyD_spec S
  have hQ := Lib.hid (ref_is S)
  have hD := Lib.hid (show isText S = true → refD S (manyD S) = digL S from refD_text)
  obtain ⟨N, hN⟩ : ∃ N, N = manyD S := ⟨_, rfl⟩
  rw [← hN] at m1 m2 m3 hQ hD
  have M2 := Lib.hid m2
  clear hN m2
  go_enter Tryd.func21, Tryd.ntmps21
  go_wp2
  go_loopw [5] (fun i wr => ∃ k : Nat, k ≤ N ∧ i = .int .i64 k ∧ TwoM w wr zero32 (refD S k)) (fun i _ => N - (intOf i).toNat)
  case atStart => exact ⟨0, by omega, rfl, by rw [refD_zero]; exact TwoM.start w zero32 zero32⟩
  case round =>
    obtain ⟨k, hk, rfl, hm⟩ := hrel
    have M := Lib.hid hm
    by_cases hlt : k < N
    · have hl8 := M2.out k hlt
      have k32 : k < 32 := by omega
      have g1 : (k : Int) < 32 := by omega
      have g2 : 7 + 2 * (k : Int) + 1 < (S.length : Int) := by omega
      have p0 : (0 : Int) ≤ k := by omega
      have hst := Lib.hid (refD_set S k32)
      have hpv := Lib.hid (pair_val (S.getD (7 + 2 * k) 0) (S.getD (8 + 2 * k) 0))
      have j1 := IX.out (7 + 2 * k) (7 + 2 * (k : Int)) (by omega) (by rw [szs]; omega)
      have j2 := IX.out (8 + 2 * k) (8 + 2 * (k : Int)) (by omega) (by rw [szs]; omega)
      obtain ⟨a, ha⟩ : ∃ a, a = S.getD (7 + 2 * k) 0 := ⟨_, rfl⟩
      obtain ⟨b, hb⟩ : ∃ b, b = S.getD (8 + 2 * k) 0 := ⟨_, rfl⟩
      rw [← ha] at hst hpv j1
      rw [← hb] at hst hpv j2
      clear ha hb
      have c1 : ∀ w, Calls Tryd.prog 42 #[.int .u8 (a.toNat : Int)] w fun e w'' => e = .returned (.int .u8 (valN a : Nat)) ∧ w'' = w := fun w => (value_any _ w).mono fun _ _ ⟨h1, h2⟩ => ⟨h1, h2.symm⟩
      have c2 : ∀ w, Calls Tryd.prog 42 #[.int .u8 (b.toNat : Int)] w fun e w'' => e = .returned (.int .u8 (valN b : Nat)) ∧ w'' = w := fun w => (value_any _ w).mono fun _ _ ⟨h1, h2⟩ => ⟨h1, h2.symm⟩
      have v1 := valN_lt a
      have v2 := valN_lt b
      generalize valN a = x1 at hpv c1 v1
      generalize valN b = x2 at hpv c2 v2
      have hc : ∃ ob, wr.cell? ⟨w.heap.size + 1, k, none⟩ = some ob := ⟨_, by rw [rowC_cell hm.r1, cells8_get _ _ (by rw [refD_length]; exact k32)]⟩
      obtain ⟨ob, hc⟩ := hc
      have hf := rowC_free hm.r1 k
      clear hm
      have w1 : IntKind.i64.wrap (2 * (k : Int)) = 2 * (k : Int) := IntWalk.i64_in _ (by omega)
      have w2 : IntKind.i64.wrap (7 + 2 * (k : Int)) = 7 + 2 * (k : Int) := IntWalk.i64_in _ (by omega)
      have w3 : IntKind.i64.wrap (8 + 2 * (k : Int)) = 8 + 2 * (k : Int) := IntWalk.i64_in _ (by omega)
      go_wp2
      refine wp_region_still_tail 16 (by kernel_rfl) (by kernel_rfl) ?_
      simp only [List.take_succ_cons, List.take_zero, List.drop_succ_cons, List.drop_zero]
      repeat still_step
      still_call (c1 _)
      repeat still_step
      still_call (c2 _)
      repeat still_step
      refine wpStill_nil ?_
      change wpList _ _ _ _ _ wr.drew
      have hc' : wr.drew.cell? ⟨w.heap.size + 1, k, none⟩ = some ob := hc
      have hf' : wr.drew.frozen? ⟨w.heap.size + 1, k, none⟩ = false := hf
      have M3 := Lib.hid (M.out.drewN 1)
      clear hc hf M j1 j2 c1 c2
      replace M3 : Hid (TwoM w wr.drew zero32 (refD S k)) := M3
      generalize wr.drew = wq at *
      go_wp2
      go_roundw
      case rel => exact ⟨k + 1, by omega, by go_num, by rw [← hst.out]; have := M3.out.set1 k (pairB a b); rw [hpv.out] at this; exact this⟩
      case measure => simp [intOf]; omega
    · obtain rfl : k = N := by omega
      obtain ⟨D, hDD⟩ : ∃ D, D = refD S k := ⟨_, rfl⟩
      rw [← hDD] at hm M hQ hD
      have hDl : D.length = 32 := by rw [hDD, refD_length]
      have CT := fun w => rtext_any D w hDl
      have HI := Lib.hid (info_digest hDl)
      have HO := Lib.hid (show (cells8 zero32).size = (cells8 D).size by rw [cells8_size, cells8_size, hDl]; rfl)
      have HZ := Lib.hid (info_digest (l := zero32) rfl)
      have hqq := eq_texts (textL D) S
      rw [hQ.out] at hqq
      have hr1 := Lib.hid hm.r1
      have hmlt := hm.lt
      clear hDD hDl hm hlt hk
      have hg : ((k : Int) < 32) = False ∨ (((k : Int) < 32) = True ∧ (7 + 2 * (k : Int) + 1 < (S.length : Int)) = False) := by
        simp only [eq_iff_iff, iff_false, iff_true]
        omega
      have p0 : (0 : Int) ≤ k := by omega
      have p1 : (k : Int) ≤ 32 := by omega
      clear m3 m1
      by_cases hT : isText S = true
      · have HD := Lib.hid (hD.out hT)
        have HE := Lib.hid (show errL S = 0 by unfold errL; rw [if_pos hT])
        rw [hT] at hqq
        clear hT hQ hD
        rcases hg with hg | ⟨hg, hg2⟩
        all_goals
          go_wp2_with (first
            | (refine wpList_load_row rfl 24 _ rfl (w.heap.size + 1) rfl 24 (cells8 D) (0, 0) _ hr1.out Tryd.underlying24 rfl HI.out ?_)
            | (go_at_call 43; ((with_reducible refine (CT _).mono ?_); rintro e w3 ⟨rfl, hb3⟩))
            | (refine wpList_load_row rfl 24 _ rfl (w.heap.size + 1) rfl 24 (cells8 D) (0, 0) _ (M.out.below hb3).r1 Tryd.underlying24 rfl HI.out ?_)
            | (refine wpList_store_row rfl 24 _ _ rfl w.heap.size (cells8 D) rfl rfl 24 _ (M.out.below hb3).r0 HI.out HO.out (cells8_one _) ?_))
          have M5 := (M.out.below hb3).row0 D
          exact bodyPost_ret (results_row_tmp rfl _ _ w.heap.size 24 (cells8 D) _ rfl M5.r0 Tryd.underlying24 rfl HI.out (.int .i64 0) rfl) rfl ⟨by rw [HE.out, ← HD.out], M5.nx⟩
      · have hT' : isText S = false := by simpa using hT
        have HD := Lib.hid (show digL S = zero32 by unfold digL; rw [if_neg hT])
        have HE := Lib.hid (show errL S = 10 by unfold errL; rw [if_neg hT])
        rw [hT'] at hqq
        clear hT hT' hQ hD
        rcases hg with hg | ⟨hg, hg2⟩
        all_goals
          go_wp2_with (first
            | (refine wpList_load_row rfl 24 _ rfl (w.heap.size + 1) rfl 24 (cells8 D) (0, 0) _ hr1.out Tryd.underlying24 rfl HI.out ?_)
            | (go_at_call 43; ((with_reducible refine (CT _).mono ?_); rintro e w3 ⟨rfl, hb3⟩))
            | (refine wpList_build_as rfl 24 _ rfl (cells8 zero32) (by kernel_rfl) ?_)
            | (refine wpList_store_row rfl 24 _ _ rfl w.heap.size (cells8 zero32) rfl rfl 24 _ (M.out.below hb3).r0 HZ.out rfl (cells8_one _) ?_))
          have M5 := (M.out.below hb3).row0 zero32
          exact bodyPost_ret (results_row_tmp rfl _ _ w.heap.size 24 (cells8 zero32) _ rfl M5.r0 Tryd.underlying24 rfl HZ.out (.int .i64 10) rfl) rfl ⟨by rw [HE.out, HD.out], M5.nx⟩
end Go.Proofs.YtldbfjcfobdkpaaDoor
