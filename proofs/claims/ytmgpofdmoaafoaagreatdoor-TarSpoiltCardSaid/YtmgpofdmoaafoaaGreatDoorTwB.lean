/- Layer 15: TarSpoilt walked. -/
import Derived.Test.YtmgpofdmoaafoaaGreatDoorTwA
import Derived.Test.YtmgpofdmoaafoaaGreatDoorTsY
import Derived.Test.YtmgpofdmoaafoaaGreatDoorTsJ
namespace Go.Proofs.YtmgpofdmoaafoaaGreatDoor
open Go.RowKit
attribute [local go_sem] wide_fn round_fn

theorem great_no' {l : List Ent} {m : Nat} (h : greatB l m = false) : l.length ≤ m ∧ ∀ x ∈ l, x.name.length ≤ 300 ∧ x.to.length ≤ 300 ∧ x.data.length ≤ 1500 := by
  unfold greatB at h
  rw [Bool.or_eq_false_iff, decide_eq_false_iff_not, List.any_eq_false] at h
  refine ⟨by omega, fun x hx => ?_⟩
  have := h.1 x hx
  unfold bigE at this
  simp only [Bool.or_eq_true, decide_eq_true_eq, not_or] at this
  omega
set_option maxRecDepth 100000 in
set_option maxHeartbeats 32000000 in
theorem spoilt_any (l : List Ent) (ad : Option Addr) (c p q r : Nat) (hp : p < 65536) (hq : q < 65536) (hr : r < 65536) (hlen : l.length ≤ maxLen) (w : World) (hE : EnvT w) (h : EntsAt w ad l) :
    Calls Tryz.prog 3 #[.slice ad l.length c, .agg #[.int .u16 (p : Int), .int .u16 (q : Int), .int .u16 (r : Int)]] w fun e w' => e = .returned (.bool true) ∧ Below w.heap.size w w' := by
  obtain ⟨W1, hW1⟩ : ∃ W1, W1 = w.alloc (.cells #[.int .u16 (p : Int), .int .u16 (q : Int), .int .u16 (r : Int)] 24) := ⟨_, rfl⟩
  have HB1 : Hid (Below w.heap.size w W1) := Lib.hid (by rw [hW1]; exact (Below.refl _ _).alloc (Nat.le_refl _) _)
  have HA1 : Hid (rowC W1 w.heap.size #[.int .u16 (p : Int), .int .u16 (q : Int), .int .u16 (r : Int)] 24) := Lib.hid (by rw [hW1]; exact rowC_new _ _ _)
  have HW1 := Lib.hid hW1
  have HE := Lib.hid (hE.below HB1.out)
  have HE0 := Lib.hid hE
  have h1 := h.far HB1.out (Nat.le_refl _)
  clear hW1 hE h
  have CG := great_any l ad c 6 hlen W1 h1
  rw [show ((6 : Nat) : Int) = 6 from rfl] at CG
  cases hg : greatB l 6 with
  | true =>
    rw [hg] at CG
    have HP := packed_any W1 HE.out
    go_enter Tryz.func3, Tryz.ntmps3
    go_upto_region 1 with (fail)
    rw [show w.alloc (.cells #[.int .u16 (p : Int), .int .u16 (q : Int), .int .u16 (r : Int)] 24) = W1 from HW1.out.symm]
    go_wp2_with (first
      | (go_at_call 4; ((with_reducible refine CG.mono ?_); rintro e w1 ⟨rfl, rfl⟩))
      | (go_at_call 5; ((with_reducible refine HP.mono ?_); rintro e w2 ⟨rfl, hb⟩)))
    go_ret
    exact ⟨rfl, HB1.out.trans (hb.mono HB1.out.size)⟩
  | false =>
    rw [hg] at CG
    obtain ⟨hl6, hsm⟩ := great_no' hg
    have hd : ∀ x ∈ l, x.data.length ≤ 1000000 := fun x hx => by have := hsm x hx; omega
    have CW := writesR_any l ad c hd hlen W1 h1
    cases hall : l.all mayE with
    | false =>
      rw [show writeL l = ([], 2) from by unfold writeL; rw [if_neg (by omega), if_neg (by rw [hall]; decide)]] at CW
      dsimp only at CW
      go_enter Tryz.func3, Tryz.ntmps3
      go_upto_region 1 with (fail)
      rw [show w.alloc (.cells #[.int .u16 (p : Int), .int .u16 (q : Int), .int .u16 (r : Int)] 24) = W1 from HW1.out.symm]
      go_upto_region 4 with (first
        | (go_at_call 4; ((with_reducible refine CG.mono ?_); rintro e w1 ⟨rfl, rfl⟩))
        | (go_at_call 6; ((with_reducible refine CW.mono ?_); rintro e w2 ⟨rfl, hb2⟩)))
      have HP := packed_any w2 (HE.out.below hb2)
      go_wp2_with (go_at_call 5; ((with_reducible refine HP.mono ?_); rintro e w3 ⟨rfl, hb3⟩))
      go_ret
      have hb4 := HB1.out.trans (hb2.mono HB1.out.size)
      exact ⟨rfl, hb4.trans (hb3.mono hb4.size)⟩
    | true =>
      have hmay : ∀ x ∈ l, MayP x := fun x hx => (mayE_iff x).1 (List.all_eq_true.1 hall x hx)
      rw [show writeL l = (encL l ++ zerosL 1024, 0) from by unfold writeL; rw [if_neg (by omega), if_pos hall]] at CW
      dsimp only at CW
      have hmod := encL_len l
      have hmost := encL_most l (fun x hx => ⟨hmay x hx, (hsm x hx).2.2⟩)
      obtain ⟨N, hN⟩ : ∃ N, N = (encL l ++ zerosL 1024).length := ⟨_, rfl⟩
      have hNN : 1024 ≤ N ∧ N % 512 = 0 ∧ N ≤ 20000 := by
        rw [hN, List.length_append, zerosL_len]
        omega
      generalize encL l ++ zerosL 1024 = T at *
      have HN := Lib.hid hN
      obtain ⟨n1, n2, n3⟩ := hNN
      clear hmod hmost hmay hall hd hsm hl6 hg hN
      go_enter Tryz.func3, Tryz.ntmps3
      go_upto_region 1 with (fail)
      rw [show w.alloc (.cells #[.int .u16 (p : Int), .int .u16 (q : Int), .int .u16 (r : Int)] 24) = W1 from HW1.out.symm]
      have zs : (str T).size = N := by rw [str_size, HN.out]
      have HSX : Hid (∀ a b, (str T).extract a b = str (sl T a b)) := Lib.hid fun a b => extract_str T a b
      have HRT := Lib.hid (fun W => convF_row T W)
      rw [← HN.out] at HRT
      obtain ⟨S, hS⟩ : ∃ S, S = str T := ⟨_, rfl⟩
      have HS := Lib.hid hS
      rw [← hS] at CW zs HSX HRT
      clear hS
      go_upto_region 6 with (first
        | (go_at_call 4; ((with_reducible refine CG.mono ?_); rintro e w1 ⟨rfl, rfl⟩))
        | (go_at_call 6; ((with_reducible refine CW.mono ?_); rintro e w2 ⟨rfl, hb2⟩; have HB2 := Lib.hid hb2; clear hb2)))
      clear CG CW h1
      obtain ⟨cap1, W3, hcv, hcap1, hbf, hb3⟩ := HRT.out w2
      have HB3 := Lib.hid hb3
      have HF3 := Lib.hid hbf
      clear hb3 hbf
      have HQ0 : Hid (w.heap.size < w2.heap.size) := Lib.hid (by have h1 := rowC_lt HA1.out; have h2 := HB2.out.size; omega)
      have HA3 : Hid (rowC W3 w.heap.size #[.int .u16 (p : Int), .int .u16 (q : Int), .int .u16 (r : Int)] 24) := Lib.hid (rowC_below (rowC_below HA1.out HB2.out (rowC_lt HA1.out)) HB3.out HQ0.out)
      have HBB3 : Hid (Below w.heap.size w W3) := Lib.hid (by have h1 := HB1.out.trans (HB2.out.mono HB1.out.size); exact h1.trans (HB3.out.mono h1.size))
      obtain ⟨j, hj⟩ : ∃ j, j = p % N := ⟨_, rfl⟩
      have ek : (p : Int) % (N : Int) = (j : Int) := by rw [hj]; push_cast; rfl
      have hjl : j < N := by rw [hj]; exact Nat.mod_lt _ (by omega)
      obtain ⟨v1, hv1⟩ : ∃ v, v = UInt8.ofNat q := ⟨_, rfl⟩
      have wq : (q : Int) % 256 = (v1.toNat : Int) := by rw [hv1, UInt8.toNat_ofNat']; push_cast; rfl
      clear hj hv1
      go_upto_region 7 with (fail)
      clear hcv
      obtain ⟨q1, hq1⟩ : ∃ k, k = w2.heap.size := ⟨_, rfl⟩
      rw [← hq1] at HQ0 HF3 HB3 ⊢
      have HQ1 := Lib.hid hq1
      clear hq1
      have a0 : W3.cell? ⟨w.heap.size, 0, none⟩ = some (.int .u16 (p : Int)) := rowC_cell HA3.out 0
      have a1 : W3.cell? ⟨w.heap.size, 1, none⟩ = some (.int .u16 (q : Int)) := rowC_cell HA3.out 1
      have b1 := HF3.out.c j (by rw [← HN.out]; exact hjl)
      have f1 := HF3.out.f j (by rw [← HN.out]; exact hjl)
      unfold byteV at b1
      have q3 : (0 : Int) < (N : Int) := by omega
      have q4 : (j : Int) < (N : Int) := by omega
      have q5 : (0 : Int) ≤ (j : Int) := by omega
      refine (wpIn_wide (n := 4)).1 ?_
      refine region_quiet_tail (C := fun w' => ∃ n, w' = W3.drewN n) 10 (by kernel_rfl) (by kernel_rfl) (by kernel_rfl) ⟨1, rfl⟩ ?_
      simp only [List.take_succ_cons, List.take_zero, List.drop_succ_cons, List.drop_zero]
      repeat (gi_big_quiet_step (fail))
      refine wpQuietIn_nil ?_
      rintro _ ⟨nq, rfl⟩
      rw [ek, wq]
      have HA4 := Lib.hid (rowC_drewN HA3.out nq)
      have HF4 : Hid (BytesF ((W3.drewN nq).setCell ⟨q1, j, none⟩ (.int .u8 (v1.toNat : Int))) q1 (T.set j v1)) := Lib.hid ((HF3.out.of_block (w' := W3.drewN nq) HF3.out.lt rfl).set (by rw [← HN.out]; exact hjl) v1)
      have HBB4 := Lib.hid (below_drewN HBB3.out nq)
      have b1' : (W3.drewN nq).cell? ⟨q1, j, none⟩ = some (.int .u8 ((T.getD j 0).toNat : Int)) := b1
      have f1' : (W3.drewN nq).frozen? ⟨q1, j, none⟩ = false := f1
      clear HA3 HF3 HBB3 HB3 b1 f1 a0 a1 HQ1
      generalize W3.drewN nq = W4 at *
      -- the other one
      obtain ⟨W5, hW5⟩ : ∃ W, W = W4.setCell ⟨q1, j, none⟩ (.int .u8 (v1.toNat : Int)) := ⟨_, rfl⟩
      have HA5 : Hid (rowC W5 w.heap.size #[.int .u16 (p : Int), .int .u16 (q : Int), .int .u16 (r : Int)] 24) := Lib.hid (by rw [hW5]; exact Eq.trans (heap_setCell_other _ _ _ _ (by have := HQ0.out; show w.heap.size ≠ q1; omega)) HA4.out)
      have HBB5 : Hid (Below w.heap.size w W5) := Lib.hid (by rw [hW5]; exact HBB4.out.setCell (p := ⟨q1, j, none⟩) (Nat.le_of_lt HQ0.out) _)
      rw [← hW5] at HF4
      have HW5 := Lib.hid hW5
      obtain ⟨cap2, W6, hcv, hcap2, hbf, hb6⟩ := HRT.out W5
      have HQ2 : Hid (q1 < W5.heap.size) := Lib.hid HF4.out.lt
      have HF6 := Lib.hid hbf
      have HG6 : Hid (BytesF W6 q1 (T.set j v1)) := Lib.hid (HF4.out.of_block (Nat.lt_of_lt_of_le HF4.out.lt hb6.size) (hb6.block _ HF4.out.lt))
      have HA6 : Hid (rowC W6 w.heap.size #[.int .u16 (p : Int), .int .u16 (q : Int), .int .u16 (r : Int)] 24) := Lib.hid (rowC_below HA5.out hb6 (rowC_lt HA5.out))
      have HBB6 : Hid (Below w.heap.size w W6) := Lib.hid (HBB5.out.trans (hb6.mono HBB5.out.size))
      clear hbf hb6 HA5 HBB5 HF4 HA4 HBB4
      obtain ⟨q2, hq2⟩ : ∃ k, k = W5.heap.size := ⟨_, rfl⟩
      rw [← hq2] at HQ2 HF6 hcv
      rw [hW5] at hcv
      clear hq2 hW5
      obtain ⟨K, hK⟩ : ∃ k, k = j / 512 * 512 := ⟨_, rfl⟩
      have eK : (j : Int) / 512 * 512 = (K : Int) := by rw [hK]; push_cast; rfl
      have hKN : K + 512 ≤ N := by omega
      clear hK
      have a0 : W6.cell? ⟨w.heap.size, 0, none⟩ = some (.int .u16 (p : Int)) := rowC_cell HA6.out 0
      gi_wp2
      go_upto_region 10 with (fail)
      clear hcv b1' f1' HW5
      have a1 : W6.cell? ⟨w.heap.size, 1, none⟩ = some (.int .u16 (q : Int)) := rowC_cell HA6.out 1
      have a2 : W6.cell? ⟨w.heap.size, 2, none⟩ = some (.int .u16 (r : Int)) := rowC_cell HA6.out 2
      obtain ⟨x2, hx2⟩ : ∃ x, x = q % 12 := ⟨_, rfl⟩
      have ex2 : (q : Int) % 12 = (x2 : Int) := by rw [hx2]; push_cast; rfl
      obtain ⟨y2, hy2⟩ : ∃ x, x = r % 12 := ⟨_, rfl⟩
      have ey2 : (r : Int) % 12 = (y2 : Int) := by rw [hy2]; push_cast; rfl
      have hy12 : y2 < 12 := by omega
      have IX := idx_strK .u16 (⟨#[48, 49, 50, 51, 52, 53, 54, 55, 32, 0, 57, 120]⟩ : ByteArray) x2 (x2 : Int) rfl (show x2 < 12 by omega)
      obtain ⟨v2, hv2⟩ : ∃ v : UInt8, v = (⟨#[48, 49, 50, 51, 52, 53, 54, 55, 32, 0, 57, 120]⟩ : ByteArray).data.toList.getD x2 0 := ⟨_, rfl⟩
      rw [← hv2] at IX
      clear hx2 hy2 hv2
      obtain ⟨m2, hm2⟩ : ∃ m, m = K + 124 + y2 := ⟨_, rfl⟩
      have em2 : (K : Int) + 124 + (y2 : Int) = (m2 : Int) := by rw [hm2]; push_cast; rfl
      have hm2N : m2 < N := by omega
      have b1 := HF6.out.c m2 (by rw [← HN.out]; exact hm2N)
      have f1 := HF6.out.f m2 (by rw [← HN.out]; exact hm2N)
      unfold byteV at b1
      clear hm2
      refine (wpIn_wide (n := 4)).1 ?_
      refine region_quiet_tail (C := fun w' => ∃ n, w' = W6.drewN n) 12 (by kernel_rfl) (by kernel_rfl) (by kernel_rfl) ⟨1, rfl⟩ ?_
      simp only [List.take_succ_cons, List.take_zero, List.drop_succ_cons, List.drop_zero]
      repeat (gi_big_quiet_step (fail))
      refine wpQuietIn_nil ?_
      rintro _ ⟨nq2, rfl⟩
      try rw [ey2]
      try rw [em2]
      have HM7 : Hid (SpM w #[.int .u16 (p : Int), .int .u16 (q : Int), .int .u16 (r : Int)] q1 q2 N (T.set j v1) ((W6.drewN nq2).setCell ⟨q2, m2, none⟩ (.int .u8 (v2.toNat : Int)))) := Lib.hid (SpM.set ⟨rowC_drewN HA6.out nq2, HG6.out.of_block HG6.out.lt rfl, ⟨T, HN.out.symm, HF6.out.of_block HF6.out.lt rfl⟩, below_drewN HBB6.out nq2, HQ0.out, HQ2.out⟩ hm2N v2)
      have b1' : (W6.drewN nq2).cell? ⟨q2, m2, none⟩ = some (.int .u8 ((T.getD m2 0).toNat : Int)) := b1
      have f1' : (W6.drewN nq2).frozen? ⟨q2, m2, none⟩ = false := f1
      clear b1 f1 IX HA6 HG6 HF6 HBB6 HQ0 HQ2 a0 a1 a2
      generalize W6.drewN nq2 = W7 at *
      gi_wp2
      clear b1' f1'
      generalize W7.setCell ⟨q2, m2, none⟩ (.int .u8 (v2.toNat : Int)) = W8 at *
      obtain ⟨z, hz, hcz⟩ := HM7.out.c
      have hcv := conv_piece (cap := cap2 - K) (k := K) (n := 512) hcz (by omega)
      have hhl : ((z.drop K).take 512).length = 512 := by rw [List.length_take, List.length_drop]; omega
      have CS := rsum_any ((z.drop K).take 512) hhl W8
      generalize sumH ((z.drop K).take 512) = nn at *
      generalize (z.drop K).take 512 = hh at *
      clear hhl hcz hz
      go_wp2_with (go_at_call 7; ((with_reducible refine CS.mono ?_); rintro e w9 ⟨rfl, rfl⟩))
      clear hcv CS
      go_loopw [10, 11] (fun n i wr => ∃ (k : Nat) (m : Int), k ≤ 6 ∧ i = .int .i64 (k : Int) ∧ n = .int .i64 m ∧ Hid (SpM w #[.int .u16 (p : Int), .int .u16 (q : Int), .int .u16 (r : Int)] q1 q2 N (T.set j v1) wr)) (fun _ i _ => 6 - (intOf i).toNat)
      case atStart => exact ⟨0, _, by decide, rfl, rfl, HM7⟩
      case round =>
        obtain ⟨k, m, hk, rfl, rfl, hM⟩ := hrel
        by_cases hlt : k < 6
        · have g1 : (k : Int) < 6 := by omega
          obtain ⟨m3, hm3⟩ : ∃ m, m = K + 153 - k := ⟨_, rfl⟩
          have em3 : (K : Int) + 153 - (k : Int) = (m3 : Int) := by rw [hm3]; omega
          have hm3N : m3 < N := by omega
          obtain ⟨u3, b1, f1⟩ := hM.out.cell hm3N
          have q6 : (m3 : Int) < (N : Int) := by omega
          have q7 : (0 : Int) ≤ (m3 : Int) := by omega
          clear hm3
          go_wp2
          obtain ⟨X, hX⟩ : ∃ X, X = wrap64 (48 + bits BinOp.and IntKind.i64 m 7) := ⟨_, rfl⟩
          have hv3 : X % 256 = ((UInt8.ofNat (X % 256).toNat).toNat : Int) := by rw [UInt8.toNat_ofNat']; have := Int.emod_nonneg X (show (256 : Int) ≠ 0 by decide); have := Int.emod_lt_of_pos X (show (0 : Int) < 256 by decide); omega
          rw [← hX, hv3]
          go_roundw
          case rel => exact ⟨k + 1, _, by omega, by go_num, rfl, Lib.hid (hM.out.set hm3N _)⟩
          case measure => simp [intOf]; omega
        · obtain rfl : k = 6 := by omega
          rw [show ((6 : Nat) : Int) = 6 from rfl]
          go_upto_region 17 with (fail)
          go_cut [12] from 93 to 112 (fun cv wx => ∃ (g : Nat) (ts : List Bs), cv = .pointer (some ⟨g, 0, none⟩) ∧ ts.length = 4 ∧ (∀ t ∈ ts, t.length ≤ 30000) ∧ Hid (rowC wx g (ts.map fun t => Value.string (str t)).toArray 33 ∧ Below w.heap.size w wx ∧ w.heap.size ≤ g))
          case first =>
            obtain ⟨y, hy⟩ : ∃ y, y = r % N := ⟨_, rfl⟩
            have er : (r : Int) % (N : Int) = (y : Int) := by rw [hy]; push_cast; rfl
            have e1 : (IntKind.i64.wrap (r : Int)).tmod (N : Int) = (y : Int) := by rw [IntWalk.i64_in _ (by omega), Int.tmod_eq_emod_of_nonneg (by omega), er]
            have e2 : IntKind.u8.wrap (q : Int) = (v1.toNat : Int) := by rw [← wq]; simp [IntKind.wrap, IntKind.bits, IntKind.signed]
            have hN0 : ¬ N = 0 := by omega
            have hcat : ¬ 9223372036854775807 < N + (str [v1]).size := by rw [str_size]; simp; omega
            have hyN : y < N := by rw [hy]; exact Nat.mod_lt _ (by omega)
            have hsc : ∀ w, (Instr.slice 9 (.string S) none (some (.int .i64 (y : Int))) none).run Tryz.prog w = .ok (.string (str (T.take y))) w := fun w => by
              rw [run_slice_string_to_if w 9 S .i64 (y : Int) Tryz.underlying9, if_pos ⟨by omega, by omega⟩, Int.toNat_natCast, HSX.out, sl, List.drop_zero]
            obtain ⟨z3, hz3, hcz3⟩ := hM.out.c
            have HZ3 := Lib.hid hz3
            have HC1 : Hid (∀ wd : World, (convert 30 9 (.slice (some ⟨wd.heap.size, 0, none⟩) 1 1)).run Tryz.prog (wd.alloc (.cells #[.int .u8 (v1.toNat : Int)] 5)) = .ok (.string (str [v1])) (wd.alloc (.cells #[.int .u8 (v1.toNat : Int)] 5))) := Lib.hid fun wd => conv_one v1 wd
            have HC2 : Hid (∀ (wd : World) (cs : Array Value) (ty : TypeId), (convert 30 9 (.slice (some ⟨wd.heap.size, 0, none⟩) 1 1)).run Tryz.prog ((wd.alloc (.cells #[.int .u8 (v1.toNat : Int)] 5)).alloc (.cells cs ty)) = .ok (.string (str [v1])) ((wd.alloc (.cells #[.int .u8 (v1.toNat : Int)] 5)).alloc (.cells cs ty))) := Lib.hid fun wd cs ty => conv_one_alloc v1 wd cs ty
            have HC3 : Hid (∀ (wd : World) (cs : Array Value) (ty : TypeId), (convert 30 9 (.slice (some ⟨wd.heap.size + 1, 0, none⟩) 1 1)).run Tryz.prog ((wd.alloc (.cells cs ty)).alloc (.cells #[.int .u8 (v1.toNat : Int)] 5)) = .ok (.string (str [v1])) ((wd.alloc (.cells cs ty)).alloc (.cells #[.int .u8 (v1.toNat : Int)] 5))) := Lib.hid fun wd cs ty => by
              have := conv_one v1 (wd.alloc (.cells cs ty))
              rwa [size_alloc] at this
            have OS : ∀ w', Gn wr no w' → w'.cell? ⟨w.heap.size, 2, none⟩ = some (.int .u16 (r : Int)) ∧ w'.cell? ⟨w.heap.size, 1, none⟩ = some (.int .u16 (q : Int)) ∧ (convert 30 9 (.slice (some ⟨q1, 0, none⟩) N cap1)).run Tryz.prog w' = .ok (.string (str (T.set j v1))) w' ∧ (convert 30 9 (.slice (some ⟨q2, 0, none⟩) N cap2)).run Tryz.prog w' = .ok (.string (str z3)) w' := fun w' hg =>
              ⟨rowC_cell (hg.row hM.out.a (fun h => h)) 2, rowC_cell (hg.row hM.out.a (fun h => h)) 1, conv_text (hM.out.b.chg hg (fun h => h)) (by rw [List.length_set, HN.out]), conv_text (hcz3.chg hg (fun h => h)) HZ3.out⟩
            have SO : ∀ w', Gn wr no w' → Gn wr no w' := fun _ h => h
            clear hcz3 hz3 hy
            refine wp_region_noPanic ?_
            refine wp_region_held_drew (S := Gn wr no) (by kernel_rfl) (Gn.start _ _) (fun hHeld => ?_)
            generalize wr.drew = wd at *
            have HD := Lib.hid hHeld
            have HSA : Hid (S ++ str [v1] = str (T ++ [v1])) := Lib.hid (by rw [HS.out, str_append])
            have HTL : Hid (∀ t ∈ [T.set j v1, T.take y, T ++ [v1], z3], t.length ≤ 30000) := Lib.hid fun t ht => by
              have := HN.out
              simp only [List.mem_cons, List.not_mem_nil, or_false] at ht
              rcases ht with e | e | e | e <;> subst e
              · rw [List.length_set]; omega
              · rw [List.length_take]; omega
              · rw [List.length_append, List.length_singleton]; omega
              · rw [HZ3.out]; omega
            have HBD : Hid (Below w.heap.size w wd) := Lib.hid (hM.out.e.trans ((Chg.below HD.out (Nat.le_refl _) (fun _ _ h => h)).mono hM.out.e.size))
            have HROW : Hid (∀ W b, rowC W b #[.string (str (T.set j v1)), .string (str (T.take y)), .string (S ++ str [v1]), .string (str z3)] 33 → rowC W b ([T.set j v1, T.take y, T ++ [v1], z3].map fun t => Value.string (str t)).toArray 33) := Lib.hid fun W b h => by rw [HSA.out] at h; exact h
            refine wpAnyH_take (i := 0) (oi := { dst := some 93, op := Op.move (Operand.tmp 7), type := 30, pos := "law.go:144", after := #[], guard := none }) (v := ?_) rfl (by kernel_rfl) (by kernel_rfl) (by kernel_rfl) (fun _ _ _ h => h) (Or.inl ⟨by rfl, ?_⟩) (by assumption) ?_
            rotate_left
            · intro w hSw
              skip
              clear hSw
              go_simp
              try with_reducible rfl
            try simp only [Act.put, List.setIfInBounds_toArray, List.set_cons_zero, List.set_cons_succ]
            refine wpAnyH_take (i := 1) (oi := { dst := some 94, op := Op.convert 30 9 (Operand.tmp 93), type := 9, pos := "law.go:144", after := #[{ on := 0, ground := Ground.data }], guard := none }) (v := ?_) rfl (by kernel_rfl) (by kernel_rfl) (by kernel_rfl) (fun _ _ _ h => h) (Or.inl ⟨by rfl, ?_⟩) (by assumption) ?_
            rotate_left
            · intro w hSw
              obtain ⟨c2, c1, cvb, cvc⟩ := OS _ hSw
              clear hSw
              go_simp
              try with_reducible rfl
            try simp only [Act.put, List.setIfInBounds_toArray, List.set_cons_zero, List.set_cons_succ]
            refine wpAnyH_take (i := 2) (oi := { dst := some 95, op := Op.move (Operand.tmp 5), type := 9, pos := "law.go:144", after := #[], guard := none }) (v := ?_) rfl (by kernel_rfl) (by kernel_rfl) (by kernel_rfl) (fun _ _ _ h => h) (Or.inl ⟨by rfl, ?_⟩) (by assumption) ?_
            rotate_left
            · intro w hSw
              skip
              clear hSw
              go_simp
              try with_reducible rfl
            try simp only [Act.put, List.setIfInBounds_toArray, List.set_cons_zero, List.set_cons_succ]
            refine wpAnyH_take (i := 3) (oi := { dst := some 96, op := Op.indexAddr 24 (Operand.tmp 3) (Operand.const (Value.int IntKind.i64 2)), type := 0, pos := "law.go:144", after := #[], guard := none }) (v := ?_) rfl (by kernel_rfl) (by kernel_rfl) (by kernel_rfl) (fun _ _ _ h => h) (Or.inl ⟨by rfl, ?_⟩) (by assumption) ?_
            rotate_left
            · intro w hSw
              skip
              clear hSw
              go_simp
              try with_reducible rfl
            try simp only [Act.put, List.setIfInBounds_toArray, List.set_cons_zero, List.set_cons_succ]
            refine wpAnyH_take (i := 6) (oi := { dst := some 99, op := Op.move (Operand.tmp 5), type := 9, pos := "law.go:144", after := #[], guard := none }) (v := ?_) rfl (by kernel_rfl) (by kernel_rfl) (by kernel_rfl) (fun _ _ _ h => h) (Or.inl ⟨by rfl, ?_⟩) (by assumption) ?_
            rotate_left
            · intro w hSw
              skip
              clear hSw
              go_simp
              try with_reducible rfl
            try simp only [Act.put, List.setIfInBounds_toArray, List.set_cons_zero, List.set_cons_succ]
            refine wpAnyH_take (i := 7) (oi := { dst := some 100, op := Op.call { callee := Callee.builtin Builtin.len, args := #[Operand.tmp 99], argTypes := #[9] }, type := 3, pos := "law.go:144", after := #[{ on := 6, ground := Ground.data }], guard := none }) (v := ?_) rfl (by kernel_rfl) (by kernel_rfl) (by kernel_rfl) (fun _ _ _ h => h) (Or.inl ⟨by rfl, ?_⟩) (by assumption) ?_
            rotate_left
            · intro w hSw
              skip
              clear hSw
              go_simp
              try with_reducible rfl
            try simp only [Act.put, List.setIfInBounds_toArray, List.set_cons_zero, List.set_cons_succ]
            refine wpAnyH_take (i := 10) (oi := { dst := some 103, op := Op.move (Operand.tmp 5), type := 9, pos := "law.go:144", after := #[], guard := none }) (v := ?_) rfl (by kernel_rfl) (by kernel_rfl) (by kernel_rfl) (fun _ _ _ h => h) (Or.inl ⟨by rfl, ?_⟩) (by assumption) ?_
            rotate_left
            · intro w hSw
              skip
              clear hSw
              go_simp
              try with_reducible rfl
            try simp only [Act.put, List.setIfInBounds_toArray, List.set_cons_zero, List.set_cons_succ]
            refine wpAnyH_take (i := 11) (oi := { dst := some 104, op := Op.indexAddr 24 (Operand.tmp 3) (Operand.const (Value.int IntKind.i64 1)), type := 0, pos := "law.go:144", after := #[], guard := none }) (v := ?_) rfl (by kernel_rfl) (by kernel_rfl) (by kernel_rfl) (fun _ _ _ h => h) (Or.inl ⟨by rfl, ?_⟩) (by assumption) ?_
            rotate_left
            · intro w hSw
              skip
              clear hSw
              go_simp
              try with_reducible rfl
            try simp only [Act.put, List.setIfInBounds_toArray, List.set_cons_zero, List.set_cons_succ]
            refine wpAnyH_take (i := 17) (oi := { dst := some 110, op := Op.move (Operand.tmp 8), type := 30, pos := "law.go:144", after := #[], guard := none }) (v := ?_) rfl (by kernel_rfl) (by kernel_rfl) (by kernel_rfl) (fun _ _ _ h => h) (Or.inl ⟨by rfl, ?_⟩) (by assumption) ?_
            rotate_left
            · intro w hSw
              skip
              clear hSw
              go_simp
              try with_reducible rfl
            try simp only [Act.put, List.setIfInBounds_toArray, List.set_cons_zero, List.set_cons_succ]
            refine wpAnyH_take (i := 18) (oi := { dst := some 111, op := Op.convert 30 9 (Operand.tmp 110), type := 9, pos := "law.go:144", after := #[{ on := 17, ground := Ground.data }], guard := none }) (v := ?_) rfl (by kernel_rfl) (by kernel_rfl) (by kernel_rfl) (fun _ _ _ h => h) (Or.inl ⟨by rfl, ?_⟩) (by assumption) ?_
            rotate_left
            · intro w hSw
              obtain ⟨c2, c1, cvb, cvc⟩ := OS _ hSw
              clear hSw
              go_simp
              try with_reducible rfl
            try simp only [Act.put, List.setIfInBounds_toArray, List.set_cons_zero, List.set_cons_succ]
            refine wpAnyH_take (i := 4) (oi := { dst := some 97, op := Op.load 23 (Operand.tmp 96), type := 23, pos := "law.go:144", after := #[{ on := 3, ground := Ground.data }], guard := none }) (v := ?_) rfl (by kernel_rfl) (by kernel_rfl) (by kernel_rfl) (fun _ _ _ h => h) (Or.inl ⟨by rfl, ?_⟩) (by assumption) ?_
            rotate_left
            · intro w hSw
              obtain ⟨c2, c1, cvb, cvc⟩ := OS _ hSw
              clear hSw
              go_simp
              try with_reducible rfl
            try simp only [Act.put, List.setIfInBounds_toArray, List.set_cons_zero, List.set_cons_succ]
            refine wpAnyH_take (i := 5) (oi := { dst := some 98, op := Op.convert 23 3 (Operand.tmp 97), type := 3, pos := "law.go:144", after := #[{ on := 4, ground := Ground.data }], guard := none }) (v := ?_) rfl (by kernel_rfl) (by kernel_rfl) (by kernel_rfl) (fun _ _ _ h => h) (Or.inl ⟨by rfl, ?_⟩) (by assumption) ?_
            rotate_left
            · intro w hSw
              skip
              clear hSw
              go_simp
              try with_reducible rfl
            try simp only [Act.put, List.setIfInBounds_toArray, List.set_cons_zero, List.set_cons_succ]
            refine wpAnyH_take (i := 8) (oi := { dst := some 101, op := Op.binOp BinOp.rem 3 (Operand.tmp 98) (Operand.tmp 100) 3, type := 3, pos := "law.go:144", after := #[{ on := 5, ground := Ground.data }, { on := 7, ground := Ground.data }], guard := none }) (v := ?_) rfl (by kernel_rfl) (by kernel_rfl) (by kernel_rfl) (fun _ _ _ h => h) (Or.inl ⟨by rfl, ?_⟩) (by assumption) ?_
            rotate_left
            · intro w hSw
              skip
              clear hSw
              go_simp
              try with_reducible rfl
            try simp only [Act.put, List.setIfInBounds_toArray, List.set_cons_zero, List.set_cons_succ]
            refine wpAnyH_take (i := 9) (oi := { dst := some 102, op := Op.slice 9 (Operand.tmp 95) none (some (Operand.tmp 101)) none, type := 9, pos := "law.go:144", after := #[{ on := 2, ground := Ground.data }, { on := 8, ground := Ground.data }], guard := none }) (v := ?_) rfl (by kernel_rfl) (by kernel_rfl) (by kernel_rfl) (fun _ _ _ h => h) (Or.inl ⟨by rfl, ?_⟩) (by assumption) ?_
            rotate_left
            · intro w hSw
              skip
              clear hSw
              go_simp
              try with_reducible rfl
            try simp only [Act.put, List.setIfInBounds_toArray, List.set_cons_zero, List.set_cons_succ]
            refine wpAnyH_take (i := 12) (oi := { dst := some 105, op := Op.load 23 (Operand.tmp 104), type := 23, pos := "law.go:144", after := #[{ on := 11, ground := Ground.data }], guard := none }) (v := ?_) rfl (by kernel_rfl) (by kernel_rfl) (by kernel_rfl) (fun _ _ _ h => h) (Or.inl ⟨by rfl, ?_⟩) (by assumption) ?_
            rotate_left
            · intro w hSw
              obtain ⟨c2, c1, cvb, cvc⟩ := OS _ hSw
              clear hSw
              go_simp
              try with_reducible rfl
            try simp only [Act.put, List.setIfInBounds_toArray, List.set_cons_zero, List.set_cons_succ]
            refine wpAnyH_take (i := 13) (oi := { dst := some 106, op := Op.convert 23 5 (Operand.tmp 105), type := 5, pos := "law.go:144", after := #[{ on := 12, ground := Ground.data }], guard := none }) (v := ?_) rfl (by kernel_rfl) (by kernel_rfl) (by kernel_rfl) (fun _ _ _ h => h) (Or.inl ⟨by rfl, ?_⟩) (by assumption) ?_
            rotate_left
            · intro w hSw
              skip
              clear hSw
              go_simp
              try with_reducible rfl
            try simp only [Act.put, List.setIfInBounds_toArray, List.set_cons_zero, List.set_cons_succ]
            refine wpAnyH_ready (rs := [14, 20]) (by kernel_rfl) (by simp) ?_
            refine (AllReadyH.cons (o := { dst := some 107, op := Op.buildSlice 30 1 #[(0, Operand.tmp 106)], type := 30, pos := "law.go:144", after := #[{ on := 13, ground := Ground.data }], guard := none }) rfl (fun K hK => ?_) (AllReadyH.cons (o := { dst := some 12, op := Op.alloc 33, type := 0, pos := "law.go:144", after := #[], guard := none }) rfl (fun K hK => ?_) AllReadyH.nil))
            · skip
              go_simp
              refine hK.out _ _ (SO _ (by first | exact hHeld | exact Gn.alloc hHeld _)) (fun hHeld => ?_)
              clear hK K
              try simp only [Act.put, List.setIfInBounds_toArray, List.set_cons_zero, List.set_cons_succ]
              refine wpAnyH_ready (rs := [15, 20]) (by kernel_rfl) (by simp) ?_
              refine (AllReadyH.cons (o := { dst := some 108, op := Op.convert 30 9 (Operand.tmp 107), type := 9, pos := "law.go:144", after := #[{ on := 14, ground := Ground.data }], guard := none }) rfl (fun K hK => ?_) (AllReadyH.cons (o := { dst := some 12, op := Op.alloc 33, type := 0, pos := "law.go:144", after := #[], guard := none }) rfl (fun K hK => ?_) AllReadyH.nil))
              · skip
                have cv1 := HC1.out
                have cv2 := HC2.out
                have cv3 := HC3.out
                go_simp
                refine hK.out _ _ (SO _ (by first | exact hHeld | exact Gn.alloc hHeld _)) (fun hHeld => ?_)
                clear hK K
                try simp only [Act.put, List.setIfInBounds_toArray, List.set_cons_zero, List.set_cons_succ]
                refine wpAnyH_take (i := 16) (oi := { dst := some 109, op := Op.binOp BinOp.add 9 (Operand.tmp 103) (Operand.tmp 108) 9, type := 9, pos := "law.go:144", after := #[{ on := 10, ground := Ground.data }, { on := 15, ground := Ground.data }], guard := none }) (v := ?_) rfl (by kernel_rfl) (by kernel_rfl) (by kernel_rfl) (fun _ _ _ h => h) (Or.inl ⟨by rfl, ?_⟩) (by assumption) ?_
                rotate_left
                · intro w hSw
                  skip
                  clear hSw
                  go_simp
                  try with_reducible rfl
                try simp only [Act.put, List.setIfInBounds_toArray, List.set_cons_zero, List.set_cons_succ]
                refine wpAnyH_take (i := 19) (oi := { dst := some 112, op := Op.build 33 #[(0, Operand.tmp 94), (1, Operand.tmp 102), (2, Operand.tmp 109), (3, Operand.tmp 111)], type := 33, pos := "law.go:144", after := #[{ on := 1, ground := Ground.data }, { on := 9, ground := Ground.data }, { on := 16, ground := Ground.data }, { on := 18, ground := Ground.data }], guard := none }) (v := ?_) rfl (by kernel_rfl) (by kernel_rfl) (by kernel_rfl) (fun _ _ _ h => h) (Or.inl ⟨by rfl, ?_⟩) (by assumption) ?_
                rotate_left
                · intro w hSw
                  skip
                  clear hSw
                  go_simp
                  try with_reducible rfl
                try simp only [Act.put, List.setIfInBounds_toArray, List.set_cons_zero, List.set_cons_succ]
                refine wpAnyH_ready (rs := [20]) (by kernel_rfl) (by simp) ?_
                refine (AllReadyH.cons (o := { dst := some 12, op := Op.alloc 33, type := 0, pos := "law.go:144", after := #[], guard := none }) rfl (fun K hK => ?_) AllReadyH.nil)
                skip
                go_simp
                refine hK.out _ _ (SO _ (by first | exact hHeld | exact Gn.alloc hHeld _)) (fun hHeld => ?_)
                clear hK K
                try simp only [Act.put, List.setIfInBounds_toArray, List.set_cons_zero, List.set_cons_succ]
                refine wpAnyH_ready (rs := [21]) (by kernel_rfl) (by simp) ?_
                refine (AllReadyH.cons (o := { dst := none, op := Op.store 33 (Operand.tmp 12) (Operand.tmp 112), type := 0, pos := "law.go:144", after := #[{ on := 20, ground := Ground.data }, { on := 19, ground := Ground.data }, { on := 0, ground := Ground.phase }, { on := 1, ground := Ground.phase }, { on := 2, ground := Ground.phase }, { on := 3, ground := Ground.phase }, { on := 4, ground := Ground.phase }, { on := 5, ground := Ground.phase }, { on := 6, ground := Ground.phase }, { on := 7, ground := Ground.phase }, { on := 8, ground := Ground.phase }, { on := 9, ground := Ground.phase }, { on := 10, ground := Ground.phase }, { on := 11, ground := Ground.phase }, { on := 12, ground := Ground.phase }, { on := 13, ground := Ground.phase }, { on := 14, ground := Ground.phase }, { on := 15, ground := Ground.phase }, { on := 16, ground := Ground.phase }, { on := 17, ground := Ground.phase }, { on := 18, ground := Ground.phase }, { on := 19, ground := Ground.phase }, { on := 20, ground := Ground.phase }], guard := none }) rfl (fun K hK => ?_) AllReadyH.nil)
                skip
                go_simp
                refine hK.out _ _ (SO _ (Gn.alloc (Gn.alloc HD.out _) _)) (fun hHeld => ?_)
                clear hK K
                try simp only [Act.put]
                refine wpAnyH_done (by kernel_rfl) ?_ _
                refine NoPanic.normal ?_
                go_wp2
                go_meet
                exact ⟨wd.heap.size + 1, [T.set j v1, T.take y, T ++ [v1], z3], rfl, rfl, HTL.out, Lib.hid ⟨HROW.out _ _ (by have := rowC_new (wd.alloc (.cells #[.int .u8 (v1.toNat : Int)] 5)) #[.string (str (T.set j v1)), .string (str (T.take y)), .string (S ++ str [v1]), .string (str z3)] 33; rwa [size_alloc] at this), (HBD.out.alloc HBD.out.size _).alloc (HBD.out.alloc HBD.out.size _).size _, Nat.le_succ_of_le HBD.out.size⟩⟩
              · skip
                go_simp
                refine hK.out _ _ (SO _ (by first | exact hHeld | exact Gn.alloc hHeld _)) (fun hHeld => ?_)
                clear hK K
                try simp only [Act.put, List.setIfInBounds_toArray, List.set_cons_zero, List.set_cons_succ]
                refine wpAnyH_ready (rs := [15]) (by kernel_rfl) (by simp) ?_
                refine (AllReadyH.cons (o := { dst := some 108, op := Op.convert 30 9 (Operand.tmp 107), type := 9, pos := "law.go:144", after := #[{ on := 14, ground := Ground.data }], guard := none }) rfl (fun K hK => ?_) AllReadyH.nil)
                skip
                have cv1 := HC1.out
                have cv2 := HC2.out
                have cv3 := HC3.out
                go_simp
                refine hK.out _ _ (SO _ (by first | exact hHeld | exact Gn.alloc hHeld _)) (fun hHeld => ?_)
                clear hK K
                try simp only [Act.put, List.setIfInBounds_toArray, List.set_cons_zero, List.set_cons_succ]
                refine wpAnyH_take (i := 16) (oi := { dst := some 109, op := Op.binOp BinOp.add 9 (Operand.tmp 103) (Operand.tmp 108) 9, type := 9, pos := "law.go:144", after := #[{ on := 10, ground := Ground.data }, { on := 15, ground := Ground.data }], guard := none }) (v := ?_) rfl (by kernel_rfl) (by kernel_rfl) (by kernel_rfl) (fun _ _ _ h => h) (Or.inl ⟨by rfl, ?_⟩) (by assumption) ?_
                rotate_left
                · intro w hSw
                  skip
                  clear hSw
                  go_simp
                  try with_reducible rfl
                try simp only [Act.put, List.setIfInBounds_toArray, List.set_cons_zero, List.set_cons_succ]
                refine wpAnyH_take (i := 19) (oi := { dst := some 112, op := Op.build 33 #[(0, Operand.tmp 94), (1, Operand.tmp 102), (2, Operand.tmp 109), (3, Operand.tmp 111)], type := 33, pos := "law.go:144", after := #[{ on := 1, ground := Ground.data }, { on := 9, ground := Ground.data }, { on := 16, ground := Ground.data }, { on := 18, ground := Ground.data }], guard := none }) (v := ?_) rfl (by kernel_rfl) (by kernel_rfl) (by kernel_rfl) (fun _ _ _ h => h) (Or.inl ⟨by rfl, ?_⟩) (by assumption) ?_
                rotate_left
                · intro w hSw
                  skip
                  clear hSw
                  go_simp
                  try with_reducible rfl
                try simp only [Act.put, List.setIfInBounds_toArray, List.set_cons_zero, List.set_cons_succ]
                refine wpAnyH_ready (rs := [21]) (by kernel_rfl) (by simp) ?_
                refine (AllReadyH.cons (o := { dst := none, op := Op.store 33 (Operand.tmp 12) (Operand.tmp 112), type := 0, pos := "law.go:144", after := #[{ on := 20, ground := Ground.data }, { on := 19, ground := Ground.data }, { on := 0, ground := Ground.phase }, { on := 1, ground := Ground.phase }, { on := 2, ground := Ground.phase }, { on := 3, ground := Ground.phase }, { on := 4, ground := Ground.phase }, { on := 5, ground := Ground.phase }, { on := 6, ground := Ground.phase }, { on := 7, ground := Ground.phase }, { on := 8, ground := Ground.phase }, { on := 9, ground := Ground.phase }, { on := 10, ground := Ground.phase }, { on := 11, ground := Ground.phase }, { on := 12, ground := Ground.phase }, { on := 13, ground := Ground.phase }, { on := 14, ground := Ground.phase }, { on := 15, ground := Ground.phase }, { on := 16, ground := Ground.phase }, { on := 17, ground := Ground.phase }, { on := 18, ground := Ground.phase }, { on := 19, ground := Ground.phase }, { on := 20, ground := Ground.phase }], guard := none }) rfl (fun K hK => ?_) AllReadyH.nil)
                skip
                go_simp
                refine hK.out _ _ (SO _ (Gn.alloc (Gn.alloc HD.out _) _)) (fun hHeld => ?_)
                clear hK K
                try simp only [Act.put]
                refine wpAnyH_done (by kernel_rfl) ?_ _
                refine NoPanic.normal ?_
                go_wp2
                go_meet
                exact ⟨wd.heap.size + 1, [T.set j v1, T.take y, T ++ [v1], z3], rfl, rfl, HTL.out, Lib.hid ⟨HROW.out _ _ (by have := rowC_new (wd.alloc (.cells #[.int .u8 (v1.toNat : Int)] 5)) #[.string (str (T.set j v1)), .string (str (T.take y)), .string (S ++ str [v1]), .string (str z3)] 33; rwa [size_alloc] at this), (HBD.out.alloc HBD.out.size _).alloc (HBD.out.alloc HBD.out.size _).size _, Nat.le_succ_of_le HBD.out.size⟩⟩
            · skip
              go_simp
              refine hK.out _ _ (SO _ (by first | exact hHeld | exact Gn.alloc hHeld _)) (fun hHeld => ?_)
              clear hK K
              try simp only [Act.put, List.setIfInBounds_toArray, List.set_cons_zero, List.set_cons_succ]
              refine wpAnyH_ready (rs := [14]) (by kernel_rfl) (by simp) ?_
              refine (AllReadyH.cons (o := { dst := some 107, op := Op.buildSlice 30 1 #[(0, Operand.tmp 106)], type := 30, pos := "law.go:144", after := #[{ on := 13, ground := Ground.data }], guard := none }) rfl (fun K hK => ?_) AllReadyH.nil)
              skip
              go_simp
              refine hK.out _ _ (SO _ (by first | exact hHeld | exact Gn.alloc hHeld _)) (fun hHeld => ?_)
              clear hK K
              try simp only [Act.put, List.setIfInBounds_toArray, List.set_cons_zero, List.set_cons_succ]
              refine wpAnyH_ready (rs := [15]) (by kernel_rfl) (by simp) ?_
              refine (AllReadyH.cons (o := { dst := some 108, op := Op.convert 30 9 (Operand.tmp 107), type := 9, pos := "law.go:144", after := #[{ on := 14, ground := Ground.data }], guard := none }) rfl (fun K hK => ?_) AllReadyH.nil)
              skip
              have cv1 := HC1.out
              have cv2 := HC2.out
              have cv3 := HC3.out
              go_simp
              refine hK.out _ _ (SO _ (by first | exact hHeld | exact Gn.alloc hHeld _)) (fun hHeld => ?_)
              clear hK K
              try simp only [Act.put, List.setIfInBounds_toArray, List.set_cons_zero, List.set_cons_succ]
              refine wpAnyH_take (i := 16) (oi := { dst := some 109, op := Op.binOp BinOp.add 9 (Operand.tmp 103) (Operand.tmp 108) 9, type := 9, pos := "law.go:144", after := #[{ on := 10, ground := Ground.data }, { on := 15, ground := Ground.data }], guard := none }) (v := ?_) rfl (by kernel_rfl) (by kernel_rfl) (by kernel_rfl) (fun _ _ _ h => h) (Or.inl ⟨by rfl, ?_⟩) (by assumption) ?_
              rotate_left
              · intro w hSw
                skip
                clear hSw
                go_simp
                try with_reducible rfl
              try simp only [Act.put, List.setIfInBounds_toArray, List.set_cons_zero, List.set_cons_succ]
              refine wpAnyH_take (i := 19) (oi := { dst := some 112, op := Op.build 33 #[(0, Operand.tmp 94), (1, Operand.tmp 102), (2, Operand.tmp 109), (3, Operand.tmp 111)], type := 33, pos := "law.go:144", after := #[{ on := 1, ground := Ground.data }, { on := 9, ground := Ground.data }, { on := 16, ground := Ground.data }, { on := 18, ground := Ground.data }], guard := none }) (v := ?_) rfl (by kernel_rfl) (by kernel_rfl) (by kernel_rfl) (fun _ _ _ h => h) (Or.inl ⟨by rfl, ?_⟩) (by assumption) ?_
              rotate_left
              · intro w hSw
                skip
                clear hSw
                go_simp
                try with_reducible rfl
              try simp only [Act.put, List.setIfInBounds_toArray, List.set_cons_zero, List.set_cons_succ]
              refine wpAnyH_ready (rs := [21]) (by kernel_rfl) (by simp) ?_
              refine (AllReadyH.cons (o := { dst := none, op := Op.store 33 (Operand.tmp 12) (Operand.tmp 112), type := 0, pos := "law.go:144", after := #[{ on := 20, ground := Ground.data }, { on := 19, ground := Ground.data }, { on := 0, ground := Ground.phase }, { on := 1, ground := Ground.phase }, { on := 2, ground := Ground.phase }, { on := 3, ground := Ground.phase }, { on := 4, ground := Ground.phase }, { on := 5, ground := Ground.phase }, { on := 6, ground := Ground.phase }, { on := 7, ground := Ground.phase }, { on := 8, ground := Ground.phase }, { on := 9, ground := Ground.phase }, { on := 10, ground := Ground.phase }, { on := 11, ground := Ground.phase }, { on := 12, ground := Ground.phase }, { on := 13, ground := Ground.phase }, { on := 14, ground := Ground.phase }, { on := 15, ground := Ground.phase }, { on := 16, ground := Ground.phase }, { on := 17, ground := Ground.phase }, { on := 18, ground := Ground.phase }, { on := 19, ground := Ground.phase }, { on := 20, ground := Ground.phase }], guard := none }) rfl (fun K hK => ?_) AllReadyH.nil)
              skip
              go_simp
              refine hK.out _ _ (SO _ (Gn.alloc (Gn.alloc HD.out _) _)) (fun hHeld => ?_)
              clear hK K
              try simp only [Act.put]
              refine wpAnyH_done (by kernel_rfl) ?_ _
              refine NoPanic.normal ?_
              go_wp2
              go_meet
              exact ⟨wd.heap.size, [T.set j v1, T.take y, T ++ [v1], z3], rfl, rfl, HTL.out, Lib.hid ⟨HROW.out _ _ (rowC_below (rowC_new wd _ _) ((Below.refl _ _).alloc (Nat.le_refl _) _) (rowC_lt (rowC_new wd _ _))), (HBD.out.alloc HBD.out.size _).alloc (HBD.out.alloc HBD.out.size _).size _, HBD.out.size⟩⟩
          case rest =>
            obtain ⟨g, ts, rfl, hts, htl, hM⟩ := hcut
            clear HRT HSX HS HN HB2 HM7 HA1 HE zs
            have HTL := Lib.hid htl
            have HTS := Lib.hid hts
            clear htl
            go_wp2
            go_loopw [13] (fun i wr => ∃ k : Nat, k ≤ 4 ∧ i = .int .i64 (k : Int) ∧ Hid (rowC wr g (ts.map fun t => Value.string (str t)).toArray 33 ∧ Below w.heap.size w wr)) (fun i _ => 4 - (intOf i).toNat)
            case atStart => exact ⟨0, by decide, rfl, Lib.hid ⟨hM.out.1, hM.out.2.1⟩⟩
            case round =>
              obtain ⟨k, hk, rfl, hR⟩ := hrel
              by_cases hlt : k < 4
              · have g1 : (k : Int) < 4 := by omega
                have hkt : k < ts.length := by rw [hts]; exact hlt
                obtain ⟨x, hx⟩ : ∃ x, ts[k]? = some x := ⟨_, List.getElem?_eq_getElem hkt⟩
                have hxl : x.length ≤ 30000 := HTL.out x (List.mem_of_getElem? hx)
                have HCE : Hid (∀ W, rowC W g (ts.map fun t => Value.string (str t)).toArray 33 → W.cell? ⟨g, k, none⟩ = some (.string (str x))) := Lib.hid fun W h => by
                  rw [rowC_cell h k]; simp [hx]
                have k1 := HCE.out _ hR.out.1
                have CR := fun W => read_any x (by omega) W
                have CD := fun W => readD_any x (by omega) W
                have H200 := Lib.hid (readR_200 x.length x none [] (Nat.le_refl _) (by decide))
                have CM := fun (a b : Option Addr) (c d : Nat) (W : World) (h1 : EntsAt W a (readR x none []).2) (h2 : EntsAt W b (readR x none []).2) => by
                  have h := same_any (readR x none []).2 (readR x none []).2 a b c d W h1 h2 (by have := H200.out; unfold maxLen; omega)
                  rw [show decide ((readR x none []).2 = (readR x none []).2) = true from decide_eq_true rfl] at h
                  exact h
                obtain ⟨E, hE⟩ : ∃ E, E = (readR x none []).1 := ⟨_, rfl⟩
                obtain ⟨O, hO⟩ : ∃ O, O = (readR x none []).2 := ⟨_, rfl⟩
                simp only [← hE, ← hO] at CR CD CM
                obtain ⟨M, hMl⟩ : ∃ M, M = O.length := ⟨_, rfl⟩
                simp only [← hMl] at CM
                have HML := Lib.hid hMl
                clear hE hO H200 hx hkt hxl hMl
                generalize str x = X at *
                go_upto_region 22 with (go_at_call 8; ((with_reducible refine (CR _).mono ?_); rintro e w5 ⟨v5, rfl, ho5, hb5⟩))
                obtain ⟨a5, c5, rfl⟩ := owns_form ho5
                have HO5 := Lib.hid ho5
                have HB5 := Lib.hid hb5
                have HR5 := Lib.hid (rowC_below hR.out.1 hb5 (rowC_lt hR.out.1))
                have k2 := HCE.out _ HR5.out
                clear ho5 hb5
                go_upto_region 23 with (go_at_call 9; ((with_reducible refine (CD _).mono ?_); rintro e w6 ⟨v6, rfl, ho6, hb6⟩))
                obtain ⟨a6, c6, rfl⟩ := owns_form ho6
                have HEa : Hid (EntsAt w6 a5 O) := Lib.hid (HO5.out.ents.far hb6 (Nat.le_refl _))
                have HEb := Lib.hid ho6.ents
                have HR6 := Lib.hid (rowC_below HR5.out hb6 (rowC_lt HR5.out))
                have HB6 := Lib.hid (hR.out.2.trans (HB5.out.mono hR.out.2.size))
                have HB7 := Lib.hid (HB6.out.trans (hb6.mono HB6.out.size))
                have HCM := Lib.hid (CM a5 a6 c5 c6 w6 HEa.out HEb.out)
                have qe : ((E : Int) != (E : Int)) = false := by simp
                clear ho6 hb6 CR CD CM HO5 HB5 HR5 HEa HEb HB6
                rw [← HML.out]
                go_wp2_with (go_at_call 10; ((with_reducible refine HCM.out.mono ?_); rintro e w8 ⟨rfl, hb8⟩; have HR8 := Lib.hid (rowC_below HR6.out hb8 (rowC_lt HR6.out)); have HB8 := Lib.hid (HB7.out.trans (hb8.mono HB7.out.size)); clear hb8))
                go_roundw
                case rel => exact ⟨k + 1, by omega, by go_num, Lib.hid ⟨HR8.out, HB8.out⟩⟩
                case measure => simp [intOf]; omega
              · obtain rfl : k = 4 := by omega
                have HP := packed_any wr (HE0.out.below hR.out.2)
                go_wp2_with (go_at_call 5; ((with_reducible refine HP.mono ?_); rintro e w9 ⟨rfl, hb9⟩))
                go_ret
                exact ⟨rfl, hR.out.2.trans (hb9.mono hR.out.2.size)⟩
end Go.Proofs.YtmgpofdmoaafoaaGreatDoor
