/- Layer 6: the walk of SectorsSure. -/
import Derived.RegionTactic
import Derived.ChangeAlike
import Derived.Test.YtikeobmcnpncjaaSedP
namespace Go.Proofs.Ytikeobmcnpncjaa
open Go.RowKit

set_option maxRecDepth 100000 in
set_option maxHeartbeats 8000000 in
theorem sSure_any (I : Impl) {v vk : Value} {l : List (UInt8 × UInt8)} {ks : List Bool} {w : World} (h : PairsAt w v l) (hk : KeepAt w vk ks) :
    Calls Try.prog 5 #[v, vk] w fun e w' => e = .returned (.bool true) ∧ Below w.heap.size w w' := by
  obtain ⟨a, cap, rfl⟩ := pairs_form h
  obtain ⟨aK, capK, rfl⟩ := keep_form hk
  have CU := Lib.hid (fun w' => spun_any I w')
  by_cases hg : 60 < l.length ∨ 60 < ks.length
  · rcases (show 60 < l.length ∨ (l.length ≤ 60 ∧ 60 < ks.length) by omega) with h1 | ⟨h1, h2⟩
    · have d1 : decide ((60 : Int) < (l.length : Int)) = true := decide_eq_true (by omega)
      clear hg h hk h1
      go_enter Try.func5, Try.ntmps5
      go_wp2_with (go_at_call 8; ((with_reducible refine (CU.out _).mono ?_); rintro e w9 ⟨rfl, b9⟩))
      go_ret
      exact ⟨rfl, b9⟩
    · have d1 : decide ((60 : Int) < (l.length : Int)) = false := decide_eq_false (by omega)
      have d2 : decide ((60 : Int) < (ks.length : Int)) = true := decide_eq_true (by omega)
      clear hg h hk h1 h2
      go_enter Try.func5, Try.ntmps5
      go_wp2_with (go_at_call 8; ((with_reducible refine (CU.out _).mono ?_); rintro e w9 ⟨rfl, b9⟩))
      go_ret
      exact ⟨rfl, b9⟩
  · have hz : l.length ≤ 60 := by omega
    have hkl : ks.length ≤ 60 := by omega
    have d1 : decide ((60 : Int) < (l.length : Int)) = false := decide_eq_false (by omega)
    have d2 : decide ((60 : Int) < (ks.length : Int)) = false := decide_eq_false (by omega)
    have HZ := Lib.hid h
    have HK := Lib.hid hk
    have CN := Lib.hid (fun w' => I.new 8 w' (by decide) (by decide))
    replace CN : Hid (∀ w', Calls Try.prog 9 #[.int .i64 8] w' fun e w'' => ∃ q o, e = .returned (.tuple #[.pointer (some ⟨q, 0, none⟩), .int .i64 0]) ∧ I.Inv w'' q (rdNew 8) o ∧ Below w'.heap.size w' w'' ∧ ∀ k, o k → w'.heap.size ≤ k) := CN
    obtain ⟨N, hN⟩ : ∃ N, N = l.length := ⟨_, rfl⟩
    rw [← hN] at HZ d1 hz ⊢
    have HN := Lib.hid hN
    clear hg h hk hN
    go_enter Try.func5, Try.ntmps5
    go_wp2_with (first
      | (go_at_call 9; ((with_reducible refine (CN.out _).mono ?_); rintro e w1 ⟨q, o1, rfl, i1, b1, k1⟩); have HA1 := Lib.hid (show I.Inv w1 q (rdNew 8) o1 ∧ Below w.heap.size w w1 ∧ ∀ k, o1 k → w.heap.size ≤ k from ⟨i1, b1, k1⟩); clear i1 b1 k1)
      | (refine wpList_allocB rfl rfl (w1.heap.size + 1 + 1) (by rw [size_alloc, size_alloc]) ?_))
    have HS0 := Lib.hid (show SureAt I w (((w1.alloc (.cells (cells8 zero8) 49)).alloc (.cells (cells8 zero8) 49)).alloc (.cells (cellsB none488) 51)) q w1.heap.size (w1.heap.size + 1) (w1.heap.size + 1 + 1) 0 from ⟨_, _, _, _, 0, Nat.zero_le _, sure_new, s_new HA1.out.1 HA1.out.2.1 HA1.out.2.2⟩)
    clear HA1 CN
    revert HS0
    generalize w1.heap.size + 1 + 1 = b9
    generalize w1.heap.size + 1 = b8
    generalize w1.heap.size = b7
    intro HS0
    go_loopw [10] (fun i wr => ∃ k : Nat, k ≤ N ∧ i = .int .i64 k ∧ Hid (SureAt I w wr q b7 b8 b9 k)) (fun i _ => N - (intOf i).toNat)
    case atStart => exact ⟨0, Nat.zero_le _, rfl, HS0⟩
    case round =>
      clear HS0
      obtain ⟨k, hkN, rfl, hF⟩ := hrel
      obtain ⟨d, S, L, X, K, hK, hD, T⟩ := hF.out
      have HT := Lib.hid T
      have HD := Lib.hid hD
      clear T hF hD
      by_cases hlt : k < N
      · obtain ⟨adr, x, y, rfl, hx, hy, hcell⟩ := pairs_at HZ.out (k := k) (by rw [← HN.out]; exact hlt)
        have HCL := Lib.hid hcell
        obtain ⟨c0, c1⟩ := hcell _ HT.out.b
        have g1 : (k : Int) < (N : Int) := by omega
        have g0 : (0 : Int) ≤ (k : Int) := by omega
        clear hcell
        obtain ⟨n, hn8⟩ : ∃ n, n = x % 8 := ⟨_, rfl⟩
        have em : (x : Int) % 8 = (n : Int) := by omega
        have et : (x : Int).tmod 8 = (n : Int) := by rw [Int.tmod_eq_emod_of_nonneg (by omega)]; exact em
        have hn7 : n < 8 := by omega
        have ex : IntKind.i64.wrap (x : Int) = (x : Int) := IntWalk.i64_in _ (by omega)
        have ew : ((k : Int) + 1) % 256 = (k : Int) + 1 := by omega
        have ew2 : IntKind.u8.wrap ((k : Int) + 1) = (k : Int) + 1 := by rw [IntKind.wrap_u8]; exact ew
        clear hn8
        obtain ⟨s, hs⟩ : ∃ s, s = secB (UInt8.ofNat (k + 1)) := ⟨_, rfl⟩
        have hss : s.size = 512 := by rw [hs]; exact secB_size _
        obtain ⟨d1, hd1⟩ : ∃ d1, d1 = d.wrote n s := ⟨_, rfl⟩
        obtain ⟨L1, hL1⟩ : ∃ L1, L1 = L.set n (UInt8.ofNat (k + 1)) := ⟨_, rfl⟩
        obtain ⟨X1, hX1⟩ : ∃ X1, X1 = X.set (n * 61 + (k + 1)) true := ⟨_, rfl⟩
        have HD1 := Lib.hid (show SureD d1 S L1 X1 (K + 1) by rw [hd1, hL1, hX1, hs]; exact HD.out.write (by omega) hn7)
        have CS := Lib.hid (fun (w' : World) (t : SureM I w w' q b7 b8 b9 d S L X) => s_sector t (UInt8.ofNat (k + 1)))
        rw [byteV_num (by omega), ← hs, Int.natCast_add, show ((1 : Nat) : Int) = 1 from rfl] at CS
        have CW := Lib.hid (fun (w' : World) (t : SureM I w w' q b7 b8 b9 d S L X) => s_write t HD.out (by omega) hn7 hss)
        rw [← hd1] at CW
        have HST := Lib.hid (fun (w' : World) (t : SureM I w w' q b7 b8 b9 d1 S L X) => show SureM I w ((w'.setCell ⟨b9, n * 61 + (k + 1), none⟩ (.bool true)).setCell ⟨b8, n, none⟩ (.int .u8 ((k : Int) + 1))) q b7 b8 b9 d1 S L1 X1 by
          rw [hL1, hX1, show (Value.int .u8 ((k : Int) + 1)) = byteV (UInt8.ofNat (k + 1)) from (byteV_num (show k + 1 < 256 by omega)).symm]; exact (t.set9 _ _).set8 _ _)
        clear hs hd1 hL1 hX1
        by_cases hy0 : y % 4 = 0
        · have emy : (y : Int) % 4 = 0 := by omega
          have ety : (y : Int).tmod 4 = 0 := by rw [Int.tmod_eq_emod_of_nonneg (by omega)]; exact emy
          have HD2 := Lib.hid HD1.out.flush
          obtain ⟨Z, z, ct1, ct2, ct3⟩ := s_tail (I := I) (W := w) (q := q) (b7 := b7) (b8 := b8) (b9 := b9) HD2.out (by omega) hn7
          have CR := Lib.hid ct1
          have CZ := Lib.hid ct2
          have CL := Lib.hid ct3
          have CF := Lib.hid (fun (w' : World) (t : SureM I w w' q b7 b8 b9 d1 S L1 X1) => s_flush t HD1.out (by omega))
          have CO := Lib.hid (fun (w' : World) (t : SureM I w w' q b7 b8 b9 d1.flushed S L1 X1) => s_loose (n := 0) t HD2.out.ok rfl)
          replace CO : Hid (∀ w', SureM I w w' q b7 b8 b9 d1.flushed S L1 X1 → Calls Try.prog 20 #[.pointer (some ⟨q, 0, none⟩)] w' fun e w'' => e = .returned (.int .i64 0) ∧ SureM I w w'' q b7 b8 b9 d1.flushed S L1 X1) := CO
          have I8 := Lib.hid (info_8 HD1.out.lL)
          have IB := Lib.hid (info_B none488_length)
          have Z7 := Lib.hid (show (cells8 S).size = (cells8 L1).size by rw [cells8_size, cells8_size, HD1.out.lS, HD1.out.lL])
          have Z9 := Lib.hid (show (cellsB X1).size = (cellsB none488).size by rw [cellsB_size, cellsB_size, HD1.out.lX, none488_length])
          clear ct1 ct2 ct3 hy0
          go_wp2_with (first
            | (go_at_call 23; ((with_reducible refine (CS.out _ HT.out).mono ?_); rintro e w2 ⟨rfl, t2⟩); have HT2 := Lib.hid t2; clear t2)
            | (go_at_call 14; ((with_reducible refine (CW.out _ HT2.out).mono ?_); rintro e w3 ⟨rfl, t3⟩)
               have m9 := t3.cell9 HD.out.lX (show n * 61 + (k + 1) < 488 by omega)
               have f9 : w3.frozen? ⟨b9, n * 61 + (k + 1), none⟩ = false := rowC_free t3.r9 _
               have m8 := (t3.set9 (n * 61 + (k + 1)) true).cell8 HD.out.lL hn7
               have f8 : (w3.setCell ⟨b9, n * 61 + (k + 1), none⟩ (.bool true)).frozen? ⟨b8, n, none⟩ = false := rowC_free (t3.set9 (n * 61 + (k + 1)) true).r8 _
               have HS3 := Lib.hid (HST.out _ t3)
               have cy := (HCL.out _ HS3.out.b).2
               clear t3 c0 c1)
            | (go_at_call 15; ((with_reducible refine (CF.out _ HS3.out).mono ?_); rintro e w4 ⟨rfl, t4⟩); have HT4 := Lib.hid t4; clear t4 cy)
            | (go_at_call 20; ((with_reducible refine (CO.out _ HT4.out).mono ?_); rintro e w5 ⟨rfl, t5⟩); have HT5 := Lib.hid t5; clear t5)
            | ((with_reducible show wpList _ _ _ (⟨some 79, _, _, _, _, _⟩ :: _) _ _); refine wpList_load_rowG (by kernel_rfl) 49 _ rfl b8 rfl 49 (cells8 L1) _ HT5.out.r8 Try.underlying49 rfl I8.out ?_)
            | ((with_reducible show wpList _ _ _ (⟨some 80, _, _, _, _, _⟩ :: _) _ _); refine wpList_build_asG (by kernel_rfl) 51 _ rfl (cellsB none488) (by kernel_rfl) ?_)
            | (refine wpList_store_row rfl 49 _ _ rfl b7 (cells8 L1) rfl rfl 49 (cells8 S) HT5.out.r7 I8.out Z7.out (cells8_one _) ?_)
            | (refine wpList_store_row rfl 51 _ _ rfl b9 (cellsB none488) rfl rfl 51 (cellsB X1) (HT5.out.row7 L1).r9 IB.out Z9.out (cellsB_one _) ?_)
            | (go_at_call 13; ((with_reducible refine (CR.out _ ((HT5.out.row7 L1).row9 none488)).mono ?_); rintro e w6 ⟨rfl, t6⟩); have HT6 := Lib.hid t6; have c8 := CL.out _ t6; clear t6)
            | (go_at_call 23; ((with_reducible refine (CZ.out _ HT6.out).mono ?_); rintro e w7 ⟨rfl, t7⟩); have HT7 := Lib.hid t7; clear t7))
          go_roundw
          case rel => exact ⟨k + 1, by omega, by go_num, Lib.hid ⟨_, _, _, _, _, by omega, HD2.out, HT7.out⟩⟩
          case measure => simp [intOf]; omega
        · by_cases hy1 : y % 4 = 1
          · have emy : (y : Int) % 4 = 1 := by omega
            have ety : (y : Int).tmod 4 = 1 := by rw [Int.tmod_eq_emod_of_nonneg (by omega)]; exact emy
            obtain ⟨C, hCl, hC, hD2⟩ := HD1.out.crash ks
            have HD2 := Lib.hid hD2
            have HC := Lib.hid hC
            have HK9 := HK.out
            have CC := Lib.hid (fun (w' : World) (t : SureM I w w' q b7 b8 b9 d1 S L1 X1) => s_crash t HD1.out (by omega) HK9 (by omega))
            have CT := Lib.hid (fun (w' : World) (t : SureM I w w' q b7 b8 b9 (d1.fall ks) S L1 X1) => s_start t HD1.out (by omega))
            have CO := Lib.hid (fun (w' : World) (t : SureM I w w' q b7 b8 b9 (d1.fall ks).again S L1 X1) => s_loose (n := 0) t HD2.out.ok (by simp [RD.again, RD.fall]))
            replace CO : Hid (∀ w', SureM I w w' q b7 b8 b9 (d1.fall ks).again S L1 X1 → Calls Try.prog 20 #[.pointer (some ⟨q, 0, none⟩)] w' fun e w'' => e = .returned (.int .i64 0) ∧ SureM I w w'' q b7 b8 b9 (d1.fall ks).again S L1 X1) := CO
            obtain ⟨d2, hd2⟩ : ∃ d2, d2 = (d1.fall ks).again := ⟨_, rfl⟩
            rw [← hd2] at HD2 CT CO
            clear hC hD2 hy0 hy1 hd2 HK9
            go_wp2_with (first
              | (go_at_call 23; ((with_reducible refine (CS.out _ HT.out).mono ?_); rintro e w2 ⟨rfl, t2⟩); have HT2 := Lib.hid t2; clear t2)
              | (go_at_call 14; ((with_reducible refine (CW.out _ HT2.out).mono ?_); rintro e w3 ⟨rfl, t3⟩)
                 have m9 := t3.cell9 HD.out.lX (show n * 61 + (k + 1) < 488 by omega)
                 have f9 : w3.frozen? ⟨b9, n * 61 + (k + 1), none⟩ = false := rowC_free t3.r9 _
                 have m8 := (t3.set9 (n * 61 + (k + 1)) true).cell8 HD.out.lL hn7
                 have f8 : (w3.setCell ⟨b9, n * 61 + (k + 1), none⟩ (.bool true)).frozen? ⟨b8, n, none⟩ = false := rowC_free (t3.set9 (n * 61 + (k + 1)) true).r8 _
                 have HS3 := Lib.hid (HST.out _ t3)
                 have cy := (HCL.out _ HS3.out.b).2
                 clear t3 c0 c1)
              | (go_at_call 16; ((with_reducible refine (CC.out _ HS3.out).mono ?_); rintro e w4 ⟨rfl, t4⟩); have HT4 := Lib.hid t4; clear t4 cy)
              | (go_at_call 17; ((with_reducible refine (CT.out _ HT4.out).mono ?_); rintro e w5 ⟨rfl, t5⟩); have HT5 := Lib.hid t5; clear t5)
              | (go_at_call 20; ((with_reducible refine (CO.out _ HT5.out).mono ?_); rintro e w6 ⟨rfl, t6⟩); have HT6 := Lib.hid t6; clear t6))
            have HS1 := Lib.hid (show SureM I w w6 q b7 b8 b9 d2 (mix C S 0) (mix C L1 0) X1 by rw [mix_zero, mix_zero]; exact HT6.out)
            clear HT HT2 HS3 HT4 HT5 HT6 CC CT CO CS CW HST
            go_loopw [12] (fun i wr => ∃ j : Nat, j ≤ 8 ∧ i = .int .i64 j ∧ Hid (SureM I w wr q b7 b8 b9 d2 (mix C S j) (mix C L1 j) X1)) (fun i _ => 8 - (intOf i).toNat)
            case atStart => exact ⟨0, Nat.zero_le _, rfl, HS1⟩
            case round =>
              clear HS1
              obtain ⟨j, hj, rfl, HJ⟩ := hrel
              by_cases hj8 : j < 8
              · have g8 : (j : Int) < 8 := by omega
                obtain ⟨Z, z, hz256, hCz, hzC, hZ, hix, cr, cs⟩ := s_inner (I := I) (W := w) (q := q) (b7 := b7) (b8 := b8) (b9 := b9) HD2.out (by omega) hj8 (mix C S j) (mix C L1 j) X1
                have CR := Lib.hid cr
                have CI := Lib.hid cs
                have lS := mix_length hCl HD1.out.lS (Nat.le_of_lt hj8)
                have lL := mix_length hCl HD1.out.lL (Nat.le_of_lt hj8)
                have hS1 := mix_set hCl HD1.out.lS hj8
                have hL1 := mix_set hCl HD1.out.lL hj8
                have hgS := mix_get (S := S) hCl hj8
                rw [hCz] at hS1 hL1
                obtain ⟨S1, hSS1⟩ : ∃ S1, S1 = mix C S j := ⟨_, rfl⟩
                obtain ⟨M1, hML1⟩ : ∃ M1, M1 = mix C L1 j := ⟨_, rfl⟩
                rw [← hSS1] at HJ CR CI lS hS1 hgS
                rw [← hML1] at HJ CR CI lL hL1
                have HX : S1.getD j 0 = UInt8.ofNat z ∨ (z ≤ 60 ∧ X1.getD (j * 61 + z) false = true) := by
                  rw [hgS, ← hCz, hzC]
                  rcases HC.out j hj8 with h | h
                  · exact .inl h.symm
                  · exact .inr h
                have HNX := Lib.hid (fun (w' : World) (t : SureM I w w' q b7 b8 b9 d2 S1 M1 X1) => show SureM I w ((w'.setCell ⟨b7, j, none⟩ (.int .u8 (z : Int))).setCell ⟨b8, j, none⟩ (.int .u8 (z : Int))) q b7 b8 b9 d2 (mix C S (j + 1)) (mix C L1 (j + 1)) X1 by
                  rw [← hS1, ← hL1, show (Value.int .u8 (z : Int)) = byteV (UInt8.ofNat z) from (byteV_num hz256).symm]; exact (t.set7 _ _).set8 _ _)
                obtain ⟨sv, hsv⟩ : ∃ sv, sv = (S1.getD j 0).toNat := ⟨_, rfl⟩
                have hC7 := fun (w' : World) (t : SureM I w w' q b7 b8 b9 d2 S1 M1 X1) => t.cell7 lS hj8
                rw [← hsv] at hC7
                have C7 := Lib.hid hC7
                have C8 := Lib.hid (fun (w' : World) (t : SureM I w w' q b7 b8 b9 d2 S1 M1 X1) => t.cell8 lL hj8)
                have hzi : (z : Int) < 256 := by omega
                have HXN : sv = z ∨ (z ≠ sv ∧ z ≤ 60 ∧ ∀ w', SureM I w w' q b7 b8 b9 d2 S1 M1 X1 → w'.cell? ⟨b9, j * 61 + z, none⟩ = some (.bool true)) := by
                  by_cases he : sv = z
                  · exact .inl he
                  · rcases HX with h | ⟨h1, h2⟩
                    · exact absurd (by rw [hsv, h, UInt8.toNat_ofNat_of_lt' hz256]) he
                    · exact .inr ⟨fun e => he e.symm, h1, fun w' t => by rw [t.cell9 HD1.out.lX (by omega), h2]⟩
                obtain ⟨SS, hSS⟩ : ∃ SS : World → Prop, SS = fun w' => SureM I w w' q b7 b8 b9 d2 S1 M1 X1 := ⟨_, rfl⟩
                have SO : ∀ w', SureM I w w' q b7 b8 b9 d2 S1 M1 X1 → SS w' := fun w' m => by rw [hSS]; exact m
                have OS7 : ∀ w', SS w' → SureM I w w' q b7 b8 b9 d2 S1 M1 X1 := fun w' h => by rw [hSS] at h; exact h
                clear hSS cr cs hCz hzC lS lL hS1 hL1 hgS HX hsv hC7
                rcases HXN with rfl | ⟨hne, hz60, hX9⟩
                · have OS : ∀ w', SS w' → w'.cell? ⟨b7, j, none⟩ = some (.int .u8 (sv : Int)) := fun w' h => C7.out w' (OS7 w' h)
                  clear OS7
                  go_wp2_with (go_at_call 13; ((with_reducible refine (CR.out _ HJ.out).mono ?_); rintro e w10 ⟨rfl, t10⟩); have md := t10.below (Below.refl _ w10).drew; clear t10)
                  refine wp_region_noPanic ?_
                  refine wp_region_held_drew (S := SS) (by kernel_rfl) (SO _ md) (fun hHeld => ?_)
                  refine wpAnyH_take (i := 0) (oi := { dst := some 107, op := Op.move (Operand.tmp 14), type := 26, pos := "outright.go:39", after := #[], guard := none }) (v := ?_) rfl (by kernel_rfl) (by kernel_rfl) (by kernel_rfl) (fun _ _ _ h => h) (Or.inl ⟨by rfl, ?_⟩) (by assumption) ?_
                  rotate_left
                  · intro w hSw
                    skip
                    clear hSw
                    go_simp
                    try with_reducible rfl
                  try simp only [Act.put, List.setIfInBounds_toArray, List.set_cons_zero, List.set_cons_succ]
                  refine wpAnyH_take (i := 1) (oi := { dst := some 108, op := Op.binOp BinOp.neq 26 (Operand.tmp 107) (Operand.const (Value.int IntKind.i64 0)) 26, type := 4, pos := "outright.go:39", after := #[{ on := 0, ground := Ground.data }], guard := none }) (v := ?_) rfl (by kernel_rfl) (by kernel_rfl) (by kernel_rfl) (fun _ _ _ h => h) (Or.inl ⟨by rfl, ?_⟩) (by assumption) ?_
                  rotate_left
                  · intro w hSw
                    skip
                    clear hSw
                    go_simp
                    try with_reducible rfl
                  try simp only [Act.put, List.setIfInBounds_toArray, List.set_cons_zero, List.set_cons_succ]
                  refine wpAnyH_take (i := 2) (oi := { dst := some 109, op := Op.move (Operand.tmp 108), type := 4, pos := "outright.go:39", after := #[{ on := 1, ground := Ground.data }], guard := none }) (v := ?_) rfl (by kernel_rfl) (by kernel_rfl) (by kernel_rfl) (fun _ _ _ h => h) (Or.inl ⟨by rfl, ?_⟩) (by assumption) ?_
                  rotate_left
                  · intro w hSw
                    skip
                    clear hSw
                    go_simp
                    try with_reducible rfl
                  try simp only [Act.put, List.setIfInBounds_toArray, List.set_cons_zero, List.set_cons_succ]
                  refine wpAnyH_take (i := 3) (oi := { dst := some 110, op := Op.move (Operand.tmp 13), type := 9, pos := "outright.go:39", after := #[{ on := 2, ground := Ground.guard }], guard := some (2, false) }) (v := ?_) rfl (by kernel_rfl) (by kernel_rfl) (by kernel_rfl) (fun _ _ _ h => h) (Or.inl ⟨by rfl, ?_⟩) (by assumption) ?_
                  rotate_left
                  · intro w hSw
                    skip
                    clear hSw
                    go_simp
                    try with_reducible rfl
                  try simp only [Act.put, List.setIfInBounds_toArray, List.set_cons_zero, List.set_cons_succ]
                  refine wpAnyH_take (i := 4) (oi := { dst := some 111, op := Op.call { callee := Callee.builtin Builtin.len, args := #[Operand.tmp 110], argTypes := #[9] }, type := 3, pos := "outright.go:39", after := #[{ on := 3, ground := Ground.data }, { on := 2, ground := Ground.guard }], guard := some (2, false) }) (v := ?_) rfl (by kernel_rfl) (by kernel_rfl) (by kernel_rfl) (fun _ _ _ h => h) (Or.inl ⟨by rfl, ?_⟩) (by assumption) ?_
                  rotate_left
                  · intro w hSw
                    skip
                    clear hSw
                    go_simp
                    try with_reducible rfl
                  try simp only [Act.put, List.setIfInBounds_toArray, List.set_cons_zero, List.set_cons_succ]
                  refine wpAnyH_take (i := 5) (oi := { dst := some 112, op := Op.binOp BinOp.neq 3 (Operand.tmp 111) (Operand.const (Value.int IntKind.i64 512)) 3, type := 4, pos := "outright.go:39", after := #[{ on := 4, ground := Ground.data }, { on := 2, ground := Ground.guard }], guard := some (2, false) }) (v := ?_) rfl (by kernel_rfl) (by kernel_rfl) (by kernel_rfl) (fun _ _ _ h => h) (Or.inl ⟨by rfl, ?_⟩) (by assumption) ?_
                  rotate_left
                  · intro w hSw
                    skip
                    clear hSw
                    go_simp
                    try with_reducible rfl
                  try simp only [Act.put, List.setIfInBounds_toArray, List.set_cons_zero, List.set_cons_succ]
                  refine wpAnyH_take (i := 6) (oi := { dst := some 113, op := Op.pick (Operand.tmp 109) (Operand.const (Value.bool true)) (Operand.tmp 112), type := 4, pos := "outright.go:39", after := #[{ on := 2, ground := Ground.data }, { on := 5, ground := Ground.data }], guard := none }) (v := ?_) rfl (by kernel_rfl) (by kernel_rfl) (by kernel_rfl) (fun _ _ _ h => h) (Or.inl ⟨by rfl, ?_⟩) (by assumption) ?_
                  rotate_left
                  · intro w hSw
                    skip
                    clear hSw
                    go_simp
                    try with_reducible rfl
                  try simp only [Act.put, List.setIfInBounds_toArray, List.set_cons_zero, List.set_cons_succ]
                  refine wpAnyH_take (i := 7) (oi := { dst := some 114, op := Op.move (Operand.tmp 113), type := 4, pos := "outright.go:39", after := #[{ on := 6, ground := Ground.data }, { on := 2, ground := Ground.chain }], guard := none }) (v := ?_) rfl (by kernel_rfl) (by kernel_rfl) (by kernel_rfl) (fun _ _ _ h => h) (Or.inl ⟨by rfl, ?_⟩) (by assumption) ?_
                  rotate_left
                  · intro w hSw
                    skip
                    clear hSw
                    go_simp
                    try with_reducible rfl
                  try simp only [Act.put, List.setIfInBounds_toArray, List.set_cons_zero, List.set_cons_succ]
                  refine wpAnyH_take (i := 8) (oi := { dst := some 115, op := Op.move (Operand.tmp 13), type := 9, pos := "outright.go:39", after := #[{ on := 7, ground := Ground.guard }], guard := some (7, false) }) (v := ?_) rfl (by kernel_rfl) (by kernel_rfl) (by kernel_rfl) (fun _ _ _ h => h) (Or.inl ⟨by rfl, ?_⟩) (by assumption) ?_
                  rotate_left
                  · intro w hSw
                    skip
                    clear hSw
                    go_simp
                    try with_reducible rfl
                  try simp only [Act.put, List.setIfInBounds_toArray, List.set_cons_zero, List.set_cons_succ]
                  refine wpAnyH_take (i := 9) (oi := { dst := some 116, op := Op.move (Operand.tmp 13), type := 9, pos := "outright.go:39", after := #[{ on := 7, ground := Ground.guard }], guard := some (7, false) }) (v := ?_) rfl (by kernel_rfl) (by kernel_rfl) (by kernel_rfl) (fun _ _ _ h => h) (Or.inl ⟨by rfl, ?_⟩) (by assumption) ?_
                  rotate_left
                  · intro w hSw
                    skip
                    clear hSw
                    go_simp
                    try with_reducible rfl
                  try simp only [Act.put, List.setIfInBounds_toArray, List.set_cons_zero, List.set_cons_succ]
                  refine wpAnyH_take (i := 10) (oi := { dst := some 117, op := Op.index 9 (Operand.tmp 116) (Operand.const (Value.int IntKind.i64 0)), type := 5, pos := "outright.go:39", after := #[{ on := 9, ground := Ground.data }, { on := 7, ground := Ground.guard }], guard := some (7, false) }) (v := ?_) rfl (by kernel_rfl) (by kernel_rfl) (by kernel_rfl) (fun _ _ _ h => h) (Or.inl ⟨by rfl, ?_⟩) (by assumption) ?_
                  rotate_left
                  · intro w hSw
                    skip
                    clear hSw
                    go_simp
                    try with_reducible rfl
                  try simp only [Act.put, List.setIfInBounds_toArray, List.set_cons_zero, List.set_cons_succ]
                  refine wpAnyH_ready (rs := [11]) (by kernel_rfl) (by simp) ?_
                  refine (AllReadyH.cons (o := { dst := some 118, op := Op.call { callee := Callee.value (Operand.func 23), args := #[Operand.tmp 117], argTypes := #[5] }, type := 9, pos := "outright.go:39", after := #[{ on := 10, ground := Ground.data }, { on := 7, ground := Ground.chain }, { on := 7, ground := Ground.guard }], guard := some (7, false) }) rfl (fun K hK => ?_) AllReadyH.nil)
                  go_simp
                  refine (CI.out _ (by assumption)).mono ?_
                  rintro e w11' ⟨rfl, m11'⟩
                  refine hK.out _ _ (SO _ (by assumption)) (fun hHeld => ?_)
                  clear hK K
                  try simp only [Act.put, List.setIfInBounds_toArray, List.set_cons_zero, List.set_cons_succ]
                  refine wpAnyH_take (i := 12) (oi := { dst := some 119, op := Op.binOp BinOp.neq 9 (Operand.tmp 115) (Operand.tmp 118) 9, type := 4, pos := "outright.go:39", after := #[{ on := 8, ground := Ground.data }, { on := 11, ground := Ground.data }, { on := 7, ground := Ground.guard }], guard := some (7, false) }) (v := ?_) rfl (by kernel_rfl) (by kernel_rfl) (by kernel_rfl) (fun _ _ _ h => h) (Or.inl ⟨by rfl, ?_⟩) (by assumption) ?_
                  rotate_left
                  · intro w hSw
                    skip
                    clear hSw
                    go_simp
                    try with_reducible rfl
                  try simp only [Act.put, List.setIfInBounds_toArray, List.set_cons_zero, List.set_cons_succ]
                  refine wpAnyH_take (i := 13) (oi := { dst := some 120, op := Op.pick (Operand.tmp 114) (Operand.const (Value.bool true)) (Operand.tmp 119), type := 4, pos := "outright.go:39", after := #[{ on := 7, ground := Ground.data }, { on := 12, ground := Ground.data }], guard := none }) (v := ?_) rfl (by kernel_rfl) (by kernel_rfl) (by kernel_rfl) (fun _ _ _ h => h) (Or.inl ⟨by rfl, ?_⟩) (by assumption) ?_
                  rotate_left
                  · intro w hSw
                    skip
                    clear hSw
                    go_simp
                    try with_reducible rfl
                  try simp only [Act.put, List.setIfInBounds_toArray, List.set_cons_zero, List.set_cons_succ]
                  refine wpAnyH_take (i := 14) (oi := { dst := some 121, op := Op.move (Operand.tmp 120), type := 4, pos := "outright.go:39", after := #[{ on := 13, ground := Ground.data }, { on := 11, ground := Ground.chain }], guard := none }) (v := ?_) rfl (by kernel_rfl) (by kernel_rfl) (by kernel_rfl) (fun _ _ _ h => h) (Or.inl ⟨by rfl, ?_⟩) (by assumption) ?_
                  rotate_left
                  · intro w hSw
                    skip
                    clear hSw
                    go_simp
                    try with_reducible rfl
                  try simp only [Act.put, List.setIfInBounds_toArray, List.set_cons_zero, List.set_cons_succ]
                  refine wpAnyH_take (i := 15) (oi := { dst := some 122, op := Op.move (Operand.tmp 13), type := 9, pos := "outright.go:39", after := #[{ on := 14, ground := Ground.guard }], guard := some (14, false) }) (v := ?_) rfl (by kernel_rfl) (by kernel_rfl) (by kernel_rfl) (fun _ _ _ h => h) (Or.inl ⟨by rfl, ?_⟩) (by assumption) ?_
                  rotate_left
                  · intro w hSw
                    skip
                    clear hSw
                    go_simp
                    try with_reducible rfl
                  try simp only [Act.put, List.setIfInBounds_toArray, List.set_cons_zero, List.set_cons_succ]
                  refine wpAnyH_take (i := 16) (oi := { dst := some 123, op := Op.index 9 (Operand.tmp 122) (Operand.const (Value.int IntKind.i64 0)), type := 5, pos := "outright.go:39", after := #[{ on := 15, ground := Ground.data }, { on := 14, ground := Ground.guard }], guard := some (14, false) }) (v := ?_) rfl (by kernel_rfl) (by kernel_rfl) (by kernel_rfl) (fun _ _ _ h => h) (Or.inl ⟨by rfl, ?_⟩) (by assumption) ?_
                  rotate_left
                  · intro w hSw
                    skip
                    clear hSw
                    go_simp
                    try with_reducible rfl
                  try simp only [Act.put, List.setIfInBounds_toArray, List.set_cons_zero, List.set_cons_succ]
                  refine wpAnyH_take (i := 17) (oi := { dst := some 124, op := Op.move (Operand.tmp 12), type := 3, pos := "outright.go:39", after := #[{ on := 14, ground := Ground.guard }], guard := some (14, false) }) (v := ?_) rfl (by kernel_rfl) (by kernel_rfl) (by kernel_rfl) (fun _ _ _ h => h) (Or.inl ⟨by rfl, ?_⟩) (by assumption) ?_
                  rotate_left
                  · intro w hSw
                    skip
                    clear hSw
                    go_simp
                    try with_reducible rfl
                  try simp only [Act.put, List.setIfInBounds_toArray, List.set_cons_zero, List.set_cons_succ]
                  refine wpAnyH_take (i := 18) (oi := { dst := some 125, op := Op.indexAddr 49 (Operand.tmp 7) (Operand.tmp 124), type := 0, pos := "outright.go:39", after := #[{ on := 17, ground := Ground.data }, { on := 14, ground := Ground.guard }], guard := some (14, false) }) (v := ?_) rfl (by kernel_rfl) (by kernel_rfl) (by kernel_rfl) (fun _ _ _ h => h) (Or.inl ⟨by rfl, ?_⟩) (by assumption) ?_
                  rotate_left
                  · intro w hSw
                    skip
                    clear hSw
                    go_simp
                    try with_reducible rfl
                  try simp only [Act.put, List.setIfInBounds_toArray, List.set_cons_zero, List.set_cons_succ]
                  refine wpAnyH_take (i := 19) (oi := { dst := some 126, op := Op.load 5 (Operand.tmp 125), type := 5, pos := "outright.go:39", after := #[{ on := 18, ground := Ground.data }, { on := 14, ground := Ground.guard }], guard := some (14, false) }) (v := ?_) rfl (by kernel_rfl) (by kernel_rfl) (by kernel_rfl) (fun _ _ _ h => h) (Or.inl ⟨by rfl, ?_⟩) (by assumption) ?_
                  rotate_left
                  · intro w hSw
                    have hSw := OS _ hSw
                    go_simp
                    try with_reducible rfl
                  try simp only [Act.put, List.setIfInBounds_toArray, List.set_cons_zero, List.set_cons_succ]
                  refine wpAnyH_take (i := 20) (oi := { dst := some 127, op := Op.binOp BinOp.neq 5 (Operand.tmp 123) (Operand.tmp 126) 5, type := 4, pos := "outright.go:39", after := #[{ on := 16, ground := Ground.data }, { on := 19, ground := Ground.data }, { on := 14, ground := Ground.guard }], guard := some (14, false) }) (v := ?_) rfl (by kernel_rfl) (by kernel_rfl) (by kernel_rfl) (fun _ _ _ h => h) (Or.inl ⟨by rfl, ?_⟩) (by assumption) ?_
                  rotate_left
                  · intro w hSw
                    skip
                    clear hSw
                    go_simp
                    try with_reducible rfl
                  try simp only [Act.put, List.setIfInBounds_toArray, List.set_cons_zero, List.set_cons_succ]
                  refine wpAnyH_take (i := 21) (oi := { dst := some 128, op := Op.move (Operand.tmp 127), type := 4, pos := "outright.go:39", after := #[{ on := 20, ground := Ground.data }, { on := 14, ground := Ground.chain }, { on := 14, ground := Ground.guard }], guard := some (14, false) }) (v := ?_) rfl (by kernel_rfl) (by kernel_rfl) (by kernel_rfl) (fun _ _ _ h => h) (Or.inl ⟨by rfl, ?_⟩) (by assumption) ?_
                  rotate_left
                  · intro w hSw
                    skip
                    clear hSw
                    go_simp
                    try with_reducible rfl
                  try simp only [Act.put, List.setIfInBounds_toArray, List.set_cons_zero, List.set_cons_succ]
                  refine wpAnyH_take (i := 22) (oi := { dst := some 129, op := Op.move (Operand.tmp 13), type := 9, pos := "outright.go:39", after := #[{ on := 21, ground := Ground.guard }], guard := some (21, true) }) (v := undef) rfl (by kernel_rfl) (by kernel_rfl) (by kernel_rfl) (fun _ _ _ h => h) (Or.inr ⟨by rfl, rfl⟩) (by assumption) ?_
                  try simp only [Act.put, List.setIfInBounds_toArray, List.set_cons_zero, List.set_cons_succ]
                  refine wpAnyH_take (i := 23) (oi := { dst := some 130, op := Op.index 9 (Operand.tmp 129) (Operand.const (Value.int IntKind.i64 0)), type := 5, pos := "outright.go:39", after := #[{ on := 22, ground := Ground.data }, { on := 21, ground := Ground.guard }], guard := some (21, true) }) (v := undef) rfl (by kernel_rfl) (by kernel_rfl) (by kernel_rfl) (fun _ _ _ h => h) (Or.inr ⟨by rfl, rfl⟩) (by assumption) ?_
                  try simp only [Act.put, List.setIfInBounds_toArray, List.set_cons_zero, List.set_cons_succ]
                  refine wpAnyH_take (i := 24) (oi := { dst := some 131, op := Op.binOp BinOp.gtr 5 (Operand.tmp 130) (Operand.const (Value.int IntKind.u8 60)) 5, type := 4, pos := "outright.go:39", after := #[{ on := 23, ground := Ground.data }, { on := 21, ground := Ground.guard }], guard := some (21, true) }) (v := undef) rfl (by kernel_rfl) (by kernel_rfl) (by kernel_rfl) (fun _ _ _ h => h) (Or.inr ⟨by rfl, rfl⟩) (by assumption) ?_
                  try simp only [Act.put, List.setIfInBounds_toArray, List.set_cons_zero, List.set_cons_succ]
                  refine wpAnyH_take (i := 25) (oi := { dst := some 132, op := Op.move (Operand.tmp 131), type := 4, pos := "outright.go:39", after := #[{ on := 24, ground := Ground.data }, { on := 21, ground := Ground.chain }, { on := 21, ground := Ground.guard }], guard := some (21, true) }) (v := undef) rfl (by kernel_rfl) (by kernel_rfl) (by kernel_rfl) (fun _ _ _ h => h) (Or.inr ⟨by rfl, rfl⟩) (by assumption) ?_
                  try simp only [Act.put, List.setIfInBounds_toArray, List.set_cons_zero, List.set_cons_succ]
                  refine wpAnyH_take (i := 26) (oi := { dst := some 133, op := Op.move (Operand.tmp 12), type := 3, pos := "outright.go:39", after := #[{ on := 25, ground := Ground.guard }], guard := some (25, false) }) (v := undef) rfl (by kernel_rfl) (by kernel_rfl) (by kernel_rfl) (fun _ _ _ h => h) (Or.inr ⟨by rfl, rfl⟩) (by assumption) ?_
                  try simp only [Act.put, List.setIfInBounds_toArray, List.set_cons_zero, List.set_cons_succ]
                  refine wpAnyH_take (i := 27) (oi := { dst := some 134, op := Op.move (Operand.tmp 13), type := 9, pos := "outright.go:39", after := #[{ on := 25, ground := Ground.guard }], guard := some (25, false) }) (v := undef) rfl (by kernel_rfl) (by kernel_rfl) (by kernel_rfl) (fun _ _ _ h => h) (Or.inr ⟨by rfl, rfl⟩) (by assumption) ?_
                  try simp only [Act.put, List.setIfInBounds_toArray, List.set_cons_zero, List.set_cons_succ]
                  refine wpAnyH_take (i := 28) (oi := { dst := some 135, op := Op.index 9 (Operand.tmp 134) (Operand.const (Value.int IntKind.i64 0)), type := 5, pos := "outright.go:39", after := #[{ on := 27, ground := Ground.data }, { on := 25, ground := Ground.guard }], guard := some (25, false) }) (v := undef) rfl (by kernel_rfl) (by kernel_rfl) (by kernel_rfl) (fun _ _ _ h => h) (Or.inr ⟨by rfl, rfl⟩) (by assumption) ?_
                  try simp only [Act.put, List.setIfInBounds_toArray, List.set_cons_zero, List.set_cons_succ]
                  refine wpAnyH_take (i := 29) (oi := { dst := some 136, op := Op.indexAddr 51 (Operand.tmp 9) (Operand.tmp 133), type := 0, pos := "outright.go:39", after := #[{ on := 26, ground := Ground.data }, { on := 25, ground := Ground.guard }], guard := some (25, false) }) (v := undef) rfl (by kernel_rfl) (by kernel_rfl) (by kernel_rfl) (fun _ _ _ h => h) (Or.inr ⟨by rfl, rfl⟩) (by assumption) ?_
                  try simp only [Act.put, List.setIfInBounds_toArray, List.set_cons_zero, List.set_cons_succ]
                  refine wpAnyH_take (i := 30) (oi := { dst := some 137, op := Op.indexAddr 50 (Operand.tmp 136) (Operand.tmp 135), type := 0, pos := "outright.go:39", after := #[{ on := 29, ground := Ground.data }, { on := 28, ground := Ground.data }, { on := 25, ground := Ground.guard }], guard := some (25, false) }) (v := undef) rfl (by kernel_rfl) (by kernel_rfl) (by kernel_rfl) (fun _ _ _ h => h) (Or.inr ⟨by rfl, rfl⟩) (by assumption) ?_
                  try simp only [Act.put, List.setIfInBounds_toArray, List.set_cons_zero, List.set_cons_succ]
                  refine wpAnyH_take (i := 31) (oi := { dst := some 138, op := Op.load 4 (Operand.tmp 137), type := 4, pos := "outright.go:39", after := #[{ on := 30, ground := Ground.data }, { on := 25, ground := Ground.guard }], guard := some (25, false) }) (v := undef) rfl (by kernel_rfl) (by kernel_rfl) (by kernel_rfl) (fun _ _ _ h => h) (Or.inr ⟨by rfl, rfl⟩) (by assumption) ?_
                  try simp only [Act.put, List.setIfInBounds_toArray, List.set_cons_zero, List.set_cons_succ]
                  refine wpAnyH_take (i := 32) (oi := { dst := some 139, op := Op.unOp UnOp.not 4 (Operand.tmp 138), type := 4, pos := "outright.go:39", after := #[{ on := 31, ground := Ground.data }, { on := 25, ground := Ground.guard }], guard := some (25, false) }) (v := undef) rfl (by kernel_rfl) (by kernel_rfl) (by kernel_rfl) (fun _ _ _ h => h) (Or.inr ⟨by rfl, rfl⟩) (by assumption) ?_
                  try simp only [Act.put, List.setIfInBounds_toArray, List.set_cons_zero, List.set_cons_succ]
                  refine wpAnyH_take (i := 33) (oi := { dst := some 140, op := Op.pick (Operand.tmp 132) (Operand.const (Value.bool true)) (Operand.tmp 139), type := 4, pos := "outright.go:39", after := #[{ on := 25, ground := Ground.data }, { on := 32, ground := Ground.data }, { on := 21, ground := Ground.guard }], guard := some (21, true) }) (v := undef) rfl (by kernel_rfl) (by kernel_rfl) (by kernel_rfl) (fun _ _ _ h => h) (Or.inr ⟨by rfl, rfl⟩) (by assumption) ?_
                  try simp only [Act.put, List.setIfInBounds_toArray, List.set_cons_zero, List.set_cons_succ]
                  refine wpAnyH_take (i := 34) (oi := { dst := some 141, op := Op.pick (Operand.tmp 128) (Operand.tmp 140) (Operand.const (Value.bool false)), type := 4, pos := "outright.go:39", after := #[{ on := 21, ground := Ground.data }, { on := 33, ground := Ground.data }, { on := 14, ground := Ground.guard }], guard := some (14, false) }) (v := ?_) rfl (by kernel_rfl) (by kernel_rfl) (by kernel_rfl) (fun _ _ _ h => h) (Or.inl ⟨by rfl, ?_⟩) (by assumption) ?_
                  rotate_left
                  · intro w hSw
                    skip
                    clear hSw
                    go_simp
                    try with_reducible rfl
                  try simp only [Act.put, List.setIfInBounds_toArray, List.set_cons_zero, List.set_cons_succ]
                  refine wpAnyH_take (i := 35) (oi := { dst := some 142, op := Op.pick (Operand.tmp 121) (Operand.const (Value.bool true)) (Operand.tmp 141), type := 4, pos := "outright.go:39", after := #[{ on := 14, ground := Ground.data }, { on := 34, ground := Ground.data }], guard := none }) (v := ?_) rfl (by kernel_rfl) (by kernel_rfl) (by kernel_rfl) (fun _ _ _ h => h) (Or.inl ⟨by rfl, ?_⟩) (by assumption) ?_
                  rotate_left
                  · intro w hSw
                    skip
                    clear hSw
                    go_simp
                    try with_reducible rfl
                  try simp only [Act.put, List.setIfInBounds_toArray, List.set_cons_zero, List.set_cons_succ]
                  refine wpAnyH_done (by kernel_rfl) ?_ _
                  refine NoPanic.normal ?_
                  go_wp2
                  have q7 := C7.out w11' m11'
                  have f7 : w11'.frozen? ⟨b7, j, none⟩ = false := rowC_free m11'.r7 _
                  have q8 := C8.out w11' m11'
                  have f8 : w11'.frozen? ⟨b8, j, none⟩ = false := rowC_free m11'.r8 _
                  have n78 : b7 ≠ b8 := m11'.ne.1
                  have n87 : b8 ≠ b7 := fun e => n78 e.symm
                  have HM := Lib.hid m11'
                  clear m11' hHeld SO OS md
                  go_region
                  go_wp2
                  go_roundw
                  case rel => exact ⟨j + 1, by omega, by go_num, Lib.hid ((HNX.out _ HM.out).below (Below.refl _ _).drew)⟩
                  case measure => simp [intOf]; omega
                · have gne : ¬ (z : Int) = (sv : Int) := by omega
                  have gz : ¬ (60 : Int) < (z : Int) := by omega
                  have gd1 : decide (z = sv) = false := decide_eq_false hne
                  have gd2 : decide ((z : Int) = (sv : Int)) = false := decide_eq_false gne
                  have gb1 : ((z : Int) != (sv : Int)) = true := by simp [gne]
                  have gz61 : (z : Int) < 61 := by omega
                  have gd3 : decide ((60 : Int) < (z : Int)) = false := decide_eq_false gz
                  have OS : ∀ w', SS w' → w'.cell? ⟨b7, j, none⟩ = some (.int .u8 (sv : Int)) ∧ w'.cell? ⟨b9, j * 61 + z, none⟩ = some (.bool true) := fun w' h => ⟨C7.out w' (OS7 w' h), hX9 w' (OS7 w' h)⟩
                  clear OS7 hX9
                  go_wp2_with (go_at_call 13; ((with_reducible refine (CR.out _ HJ.out).mono ?_); rintro e w10 ⟨rfl, t10⟩); have md := t10.below (Below.refl _ w10).drew; clear t10)
                  refine wp_region_noPanic ?_
                  refine wp_region_held_drew (S := SS) (by kernel_rfl) (SO _ md) (fun hHeld => ?_)
                  refine wpAnyH_take (i := 0) (oi := { dst := some 107, op := Op.move (Operand.tmp 14), type := 26, pos := "outright.go:39", after := #[], guard := none }) (v := ?_) rfl (by kernel_rfl) (by kernel_rfl) (by kernel_rfl) (fun _ _ _ h => h) (Or.inl ⟨by rfl, ?_⟩) (by assumption) ?_
                  rotate_left
                  · intro w hSw
                    skip
                    clear hSw
                    go_simp
                    try with_reducible rfl
                  try simp only [Act.put, List.setIfInBounds_toArray, List.set_cons_zero, List.set_cons_succ]
                  refine wpAnyH_take (i := 1) (oi := { dst := some 108, op := Op.binOp BinOp.neq 26 (Operand.tmp 107) (Operand.const (Value.int IntKind.i64 0)) 26, type := 4, pos := "outright.go:39", after := #[{ on := 0, ground := Ground.data }], guard := none }) (v := ?_) rfl (by kernel_rfl) (by kernel_rfl) (by kernel_rfl) (fun _ _ _ h => h) (Or.inl ⟨by rfl, ?_⟩) (by assumption) ?_
                  rotate_left
                  · intro w hSw
                    skip
                    clear hSw
                    go_simp
                    try with_reducible rfl
                  try simp only [Act.put, List.setIfInBounds_toArray, List.set_cons_zero, List.set_cons_succ]
                  refine wpAnyH_take (i := 2) (oi := { dst := some 109, op := Op.move (Operand.tmp 108), type := 4, pos := "outright.go:39", after := #[{ on := 1, ground := Ground.data }], guard := none }) (v := ?_) rfl (by kernel_rfl) (by kernel_rfl) (by kernel_rfl) (fun _ _ _ h => h) (Or.inl ⟨by rfl, ?_⟩) (by assumption) ?_
                  rotate_left
                  · intro w hSw
                    skip
                    clear hSw
                    go_simp
                    try with_reducible rfl
                  try simp only [Act.put, List.setIfInBounds_toArray, List.set_cons_zero, List.set_cons_succ]
                  refine wpAnyH_take (i := 3) (oi := { dst := some 110, op := Op.move (Operand.tmp 13), type := 9, pos := "outright.go:39", after := #[{ on := 2, ground := Ground.guard }], guard := some (2, false) }) (v := ?_) rfl (by kernel_rfl) (by kernel_rfl) (by kernel_rfl) (fun _ _ _ h => h) (Or.inl ⟨by rfl, ?_⟩) (by assumption) ?_
                  rotate_left
                  · intro w hSw
                    skip
                    clear hSw
                    go_simp
                    try with_reducible rfl
                  try simp only [Act.put, List.setIfInBounds_toArray, List.set_cons_zero, List.set_cons_succ]
                  refine wpAnyH_take (i := 4) (oi := { dst := some 111, op := Op.call { callee := Callee.builtin Builtin.len, args := #[Operand.tmp 110], argTypes := #[9] }, type := 3, pos := "outright.go:39", after := #[{ on := 3, ground := Ground.data }, { on := 2, ground := Ground.guard }], guard := some (2, false) }) (v := ?_) rfl (by kernel_rfl) (by kernel_rfl) (by kernel_rfl) (fun _ _ _ h => h) (Or.inl ⟨by rfl, ?_⟩) (by assumption) ?_
                  rotate_left
                  · intro w hSw
                    skip
                    clear hSw
                    go_simp
                    try with_reducible rfl
                  try simp only [Act.put, List.setIfInBounds_toArray, List.set_cons_zero, List.set_cons_succ]
                  refine wpAnyH_take (i := 5) (oi := { dst := some 112, op := Op.binOp BinOp.neq 3 (Operand.tmp 111) (Operand.const (Value.int IntKind.i64 512)) 3, type := 4, pos := "outright.go:39", after := #[{ on := 4, ground := Ground.data }, { on := 2, ground := Ground.guard }], guard := some (2, false) }) (v := ?_) rfl (by kernel_rfl) (by kernel_rfl) (by kernel_rfl) (fun _ _ _ h => h) (Or.inl ⟨by rfl, ?_⟩) (by assumption) ?_
                  rotate_left
                  · intro w hSw
                    skip
                    clear hSw
                    go_simp
                    try with_reducible rfl
                  try simp only [Act.put, List.setIfInBounds_toArray, List.set_cons_zero, List.set_cons_succ]
                  refine wpAnyH_take (i := 6) (oi := { dst := some 113, op := Op.pick (Operand.tmp 109) (Operand.const (Value.bool true)) (Operand.tmp 112), type := 4, pos := "outright.go:39", after := #[{ on := 2, ground := Ground.data }, { on := 5, ground := Ground.data }], guard := none }) (v := ?_) rfl (by kernel_rfl) (by kernel_rfl) (by kernel_rfl) (fun _ _ _ h => h) (Or.inl ⟨by rfl, ?_⟩) (by assumption) ?_
                  rotate_left
                  · intro w hSw
                    skip
                    clear hSw
                    go_simp
                    try with_reducible rfl
                  try simp only [Act.put, List.setIfInBounds_toArray, List.set_cons_zero, List.set_cons_succ]
                  refine wpAnyH_take (i := 7) (oi := { dst := some 114, op := Op.move (Operand.tmp 113), type := 4, pos := "outright.go:39", after := #[{ on := 6, ground := Ground.data }, { on := 2, ground := Ground.chain }], guard := none }) (v := ?_) rfl (by kernel_rfl) (by kernel_rfl) (by kernel_rfl) (fun _ _ _ h => h) (Or.inl ⟨by rfl, ?_⟩) (by assumption) ?_
                  rotate_left
                  · intro w hSw
                    skip
                    clear hSw
                    go_simp
                    try with_reducible rfl
                  try simp only [Act.put, List.setIfInBounds_toArray, List.set_cons_zero, List.set_cons_succ]
                  refine wpAnyH_take (i := 8) (oi := { dst := some 115, op := Op.move (Operand.tmp 13), type := 9, pos := "outright.go:39", after := #[{ on := 7, ground := Ground.guard }], guard := some (7, false) }) (v := ?_) rfl (by kernel_rfl) (by kernel_rfl) (by kernel_rfl) (fun _ _ _ h => h) (Or.inl ⟨by rfl, ?_⟩) (by assumption) ?_
                  rotate_left
                  · intro w hSw
                    skip
                    clear hSw
                    go_simp
                    try with_reducible rfl
                  try simp only [Act.put, List.setIfInBounds_toArray, List.set_cons_zero, List.set_cons_succ]
                  refine wpAnyH_take (i := 9) (oi := { dst := some 116, op := Op.move (Operand.tmp 13), type := 9, pos := "outright.go:39", after := #[{ on := 7, ground := Ground.guard }], guard := some (7, false) }) (v := ?_) rfl (by kernel_rfl) (by kernel_rfl) (by kernel_rfl) (fun _ _ _ h => h) (Or.inl ⟨by rfl, ?_⟩) (by assumption) ?_
                  rotate_left
                  · intro w hSw
                    skip
                    clear hSw
                    go_simp
                    try with_reducible rfl
                  try simp only [Act.put, List.setIfInBounds_toArray, List.set_cons_zero, List.set_cons_succ]
                  refine wpAnyH_take (i := 10) (oi := { dst := some 117, op := Op.index 9 (Operand.tmp 116) (Operand.const (Value.int IntKind.i64 0)), type := 5, pos := "outright.go:39", after := #[{ on := 9, ground := Ground.data }, { on := 7, ground := Ground.guard }], guard := some (7, false) }) (v := ?_) rfl (by kernel_rfl) (by kernel_rfl) (by kernel_rfl) (fun _ _ _ h => h) (Or.inl ⟨by rfl, ?_⟩) (by assumption) ?_
                  rotate_left
                  · intro w hSw
                    skip
                    clear hSw
                    go_simp
                    try with_reducible rfl
                  try simp only [Act.put, List.setIfInBounds_toArray, List.set_cons_zero, List.set_cons_succ]
                  refine wpAnyH_ready (rs := [11]) (by kernel_rfl) (by simp) ?_
                  refine (AllReadyH.cons (o := { dst := some 118, op := Op.call { callee := Callee.value (Operand.func 23), args := #[Operand.tmp 117], argTypes := #[5] }, type := 9, pos := "outright.go:39", after := #[{ on := 10, ground := Ground.data }, { on := 7, ground := Ground.chain }, { on := 7, ground := Ground.guard }], guard := some (7, false) }) rfl (fun K hK => ?_) AllReadyH.nil)
                  go_simp
                  refine (CI.out _ (by assumption)).mono ?_
                  rintro e w11' ⟨rfl, m11'⟩
                  refine hK.out _ _ (SO _ (by assumption)) (fun hHeld => ?_)
                  clear hK K
                  try simp only [Act.put, List.setIfInBounds_toArray, List.set_cons_zero, List.set_cons_succ]
                  refine wpAnyH_take (i := 12) (oi := { dst := some 119, op := Op.binOp BinOp.neq 9 (Operand.tmp 115) (Operand.tmp 118) 9, type := 4, pos := "outright.go:39", after := #[{ on := 8, ground := Ground.data }, { on := 11, ground := Ground.data }, { on := 7, ground := Ground.guard }], guard := some (7, false) }) (v := ?_) rfl (by kernel_rfl) (by kernel_rfl) (by kernel_rfl) (fun _ _ _ h => h) (Or.inl ⟨by rfl, ?_⟩) (by assumption) ?_
                  rotate_left
                  · intro w hSw
                    skip
                    clear hSw
                    go_simp
                    try with_reducible rfl
                  try simp only [Act.put, List.setIfInBounds_toArray, List.set_cons_zero, List.set_cons_succ]
                  refine wpAnyH_take (i := 13) (oi := { dst := some 120, op := Op.pick (Operand.tmp 114) (Operand.const (Value.bool true)) (Operand.tmp 119), type := 4, pos := "outright.go:39", after := #[{ on := 7, ground := Ground.data }, { on := 12, ground := Ground.data }], guard := none }) (v := ?_) rfl (by kernel_rfl) (by kernel_rfl) (by kernel_rfl) (fun _ _ _ h => h) (Or.inl ⟨by rfl, ?_⟩) (by assumption) ?_
                  rotate_left
                  · intro w hSw
                    skip
                    clear hSw
                    go_simp
                    try with_reducible rfl
                  try simp only [Act.put, List.setIfInBounds_toArray, List.set_cons_zero, List.set_cons_succ]
                  refine wpAnyH_take (i := 14) (oi := { dst := some 121, op := Op.move (Operand.tmp 120), type := 4, pos := "outright.go:39", after := #[{ on := 13, ground := Ground.data }, { on := 11, ground := Ground.chain }], guard := none }) (v := ?_) rfl (by kernel_rfl) (by kernel_rfl) (by kernel_rfl) (fun _ _ _ h => h) (Or.inl ⟨by rfl, ?_⟩) (by assumption) ?_
                  rotate_left
                  · intro w hSw
                    skip
                    clear hSw
                    go_simp
                    try with_reducible rfl
                  try simp only [Act.put, List.setIfInBounds_toArray, List.set_cons_zero, List.set_cons_succ]
                  refine wpAnyH_take (i := 15) (oi := { dst := some 122, op := Op.move (Operand.tmp 13), type := 9, pos := "outright.go:39", after := #[{ on := 14, ground := Ground.guard }], guard := some (14, false) }) (v := ?_) rfl (by kernel_rfl) (by kernel_rfl) (by kernel_rfl) (fun _ _ _ h => h) (Or.inl ⟨by rfl, ?_⟩) (by assumption) ?_
                  rotate_left
                  · intro w hSw
                    skip
                    clear hSw
                    go_simp
                    try with_reducible rfl
                  try simp only [Act.put, List.setIfInBounds_toArray, List.set_cons_zero, List.set_cons_succ]
                  refine wpAnyH_take (i := 16) (oi := { dst := some 123, op := Op.index 9 (Operand.tmp 122) (Operand.const (Value.int IntKind.i64 0)), type := 5, pos := "outright.go:39", after := #[{ on := 15, ground := Ground.data }, { on := 14, ground := Ground.guard }], guard := some (14, false) }) (v := ?_) rfl (by kernel_rfl) (by kernel_rfl) (by kernel_rfl) (fun _ _ _ h => h) (Or.inl ⟨by rfl, ?_⟩) (by assumption) ?_
                  rotate_left
                  · intro w hSw
                    skip
                    clear hSw
                    go_simp
                    try with_reducible rfl
                  try simp only [Act.put, List.setIfInBounds_toArray, List.set_cons_zero, List.set_cons_succ]
                  refine wpAnyH_take (i := 17) (oi := { dst := some 124, op := Op.move (Operand.tmp 12), type := 3, pos := "outright.go:39", after := #[{ on := 14, ground := Ground.guard }], guard := some (14, false) }) (v := ?_) rfl (by kernel_rfl) (by kernel_rfl) (by kernel_rfl) (fun _ _ _ h => h) (Or.inl ⟨by rfl, ?_⟩) (by assumption) ?_
                  rotate_left
                  · intro w hSw
                    skip
                    clear hSw
                    go_simp
                    try with_reducible rfl
                  try simp only [Act.put, List.setIfInBounds_toArray, List.set_cons_zero, List.set_cons_succ]
                  refine wpAnyH_take (i := 18) (oi := { dst := some 125, op := Op.indexAddr 49 (Operand.tmp 7) (Operand.tmp 124), type := 0, pos := "outright.go:39", after := #[{ on := 17, ground := Ground.data }, { on := 14, ground := Ground.guard }], guard := some (14, false) }) (v := ?_) rfl (by kernel_rfl) (by kernel_rfl) (by kernel_rfl) (fun _ _ _ h => h) (Or.inl ⟨by rfl, ?_⟩) (by assumption) ?_
                  rotate_left
                  · intro w hSw
                    skip
                    clear hSw
                    go_simp
                    try with_reducible rfl
                  try simp only [Act.put, List.setIfInBounds_toArray, List.set_cons_zero, List.set_cons_succ]
                  refine wpAnyH_take (i := 19) (oi := { dst := some 126, op := Op.load 5 (Operand.tmp 125), type := 5, pos := "outright.go:39", after := #[{ on := 18, ground := Ground.data }, { on := 14, ground := Ground.guard }], guard := some (14, false) }) (v := ?_) rfl (by kernel_rfl) (by kernel_rfl) (by kernel_rfl) (fun _ _ _ h => h) (Or.inl ⟨by rfl, ?_⟩) (by assumption) ?_
                  rotate_left
                  · intro w hSw
                    have hSw := OS _ hSw
                    go_simp
                    try with_reducible rfl
                  try simp only [Act.put, List.setIfInBounds_toArray, List.set_cons_zero, List.set_cons_succ]
                  refine wpAnyH_take (i := 20) (oi := { dst := some 127, op := Op.binOp BinOp.neq 5 (Operand.tmp 123) (Operand.tmp 126) 5, type := 4, pos := "outright.go:39", after := #[{ on := 16, ground := Ground.data }, { on := 19, ground := Ground.data }, { on := 14, ground := Ground.guard }], guard := some (14, false) }) (v := ?_) rfl (by kernel_rfl) (by kernel_rfl) (by kernel_rfl) (fun _ _ _ h => h) (Or.inl ⟨by rfl, ?_⟩) (by assumption) ?_
                  rotate_left
                  · intro w hSw
                    skip
                    clear hSw
                    go_simp
                    try with_reducible rfl
                  try simp only [Act.put, List.setIfInBounds_toArray, List.set_cons_zero, List.set_cons_succ]
                  refine wpAnyH_take (i := 21) (oi := { dst := some 128, op := Op.move (Operand.tmp 127), type := 4, pos := "outright.go:39", after := #[{ on := 20, ground := Ground.data }, { on := 14, ground := Ground.chain }, { on := 14, ground := Ground.guard }], guard := some (14, false) }) (v := ?_) rfl (by kernel_rfl) (by kernel_rfl) (by kernel_rfl) (fun _ _ _ h => h) (Or.inl ⟨by rfl, ?_⟩) (by assumption) ?_
                  rotate_left
                  · intro w hSw
                    skip
                    clear hSw
                    go_simp
                    try with_reducible rfl
                  try simp only [Act.put, List.setIfInBounds_toArray, List.set_cons_zero, List.set_cons_succ]
                  refine wpAnyH_take (i := 22) (oi := { dst := some 129, op := Op.move (Operand.tmp 13), type := 9, pos := "outright.go:39", after := #[{ on := 21, ground := Ground.guard }], guard := some (21, true) }) (v := ?_) rfl (by kernel_rfl) (by kernel_rfl) (by kernel_rfl) (fun _ _ _ h => h) (Or.inl ⟨by rfl, ?_⟩) (by assumption) ?_
                  rotate_left
                  · intro w hSw
                    skip
                    clear hSw
                    go_simp
                    try with_reducible rfl
                  try simp only [Act.put, List.setIfInBounds_toArray, List.set_cons_zero, List.set_cons_succ]
                  refine wpAnyH_take (i := 23) (oi := { dst := some 130, op := Op.index 9 (Operand.tmp 129) (Operand.const (Value.int IntKind.i64 0)), type := 5, pos := "outright.go:39", after := #[{ on := 22, ground := Ground.data }, { on := 21, ground := Ground.guard }], guard := some (21, true) }) (v := ?_) rfl (by kernel_rfl) (by kernel_rfl) (by kernel_rfl) (fun _ _ _ h => h) (Or.inl ⟨by rfl, ?_⟩) (by assumption) ?_
                  rotate_left
                  · intro w hSw
                    skip
                    clear hSw
                    go_simp
                    try with_reducible rfl
                  try simp only [Act.put, List.setIfInBounds_toArray, List.set_cons_zero, List.set_cons_succ]
                  refine wpAnyH_take (i := 24) (oi := { dst := some 131, op := Op.binOp BinOp.gtr 5 (Operand.tmp 130) (Operand.const (Value.int IntKind.u8 60)) 5, type := 4, pos := "outright.go:39", after := #[{ on := 23, ground := Ground.data }, { on := 21, ground := Ground.guard }], guard := some (21, true) }) (v := ?_) rfl (by kernel_rfl) (by kernel_rfl) (by kernel_rfl) (fun _ _ _ h => h) (Or.inl ⟨by rfl, ?_⟩) (by assumption) ?_
                  rotate_left
                  · intro w hSw
                    skip
                    clear hSw
                    go_simp
                    try with_reducible rfl
                  try simp only [Act.put, List.setIfInBounds_toArray, List.set_cons_zero, List.set_cons_succ]
                  refine wpAnyH_take (i := 25) (oi := { dst := some 132, op := Op.move (Operand.tmp 131), type := 4, pos := "outright.go:39", after := #[{ on := 24, ground := Ground.data }, { on := 21, ground := Ground.chain }, { on := 21, ground := Ground.guard }], guard := some (21, true) }) (v := ?_) rfl (by kernel_rfl) (by kernel_rfl) (by kernel_rfl) (fun _ _ _ h => h) (Or.inl ⟨by rfl, ?_⟩) (by assumption) ?_
                  rotate_left
                  · intro w hSw
                    skip
                    clear hSw
                    go_simp
                    try with_reducible rfl
                  try simp only [Act.put, List.setIfInBounds_toArray, List.set_cons_zero, List.set_cons_succ]
                  refine wpAnyH_take (i := 26) (oi := { dst := some 133, op := Op.move (Operand.tmp 12), type := 3, pos := "outright.go:39", after := #[{ on := 25, ground := Ground.guard }], guard := some (25, false) }) (v := ?_) rfl (by kernel_rfl) (by kernel_rfl) (by kernel_rfl) (fun _ _ _ h => h) (Or.inl ⟨by rfl, ?_⟩) (by assumption) ?_
                  rotate_left
                  · intro w hSw
                    skip
                    clear hSw
                    go_simp
                    try with_reducible rfl
                  try simp only [Act.put, List.setIfInBounds_toArray, List.set_cons_zero, List.set_cons_succ]
                  refine wpAnyH_take (i := 27) (oi := { dst := some 134, op := Op.move (Operand.tmp 13), type := 9, pos := "outright.go:39", after := #[{ on := 25, ground := Ground.guard }], guard := some (25, false) }) (v := ?_) rfl (by kernel_rfl) (by kernel_rfl) (by kernel_rfl) (fun _ _ _ h => h) (Or.inl ⟨by rfl, ?_⟩) (by assumption) ?_
                  rotate_left
                  · intro w hSw
                    skip
                    clear hSw
                    go_simp
                    try with_reducible rfl
                  try simp only [Act.put, List.setIfInBounds_toArray, List.set_cons_zero, List.set_cons_succ]
                  refine wpAnyH_take (i := 28) (oi := { dst := some 135, op := Op.index 9 (Operand.tmp 134) (Operand.const (Value.int IntKind.i64 0)), type := 5, pos := "outright.go:39", after := #[{ on := 27, ground := Ground.data }, { on := 25, ground := Ground.guard }], guard := some (25, false) }) (v := ?_) rfl (by kernel_rfl) (by kernel_rfl) (by kernel_rfl) (fun _ _ _ h => h) (Or.inl ⟨by rfl, ?_⟩) (by assumption) ?_
                  rotate_left
                  · intro w hSw
                    skip
                    clear hSw
                    go_simp
                    try with_reducible rfl
                  try simp only [Act.put, List.setIfInBounds_toArray, List.set_cons_zero, List.set_cons_succ]
                  refine wpAnyH_take (i := 29) (oi := { dst := some 136, op := Op.indexAddr 51 (Operand.tmp 9) (Operand.tmp 133), type := 0, pos := "outright.go:39", after := #[{ on := 26, ground := Ground.data }, { on := 25, ground := Ground.guard }], guard := some (25, false) }) (v := ?_) rfl (by kernel_rfl) (by kernel_rfl) (by kernel_rfl) (fun _ _ _ h => h) (Or.inl ⟨by rfl, ?_⟩) (by assumption) ?_
                  rotate_left
                  · intro w hSw
                    skip
                    clear hSw
                    go_simp
                    try with_reducible rfl
                  try simp only [Act.put, List.setIfInBounds_toArray, List.set_cons_zero, List.set_cons_succ]
                  refine wpAnyH_take (i := 30) (oi := { dst := some 137, op := Op.indexAddr 50 (Operand.tmp 136) (Operand.tmp 135), type := 0, pos := "outright.go:39", after := #[{ on := 29, ground := Ground.data }, { on := 28, ground := Ground.data }, { on := 25, ground := Ground.guard }], guard := some (25, false) }) (v := ?_) rfl (by kernel_rfl) (by kernel_rfl) (by kernel_rfl) (fun _ _ _ h => h) (Or.inl ⟨by rfl, ?_⟩) (by assumption) ?_
                  rotate_left
                  · intro w hSw
                    skip
                    clear hSw
                    go_simp
                    try with_reducible rfl
                  try simp only [Act.put, List.setIfInBounds_toArray, List.set_cons_zero, List.set_cons_succ]
                  refine wpAnyH_take (i := 31) (oi := { dst := some 138, op := Op.load 4 (Operand.tmp 137), type := 4, pos := "outright.go:39", after := #[{ on := 30, ground := Ground.data }, { on := 25, ground := Ground.guard }], guard := some (25, false) }) (v := ?_) rfl (by kernel_rfl) (by kernel_rfl) (by kernel_rfl) (fun _ _ _ h => h) (Or.inl ⟨by rfl, ?_⟩) (by assumption) ?_
                  rotate_left
                  · intro w hSw
                    have hSw := OS _ hSw
                    go_simp
                    try with_reducible rfl
                  try simp only [Act.put, List.setIfInBounds_toArray, List.set_cons_zero, List.set_cons_succ]
                  refine wpAnyH_take (i := 32) (oi := { dst := some 139, op := Op.unOp UnOp.not 4 (Operand.tmp 138), type := 4, pos := "outright.go:39", after := #[{ on := 31, ground := Ground.data }, { on := 25, ground := Ground.guard }], guard := some (25, false) }) (v := ?_) rfl (by kernel_rfl) (by kernel_rfl) (by kernel_rfl) (fun _ _ _ h => h) (Or.inl ⟨by rfl, ?_⟩) (by assumption) ?_
                  rotate_left
                  · intro w hSw
                    skip
                    clear hSw
                    go_simp
                    try with_reducible rfl
                  try simp only [Act.put, List.setIfInBounds_toArray, List.set_cons_zero, List.set_cons_succ]
                  refine wpAnyH_take (i := 33) (oi := { dst := some 140, op := Op.pick (Operand.tmp 132) (Operand.const (Value.bool true)) (Operand.tmp 139), type := 4, pos := "outright.go:39", after := #[{ on := 25, ground := Ground.data }, { on := 32, ground := Ground.data }, { on := 21, ground := Ground.guard }], guard := some (21, true) }) (v := ?_) rfl (by kernel_rfl) (by kernel_rfl) (by kernel_rfl) (fun _ _ _ h => h) (Or.inl ⟨by rfl, ?_⟩) (by assumption) ?_
                  rotate_left
                  · intro w hSw
                    skip
                    clear hSw
                    go_simp
                    try with_reducible rfl
                  try simp only [Act.put, List.setIfInBounds_toArray, List.set_cons_zero, List.set_cons_succ]
                  refine wpAnyH_take (i := 34) (oi := { dst := some 141, op := Op.pick (Operand.tmp 128) (Operand.tmp 140) (Operand.const (Value.bool false)), type := 4, pos := "outright.go:39", after := #[{ on := 21, ground := Ground.data }, { on := 33, ground := Ground.data }, { on := 14, ground := Ground.guard }], guard := some (14, false) }) (v := ?_) rfl (by kernel_rfl) (by kernel_rfl) (by kernel_rfl) (fun _ _ _ h => h) (Or.inl ⟨by rfl, ?_⟩) (by assumption) ?_
                  rotate_left
                  · intro w hSw
                    skip
                    clear hSw
                    go_simp
                    try with_reducible rfl
                  try simp only [Act.put, List.setIfInBounds_toArray, List.set_cons_zero, List.set_cons_succ]
                  refine wpAnyH_take (i := 35) (oi := { dst := some 142, op := Op.pick (Operand.tmp 121) (Operand.const (Value.bool true)) (Operand.tmp 141), type := 4, pos := "outright.go:39", after := #[{ on := 14, ground := Ground.data }, { on := 34, ground := Ground.data }], guard := none }) (v := ?_) rfl (by kernel_rfl) (by kernel_rfl) (by kernel_rfl) (fun _ _ _ h => h) (Or.inl ⟨by rfl, ?_⟩) (by assumption) ?_
                  rotate_left
                  · intro w hSw
                    skip
                    clear hSw
                    go_simp
                    try with_reducible rfl
                  try simp only [Act.put, List.setIfInBounds_toArray, List.set_cons_zero, List.set_cons_succ]
                  refine wpAnyH_done (by kernel_rfl) ?_ _
                  refine NoPanic.normal ?_
                  go_wp2
                  have q7 := C7.out w11' m11'
                  have f7 : w11'.frozen? ⟨b7, j, none⟩ = false := rowC_free m11'.r7 _
                  have q8 := C8.out w11' m11'
                  have f8 : w11'.frozen? ⟨b8, j, none⟩ = false := rowC_free m11'.r8 _
                  have n78 : b7 ≠ b8 := m11'.ne.1
                  have n87 : b8 ≠ b7 := fun e => n78 e.symm
                  have HM := Lib.hid m11'
                  clear m11' hHeld SO OS md
                  go_region
                  go_wp2
                  go_roundw
                  case rel => exact ⟨j + 1, by omega, by go_num, Lib.hid ((HNX.out _ HM.out).below (Below.refl _ _).drew)⟩
                  case measure => simp [intOf]; omega
              · obtain rfl : j = 8 := by omega
                have HT6 := Lib.hid (show SureM I w wr q b7 b8 b9 d2 C C X1 by have := HJ.out; rwa [mix_all C S hCl HD1.out.lS, mix_all C L1 hCl HD1.out.lL] at this)
                obtain ⟨Z, z, ct1, ct2, ct3⟩ := s_tail (I := I) (W := w) (q := q) (b7 := b7) (b8 := b8) (b9 := b9) HD2.out (by omega) hn7
                have CR := Lib.hid ct1
                have CZ := Lib.hid ct2
                have CL := Lib.hid ct3
                have IB := Lib.hid (info_B none488_length)
                have Z9 := Lib.hid (show (cellsB X1).size = (cellsB none488).size by rw [cellsB_size, cellsB_size, HD1.out.lX, none488_length])
                clear ct1 ct2 ct3 HJ
                go_wp2_with (first
                  | ((with_reducible show wpList _ _ _ (⟨some 151, _, _, _, _, _⟩ :: _) _ _); refine wpList_build_asG (by kernel_rfl) 51 _ rfl (cellsB none488) (by kernel_rfl) ?_)
                  | (refine wpList_store_row rfl 51 _ _ rfl b9 (cellsB none488) rfl rfl 51 (cellsB X1) HT6.out.r9 IB.out Z9.out (cellsB_one _) ?_)
                  | (go_at_call 13; ((with_reducible refine (CR.out _ (HT6.out.row9 none488)).mono ?_); rintro e w21 ⟨rfl, t21⟩); have HT7 := Lib.hid t21; have c8 := CL.out _ t21; clear t21)
                  | (go_at_call 23; ((with_reducible refine (CZ.out _ HT7.out).mono ?_); rintro e w22 ⟨rfl, t22⟩); have HT8 := Lib.hid t22; clear t22))
                go_roundw
                case rel => exact ⟨k + 1, by omega, by go_num, Lib.hid ⟨_, _, _, _, _, by omega, HD2.out, HT8.out⟩⟩
                case measure => simp [intOf]; omega
          · obtain ⟨m, hm⟩ : ∃ m, m = y % 4 := ⟨_, rfl⟩
            have emy : (y : Int) % 4 = (m : Int) := by omega
            have ety : (y : Int).tmod 4 = (m : Int) := by rw [Int.tmod_eq_emod_of_nonneg (by omega)]; exact emy
            have hm0 : ¬ (m : Int) = 0 := by omega
            have hm1 : ¬ (m : Int) = 1 := by omega
            have hm4 : m < 4 := by omega
            obtain ⟨Z, z, ct1, ct2, ct3⟩ := s_tail (I := I) (W := w) (q := q) (b7 := b7) (b8 := b8) (b9 := b9) HD1.out (by omega) hn7
            have CR := Lib.hid ct1
            have CZ := Lib.hid ct2
            have CL := Lib.hid ct3
            clear ct1 ct2 ct3 hy0 hy1 hm
            go_wp2_with (first
              | (go_at_call 23; ((with_reducible refine (CS.out _ HT.out).mono ?_); rintro e w2 ⟨rfl, t2⟩); have HT2 := Lib.hid t2; clear t2)
              | (go_at_call 14; ((with_reducible refine (CW.out _ HT2.out).mono ?_); rintro e w3 ⟨rfl, t3⟩)
                 have m9 := t3.cell9 HD.out.lX (show n * 61 + (k + 1) < 488 by omega)
                 have f9 : w3.frozen? ⟨b9, n * 61 + (k + 1), none⟩ = false := rowC_free t3.r9 _
                 have m8 := (t3.set9 (n * 61 + (k + 1)) true).cell8 HD.out.lL hn7
                 have f8 : (w3.setCell ⟨b9, n * 61 + (k + 1), none⟩ (.bool true)).frozen? ⟨b8, n, none⟩ = false := rowC_free (t3.set9 (n * 61 + (k + 1)) true).r8 _
                 have HS3 := Lib.hid (HST.out _ t3)
                 have cy := (HCL.out _ HS3.out.b).2
                 clear t3 c0 c1)
              | (go_at_call 13; ((with_reducible refine (CR.out _ HS3.out).mono ?_); rintro e w6 ⟨rfl, t6⟩); have HT6 := Lib.hid t6; have c8 := CL.out _ t6; clear t6 cy)
              | (go_at_call 23; ((with_reducible refine (CZ.out _ HT6.out).mono ?_); rintro e w7 ⟨rfl, t7⟩); have HT7 := Lib.hid t7; clear t7))
            go_roundw
            case rel => exact ⟨k + 1, by omega, by go_num, Lib.hid ⟨_, _, _, _, _, by omega, HD1.out, HT7.out⟩⟩
            case measure => simp [intOf]; omega
      · obtain rfl : k = N := by omega
        have HB := Lib.hid HT.out.b
        go_wp2_with (go_at_call 8; ((with_reducible refine (CU.out _).mono ?_); rintro e w9 ⟨rfl, b9'⟩))
        go_ret
        exact ⟨rfl, HB.out.trans (b9'.mono HB.out.size)⟩
end Go.Proofs.Ytikeobmcnpncjaa
