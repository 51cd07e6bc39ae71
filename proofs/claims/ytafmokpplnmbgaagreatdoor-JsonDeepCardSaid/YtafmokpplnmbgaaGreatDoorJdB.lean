/- Layer 11: JsonDeep. -/
import Derived.Test.YtafmokpplnmbgaaGreatDoorJdA
namespace Go.Proofs.YtafmokpplnmbgaaGreatDoor
open Go.RowKit

theorem and1_u32 (x : Nat) (h : x < 4294967296) : bits .and .u32 (x : Int) 1 = ((x % 2 : Nat) : Int) := by
  show IntKind.u32.wrap ((BitVec.ofInt 32 (x : Int) &&& BitVec.ofInt 32 1).toNat : Int) = _
  have e : (BitVec.ofInt 32 1).toNat = 1 := by decide
  have e2 : (BitVec.ofInt 32 (x : Int)).toNat = x := by
    rw [BitVec.toNat_ofInt]
    omega
  rw [BitVec.toNat_and, e, e2, Nat.and_one_is_mod]
  simp [IntKind.wrap, IntKind.signed, IntKind.bits]
  omega
theorem bit_u32 (o k : Nat) (h : (o : Int) ≤ 4294967295) : (bits .and .u32 ((o : Int) / 2 ^ k) 1 == 1) = bitB o k := by
  have e : ((o : Int) / 2 ^ k) = ((o / 2 ^ k : Nat) : Int) := by simp
  have hle : o / 2 ^ k ≤ o := Nat.div_le_self _ _
  rw [e, and1_u32 _ (by omega)]
  unfold bitB
  have : o / 2 ^ k % 2 < 2 := Nat.mod_lt _ (by omega)
  rw [Bool.eq_iff_iff, beq_iff_eq, beq_iff_eq]
  omega
theorem str_open (o k : Nat) : (bitB o k = true → str (openT (bitsB o k)) ++ ByteArray.mk #[123, 34, 107, 34, 58] = str (openT (bitsB o (k + 1))) ∧ ByteArray.mk #[125] ++ str (closeT (bitsB o k)) = str (closeT (bitsB o (k + 1)))) ∧
    (bitB o k = false → str (openT (bitsB o k)) ++ ByteArray.mk #[91] = str (openT (bitsB o (k + 1))) ∧ ByteArray.mk #[93] ++ str (closeT (bitsB o k)) = str (closeT (bitsB o (k + 1)))) := by
  rw [bitsB, openT_snoc, closeT_snoc]
  refine ⟨fun h => ?_, fun h => ?_⟩
  · rw [h, if_pos rfl, if_pos rfl]
    exact ⟨(str_append _ [123, 34, 107, 34, 58]), (str_append [125] _)⟩
  · rw [h, if_neg (by decide), if_neg (by decide)]
    exact ⟨(str_append _ [91]), (str_append [93] _)⟩
theorem bitsB_take (o k : Nat) : ∀ n, k ≤ n → (bitsB o n).take k = bitsB o k
  | 0, h => by
    obtain rfl : k = 0 := by omega
    rfl
  | n + 1, h => by
    by_cases e : k = n + 1
    · rw [e, List.take_of_length_le (by rw [bitsB_len]; omega)]
    · rw [bitsB, List.take_append_of_le_length (by rw [bitsB_len]; omega)]
      exact bitsB_take o k n (by omega)
def Nst (g : Nat) (w : World) (v : JV) : Prop := ∃ a b c d, rowC w g #[a, b, c, d] 27 ∧ HoldsC w (fun x => g < x) v a b c d
theorem nst_list {g : Nat} {w : World} {v : JV} {a b c d : Value} (h : rowC w g #[a, b, c, d] 27) (hH : HoldsC w (fun x => g < x) v a b c d) :
    Nst g ((w.alloc (.cells #[a, b, c, d] 27)).setRow g #[.int .i64 5, .string ⟨#[]⟩, .slice (some ⟨w.heap.size, 0, none⟩) 1 1, .slice none 0 0]) (.mk 5 [] [v] []) := by
  have hlt := rowC_lt h
  have r := rowC_new w #[a, b, c, d] 27
  have r' := rowC_setRow_other r g #[.int .i64 5, .string ⟨#[]⟩, .slice (some ⟨w.heap.size, 0, none⟩) 1 1, .slice none 0 0] (by omega)
  have hc : Chg (fun x => x = g) w ((w.alloc (.cells #[a, b, c, d] 27)).setRow g #[.int .i64 5, .string ⟨#[]⟩, .slice (some ⟨w.heap.size, 0, none⟩) 1 1, .slice none 0 0]) :=
    ((Chg.refl _ w).alloc _).setRow g _ (.inl rfl)
  refine ⟨_, _, _, _, rowC_setRow (rowC_alloc h _) _, ?_⟩
  rw [HoldsC]
  refine ⟨rfl, rfl, Nat.zero_le _, .inl ⟨rfl, rfl⟩, .inr ⟨⟨w.heap.size, 0, none⟩, 1, rfl, ?_⟩⟩
  rw [HoldsR, HoldsR]
  exact ⟨⟨a, b, c, d, hlt, rowC_cell r' 0, rowC_cell r' 1, rowC_cell r' 2, rowC_cell r' 3, HoldsC.chg hc (fun k hk hs => by omega) _ _ _ _ _ hH⟩, trivial⟩
theorem nst_obj {g : Nat} {w : World} {v : JV} {a b c d : Value} (h : rowC w g #[a, b, c, d] 27) (hH : HoldsC w (fun x => g < x) v a b c d) :
    Nst g (((w.alloc (.cells #[.string ⟨#[107]⟩] 9)).alloc (.cells #[a, b, c, d] 27)).setRow g #[.int .i64 6, .string ⟨#[]⟩, .slice (some ⟨w.heap.size + 1, 0, none⟩) 1 1, .slice (some ⟨w.heap.size, 0, none⟩) 1 1]) (.mk 6 [] [v] [[107]]) := by
  have hlt := rowC_lt h
  have s1 := size_alloc w (.cells #[.string ⟨#[107]⟩] 9)
  have q' := rowC_setRow_other (rowC_alloc (rowC_new w #[.string ⟨#[107]⟩] 9) (.cells #[a, b, c, d] 27)) g #[.int .i64 6, .string ⟨#[]⟩, .slice (some ⟨w.heap.size + 1, 0, none⟩) 1 1, .slice (some ⟨w.heap.size, 0, none⟩) 1 1] (by omega)
  have r := rowC_new (w.alloc (.cells #[.string ⟨#[107]⟩] 9)) #[a, b, c, d] 27
  rw [s1] at r
  have r' := rowC_setRow_other r g #[.int .i64 6, .string ⟨#[]⟩, .slice (some ⟨w.heap.size + 1, 0, none⟩) 1 1, .slice (some ⟨w.heap.size, 0, none⟩) 1 1] (by omega)
  have hc : Chg (fun x => x = g) w (((w.alloc (.cells #[.string ⟨#[107]⟩] 9)).alloc (.cells #[a, b, c, d] 27)).setRow g #[.int .i64 6, .string ⟨#[]⟩, .slice (some ⟨w.heap.size + 1, 0, none⟩) 1 1, .slice (some ⟨w.heap.size, 0, none⟩) 1 1]) :=
    (((Chg.refl _ w).alloc _).alloc _).setRow g _ (.inl rfl)
  refine ⟨_, _, _, _, rowC_setRow (rowC_alloc (rowC_alloc h _) _) _, ?_⟩
  rw [HoldsC]
  refine ⟨rfl, rfl, Nat.zero_le _, .inr ⟨⟨w.heap.size, 0, none⟩, 1, rfl, fun i hi => ⟨hlt, ?_⟩⟩, .inr ⟨⟨w.heap.size + 1, 0, none⟩, 1, rfl, ?_⟩⟩
  · obtain rfl : i = 0 := by simpa using hi
    exact rowC_cell q' 0
  · rw [HoldsR, HoldsR]
    exact ⟨⟨a, b, c, d, show g < w.heap.size + 1 by omega, rowC_cell r' 0, rowC_cell r' 1, rowC_cell r' 2, rowC_cell r' 3, HoldsC.chg hc (fun k hk hs => by omega) _ _ _ _ _ hH⟩, trivial⟩
theorem built_l (x : Option Addr) (n m : Nat) : Tryz.prog.built 27 [(0, .int .i64 5), (2, .slice x n m)] = some #[.int .i64 5, .string ⟨#[]⟩, .slice x n m, .slice none 0 0] := by kernel_rfl
theorem built_o (x y : Option Addr) (n m k l : Nat) : Tryz.prog.built 27 [(0, .int .i64 6), (3, .slice y k l), (2, .slice x n m)] = some #[.int .i64 6, .string ⟨#[]⟩, .slice x n m, .slice y k l] := by kernel_rfl
theorem text_add (bs : List Bool) : str (openT bs) ++ ByteArray.mk #[116, 114, 117, 101] ++ str (closeT bs) = str (openT bs ++ trueT ++ closeT bs) := by
  have h : ByteArray.mk #[116, 114, 117, 101] = str trueT := rfl
  rw [h, str_append, str_append]
theorem text_len (bs : List Bool) (h : bs.length ≤ 24) : (openT bs ++ trueT ++ closeT bs).length ≤ 1000 := by
  have := openT_len bs
  rw [List.length_append, List.length_append, closeT_len]
  have : trueT.length = 4 := rfl
  omega
def atB (o k : Nat) : Nat := if 16 < k then (openT (bitsB o 16)).length else 0
theorem parse_nest {o n : Nat} (w : World) (hE : Env w) (hn : n ≤ 16) :
    Calls Tryz.prog 8 #[.string (str (openT (bitsB o n)) ++ ByteArray.mk #[116, 114, 117, 101] ++ str (closeT (bitsB o n)))] w fun e w' =>
      ∃ V, e = .returned (.tuple #[V, .int .i64 0, .int .i64 0]) ∧ HoldsJ w' (fun k => w.heap.size ≤ k ∧ k < w'.heap.size) (nest (bitsB o n)) V ∧ Below w.heap.size w w' := by
  rw [text_add]
  obtain ⟨hm, hd⟩ := nest_may (bitsB o n)
  rw [bitsB_len] at hd
  obtain ⟨m, hm⟩ := all_rt gap_nil hm (by omega)
  have h := hm m (Nat.le_refl _)
  rw [List.nil_append, List.append_nil, nest_pr] at h
  have := text_len (bitsB o n) (by rw [bitsB_len]; omega)
  exact parse_any (by unfold okS; omega) w hE h
theorem parse_nest_deep {o n : Nat} (w : World) (hE : Env w) (hn : 16 < n) (hn2 : n < 24) :
    Calls Tryz.prog 8 #[.string (str (openT (bitsB o n)) ++ ByteArray.mk #[116, 114, 117, 101] ++ str (closeT (bitsB o n)))] w fun e w' =>
      e = .returned (.tuple #[.agg zeroV4, .int .i64 (atB o n : Nat), .int .i64 11]) ∧ Below w.heap.size w w' := by
  rw [text_add]
  obtain ⟨m, hm⟩ := all_deep (bitsB o n) (trueT ++ closeT (bitsB o n)) (by rw [bitsB_len]; exact hn)
  have h := hm m (Nat.le_refl _)
  rw [← List.append_assoc] at h
  have := text_len (bitsB o n) (by rw [bitsB_len]; omega)
  have C := parse_any (by unfold okS; omega) w hE h
  have e : openT (bitsB o n) = openT (bitsB o 16) ++ openT ((bitsB o n).drop 16) := by
    rw [← bitsB_take o 16 n (by omega)]
    unfold openT
    rw [← List.flatMap_append, List.take_append_drop]
  have e2 : (openT (bitsB o n) ++ trueT ++ closeT (bitsB o n)).length - (openT ((bitsB o n).drop 16) ++ (trueT ++ closeT (bitsB o n))).length = atB o n := by
    unfold atB
    rw [if_pos hn, e]
    simp only [List.length_append]
    omega
  refine C.mono fun x w' hx => ?_
  unfold saysP at hx
  dsimp only at hx
  rw [e2] at hx
  exact hx
theorem print_nest {o n : Nat} {w : World} {a b c d : Value} (hE : Env w) (hn : n ≤ 16) (hH : HoldsC w (fun k => k < w.heap.size) (nest (bitsB o n)) a b c d) :
    Calls Tryz.prog 7 #[.agg #[a, b, c, d]] w fun e w' => e = .returned (.tuple #[.string (str (openT (bitsB o n)) ++ ByteArray.mk #[116, 114, 117, 101] ++ str (closeT (bitsB o n))), .int .i64 0]) ∧ Below w.heap.size w w' := by
  have C := print_any (nest_ok _) hE hH
  rw [nest_print (by rw [bitsB_len]; omega), if_neg (by rw [bitsB_len]; omega)] at C
  rw [text_add]
  exact C
theorem print_nest_deep {o n : Nat} {w : World} {a b c d : Value} (hE : Env w) (hn : 16 < n) (hn2 : n < 24) (hH : HoldsC w (fun k => k < w.heap.size) (nest (bitsB o n)) a b c d) :
    Calls Tryz.prog 7 #[.agg #[a, b, c, d]] w fun e w' => e = .returned (.tuple #[.string ⟨#[]⟩, .int .i64 11]) ∧ Below w.heap.size w w' := by
  have C := print_any (nest_ok _) hE hH
  rw [nest_print (by rw [bitsB_len]; omega), if_pos (by rw [bitsB_len]; omega)] at C
  exact C
set_option maxRecDepth 100000 in
set_option maxHeartbeats 8000000 in
theorem deep_walk (a0 a1 : Int) (w : World) (w0 : (Lit.int .u8 a0).wf = true) (w1 : (Lit.int .u32 a1).wf = true) (hE : Env w) :
    Calls Tryz.prog 6 #[.int .u8 a0, .int .u32 a1] w fun e w' => e = .returned (.bool true) ∧ Below w.heap.size w w' := by
  obtain ⟨b1, b2⟩ := bounds_u8 w0
  obtain ⟨b3, b4⟩ := bounds_u32 w1
  obtain ⟨m, rfl⟩ : ∃ m : Nat, a0 = m := ⟨a0.toNat, by omega⟩
  obtain ⟨o, rfl⟩ : ∃ o : Nat, a1 = o := ⟨a1.toNat, by omega⟩
  obtain ⟨n, hn⟩ : ∃ n : Nat, n = m % 24 := ⟨_, rfl⟩
  have hn2 : n < 24 := by omega
  have HN := Lib.hid (show ((m : Int) % 24) = (n : Int) by omega)
  have HN2 := Lib.hid (show ((m : Int).tmod 24) = (n : Int) by rw [Int.tmod_eq_emod_of_nonneg (by omega)]; omega)
  have HIF := Lib.hid info_V
  have HE := Lib.hid hE
  have hbig := hE.big
  obtain ⟨W1, hW1⟩ : ∃ W1, W1 = w.alloc (.cells #[.int .i64 2, .string ⟨#[]⟩, .slice none 0 0, .slice none 0 0] 27) := ⟨_, rfl⟩
  have hR1 : Hid (rowC W1 w.heap.size #[.int .i64 2, .string ⟨#[]⟩, .slice none 0 0, .slice none 0 0] 27) := Lib.hid (by rw [hW1]; exact rowC_new _ _ _)
  have HB1 : Hid (Below w.heap.size w W1) := Lib.hid (by rw [hW1]; exact (Below.refl _ _).alloc (Nat.le_refl _) _)
  have HL1 : Hid (W1.heap.size = w.heap.size + 1) := Lib.hid (by rw [hW1]; exact size_alloc _ _)
  have HW1 := Lib.hid hW1
  clear hE w0 w1 hn hW1
  go_enter Tryz.func6, Tryz.ntmps6
  go_upto_region 4 with (first
    | ((with_reducible show wpList _ _ _ (⟨some 20, .build _ _, _, _, _, _⟩ :: _) _ _); refine wpList_build_as rfl 27 _ rfl #[.int .i64 2, .string ⟨#[]⟩, .slice none 0 0, .slice none 0 0] (by kernel_rfl) ?_)
    | ((with_reducible show wpList _ _ _ (⟨none, .store _ (.tmp 6) _, _, _, _, _⟩ :: _) _ _); refine wpList_store_last rfl 27 _ _ rfl w.heap.size #[.int .i64 2, .string ⟨#[]⟩, .slice none 0 0, .slice none 0 0] rfl rfl 27 zeroV4 rfl HIF.out rfl zeroV4_all ?_))
  rw [← HW1.out, HN.out]
  go_loopw [7, 8, 9, 10] (fun s e at' i wr => wr = W1 ∧ ∃ k : Nat, k ≤ n ∧ i = .int .i64 k ∧ s = .string (str (openT (bitsB o k))) ∧ e = .string (str (closeT (bitsB o k))) ∧ at' = .int .i64 (atB o k)) (fun _ _ _ i _ => n - (intOf i).toNat)
  case atStart => exact ⟨rfl, 0, Nat.zero_le _, rfl, rfl, rfl, rfl⟩
  case round =>
    obtain ⟨rfl, k, hk, rfl, rfl, rfl, rfl⟩ := hrel
    by_cases hlt : k < n
    · have k0 : (0 : Int) ≤ (k : Int) := by omega
      have k1 : (k : Int) < (n : Int) := by omega
      have k2 : (k : Int) < 24 := by omega
      have kr : Hid (k + 1 ≤ n ∧ ((k : Int) + 1 = ((k + 1 : Nat) : Int)) ∧ n - (intOf (Value.int .i64 ((k : Int) + 1))).toNat < n - (intOf (Value.int .i64 (k : Int))).toNat) := Lib.hid (by simp [intOf]; omega)
      have s1 := openT_len (bitsB o k)
      have s2 := closeT_len (bitsB o k)
      rw [bitsB_len] at s1 s2
      have z1 : ¬ 9223372036854775807 < (str (openT (bitsB o k))).size + 1 := by rw [str_size]; omega
      have z2 : ¬ 9223372036854775807 < (str (openT (bitsB o k))).size + 5 := by rw [str_size]; omega
      have z3 : ¬ 9223372036854775807 < 1 + (str (closeT (bitsB o k))).size := by rw [str_size]; omega
      have hbit := bit_u32 o k b4
      have HO := Lib.hid (str_open o k)
      by_cases h16 : k = 16
      · have k16 : ((k : Int) == 16) = true := by rw [beq_iff_eq]; omega
        have HA : Hid (((str (openT (bitsB o k))).size : Int) = (atB o (k + 1) : Nat)) := Lib.hid (by
          rw [str_size]; unfold atB; rw [if_pos (by omega), h16])
        cases hb : bitB o k
        · rw [hb] at hbit
          obtain ⟨e1, e2⟩ := HO.out.2 hb
          have HE1 := Lib.hid e1
          have HE2 := Lib.hid e2
          clear e1 e2 s1 s2 hb h16
          go_wp2
          go_roundw
          case rel => exact ⟨trivial, k + 1, kr.out.1, by rw [kr.out.2.1], by rw [HE1.out], by rw [HE2.out], by rw [HA.out]⟩
          case measure => exact kr.out.2.2
        · rw [hb] at hbit
          obtain ⟨e1, e2⟩ := HO.out.1 hb
          have HE1 := Lib.hid e1
          have HE2 := Lib.hid e2
          clear e1 e2 s1 s2 hb h16
          go_wp2
          go_roundw
          case rel => exact ⟨trivial, k + 1, kr.out.1, by rw [kr.out.2.1], by rw [HE1.out], by rw [HE2.out], by rw [HA.out]⟩
          case measure => exact kr.out.2.2
      · have k16 : ((k : Int) == 16) = false := by rw [beq_eq_false_iff_ne]; omega
        have HA : Hid (atB o k = atB o (k + 1)) := Lib.hid (by
          unfold atB
          by_cases h : 16 < k
          · rw [if_pos h, if_pos (by omega)]
          · rw [if_neg h, if_neg (by omega)])
        cases hb : bitB o k
        · rw [hb] at hbit
          obtain ⟨e1, e2⟩ := HO.out.2 hb
          have HE1 := Lib.hid e1
          have HE2 := Lib.hid e2
          clear e1 e2 s1 s2 hb h16
          go_wp2
          go_roundw
          case rel => exact ⟨trivial, k + 1, kr.out.1, by rw [kr.out.2.1], by rw [HE1.out], by rw [HE2.out], by rw [HA.out]⟩
          case measure => exact kr.out.2.2
        · rw [hb] at hbit
          obtain ⟨e1, e2⟩ := HO.out.1 hb
          have HE1 := Lib.hid e1
          have HE2 := Lib.hid e2
          clear e1 e2 s1 s2 hb h16
          go_wp2
          go_roundw
          case rel => exact ⟨trivial, k + 1, kr.out.1, by rw [kr.out.2.1], by rw [HE1.out], by rw [HE2.out], by rw [HA.out]⟩
          case measure => exact kr.out.2.2
    · obtain rfl : k = n := by omega
      have hN0 : Nst w.heap.size wr (nest (bitsFrom o k (k - k))) := by
        rw [Nat.sub_self]
        refine ⟨_, _, _, _, hR1.out, ?_⟩
        show HoldsC wr _ (.mk 2 [] [] []) _ _ _ _
        rw [HoldsC]
        exact ⟨rfl, rfl, Nat.zero_le _, .inl ⟨rfl, rfl⟩, .inl ⟨rfl, rfl⟩⟩
      have HN0 := Lib.hid hN0
      clear hN0
      go_upto_region 12 with (fail)
      go_loopw [11] (fun i wr => ∃ j : Nat, j ≤ k ∧ i = .int .i64 ((j : Int) - 1) ∧ Nst w.heap.size wr (nest (bitsFrom o k (k - j))) ∧ Below w.heap.size w wr) (fun i _ => (intOf i + 1).toNat)
      case atStart => exact ⟨k, Nat.le_refl _, rfl, HN0.out, HB1.out⟩
      case round =>
        obtain ⟨j, hj, rfl, ⟨a, b, c, d, hrow, hH⟩, hnx⟩ := hrel
        obtain ⟨rfl, rfl, ⟨x1, c1, rfl⟩, x2, c2, rfl⟩ := hH.form
        cases j with
        | zero =>
          rw [show ((0 : Nat) : Int) - 1 = -1 from rfl]
          rw [Nat.sub_zero, bitsFrom_all] at hH hrow
          have s1 := openT_len (bitsB o k)
          have s2 := closeT_len (bitsB o k)
          rw [bitsB_len] at s1 s2
          have z1 : ¬ 9223372036854775807 < (str (openT (bitsB o k))).size + 4 := by rw [str_size]; omega
          have z2 : ¬ 9223372036854775807 < (str (openT (bitsB o k))).size + 4 + (str (closeT (bitsB o k))).size := by rw [str_size, str_size]; omega
          have hsw := rowC_lt hrow
          have HX := Lib.hid (HoldsC.mono (G := fun x => x < wr.heap.size) (fun _ _ h => h) _ _ _ _ _ hH)
          have HB := Lib.hid hnx
          have HSW := Lib.hid hsw
          have HN0 := Lib.hid hn2
          by_cases h16 : 16 < k
          · have HK := Lib.hid h16
            have C1 := fun (hE' : Env wr) => parse_nest_deep (o := o) (n := k) wr hE' h16 hn2
            have C2 := fun {w' : World} {a b c d : Value} (hE' : Env w') (h : HoldsC w' (fun j => j < w'.heap.size) (nest (bitsB o k)) a b c d) => print_nest_deep hE' h16 hn2 h
            have C3 := Same_any (nest_ok (bitsB o k)) (w := wr) HX.out HX.out
            generalize hv : nest (bitsB o k) = v at *
            have h16i : (16 : Int) < (k : Int) := by omega
            have HR := Lib.hid hrow
            have HC1 := Lib.hid C1
            have HC2 : Hid (∀ {w' : World} {a b c d : Value}, Env w' → HoldsC w' (fun j => j < w'.heap.size) v a b c d → Calls Tryz.prog 7 #[.agg #[a, b, c, d]] w' fun e w'' => e = .returned (.tuple #[.string ⟨#[]⟩, .int .i64 11]) ∧ Below w'.heap.size w' w'') := Lib.hid C2
            obtain ⟨at', hat⟩ : ∃ at', at' = atB o k := ⟨_, rfl⟩
            rw [← hat] at HC1 ⊢
            clear C1 C2 C3 hv hrow hH hnx hsw hn2 h16 s1 s2 hat
            go_wp2_with (first
              | (go_at_call 8; ((with_reducible refine (HC1.out (HE.out.below HB.out)).mono ?_); rintro e w2 ⟨rfl, hb2⟩; have B2 := HB.out.trans (hb2.mono HB.out.size)))
              | ((with_reducible show wpList _ _ _ (⟨none, .store _ (.tmp 12) _, _, _, _, _⟩ :: _) _ _); refine wpList_store_last rfl 27 _ _ rfl w2.heap.size zeroV4 rfl rfl 27 zeroV4 rfl HIF.out rfl zeroV4_all ?_; have k3 := hb2.alloc hb2.size (.cells zeroV4 27); have B3 := B2.alloc B2.size (.cells zeroV4 27); have X3 := HX.out.on k3; have R3 := rowC_below HR.out k3 HSW.out; generalize w2.alloc (.cells zeroV4 27) = W3 at *)
              | ((with_reducible show wpList _ _ _ (⟨some 71, .load _ (.tmp 6), _, _, _, _⟩ :: _) _ _); refine wpList_load_row rfl 27 _ rfl w.heap.size rfl 27 #[.int .i64 v.kind, .string (str v.text), .slice x1 v.items.length c1, .slice x2 v.keys.length c2] (0, 0) _ R3 Tryz.underlying27 rfl HIF.out ?_)
              | (go_at_call 7; ((with_reducible refine (HC2.out (HE.out.below B3) X3).mono ?_); rintro e w4 ⟨rfl, hb4⟩; have B4 := B3.trans (hb4.mono B3.size)))
              | (go_at_call 9; ((with_reducible refine (noted_any w4 (HE.out.below B4)).mono ?_); rintro e w5 ⟨rfl, hb5⟩)))
            go_ret
            exact ⟨rfl, B4.trans (hb5.mono B4.size)⟩
          · have h17 : k ≤ 16 := by omega
            have C1 := fun (hE' : Env wr) => parse_nest (o := o) (n := k) wr hE' h17
            have C2 := fun {w' : World} {a b c d : Value} (hE' : Env w') (h : HoldsC w' (fun j => j < w'.heap.size) (nest (bitsB o k)) a b c d) => print_nest hE' h17 h
            have hok := nest_ok (bitsB o k)
            generalize hv : nest (bitsB o k) = v at *
            have h16i : ¬ (16 : Int) < (k : Int) := by omega
            have HR := Lib.hid hrow
            have HC1 := Lib.hid C1
            have HC2 : Hid (∀ {w' : World} {a b c d : Value}, Env w' → HoldsC w' (fun j => j < w'.heap.size) v a b c d → Calls Tryz.prog 7 #[.agg #[a, b, c, d]] w' fun e w'' => e = .returned (.tuple #[.string (str (openT (bitsB o k)) ++ ByteArray.mk #[116, 114, 117, 101] ++ str (closeT (bitsB o k))), .int .i64 0]) ∧ Below w'.heap.size w' w'') := Lib.hid C2
            have HO := Lib.hid hok
            clear C1 C2 hok hv hrow hH hnx hsw hn2 h16 h17 s1 s2
            go_wp2_with (first
              | (go_at_call 8; ((with_reducible refine (HC1.out (HE.out.below HB.out)).mono ?_); rintro e w2 ⟨V, rfl, ⟨va, vb, vc, vd, rfl, hHV⟩, hb2⟩; have B2 := HB.out.trans (hb2.mono HB.out.size); obtain ⟨rfl, rfl, ⟨y1, d1, rfl⟩, y2, d2, rfl⟩ := hHV.form))
              | ((with_reducible show wpList _ _ _ (⟨none, .store _ (.tmp 12) _, _, _, _, _⟩ :: _) _ _); refine wpList_store_last rfl 27 _ _ rfl w2.heap.size #[.int .i64 v.kind, .string (str v.text), .slice y1 v.items.length d1, .slice y2 v.keys.length d2] rfl rfl 27 zeroV4 rfl HIF.out rfl (row4_all _ _ _ _ _ _ _ _) ?_; have k2 := (Below.refl w2.heap.size w2).alloc (Nat.le_refl _) (.cells #[.int .i64 v.kind, .string (str v.text), .slice y1 v.items.length d1, .slice y2 v.keys.length d2] 27); have k3 := hb2.trans (k2.mono hb2.size); have B3 := B2.trans (k2.mono B2.size); have X3 := Lib.hid (HX.out.on k3); have R3 := Lib.hid (rowC_below HR.out k3 HSW.out); have Y3 := Lib.hid ((HoldsC.mono (G := fun x => x < w2.heap.size) (fun _ h _ => h.2) _ _ _ _ _ hHV).on k2); have S3 := Lib.hid (rowC_new w2 #[.int .i64 v.kind, .string (str v.text), .slice y1 v.items.length d1, .slice y2 v.keys.length d2] 27); clear hHV k2 k3; generalize w2.alloc (.cells #[.int .i64 v.kind, .string (str v.text), .slice y1 v.items.length d1, .slice y2 v.keys.length d2] 27) = W3 at *; have R3l := rowC_lt R3.out; have S3l := rowC_lt S3.out)
              | ((with_reducible show wpList _ _ _ (⟨some 71, .load _ (.tmp 6), _, _, _, _⟩ :: _) _ _); refine wpList_load_row rfl 27 _ rfl w.heap.size rfl 27 #[.int .i64 v.kind, .string (str v.text), .slice x1 v.items.length c1, .slice x2 v.keys.length c2] (0, 0) _ R3.out Tryz.underlying27 rfl HIF.out ?_)
              | (go_at_call 7; ((with_reducible refine (HC2.out (HE.out.below B3) X3.out).mono ?_); rintro e w4 ⟨rfl, hb4⟩; have B4 := B3.trans (hb4.mono B3.size); have R4 := Lib.hid (rowC_below R3.out hb4 R3l); have S4 := Lib.hid (rowC_below S3.out hb4 S3l); have X4 := Lib.hid (X3.out.on hb4); have Y4 := Lib.hid (Y3.out.on hb4)))
              | ((with_reducible show wpList _ _ _ (⟨some 98, .load _ (.tmp 12), _, _, _, _⟩ :: _) _ _); refine wpList_load_rowG rfl 27 _ rfl w2.heap.size rfl 27 #[.int .i64 v.kind, .string (str v.text), .slice y1 v.items.length d1, .slice y2 v.keys.length d2] _ S4.out Tryz.underlying27 rfl HIF.out ?_)
              | ((with_reducible show wpList _ _ _ (⟨some 99, .load _ (.tmp 6), _, _, _, _⟩ :: _) _ _); refine wpList_load_rowG rfl 27 _ rfl w.heap.size rfl 27 #[.int .i64 v.kind, .string (str v.text), .slice x1 v.items.length c1, .slice x2 v.keys.length c2] _ R4.out Tryz.underlying27 rfl HIF.out ?_)
              | (go_at_call 10; ((with_reducible refine (Same_any HO.out Y4.out X4.out).mono ?_); rintro e w5 ⟨rfl, hb5⟩; have B5 := B4.trans (hb5.mono B4.size)))
              | (go_at_call 9; ((with_reducible refine (noted_any w5 (HE.out.below B5)).mono ?_); rintro e w6 ⟨rfl, hb6⟩)))
            go_ret
            exact ⟨rfl, B5.trans (hb6.mono B5.size)⟩
        | succ j =>
          rw [show ((j + 1 : Nat) : Int) - 1 = (j : Int) by omega]
          have k0 : (0 : Int) ≤ (j : Int) := by omega
          have k2 : (j : Int) < 24 := by omega
          have hbit := bit_u32 o j b4
          have hB : bitsFrom o k (k - j) = bitB o j :: bitsFrom o k (k - (j + 1)) := by
            rw [show k - j = (k - (j + 1)) + 1 by omega, bitsFrom, show k - (k - (j + 1) + 1) = j by omega]
          have HM : Hid ((intOf (Value.int .i64 ((j : Int) - 1)) + 1).toNat < (intOf (Value.int .i64 (j : Int)) + 1).toNat) := Lib.hid (by simp [intOf])
          have HJ := Lib.hid hj
          have HNX := Lib.hid hnx
          have HR := Lib.hid hrow
          have hlt := rowC_lt hrow
          obtain ⟨v, hv⟩ : ∃ v, v = nest (bitsFrom o k (k - (j + 1))) := ⟨_, rfl⟩
          rw [← hv] at hrow hH HR
          cases hb : bitB o j
          · rw [hb] at hbit hB
            have HS := Lib.hid (nst_list hrow hH)
            have HE' : Hid (nest (bitsFrom o k (k - j)) = .mk 5 [] [v] []) := Lib.hid (by rw [hB, hv]; rfl)
            have HB' := Lib.hid (below_setRow (hnx.alloc hnx.size (.cells #[.int .i64 v.kind, .string (str v.text), .slice x1 v.items.length c1, .slice x2 v.keys.length c2] 27)) (Nat.le_refl w.heap.size) #[.int .i64 5, .string ⟨#[]⟩, .slice (some ⟨wr.heap.size, 0, none⟩) 1 1, .slice none 0 0])
            clear hB hb hv hH hj hrow hnx
            go_wp2_with (first
              | ((with_reducible show wpList _ _ _ (⟨some 58, .load _ (.tmp 6), _, _, _, _⟩ :: _) _ _); refine wpList_load_row rfl 27 _ rfl w.heap.size rfl 27 _ (0, 0) _ HR.out Tryz.underlying27 rfl HIF.out ?_)
              | ((with_reducible show wpList _ _ _ (⟨some 59, .buildSlice _ _ _, _, _, _, _⟩ :: _) _ _); refine wpList_oneV rfl _ rfl _ _ _ _ rfl ?_)
              | ((with_reducible show wpList _ _ _ (⟨some 60, .build _ _, _, _, _, _⟩ :: _) _ _); refine wpList_build_as rfl 27 _ rfl #[.int .i64 5, .string ⟨#[]⟩, .slice (some ⟨wr.heap.size, 0, none⟩) 1 1, .slice none 0 0] (built_l _ _ _) ?_)
              | ((with_reducible show wpList _ _ _ (⟨none, .store _ (.tmp 6) _, _, _, _, _⟩ :: _) _ _); refine wpList_store_row rfl 27 _ _ rfl w.heap.size #[.int .i64 5, .string ⟨#[]⟩, .slice (some ⟨wr.heap.size, 0, none⟩) 1 1, .slice none 0 0] rfl rfl 27 _ (rowC_alloc HR.out _) HIF.out rfl (row4_all _ _ _ _ _ _ _ _) ?_))
            go_roundw
            case rel => exact ⟨j, by have := HJ.out; omega, rfl, by rw [HE'.out]; exact HS.out, HB'.out⟩
            case measure => exact HM.out
          · rw [hb] at hbit hB
            have HS := Lib.hid (nst_obj hrow hH)
            have HE' : Hid (nest (bitsFrom o k (k - j)) = .mk 6 [] [v] [[107]]) := Lib.hid (by rw [hB, hv]; rfl)
            have hq := hnx.alloc hnx.size (.cells #[.string ⟨#[107]⟩] 9)
            have HB' := Lib.hid (below_setRow (hq.alloc hq.size (.cells #[.int .i64 v.kind, .string (str v.text), .slice x1 v.items.length c1, .slice x2 v.keys.length c2] 27)) (Nat.le_refl w.heap.size) #[.int .i64 6, .string ⟨#[]⟩, .slice (some ⟨wr.heap.size + 1, 0, none⟩) 1 1, .slice (some ⟨wr.heap.size, 0, none⟩) 1 1])
            clear hB hb hv hH hj hrow hnx hq
            go_wp2_with (first
              | ((with_reducible show wpList _ _ _ (⟨some 54, .buildSlice _ _ _, _, _, _, _⟩ :: _) _ _); refine wpList_oneS rfl _ rfl _ rfl ?_)
              | ((with_reducible show wpList _ _ _ (⟨some 55, .load _ (.tmp 6), _, _, _, _⟩ :: _) _ _); refine wpList_load_row rfl 27 _ rfl w.heap.size rfl 27 _ (0, 0) _ (rowC_alloc HR.out _) Tryz.underlying27 rfl HIF.out ?_)
              | ((with_reducible show wpList _ _ _ (⟨some 56, .buildSlice _ _ _, _, _, _, _⟩ :: _) _ _); refine wpList_oneV rfl _ rfl _ _ _ _ rfl ?_)
              | ((with_reducible show wpList _ _ _ (⟨some 57, .build _ _, _, _, _, _⟩ :: _) _ _); rw [size_alloc]; refine wpList_build_as rfl 27 _ rfl #[.int .i64 6, .string ⟨#[]⟩, .slice (some ⟨wr.heap.size + 1, 0, none⟩) 1 1, .slice (some ⟨wr.heap.size, 0, none⟩) 1 1] (built_o _ _ _ _ _ _) ?_)
              | ((with_reducible show wpList _ _ _ (⟨none, .store _ (.tmp 6) _, _, _, _, _⟩ :: _) _ _); refine wpList_store_row rfl 27 _ _ rfl w.heap.size #[.int .i64 6, .string ⟨#[]⟩, .slice (some ⟨wr.heap.size + 1, 0, none⟩) 1 1, .slice (some ⟨wr.heap.size, 0, none⟩) 1 1] rfl rfl 27 _ (rowC_alloc (rowC_alloc HR.out _) _) HIF.out rfl (row4_all _ _ _ _ _ _ _ _) ?_))
            go_roundw
            case rel => exact ⟨j, by have := HJ.out; omega, rfl, by rw [HE'.out]; exact HS.out, HB'.out⟩
            case measure => exact HM.out
end Go.Proofs.YtafmokpplnmbgaaGreatDoor
