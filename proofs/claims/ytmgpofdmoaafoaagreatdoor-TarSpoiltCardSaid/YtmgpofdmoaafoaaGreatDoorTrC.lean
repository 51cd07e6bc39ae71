/- Layer 15: the program's sum of a head, and what it reads of a head. -/
import Derived.Test.YtmgpofdmoaafoaaGreatDoorRnd
import Derived.Test.YtmgpofdmoaafoaaGreatDoorTrB
namespace Go.Proofs.YtmgpofdmoaafoaaGreatDoor
open Go.RowKit
attribute [local go_sem] wide_fn round_fn

/-- Worlds that have no more than new blocks. -/
structure After (w : World) where
  v : World
  h : Below w.heap.size w v
instance (w : World) : Nonempty (After w) := ⟨⟨w, Below.refl _ _⟩⟩
/-- A store of a whole row, where a fence lets everything through. -/
theorem wpListIn_store_row {P : Program} {n : Nat} {ops : Array Oper} {rest : List Oper} {o : Oper} {a : Act} {w : World} {Q : Exit → Act → World → Prop} (hgd : o.guard = none) (ty : TypeId) (x y : Operand) (ho : o.op = .store ty x y)
    (g : Nat) (cells : Array Value) (hx : a.eval x = .pointer (some ⟨g, 0, none⟩)) (hy : a.eval y = .agg cells)
    (t : TypeId) (old : Array Value) (hg : w.heap[g]? = some (.cells old t (0, 0))) (hi : (P.info? ty).map (·.size) = some cells.size)
    (hold : old.size = cells.size) (h1 : cells.all (·.oneCell') = true)
    (h : wpListIn Fence.wide n P ops Q rest (a.put o.dst undef) (w.setRow g cells)) : wpListIn Fence.wide n P ops Q (o :: rest) a w := by
  refine wpListIn_plain hgd fun K hK => ⟨fun f _ => trivial, ?_⟩
  rw [show Fence.wide.round = none from rfl, Oper.semAt_none]
  unfold execOp
  simp only [ho, hx, hy, Instr.storeAt, Instr.sureAddr, Sem.run_bind, Sem.run_pure, Result.andThen_ok, run_storeVar_row w g t ty old cells hg hi hold h1]
  exact hK _ _ h
set_option maxRecDepth 100000 in
set_option maxHeartbeats 4000000 in
theorem sum_any (s : Bs) (hs : s.length = 512) (w : World) :
    Calls Tryz.prog 39 #[.string (str s)] w fun e w' => e = .returned (.int .i64 ((sumH s : Nat) : Int)) ∧ w = w' := by
  have hz : (str s).size = 512 := by rw [str_size, hs]
  have HN := Lib.hid (fun (k : Nat) (h : k < 512) => sumK_next hs h)
  have HE := Lib.hid (sumK_end hs)
  have HLE := Lib.hid (fun k h => sumK_le s k h)
  have IS := Lib.hid (fun (i : Nat) (h : i < (str s).size) => idx_str (str s) i i rfl h)
  have HD := Lib.hid (fun (k : Nat) (h : k < (str s).size) => getD_data (str s) h)
  rw [str_toList] at IS HD
  have hzI : ((str s).size : Int) = 512 := by omega
  have H0 : sumK s 0 = 0 := rfl
  generalize str s = S at *
  go_enter Tryz.func39, Tryz.ntmps39
  go_wp2
  go_loop [3, 8] (fun n i => ∃ k : Nat, k ≤ 512 ∧ i = .int .i64 k ∧ n = .int .i64 ((sumK s k : Nat) : Int)) (fun _ i => 512 - (intOf i).toNat)
  case atStart => exact ⟨0, Nat.zero_le _, rfl, rfl⟩
  case round =>
    obtain ⟨k, hk, rfl, rfl⟩ := hrel
    have hle := HLE.out k hk
    by_cases hlt : k < 512
    · have i1 := IS.out k (by omega)
      have hN := Lib.hid (HN.out k hlt)
      have g1 : (k : Int) < (S.size : Int) := by omega
      have hx := HD.out k (by omega)
      have hc8 := (s.getD k 0).toNat_lt
      obtain ⟨x, hxx⟩ : ∃ x, x = (s.getD k 0).toNat := ⟨_, rfl⟩
      have hx2 : (S.data[k]'(by simpa using (show k < S.size by omega))).toNat = x := by rw [hxx, hx]
      rw [← hxx] at hN i1 hc8
      clear hx hxx
      generalize sumK s k = v at *
      by_cases h1 : k < 148
      · have hM := Lib.hid (show sumK s (k + 1) = v + x by rw [hN.out, if_neg (by omega)])
        have g2 : (k : Int) < 148 := by omega
        clear hN IS HD HN H0 h1
        go_wp2
        go_round
        case rel => exact ⟨k + 1, by omega, by go_num, by rw [hM.out]; go_num⟩
        case measure => simp [intOf]; omega
      · have g2 : ¬ (k : Int) < 148 := by omega
        by_cases h2 : k < 156
        · have hM := Lib.hid (show sumK s (k + 1) = v + 32 by rw [hN.out, if_pos ⟨by omega, h2⟩])
          have g3 : (k : Int) < 156 := by omega
          clear hN IS HD HN H0 h1 h2
          go_wp2
          go_round
          case rel => exact ⟨k + 1, by omega, by go_num, by rw [hM.out]; go_num⟩
          case measure => simp [intOf]; omega
        · have hM := Lib.hid (show sumK s (k + 1) = v + x by rw [hN.out, if_neg (by omega)])
          have g3 : ¬ (k : Int) < 156 := by omega
          clear hN IS HD HN H0 h1 h2
          go_wp2
          go_round
          case rel => exact ⟨k + 1, by omega, by go_num, by rw [hM.out]; go_num⟩
          case measure => simp [intOf]; omega
    · obtain rfl : k = 512 := by omega
      rw [HE.out]
      clear IS HD HN hlt
      go_wp2
      go_ret
      exact ⟨rfl, rfl⟩
/-- A head's row. -/
def hdV (h : Hd) : Array Value := #[.string (str h.name), .string (str h.link), .int .i64 (h.mode : Int), .int .i64 (h.size : Int), .int .u8 (h.kind.toNat : Int)]
def hd0 : Array Value := #[.string ⟨#[]⟩, .string ⟨#[]⟩, .int .i64 0, .int .i64 0, .int .u8 0]
def hdO : Option Hd → Array Value
  | none => hd0
  | some h => hdV h
theorem info_hd : (Tryz.prog.info? 56).map (·.size) = some 5 := by kernel_rfl
theorem hd_one (o : Option Hd) : (hdO o).all (·.oneCell') = true := by
  cases o with
  | none => simp [Value.oneCell', hdO, hd0]
  | some h => simp [Value.oneCell', hdO, hdV]
theorem sl_len (s : Bs) (a b : Nat) : (sl s a b).length = min b s.length - a := by
  unfold sl
  rw [List.length_drop, List.length_take]
theorem cut0_le (s : Bs) : (cut0 s).length ≤ s.length := (List.takeWhile_sublist _).length_le
set_option maxRecDepth 100000 in
set_option maxHeartbeats 4000000 in
theorem head_any (s : Bs) (hs : s.length = 512) (w : World) :
    Calls Tryz.prog 20 #[.string (str s)] w fun e w' => e = .returned (.tuple #[.agg (hdO (headR s)), .bool (headR s).isSome]) ∧ Below w.heap.size w w' := by
  have HI := Lib.hid info_hd
  obtain ⟨W0, hW0⟩ : ∃ W0, W0 = w.alloc (.cells #[.string ⟨#[]⟩, .string ⟨#[]⟩, .int .i64 0, .int .i64 0, .int .u8 0] 56) := ⟨_, rfl⟩
  have Z0 : rowC W0 w.heap.size hd0 56 := by rw [hW0]; exact rowC_new w _ _
  have B0 : Below w.heap.size w W0 := by rw [hW0]; exact (Below.refl _ _).alloc (Nat.le_refl _) _
  have S0 : W0.heap.size = w.heap.size + 1 := by rw [hW0, size_alloc]
  have HW0 := Lib.hid hW0
  have HZ0 := Lib.hid Z0
  have HB0 := Lib.hid B0
  have HS0 := Lib.hid S0
  clear hW0 Z0 B0 S0
  have hz : ((str s).size : Int) = 512 := by rw [str_size, hs]; rfl
  have fld : ∀ a b w, Calls Tryz.prog 38 #[.string ((str s).extract a b)] w fun e w' => e = .returned (.tuple #[.int .i64 (((numF (sl s a b)).getD 0 : Nat) : Int), .bool (numF (sl s a b)).isSome]) ∧ Below w.heap.size w w' := fun a b w => by
    rw [extract_str]; exact field_any _ (by rw [sl_len]; omega) w
  have txt : ∀ a b w, Calls Tryz.prog 40 #[.string ((str s).extract a b)] w fun e w' => e = .returned (.string (str (cut0 (sl s a b)))) ∧ Below w.heap.size w w' := fun a b w => by
    rw [extract_str]; exact text_any _ (by rw [sl_len]; omega) w
  have CS := fun w => sum_any s hs w
  have qm : (((str s).extract 257 265).toList == [117, 115, 116, 97, 114, 0, 48, 48]) = decide (sl s 257 265 = magicL) := by rw [extract_str]; exact eq_lit _ _
  have HH := Lib.hid (show headR s = if numF (sl s 148 156) = some (sumH s) ∧ sl s 257 265 = magicL then (match numF (sl s 100 108), numF (sl s 124 136) with | some mode, some size => some ⟨nameR s, cut0 (sl s 157 257), mode, size, s.getD 156 0⟩ | _, _ => none) else none from rfl)
  have C1 := fun w => fld 148 156 w
  have C2 := fun w => fld 100 108 w
  have C3 := fun w => fld 124 136 w
  have T1 := fun w => txt 0 100 w
  have T2 := fun w => txt 345 500 w
  have T3 := fun w => txt 157 257 w
  clear fld txt
  have HX : Hid (∀ a w1 : World, rowC a w.heap.size hd0 56 → Below w.heap.size w a → Below a.heap.size a w1 → rowC w1 w.heap.size hd0 56 ∧ Below w.heap.size w w1) := Lib.hid fun a w1 hr hb hc => ⟨rowC_below hr hc (rowC_lt hr), hb.trans (hc.mono hb.size)⟩
  cases e1 : numF (sl s 148 156) with
  | none =>
    have HR := Lib.hid (show headR s = none by rw [HH.out, e1, if_neg (by rintro ⟨h, _⟩; cases h)])
    rw [e1] at C1
    rw [Option.getD_none, Option.isSome_none] at C1
    clear HH qm T1 T2 T3 e1
    generalize str s = S at *
    go_enter Tryz.func20, Tryz.ntmps20
    go_upto_region 1 with (fail)
    rw [← HW0.out]
    have r1 := HZ0.out
    have b1 := HB0.out
    go_wp2_with (first
      | (go_at_call 38; (first | (with_reducible refine (C1 _).mono ?_) | (with_reducible refine (C2 _).mono ?_) | (with_reducible refine (C3 _).mono ?_)); rintro e w1 ⟨rfl, hB1⟩; (first | obtain ⟨r1, b1⟩ := HX.out _ w1 r1 b1 hB1))
      | (go_at_call 39; ((with_reducible refine (CS _).mono ?_); rintro e w1 ⟨rfl, rfl⟩))
      | ((with_reducible show wpList _ _ _ (⟨some 28, .build _ _, _, _, _, _⟩ :: _) _ _); refine wpList_build_as rfl 56 _ rfl hd0 (by kernel_rfl) ?_)
      | ((with_reducible show wpList _ _ _ (⟨none, .store _ (.tmp 2) _, _, _, _, _⟩ :: _) _ _); refine wpList_store_row rfl 56 _ _ rfl w.heap.size hd0 rfl rfl 56 hd0 r1 HI.out rfl (hd_one none) ?_))
    refine bodyPost_ret (results_row_tmp rfl _ _ w.heap.size 56 hd0 _ rfl (rowC_setRow r1 hd0) Tryz.underlying56 rfl HI.out _ rfl) rfl ?_
    exact ⟨by rw [HR.out]; rfl, below_setRow b1 (Nat.le_refl _) _⟩
  | some n =>
    rw [e1] at C1
    rw [Option.getD_some, Option.isSome_some] at C1
    have qs : (((n : Nat) : Int) == ((sumH s : Nat) : Int)) = decide (n = sumH s) := by rw [Bool.eq_iff_iff, beq_iff_eq, decide_eq_true_eq]; omega
    by_cases h1 : n = sumH s
    · clear qs
      subst h1
      by_cases h2 : sl s 257 265 = magicL
      · rw [decide_eq_true h2] at qm
        rw [if_pos (show numF (sl s 148 156) = some (sumH s) ∧ sl s 257 265 = magicL from ⟨e1, h2⟩)] at HH
        generalize sumH s = m at *
        clear h2 e1
        cases e2 : numF (sl s 100 108) with
        | none =>
          have HR := Lib.hid (show headR s = none by rw [HH.out, e2])
          rw [e2] at C2
          rw [Option.getD_none, Option.isSome_none] at C2
          clear HH T1 T2 T3 e2
          generalize str s = S at *
          go_enter Tryz.func20, Tryz.ntmps20
          go_upto_region 1 with (fail)
          rw [← HW0.out]
          have r1 := HZ0.out
          have b1 := HB0.out
          go_wp2_with (first
            | (go_at_call 38; (first | (with_reducible refine (C1 _).mono ?_) | (with_reducible refine (C2 _).mono ?_) | (with_reducible refine (C3 _).mono ?_)); rintro e w1 ⟨rfl, hB1⟩; (first | obtain ⟨r1, b1⟩ := HX.out _ w1 r1 b1 hB1))
            | (go_at_call 39; ((with_reducible refine (CS _).mono ?_); rintro e w1 ⟨rfl, rfl⟩))
            | ((with_reducible show wpList _ _ _ (⟨some 37, .build _ _, _, _, _, _⟩ :: _) _ _); refine wpList_build_as rfl 56 _ rfl hd0 (by kernel_rfl) ?_)
            | ((with_reducible show wpList _ _ _ (⟨none, .store _ (.tmp 2) _, _, _, _, _⟩ :: _) _ _); refine wpList_store_row rfl 56 _ _ rfl w.heap.size hd0 rfl rfl 56 hd0 r1 HI.out rfl (hd_one none) ?_))
          refine bodyPost_ret (results_row_tmp rfl _ _ w.heap.size 56 hd0 _ rfl (rowC_setRow r1 hd0) Tryz.underlying56 rfl HI.out _ rfl) rfl ?_
          exact ⟨by rw [HR.out]; rfl, below_setRow b1 (Nat.le_refl _) _⟩
        | some mode =>
          rw [e2] at C2
          rw [Option.getD_some, Option.isSome_some] at C2
          cases e3 : numF (sl s 124 136) with
          | none =>
            have HR := Lib.hid (show headR s = none by rw [HH.out, e2, e3])
            rw [e3] at C3
            rw [Option.getD_none, Option.isSome_none] at C3
            clear HH T1 T2 T3 e2 e3
            generalize str s = S at *
            go_enter Tryz.func20, Tryz.ntmps20
            go_upto_region 1 with (fail)
            rw [← HW0.out]
            have r1 := HZ0.out
            have b1 := HB0.out
            go_wp2_with (first
              | (go_at_call 38; (first | (with_reducible refine (C1 _).mono ?_) | (with_reducible refine (C2 _).mono ?_) | (with_reducible refine (C3 _).mono ?_)); rintro e w1 ⟨rfl, hB1⟩; (first | obtain ⟨r1, b1⟩ := HX.out _ w1 r1 b1 hB1))
              | (go_at_call 39; ((with_reducible refine (CS _).mono ?_); rintro e w1 ⟨rfl, rfl⟩))
              | ((with_reducible show wpList _ _ _ (⟨some 46, .build _ _, _, _, _, _⟩ :: _) _ _); refine wpList_build_as rfl 56 _ rfl hd0 (by kernel_rfl) ?_)
              | ((with_reducible show wpList _ _ _ (⟨none, .store _ (.tmp 2) _, _, _, _, _⟩ :: _) _ _); refine wpList_store_row rfl 56 _ _ rfl w.heap.size hd0 rfl rfl 56 hd0 r1 HI.out rfl (hd_one none) ?_))
            refine bodyPost_ret (results_row_tmp rfl _ _ w.heap.size 56 hd0 _ rfl (rowC_setRow r1 hd0) Tryz.underlying56 rfl HI.out _ rfl) rfl ?_
            exact ⟨by rw [HR.out]; rfl, below_setRow b1 (Nat.le_refl _) _⟩
          | some size =>
            have HR := Lib.hid (show headR s = some ⟨nameR s, cut0 (sl s 157 257), mode, size, s.getD 156 0⟩ by rw [HH.out, e2, e3])
            rw [e3] at C3
            rw [Option.getD_some, Option.isSome_some] at C3
            have i1 := idx_str (str s) 156 156 rfl (by rw [str_size, hs]; decide)
            rw [str_toList] at i1
            have HNM := Lib.hid (show nameR s = if cut0 (sl s 345 500) = [] then cut0 (sl s 0 100) else cut0 (sl s 345 500) ++ [47] ++ cut0 (sl s 0 100) from rfl)
            have qp := empty_lit (cut0 (sl s 345 500))
            have l1 : (cut0 (sl s 0 100)).length ≤ 100 := by have := cut0_le (sl s 0 100); rw [sl_len] at this; omega
            have l2 : (cut0 (sl s 345 500)).length ≤ 155 := by have := cut0_le (sl s 345 500); rw [sl_len] at this; omega
            generalize cut0 (sl s 0 100) = nm at *
            generalize cut0 (sl s 345 500) = pf at *
            generalize cut0 (sl s 157 257) = lk at *
            generalize s.getD 156 0 = kd at *
            have zn := str_size nm
            have zp := str_size pf
            have hk8 := kd.toNat_lt
            obtain ⟨kn, hkn⟩ : ∃ kn, kn = kd.toNat := ⟨_, rfl⟩
            rw [← hkn] at i1 hk8
            have HKN := Lib.hid hkn
            clear hkn
            clear HH e2 e3
            by_cases hp : pf = []
            · rw [decide_eq_true hp] at qp
              have HNE := Lib.hid (HNM.out.trans (if_pos hp))
              clear HNM hp
              generalize str s = S at *
              go_enter Tryz.func20, Tryz.ntmps20
              go_upto_region 1 with (fail)
              rw [← HW0.out]
              have r1 := HZ0.out
              have b1 := HB0.out
              go_wp2_with (first
                | (go_at_call 38; (first | (with_reducible refine (C1 _).mono ?_) | (with_reducible refine (C2 _).mono ?_) | (with_reducible refine (C3 _).mono ?_)); rintro e w1 ⟨rfl, hB1⟩; (first | obtain ⟨r1, b1⟩ := HX.out _ w1 r1 b1 hB1))
                | (go_at_call 40; (first | (with_reducible refine (T1 _).mono ?_) | (with_reducible refine (T2 _).mono ?_)); rintro e w1 ⟨rfl, hB1⟩; (first | obtain ⟨r1, b1⟩ := HX.out _ w1 r1 b1 hB1))
                | (go_at_call 39; ((with_reducible refine (CS _).mono ?_); rintro e w1 ⟨rfl, rfl⟩)))
              clear C1 C2 C3 T1 T2 CS qm qp
              have Q3 : ∀ y : After w1, CallsIn Fence.wide 3 Tryz.prog 40 #[.string (S.extract 157 257)] y.v fun e w'' => e = .returned (.string (str lk)) ∧ ∃ z : After w1, w'' = z.v := fun y =>
                (callsIn_wide.2 (T3 y.v)).mono fun e w'' ⟨he, hb⟩ => ⟨he, ⟨w'', y.h.trans (hb.mono y.h.size)⟩, rfl⟩
              clear T3
              refine (wpIn_wide (n := 4)).1 ?_
              refine region_quiet_tail (C := fun w' => ∃ z : After w1, w' = z.v) 9 (by kernel_rfl) (by kernel_rfl) (by kernel_rfl) ⟨⟨w1.drew, (Below.refl _ _).drew⟩, rfl⟩ ?_
              simp only [List.take_succ_cons, List.take_zero, List.drop_succ_cons, List.drop_zero]
              repeat (gi_big_quiet_step ((gi_at_call 40; exact Q3 _)))
              refine wpQuietIn_nil ?_
              rintro _ ⟨y, rfl⟩
              obtain ⟨r2, b2⟩ := HX.out _ y.v r1 b1 y.h
              clear Q3
              generalize y.v = w2 at *
              refine wpListIn_store_row rfl 56 _ _ rfl w.heap.size (hdV ⟨nm, lk, mode, size, kd⟩) rfl (by unfold hdV; rw [← HKN.out]; rfl) 56 hd0 r2 HI.out rfl (hd_one (some _)) ?_
              gi_wp2
              go_wp2
              refine bodyPost_ret (results_row_tmp rfl _ _ w.heap.size 56 (hdV ⟨nm, lk, mode, size, kd⟩) _ rfl (rowC_setRow r2 _) Tryz.underlying56 rfl HI.out _ rfl) rfl ?_
              exact ⟨by rw [HR.out, HNE.out]; rfl, below_setRow b2 (Nat.le_refl _) _⟩
            · rw [decide_eq_false hp] at qp
              have HNE := Lib.hid (HNM.out.trans (if_neg hp))
              have z1 : (⟨#[47]⟩ : ByteArray).size = 1 := rfl
              have zx : (str pf ++ ⟨#[47]⟩ : ByteArray).size = pf.length + 1 := by rw [ByteArray.size_append, zp, z1]
              obtain ⟨X, hXX⟩ : ∃ X, X = pf ++ [47] ++ nm := ⟨_, rfl⟩
              rw [← hXX] at HNE
              have HCAT := Lib.hid (show (str pf ++ ⟨#[47]⟩ ++ str nm : ByteArray) = str X by rw [hXX, ← str_append, ← str_append]; rfl)
              clear hXX
              clear HNM hp
              generalize str s = S at *
              go_enter Tryz.func20, Tryz.ntmps20
              go_upto_region 1 with (fail)
              rw [← HW0.out]
              have r1 := HZ0.out
              have b1 := HB0.out
              go_wp2_with (first
                | (go_at_call 38; (first | (with_reducible refine (C1 _).mono ?_) | (with_reducible refine (C2 _).mono ?_) | (with_reducible refine (C3 _).mono ?_)); rintro e w1 ⟨rfl, hB1⟩; (first | obtain ⟨r1, b1⟩ := HX.out _ w1 r1 b1 hB1))
                | (go_at_call 40; (first | (with_reducible refine (T1 _).mono ?_) | (with_reducible refine (T2 _).mono ?_)); rintro e w1 ⟨rfl, hB1⟩; (first | obtain ⟨r1, b1⟩ := HX.out _ w1 r1 b1 hB1))
                | (go_at_call 39; ((with_reducible refine (CS _).mono ?_); rintro e w1 ⟨rfl, rfl⟩)))
              clear C1 C2 C3 T1 T2 CS qm qp
              have Q3 : ∀ y : After w1, CallsIn Fence.wide 3 Tryz.prog 40 #[.string (S.extract 157 257)] y.v fun e w'' => e = .returned (.string (str lk)) ∧ ∃ z : After w1, w'' = z.v := fun y =>
                (callsIn_wide.2 (T3 y.v)).mono fun e w'' ⟨he, hb⟩ => ⟨he, ⟨w'', y.h.trans (hb.mono y.h.size)⟩, rfl⟩
              clear T3
              refine (wpIn_wide (n := 4)).1 ?_
              refine region_quiet_tail (C := fun w' => ∃ z : After w1, w' = z.v) 9 (by kernel_rfl) (by kernel_rfl) (by kernel_rfl) ⟨⟨w1.drew, (Below.refl _ _).drew⟩, rfl⟩ ?_
              simp only [List.take_succ_cons, List.take_zero, List.drop_succ_cons, List.drop_zero]
              repeat (gi_big_quiet_step ((gi_at_call 40; exact Q3 _)))
              refine wpQuietIn_nil ?_
              rintro _ ⟨y, rfl⟩
              obtain ⟨r2, b2⟩ := HX.out _ y.v r1 b1 y.h
              clear Q3
              generalize y.v = w2 at *
              refine wpListIn_store_row rfl 56 _ _ rfl w.heap.size (hdV ⟨X, lk, mode, size, kd⟩) rfl (by unfold hdV; rw [← HKN.out, ← HCAT.out]; rfl) 56 hd0 r2 HI.out rfl (hd_one (some _)) ?_
              gi_wp2
              go_wp2
              refine bodyPost_ret (results_row_tmp rfl _ _ w.heap.size 56 (hdV ⟨X, lk, mode, size, kd⟩) _ rfl (rowC_setRow r2 _) Tryz.underlying56 rfl HI.out _ rfl) rfl ?_
              exact ⟨by rw [HR.out, HNE.out]; rfl, below_setRow b2 (Nat.le_refl _) _⟩
      · have HR := Lib.hid (show headR s = none by rw [HH.out, if_neg (by rintro ⟨_, h⟩; exact h2 h)])
        rw [decide_eq_false h2] at qm
        generalize sumH s = m at *
        clear HH T1 T2 T3 e1 h2
        generalize str s = S at *
        go_enter Tryz.func20, Tryz.ntmps20
        go_upto_region 1 with (fail)
        rw [← HW0.out]
        have r1 := HZ0.out
        have b1 := HB0.out
        go_wp2_with (first
          | (go_at_call 38; (first | (with_reducible refine (C1 _).mono ?_) | (with_reducible refine (C2 _).mono ?_) | (with_reducible refine (C3 _).mono ?_)); rintro e w1 ⟨rfl, hB1⟩; (first | obtain ⟨r1, b1⟩ := HX.out _ w1 r1 b1 hB1))
          | (go_at_call 39; ((with_reducible refine (CS _).mono ?_); rintro e w1 ⟨rfl, rfl⟩))
          | ((with_reducible show wpList _ _ _ (⟨some 28, .build _ _, _, _, _, _⟩ :: _) _ _); refine wpList_build_as rfl 56 _ rfl hd0 (by kernel_rfl) ?_)
          | ((with_reducible show wpList _ _ _ (⟨none, .store _ (.tmp 2) _, _, _, _, _⟩ :: _) _ _); refine wpList_store_row rfl 56 _ _ rfl w.heap.size hd0 rfl rfl 56 hd0 r1 HI.out rfl (hd_one none) ?_))
        refine bodyPost_ret (results_row_tmp rfl _ _ w.heap.size 56 hd0 _ rfl (rowC_setRow r1 hd0) Tryz.underlying56 rfl HI.out _ rfl) rfl ?_
        exact ⟨by rw [HR.out]; rfl, below_setRow b1 (Nat.le_refl _) _⟩
    · have HR := Lib.hid (show headR s = none by rw [HH.out, e1, if_neg (by rintro ⟨h, _⟩; exact h1 (Option.some.inj h))])
      rw [decide_eq_false h1] at qs
      generalize sumH s = m at *
      clear HH qm T1 T2 T3 e1
      generalize str s = S at *
      go_enter Tryz.func20, Tryz.ntmps20
      go_upto_region 1 with (fail)
      rw [← HW0.out]
      have r1 := HZ0.out
      have b1 := HB0.out
      go_wp2_with (first
        | (go_at_call 38; (first | (with_reducible refine (C1 _).mono ?_) | (with_reducible refine (C2 _).mono ?_) | (with_reducible refine (C3 _).mono ?_)); rintro e w1 ⟨rfl, hB1⟩; (first | obtain ⟨r1, b1⟩ := HX.out _ w1 r1 b1 hB1))
        | (go_at_call 39; ((with_reducible refine (CS _).mono ?_); rintro e w1 ⟨rfl, rfl⟩))
        | ((with_reducible show wpList _ _ _ (⟨some 28, .build _ _, _, _, _, _⟩ :: _) _ _); refine wpList_build_as rfl 56 _ rfl hd0 (by kernel_rfl) ?_)
        | ((with_reducible show wpList _ _ _ (⟨none, .store _ (.tmp 2) _, _, _, _, _⟩ :: _) _ _); refine wpList_store_row rfl 56 _ _ rfl w.heap.size hd0 rfl rfl 56 hd0 r1 HI.out rfl (hd_one none) ?_))
      refine bodyPost_ret (results_row_tmp rfl _ _ w.heap.size 56 hd0 _ rfl (rowC_setRow r1 hd0) Tryz.underlying56 rfl HI.out _ rfl) rfl ?_
      exact ⟨by rw [HR.out]; rfl, below_setRow b1 (Nat.le_refl _) _⟩
end Go.Proofs.YtmgpofdmoaafoaaGreatDoor
