/- Layer 11: JsonBack's walk. -/
import Derived.Test.YtcepemgalammhaaGreatDoorM02
import Derived.Test.YtcepemgalammhaaGreatDoorM01
import Derived.Deep.RegionHeld3
import Derived.BigQuiet
namespace Go.Proofs.YtcepemgalammhaaGreatDoor
open Go.RowKit

theorem range_row4 {w : World} {b : Nat} {k : Int} {t : ByteArray} {x1 : Option Addr} {n1 c1 : Nat} {x2 : Option Addr} {n2 c2 : Nat} {T : TypeId} (h : rowC w b (row4 k t x1 n1 c1 x2 n2 c2) T) : w.rangeAt b 0 [.int .i64 k, .string t, .slice x1 n1 c1, .slice x2 n2 c2] := fun j v hv => by
  rw [Nat.zero_add, rowC_cell h]
  simpa [row4] using hv
theorem at4.range {w : World} {g o : Nat} {a b c d : Value} (h : at4 w ⟨g, o, none⟩ a b c d) : w.rangeAt g o [a, b, c, d] := fun j v hv => by
  have := h j v hv
  unfold Addr.add at this
  by_cases hj : j = 0
  · subst hj
    exact this
  · rw [if_neg hj] at this
    exact this
theorem held_two {LMM R1 R2 : World → Prop} (h1 : ∀ w', LMM w' → R1 w') (h2 : ∀ w', LMM w' → R2 w') : ∃ SS : World → Prop, (∀ w', LMM w' → SS w') ∧ (∀ w', SS w' → LMM w' ∧ R1 w' ∧ R2 w') :=
  ⟨LMM, fun _ h => h, fun w' h => ⟨h, h1 w' h, h2 w' h⟩⟩
set_option maxRecDepth 100000 in
set_option maxHeartbeats 16000000 in
theorem back_any {w : World} {xp : Option Addr} {cp : Nat} {l : List Part1} {s : Bs} {cut : Nat} (CB : Calls Tryz.prog 5 #[.slice xp l.length cp] w fun e w' => BuildSays w e w') (hcut : cut < 65536) (hE : Env w) :
    Calls Tryz.prog 3 #[.slice xp l.length cp, .string (str s), .int .u16 (cut : Int)] w fun e w' => e = .returned (.bool true) ∧ Below w.heap.size w w' := by
  have HE := Lib.hid hE
  have HIF := Lib.hid info_V
  have HI8 := Lib.hid info_8
  have hsz := str_size s
  clear hE
  go_enter Tryz.func3, Tryz.ntmps3
  go_upto_region 2 with (first
    | (go_at_call 5; ((with_reducible refine CB.mono ?_); rintro e w1 hw1; obtain ⟨k1, t1, x1, n1, c1, y1, p1, q1, ok, u, rfl, i1, o1, b1⟩ := build_says hw1; have HIN1 := Lib.hid i1; have HO1 := Lib.hid o1; have HB1 := Lib.hid b1; clear i1 o1 b1 hw1 CB))
    | ((with_reducible show wpList _ _ _ (⟨none, .store _ (.tmp 7) (.tmp 25), _, _, _, _⟩ :: _) _ _); refine wpList_store_last rfl 27 _ _ rfl w1.heap.size (row4 k1 t1 x1 n1 c1 y1 p1 q1) rfl rfl 27 zeroV4 rfl HIF.out rfl (row4_all _ _ _ _ _ _ _ _) ?_))
  obtain ⟨W1, hW1⟩ : ∃ W1, W1 = w1.alloc (.cells (row4 k1 t1 x1 n1 c1 y1 p1 q1) 27) := ⟨_, rfl⟩
  rw [← hW1]
  have R1 : Hid (rowC W1 w1.heap.size (row4 k1 t1 x1 n1 c1 y1 p1 q1) 27) := Lib.hid (by rw [hW1]; exact rowC_new _ _ _)
  have BW1 : Hid (Below w1.heap.size w1 W1) := Lib.hid (by rw [hW1]; exact (Below.refl _ _).alloc (Nat.le_refl _) _)
  have D1 : Hid (Below w.heap.size w W1) := Lib.hid (HB1.out.trans (BW1.out.mono HB1.out.size))
  have I1 : Hid (In4 W1 u k1 t1 x1 n1 c1 y1 p1 q1) := Lib.hid (HIN1.out.on BW1.out)
  have E1 : Hid (Env W1) := Lib.hid (HE.out.below D1.out)
  clear hW1 BW1 HIN1 HB1
  cases ok
  · go_wp2_with (first
      | (go_at_call 6; ((with_reducible refine (noted_any _ E1.out).mono ?_); rintro e w2 ⟨rfl, b2⟩)))
    go_ret
    exact ⟨rfl, D1.out.trans (b2.mono D1.out.size)⟩
  by_cases h6 : 600 < s.length
  · have h6' : (600 : Int) < (s.length : Int) := by omega
    go_wp2_with (first
      | (go_at_call 6; ((with_reducible refine (noted_any _ E1.out).mono ?_); rintro e w2 ⟨rfl, b2⟩)))
    go_ret
    exact ⟨rfl, D1.out.trans (b2.mono D1.out.size)⟩
  have h6' : ¬ (600 : Int) < (s.length : Int) := by omega
  have CR := read_says s (by omega) W1 E1.out
  go_upto_region 5 with (first
    | (go_at_call 7; ((with_reducible refine CR.mono ?_); rintro e w2 ⟨k2, t2, x2, n2, c2, y2, p2, q2, at2, code, v, rfl, i2, ⟨o2, s2⟩, b2⟩; have HIN2 := Lib.hid i2; have HO2 := Lib.hid o2; have HS2 := Lib.hid s2; have HB2 := Lib.hid b2; clear i2 o2 s2 b2 CR))
    | ((with_reducible show wpList _ _ _ (⟨none, .store _ (.tmp 9) (.tmp 38), _, _, _, _⟩ :: _) _ _); refine wpList_store_last rfl 27 _ _ rfl w2.heap.size (row4 k2 t2 x2 n2 c2 y2 p2 q2) rfl rfl 27 zeroV4 rfl HIF.out rfl (row4_all _ _ _ _ _ _ _ _) ?_))
  obtain ⟨W2, hW2⟩ : ∃ W2, W2 = w2.alloc (.cells (row4 k2 t2 x2 n2 c2 y2 p2 q2) 27) := ⟨_, rfl⟩
  rw [← hW2]
  have R2 : Hid (rowC W2 w2.heap.size (row4 k2 t2 x2 n2 c2 y2 p2 q2) 27) := Lib.hid (by rw [hW2]; exact rowC_new _ _ _)
  have BW2 : Hid (Below w2.heap.size w2 W2) := Lib.hid (by rw [hW2]; exact (Below.refl _ _).alloc (Nat.le_refl _) _)
  have F2 : Hid (Below W1.heap.size W1 W2) := Lib.hid (HB2.out.trans (BW2.out.mono HB2.out.size))
  have R1' : Hid (rowC W2 w1.heap.size (row4 k1 t1 x1 n1 c1 y1 p1 q1) 27) := Lib.hid (rowC_below R1.out F2.out (rowC_lt R1.out))
  have D2 : Hid (Below w.heap.size w W2) := Lib.hid (D1.out.trans (F2.out.mono D1.out.size))
  have I1' : Hid (In4 W2 u k1 t1 x1 n1 c1 y1 p1 q1) := Lib.hid (I1.out.on F2.out)
  have I2 : Hid (In4 W2 v k2 t2 x2 n2 c2 y2 p2 q2) := Lib.hid (HIN2.out.on BW2.out)
  clear hW2 BW2 HIN2 HB2 R1 D1 I1 E1 F2
  go_upto_region 6 with (first
    | ((with_reducible show wpList _ _ _ (⟨some 41, .load _ (.tmp 7), _, _, _, _⟩ :: _) _ _); refine wpList_load_row rfl 27 _ rfl w1.heap.size rfl 27 (row4 k1 t1 x1 n1 c1 y1 p1 q1) (0, 0) _ R1'.out Tryz.underlying27 rfl HIF.out ?_)
    | ((with_reducible show wpList _ _ _ (⟨some 42, .load _ (.tmp 9), _, _, _, _⟩ :: _) _ _); refine wpList_load_row rfl 27 _ rfl w2.heap.size rfl 27 (row4 k2 t2 x2 n2 c2 y2 p2 q2) (0, 0) _ R2.out Tryz.underlying27 rfl HIF.out ?_)
    | ((with_reducible show wpList _ _ _ (⟨some 43, .build _ _, _, _, _, _⟩ :: _) _ _); refine wpList_build_as rfl 34 _ rfl (row8 k1 t1 x1 n1 c1 y1 p1 q1 k2 t2 x2 n2 c2 y2 p2 q2) (by kernel_rfl) ?_)
    | ((with_reducible show wpList _ _ _ (⟨none, .store _ (.tmp 12) (.tmp 43), _, _, _, _⟩ :: _) _ _); refine wpList_store_last rfl 34 _ _ rfl W2.heap.size (row8 k1 t1 x1 n1 c1 y1 p1 q1 k2 t2 x2 n2 c2 y2 p2 q2) rfl rfl 34 zeroV8 rfl HI8.out rfl (row8_all _ _ _ _ _ _ _ _ _ _ _ _ _ _ _ _) ?_))
  obtain ⟨cs, hcs⟩ : ∃ cs, cs = row8 k1 t1 x1 n1 c1 y1 p1 q1 k2 t2 x2 n2 c2 y2 p2 q2 := ⟨_, rfl⟩
  rw [← hcs]
  obtain ⟨W3, hW3⟩ : ∃ W3, W3 = W2.alloc (.cells cs 34) := ⟨_, rfl⟩
  rw [← hW3]
  have BW3 : Hid (Below W2.heap.size W2 W3) := Lib.hid (by rw [hW3]; exact (Below.refl _ _).alloc (Nat.le_refl _) _)
  have D3 := D2.out.trans (BW3.out.mono D2.out.size)
  have M3 : Hid (BkM w W2.heap.size code u v cs k1 t1 x1 n1 c1 y1 p1 q1 k2 t2 x2 n2 c2 y2 p2 q2 W3) := Lib.hid ⟨D3, HE.out.below D3, hcs, by rw [hW3]; exact rowC_new _ _ _, I1'.out.on BW3.out, I2.out.on BW3.out, HO1.out, HO2.out, HS2.out⟩
  obtain ⟨g, hg⟩ : ∃ g, g = W2.heap.size := ⟨_, rfl⟩
  rw [← hg] at M3 ⊢
  clear hW3 BW3 D3 hcs hg R1' R2 D2 I1' I2 HO1 HO2 HS2 h6 h6' hsz
  go_upto_region 7 with (fail)
  go_loopw [13] (fun i wr => ∃ k : Nat, k ≤ 2 ∧ i = .int .i64 k ∧ BkM w g code u v cs k1 t1 x1 n1 c1 y1 p1 q1 k2 t2 x2 n2 c2 y2 p2 q2 wr) (fun i _ => 2 - (intOf i).toNat)
  case atStart => exact ⟨0, by decide, rfl, M3.out⟩
  case round =>
    clear M3
    obtain ⟨i, hi, rfl, hM⟩ := hrel
    have HM := Lib.hid hM
    by_cases hi2 : i = 2
    · subst hi2
      clear hM
      go_wp2_with (first
        | (go_at_call 6; ((with_reducible refine (noted_any _ HM.out.env).mono ?_); rintro e w4 ⟨rfl, b4⟩)))
      go_ret
      exact ⟨rfl, HM.out.b.trans (b4.mono HM.out.b.size)⟩
    obtain ⟨o, V, k, t, x, n, c, y, p, q, hok, hk, hG, hio⟩ := hM.get (show i < 2 by omega)
    have CP := print_any hok hM.env (hG wr (Below.refl _ _)).1
    have HG := Lib.hid hG
    have HK := Lib.hid hok
    have HKK := Lib.hid hk
    clear hM hG hok hk
    by_cases hC : (printA V).2 = 0
    · obtain ⟨l0, l1⟩ := back_len hC
      have CF := fun w => full_says hC w
      have CC := fun w => cut_says hC (Nat.mod_lt cut l0) w
      rw [hC] at CP
      obtain ⟨L, hL⟩ : ∃ L, L = (printA V).1.length := ⟨_, rfl⟩
      obtain ⟨X, hX⟩ : ∃ X, X = str (printA V).1 := ⟨_, rfl⟩
      have xs : X.size = L := by rw [hX, hL]; exact str_size _
      rw [← hL] at CC l0 l1
      obtain ⟨m, hm⟩ : ∃ m, m = cut % L := ⟨_, rfl⟩
      have hmL : m < L := by rw [hm]; exact Nat.mod_lt _ l0
      have hx : X.extract 0 m = str ((printA V).1.take m) := by rw [hX]; exact take_text _ _
      have hrem : (cut : Int).tmod (L : Int) = (m : Int) := by rw [Int.tmod_eq_emod_of_nonneg (by omega), hm]; omega
      rw [← hm, ← hx] at CC
      rw [← hX] at CF CP
      have z1 : ((L : Int) == 0) = false := by rw [beq_eq_false_iff_ne]; omega
      have z2 : ¬ (L : Int) = 0 := by omega
      have z3 : (m : Int) ≤ (L : Int) := by omega
      have z4 : (0 : Int) ≤ (m : Int) := by omega
      have z5 : (cut : Int) < 65536 := by omega
      have z6 : (0 : Int) ≤ (cut : Int) := by omega
      have z7 : (L : Int) ≤ 65536 := by omega
      clear hX hL hx hm l0 l1
      rcases hio with ⟨rfl, rfl⟩ | ⟨rfl, rfl, rfl, _⟩ | ⟨rfl, rfl, hcd⟩
      all_goals (
        go_upto_region 13 with (first
          | ((with_reducible show wpList _ _ _ (⟨some 51, .load _ (.tmp 50), _, _, _, _⟩ :: _) _ _); refine wpList_load_at rfl 27 _ rfl _ rfl [.int .i64 k, .string t, .slice x n c, .slice y p q] _ (HG.out wr (Below.refl _ _)).2 Tryz.underlying27 rfl HIF.out ?_)
          | (go_at_call 8; ((with_reducible refine CP.mono ?_); rintro e w4 ⟨rfl, b4⟩; have B4 := Lib.hid b4; clear b4 CP)))
        go_upto_region 14 with (first
          | (go_at_call 7; ((with_reducible refine (CF _ (HM.out.env.below B4.out)).mono ?_); rintro e w5 ⟨k5, t5, x5, n5, c5, y5, p5, q5, at5, code5, v5, rfl, i5, ⟨hv5, rfl⟩, b5⟩; rw [hv5] at i5; clear hv5 v5; have I5 := Lib.hid i5; have B5 := Lib.hid b5; clear i5 b5 CF))
          | ((with_reducible show wpList _ _ _ (⟨none, .store _ (.tmp 16) (.tmp 74), _, _, _, _⟩ :: _) _ _); refine wpList_store_last rfl 27 _ _ rfl w5.heap.size (row4 k5 t5 x5 n5 c5 y5 p5 q5) rfl rfl 27 zeroV4 rfl HIF.out rfl (row4_all _ _ _ _ _ _ _ _) ?_))
        obtain ⟨W5, hW5⟩ : ∃ W5, W5 = w5.alloc (.cells (row4 k5 t5 x5 n5 c5 y5 p5 q5) 27) := ⟨_, rfl⟩
        rw [← hW5]
        have BB5 : Below w5.heap.size w5 W5 := by rw [hW5]; exact (Below.refl _ _).alloc (Nat.le_refl _) _
        have P5 : Hid (Below wr.heap.size wr W5) := Lib.hid ((B4.out.trans (B5.out.mono B4.out.size)).trans (BB5.mono (Nat.le_trans B4.out.size B5.out.size)))
        have R5 : rowC W5 w5.heap.size (row4 k5 t5 x5 n5 c5 y5 p5 q5) 27 := by rw [hW5]; exact rowC_new _ _ _
        have J5 : In4 W5 V k5 t5 x5 n5 c5 y5 p5 q5 := I5.out.on BB5
        obtain ⟨NY, hNY⟩ : ∃ NY : List Value, NY = [.int .i64 k5, .string t5, .slice x5 n5 c5, .slice y5 p5 q5] := ⟨_, rfl⟩
        obtain ⟨NV, hNV⟩ : ∃ NV : List Value, NV = [.int .i64 k, .string t, .slice x n c, .slice y p q] := ⟨_, rfl⟩
        obtain ⟨LMM, hLM⟩ : ∃ LMM : World → Prop, LMM = fun w' => Below W5.heap.size W5 w' := ⟨_, rfl⟩
        have MT : ∀ w', LMM w' → Below W5.heap.size W5 w' := fun w' h => by rw [hLM] at h; exact h
        have TM : ∀ w', Below W5.heap.size W5 w' → LMM w' := fun w' h => by rw [hLM]; exact h
        have md : LMM W5.drew := TM _ (Below.refl _ _).drew
        have PA : ∀ w', LMM w' → Below wr.heap.size wr w' := fun w' h => P5.out.trans ((MT w' h).mono P5.out.size)
        have R1 : ∀ w', LMM w' → w'.rangeAt w5.heap.size 0 NY := fun w' h => by rw [hNY]; exact range_row4 (rowC_below R5 (MT w' h) (rowC_lt R5))
        have R2 := fun w' (h : LMM w') => (HG.out w' (PA w' h)).2.range
        rw [← hNV] at R2
        have CSm : ∀ w', LMM w' → Calls Tryz.prog 9 #[.agg NY.toArray, .agg NV.toArray] w' fun e w'' => e = .returned (.bool true) ∧ LMM w'' := fun w' h => by
          rw [hNY, hNV]
          exact (Same_any HK.out (J5.on (MT w' h)) (HG.out w' (PA w' h)).1).mono fun e w'' ⟨he, hb⟩ => ⟨he, TM _ ((MT w' h).trans (hb.mono (MT w' h).size))⟩
        have hu := Tryz.underlying27
        have hA1 : (Tryz.prog.info? 27).map (·.size) = some NY.length := by rw [hNY]; exact HIF.out
        have hA2 : (Tryz.prog.info? 27).map (·.size) = some NV.length := by rw [hNV]; exact HIF.out
        have HPA := Lib.hid PA
        clear hNY hNV hLM MT TM PA J5 R5 BB5 hW5 I5 B5
        generalize w5.heap.size = gy at *
        obtain ⟨SS, SO, OS⟩ := held_two R1 R2
        clear R1 R2
        refine wp_region_noPanic ?_
        refine wp_region_held_drew (S := SS) (by kernel_rfl) (SO _ md) (fun hHeld => ?_)
        refine wpAnyH_take (i := 0) (oi := { dst := some 77, op := Op.move (Operand.tmp 14), type := 9, pos := "outright.go:27", after := #[], guard := none }) (v := ?_) rfl (by kernel_rfl) (by kernel_rfl) (by kernel_rfl) (fun _ _ _ h => h) (Or.inl ⟨by rfl, ?_⟩) (by assumption) ?_
        rotate_left
        · intro w hSw
          skip
          clear hSw
          go_simp
          try with_reducible rfl
        try simp only [Act.put, List.setIfInBounds_toArray, List.set_cons_zero, List.set_cons_succ]
        refine wpAnyH_take (i := 1) (oi := { dst := some 78, op := Op.call { callee := Callee.builtin Builtin.len, args := #[Operand.tmp 77], argTypes := #[9] }, type := 3, pos := "outright.go:27", after := #[{ on := 0, ground := Ground.data }], guard := none }) (v := ?_) rfl (by kernel_rfl) (by kernel_rfl) (by kernel_rfl) (fun _ _ _ h => h) (Or.inl ⟨by rfl, ?_⟩) (by assumption) ?_
        rotate_left
        · intro w hSw
          skip
          clear hSw
          go_simp
          try with_reducible rfl
        try simp only [Act.put, List.setIfInBounds_toArray, List.set_cons_zero, List.set_cons_succ]
        refine wpAnyH_take (i := 2) (oi := { dst := some 79, op := Op.binOp BinOp.eql 3 (Operand.tmp 78) (Operand.const (Value.int IntKind.i64 0)) 3, type := 4, pos := "outright.go:27", after := #[{ on := 1, ground := Ground.data }], guard := none }) (v := ?_) rfl (by kernel_rfl) (by kernel_rfl) (by kernel_rfl) (fun _ _ _ h => h) (Or.inl ⟨by rfl, ?_⟩) (by assumption) ?_
        rotate_left
        · intro w hSw
          skip
          clear hSw
          go_simp
          try with_reducible rfl
        try simp only [Act.put, List.setIfInBounds_toArray, List.set_cons_zero, List.set_cons_succ]
        refine wpAnyH_take (i := 3) (oi := { dst := some 80, op := Op.move (Operand.tmp 79), type := 4, pos := "outright.go:27", after := #[{ on := 2, ground := Ground.data }], guard := none }) (v := ?_) rfl (by kernel_rfl) (by kernel_rfl) (by kernel_rfl) (fun _ _ _ h => h) (Or.inl ⟨by rfl, ?_⟩) (by assumption) ?_
        rotate_left
        · intro w hSw
          skip
          clear hSw
          go_simp
          try with_reducible rfl
        try simp only [Act.put, List.setIfInBounds_toArray, List.set_cons_zero, List.set_cons_succ]
        refine wpAnyH_take (i := 4) (oi := { dst := some 81, op := Op.move (Operand.tmp 18), type := 31, pos := "outright.go:27", after := #[{ on := 3, ground := Ground.guard }], guard := some (3, false) }) (v := ?_) rfl (by kernel_rfl) (by kernel_rfl) (by kernel_rfl) (fun _ _ _ h => h) (Or.inl ⟨by rfl, ?_⟩) (by assumption) ?_
        rotate_left
        · intro w hSw
          skip
          clear hSw
          go_simp
          try with_reducible rfl
        try simp only [Act.put, List.setIfInBounds_toArray, List.set_cons_zero, List.set_cons_succ]
        refine wpAnyH_take (i := 5) (oi := { dst := some 82, op := Op.binOp BinOp.neq 31 (Operand.tmp 81) (Operand.const (Value.int IntKind.i64 0)) 31, type := 4, pos := "outright.go:27", after := #[{ on := 4, ground := Ground.data }, { on := 3, ground := Ground.guard }], guard := some (3, false) }) (v := ?_) rfl (by kernel_rfl) (by kernel_rfl) (by kernel_rfl) (fun _ _ _ h => h) (Or.inl ⟨by rfl, ?_⟩) (by assumption) ?_
        rotate_left
        · intro w hSw
          skip
          clear hSw
          go_simp
          try with_reducible rfl
        try simp only [Act.put, List.setIfInBounds_toArray, List.set_cons_zero, List.set_cons_succ]
        refine wpAnyH_take (i := 6) (oi := { dst := some 83, op := Op.pick (Operand.tmp 80) (Operand.const (Value.bool true)) (Operand.tmp 82), type := 4, pos := "outright.go:27", after := #[{ on := 3, ground := Ground.data }, { on := 5, ground := Ground.data }], guard := none }) (v := ?_) rfl (by kernel_rfl) (by kernel_rfl) (by kernel_rfl) (fun _ _ _ h => h) (Or.inl ⟨by rfl, ?_⟩) (by assumption) ?_
        rotate_left
        · intro w hSw
          skip
          clear hSw
          go_simp
          try with_reducible rfl
        try simp only [Act.put, List.setIfInBounds_toArray, List.set_cons_zero, List.set_cons_succ]
        refine wpAnyH_take (i := 7) (oi := { dst := some 84, op := Op.move (Operand.tmp 83), type := 4, pos := "outright.go:27", after := #[{ on := 6, ground := Ground.data }, { on := 3, ground := Ground.chain }], guard := none }) (v := ?_) rfl (by kernel_rfl) (by kernel_rfl) (by kernel_rfl) (fun _ _ _ h => h) (Or.inl ⟨by rfl, ?_⟩) (by assumption) ?_
        rotate_left
        · intro w hSw
          skip
          clear hSw
          go_simp
          try with_reducible rfl
        try simp only [Act.put, List.setIfInBounds_toArray, List.set_cons_zero, List.set_cons_succ]
        refine wpAnyH_take (i := 9) (oi := { dst := some 86, op := Op.move (Operand.tmp 13), type := 3, pos := "outright.go:27", after := #[{ on := 7, ground := Ground.guard }], guard := some (7, false) }) (v := ?_) rfl (by kernel_rfl) (by kernel_rfl) (by kernel_rfl) (fun _ _ _ h => h) (Or.inl ⟨by rfl, ?_⟩) (by assumption) ?_
        rotate_left
        · intro w hSw
          skip
          clear hSw
          go_simp
          try with_reducible rfl
        try simp only [Act.put, List.setIfInBounds_toArray, List.set_cons_zero, List.set_cons_succ]
        refine wpAnyH_take (i := 10) (oi := { dst := some 87, op := Op.indexAddr 34 (Operand.tmp 12) (Operand.tmp 86), type := 0, pos := "outright.go:27", after := #[{ on := 9, ground := Ground.data }, { on := 7, ground := Ground.guard }], guard := some (7, false) }) (v := ?_) rfl (by kernel_rfl) (by kernel_rfl) (by kernel_rfl) (fun _ _ _ h => h) (Or.inl ⟨by rfl, ?_⟩) (by assumption) ?_
        rotate_left
        · intro w hSw
          skip
          clear hSw
          go_simp
          try with_reducible rfl
        try simp only [Act.put, List.setIfInBounds_toArray, List.set_cons_zero, List.set_cons_succ]
        refine wpAnyH_take (i := 8) (oi := { dst := some 85, op := Op.load 27 (Operand.tmp 16), type := 27, pos := "outright.go:27", after := #[{ on := 7, ground := Ground.guard }], guard := some (7, false) }) (v := _) rfl (by kernel_rfl) (by kernel_rfl) (by kernel_rfl) (fun _ _ _ h => h) (yieldsIf_load_mid (by rfl) _ _ rfl _ _ rfl _ _ (by intro w hSw; have hSw := OS _ hSw; go_split_ands; assumption) (by assumption) rfl (by assumption)) (by assumption) ?_
        try simp only [Act.put, List.setIfInBounds_toArray, List.set_cons_zero, List.set_cons_succ]
        refine wpAnyH_take (i := 11) (oi := { dst := some 88, op := Op.load 27 (Operand.tmp 87), type := 27, pos := "outright.go:27", after := #[{ on := 10, ground := Ground.data }, { on := 7, ground := Ground.guard }], guard := some (7, false) }) (v := _) rfl (by kernel_rfl) (by kernel_rfl) (by kernel_rfl) (fun _ _ _ h => h) (yieldsIf_load_mid (by rfl) _ _ rfl _ _ rfl _ _ (by intro w hSw; have hSw := OS _ hSw; go_split_ands; assumption) (by assumption) rfl (by assumption)) (by assumption) ?_
        try simp only [Act.put, List.setIfInBounds_toArray, List.set_cons_zero, List.set_cons_succ]
        refine wpAnyH_ready (rs := [12]) (by kernel_rfl) (by simp) ?_
        refine (AllReadyH.cons (o := { dst := some 89, op := Op.call { callee := Callee.value (Operand.func 9), args := #[Operand.tmp 85, Operand.tmp 88], argTypes := #[27, 27] }, type := 4, pos := "outright.go:27", after := #[{ on := 8, ground := Ground.data }, { on := 11, ground := Ground.data }, { on := 7, ground := Ground.chain }, { on := 7, ground := Ground.guard }], guard := some (7, false) }) rfl (fun K hK => ?_) AllReadyH.nil)
        go_simp
        refine (CSm _ (by assumption)).mono ?_
        rintro e w12' ⟨rfl, m12'⟩
        refine hK.out _ _ (SO _ (by assumption)) (fun hHeld => ?_)
        clear hK K
        try simp only [Act.put, List.setIfInBounds_toArray, List.set_cons_zero, List.set_cons_succ]
        refine wpAnyH_take (i := 13) (oi := { dst := some 90, op := Op.unOp UnOp.not 4 (Operand.tmp 89), type := 4, pos := "outright.go:27", after := #[{ on := 12, ground := Ground.data }, { on := 7, ground := Ground.guard }], guard := some (7, false) }) (v := ?_) rfl (by kernel_rfl) (by kernel_rfl) (by kernel_rfl) (fun _ _ _ h => h) (Or.inl ⟨by rfl, ?_⟩) (by assumption) ?_
        rotate_left
        · intro w hSw
          skip
          clear hSw
          go_simp
          try with_reducible rfl
        try simp only [Act.put, List.setIfInBounds_toArray, List.set_cons_zero, List.set_cons_succ]
        refine wpAnyH_take (i := 14) (oi := { dst := some 91, op := Op.pick (Operand.tmp 84) (Operand.const (Value.bool true)) (Operand.tmp 90), type := 4, pos := "outright.go:27", after := #[{ on := 7, ground := Ground.data }, { on := 13, ground := Ground.data }], guard := none }) (v := ?_) rfl (by kernel_rfl) (by kernel_rfl) (by kernel_rfl) (fun _ _ _ h => h) (Or.inl ⟨by rfl, ?_⟩) (by assumption) ?_
        rotate_left
        · intro w hSw
          skip
          clear hSw
          go_simp
          try with_reducible rfl
        try simp only [Act.put, List.setIfInBounds_toArray, List.set_cons_zero, List.set_cons_succ]
        refine wpAnyH_done (by kernel_rfl) ?_ _
        refine NoPanic.normal ?_
        clear CSm SO OS hu hA1 hA2 hHeld
        go_upto_region 17 with (first
          | (go_at_call 7; ((with_reducible refine (CC _ (HM.out.env.below (HPA.out _ (by assumption)))).mono ?_); rintro e w6 ⟨k6, t6, x6, n6, c6, y6, p6, q6, at6, code6, v6, rfl, _, h6, b6⟩; have H6 := Lib.hid h6; have P6 := Lib.hid ((HPA.out _ (by assumption)).trans (b6.mono (HPA.out _ (by assumption)).size)); clear h6 b6 CC))
          | ((with_reducible show wpList _ _ _ (⟨none, .store _ (.tmp 19) (.tmp 101), _, _, _, _⟩ :: _) _ _); refine wpList_store_last rfl 27 _ _ rfl w6.heap.size (row4 k6 t6 x6 n6 c6 y6 p6 q6) rfl rfl 27 zeroV4 rfl HIF.out rfl (row4_all _ _ _ _ _ _ _ _) ?_))
        obtain ⟨W6, hW6⟩ : ∃ W6, W6 = w6.alloc (.cells (row4 k6 t6 x6 n6 c6 y6 p6 q6) 27) := ⟨_, rfl⟩
        rw [← hW6]
        have P7 : Hid (Below wr.heap.size wr W6) := Lib.hid (by rw [hW6]; exact P6.out.alloc P6.out.size _)
        have hcell := (HG.out W6 P7.out).2 0 _ rfl
        unfold Addr.add at hcell
        rw [if_pos rfl] at hcell
        clear hW6 P6
        by_cases hk3 : k = 3
        · subst hk3
          go_wp2
          go_roundw
          case rel => first | exact ⟨1, by decide, rfl, HM.out.step P7.out⟩ | exact ⟨2, by decide, rfl, HM.out.step P7.out⟩ | ((repeat apply Exists.intro); exact ⟨⟨1, by decide, rfl, HM.out.step P7.out⟩, rfl⟩) | ((repeat apply Exists.intro); exact ⟨⟨2, by decide, rfl, HM.out.step P7.out⟩, rfl⟩)
          case measure => simp [intOf]
        · obtain ⟨hc10, hat6⟩ := H6.out (by rw [← HKK.out]; exact hk3)
          subst hc10
          have y1 : (k == 3) = false := by rw [beq_eq_false_iff_ne]; exact hk3
          have y2 : ¬ (m : Int) < (at6 : Int) := by omega
          go_wp2
          go_roundw
          case rel => first | exact ⟨1, by decide, rfl, HM.out.step P7.out⟩ | exact ⟨2, by decide, rfl, HM.out.step P7.out⟩ | ((repeat apply Exists.intro); exact ⟨⟨1, by decide, rfl, HM.out.step P7.out⟩, rfl⟩) | ((repeat apply Exists.intro); exact ⟨⟨2, by decide, rfl, HM.out.step P7.out⟩, rfl⟩)
          case measure => simp [intOf])
    · obtain ⟨C, hCC⟩ : ∃ C, C = (printA V).2 := ⟨_, rfl⟩
      obtain ⟨X, hX⟩ : ∃ X, X = str (printA V).1 := ⟨_, rfl⟩
      rw [← hCC, ← hX] at CP
      rw [← hCC] at hC hio
      have e1 : ((C : Int) == 0) = false := by rw [beq_eq_false_iff_ne]; omega
      have e2 : ¬ (C : Int) = 0 := by omega
      clear hCC hX
      rcases hio with ⟨rfl, rfl⟩ | ⟨rfl, rfl, rfl, h0 | rfl⟩ | ⟨rfl, rfl, hcd⟩
      case inr.inl.inl => exact absurd h0 hC
      all_goals (
        clear hC
        go_wp2_with (first
          | ((with_reducible show wpList _ _ _ (⟨some 51, .load _ (.tmp 50), _, _, _, _⟩ :: _) _ _); refine wpList_load_at rfl 27 _ rfl _ rfl [.int .i64 k, .string t, .slice x n c, .slice y p q] _ (HG.out wr (Below.refl _ _)).2 Tryz.underlying27 rfl HIF.out ?_)
          | (go_at_call 8; ((with_reducible refine CP.mono ?_); rintro e w4 ⟨rfl, b4⟩; have B4 := Lib.hid b4; clear b4 CP)))
        go_roundw
        case rel => first | exact ⟨1, by decide, rfl, HM.out.step B4.out⟩ | exact ⟨2, by decide, rfl, HM.out.step B4.out⟩ | ((repeat apply Exists.intro); exact ⟨⟨1, by decide, rfl, HM.out.step B4.out⟩, rfl⟩) | ((repeat apply Exists.intro); exact ⟨⟨2, by decide, rfl, HM.out.step B4.out⟩, rfl⟩)
        case measure => simp [intOf])
end Go.Proofs.YtcepemgalammhaaGreatDoor
