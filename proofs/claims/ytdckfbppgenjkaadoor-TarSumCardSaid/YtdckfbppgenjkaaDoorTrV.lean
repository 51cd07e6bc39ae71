/- Layer 15: TarBack walked. -/
import Derived.Test.YtdckfbppgenjkaaDoorTrU
namespace Go.Proofs.YtdckfbppgenjkaaDoor
open Go.RowKit
attribute [local go_sem] wide_fn round_fn

/-- What the law does not turn away. -/
theorem great_no {l : List Ent} {m : Nat} (h : greatB l m = false) : l.length ≤ m ∧ ∀ x ∈ l, x.name.length ≤ 300 ∧ x.to.length ≤ 300 ∧ x.data.length ≤ 1500 := by
  unfold greatB at h
  rw [Bool.or_eq_false_iff, decide_eq_false_iff_not, List.any_eq_false] at h
  refine ⟨by omega, fun x hx => ?_⟩
  have := h.1 x hx
  unfold bigE at this
  simp only [Bool.or_eq_true, decide_eq_true_eq, not_or] at this
  omega
theorem write_ok {l : List Ent} (hn : l.length ≤ 200) (h : l.all mayE = true) : writeL l = (encL l ++ zerosL 1024, 0) := by
  unfold writeL; rw [if_neg (by omega), if_pos h]
theorem write_no {l : List Ent} (hn : l.length ≤ 200) (h : l.all mayE = false) : writeL l = ([], 2) := by
  unfold writeL; rw [if_neg (by omega), if_neg (by rw [h]; decide)]
theorem all_entP {l : List Ent} (h : l.all mayE = true) (hd : ∀ x ∈ l, x.data.length ≤ 1000000) : ∀ x ∈ l, EntP x := fun x hx =>
  ⟨(mayE_iff x).1 (List.all_eq_true.1 h x hx), Nat.lt_of_le_of_lt (hd x hx) (by decide)⟩
theorem run_mk (n : Nat) (hn : n ≤ 1000000) (w : World) : (Instr.makeSlice 29 (.int .i64 (n : Int)) (.int .i64 (n : Int))).run Tryd.prog w = .ok (.slice (some ⟨w.heap.size, 0, none⟩) n n) (w.alloc (.cells (madeCells (Value.int IntKind.u8 0).cells (n * 1)) 5)) := by
  obtain ⟨i0, hi, hz0, hz1, hz2⟩ := info_parts info_u8
  have := run_makeSlice (P := Tryd.prog) w 29 5 i0 (.int .u8 0) Tryd.underlying29 hi hz0 .i64 .i64 (n : Int) (n : Int) (by omega) (by omega) (by rw [hz1]; omega) (by rw [hz2]; omega) (by omega)
  rw [hz1, Int.toNat_natCast] at this
  exact this
theorem run_cv (n : Nat) (hn : n ≤ 1000000) (w : World) : (convert 29 9 (.slice (some ⟨w.heap.size, 0, none⟩) n n)).run Tryd.prog (w.alloc (.cells (madeCells (Value.int IntKind.u8 0).cells (n * 1)) 5)) = .ok (.string (str (zerosL n))) (w.alloc (.cells (madeCells (Value.int IntKind.u8 0).cells (n * 1)) 5)) := by
  obtain ⟨i0, hi, hz0, hz1, hz2⟩ := info_parts info_u8
  obtain ⟨w', h1, h2, _⟩ := run_makeSlice_full w w.heap.size 29 5 i0 (.int .u8 0) 1 Tryd.underlying29 hi hz0 hz1 .i64 .i64 n (by omega) (by rw [hz2]; omega) (by unfold maxLen; omega) (Nat.le_refl _)
  rw [run_mk n hn w] at h1
  cases h1
  exact zeros_conv h2
theorem run_mkK (w : World) : (Instr.makeSlice 29 (.int .i64 1024) (.int .i64 1024)).run Tryd.prog w = .ok (.slice (some ⟨w.heap.size, 0, none⟩) 1024 1024) (w.alloc (.cells (madeCells #[Value.int IntKind.u8 0] 1024) 5)) := run_mk 1024 (by decide) w
theorem run_cvK (w : World) : (convert 29 9 (.slice (some ⟨w.heap.size, 0, none⟩) 1024 1024)).run Tryd.prog (w.alloc (.cells (madeCells #[Value.int IntKind.u8 0] 1024) 5)) = .ok (.string (str (zerosL 1024))) (w.alloc (.cells (madeCells #[Value.int IntKind.u8 0] 1024) 5)) := run_cv 1024 (by decide) w
set_option maxRecDepth 100000 in
set_option maxHeartbeats 32000000 in
theorem back_any (l : List Ent) (ad : Option Addr) (c cut : Nat) (hcut : cut < 65536) (hlen : l.length ≤ maxLen) (w : World) (hE : EnvT w) (h : EntsAt w ad l) :
    Calls Tryd.prog 3 #[.slice ad l.length c, .int .u16 (cut : Int)] w fun e w' => e = .returned (.bool true) ∧ Below w.heap.size w w' := by
  have CG := great_any l ad c 12 hlen w h
  rw [show ((12 : Nat) : Int) = 12 from rfl] at CG
  cases hg : greatB l 12 with
  | true =>
    rw [hg] at CG
    have HP := packed_any w hE
    go_enter Tryd.func3, Tryd.ntmps3
    go_wp2_with (first
      | (go_at_call 6; ((with_reducible refine CG.mono ?_); rintro e w1 ⟨rfl, rfl⟩))
      | (go_at_call 7; ((with_reducible refine HP.mono ?_); rintro e w2 ⟨rfl, hb⟩)))
    go_ret
    exact ⟨rfl, hb⟩
  | false =>
    rw [hg] at CG
    obtain ⟨hl12, hsm⟩ := great_no hg
    have hd : ∀ x ∈ l, x.data.length ≤ 1000000 := fun x hx => by have := hsm x hx; omega
    have CW := writes_any l ad c hd hlen w hE h
    cases hall : l.all mayE with
    | false =>
      rw [write_no (by omega) hall] at CW
      dsimp only at CW
      have HE := Lib.hid hE
      clear hE
      go_enter Tryd.func3, Tryd.ntmps3
      go_upto_region 4 with (first
        | (go_at_call 6; ((with_reducible refine CG.mono ?_); rintro e w1 ⟨rfl, rfl⟩))
        | (go_at_call 8; ((with_reducible refine CW.mono ?_); rintro e w2 ⟨rfl, hb⟩)))
      have HP := packed_any w2 (HE.out.below hb)
      rw [show str [] = ⟨#[]⟩ from rfl]
      go_wp2_with (first
        | (go_at_call 7; ((with_reducible refine HP.mono ?_); rintro e w3 ⟨rfl, hb3⟩)))
      go_ret
      exact ⟨rfl, hb.trans (hb3.mono hb.size)⟩
    | true =>
      have hP := all_entP hall hd
      rw [write_ok (by omega) hall] at CW
      dsimp only at CW
      have hlm := encL_len l
      have hmost := encL_most l (fun x hx => ⟨(hP x hx).may, (hsm x hx).2.2⟩)
      have hN : (encL l ++ zerosL 1024).length = (encL l).length + 1024 := by rw [List.length_append, zerosL_len]
      have r0 : readR (encL l ++ zerosL 1024) none [] = (0, l) := by rw [read_all l _ [] hP (by simp; omega), readR_end 1024 _ (Nat.le_refl _), List.nil_append]
      have r1 : readR ((encL l ++ zerosL 1024).take (cut % ((encL l).length + 512))) none [] = (10, []) := read_cut l [] _ hP (by simp; omega) (Nat.mod_lt _ (by omega))
      have r2 : readR (encL l ++ zerosL 1024 ++ [120]) none [] = (10, []) := by rw [List.append_assoc, read_all l _ [] hP (by simp; omega), readR_behind _ 120 (by decide)]
      have r3 : readR (encL l ++ zerosL 1024 ++ zerosL (cut % 2000)) none [] = (0, l) := by rw [List.append_assoc, zerosL_add, read_all l _ [] hP (by simp; omega), readR_end _ _ (by omega), List.nil_append]
      have C0 := read_any _ (by rw [hN]; omega)
      rw [r0] at C0
      have C1 := read_any ((encL l ++ zerosL 1024).take (cut % ((encL l).length + 512))) (by rw [List.length_take, hN]; omega)
      rw [r1] at C1
      have C2 := read_any (encL l ++ zerosL 1024 ++ [120]) (by rw [List.length_append, hN, List.length_singleton]; omega)
      rw [r2] at C2
      have C3 := read_any (encL l ++ zerosL 1024 ++ zerosL (cut % 2000)) (by rw [List.length_append, hN, zerosL_len]; omega)
      rw [r3] at C3
      clear r0 r1 r2 r3
      dsimp only at C0 C1 C2 C3
      obtain ⟨M, hM⟩ : ∃ M, M = (encL l).length := ⟨_, rfl⟩
      rw [← hM] at C1 hN hlm hmost
      have ez : (str (encL l ++ zerosL 1024)).extract M (M + 1024) = str (zerosL 1024) := by
        rw [extract_str, sl, hM]
        rw [List.take_of_length_le (by rw [List.length_append, zerosL_len]; omega), List.drop_left]
      have e1 : str ((encL l ++ zerosL 1024).take (cut % (M + 512))) = (str (encL l ++ zerosL 1024)).extract 0 (cut % (M + 512)) := by rw [extract_str, sl, List.drop_zero]
      rw [e1] at C1
      have e2 : str (encL l ++ zerosL 1024 ++ [120]) = str (encL l ++ zerosL 1024) ++ ⟨#[120]⟩ := (str_append _ _).symm
      rw [e2] at C2
      have e3 : str (encL l ++ zerosL 1024 ++ zerosL (cut % 2000)) = str (encL l ++ zerosL 1024) ++ str (zerosL (cut % 2000)) := (str_append _ _).symm
      rw [e3] at C3
      clear e1 e2 e3
      have hz : (str (encL l ++ zerosL 1024)).size = M + 1024 := by rw [str_size, hN]
      generalize str (encL l ++ zerosL 1024) = S at *
      obtain ⟨Z, hZ⟩ : ∃ Z, Z = str (zerosL 1024) := ⟨_, rfl⟩
      rw [← hZ] at ez
      have HMK := Lib.hid run_mkK
      have HCV : Hid (∀ w : World, (convert 29 9 (.slice (some ⟨w.heap.size, 0, none⟩) 1024 1024)).run Tryd.prog (w.alloc (.cells (madeCells #[Value.int IntKind.u8 0] 1024) 5)) = .ok (.string Z) (w.alloc (.cells (madeCells #[Value.int IntKind.u8 0] 1024) 5))) := Lib.hid (by rw [hZ]; exact run_cvK)
      have hM9 : M ≤ 100000 := by omega
      have HE := Lib.hid hE
      have HEN := Lib.hid h
      have H0 := Lib.hid C0
      have H1 := Lib.hid C1
      have H2 := Lib.hid C2
      have H3 := Lib.hid C3
      have HLL := Lib.hid hlen
      have HL12 := Lib.hid hl12
      clear C0 C1 C2 C3 hE h hP hsm hd hall hg hM hmost hN hlen hZ
      go_enter Tryd.func3, Tryd.ntmps3
      go_upto_region 6 with (first
        | (go_at_call 6; ((with_reducible refine CG.mono ?_); rintro e w1 ⟨rfl, rfl⟩))
        | (go_at_call 8; ((with_reducible refine CW.mono ?_); rintro e w2 ⟨rfl, hb⟩)))
      have B2 := Lib.hid hb
      clear hb CG CW
      have g1 : ¬ ((M : Int) + 1024 < 1024) := by omega
      have g2 : ((M : Int) + 1024).tmod 512 = 0 := by rw [Int.tmod_eq_emod_of_nonneg (by omega)]; omega
      have g3 : (0 : Int) ≤ (M : Int) := by omega
      have g4 : IntKind.i64.wrap (M : Int) = (M : Int) := IntWalk.i64_in _ (by omega)
      have g5 : (M : Int) ≤ (M : Int) + 1024 := by omega
      have no : ∀ k : Nat, ¬ False := fun _ h => h
      refine wp_region_noPanic ?_
      refine wp_region_held_drew (S := Gn w2 (fun _ => False)) (by kernel_rfl) (Gn.start _ _) (fun hHeld => ?_)
      have OS : ∀ w', Gn w2 (fun _ => False) w' → True := fun _ _ => trivial
      have SO : ∀ w', Gn w2 (fun _ => False) w' → Gn w2 (fun _ => False) w' := fun _ h => h
      generalize w2.drew = wd at *
      refine wpAnyH_take (i := 0) (oi := { dst := some 34, op := Op.move (Operand.tmp 5), type := 9, pos := "outright.go:19", after := #[], guard := none }) (v := ?_) rfl (by kernel_rfl) (by kernel_rfl) (by kernel_rfl) (fun _ _ _ h => h) (Or.inl ⟨by rfl, ?_⟩) (by assumption) ?_
      rotate_left
      · intro w hSw
        skip
        clear hSw
        go_simp
        try with_reducible rfl
      try simp only [Act.put, List.setIfInBounds_toArray, List.set_cons_zero, List.set_cons_succ]
      refine wpAnyH_take (i := 1) (oi := { dst := some 35, op := Op.call { callee := Callee.builtin Builtin.len, args := #[Operand.tmp 34], argTypes := #[9] }, type := 3, pos := "outright.go:19", after := #[{ on := 0, ground := Ground.data }], guard := none }) (v := ?_) rfl (by kernel_rfl) (by kernel_rfl) (by kernel_rfl) (fun _ _ _ h => h) (Or.inl ⟨by rfl, ?_⟩) (by assumption) ?_
      rotate_left
      · intro w hSw
        skip
        clear hSw
        go_simp
        try with_reducible rfl
      try simp only [Act.put, List.setIfInBounds_toArray, List.set_cons_zero, List.set_cons_succ]
      refine wpAnyH_take (i := 2) (oi := { dst := some 36, op := Op.binOp BinOp.lss 3 (Operand.tmp 35) (Operand.const (Value.int IntKind.i64 1024)) 3, type := 4, pos := "outright.go:19", after := #[{ on := 1, ground := Ground.data }], guard := none }) (v := ?_) rfl (by kernel_rfl) (by kernel_rfl) (by kernel_rfl) (fun _ _ _ h => h) (Or.inl ⟨by rfl, ?_⟩) (by assumption) ?_
      rotate_left
      · intro w hSw
        skip
        clear hSw
        go_simp
        try with_reducible rfl
      try simp only [Act.put, List.setIfInBounds_toArray, List.set_cons_zero, List.set_cons_succ]
      refine wpAnyH_take (i := 3) (oi := { dst := some 37, op := Op.move (Operand.tmp 36), type := 4, pos := "outright.go:19", after := #[{ on := 2, ground := Ground.data }], guard := none }) (v := ?_) rfl (by kernel_rfl) (by kernel_rfl) (by kernel_rfl) (fun _ _ _ h => h) (Or.inl ⟨by rfl, ?_⟩) (by assumption) ?_
      rotate_left
      · intro w hSw
        skip
        clear hSw
        go_simp
        try with_reducible rfl
      try simp only [Act.put, List.setIfInBounds_toArray, List.set_cons_zero, List.set_cons_succ]
      refine wpAnyH_take (i := 4) (oi := { dst := some 38, op := Op.move (Operand.tmp 5), type := 9, pos := "outright.go:19", after := #[{ on := 3, ground := Ground.guard }], guard := some (3, false) }) (v := ?_) rfl (by kernel_rfl) (by kernel_rfl) (by kernel_rfl) (fun _ _ _ h => h) (Or.inl ⟨by rfl, ?_⟩) (by assumption) ?_
      rotate_left
      · intro w hSw
        skip
        clear hSw
        go_simp
        try with_reducible rfl
      try simp only [Act.put, List.setIfInBounds_toArray, List.set_cons_zero, List.set_cons_succ]
      refine wpAnyH_take (i := 5) (oi := { dst := some 39, op := Op.call { callee := Callee.builtin Builtin.len, args := #[Operand.tmp 38], argTypes := #[9] }, type := 3, pos := "outright.go:19", after := #[{ on := 4, ground := Ground.data }, { on := 3, ground := Ground.guard }], guard := some (3, false) }) (v := ?_) rfl (by kernel_rfl) (by kernel_rfl) (by kernel_rfl) (fun _ _ _ h => h) (Or.inl ⟨by rfl, ?_⟩) (by assumption) ?_
      rotate_left
      · intro w hSw
        skip
        clear hSw
        go_simp
        try with_reducible rfl
      try simp only [Act.put, List.setIfInBounds_toArray, List.set_cons_zero, List.set_cons_succ]
      refine wpAnyH_take (i := 6) (oi := { dst := some 40, op := Op.binOp BinOp.rem 3 (Operand.tmp 39) (Operand.const (Value.int IntKind.i64 512)) 3, type := 3, pos := "outright.go:19", after := #[{ on := 5, ground := Ground.data }, { on := 3, ground := Ground.guard }], guard := some (3, false) }) (v := ?_) rfl (by kernel_rfl) (by kernel_rfl) (by kernel_rfl) (fun _ _ _ h => h) (Or.inl ⟨by rfl, ?_⟩) (by assumption) ?_
      rotate_left
      · intro w hSw
        skip
        clear hSw
        go_simp
        try with_reducible rfl
      try simp only [Act.put, List.setIfInBounds_toArray, List.set_cons_zero, List.set_cons_succ]
      refine wpAnyH_take (i := 7) (oi := { dst := some 41, op := Op.binOp BinOp.neq 3 (Operand.tmp 40) (Operand.const (Value.int IntKind.i64 0)) 3, type := 4, pos := "outright.go:19", after := #[{ on := 6, ground := Ground.data }, { on := 3, ground := Ground.guard }], guard := some (3, false) }) (v := ?_) rfl (by kernel_rfl) (by kernel_rfl) (by kernel_rfl) (fun _ _ _ h => h) (Or.inl ⟨by rfl, ?_⟩) (by assumption) ?_
      rotate_left
      · intro w hSw
        skip
        clear hSw
        go_simp
        try with_reducible rfl
      try simp only [Act.put, List.setIfInBounds_toArray, List.set_cons_zero, List.set_cons_succ]
      refine wpAnyH_take (i := 8) (oi := { dst := some 42, op := Op.pick (Operand.tmp 37) (Operand.const (Value.bool true)) (Operand.tmp 41), type := 4, pos := "outright.go:19", after := #[{ on := 3, ground := Ground.data }, { on := 7, ground := Ground.data }], guard := none }) (v := ?_) rfl (by kernel_rfl) (by kernel_rfl) (by kernel_rfl) (fun _ _ _ h => h) (Or.inl ⟨by rfl, ?_⟩) (by assumption) ?_
      rotate_left
      · intro w hSw
        skip
        clear hSw
        go_simp
        try with_reducible rfl
      try simp only [Act.put, List.setIfInBounds_toArray, List.set_cons_zero, List.set_cons_succ]
      refine wpAnyH_take (i := 9) (oi := { dst := some 43, op := Op.move (Operand.tmp 42), type := 4, pos := "outright.go:19", after := #[{ on := 8, ground := Ground.data }, { on := 3, ground := Ground.chain }], guard := none }) (v := ?_) rfl (by kernel_rfl) (by kernel_rfl) (by kernel_rfl) (fun _ _ _ h => h) (Or.inl ⟨by rfl, ?_⟩) (by assumption) ?_
      rotate_left
      · intro w hSw
        skip
        clear hSw
        go_simp
        try with_reducible rfl
      try simp only [Act.put, List.setIfInBounds_toArray, List.set_cons_zero, List.set_cons_succ]
      refine wpAnyH_take (i := 10) (oi := { dst := some 44, op := Op.move (Operand.tmp 5), type := 9, pos := "outright.go:19", after := #[{ on := 9, ground := Ground.guard }], guard := some (9, false) }) (v := ?_) rfl (by kernel_rfl) (by kernel_rfl) (by kernel_rfl) (fun _ _ _ h => h) (Or.inl ⟨by rfl, ?_⟩) (by assumption) ?_
      rotate_left
      · intro w hSw
        skip
        clear hSw
        go_simp
        try with_reducible rfl
      try simp only [Act.put, List.setIfInBounds_toArray, List.set_cons_zero, List.set_cons_succ]
      refine wpAnyH_take (i := 11) (oi := { dst := some 45, op := Op.move (Operand.tmp 5), type := 9, pos := "outright.go:19", after := #[{ on := 9, ground := Ground.guard }], guard := some (9, false) }) (v := ?_) rfl (by kernel_rfl) (by kernel_rfl) (by kernel_rfl) (fun _ _ _ h => h) (Or.inl ⟨by rfl, ?_⟩) (by assumption) ?_
      rotate_left
      · intro w hSw
        skip
        clear hSw
        go_simp
        try with_reducible rfl
      try simp only [Act.put, List.setIfInBounds_toArray, List.set_cons_zero, List.set_cons_succ]
      refine wpAnyH_take (i := 12) (oi := { dst := some 46, op := Op.call { callee := Callee.builtin Builtin.len, args := #[Operand.tmp 45], argTypes := #[9] }, type := 3, pos := "outright.go:19", after := #[{ on := 11, ground := Ground.data }, { on := 9, ground := Ground.guard }], guard := some (9, false) }) (v := ?_) rfl (by kernel_rfl) (by kernel_rfl) (by kernel_rfl) (fun _ _ _ h => h) (Or.inl ⟨by rfl, ?_⟩) (by assumption) ?_
      rotate_left
      · intro w hSw
        skip
        clear hSw
        go_simp
        try with_reducible rfl
      try simp only [Act.put, List.setIfInBounds_toArray, List.set_cons_zero, List.set_cons_succ]
      refine wpAnyH_take (i := 13) (oi := { dst := some 47, op := Op.binOp BinOp.sub 3 (Operand.tmp 46) (Operand.const (Value.int IntKind.i64 1024)) 3, type := 3, pos := "outright.go:19", after := #[{ on := 12, ground := Ground.data }, { on := 9, ground := Ground.guard }], guard := some (9, false) }) (v := ?_) rfl (by kernel_rfl) (by kernel_rfl) (by kernel_rfl) (fun _ _ _ h => h) (Or.inl ⟨by rfl, ?_⟩) (by assumption) ?_
      rotate_left
      · intro w hSw
        skip
        clear hSw
        go_simp
        try with_reducible rfl
      try simp only [Act.put, List.setIfInBounds_toArray, List.set_cons_zero, List.set_cons_succ]
      refine wpAnyH_take (i := 14) (oi := { dst := some 48, op := Op.slice 9 (Operand.tmp 44) (some (Operand.tmp 47)) none none, type := 9, pos := "outright.go:19", after := #[{ on := 10, ground := Ground.data }, { on := 13, ground := Ground.data }, { on := 9, ground := Ground.guard }], guard := some (9, false) }) (v := ?_) rfl (by kernel_rfl) (by kernel_rfl) (by kernel_rfl) (fun _ _ _ h => h) (Or.inl ⟨by rfl, ?_⟩) (by assumption) ?_
      rotate_left
      · intro w hSw
        skip
        clear hSw
        go_simp
        try with_reducible rfl
      try simp only [Act.put, List.setIfInBounds_toArray, List.set_cons_zero, List.set_cons_succ]
      refine wpAnyH_ready (rs := [15]) (by kernel_rfl) (by simp) ?_
      refine (AllReadyH.cons (o := { dst := some 49, op := Op.makeSlice 29 (Operand.const (Value.int IntKind.i64 1024)) (Operand.const (Value.int IntKind.i64 1024)), type := 29, pos := "outright.go:19", after := #[{ on := 9, ground := Ground.guard }], guard := some (9, false) }) rfl (fun K hK => ?_) AllReadyH.nil)
      have mk := HMK.out
      go_simp
      refine hK.out _ _ (SO _ (by first | assumption | exact Gn.alloc (by assumption) _)) (fun hHeld => ?_)
      clear hK K
      try simp only [Act.put, List.setIfInBounds_toArray, List.set_cons_zero, List.set_cons_succ]
      refine wpAnyH_ready (rs := [16]) (by kernel_rfl) (by simp) ?_
      refine (AllReadyH.cons (o := { dst := some 50, op := Op.convert 29 9 (Operand.tmp 49), type := 9, pos := "outright.go:19", after := #[{ on := 15, ground := Ground.data }, { on := 9, ground := Ground.guard }], guard := some (9, false) }) rfl (fun K hK => ?_) AllReadyH.nil)
      have cv := HCV.out
      go_simp
      refine hK.out _ _ (SO _ (by first | assumption | exact Gn.alloc (by assumption) _)) (fun hHeld => ?_)
      clear hK K
      try simp only [Act.put, List.setIfInBounds_toArray, List.set_cons_zero, List.set_cons_succ]
      refine wpAnyH_take (i := 17) (oi := { dst := some 51, op := Op.binOp BinOp.neq 9 (Operand.tmp 48) (Operand.tmp 50) 9, type := 4, pos := "outright.go:19", after := #[{ on := 14, ground := Ground.data }, { on := 16, ground := Ground.data }, { on := 9, ground := Ground.guard }], guard := some (9, false) }) (v := ?_) rfl (by kernel_rfl) (by kernel_rfl) (by kernel_rfl) (fun _ _ _ h => h) (Or.inl ⟨by rfl, ?_⟩) (by assumption) ?_
      rotate_left
      · intro w hSw
        skip
        clear hSw
        go_simp
        try with_reducible rfl
      try simp only [Act.put, List.setIfInBounds_toArray, List.set_cons_zero, List.set_cons_succ]
      refine wpAnyH_take (i := 18) (oi := { dst := some 52, op := Op.pick (Operand.tmp 43) (Operand.const (Value.bool true)) (Operand.tmp 51), type := 4, pos := "outright.go:19", after := #[{ on := 9, ground := Ground.data }, { on := 17, ground := Ground.data }], guard := none }) (v := ?_) rfl (by kernel_rfl) (by kernel_rfl) (by kernel_rfl) (fun _ _ _ h => h) (Or.inl ⟨by rfl, ?_⟩) (by assumption) ?_
      rotate_left
      · intro w hSw
        skip
        clear hSw
        go_simp
        try with_reducible rfl
      try simp only [Act.put, List.setIfInBounds_toArray, List.set_cons_zero, List.set_cons_succ]
      refine wpAnyH_done (by kernel_rfl) ?_ _

      refine NoPanic.normal ?_
      have B3 := Lib.hid (B2.out.trans ((Chg.below hHeld (Nat.le_refl _) (fun _ _ => id)).mono B2.out.size))
      clear hHeld HMK HCV mk cv B2 OS SO no g1 g2 g4 ez
      generalize wd.alloc (Obj.cells (madeCells #[Value.int IntKind.u8 0] 1024) 5) = w3 at *
      go_upto_region 9 with (first
        | (go_at_call 9; ((with_reducible refine (H0.out _).mono ?_); rintro e w4 ⟨v7, rfl, ho7, b4⟩; obtain ⟨a7, c7, rfl⟩ := owns_form ho7; have E7 := Lib.hid ho7.ents; have B4 := Lib.hid (B3.out.trans (b4.mono B3.out.size)); clear ho7 b4 B3)))
      clear H0
      have q2 : 0 ≤ (cut : Int) % ((M : Int) + 1024 - 512) := Int.emod_nonneg _ (by omega)
      have q3 : (cut : Int) % ((M : Int) + 1024 - 512) ≤ (M : Int) + 1024 := by
        have := Int.emod_lt_of_pos (cut : Int) (show 0 < (M : Int) + 1024 - 512 by omega)
        omega
      go_upto_region 10 with (first
        | (go_at_call 9; ((with_reducible refine (H1.out _).mono ?_); rintro e w5 ⟨v9, rfl, ho9, b5⟩; clear ho9; have B5 := Lib.hid (B4.out.trans (b5.mono B4.out.size)); have D5 := Lib.hid b5; clear b5 B4)))
      clear H1 q2 q3
      go_upto_region 11 with (first
        | (go_at_call 9; ((with_reducible refine (H2.out _).mono ?_); rintro e w6 ⟨v11, rfl, ho11, b6⟩; clear ho11; have B6 := Lib.hid (B5.out.trans (b6.mono B5.out.size)); have D6 := Lib.hid (D5.out.trans (b6.mono D5.out.size)); clear b6 B5 D5)))
      clear H2
      obtain ⟨i0, hi, hz0, hz1, hz2⟩ := info_parts info_u8
      have zs : (str (zerosL (cut % 2000))).size = cut % 2000 := by rw [str_size, zerosL_len]
      have HZC : Hid (∀ {w : World} {base g : Nat}, w.ownsRow base 5 1 (.slice (some ⟨g, 0, none⟩) (cut % 2000) (cut % 2000)) (cut % 2000) (madeCells (Value.int IntKind.u8 0).cells (cut % 2000 * 1)).toList → (convert 29 9 (.slice (some ⟨g, 0, none⟩) (cut % 2000) (cut % 2000))).run Tryd.prog w = .ok (.string (str (zerosL (cut % 2000)))) w) := Lib.hid (fun h => zeros_conv h)
      generalize str (zerosL (cut % 2000)) = ZM at *
      go_upto_region 12 with (first
        | (at_make; go_loud (refine wpList_make_full _ rfl _ _ 29 rfl w6.heap.size 5 i0 (.int .u8 0) 1 Tryd.underlying29 hi hz0 hz1 .i64 .i64 _ _ (cut % 2000) rfl rfl rfl rfl (by rw [hz2]; omega) (by unfold maxLen; omega) (Nat.le_refl _) ?_; intro w7 hown7 hgrow7; have hcv := HZC.out hown7; have b7 := (Below.refl w6.heap.size w6).grown hgrow7 (Nat.le_refl _) (fun j hj => by cases hj); have B7 := Lib.hid (B6.out.trans (b7.mono B6.out.size)); have D7 := Lib.hid (D6.out.trans (b7.mono D6.out.size)); clear hown7 hgrow7 b7 B6 D6))
        | (go_at_call 9; ((with_reducible refine (H3.out _).mono ?_); rintro e w8 ⟨v13, rfl, ho13, b8⟩; obtain ⟨a13, c13, rfl⟩ := owns_form ho13; have E13 := Lib.hid ho13.ents; have B8 := Lib.hid (B7.out.trans (b8.mono B7.out.size)); have D8 := Lib.hid (D7.out.trans (b8.mono D7.out.size)); clear ho13 b8 B7 D7 hcv)))
      clear H3
      have C1 := same_any l l a7 ad c7 c w8 (E7.out.far D8.out (Nat.le_refl _)) (HEN.out.far B8.out (Nat.le_refl _)) HLL.out
      rw [decide_eq_true rfl] at C1
      have C2 : ∀ W, Below w8.heap.size w8 W → Calls Tryd.prog 10 #[.slice a13 l.length c13, .slice ad l.length c] W fun e w' => e = .returned (.bool true) ∧ Below W.heap.size W w' := fun W hb => by
        have := same_any l l a13 ad c13 c W (E13.out.far hb (Nat.le_refl _)) (HEN.out.far (B8.out.trans (hb.mono B8.out.size)) (Nat.le_refl _)) HLL.out
        rwa [decide_eq_true rfl] at this
      have H2 := Lib.hid C2
      clear C2
      go_wp2_with (first
        | (go_at_call 10; ((with_reducible refine C1.mono ?_); rintro e w9 ⟨rfl, b9⟩; have B9 := Lib.hid b9; clear b9))
        | (go_at_call 10; ((with_reducible refine (H2.out _ B9.out).mono ?_); rintro e w10 ⟨rfl, b10⟩; have B10 := Lib.hid (B8.out.trans ((B9.out.trans (b10.mono B9.out.size)).mono B8.out.size)); clear b10))
        | (go_at_call 7; ((with_reducible refine (packed_any _ (HE.out.below B10.out)).mono ?_); rintro e w11 ⟨rfl, b11⟩; have B11 := Lib.hid (B10.out.trans (b11.mono B10.out.size)); clear b11)))
      go_ret
      exact ⟨rfl, B11.out⟩
end Go.Proofs.YtdckfbppgenjkaaDoor
