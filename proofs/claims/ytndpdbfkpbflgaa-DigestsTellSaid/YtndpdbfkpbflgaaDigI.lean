/- Layer 5: the walk of DigestsTell. -/
import Derived.Test.YtndpdbfkpbflgaaDigG
import Derived.Test.YtndpdbfkpbflgaaOpen
namespace Go.Proofs.Ytndpdbfkpbflgaa
open Go.RowKit

/-- The memory of DigestsTell: both digests, and what the two parsings told. -/
structure TellM (W w : World) (a b D : List UInt8) (pc pd : Nat) : Prop where
  r0 : rowC w W.heap.size (cells8 a) 23
  r1 : rowC w (W.heap.size + 1) (cells8 b) 23
  r2 : rowC w pc (cells8 D) 23
  r3 : rowC w pd (cells8 D) 23
  nx : Below W.heap.size W w
theorem TellM.below {W w w' : World} {a b D : List UInt8} {pc pd : Nat} (h : TellM W w a b D pc pd) (hb : Below w.heap.size w w') : TellM W w' a b D pc pd :=
  ⟨rowC_below h.r0 hb (rowC_lt h.r0), rowC_below h.r1 hb (rowC_lt h.r1), rowC_below h.r2 hb (rowC_lt h.r2), rowC_below h.r3 hb (rowC_lt h.r3), h.nx.trans (hb.mono h.nx.size)⟩
theorem TellM.drew {W w : World} {a b D : List UInt8} {pc pd : Nat} (h : TellM W w a b D pc pd) : TellM W w.drew a b D pc pd := ⟨h.r0, h.r1, h.r2, h.r3, h.nx.drew⟩
/-- A call that keeps what was, met with that memory. -/
theorem TellM.call {W : World} {a b D : List UInt8} {pc pd : Nat} {f : FuncId} {args : Array Value} {v : Value} {w' : World} (hc : Calls Try.prog f args w' fun e w'' => e = .returned v ∧ Below w'.heap.size w' w'') (m : TellM W w' a b D pc pd) :
    Calls Try.prog f args w' fun e w'' => e = .returned v ∧ TellM W w'' a b D pc pd := hc.mono fun _ _ ⟨h1, h2⟩ => ⟨h1, m.below h2⟩
set_option maxRecDepth 100000 in
set_option maxHeartbeats 4000000 in
theorem digestsTell_short (a b S : List UInt8) (w : World) (ha : a.length = 32) (hb : b.length = 32) (hs : S.length ≤ 200) :
    Calls Try.prog 3 #[.agg (cells8 a), .agg (cells8 b), .string (str S)] w fun e w' => e = .returned (.bool true) ∧ Below w.heap.size w w' := by
  have szs := str_size S
  have h1 : (S.length : Int) ≤ 200 := by omega
  obtain ⟨D, hD⟩ : ∃ D, D = digL S := ⟨_, rfl⟩
  obtain ⟨E, hE⟩ : ∃ E, E = errL S := ⟨_, rfl⟩
  have hDl : D.length = 32 := by rw [hD]; exact digL_length S
  have CP := fun w => parse_any S w
  have CQ := fun w => rparse_any S w (by omega)
  rw [← hD, ← hE] at CP CQ
  have HI := Lib.hid (info_digest hDl)
  have HO := Lib.hid (show (cells8 zero32).size = (cells8 D).size by rw [cells8_size, cells8_size, hDl]; rfl)
  have HA := Lib.hid ha
  have HB := Lib.hid hb
  have HD := Lib.hid hDl
  have T0 := Lib.hid (TwoM.start w a b)
  clear hD hE hDl ha hb hs
  go_enter Try.func3, Try.ntmps3
  go_wp2_with (first
    | (go_at_call 7; ((with_reducible refine (CP _).mono ?_); rintro e w2 ⟨rfl, hb2⟩))
    | (refine wpList_store_row rfl 23 _ _ rfl w2.heap.size (cells8 D) rfl rfl 23 (cells8 zero32) (rowC_new w2 _ _) HI.out HO.out (cells8_one _) ?_)
    | (go_at_call 8; ((with_reducible refine (CQ _).mono ?_); rintro e w4 ⟨rfl, hb4⟩))
    | (refine wpList_store_row rfl 23 _ _ rfl w4.heap.size (cells8 D) rfl rfl 23 (cells8 zero32) (rowC_new w4 _ _) HI.out HO.out (cells8_one _) ?_))
  have s2 := hb2.size
  have t2 := T0.out.below hb2
  have l2 := t2.lt
  have t3 : TwoM w ((w2.alloc (.cells (cells8 zero32) 23)).setRow w2.heap.size (cells8 D)) a b :=
    ⟨rowC_setRow_other (rowC_alloc t2.r0 _) _ _ (by omega), rowC_setRow_other (rowC_alloc t2.r1 _) _ _ (by omega), below_setRow (t2.nx.alloc (by omega) _) (by omega) _⟩
  have c3 : rowC ((w2.alloc (.cells (cells8 zero32) 23)).setRow w2.heap.size (cells8 D)) w2.heap.size (cells8 D) 23 := rowC_setRow (rowC_new w2 _ _) _
  have t4 := t3.below hb4
  have c4 := rowC_below c3 hb4 (rowC_lt c3)
  have l4 := t4.lt
  have k4 := rowC_lt c4
  have m5 : TellM w ((w4.alloc (.cells (cells8 zero32) 23)).setRow w4.heap.size (cells8 D)) a b D w2.heap.size w4.heap.size :=
    ⟨rowC_setRow_other (rowC_alloc t4.r0 _) _ _ (by omega), rowC_setRow_other (rowC_alloc t4.r1 _) _ _ (by omega), rowC_setRow_other (rowC_alloc c4 _) _ _ (by omega), rowC_setRow (rowC_new w4 _ _) _, below_setRow (t4.nx.alloc (by omega) _) (by omega) _⟩
  change Code.wp _ _ _ _ ((w4.alloc (.cells (cells8 zero32) 23)).setRow w4.heap.size (cells8 D))
  obtain ⟨pc, hpc⟩ : ∃ pc, pc = w2.heap.size := ⟨_, rfl⟩
  obtain ⟨pd, hpd⟩ : ∃ pd, pd = w4.heap.size := ⟨_, rfl⟩
  generalize World.setRow _ w4.heap.size _ = w5 at m5 ⊢
  rw [← hpc, ← hpd] at m5 ⊢
  clear hpc hpd t2 t3 t4 c3 c4 l2 l4 k4 hb2 hb4 s2 T0 HO
  have CTa : ∀ w', TellM w w' a b D pc pd → _ := fun w' m => TellM.call (text_any a w' HA.out) m
  have CRa : ∀ w', TellM w w' a b D pc pd → _ := fun w' m => TellM.call (rtext_any a w' HA.out) m
  have CSa : ∀ w', TellM w w' a b D pc pd → _ := fun w' m => TellM.call (short_any a w' HA.out) m
  have CUa : ∀ w', TellM w w' a b D pc pd → _ := fun w' m => TellM.call (rshort_any a w' HA.out) m
  have CLab : ∀ w', TellM w w' a b D pc pd → _ := fun w' m => TellM.call (less_any a b w' HA.out HB.out) m
  have CMab : ∀ w', TellM w w' a b D pc pd → _ := fun w' m => TellM.call (rless_any a b w' HA.out HB.out) m
  have CLaa : ∀ w', TellM w w' a b D pc pd → _ := fun w' m => TellM.call (less_any a a w' HA.out HA.out) m
  have CMaa : ∀ w', TellM w w' a b D pc pd → _ := fun w' m => TellM.call (rless_any a a w' HA.out HA.out) m
  have CN : ∀ w', TellM w w' a b D pc pd → _ := fun w' m => TellM.call (named_any w') m
  have q1 : ∀ w, (Op.equalIn 10000 23 (.agg (cells8 D)) (.agg (cells8 D))).run Try.prog w = .ok true w := fun w => by
    rw [eq_digest w 9998 HD.out HD.out]; simp
  have gd := guard_digest
  have hu := Try.underlying23
  have hA : (Try.prog.info? 23).map (·.size) = some (a.map byteV).length := by rw [List.length_map, HA.out]; kernel_rfl
  have hB : (Try.prog.info? 23).map (·.size) = some (b.map byteV).length := by rw [List.length_map, HB.out]; kernel_rfl
  have hD : (Try.prog.info? 23).map (·.size) = some (D.map byteV).length := by rw [List.length_map, HD.out]; kernel_rfl
  have R0 : ∀ w', TellM w w' a b D pc pd → w'.rangeAt w.heap.size 0 (a.map byteV) := fun w' m => range_row m.r0
  have R1 : ∀ w', TellM w w' a b D pc pd → w'.rangeAt (w.heap.size + 1) 0 (b.map byteV) := fun w' m => range_row m.r1
  have R2 : ∀ w', TellM w w' a b D pc pd → w'.rangeAt pc 0 (D.map byteV) := fun w' m => range_row m.r2
  have R3 : ∀ w', TellM w w' a b D pc pd → w'.rangeAt pd 0 (D.map byteV) := fun w' m => range_row m.r3
  obtain ⟨x1, hx1⟩ : ∃ x, x = lessL a b := ⟨_, rfl⟩
  obtain ⟨x2, hx2⟩ : ∃ x, x = lessL a a := ⟨_, rfl⟩
  rw [← hx1] at CLab CMab
  rw [← hx2] at CLaa CMaa
  obtain ⟨X3, hX3⟩ : ∃ x, x = str (textL a) := ⟨_, rfl⟩
  obtain ⟨X4, hX4⟩ : ∃ x, x = str (shortL a) := ⟨_, rfl⟩
  rw [← hX3] at CTa CRa
  rw [← hX4] at CSa CUa
  clear hx1 hx2 hX3 hX4
  unfold cells8 at q1 CTa CRa CSa CUa CLab CMab CLaa CMaa ⊢
  have md := m5.drew
  obtain ⟨M, hM⟩ : ∃ M : World → Prop, M = fun w' => TellM w w' a b D pc pd := ⟨_, rfl⟩
  have MT : ∀ w', M w' → TellM w w' a b D pc pd := fun w' h => by rw [hM] at h; exact h
  have TM : ∀ w', TellM w w' a b D pc pd → M w' := fun w' h => by rw [hM]; exact h
  replace md := TM _ md
  have ML : ∀ w', M w' → Below w.heap.size w w' := fun w' h => (MT w' h).nx
  have TM' : ∀ {f args v} w', M w' → (TellM w w' a b D pc pd → Calls Try.prog f args w' fun e w'' => e = .returned v ∧ TellM w w'' a b D pc pd) → Calls Try.prog f args w' fun e w'' => e = .returned v ∧ M w'' :=
    fun w' h hc => (hc (MT w' h)).mono fun _ _ ⟨h1, h2⟩ => ⟨h1, TM _ h2⟩
  replace CTa := fun w' (h : M w') => TM' w' h (CTa w')
  replace CRa := fun w' (h : M w') => TM' w' h (CRa w')
  replace CSa := fun w' (h : M w') => TM' w' h (CSa w')
  replace CUa := fun w' (h : M w') => TM' w' h (CUa w')
  replace CLab := fun w' (h : M w') => TM' w' h (CLab w')
  replace CMab := fun w' (h : M w') => TM' w' h (CMab w')
  replace CLaa := fun w' (h : M w') => TM' w' h (CLaa w')
  replace CMaa := fun w' (h : M w') => TM' w' h (CMaa w')
  replace CN := fun w' (h : M w') => TM' w' h (CN w')
  replace R0 := fun w' (h : M w') => R0 w' (MT w' h)
  replace R1 := fun w' (h : M w') => R1 w' (MT w' h)
  replace R2 := fun w' (h : M w') => R2 w' (MT w' h)
  replace R3 := fun w' (h : M w') => R3 w' (MT w' h)
  clear MT TM TM' hM m5 HI CP CQ HA HB HD
  generalize a.map byteV = NA at *
  generalize b.map byteV = NB at *
  generalize D.map byteV = ND at *
  obtain ⟨SS, hSS⟩ : ∃ SS : World → Prop, SS = fun w' => M w' ∧ w'.rangeAt w.heap.size 0 NA ∧ w'.rangeAt (w.heap.size + 1) 0 NB ∧ w'.rangeAt pc 0 ND ∧ w'.rangeAt pd 0 ND := ⟨_, rfl⟩
  have SO : ∀ w', M w' → SS w' := fun w' m => by rw [hSS]; exact ⟨m, R0 w' m, R1 w' m, R2 w' m, R3 w' m⟩
  have OS : ∀ w', SS w' → M w' ∧ w'.rangeAt w.heap.size 0 NA ∧ w'.rangeAt (w.heap.size + 1) 0 NB ∧ w'.rangeAt pc 0 ND ∧ w'.rangeAt pd 0 ND := fun w' h => by rw [hSS] at h; exact h
  clear hSS R0 R1 R2 R3
  refine wp_region_noPanic ?_
  refine wp_region_held_drew (S := SS) (by kernel_rfl) (SO _ md) (fun hHeld => ?_)
  refine wpAnyH_take (i := 0) (oi := { dst := some 25, op := Op.load 23 (Operand.tmp 3), type := 23, pos := "law.go:29", after := #[], guard := none }) (v := _) rfl (by kernel_rfl) (by kernel_rfl) (by kernel_rfl) (fun _ _ _ h => h) (yieldsIf_load_mid (by rfl) _ _ rfl _ _ rfl _ _ (by intro w hSw; have hSw := OS _ hSw; go_split_ands; assumption) (by assumption) rfl (by assumption)) (by assumption) ?_
  try simp only [Act.put, List.setIfInBounds_toArray, List.set_cons_zero, List.set_cons_succ]
  refine wpAnyH_take (i := 2) (oi := { dst := some 27, op := Op.load 23 (Operand.tmp 3), type := 23, pos := "law.go:29", after := #[], guard := none }) (v := _) rfl (by kernel_rfl) (by kernel_rfl) (by kernel_rfl) (fun _ _ _ h => h) (yieldsIf_load_mid (by rfl) _ _ rfl _ _ rfl _ _ (by intro w hSw; have hSw := OS _ hSw; go_split_ands; assumption) (by assumption) rfl (by assumption)) (by assumption) ?_
  try simp only [Act.put, List.setIfInBounds_toArray, List.set_cons_zero, List.set_cons_succ]
  refine wpAnyH_ready (rs := [1]) (by kernel_rfl) (by simp) ?_
  refine AllReadyH.cons (o := { dst := some 26, op := Op.call { callee := Callee.value (Operand.func 9), args := #[Operand.tmp 25], argTypes := #[23] }, type := 9, pos := "law.go:29", after := #[{ on := 0, ground := Ground.data }], guard := none }) rfl (fun K hK => ?_) AllReadyH.nil
  go_simp
  refine (CTa _ (by assumption)).mono ?_
  rintro e w1' ⟨rfl, m1'⟩
  refine hK.out _ _ (SO _ (by assumption)) (fun hHeld => ?_)
  clear hK K
  try simp only [Act.put, List.setIfInBounds_toArray, List.set_cons_zero, List.set_cons_succ]
  refine wpAnyH_ready (rs := [3]) (by kernel_rfl) (by simp) ?_
  refine AllReadyH.cons (o := { dst := some 28, op := Op.call { callee := Callee.value (Operand.func 10), args := #[Operand.tmp 27], argTypes := #[23] }, type := 9, pos := "law.go:29", after := #[{ on := 2, ground := Ground.data }, { on := 1, ground := Ground.chain }], guard := none }) rfl (fun K hK => ?_) AllReadyH.nil
  go_simp
  refine (CRa _ (by assumption)).mono ?_
  rintro e w3' ⟨rfl, m3'⟩
  refine hK.out _ _ (SO _ (by assumption)) (fun hHeld => ?_)
  clear hK K
  try simp only [Act.put, List.setIfInBounds_toArray, List.set_cons_zero, List.set_cons_succ]
  refine wpAnyH_take (i := 4) (oi := { dst := some 29, op := Op.binOp BinOp.eql 9 (Operand.tmp 26) (Operand.tmp 28) 9, type := 4, pos := "law.go:29", after := #[{ on := 1, ground := Ground.data }, { on := 3, ground := Ground.data }], guard := none }) (v := ?_) rfl (by kernel_rfl) (by kernel_rfl) (by kernel_rfl) (fun _ _ _ h => h) (Or.inl ⟨by rfl, ?_⟩) (by assumption) ?_
  rotate_left
  · intro w hSw
    skip
    clear hSw
    go_simp
    try with_reducible rfl
  try simp only [Act.put, List.setIfInBounds_toArray, List.set_cons_zero, List.set_cons_succ]
  refine wpAnyH_take (i := 5) (oi := { dst := some 30, op := Op.move (Operand.tmp 29), type := 4, pos := "law.go:29", after := #[{ on := 4, ground := Ground.data }, { on := 3, ground := Ground.chain }], guard := none }) (v := ?_) rfl (by kernel_rfl) (by kernel_rfl) (by kernel_rfl) (fun _ _ _ h => h) (Or.inl ⟨by rfl, ?_⟩) (by assumption) ?_
  rotate_left
  · intro w hSw
    skip
    clear hSw
    go_simp
    try with_reducible rfl
  try simp only [Act.put, List.setIfInBounds_toArray, List.set_cons_zero, List.set_cons_succ]
  refine wpAnyH_take (i := 6) (oi := { dst := some 31, op := Op.load 23 (Operand.tmp 3), type := 23, pos := "law.go:29", after := #[{ on := 5, ground := Ground.guard }], guard := some (5, true) }) (v := _) rfl (by kernel_rfl) (by kernel_rfl) (by kernel_rfl) (fun _ _ _ h => h) (yieldsIf_load_mid (by rfl) _ _ rfl _ _ rfl _ _ (by intro w hSw; have hSw := OS _ hSw; go_split_ands; assumption) (by assumption) rfl (by assumption)) (by assumption) ?_
  try simp only [Act.put, List.setIfInBounds_toArray, List.set_cons_zero, List.set_cons_succ]
  refine wpAnyH_take (i := 8) (oi := { dst := some 33, op := Op.load 23 (Operand.tmp 3), type := 23, pos := "law.go:29", after := #[{ on := 5, ground := Ground.guard }], guard := some (5, true) }) (v := _) rfl (by kernel_rfl) (by kernel_rfl) (by kernel_rfl) (fun _ _ _ h => h) (yieldsIf_load_mid (by rfl) _ _ rfl _ _ rfl _ _ (by intro w hSw; have hSw := OS _ hSw; go_split_ands; assumption) (by assumption) rfl (by assumption)) (by assumption) ?_
  try simp only [Act.put, List.setIfInBounds_toArray, List.set_cons_zero, List.set_cons_succ]
  refine wpAnyH_ready (rs := [7]) (by kernel_rfl) (by simp) ?_
  refine AllReadyH.cons (o := { dst := some 32, op := Op.call { callee := Callee.value (Operand.func 11), args := #[Operand.tmp 31], argTypes := #[23] }, type := 9, pos := "law.go:29", after := #[{ on := 6, ground := Ground.data }, { on := 5, ground := Ground.chain }, { on := 5, ground := Ground.guard }], guard := some (5, true) }) rfl (fun K hK => ?_) AllReadyH.nil
  go_simp
  refine (CSa _ (by assumption)).mono ?_
  rintro e w7' ⟨rfl, m7'⟩
  refine hK.out _ _ (SO _ (by assumption)) (fun hHeld => ?_)
  clear hK K
  try simp only [Act.put, List.setIfInBounds_toArray, List.set_cons_zero, List.set_cons_succ]
  refine wpAnyH_ready (rs := [9]) (by kernel_rfl) (by simp) ?_
  refine AllReadyH.cons (o := { dst := some 34, op := Op.call { callee := Callee.value (Operand.func 12), args := #[Operand.tmp 33], argTypes := #[23] }, type := 9, pos := "law.go:29", after := #[{ on := 8, ground := Ground.data }, { on := 7, ground := Ground.chain }, { on := 5, ground := Ground.guard }], guard := some (5, true) }) rfl (fun K hK => ?_) AllReadyH.nil
  go_simp
  refine (CUa _ (by assumption)).mono ?_
  rintro e w9' ⟨rfl, m9'⟩
  refine hK.out _ _ (SO _ (by assumption)) (fun hHeld => ?_)
  clear hK K
  try simp only [Act.put, List.setIfInBounds_toArray, List.set_cons_zero, List.set_cons_succ]
  refine wpAnyH_take (i := 10) (oi := { dst := some 35, op := Op.binOp BinOp.eql 9 (Operand.tmp 32) (Operand.tmp 34) 9, type := 4, pos := "law.go:29", after := #[{ on := 7, ground := Ground.data }, { on := 9, ground := Ground.data }, { on := 5, ground := Ground.guard }], guard := some (5, true) }) (v := ?_) rfl (by kernel_rfl) (by kernel_rfl) (by kernel_rfl) (fun _ _ _ h => h) (Or.inl ⟨by rfl, ?_⟩) (by assumption) ?_
  rotate_left
  · intro w hSw
    skip
    clear hSw
    go_simp
    try with_reducible rfl
  try simp only [Act.put, List.setIfInBounds_toArray, List.set_cons_zero, List.set_cons_succ]
  refine wpAnyH_take (i := 11) (oi := { dst := some 36, op := Op.pick (Operand.tmp 30) (Operand.tmp 35) (Operand.const (Value.bool false)), type := 4, pos := "law.go:29", after := #[{ on := 5, ground := Ground.data }, { on := 10, ground := Ground.data }], guard := none }) (v := ?_) rfl (by kernel_rfl) (by kernel_rfl) (by kernel_rfl) (fun _ _ _ h => h) (Or.inl ⟨by rfl, ?_⟩) (by assumption) ?_
  rotate_left
  · intro w hSw
    skip
    clear hSw
    go_simp
    try with_reducible rfl
  try simp only [Act.put, List.setIfInBounds_toArray, List.set_cons_zero, List.set_cons_succ]
  refine wpAnyH_take (i := 12) (oi := { dst := some 37, op := Op.move (Operand.tmp 36), type := 4, pos := "law.go:29", after := #[{ on := 11, ground := Ground.data }, { on := 9, ground := Ground.chain }], guard := none }) (v := ?_) rfl (by kernel_rfl) (by kernel_rfl) (by kernel_rfl) (fun _ _ _ h => h) (Or.inl ⟨by rfl, ?_⟩) (by assumption) ?_
  rotate_left
  · intro w hSw
    skip
    clear hSw
    go_simp
    try with_reducible rfl
  try simp only [Act.put, List.setIfInBounds_toArray, List.set_cons_zero, List.set_cons_succ]
  refine wpAnyH_take (i := 13) (oi := { dst := some 38, op := Op.load 23 (Operand.tmp 3), type := 23, pos := "law.go:29", after := #[{ on := 12, ground := Ground.guard }], guard := some (12, true) }) (v := _) rfl (by kernel_rfl) (by kernel_rfl) (by kernel_rfl) (fun _ _ _ h => h) (yieldsIf_load_mid (by rfl) _ _ rfl _ _ rfl _ _ (by intro w hSw; have hSw := OS _ hSw; go_split_ands; assumption) (by assumption) rfl (by assumption)) (by assumption) ?_
  try simp only [Act.put, List.setIfInBounds_toArray, List.set_cons_zero, List.set_cons_succ]
  refine wpAnyH_take (i := 14) (oi := { dst := some 39, op := Op.load 23 (Operand.tmp 4), type := 23, pos := "law.go:29", after := #[{ on := 12, ground := Ground.guard }], guard := some (12, true) }) (v := _) rfl (by kernel_rfl) (by kernel_rfl) (by kernel_rfl) (fun _ _ _ h => h) (yieldsIf_load_mid (by rfl) _ _ rfl _ _ rfl _ _ (by intro w hSw; have hSw := OS _ hSw; go_split_ands; assumption) (by assumption) rfl (by assumption)) (by assumption) ?_
  try simp only [Act.put, List.setIfInBounds_toArray, List.set_cons_zero, List.set_cons_succ]
  refine wpAnyH_take (i := 16) (oi := { dst := some 41, op := Op.load 23 (Operand.tmp 3), type := 23, pos := "law.go:29", after := #[{ on := 12, ground := Ground.guard }], guard := some (12, true) }) (v := _) rfl (by kernel_rfl) (by kernel_rfl) (by kernel_rfl) (fun _ _ _ h => h) (yieldsIf_load_mid (by rfl) _ _ rfl _ _ rfl _ _ (by intro w hSw; have hSw := OS _ hSw; go_split_ands; assumption) (by assumption) rfl (by assumption)) (by assumption) ?_
  try simp only [Act.put, List.setIfInBounds_toArray, List.set_cons_zero, List.set_cons_succ]
  refine wpAnyH_take (i := 17) (oi := { dst := some 42, op := Op.load 23 (Operand.tmp 4), type := 23, pos := "law.go:29", after := #[{ on := 12, ground := Ground.guard }], guard := some (12, true) }) (v := _) rfl (by kernel_rfl) (by kernel_rfl) (by kernel_rfl) (fun _ _ _ h => h) (yieldsIf_load_mid (by rfl) _ _ rfl _ _ rfl _ _ (by intro w hSw; have hSw := OS _ hSw; go_split_ands; assumption) (by assumption) rfl (by assumption)) (by assumption) ?_
  try simp only [Act.put, List.setIfInBounds_toArray, List.set_cons_zero, List.set_cons_succ]
  refine wpAnyH_ready (rs := [15]) (by kernel_rfl) (by simp) ?_
  refine AllReadyH.cons (o := { dst := some 40, op := Op.call { callee := Callee.value (Operand.func 13), args := #[Operand.tmp 38, Operand.tmp 39], argTypes := #[23, 23] }, type := 4, pos := "law.go:29", after := #[{ on := 13, ground := Ground.data }, { on := 14, ground := Ground.data }, { on := 12, ground := Ground.chain }, { on := 12, ground := Ground.guard }], guard := some (12, true) }) rfl (fun K hK => ?_) AllReadyH.nil
  go_simp
  refine (CLab _ (by assumption)).mono ?_
  rintro e w15' ⟨rfl, m15'⟩
  refine hK.out _ _ (SO _ (by assumption)) (fun hHeld => ?_)
  clear hK K
  try simp only [Act.put, List.setIfInBounds_toArray, List.set_cons_zero, List.set_cons_succ]
  refine wpAnyH_ready (rs := [18]) (by kernel_rfl) (by simp) ?_
  refine AllReadyH.cons (o := { dst := some 43, op := Op.call { callee := Callee.value (Operand.func 14), args := #[Operand.tmp 41, Operand.tmp 42], argTypes := #[23, 23] }, type := 4, pos := "law.go:29", after := #[{ on := 16, ground := Ground.data }, { on := 17, ground := Ground.data }, { on := 15, ground := Ground.chain }, { on := 12, ground := Ground.guard }], guard := some (12, true) }) rfl (fun K hK => ?_) AllReadyH.nil
  go_simp
  refine (CMab _ (by assumption)).mono ?_
  rintro e w18' ⟨rfl, m18'⟩
  refine hK.out _ _ (SO _ (by assumption)) (fun hHeld => ?_)
  clear hK K
  try simp only [Act.put, List.setIfInBounds_toArray, List.set_cons_zero, List.set_cons_succ]
  refine wpAnyH_take (i := 19) (oi := { dst := some 44, op := Op.binOp BinOp.eql 4 (Operand.tmp 40) (Operand.tmp 43) 4, type := 4, pos := "law.go:29", after := #[{ on := 15, ground := Ground.data }, { on := 18, ground := Ground.data }, { on := 12, ground := Ground.guard }], guard := some (12, true) }) (v := ?_) rfl (by kernel_rfl) (by kernel_rfl) (by kernel_rfl) (fun _ _ _ h => h) (Or.inl ⟨by rfl, ?_⟩) (by assumption) ?_
  rotate_left
  · intro w hSw
    skip
    clear hSw
    go_simp
    try with_reducible rfl
  try simp only [Act.put, List.setIfInBounds_toArray, List.set_cons_zero, List.set_cons_succ]
  refine wpAnyH_take (i := 20) (oi := { dst := some 45, op := Op.pick (Operand.tmp 37) (Operand.tmp 44) (Operand.const (Value.bool false)), type := 4, pos := "law.go:29", after := #[{ on := 12, ground := Ground.data }, { on := 19, ground := Ground.data }], guard := none }) (v := ?_) rfl (by kernel_rfl) (by kernel_rfl) (by kernel_rfl) (fun _ _ _ h => h) (Or.inl ⟨by rfl, ?_⟩) (by assumption) ?_
  rotate_left
  · intro w hSw
    skip
    clear hSw
    go_simp
    try with_reducible rfl
  try simp only [Act.put, List.setIfInBounds_toArray, List.set_cons_zero, List.set_cons_succ]
  refine wpAnyH_take (i := 21) (oi := { dst := some 46, op := Op.move (Operand.tmp 45), type := 4, pos := "law.go:29", after := #[{ on := 20, ground := Ground.data }, { on := 18, ground := Ground.chain }], guard := none }) (v := ?_) rfl (by kernel_rfl) (by kernel_rfl) (by kernel_rfl) (fun _ _ _ h => h) (Or.inl ⟨by rfl, ?_⟩) (by assumption) ?_
  rotate_left
  · intro w hSw
    skip
    clear hSw
    go_simp
    try with_reducible rfl
  try simp only [Act.put, List.setIfInBounds_toArray, List.set_cons_zero, List.set_cons_succ]
  refine wpAnyH_take (i := 22) (oi := { dst := some 47, op := Op.load 23 (Operand.tmp 3), type := 23, pos := "law.go:29", after := #[{ on := 21, ground := Ground.guard }], guard := some (21, true) }) (v := _) rfl (by kernel_rfl) (by kernel_rfl) (by kernel_rfl) (fun _ _ _ h => h) (yieldsIf_load_mid (by rfl) _ _ rfl _ _ rfl _ _ (by intro w hSw; have hSw := OS _ hSw; go_split_ands; assumption) (by assumption) rfl (by assumption)) (by assumption) ?_
  try simp only [Act.put, List.setIfInBounds_toArray, List.set_cons_zero, List.set_cons_succ]
  refine wpAnyH_take (i := 23) (oi := { dst := some 48, op := Op.load 23 (Operand.tmp 3), type := 23, pos := "law.go:29", after := #[{ on := 21, ground := Ground.guard }], guard := some (21, true) }) (v := _) rfl (by kernel_rfl) (by kernel_rfl) (by kernel_rfl) (fun _ _ _ h => h) (yieldsIf_load_mid (by rfl) _ _ rfl _ _ rfl _ _ (by intro w hSw; have hSw := OS _ hSw; go_split_ands; assumption) (by assumption) rfl (by assumption)) (by assumption) ?_
  try simp only [Act.put, List.setIfInBounds_toArray, List.set_cons_zero, List.set_cons_succ]
  refine wpAnyH_take (i := 25) (oi := { dst := some 50, op := Op.load 23 (Operand.tmp 3), type := 23, pos := "law.go:29", after := #[{ on := 21, ground := Ground.guard }], guard := some (21, true) }) (v := _) rfl (by kernel_rfl) (by kernel_rfl) (by kernel_rfl) (fun _ _ _ h => h) (yieldsIf_load_mid (by rfl) _ _ rfl _ _ rfl _ _ (by intro w hSw; have hSw := OS _ hSw; go_split_ands; assumption) (by assumption) rfl (by assumption)) (by assumption) ?_
  try simp only [Act.put, List.setIfInBounds_toArray, List.set_cons_zero, List.set_cons_succ]
  refine wpAnyH_take (i := 26) (oi := { dst := some 51, op := Op.load 23 (Operand.tmp 3), type := 23, pos := "law.go:29", after := #[{ on := 21, ground := Ground.guard }], guard := some (21, true) }) (v := _) rfl (by kernel_rfl) (by kernel_rfl) (by kernel_rfl) (fun _ _ _ h => h) (yieldsIf_load_mid (by rfl) _ _ rfl _ _ rfl _ _ (by intro w hSw; have hSw := OS _ hSw; go_split_ands; assumption) (by assumption) rfl (by assumption)) (by assumption) ?_
  try simp only [Act.put, List.setIfInBounds_toArray, List.set_cons_zero, List.set_cons_succ]
  refine wpAnyH_ready (rs := [24]) (by kernel_rfl) (by simp) ?_
  refine AllReadyH.cons (o := { dst := some 49, op := Op.call { callee := Callee.value (Operand.func 13), args := #[Operand.tmp 47, Operand.tmp 48], argTypes := #[23, 23] }, type := 4, pos := "law.go:29", after := #[{ on := 22, ground := Ground.data }, { on := 23, ground := Ground.data }, { on := 21, ground := Ground.chain }, { on := 21, ground := Ground.guard }], guard := some (21, true) }) rfl (fun K hK => ?_) AllReadyH.nil
  go_simp
  refine (CLaa _ (by assumption)).mono ?_
  rintro e w24' ⟨rfl, m24'⟩
  refine hK.out _ _ (SO _ (by assumption)) (fun hHeld => ?_)
  clear hK K
  try simp only [Act.put, List.setIfInBounds_toArray, List.set_cons_zero, List.set_cons_succ]
  refine wpAnyH_ready (rs := [27]) (by kernel_rfl) (by simp) ?_
  refine AllReadyH.cons (o := { dst := some 52, op := Op.call { callee := Callee.value (Operand.func 14), args := #[Operand.tmp 50, Operand.tmp 51], argTypes := #[23, 23] }, type := 4, pos := "law.go:29", after := #[{ on := 25, ground := Ground.data }, { on := 26, ground := Ground.data }, { on := 24, ground := Ground.chain }, { on := 21, ground := Ground.guard }], guard := some (21, true) }) rfl (fun K hK => ?_) AllReadyH.nil
  go_simp
  refine (CMaa _ (by assumption)).mono ?_
  rintro e w27' ⟨rfl, m27'⟩
  refine hK.out _ _ (SO _ (by assumption)) (fun hHeld => ?_)
  clear hK K
  try simp only [Act.put, List.setIfInBounds_toArray, List.set_cons_zero, List.set_cons_succ]
  refine wpAnyH_take (i := 28) (oi := { dst := some 53, op := Op.binOp BinOp.eql 4 (Operand.tmp 49) (Operand.tmp 52) 4, type := 4, pos := "law.go:29", after := #[{ on := 24, ground := Ground.data }, { on := 27, ground := Ground.data }, { on := 21, ground := Ground.guard }], guard := some (21, true) }) (v := ?_) rfl (by kernel_rfl) (by kernel_rfl) (by kernel_rfl) (fun _ _ _ h => h) (Or.inl ⟨by rfl, ?_⟩) (by assumption) ?_
  rotate_left
  · intro w hSw
    skip
    clear hSw
    go_simp
    try with_reducible rfl
  try simp only [Act.put, List.setIfInBounds_toArray, List.set_cons_zero, List.set_cons_succ]
  refine wpAnyH_take (i := 29) (oi := { dst := some 54, op := Op.pick (Operand.tmp 46) (Operand.tmp 53) (Operand.const (Value.bool false)), type := 4, pos := "law.go:29", after := #[{ on := 21, ground := Ground.data }, { on := 28, ground := Ground.data }], guard := none }) (v := ?_) rfl (by kernel_rfl) (by kernel_rfl) (by kernel_rfl) (fun _ _ _ h => h) (Or.inl ⟨by rfl, ?_⟩) (by assumption) ?_
  rotate_left
  · intro w hSw
    skip
    clear hSw
    go_simp
    try with_reducible rfl
  try simp only [Act.put, List.setIfInBounds_toArray, List.set_cons_zero, List.set_cons_succ]
  refine wpAnyH_take (i := 30) (oi := { dst := some 55, op := Op.move (Operand.tmp 54), type := 4, pos := "law.go:29", after := #[{ on := 29, ground := Ground.data }, { on := 27, ground := Ground.chain }], guard := none }) (v := ?_) rfl (by kernel_rfl) (by kernel_rfl) (by kernel_rfl) (fun _ _ _ h => h) (Or.inl ⟨by rfl, ?_⟩) (by assumption) ?_
  rotate_left
  · intro w hSw
    skip
    clear hSw
    go_simp
    try with_reducible rfl
  try simp only [Act.put, List.setIfInBounds_toArray, List.set_cons_zero, List.set_cons_succ]
  refine wpAnyH_take (i := 31) (oi := { dst := some 56, op := Op.load 23 (Operand.tmp 7), type := 23, pos := "law.go:29", after := #[{ on := 30, ground := Ground.guard }], guard := some (30, true) }) (v := _) rfl (by kernel_rfl) (by kernel_rfl) (by kernel_rfl) (fun _ _ _ h => h) (yieldsIf_load_mid (by rfl) _ _ rfl _ _ rfl _ _ (by intro w hSw; have hSw := OS _ hSw; go_split_ands; assumption) (by assumption) rfl (by assumption)) (by assumption) ?_
  try simp only [Act.put, List.setIfInBounds_toArray, List.set_cons_zero, List.set_cons_succ]
  refine wpAnyH_take (i := 32) (oi := { dst := some 57, op := Op.load 23 (Operand.tmp 9), type := 23, pos := "law.go:29", after := #[{ on := 30, ground := Ground.guard }], guard := some (30, true) }) (v := _) rfl (by kernel_rfl) (by kernel_rfl) (by kernel_rfl) (fun _ _ _ h => h) (yieldsIf_load_mid (by rfl) _ _ rfl _ _ rfl _ _ (by intro w hSw; have hSw := OS _ hSw; go_split_ands; assumption) (by assumption) rfl (by assumption)) (by assumption) ?_
  try simp only [Act.put, List.setIfInBounds_toArray, List.set_cons_zero, List.set_cons_succ]
  refine wpAnyH_take (i := 33) (oi := { dst := some 58, op := Op.binOp BinOp.eql 23 (Operand.tmp 56) (Operand.tmp 57) 23, type := 4, pos := "law.go:29", after := #[{ on := 31, ground := Ground.data }, { on := 32, ground := Ground.data }, { on := 30, ground := Ground.guard }], guard := some (30, true) }) (v := ?_) rfl (by kernel_rfl) (by kernel_rfl) (by kernel_rfl) (fun _ _ _ h => h) (Or.inl ⟨by rfl, ?_⟩) (by assumption) ?_
  rotate_left
  · intro w hSw
    skip
    clear hSw
    go_simp
    try with_reducible rfl
  try simp only [Act.put, List.setIfInBounds_toArray, List.set_cons_zero, List.set_cons_succ]
  refine wpAnyH_take (i := 34) (oi := { dst := some 59, op := Op.pick (Operand.tmp 55) (Operand.tmp 58) (Operand.const (Value.bool false)), type := 4, pos := "law.go:29", after := #[{ on := 30, ground := Ground.data }, { on := 33, ground := Ground.data }], guard := none }) (v := ?_) rfl (by kernel_rfl) (by kernel_rfl) (by kernel_rfl) (fun _ _ _ h => h) (Or.inl ⟨by rfl, ?_⟩) (by assumption) ?_
  rotate_left
  · intro w hSw
    skip
    clear hSw
    go_simp
    try with_reducible rfl
  try simp only [Act.put, List.setIfInBounds_toArray, List.set_cons_zero, List.set_cons_succ]
  refine wpAnyH_take (i := 35) (oi := { dst := some 60, op := Op.move (Operand.tmp 59), type := 4, pos := "law.go:29", after := #[{ on := 34, ground := Ground.data }, { on := 30, ground := Ground.chain }], guard := none }) (v := ?_) rfl (by kernel_rfl) (by kernel_rfl) (by kernel_rfl) (fun _ _ _ h => h) (Or.inl ⟨by rfl, ?_⟩) (by assumption) ?_
  rotate_left
  · intro w hSw
    skip
    clear hSw
    go_simp
    try with_reducible rfl
  try simp only [Act.put, List.setIfInBounds_toArray, List.set_cons_zero, List.set_cons_succ]
  refine wpAnyH_take (i := 36) (oi := { dst := some 61, op := Op.move (Operand.tmp 8), type := 25, pos := "law.go:29", after := #[{ on := 35, ground := Ground.guard }], guard := some (35, true) }) (v := ?_) rfl (by kernel_rfl) (by kernel_rfl) (by kernel_rfl) (fun _ _ _ h => h) (Or.inl ⟨by rfl, ?_⟩) (by assumption) ?_
  rotate_left
  · intro w hSw
    skip
    clear hSw
    go_simp
    try with_reducible rfl
  try simp only [Act.put, List.setIfInBounds_toArray, List.set_cons_zero, List.set_cons_succ]
  refine wpAnyH_take (i := 37) (oi := { dst := some 62, op := Op.move (Operand.tmp 10), type := 25, pos := "law.go:29", after := #[{ on := 35, ground := Ground.guard }], guard := some (35, true) }) (v := ?_) rfl (by kernel_rfl) (by kernel_rfl) (by kernel_rfl) (fun _ _ _ h => h) (Or.inl ⟨by rfl, ?_⟩) (by assumption) ?_
  rotate_left
  · intro w hSw
    skip
    clear hSw
    go_simp
    try with_reducible rfl
  try simp only [Act.put, List.setIfInBounds_toArray, List.set_cons_zero, List.set_cons_succ]
  refine wpAnyH_take (i := 38) (oi := { dst := some 63, op := Op.binOp BinOp.eql 25 (Operand.tmp 61) (Operand.tmp 62) 25, type := 4, pos := "law.go:29", after := #[{ on := 36, ground := Ground.data }, { on := 37, ground := Ground.data }, { on := 35, ground := Ground.guard }], guard := some (35, true) }) (v := ?_) rfl (by kernel_rfl) (by kernel_rfl) (by kernel_rfl) (fun _ _ _ h => h) (Or.inl ⟨by rfl, ?_⟩) (by assumption) ?_
  rotate_left
  · intro w hSw
    skip
    clear hSw
    go_simp
    try with_reducible rfl
  try simp only [Act.put, List.setIfInBounds_toArray, List.set_cons_zero, List.set_cons_succ]
  refine wpAnyH_take (i := 39) (oi := { dst := some 64, op := Op.pick (Operand.tmp 60) (Operand.tmp 63) (Operand.const (Value.bool false)), type := 4, pos := "law.go:29", after := #[{ on := 35, ground := Ground.data }, { on := 38, ground := Ground.data }], guard := none }) (v := ?_) rfl (by kernel_rfl) (by kernel_rfl) (by kernel_rfl) (fun _ _ _ h => h) (Or.inl ⟨by rfl, ?_⟩) (by assumption) ?_
  rotate_left
  · intro w hSw
    skip
    clear hSw
    go_simp
    try with_reducible rfl
  try simp only [Act.put, List.setIfInBounds_toArray, List.set_cons_zero, List.set_cons_succ]
  refine wpAnyH_take (i := 40) (oi := { dst := some 65, op := Op.move (Operand.tmp 64), type := 4, pos := "law.go:29", after := #[{ on := 39, ground := Ground.data }, { on := 35, ground := Ground.chain }], guard := none }) (v := ?_) rfl (by kernel_rfl) (by kernel_rfl) (by kernel_rfl) (fun _ _ _ h => h) (Or.inl ⟨by rfl, ?_⟩) (by assumption) ?_
  rotate_left
  · intro w hSw
    skip
    clear hSw
    go_simp
    try with_reducible rfl
  try simp only [Act.put, List.setIfInBounds_toArray, List.set_cons_zero, List.set_cons_succ]
  refine wpAnyH_ready (rs := [41]) (by kernel_rfl) (by simp) ?_
  refine AllReadyH.cons (o := { dst := some 66, op := Op.call { callee := Callee.value (Operand.func 6), args := #[], argTypes := #[] }, type := 4, pos := "law.go:29", after := #[{ on := 40, ground := Ground.chain }, { on := 40, ground := Ground.guard }], guard := some (40, true) }) rfl (fun K hK => ?_) AllReadyH.nil
  go_simp
  refine (CN _ (by assumption)).mono ?_
  rintro e w41' ⟨rfl, m41'⟩
  refine hK.out _ _ (SO _ (by assumption)) (fun hHeld => ?_)
  clear hK K
  try simp only [Act.put, List.setIfInBounds_toArray, List.set_cons_zero, List.set_cons_succ]
  refine wpAnyH_take (i := 42) (oi := { dst := some 67, op := Op.pick (Operand.tmp 65) (Operand.tmp 66) (Operand.const (Value.bool false)), type := 4, pos := "law.go:29", after := #[{ on := 40, ground := Ground.data }, { on := 41, ground := Ground.data }], guard := none }) (v := ?_) rfl (by kernel_rfl) (by kernel_rfl) (by kernel_rfl) (fun _ _ _ h => h) (Or.inl ⟨by rfl, ?_⟩) (by assumption) ?_
  rotate_left
  · intro w hSw
    skip
    clear hSw
    go_simp
    try with_reducible rfl
  try simp only [Act.put, List.setIfInBounds_toArray, List.set_cons_zero, List.set_cons_succ]
  refine wpAnyH_take (i := 43) (oi := { dst := some 6, op := Op.assign (Operand.tmp 67), type := 4, pos := "law.go:29", after := #[{ on := 42, ground := Ground.data }, { on := 41, ground := Ground.chain }, { on := 0, ground := Ground.phase }, { on := 1, ground := Ground.phase }, { on := 2, ground := Ground.phase }, { on := 3, ground := Ground.phase }, { on := 4, ground := Ground.phase }, { on := 5, ground := Ground.phase }, { on := 6, ground := Ground.phase }, { on := 7, ground := Ground.phase }, { on := 8, ground := Ground.phase }, { on := 9, ground := Ground.phase }, { on := 10, ground := Ground.phase }, { on := 11, ground := Ground.phase }, { on := 12, ground := Ground.phase }, { on := 13, ground := Ground.phase }, { on := 14, ground := Ground.phase }, { on := 15, ground := Ground.phase }, { on := 16, ground := Ground.phase }, { on := 17, ground := Ground.phase }, { on := 18, ground := Ground.phase }, { on := 19, ground := Ground.phase }, { on := 20, ground := Ground.phase }, { on := 21, ground := Ground.phase }, { on := 22, ground := Ground.phase }, { on := 23, ground := Ground.phase }, { on := 24, ground := Ground.phase }, { on := 25, ground := Ground.phase }, { on := 26, ground := Ground.phase }, { on := 27, ground := Ground.phase }, { on := 28, ground := Ground.phase }, { on := 29, ground := Ground.phase }, { on := 30, ground := Ground.phase }, { on := 31, ground := Ground.phase }, { on := 32, ground := Ground.phase }, { on := 33, ground := Ground.phase }, { on := 34, ground := Ground.phase }, { on := 35, ground := Ground.phase }, { on := 36, ground := Ground.phase }, { on := 37, ground := Ground.phase }, { on := 38, ground := Ground.phase }, { on := 39, ground := Ground.phase }, { on := 40, ground := Ground.phase }, { on := 41, ground := Ground.phase }, { on := 42, ground := Ground.phase }], guard := none }) (v := ?_) rfl (by kernel_rfl) (by kernel_rfl) (by kernel_rfl) (fun _ _ _ h => h) (Or.inl ⟨by rfl, ?_⟩) (by assumption) ?_
  rotate_left
  · intro w hSw
    skip
    clear hSw
    go_simp
    try with_reducible rfl
  try simp only [Act.put, List.setIfInBounds_toArray, List.set_cons_zero, List.set_cons_succ]
  refine wpAnyH_done (by kernel_rfl) ?_ _
  refine NoPanic.normal ?_
  go_wp2
  go_ret
  exact ⟨rfl, ML _ (by assumption)⟩
set_option maxRecDepth 100000 in
set_option maxHeartbeats 1000000 in
theorem digestsTell_walk (a b : List UInt8) (s : ByteArray) (w : World) (ha : a.length = 32) (hb : b.length = 32) (ws : s.size ≤ maxLen) :
    Calls Try.prog 3 #[.agg (cells8 a), .agg (cells8 b), .string s] w fun e w' => e = .returned (.bool true) ∧ Below w.heap.size w w' := by
  unfold maxLen at ws
  obtain ⟨S, hS⟩ : ∃ S, s = str S := ⟨s.data.toList, (str_list s).symm⟩
  subst hS
  have szs := str_size S
  by_cases hlt : S.length ≤ 200
  · exact digestsTell_short a b S w ha hb hlt
  · have h1 : (200 : Int) < (S.length : Int) := by omega
    have CN := named_any
    clear hlt ha hb
    go_enter Try.func3, Try.ntmps3
    go_wp2_with (go_at_call 6; ((with_reducible refine (CN _).mono ?_); rintro e w4 ⟨rfl, hb4⟩))
    go_ret
    exact ⟨rfl, (((Below.refl _ _).alloc (Nat.le_refl _) _).alloc (by simp) _).trans (hb4.mono (by simp; omega))⟩
end Go.Proofs.Ytndpdbfkpbflgaa
