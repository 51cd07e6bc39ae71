/- Layer 12: the walk of RefsParse. -/
import Derived.Test.YtldbfjcfobdkpaaDoorRfL
namespace Go.Proofs.YtldbfjcfobdkpaaDoor
open Go.RowKit

theorem nameR_le (n : List UInt8) : (nameR n).length ≤ n.length := by
  unfold nameR
  split
  · rw [List.length_take]
    exact Nat.le_trans (Nat.min_le_right _ _) (Nat.le_refl _)
  · exact Nat.le_refl _
theorem read_ok {s : List UInt8} (h : s.length ≤ 300) : (readR s).ok := by
  have h1 := cutL_getD_le s 64 0
  have h2 := nameR_le ((cutL s 64).getD 0 [])
  have h3 := domR_le (nameR ((cutL s 64).getD 0 []))
  have h4 := pathR_le (nameR ((cutL s 64).getD 0 []))
  have h5 := tagR_le ((cutL s 64).getD 0 []) (pinR s)
  refine ⟨?_, ?_, ?_, ?_⟩
  · change (domR _).length ≤ 1000
    omega
  · change (pathR _).length ≤ 1000
    omega
  · change (tagR _ _).length ≤ 1000
    omega
  · change (if pinR s = true then digL (digR s) else zero32).length = 32
    split
    · exact digL_length _
    · rfl
theorem parse_ok (s : List UInt8) : (parseR s).1.ok := by
  unfold parseR
  split
  · exact zero_ok
  · split
    · exact zero_ok
    · split
      · exact zero_ok
      · split
        · exact read_ok (by omega)
        · exact zero_ok
theorem range_ref {w : World} {b : Nat} {r : RR} (h : refAt w b r) : w.rangeAt b 0 (refL r) := fun j v hv => by
  rw [Nat.zero_add, rowC_cell h]
  simpa [refC] using hv
theorem LM.call {W w' : World} {l : List (Nat × RR)} {f : FuncId} {args : Array Value} {v : Value} (hc : Calls Tryd.prog f args w' fun e w'' => e = .returned v ∧ Below w'.heap.size w' w'') (m : LM W w' l) :
    Calls Tryd.prog f args w' fun e w'' => e = .returned v ∧ LM W w'' l := hc.mono fun _ _ ⟨h1, h2⟩ => ⟨h1, m.below h2⟩
theorem info_refL {r : RR} (h : r.ok) : (Tryd.prog.info? 26).map (·.size) = some (refL r).length := by
  have := info_ref h
  unfold refC at this
  rw [this, List.size_toArray]
set_option maxRecDepth 100000 in
set_option maxHeartbeats 16000000 in
theorem refsParse_any (I : Impl) (s : List UInt8) (w : World) : Calls Tryd.prog 3 #[.string (str s)] w fun e w' => e = .returned (.bool true) ∧ Below w.heap.size w w' := by
  have szs := str_size s
  have CN0 := fun w => named_any I w
  by_cases h3 : 300 < s.length
  · have q1 : (300 : Int) < (s.length : Int) := by omega
    go_enter Tryd.func3, Tryd.ntmps3
    go_wp2_with (first
      | (go_at_call 8; ((with_reducible refine (CN0 _).mono ?_); rintro e w1 ⟨rfl, b1⟩); have B1 := Lib.hid b1; clear b1))
    go_ret
    exact ⟨rfl, B1.out⟩
  · have q1 : ¬ (300 : Int) < (s.length : Int) := by omega
    have M := Lib.hid (LM.start w)
    have CP := fun w => I.parse s w (by omega)
    have CQ := fun w => rread_any s w (by omega)
    have HOA := Lib.hid (parse_ok s)
    generalize (parseR s).1 = A at *
    generalize (parseR s).2 = E at *
    have HIA := Lib.hid (info_ref HOA.out)
    have HSA := Lib.hid (show (refC zeroR).size = (refC A).size by rw [refC_size zero_ok, refC_size HOA.out])
    go_enter Tryd.func3, Tryd.ntmps3
    go_upto_region 5 with (first
    | (go_at_call 9; ((with_reducible refine (CP _).mono ?_); rintro e w1 ⟨rfl, b1⟩); replace M := Lib.hid (M.out.below b1); clear b1 CP; obtain ⟨v1, hv1⟩ : ∃ v, w1.alloc (.cells #[.string ⟨#[]⟩, .string ⟨#[]⟩, .string ⟨#[]⟩, .int .u8 0, .int .u8 0, .int .u8 0, .int .u8 0, .int .u8 0, .int .u8 0, .int .u8 0, .int .u8 0, .int .u8 0, .int .u8 0, .int .u8 0, .int .u8 0, .int .u8 0, .int .u8 0, .int .u8 0, .int .u8 0, .int .u8 0, .int .u8 0, .int .u8 0, .int .u8 0, .int .u8 0, .int .u8 0, .int .u8 0, .int .u8 0, .int .u8 0, .int .u8 0, .int .u8 0, .int .u8 0, .int .u8 0, .int .u8 0, .int .u8 0, .int .u8 0, .bool false] 26) = v := ⟨_, rfl⟩; obtain ⟨HZ1, HN1⟩ := M.out.made hv1 A; replace HZ1 := Lib.hid HZ1; replace M := Lib.hid HN1; clear HN1)
    | ((with_reducible show wpList _ _ _ (⟨none, .store _ (.tmp 3) _, _, _, _, _⟩ :: _) _ _); refine wpList_store_row rfl 26 _ _ rfl w1.heap.size (refC A) rfl rfl 26 (refC zeroR) HZ1.out HIA.out HSA.out (refC_all _) ?_; generalize World.setRow _ _ _ = x1 at *; clear hv1)
    | (go_at_call 10; ((with_reducible refine (CQ _).mono ?_); rintro e w2 ⟨rfl, b2⟩); replace M := Lib.hid (M.out.below b2); clear b2 CQ; obtain ⟨v2, hv2⟩ : ∃ v, w2.alloc (.cells #[.string ⟨#[]⟩, .string ⟨#[]⟩, .string ⟨#[]⟩, .int .u8 0, .int .u8 0, .int .u8 0, .int .u8 0, .int .u8 0, .int .u8 0, .int .u8 0, .int .u8 0, .int .u8 0, .int .u8 0, .int .u8 0, .int .u8 0, .int .u8 0, .int .u8 0, .int .u8 0, .int .u8 0, .int .u8 0, .int .u8 0, .int .u8 0, .int .u8 0, .int .u8 0, .int .u8 0, .int .u8 0, .int .u8 0, .int .u8 0, .int .u8 0, .int .u8 0, .int .u8 0, .int .u8 0, .int .u8 0, .int .u8 0, .int .u8 0, .bool false] 26) = v := ⟨_, rfl⟩; obtain ⟨HZ2, HN2⟩ := M.out.made hv2 A; replace HZ2 := Lib.hid HZ2; replace M := Lib.hid HN2; clear HN2)
    | ((with_reducible show wpList _ _ _ (⟨none, .store _ (.tmp 5) _, _, _, _, _⟩ :: _) _ _); refine wpList_store_row rfl 26 _ _ rfl w2.heap.size (refC A) rfl rfl 26 (refC zeroR) HZ2.out HIA.out HSA.out (refC_all _) ?_; generalize World.setRow _ _ _ = x2 at *; clear hv2))
    have CT : ∀ w', LM w w' [(w2.heap.size, A), (w1.heap.size, A)] → _ := fun w' m => LM.call (I.text A w' HOA.out) m
    have CRT : ∀ w', LM w w' [(w2.heap.size, A), (w1.heap.size, A)] → _ := fun w' m => LM.call (rshow_any A w' HOA.out) m
    have CS : ∀ w', LM w w' [(w2.heap.size, A), (w1.heap.size, A)] → _ := fun w' m => LM.call (I.short A w' HOA.out) m
    have CRS : ∀ w', LM w w' [(w2.heap.size, A), (w1.heap.size, A)] → _ := fun w' m => LM.call (rbrief_any A w' HOA.out) m
    have CN : ∀ w', LM w w' [(w2.heap.size, A), (w1.heap.size, A)] → _ := fun w' m => LM.call (named_any I w') m
    have q1 : ∀ w, (Op.equalIn 10000 26 (.agg (refC A)) (.agg (refC A))).run Tryd.prog w = .ok true w := fun w => by
      rw [eq_ref w 9997 HOA.out HOA.out]; simp
    have gd := guard_ref
    have hu := Tryd.underlying26
    have hA := info_refL HOA.out
    have R1 : ∀ w', LM w w' [(w2.heap.size, A), (w1.heap.size, A)] → w'.rangeAt w1.heap.size 0 (refL A) := fun w' m => range_ref (m.at_ _ _ (by repeat (first | exact List.Mem.head _ | apply List.Mem.tail))).1
    have R2 : ∀ w', LM w w' [(w2.heap.size, A), (w1.heap.size, A)] → w'.rangeAt w2.heap.size 0 (refL A) := fun w' m => range_ref (m.at_ _ _ (by repeat (first | exact List.Mem.head _ | apply List.Mem.tail))).1
    obtain ⟨X3, hX3⟩ : ∃ x, x = str (showR A) := ⟨_, rfl⟩
    obtain ⟨X4, hX4⟩ : ∃ x, x = str (shortR A) := ⟨_, rfl⟩
    rw [← hX3] at CT CRT
    rw [← hX4] at CS CRS
    clear hX3 hX4
    unfold refC at q1 CT CRT CS CRS ⊢
    have md := M.out.below (Below.refl x2.heap.size x2).drew
    obtain ⟨LMM, hM⟩ : ∃ LMM : World → Prop, LMM = fun w' => LM w w' [(w2.heap.size, A), (w1.heap.size, A)] := ⟨_, rfl⟩
    have MT : ∀ w', LMM w' → LM w w' [(w2.heap.size, A), (w1.heap.size, A)] := fun w' h => by rw [hM] at h; exact h
    have TM : ∀ w', LM w w' [(w2.heap.size, A), (w1.heap.size, A)] → LMM w' := fun w' h => by rw [hM]; exact h
    replace md := TM _ md
    have ML : ∀ w', LMM w' → Below w.heap.size w w' := fun w' h => (MT w' h).b
    have TM' : ∀ {f args v} w', LMM w' → (LM w w' [(w2.heap.size, A), (w1.heap.size, A)] → Calls Tryd.prog f args w' fun e w'' => e = .returned v ∧ LM w w'' [(w2.heap.size, A), (w1.heap.size, A)]) → Calls Tryd.prog f args w' fun e w'' => e = .returned v ∧ LMM w'' :=
      fun w' h hc => (hc (MT w' h)).mono fun _ _ ⟨h1, h2⟩ => ⟨h1, TM _ h2⟩
    replace CT := fun w' (h : LMM w') => TM' w' h (CT w')
    replace CRT := fun w' (h : LMM w') => TM' w' h (CRT w')
    replace CS := fun w' (h : LMM w') => TM' w' h (CS w')
    replace CRS := fun w' (h : LMM w') => TM' w' h (CRS w')
    replace CN := fun w' (h : LMM w') => TM' w' h (CN w')
    replace R1 := fun w' (h : LMM w') => R1 w' (MT w' h)
    replace R2 := fun w' (h : LMM w') => R2 w' (MT w' h)
    clear MT TM TM' hM M HIA HSA HOA CN0
    generalize refL A = NA at *
    generalize w1.heap.size = g1 at *
    generalize w2.heap.size = g2 at *
    obtain ⟨SS, hSS⟩ : ∃ SS : World → Prop, SS = fun w' => LMM w' ∧ w'.rangeAt g1 0 NA ∧ w'.rangeAt g2 0 NA := ⟨_, rfl⟩
    have SO : ∀ w', LMM w' → SS w' := fun w' m => by rw [hSS]; exact ⟨m, R1 w' m, R2 w' m⟩
    have OS : ∀ w', SS w' → LMM w' ∧ w'.rangeAt g1 0 NA ∧ w'.rangeAt g2 0 NA := fun w' h => by rw [hSS] at h; exact h
    clear hSS R1 R2
    refine wp_region_noPanic ?_
    refine wp_region_held_drew (S := SS) (by kernel_rfl) (SO _ md) (fun hHeld => ?_)
    refine wpAnyH_take (i := 0) (oi := { dst := some 21, op := Op.load 26 (Operand.tmp 3), type := 26, pos := "law.go:34", after := #[], guard := none }) (v := _) rfl (by kernel_rfl) (by kernel_rfl) (by kernel_rfl) (fun _ _ _ h => h) (yieldsIf_load_mid (by rfl) _ _ rfl _ _ rfl _ _ (by intro w hSw; have hSw := OS _ hSw; go_split_ands; assumption) (by assumption) rfl (by assumption)) (by assumption) ?_
    try simp only [Act.put, List.setIfInBounds_toArray, List.set_cons_zero, List.set_cons_succ]
    refine wpAnyH_take (i := 1) (oi := { dst := some 22, op := Op.load 26 (Operand.tmp 5), type := 26, pos := "law.go:34", after := #[], guard := none }) (v := _) rfl (by kernel_rfl) (by kernel_rfl) (by kernel_rfl) (fun _ _ _ h => h) (yieldsIf_load_mid (by rfl) _ _ rfl _ _ rfl _ _ (by intro w hSw; have hSw := OS _ hSw; go_split_ands; assumption) (by assumption) rfl (by assumption)) (by assumption) ?_
    try simp only [Act.put, List.setIfInBounds_toArray, List.set_cons_zero, List.set_cons_succ]
    refine wpAnyH_take (i := 2) (oi := { dst := some 23, op := Op.binOp BinOp.eql 26 (Operand.tmp 21) (Operand.tmp 22) 26, type := 4, pos := "law.go:34", after := #[{ on := 0, ground := Ground.data }, { on := 1, ground := Ground.data }], guard := none }) (v := ?_) rfl (by kernel_rfl) (by kernel_rfl) (by kernel_rfl) (fun _ _ _ h => h) (Or.inl ⟨by rfl, ?_⟩) (by assumption) ?_
    rotate_left
    · intro w hSw
      skip
      clear hSw
      go_simp
      try with_reducible rfl
    try simp only [Act.put, List.setIfInBounds_toArray, List.set_cons_zero, List.set_cons_succ]
    refine wpAnyH_take (i := 3) (oi := { dst := some 24, op := Op.move (Operand.tmp 23), type := 4, pos := "law.go:34", after := #[{ on := 2, ground := Ground.data }], guard := none }) (v := ?_) rfl (by kernel_rfl) (by kernel_rfl) (by kernel_rfl) (fun _ _ _ h => h) (Or.inl ⟨by rfl, ?_⟩) (by assumption) ?_
    rotate_left
    · intro w hSw
      skip
      clear hSw
      go_simp
      try with_reducible rfl
    try simp only [Act.put, List.setIfInBounds_toArray, List.set_cons_zero, List.set_cons_succ]
    refine wpAnyH_take (i := 4) (oi := { dst := some 25, op := Op.move (Operand.tmp 4), type := 27, pos := "law.go:34", after := #[{ on := 3, ground := Ground.guard }], guard := some (3, true) }) (v := ?_) rfl (by kernel_rfl) (by kernel_rfl) (by kernel_rfl) (fun _ _ _ h => h) (Or.inl ⟨by rfl, ?_⟩) (by assumption) ?_
    rotate_left
    · intro w hSw
      skip
      clear hSw
      go_simp
      try with_reducible rfl
    try simp only [Act.put, List.setIfInBounds_toArray, List.set_cons_zero, List.set_cons_succ]
    refine wpAnyH_take (i := 5) (oi := { dst := some 26, op := Op.move (Operand.tmp 6), type := 27, pos := "law.go:34", after := #[{ on := 3, ground := Ground.guard }], guard := some (3, true) }) (v := ?_) rfl (by kernel_rfl) (by kernel_rfl) (by kernel_rfl) (fun _ _ _ h => h) (Or.inl ⟨by rfl, ?_⟩) (by assumption) ?_
    rotate_left
    · intro w hSw
      skip
      clear hSw
      go_simp
      try with_reducible rfl
    try simp only [Act.put, List.setIfInBounds_toArray, List.set_cons_zero, List.set_cons_succ]
    refine wpAnyH_take (i := 6) (oi := { dst := some 27, op := Op.binOp BinOp.eql 27 (Operand.tmp 25) (Operand.tmp 26) 27, type := 4, pos := "law.go:34", after := #[{ on := 4, ground := Ground.data }, { on := 5, ground := Ground.data }, { on := 3, ground := Ground.guard }], guard := some (3, true) }) (v := ?_) rfl (by kernel_rfl) (by kernel_rfl) (by kernel_rfl) (fun _ _ _ h => h) (Or.inl ⟨by rfl, ?_⟩) (by assumption) ?_
    rotate_left
    · intro w hSw
      skip
      clear hSw
      go_simp
      try with_reducible rfl
    try simp only [Act.put, List.setIfInBounds_toArray, List.set_cons_zero, List.set_cons_succ]
    refine wpAnyH_take (i := 7) (oi := { dst := some 28, op := Op.pick (Operand.tmp 24) (Operand.tmp 27) (Operand.const (Value.bool false)), type := 4, pos := "law.go:34", after := #[{ on := 3, ground := Ground.data }, { on := 6, ground := Ground.data }], guard := none }) (v := ?_) rfl (by kernel_rfl) (by kernel_rfl) (by kernel_rfl) (fun _ _ _ h => h) (Or.inl ⟨by rfl, ?_⟩) (by assumption) ?_
    rotate_left
    · intro w hSw
      skip
      clear hSw
      go_simp
      try with_reducible rfl
    try simp only [Act.put, List.setIfInBounds_toArray, List.set_cons_zero, List.set_cons_succ]
    refine wpAnyH_take (i := 8) (oi := { dst := some 29, op := Op.move (Operand.tmp 28), type := 4, pos := "law.go:34", after := #[{ on := 7, ground := Ground.data }, { on := 3, ground := Ground.chain }], guard := none }) (v := ?_) rfl (by kernel_rfl) (by kernel_rfl) (by kernel_rfl) (fun _ _ _ h => h) (Or.inl ⟨by rfl, ?_⟩) (by assumption) ?_
    rotate_left
    · intro w hSw
      skip
      clear hSw
      go_simp
      try with_reducible rfl
    try simp only [Act.put, List.setIfInBounds_toArray, List.set_cons_zero, List.set_cons_succ]
    refine wpAnyH_take (i := 9) (oi := { dst := some 30, op := Op.load 26 (Operand.tmp 3), type := 26, pos := "law.go:34", after := #[{ on := 8, ground := Ground.guard }], guard := some (8, true) }) (v := _) rfl (by kernel_rfl) (by kernel_rfl) (by kernel_rfl) (fun _ _ _ h => h) (yieldsIf_load_mid (by rfl) _ _ rfl _ _ rfl _ _ (by intro w hSw; have hSw := OS _ hSw; go_split_ands; assumption) (by assumption) rfl (by assumption)) (by assumption) ?_
    try simp only [Act.put, List.setIfInBounds_toArray, List.set_cons_zero, List.set_cons_succ]
    refine wpAnyH_take (i := 11) (oi := { dst := some 32, op := Op.load 26 (Operand.tmp 5), type := 26, pos := "law.go:34", after := #[{ on := 8, ground := Ground.guard }], guard := some (8, true) }) (v := _) rfl (by kernel_rfl) (by kernel_rfl) (by kernel_rfl) (fun _ _ _ h => h) (yieldsIf_load_mid (by rfl) _ _ rfl _ _ rfl _ _ (by intro w hSw; have hSw := OS _ hSw; go_split_ands; assumption) (by assumption) rfl (by assumption)) (by assumption) ?_
    try simp only [Act.put, List.setIfInBounds_toArray, List.set_cons_zero, List.set_cons_succ]
    refine wpAnyH_ready (rs := [10]) (by kernel_rfl) (by simp) ?_
    refine (AllReadyH.cons (o := { dst := some 31, op := Op.call { callee := Callee.value (Operand.func 11), args := #[Operand.tmp 30], argTypes := #[26] }, type := 9, pos := "law.go:34", after := #[{ on := 9, ground := Ground.data }, { on := 8, ground := Ground.chain }, { on := 8, ground := Ground.guard }], guard := some (8, true) }) rfl (fun K hK => ?_) AllReadyH.nil)
    go_simp
    refine (CT _ (by assumption)).mono ?_
    rintro e w10' ⟨rfl, m10'⟩
    refine hK.out _ _ (SO _ (by assumption)) (fun hHeld => ?_)
    clear hK K
    try simp only [Act.put, List.setIfInBounds_toArray, List.set_cons_zero, List.set_cons_succ]
    refine wpAnyH_ready (rs := [12]) (by kernel_rfl) (by simp) ?_
    refine (AllReadyH.cons (o := { dst := some 33, op := Op.call { callee := Callee.value (Operand.func 12), args := #[Operand.tmp 32], argTypes := #[26] }, type := 9, pos := "law.go:34", after := #[{ on := 11, ground := Ground.data }, { on := 10, ground := Ground.chain }, { on := 8, ground := Ground.guard }], guard := some (8, true) }) rfl (fun K hK => ?_) AllReadyH.nil)
    go_simp
    refine (CRT _ (by assumption)).mono ?_
    rintro e w12' ⟨rfl, m12'⟩
    refine hK.out _ _ (SO _ (by assumption)) (fun hHeld => ?_)
    clear hK K
    try simp only [Act.put, List.setIfInBounds_toArray, List.set_cons_zero, List.set_cons_succ]
    refine wpAnyH_take (i := 13) (oi := { dst := some 34, op := Op.binOp BinOp.eql 9 (Operand.tmp 31) (Operand.tmp 33) 9, type := 4, pos := "law.go:34", after := #[{ on := 10, ground := Ground.data }, { on := 12, ground := Ground.data }, { on := 8, ground := Ground.guard }], guard := some (8, true) }) (v := ?_) rfl (by kernel_rfl) (by kernel_rfl) (by kernel_rfl) (fun _ _ _ h => h) (Or.inl ⟨by rfl, ?_⟩) (by assumption) ?_
    rotate_left
    · intro w hSw
      skip
      clear hSw
      go_simp
      try with_reducible rfl
    try simp only [Act.put, List.setIfInBounds_toArray, List.set_cons_zero, List.set_cons_succ]
    refine wpAnyH_take (i := 14) (oi := { dst := some 35, op := Op.pick (Operand.tmp 29) (Operand.tmp 34) (Operand.const (Value.bool false)), type := 4, pos := "law.go:34", after := #[{ on := 8, ground := Ground.data }, { on := 13, ground := Ground.data }], guard := none }) (v := ?_) rfl (by kernel_rfl) (by kernel_rfl) (by kernel_rfl) (fun _ _ _ h => h) (Or.inl ⟨by rfl, ?_⟩) (by assumption) ?_
    rotate_left
    · intro w hSw
      skip
      clear hSw
      go_simp
      try with_reducible rfl
    try simp only [Act.put, List.setIfInBounds_toArray, List.set_cons_zero, List.set_cons_succ]
    refine wpAnyH_take (i := 15) (oi := { dst := some 36, op := Op.move (Operand.tmp 35), type := 4, pos := "law.go:34", after := #[{ on := 14, ground := Ground.data }, { on := 12, ground := Ground.chain }], guard := none }) (v := ?_) rfl (by kernel_rfl) (by kernel_rfl) (by kernel_rfl) (fun _ _ _ h => h) (Or.inl ⟨by rfl, ?_⟩) (by assumption) ?_
    rotate_left
    · intro w hSw
      skip
      clear hSw
      go_simp
      try with_reducible rfl
    try simp only [Act.put, List.setIfInBounds_toArray, List.set_cons_zero, List.set_cons_succ]
    refine wpAnyH_take (i := 16) (oi := { dst := some 37, op := Op.load 26 (Operand.tmp 3), type := 26, pos := "law.go:34", after := #[{ on := 15, ground := Ground.guard }], guard := some (15, true) }) (v := _) rfl (by kernel_rfl) (by kernel_rfl) (by kernel_rfl) (fun _ _ _ h => h) (yieldsIf_load_mid (by rfl) _ _ rfl _ _ rfl _ _ (by intro w hSw; have hSw := OS _ hSw; go_split_ands; assumption) (by assumption) rfl (by assumption)) (by assumption) ?_
    try simp only [Act.put, List.setIfInBounds_toArray, List.set_cons_zero, List.set_cons_succ]
    refine wpAnyH_take (i := 18) (oi := { dst := some 39, op := Op.load 26 (Operand.tmp 5), type := 26, pos := "law.go:34", after := #[{ on := 15, ground := Ground.guard }], guard := some (15, true) }) (v := _) rfl (by kernel_rfl) (by kernel_rfl) (by kernel_rfl) (fun _ _ _ h => h) (yieldsIf_load_mid (by rfl) _ _ rfl _ _ rfl _ _ (by intro w hSw; have hSw := OS _ hSw; go_split_ands; assumption) (by assumption) rfl (by assumption)) (by assumption) ?_
    try simp only [Act.put, List.setIfInBounds_toArray, List.set_cons_zero, List.set_cons_succ]
    refine wpAnyH_ready (rs := [17]) (by kernel_rfl) (by simp) ?_
    refine (AllReadyH.cons (o := { dst := some 38, op := Op.call { callee := Callee.value (Operand.func 13), args := #[Operand.tmp 37], argTypes := #[26] }, type := 9, pos := "law.go:34", after := #[{ on := 16, ground := Ground.data }, { on := 15, ground := Ground.chain }, { on := 15, ground := Ground.guard }], guard := some (15, true) }) rfl (fun K hK => ?_) AllReadyH.nil)
    go_simp
    refine (CS _ (by assumption)).mono ?_
    rintro e w17' ⟨rfl, m17'⟩
    refine hK.out _ _ (SO _ (by assumption)) (fun hHeld => ?_)
    clear hK K
    try simp only [Act.put, List.setIfInBounds_toArray, List.set_cons_zero, List.set_cons_succ]
    refine wpAnyH_ready (rs := [19]) (by kernel_rfl) (by simp) ?_
    refine (AllReadyH.cons (o := { dst := some 40, op := Op.call { callee := Callee.value (Operand.func 14), args := #[Operand.tmp 39], argTypes := #[26] }, type := 9, pos := "law.go:34", after := #[{ on := 18, ground := Ground.data }, { on := 17, ground := Ground.chain }, { on := 15, ground := Ground.guard }], guard := some (15, true) }) rfl (fun K hK => ?_) AllReadyH.nil)
    go_simp
    refine (CRS _ (by assumption)).mono ?_
    rintro e w19' ⟨rfl, m19'⟩
    refine hK.out _ _ (SO _ (by assumption)) (fun hHeld => ?_)
    clear hK K
    try simp only [Act.put, List.setIfInBounds_toArray, List.set_cons_zero, List.set_cons_succ]
    refine wpAnyH_take (i := 20) (oi := { dst := some 41, op := Op.binOp BinOp.eql 9 (Operand.tmp 38) (Operand.tmp 40) 9, type := 4, pos := "law.go:34", after := #[{ on := 17, ground := Ground.data }, { on := 19, ground := Ground.data }, { on := 15, ground := Ground.guard }], guard := some (15, true) }) (v := ?_) rfl (by kernel_rfl) (by kernel_rfl) (by kernel_rfl) (fun _ _ _ h => h) (Or.inl ⟨by rfl, ?_⟩) (by assumption) ?_
    rotate_left
    · intro w hSw
      skip
      clear hSw
      go_simp
      try with_reducible rfl
    try simp only [Act.put, List.setIfInBounds_toArray, List.set_cons_zero, List.set_cons_succ]
    refine wpAnyH_take (i := 21) (oi := { dst := some 42, op := Op.pick (Operand.tmp 36) (Operand.tmp 41) (Operand.const (Value.bool false)), type := 4, pos := "law.go:34", after := #[{ on := 15, ground := Ground.data }, { on := 20, ground := Ground.data }], guard := none }) (v := ?_) rfl (by kernel_rfl) (by kernel_rfl) (by kernel_rfl) (fun _ _ _ h => h) (Or.inl ⟨by rfl, ?_⟩) (by assumption) ?_
    rotate_left
    · intro w hSw
      skip
      clear hSw
      go_simp
      try with_reducible rfl
    try simp only [Act.put, List.setIfInBounds_toArray, List.set_cons_zero, List.set_cons_succ]
    refine wpAnyH_take (i := 22) (oi := { dst := some 43, op := Op.move (Operand.tmp 42), type := 4, pos := "law.go:34", after := #[{ on := 21, ground := Ground.data }, { on := 19, ground := Ground.chain }], guard := none }) (v := ?_) rfl (by kernel_rfl) (by kernel_rfl) (by kernel_rfl) (fun _ _ _ h => h) (Or.inl ⟨by rfl, ?_⟩) (by assumption) ?_
    rotate_left
    · intro w hSw
      skip
      clear hSw
      go_simp
      try with_reducible rfl
    try simp only [Act.put, List.setIfInBounds_toArray, List.set_cons_zero, List.set_cons_succ]
    refine wpAnyH_ready (rs := [23]) (by kernel_rfl) (by simp) ?_
    refine (AllReadyH.cons (o := { dst := some 44, op := Op.call { callee := Callee.value (Operand.func 8), args := #[], argTypes := #[] }, type := 4, pos := "law.go:34", after := #[{ on := 22, ground := Ground.chain }, { on := 22, ground := Ground.guard }], guard := some (22, true) }) rfl (fun K hK => ?_) AllReadyH.nil)
    go_simp
    refine (CN _ (by assumption)).mono ?_
    rintro e w23' ⟨rfl, m23'⟩
    refine hK.out _ _ (SO _ (by assumption)) (fun hHeld => ?_)
    clear hK K
    try simp only [Act.put, List.setIfInBounds_toArray, List.set_cons_zero, List.set_cons_succ]
    refine wpAnyH_take (i := 24) (oi := { dst := some 45, op := Op.pick (Operand.tmp 43) (Operand.tmp 44) (Operand.const (Value.bool false)), type := 4, pos := "law.go:34", after := #[{ on := 22, ground := Ground.data }, { on := 23, ground := Ground.data }], guard := none }) (v := ?_) rfl (by kernel_rfl) (by kernel_rfl) (by kernel_rfl) (fun _ _ _ h => h) (Or.inl ⟨by rfl, ?_⟩) (by assumption) ?_
    rotate_left
    · intro w hSw
      skip
      clear hSw
      go_simp
      try with_reducible rfl
    try simp only [Act.put, List.setIfInBounds_toArray, List.set_cons_zero, List.set_cons_succ]
    refine wpAnyH_take (i := 25) (oi := { dst := some 2, op := Op.assign (Operand.tmp 45), type := 4, pos := "law.go:34", after := #[{ on := 24, ground := Ground.data }, { on := 23, ground := Ground.chain }, { on := 0, ground := Ground.phase }, { on := 1, ground := Ground.phase }, { on := 2, ground := Ground.phase }, { on := 3, ground := Ground.phase }, { on := 4, ground := Ground.phase }, { on := 5, ground := Ground.phase }, { on := 6, ground := Ground.phase }, { on := 7, ground := Ground.phase }, { on := 8, ground := Ground.phase }, { on := 9, ground := Ground.phase }, { on := 10, ground := Ground.phase }, { on := 11, ground := Ground.phase }, { on := 12, ground := Ground.phase }, { on := 13, ground := Ground.phase }, { on := 14, ground := Ground.phase }, { on := 15, ground := Ground.phase }, { on := 16, ground := Ground.phase }, { on := 17, ground := Ground.phase }, { on := 18, ground := Ground.phase }, { on := 19, ground := Ground.phase }, { on := 20, ground := Ground.phase }, { on := 21, ground := Ground.phase }, { on := 22, ground := Ground.phase }, { on := 23, ground := Ground.phase }, { on := 24, ground := Ground.phase }], guard := none }) (v := ?_) rfl (by kernel_rfl) (by kernel_rfl) (by kernel_rfl) (fun _ _ _ h => h) (Or.inl ⟨by rfl, ?_⟩) (by assumption) ?_
    rotate_left
    · intro w hSw
      skip
      clear hSw
      go_simp
      try with_reducible rfl
    try simp only [Act.put, List.setIfInBounds_toArray, List.set_cons_zero, List.set_cons_succ]
    refine wpAnyH_done (by kernel_rfl) ?_ _
    refine NoPanic.normal ?_
    go_wp2
    go_ret
    exact ⟨rfl, ML _ (by assumption)⟩
theorem parse_walk (I : Impl) (a0 : ByteArray) (W : World) (_w0 : a0.size ≤ maxLen) : Calls Tryd.prog 3 #[.string a0] W fun e w' => e = .returned (.bool true) ∧ Below W.heap.size W w' := by
  have := refsParse_any I a0.data.toList W
  exact this
end Go.Proofs.YtldbfjcfobdkpaaDoor
