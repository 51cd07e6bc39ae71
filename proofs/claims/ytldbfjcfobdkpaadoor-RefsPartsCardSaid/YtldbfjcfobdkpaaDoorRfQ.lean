/- Layer 12: the walk of RefsTell. -/
import Derived.Test.YtldbfjcfobdkpaaDoorRfP
namespace Go.Proofs.YtldbfjcfobdkpaaDoor
open Go.RowKit

theorem refAt.cells' {w : World} {b : Nat} {r : RR} (h : refAt w b r) :
    w.cell? ⟨b, 0, none⟩ = some (.string (str r.dom)) ∧ w.cell? ⟨b, 1, none⟩ = some (.string (str r.path)) ∧ w.cell? ⟨b, 2, none⟩ = some (.string (str r.tag)) :=
  ⟨(rowC_cell h 0).trans (refC_get0 r), (rowC_cell h 1).trans (refC_get1 r), (rowC_cell h 2).trans (refC_get2 r)⟩
set_option maxRecDepth 100000 in
set_option maxHeartbeats 16000000 in
theorem refsTell_any (I : Impl) (r : RR) (w : World) (hd : r.dig.length = 32) : Calls Tryd.prog 4 #[.agg (refC r)] w fun e w' => e = .returned (.bool true) ∧ Below w.heap.size w w' := by
  have z0 := str_size r.dom
  have z1 := str_size r.path
  have z2 := str_size r.tag
  have CN0 := fun w => named_any I w
  have hsz : (refC r).size = 36 := by unfold refC refL; simp [hd]
  have r0 : refAt (w.alloc (.cells (refC r) 26)) w.heap.size r := rowC_new w _ _
  have al : Below w.heap.size w (w.alloc (.cells (refC r) 26)) := (Below.refl _ _).alloc (Nat.le_refl _) _
  obtain ⟨w0, hw0⟩ : ∃ w0, w.alloc (.cells (refC r) 26) = w0 := ⟨_, rfl⟩
  rw [hw0] at r0 al
  have HB := Lib.hid al
  have HR := Lib.hid r0
  obtain ⟨c0, c1, c2⟩ := r0.cells'
  clear al r0
  by_cases h0 : 300 < r.dom.length
  · have q0 : (300 : Int) < (r.dom.length : Int) := by omega
    clear hd
    go_enter Tryd.func4, Tryd.ntmps4
    go_wp2_with (first
      | (go_at_call 8; ((with_reducible refine (CN0 _).mono ?_); rintro e w1 ⟨rfl, b1⟩); have B1 := Lib.hid (HB.out.trans (b1.mono HB.out.size)); clear b1))
    go_ret
    exact ⟨rfl, B1.out⟩
  · have q0 : ¬ (300 : Int) < (r.dom.length : Int) := by omega
    by_cases h1 : 300 < r.path.length
    · have q1 : (300 : Int) < (r.path.length : Int) := by omega
      clear hd
      go_enter Tryd.func4, Tryd.ntmps4
      go_wp2_with (first
        | (go_at_call 8; ((with_reducible refine (CN0 _).mono ?_); rintro e w1 ⟨rfl, b1⟩); have B1 := Lib.hid (HB.out.trans (b1.mono HB.out.size)); clear b1))
      go_ret
      exact ⟨rfl, B1.out⟩
    · have q1 : ¬ (300 : Int) < (r.path.length : Int) := by omega
      by_cases h2 : 300 < r.tag.length
      · have q2 : (300 : Int) < (r.tag.length : Int) := by omega
        clear hd
        go_enter Tryd.func4, Tryd.ntmps4
        go_wp2_with (first
          | (go_at_call 8; ((with_reducible refine (CN0 _).mono ?_); rintro e w1 ⟨rfl, b1⟩); have B1 := Lib.hid (HB.out.trans (b1.mono HB.out.size)); clear b1))
        go_ret
        exact ⟨rfl, B1.out⟩
      · have q2 : ¬ (300 : Int) < (r.tag.length : Int) := by omega
        have HO := Lib.hid (show r.ok from ⟨by omega, by omega, by omega, hd⟩)
        have M := Lib.hid (show LM w w0 [(w.heap.size, r)] from ⟨HB.out, fun g x hm => by
          rcases List.mem_cons.1 hm with e | hm
          · cases e
            exact ⟨HR.out, Nat.le_refl _⟩
          · cases hm⟩)
        clear hd h0 h1 h2
        have hA := info_refL HO.out
        have HIR := Lib.hid (info_ref HO.out)
        go_enter Tryd.func4, Tryd.ntmps4
        go_upto_region 3 with (fail)
        have CC : ∀ w', LM w w' [(w.heap.size, r)] → _ := fun w' m => LM.call (I.check r w' HO.out) m
        have CRC : ∀ w', LM w w' [(w.heap.size, r)] → _ := fun w' m => LM.call (rcheck_any r w' HO.out) m
        have CT : ∀ w', LM w w' [(w.heap.size, r)] → _ := fun w' m => LM.call (I.text r w' HO.out) m
        have CRT : ∀ w', LM w w' [(w.heap.size, r)] → _ := fun w' m => LM.call (rshow_any r w' HO.out) m
        have CS : ∀ w', LM w w' [(w.heap.size, r)] → _ := fun w' m => LM.call (I.short r w' HO.out) m
        have CRS : ∀ w', LM w w' [(w.heap.size, r)] → _ := fun w' m => LM.call (rbrief_any r w' HO.out) m
        have CN : ∀ w', LM w w' [(w.heap.size, r)] → _ := fun w' m => LM.call (named_any I w') m
        have gd := guard_ref
        have hu := Tryd.underlying26
        have R1 : ∀ w', LM w w' [(w.heap.size, r)] → w'.rangeAt w.heap.size 0 (refL r) := fun w' m => range_ref (m.at_ _ _ (by repeat (first | exact List.Mem.head _ | apply List.Mem.tail))).1
        obtain ⟨X2, hX2⟩ : ∃ x, x = checkR r := ⟨_, rfl⟩
        obtain ⟨X3, hX3⟩ : ∃ x, x = str (showR r) := ⟨_, rfl⟩
        obtain ⟨X4, hX4⟩ : ∃ x, x = str (shortR r) := ⟨_, rfl⟩
        rw [← hX2] at CC CRC
        rw [← hX3] at CT CRT
        rw [← hX4] at CS CRS
        clear hX2 hX3 hX4
        unfold refC at CC CRC CT CRT CS CRS ⊢
        have md := M.out.below (Below.refl w0.heap.size w0).drew
        obtain ⟨LMM, hM⟩ : ∃ LMM : World → Prop, LMM = fun w' => LM w w' [(w.heap.size, r)] := ⟨_, rfl⟩
        have MT : ∀ w', LMM w' → LM w w' [(w.heap.size, r)] := fun w' h => by rw [hM] at h; exact h
        have TM : ∀ w', LM w w' [(w.heap.size, r)] → LMM w' := fun w' h => by rw [hM]; exact h
        replace md := TM _ md
        have ML : ∀ w', LMM w' → Below w.heap.size w w' := fun w' h => (MT w' h).b
        have TM' : ∀ {f args v} w', LMM w' → (LM w w' [(w.heap.size, r)] → Calls Tryd.prog f args w' fun e w'' => e = .returned v ∧ LM w w'' [(w.heap.size, r)]) → Calls Tryd.prog f args w' fun e w'' => e = .returned v ∧ LMM w'' :=
          fun w' h hc => (hc (MT w' h)).mono fun _ _ ⟨h1, h2⟩ => ⟨h1, TM _ h2⟩
        replace CC := fun w' (h : LMM w') => TM' w' h (CC w')
        replace CRC := fun w' (h : LMM w') => TM' w' h (CRC w')
        replace CT := fun w' (h : LMM w') => TM' w' h (CT w')
        replace CRT := fun w' (h : LMM w') => TM' w' h (CRT w')
        replace CS := fun w' (h : LMM w') => TM' w' h (CS w')
        replace CRS := fun w' (h : LMM w') => TM' w' h (CRS w')
        replace CN := fun w' (h : LMM w') => TM' w' h (CN w')
        replace R1 := fun w' (h : LMM w') => R1 w' (MT w' h)
        clear MT TM TM' hM M HIR HO CN0 HB HR hw0 c0 c1 c2 hsz
        generalize refL r = NA at *
        obtain ⟨SS, hSS⟩ : ∃ SS : World → Prop, SS = fun w' => LMM w' ∧ w'.rangeAt w.heap.size 0 NA := ⟨_, rfl⟩
        have SO : ∀ w', LMM w' → SS w' := fun w' m => by rw [hSS]; exact ⟨m, R1 w' m⟩
        have OS : ∀ w', SS w' → LMM w' ∧ w'.rangeAt w.heap.size 0 NA := fun w' h => by rw [hSS] at h; exact h
        clear hSS R1
        refine wp_region_noPanic ?_
        refine wp_region_held_drew (S := SS) (by kernel_rfl) (SO _ md) (fun hHeld => ?_)
        refine wpAnyH_take (i := 0) (oi := { dst := some 20, op := Op.load 26 (Operand.tmp 1), type := 26, pos := "law.go:42", after := #[], guard := none }) (v := _) rfl (by kernel_rfl) (by kernel_rfl) (by kernel_rfl) (fun _ _ _ h => h) (yieldsIf_load_mid (by rfl) _ _ rfl _ _ rfl _ _ (by intro w hSw; have hSw := OS _ hSw; go_split_ands; assumption) (by assumption) rfl (by assumption)) (by assumption) ?_
        try simp only [Act.put, List.setIfInBounds_toArray, List.set_cons_zero, List.set_cons_succ]
        refine wpAnyH_take (i := 2) (oi := { dst := some 22, op := Op.load 26 (Operand.tmp 1), type := 26, pos := "law.go:42", after := #[], guard := none }) (v := _) rfl (by kernel_rfl) (by kernel_rfl) (by kernel_rfl) (fun _ _ _ h => h) (yieldsIf_load_mid (by rfl) _ _ rfl _ _ rfl _ _ (by intro w hSw; have hSw := OS _ hSw; go_split_ands; assumption) (by assumption) rfl (by assumption)) (by assumption) ?_
        try simp only [Act.put, List.setIfInBounds_toArray, List.set_cons_zero, List.set_cons_succ]
        refine wpAnyH_ready (rs := [1]) (by kernel_rfl) (by simp) ?_
        refine (AllReadyH.cons (o := { dst := some 21, op := Op.call { callee := Callee.value (Operand.func 15), args := #[Operand.tmp 20], argTypes := #[26] }, type := 27, pos := "law.go:42", after := #[{ on := 0, ground := Ground.data }], guard := none }) rfl (fun K hK => ?_) AllReadyH.nil)
        go_simp
        refine (CC _ (by assumption)).mono ?_
        rintro e w1' ⟨rfl, m1'⟩
        refine hK.out _ _ (SO _ (by assumption)) (fun hHeld => ?_)
        clear hK K
        try simp only [Act.put, List.setIfInBounds_toArray, List.set_cons_zero, List.set_cons_succ]
        refine wpAnyH_ready (rs := [3]) (by kernel_rfl) (by simp) ?_
        refine (AllReadyH.cons (o := { dst := some 23, op := Op.call { callee := Callee.value (Operand.func 16), args := #[Operand.tmp 22], argTypes := #[26] }, type := 27, pos := "law.go:42", after := #[{ on := 2, ground := Ground.data }, { on := 1, ground := Ground.chain }], guard := none }) rfl (fun K hK => ?_) AllReadyH.nil)
        go_simp
        refine (CRC _ (by assumption)).mono ?_
        rintro e w3' ⟨rfl, m3'⟩
        refine hK.out _ _ (SO _ (by assumption)) (fun hHeld => ?_)
        clear hK K
        try simp only [Act.put, List.setIfInBounds_toArray, List.set_cons_zero, List.set_cons_succ]
        refine wpAnyH_take (i := 4) (oi := { dst := some 24, op := Op.binOp BinOp.eql 27 (Operand.tmp 21) (Operand.tmp 23) 27, type := 4, pos := "law.go:42", after := #[{ on := 1, ground := Ground.data }, { on := 3, ground := Ground.data }], guard := none }) (v := ?_) rfl (by kernel_rfl) (by kernel_rfl) (by kernel_rfl) (fun _ _ _ h => h) (Or.inl ⟨by rfl, ?_⟩) (by assumption) ?_
        rotate_left
        · intro w hSw
          skip
          clear hSw
          go_simp
          try with_reducible rfl
        try simp only [Act.put, List.setIfInBounds_toArray, List.set_cons_zero, List.set_cons_succ]
        refine wpAnyH_take (i := 5) (oi := { dst := some 25, op := Op.move (Operand.tmp 24), type := 4, pos := "law.go:42", after := #[{ on := 4, ground := Ground.data }, { on := 3, ground := Ground.chain }], guard := none }) (v := ?_) rfl (by kernel_rfl) (by kernel_rfl) (by kernel_rfl) (fun _ _ _ h => h) (Or.inl ⟨by rfl, ?_⟩) (by assumption) ?_
        rotate_left
        · intro w hSw
          skip
          clear hSw
          go_simp
          try with_reducible rfl
        try simp only [Act.put, List.setIfInBounds_toArray, List.set_cons_zero, List.set_cons_succ]
        refine wpAnyH_take (i := 6) (oi := { dst := some 26, op := Op.load 26 (Operand.tmp 1), type := 26, pos := "law.go:42", after := #[{ on := 5, ground := Ground.guard }], guard := some (5, true) }) (v := _) rfl (by kernel_rfl) (by kernel_rfl) (by kernel_rfl) (fun _ _ _ h => h) (yieldsIf_load_mid (by rfl) _ _ rfl _ _ rfl _ _ (by intro w hSw; have hSw := OS _ hSw; go_split_ands; assumption) (by assumption) rfl (by assumption)) (by assumption) ?_
        try simp only [Act.put, List.setIfInBounds_toArray, List.set_cons_zero, List.set_cons_succ]
        refine wpAnyH_take (i := 8) (oi := { dst := some 28, op := Op.load 26 (Operand.tmp 1), type := 26, pos := "law.go:42", after := #[{ on := 5, ground := Ground.guard }], guard := some (5, true) }) (v := _) rfl (by kernel_rfl) (by kernel_rfl) (by kernel_rfl) (fun _ _ _ h => h) (yieldsIf_load_mid (by rfl) _ _ rfl _ _ rfl _ _ (by intro w hSw; have hSw := OS _ hSw; go_split_ands; assumption) (by assumption) rfl (by assumption)) (by assumption) ?_
        try simp only [Act.put, List.setIfInBounds_toArray, List.set_cons_zero, List.set_cons_succ]
        refine wpAnyH_ready (rs := [7]) (by kernel_rfl) (by simp) ?_
        refine (AllReadyH.cons (o := { dst := some 27, op := Op.call { callee := Callee.value (Operand.func 11), args := #[Operand.tmp 26], argTypes := #[26] }, type := 9, pos := "law.go:42", after := #[{ on := 6, ground := Ground.data }, { on := 5, ground := Ground.chain }, { on := 5, ground := Ground.guard }], guard := some (5, true) }) rfl (fun K hK => ?_) AllReadyH.nil)
        go_simp
        refine (CT _ (by assumption)).mono ?_
        rintro e w7' ⟨rfl, m7'⟩
        refine hK.out _ _ (SO _ (by assumption)) (fun hHeld => ?_)
        clear hK K
        try simp only [Act.put, List.setIfInBounds_toArray, List.set_cons_zero, List.set_cons_succ]
        refine wpAnyH_ready (rs := [9]) (by kernel_rfl) (by simp) ?_
        refine (AllReadyH.cons (o := { dst := some 29, op := Op.call { callee := Callee.value (Operand.func 12), args := #[Operand.tmp 28], argTypes := #[26] }, type := 9, pos := "law.go:42", after := #[{ on := 8, ground := Ground.data }, { on := 7, ground := Ground.chain }, { on := 5, ground := Ground.guard }], guard := some (5, true) }) rfl (fun K hK => ?_) AllReadyH.nil)
        go_simp
        refine (CRT _ (by assumption)).mono ?_
        rintro e w9' ⟨rfl, m9'⟩
        refine hK.out _ _ (SO _ (by assumption)) (fun hHeld => ?_)
        clear hK K
        try simp only [Act.put, List.setIfInBounds_toArray, List.set_cons_zero, List.set_cons_succ]
        refine wpAnyH_take (i := 10) (oi := { dst := some 30, op := Op.binOp BinOp.eql 9 (Operand.tmp 27) (Operand.tmp 29) 9, type := 4, pos := "law.go:42", after := #[{ on := 7, ground := Ground.data }, { on := 9, ground := Ground.data }, { on := 5, ground := Ground.guard }], guard := some (5, true) }) (v := ?_) rfl (by kernel_rfl) (by kernel_rfl) (by kernel_rfl) (fun _ _ _ h => h) (Or.inl ⟨by rfl, ?_⟩) (by assumption) ?_
        rotate_left
        · intro w hSw
          skip
          clear hSw
          go_simp
          try with_reducible rfl
        try simp only [Act.put, List.setIfInBounds_toArray, List.set_cons_zero, List.set_cons_succ]
        refine wpAnyH_take (i := 11) (oi := { dst := some 31, op := Op.pick (Operand.tmp 25) (Operand.tmp 30) (Operand.const (Value.bool false)), type := 4, pos := "law.go:42", after := #[{ on := 5, ground := Ground.data }, { on := 10, ground := Ground.data }], guard := none }) (v := ?_) rfl (by kernel_rfl) (by kernel_rfl) (by kernel_rfl) (fun _ _ _ h => h) (Or.inl ⟨by rfl, ?_⟩) (by assumption) ?_
        rotate_left
        · intro w hSw
          skip
          clear hSw
          go_simp
          try with_reducible rfl
        try simp only [Act.put, List.setIfInBounds_toArray, List.set_cons_zero, List.set_cons_succ]
        refine wpAnyH_take (i := 12) (oi := { dst := some 32, op := Op.move (Operand.tmp 31), type := 4, pos := "law.go:42", after := #[{ on := 11, ground := Ground.data }, { on := 9, ground := Ground.chain }], guard := none }) (v := ?_) rfl (by kernel_rfl) (by kernel_rfl) (by kernel_rfl) (fun _ _ _ h => h) (Or.inl ⟨by rfl, ?_⟩) (by assumption) ?_
        rotate_left
        · intro w hSw
          skip
          clear hSw
          go_simp
          try with_reducible rfl
        try simp only [Act.put, List.setIfInBounds_toArray, List.set_cons_zero, List.set_cons_succ]
        refine wpAnyH_take (i := 13) (oi := { dst := some 33, op := Op.load 26 (Operand.tmp 1), type := 26, pos := "law.go:42", after := #[{ on := 12, ground := Ground.guard }], guard := some (12, true) }) (v := _) rfl (by kernel_rfl) (by kernel_rfl) (by kernel_rfl) (fun _ _ _ h => h) (yieldsIf_load_mid (by rfl) _ _ rfl _ _ rfl _ _ (by intro w hSw; have hSw := OS _ hSw; go_split_ands; assumption) (by assumption) rfl (by assumption)) (by assumption) ?_
        try simp only [Act.put, List.setIfInBounds_toArray, List.set_cons_zero, List.set_cons_succ]
        refine wpAnyH_take (i := 15) (oi := { dst := some 35, op := Op.load 26 (Operand.tmp 1), type := 26, pos := "law.go:42", after := #[{ on := 12, ground := Ground.guard }], guard := some (12, true) }) (v := _) rfl (by kernel_rfl) (by kernel_rfl) (by kernel_rfl) (fun _ _ _ h => h) (yieldsIf_load_mid (by rfl) _ _ rfl _ _ rfl _ _ (by intro w hSw; have hSw := OS _ hSw; go_split_ands; assumption) (by assumption) rfl (by assumption)) (by assumption) ?_
        try simp only [Act.put, List.setIfInBounds_toArray, List.set_cons_zero, List.set_cons_succ]
        refine wpAnyH_ready (rs := [14]) (by kernel_rfl) (by simp) ?_
        refine (AllReadyH.cons (o := { dst := some 34, op := Op.call { callee := Callee.value (Operand.func 13), args := #[Operand.tmp 33], argTypes := #[26] }, type := 9, pos := "law.go:42", after := #[{ on := 13, ground := Ground.data }, { on := 12, ground := Ground.chain }, { on := 12, ground := Ground.guard }], guard := some (12, true) }) rfl (fun K hK => ?_) AllReadyH.nil)
        go_simp
        refine (CS _ (by assumption)).mono ?_
        rintro e w14' ⟨rfl, m14'⟩
        refine hK.out _ _ (SO _ (by assumption)) (fun hHeld => ?_)
        clear hK K
        try simp only [Act.put, List.setIfInBounds_toArray, List.set_cons_zero, List.set_cons_succ]
        refine wpAnyH_ready (rs := [16]) (by kernel_rfl) (by simp) ?_
        refine (AllReadyH.cons (o := { dst := some 36, op := Op.call { callee := Callee.value (Operand.func 14), args := #[Operand.tmp 35], argTypes := #[26] }, type := 9, pos := "law.go:42", after := #[{ on := 15, ground := Ground.data }, { on := 14, ground := Ground.chain }, { on := 12, ground := Ground.guard }], guard := some (12, true) }) rfl (fun K hK => ?_) AllReadyH.nil)
        go_simp
        refine (CRS _ (by assumption)).mono ?_
        rintro e w16' ⟨rfl, m16'⟩
        refine hK.out _ _ (SO _ (by assumption)) (fun hHeld => ?_)
        clear hK K
        try simp only [Act.put, List.setIfInBounds_toArray, List.set_cons_zero, List.set_cons_succ]
        refine wpAnyH_take (i := 17) (oi := { dst := some 37, op := Op.binOp BinOp.eql 9 (Operand.tmp 34) (Operand.tmp 36) 9, type := 4, pos := "law.go:42", after := #[{ on := 14, ground := Ground.data }, { on := 16, ground := Ground.data }, { on := 12, ground := Ground.guard }], guard := some (12, true) }) (v := ?_) rfl (by kernel_rfl) (by kernel_rfl) (by kernel_rfl) (fun _ _ _ h => h) (Or.inl ⟨by rfl, ?_⟩) (by assumption) ?_
        rotate_left
        · intro w hSw
          skip
          clear hSw
          go_simp
          try with_reducible rfl
        try simp only [Act.put, List.setIfInBounds_toArray, List.set_cons_zero, List.set_cons_succ]
        refine wpAnyH_take (i := 18) (oi := { dst := some 38, op := Op.pick (Operand.tmp 32) (Operand.tmp 37) (Operand.const (Value.bool false)), type := 4, pos := "law.go:42", after := #[{ on := 12, ground := Ground.data }, { on := 17, ground := Ground.data }], guard := none }) (v := ?_) rfl (by kernel_rfl) (by kernel_rfl) (by kernel_rfl) (fun _ _ _ h => h) (Or.inl ⟨by rfl, ?_⟩) (by assumption) ?_
        rotate_left
        · intro w hSw
          skip
          clear hSw
          go_simp
          try with_reducible rfl
        try simp only [Act.put, List.setIfInBounds_toArray, List.set_cons_zero, List.set_cons_succ]
        refine wpAnyH_take (i := 19) (oi := { dst := some 39, op := Op.move (Operand.tmp 38), type := 4, pos := "law.go:42", after := #[{ on := 18, ground := Ground.data }, { on := 16, ground := Ground.chain }], guard := none }) (v := ?_) rfl (by kernel_rfl) (by kernel_rfl) (by kernel_rfl) (fun _ _ _ h => h) (Or.inl ⟨by rfl, ?_⟩) (by assumption) ?_
        rotate_left
        · intro w hSw
          skip
          clear hSw
          go_simp
          try with_reducible rfl
        try simp only [Act.put, List.setIfInBounds_toArray, List.set_cons_zero, List.set_cons_succ]
        refine wpAnyH_ready (rs := [20]) (by kernel_rfl) (by simp) ?_
        refine (AllReadyH.cons (o := { dst := some 40, op := Op.call { callee := Callee.value (Operand.func 8), args := #[], argTypes := #[] }, type := 4, pos := "law.go:42", after := #[{ on := 19, ground := Ground.chain }, { on := 19, ground := Ground.guard }], guard := some (19, true) }) rfl (fun K hK => ?_) AllReadyH.nil)
        go_simp
        refine (CN _ (by assumption)).mono ?_
        rintro e w20' ⟨rfl, m20'⟩
        refine hK.out _ _ (SO _ (by assumption)) (fun hHeld => ?_)
        clear hK K
        try simp only [Act.put, List.setIfInBounds_toArray, List.set_cons_zero, List.set_cons_succ]
        refine wpAnyH_take (i := 21) (oi := { dst := some 41, op := Op.pick (Operand.tmp 39) (Operand.tmp 40) (Operand.const (Value.bool false)), type := 4, pos := "law.go:42", after := #[{ on := 19, ground := Ground.data }, { on := 20, ground := Ground.data }], guard := none }) (v := ?_) rfl (by kernel_rfl) (by kernel_rfl) (by kernel_rfl) (fun _ _ _ h => h) (Or.inl ⟨by rfl, ?_⟩) (by assumption) ?_
        rotate_left
        · intro w hSw
          skip
          clear hSw
          go_simp
          try with_reducible rfl
        try simp only [Act.put, List.setIfInBounds_toArray, List.set_cons_zero, List.set_cons_succ]
        refine wpAnyH_take (i := 22) (oi := { dst := some 2, op := Op.assign (Operand.tmp 41), type := 4, pos := "law.go:42", after := #[{ on := 21, ground := Ground.data }, { on := 20, ground := Ground.chain }, { on := 0, ground := Ground.phase }, { on := 1, ground := Ground.phase }, { on := 2, ground := Ground.phase }, { on := 3, ground := Ground.phase }, { on := 4, ground := Ground.phase }, { on := 5, ground := Ground.phase }, { on := 6, ground := Ground.phase }, { on := 7, ground := Ground.phase }, { on := 8, ground := Ground.phase }, { on := 9, ground := Ground.phase }, { on := 10, ground := Ground.phase }, { on := 11, ground := Ground.phase }, { on := 12, ground := Ground.phase }, { on := 13, ground := Ground.phase }, { on := 14, ground := Ground.phase }, { on := 15, ground := Ground.phase }, { on := 16, ground := Ground.phase }, { on := 17, ground := Ground.phase }, { on := 18, ground := Ground.phase }, { on := 19, ground := Ground.phase }, { on := 20, ground := Ground.phase }, { on := 21, ground := Ground.phase }], guard := none }) (v := ?_) rfl (by kernel_rfl) (by kernel_rfl) (by kernel_rfl) (fun _ _ _ h => h) (Or.inl ⟨by rfl, ?_⟩) (by assumption) ?_
        rotate_left
        · intro w hSw
          skip
          clear hSw
          go_simp
          try with_reducible rfl
        try simp only [Act.put, List.setIfInBounds_toArray, List.set_cons_zero, List.set_cons_succ]
        refine wpAnyH_done (by kernel_rfl) ?_ _
        refine NoPanic.normal ?_
        go_wp2
        go_ret
        exact ⟨rfl, ML _ (by assumption)⟩
end Go.Proofs.YtldbfjcfobdkpaaDoor
