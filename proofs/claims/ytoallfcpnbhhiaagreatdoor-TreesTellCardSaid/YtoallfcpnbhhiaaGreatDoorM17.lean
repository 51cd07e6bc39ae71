/- Merged: TtJ, TtK. -/
import Derived.Test.YtoallfcpnbhhiaaGreatDoorM16
import Derived.Laws.EntriesVeiled
/- Layer 16: the program's closures of what goes; takeAway and put. -/
namespace Go.Proofs.YtoallfcpnbhhiaaGreatDoor
open Go.RowKit

theorem grown_of_below {w w' : World} (h : Below w.heap.size w w') : w.grownBy w' none := ⟨h.os, h.tape, h.output, h.size, fun i hi _ => h.block i hi⟩
theorem from1_any (top p : List UInt8) (b : Nat) (w : World) (hc : w.cell? ⟨b, 0, none⟩ = some (.string (str top))) :
    Calls Tryz.prog 112 (#[.string (str p)] ++ #[.pointer (some ⟨b, 0, none⟩)]) w fun e w' => e = .returned (.bool (insideB top p)) ∧ w = w' := by
  have C := fun W => inside_any top p W
  go_enter Tryz.func112, Tryz.ntmps112
  go_wp2_with (go_at_call 113; ((with_reducible refine (C _).mono ?_); rintro e w1 ⟨rfl, rfl⟩))
  go_ret
  exact ⟨rfl, rfl⟩
theorem in1_any (top p : List UInt8) (b : Nat) (w : World) (hc : w.cell? ⟨b, 0, none⟩ = some (.string (str top))) :
    Calls Tryz.prog 114 (#[.string (str p)] ++ #[.pointer (some ⟨b, 0, none⟩)]) w fun e w' => e = .returned (.bool (!decide (p = top) && insideB top p)) ∧ w = w' := by
  have C := fun W => inside_any top p W
  have q := eq_strs p top
  by_cases h : p = top
  · have hr : (!decide (p = top) && insideB top p) = false := by rw [decide_eq_true h]; rfl
    rw [decide_eq_true h] at q
    rw [hr]
    generalize str p = P at *
    generalize str top = T at *
    clear hr h
    go_enter Tryz.func114, Tryz.ntmps114
    go_wp2
    go_ret
    exact ⟨rfl, rfl⟩
  · have hr : (!decide (p = top) && insideB top p) = insideB top p := by rw [decide_eq_false h]; rfl
    rw [decide_eq_false h] at q
    rw [hr]
    generalize insideB top p = ib at *
    generalize str p = P at *
    generalize str top = T at *
    clear hr h
    go_enter Tryz.func114, Tryz.ntmps114
    go_wp2_with (go_at_call 113; ((with_reducible refine (C _).mono ?_); rintro e w1 ⟨rfl, rfl⟩))
    go_ret
    exact ⟨rfl, rfl⟩
theorem from_any (top : List UInt8) (w : World) :
    Calls Tryz.prog 87 #[.string (str top)] w fun e w' => e = .returned (.func (.func 112) #[] #[.pointer (some ⟨w.heap.size, 0, none⟩)]) ∧ w' = w.alloc (.cells #[.string (str top)] 9) := by
  go_enter Tryz.func87, Tryz.ntmps87
  go_wp2
  go_ret
  exact ⟨rfl, rfl⟩
theorem in_any (top : List UInt8) (w : World) :
    Calls Tryz.prog 89 #[.string (str top)] w fun e w' => e = .returned (.func (.func 114) #[] #[.pointer (some ⟨w.heap.size, 0, none⟩)]) ∧ w' = w.alloc (.cells #[.string (str top)] 9) := by
  go_enter Tryz.func89, Tryz.ntmps89
  go_wp2
  go_ret
  exact ⟨rfl, rfl⟩
set_option maxRecDepth 100000 in
set_option maxHeartbeats 8000000 in
theorem take1_any (g : Nat) (fp : List UInt8 → Bool) (top : List UInt8) (nb : Nat) (eg : ∀ args w, (callFunc g args).run Tryz.prog w = .ok (.enter g args) w)
    (hg : ∀ W : World, W.cell? ⟨nb, 0, none⟩ = some (.string (str top)) → ∀ p, Calls Tryz.prog g (#[.string (str p)] ++ #[.pointer (some ⟨nb, 0, none⟩)]) W fun e w' => e = .returned (.bool (fp p)) ∧ W = w')
    (b4 b8 B : Nat) (k : Int) (x : Pl) (w : World) (c4 : w.cell? ⟨b4, 0, none⟩ = some (.pointer (some ⟨B, 0, none⟩))) (c8 : w.cell? ⟨b8, 0, none⟩ = some (.func (.func g) #[] #[.pointer (some ⟨nb, 0, none⟩)]))
    (cB : w.cell? ⟨B, 1, none⟩ = some (.int .i64 k)) (cn : w.cell? ⟨nb, 0, none⟩ = some (.string (str top))) :
    Calls Tryz.prog 91 (#[.string (str x.nd.path), .agg (plA x)] ++ #[.pointer (some ⟨b4, 0, none⟩), .pointer (some ⟨b8, 0, none⟩)]) w fun e w' => e = .returned (.bool (!decide (x.lay = k) && fp x.nd.path)) ∧ w.grownBy w' none := by
  have HCL := Lib.hid hg
  obtain ⟨W1, hW1⟩ : ∃ W1, W1 = w.alloc (.cells (plA x) 104) := ⟨_, rfl⟩
  have HW1 := Lib.hid hW1
  have HB1 : Hid (Below w.heap.size w W1) := Lib.hid (by rw [hW1]; exact (Below.refl _ _).alloc (Nat.le_refl _) _)
  have HZ1 : Hid (rowC W1 w.heap.size (plA x) 104) := Lib.hid (by rw [hW1]; exact rowC_new w _ _)
  have OS : ∀ w', Gn W1 no w' → w'.cell? ⟨w.heap.size, 4, none⟩ = some (.int .i64 x.lay) ∧ w'.cell? ⟨b4, 0, none⟩ = some (.pointer (some ⟨B, 0, none⟩)) ∧ w'.cell? ⟨b8, 0, none⟩ = some (.func (.func g) #[] #[.pointer (some ⟨nb, 0, none⟩)]) ∧ w'.cell? ⟨B, 1, none⟩ = some (.int .i64 k) ∧ w'.cell? ⟨nb, 0, none⟩ = some (.string (str top)) := fun w' hgn => by
    have hb : Below w.heap.size w w' := HB1.out.trans (hgn.below HB1.out.size (fun _ _ => id))
    have far : ∀ {a : Addr} {v : Value}, w.cell? a = some v → w'.cell? a = some v := fun {a v} h => by
      rw [cell_far hb (World.block_lt_of_cell? w a h)]
      exact h
    exact ⟨rowC_cell (hgn.row HZ1.out id) 4, far c4, far c8, far cB, far cn⟩
  have SO : ∀ w', Gn W1 no w' → Gn W1 no w' := fun _ h => h
  have HEND : Hid (∀ w', Gn W1 no w' → w.grownBy w' none) := Lib.hid fun w' hgn => grown_of_below (HB1.out.trans (hgn.below HB1.out.size (fun _ _ => id)))
  have hpl : (Value.agg (plA x)) = .agg #[.string (str x.nd.path), .int .i64 x.nd.kind, .int .i64 x.nd.mode, .string (str x.nd.data), .int .i64 x.lay] := rfl
  have HW2 : Hid (w.alloc (.cells #[.string (str x.nd.path), .int .i64 x.nd.kind, .int .i64 x.nd.mode, .string (str x.nd.data), .int .i64 x.lay] 104) = W1) := Lib.hid hW1.symm
  rw [hpl]
  clear hW1 hg c4 c8 cB cn hpl
  obtain ⟨R, hR⟩ : ∃ R, R = (!decide (x.lay = k) && fp x.nd.path) := ⟨_, rfl⟩
  have HR := Lib.hid hR
  rw [← hR]
  clear hR
  go_enter Tryz.func91, Tryz.ntmps91
  go_upto_region 1 with (fail)
  rw [HW2.out]
  refine wp_region_noPanic ?_
  refine wp_region_held_drew (S := Gn W1 no) (by kernel_rfl) (Gn.start _ _) (fun hHeld => ?_)
  generalize W1.drew = wd at *
  by_cases hk : x.lay = k
  · have gk : (x.lay != k) = false := by rw [bne_eq_false_iff_eq]; exact hk
    have HR2 : Hid (R = false) := Lib.hid (by rw [HR.out, decide_eq_true hk]; rfl)
    clear HR hk
    refine wpAnyH_take (i := 0) (oi := { dst := some 7, op := Op.fieldAddr 104 (Operand.tmp 5) 1, type := 0, pos := "trees.go:261", after := #[], guard := none }) (v := ?_) rfl (by kernel_rfl) (by kernel_rfl) (by kernel_rfl) (fun _ _ _ h => h) (Or.inl ⟨by rfl, ?_⟩) (by assumption) ?_
    rotate_left
    · intro w hSw
      skip
      clear hSw
      go_simp
      try with_reducible rfl
    try simp only [Act.put, List.setIfInBounds_toArray, List.set_cons_zero, List.set_cons_succ]
    refine wpAnyH_take (i := 1) (oi := { dst := some 8, op := Op.load 3 (Operand.tmp 7), type := 3, pos := "trees.go:261", after := #[{ on := 0, ground := Ground.data }], guard := none }) (v := ?_) rfl (by kernel_rfl) (by kernel_rfl) (by kernel_rfl) (fun _ _ _ h => h) (Or.inl ⟨by rfl, ?_⟩) (by assumption) ?_
    rotate_left
    · intro w hSw
      have hSw := OS _ hSw
      go_simp
      try with_reducible rfl
    try simp only [Act.put, List.setIfInBounds_toArray, List.set_cons_zero, List.set_cons_succ]
    refine wpAnyH_take (i := 2) (oi := { dst := some 9, op := Op.load 78 (Operand.tmp 2), type := 78, pos := "trees.go:261", after := #[], guard := none }) (v := ?_) rfl (by kernel_rfl) (by kernel_rfl) (by kernel_rfl) (fun _ _ _ h => h) (Or.inl ⟨by rfl, ?_⟩) (by assumption) ?_
    rotate_left
    · intro w hSw
      have hSw := OS _ hSw
      go_simp
      try with_reducible rfl
    try simp only [Act.put, List.setIfInBounds_toArray, List.set_cons_zero, List.set_cons_succ]
    refine wpAnyH_take (i := 3) (oi := { dst := some 10, op := Op.nilCheck (Operand.tmp 9), type := 0, pos := "trees.go:261", after := #[{ on := 2, ground := Ground.data }], guard := none }) (v := ?_) rfl (by kernel_rfl) (by kernel_rfl) (by kernel_rfl) (fun _ _ _ h => h) (Or.inl ⟨by rfl, ?_⟩) (by assumption) ?_
    rotate_left
    · intro w hSw
      skip
      clear hSw
      go_simp
      try with_reducible rfl
    try simp only [Act.put, List.setIfInBounds_toArray, List.set_cons_zero, List.set_cons_succ]
    refine wpAnyH_take (i := 4) (oi := { dst := some 11, op := Op.fieldAddr 102 (Operand.tmp 10) 1, type := 0, pos := "trees.go:261", after := #[{ on := 3, ground := Ground.data }], guard := none }) (v := ?_) rfl (by kernel_rfl) (by kernel_rfl) (by kernel_rfl) (fun _ _ _ h => h) (Or.inl ⟨by rfl, ?_⟩) (by assumption) ?_
    rotate_left
    · intro w hSw
      skip
      clear hSw
      go_simp
      try with_reducible rfl
    try simp only [Act.put, List.setIfInBounds_toArray, List.set_cons_zero, List.set_cons_succ]
    refine wpAnyH_take (i := 5) (oi := { dst := some 12, op := Op.load 3 (Operand.tmp 11), type := 3, pos := "trees.go:261", after := #[{ on := 4, ground := Ground.data }], guard := none }) (v := ?_) rfl (by kernel_rfl) (by kernel_rfl) (by kernel_rfl) (fun _ _ _ h => h) (Or.inl ⟨by rfl, ?_⟩) (by assumption) ?_
    rotate_left
    · intro w hSw
      have hSw := OS _ hSw
      go_simp
      try with_reducible rfl
    try simp only [Act.put, List.setIfInBounds_toArray, List.set_cons_zero, List.set_cons_succ]
    refine wpAnyH_take (i := 6) (oi := { dst := some 13, op := Op.binOp BinOp.neq 3 (Operand.tmp 8) (Operand.tmp 12) 3, type := 4, pos := "trees.go:261", after := #[{ on := 1, ground := Ground.data }, { on := 5, ground := Ground.data }], guard := none }) (v := ?_) rfl (by kernel_rfl) (by kernel_rfl) (by kernel_rfl) (fun _ _ _ h => h) (Or.inl ⟨by rfl, ?_⟩) (by assumption) ?_
    rotate_left
    · intro w hSw
      skip
      clear hSw
      go_simp
      try with_reducible rfl
    try simp only [Act.put, List.setIfInBounds_toArray, List.set_cons_zero, List.set_cons_succ]
    refine wpAnyH_take (i := 7) (oi := { dst := some 14, op := Op.move (Operand.tmp 13), type := 4, pos := "trees.go:261", after := #[{ on := 6, ground := Ground.data }], guard := none }) (v := ?_) rfl (by kernel_rfl) (by kernel_rfl) (by kernel_rfl) (fun _ _ _ h => h) (Or.inl ⟨by rfl, ?_⟩) (by assumption) ?_
    rotate_left
    · intro w hSw
      skip
      clear hSw
      go_simp
      try with_reducible rfl
    try simp only [Act.put, List.setIfInBounds_toArray, List.set_cons_zero, List.set_cons_succ]
    refine wpAnyH_take (i := 9) (oi := { dst := some 16, op := Op.move (Operand.tmp 0), type := 9, pos := "trees.go:261", after := #[{ on := 7, ground := Ground.guard }], guard := some (7, true) }) (v := undef) rfl (by kernel_rfl) (by kernel_rfl) (by kernel_rfl) (fun _ _ _ h => h) (Or.inr ⟨by rfl, rfl⟩) (by assumption) ?_
    try simp only [Act.put, List.setIfInBounds_toArray, List.set_cons_zero, List.set_cons_succ]
    refine wpAnyH_take (i := 8) (oi := { dst := some 15, op := Op.load 49 (Operand.tmp 3), type := 49, pos := "trees.go:261", after := #[{ on := 7, ground := Ground.guard }], guard := some (7, true) }) (v := undef) rfl (by kernel_rfl) (by kernel_rfl) (by kernel_rfl) (fun _ _ _ h => h) (Or.inr ⟨by rfl, rfl⟩) (by assumption) ?_
    try simp only [Act.put, List.setIfInBounds_toArray, List.set_cons_zero, List.set_cons_succ]
    refine wpAnyH_take (i := 10) (oi := { dst := some 17, op := Op.call { callee := Callee.value (Operand.tmp 15), args := #[Operand.tmp 16], argTypes := #[9] }, type := 4, pos := "trees.go:261", after := #[{ on := 8, ground := Ground.data }, { on := 9, ground := Ground.data }, { on := 7, ground := Ground.chain }, { on := 7, ground := Ground.guard }], guard := some (7, true) }) (v := undef) rfl (by kernel_rfl) (by kernel_rfl) (by kernel_rfl) (fun _ _ _ h => h) (Or.inr ⟨by rfl, rfl⟩) (by assumption) ?_
    try simp only [Act.put, List.setIfInBounds_toArray, List.set_cons_zero, List.set_cons_succ]
    refine wpAnyH_take (i := 11) (oi := { dst := some 18, op := Op.pick (Operand.tmp 14) (Operand.tmp 17) (Operand.const (Value.bool false)), type := 4, pos := "trees.go:261", after := #[{ on := 7, ground := Ground.data }, { on := 10, ground := Ground.data }], guard := none }) (v := ?_) rfl (by kernel_rfl) (by kernel_rfl) (by kernel_rfl) (fun _ _ _ h => h) (Or.inl ⟨by rfl, ?_⟩) (by assumption) ?_
    rotate_left
    · intro w hSw
      skip
      clear hSw
      go_simp
      try with_reducible rfl
    try simp only [Act.put, List.setIfInBounds_toArray, List.set_cons_zero, List.set_cons_succ]
    refine wpAnyH_take (i := 12) (oi := { dst := some 6, op := Op.assign (Operand.tmp 18), type := 4, pos := "trees.go:261", after := #[{ on := 11, ground := Ground.data }, { on := 10, ground := Ground.chain }, { on := 0, ground := Ground.phase }, { on := 1, ground := Ground.phase }, { on := 2, ground := Ground.phase }, { on := 3, ground := Ground.phase }, { on := 4, ground := Ground.phase }, { on := 5, ground := Ground.phase }, { on := 6, ground := Ground.phase }, { on := 7, ground := Ground.phase }, { on := 8, ground := Ground.phase }, { on := 9, ground := Ground.phase }, { on := 10, ground := Ground.phase }, { on := 11, ground := Ground.phase }], guard := none }) (v := ?_) rfl (by kernel_rfl) (by kernel_rfl) (by kernel_rfl) (fun _ _ _ h => h) (Or.inl ⟨by rfl, ?_⟩) (by assumption) ?_
    rotate_left
    · intro w hSw
      skip
      clear hSw
      go_simp
      try with_reducible rfl
    try simp only [Act.put, List.setIfInBounds_toArray, List.set_cons_zero, List.set_cons_succ]
    refine wpAnyH_done (by kernel_rfl) ?_ _
    refine NoPanic.normal ?_
    go_wp2
    go_ret
    exact ⟨by rw [HR2.out]; rfl, HEND.out _ (by assumption)⟩
  · have gk : (x.lay != k) = true := by rw [bne_iff_ne]; exact hk
    have HR2 : Hid (R = fp x.nd.path) := Lib.hid (by rw [HR.out, decide_eq_false hk]; rfl)
    clear HR hk
    refine wpAnyH_take (i := 0) (oi := { dst := some 7, op := Op.fieldAddr 104 (Operand.tmp 5) 1, type := 0, pos := "trees.go:261", after := #[], guard := none }) (v := ?_) rfl (by kernel_rfl) (by kernel_rfl) (by kernel_rfl) (fun _ _ _ h => h) (Or.inl ⟨by rfl, ?_⟩) (by assumption) ?_
    rotate_left
    · intro w hSw
      skip
      clear hSw
      go_simp
      try with_reducible rfl
    try simp only [Act.put, List.setIfInBounds_toArray, List.set_cons_zero, List.set_cons_succ]
    refine wpAnyH_take (i := 1) (oi := { dst := some 8, op := Op.load 3 (Operand.tmp 7), type := 3, pos := "trees.go:261", after := #[{ on := 0, ground := Ground.data }], guard := none }) (v := ?_) rfl (by kernel_rfl) (by kernel_rfl) (by kernel_rfl) (fun _ _ _ h => h) (Or.inl ⟨by rfl, ?_⟩) (by assumption) ?_
    rotate_left
    · intro w hSw
      have hSw := OS _ hSw
      go_simp
      try with_reducible rfl
    try simp only [Act.put, List.setIfInBounds_toArray, List.set_cons_zero, List.set_cons_succ]
    refine wpAnyH_take (i := 2) (oi := { dst := some 9, op := Op.load 78 (Operand.tmp 2), type := 78, pos := "trees.go:261", after := #[], guard := none }) (v := ?_) rfl (by kernel_rfl) (by kernel_rfl) (by kernel_rfl) (fun _ _ _ h => h) (Or.inl ⟨by rfl, ?_⟩) (by assumption) ?_
    rotate_left
    · intro w hSw
      have hSw := OS _ hSw
      go_simp
      try with_reducible rfl
    try simp only [Act.put, List.setIfInBounds_toArray, List.set_cons_zero, List.set_cons_succ]
    refine wpAnyH_take (i := 3) (oi := { dst := some 10, op := Op.nilCheck (Operand.tmp 9), type := 0, pos := "trees.go:261", after := #[{ on := 2, ground := Ground.data }], guard := none }) (v := ?_) rfl (by kernel_rfl) (by kernel_rfl) (by kernel_rfl) (fun _ _ _ h => h) (Or.inl ⟨by rfl, ?_⟩) (by assumption) ?_
    rotate_left
    · intro w hSw
      skip
      clear hSw
      go_simp
      try with_reducible rfl
    try simp only [Act.put, List.setIfInBounds_toArray, List.set_cons_zero, List.set_cons_succ]
    refine wpAnyH_take (i := 4) (oi := { dst := some 11, op := Op.fieldAddr 102 (Operand.tmp 10) 1, type := 0, pos := "trees.go:261", after := #[{ on := 3, ground := Ground.data }], guard := none }) (v := ?_) rfl (by kernel_rfl) (by kernel_rfl) (by kernel_rfl) (fun _ _ _ h => h) (Or.inl ⟨by rfl, ?_⟩) (by assumption) ?_
    rotate_left
    · intro w hSw
      skip
      clear hSw
      go_simp
      try with_reducible rfl
    try simp only [Act.put, List.setIfInBounds_toArray, List.set_cons_zero, List.set_cons_succ]
    refine wpAnyH_take (i := 5) (oi := { dst := some 12, op := Op.load 3 (Operand.tmp 11), type := 3, pos := "trees.go:261", after := #[{ on := 4, ground := Ground.data }], guard := none }) (v := ?_) rfl (by kernel_rfl) (by kernel_rfl) (by kernel_rfl) (fun _ _ _ h => h) (Or.inl ⟨by rfl, ?_⟩) (by assumption) ?_
    rotate_left
    · intro w hSw
      have hSw := OS _ hSw
      go_simp
      try with_reducible rfl
    try simp only [Act.put, List.setIfInBounds_toArray, List.set_cons_zero, List.set_cons_succ]
    refine wpAnyH_take (i := 6) (oi := { dst := some 13, op := Op.binOp BinOp.neq 3 (Operand.tmp 8) (Operand.tmp 12) 3, type := 4, pos := "trees.go:261", after := #[{ on := 1, ground := Ground.data }, { on := 5, ground := Ground.data }], guard := none }) (v := ?_) rfl (by kernel_rfl) (by kernel_rfl) (by kernel_rfl) (fun _ _ _ h => h) (Or.inl ⟨by rfl, ?_⟩) (by assumption) ?_
    rotate_left
    · intro w hSw
      skip
      clear hSw
      go_simp
      try with_reducible rfl
    try simp only [Act.put, List.setIfInBounds_toArray, List.set_cons_zero, List.set_cons_succ]
    refine wpAnyH_take (i := 7) (oi := { dst := some 14, op := Op.move (Operand.tmp 13), type := 4, pos := "trees.go:261", after := #[{ on := 6, ground := Ground.data }], guard := none }) (v := ?_) rfl (by kernel_rfl) (by kernel_rfl) (by kernel_rfl) (fun _ _ _ h => h) (Or.inl ⟨by rfl, ?_⟩) (by assumption) ?_
    rotate_left
    · intro w hSw
      skip
      clear hSw
      go_simp
      try with_reducible rfl
    try simp only [Act.put, List.setIfInBounds_toArray, List.set_cons_zero, List.set_cons_succ]
    refine wpAnyH_take (i := 9) (oi := { dst := some 16, op := Op.move (Operand.tmp 0), type := 9, pos := "trees.go:261", after := #[{ on := 7, ground := Ground.guard }], guard := some (7, true) }) (v := ?_) rfl (by kernel_rfl) (by kernel_rfl) (by kernel_rfl) (fun _ _ _ h => h) (Or.inl ⟨by rfl, ?_⟩) (by assumption) ?_
    rotate_left
    · intro w hSw
      skip
      clear hSw
      go_simp
      try with_reducible rfl
    try simp only [Act.put, List.setIfInBounds_toArray, List.set_cons_zero, List.set_cons_succ]
    refine wpAnyH_take (i := 8) (oi := { dst := some 15, op := Op.load 49 (Operand.tmp 3), type := 49, pos := "trees.go:261", after := #[{ on := 7, ground := Ground.guard }], guard := some (7, true) }) (v := ?_) rfl (by kernel_rfl) (by kernel_rfl) (by kernel_rfl) (fun _ _ _ h => h) (Or.inl ⟨by rfl, ?_⟩) (by assumption) ?_
    rotate_left
    · intro w hSw
      have hSw := OS _ hSw
      go_simp
      try with_reducible rfl
    try simp only [Act.put, List.setIfInBounds_toArray, List.set_cons_zero, List.set_cons_succ]
    refine wpAnyH_ready (rs := [10]) (by kernel_rfl) (by simp) ?_
    refine (AllReadyH.cons (o := { dst := some 17, op := Op.call { callee := Callee.value (Operand.tmp 15), args := #[Operand.tmp 16], argTypes := #[9] }, type := 4, pos := "trees.go:261", after := #[{ on := 8, ground := Ground.data }, { on := 9, ground := Ground.data }, { on := 7, ground := Ground.chain }, { on := 7, ground := Ground.guard }], guard := some (7, true) }) rfl (fun K hK => ?_) AllReadyH.nil)
    go_simp
    refine (HCL.out _ (OS _ (by assumption)).2.2.2.2 x.nd.path).mono ?_
    rintro e w10 ⟨rfl, rfl⟩
    refine hK.out _ _ (SO _ (by assumption)) (fun hHeld => ?_)
    clear hK K
    try simp only [Act.put, List.setIfInBounds_toArray, List.set_cons_zero, List.set_cons_succ]
    refine wpAnyH_take (i := 11) (oi := { dst := some 18, op := Op.pick (Operand.tmp 14) (Operand.tmp 17) (Operand.const (Value.bool false)), type := 4, pos := "trees.go:261", after := #[{ on := 7, ground := Ground.data }, { on := 10, ground := Ground.data }], guard := none }) (v := ?_) rfl (by kernel_rfl) (by kernel_rfl) (by kernel_rfl) (fun _ _ _ h => h) (Or.inl ⟨by rfl, ?_⟩) (by assumption) ?_
    rotate_left
    · intro w hSw
      skip
      clear hSw
      go_simp
      try with_reducible rfl
    try simp only [Act.put, List.setIfInBounds_toArray, List.set_cons_zero, List.set_cons_succ]
    refine wpAnyH_take (i := 12) (oi := { dst := some 6, op := Op.assign (Operand.tmp 18), type := 4, pos := "trees.go:261", after := #[{ on := 11, ground := Ground.data }, { on := 10, ground := Ground.chain }, { on := 0, ground := Ground.phase }, { on := 1, ground := Ground.phase }, { on := 2, ground := Ground.phase }, { on := 3, ground := Ground.phase }, { on := 4, ground := Ground.phase }, { on := 5, ground := Ground.phase }, { on := 6, ground := Ground.phase }, { on := 7, ground := Ground.phase }, { on := 8, ground := Ground.phase }, { on := 9, ground := Ground.phase }, { on := 10, ground := Ground.phase }, { on := 11, ground := Ground.phase }], guard := none }) (v := ?_) rfl (by kernel_rfl) (by kernel_rfl) (by kernel_rfl) (fun _ _ _ h => h) (Or.inl ⟨by rfl, ?_⟩) (by assumption) ?_
    rotate_left
    · intro w hSw
      skip
      clear hSw
      go_simp
      try with_reducible rfl
    try simp only [Act.put, List.setIfInBounds_toArray, List.set_cons_zero, List.set_cons_succ]
    refine wpAnyH_done (by kernel_rfl) ?_ _
    refine NoPanic.normal ?_
    go_wp2
    go_ret
    exact ⟨by rw [HR2.out]; rfl, HEND.out _ (by assumption)⟩
end Go.Proofs.YtoallfcpnbhhiaaGreatDoor
#print axioms Go.Proofs.YtoallfcpnbhhiaaGreatDoor.take1_any

/- Layer 16: the program's takeAway. -/
namespace Go.Proofs.YtoallfcpnbhhiaaGreatDoor
open Go.RowKit

structure GrAt (w : World) (B M : Nat) (g : List Pl) (k : Int) : Prop where
  row : rowC w B #[.map (some M), .int .i64 k] 102
  map : MapG w M g
theorem GrAt.ne {w : World} {B M : Nat} {g : List Pl} {k : Int} (h : GrAt w B M g k) : B ≠ M := fun e => by
  have h1 : w.heap[B]? = _ := h.row
  obtain ⟨es, clock, hb, _⟩ := h.map
  rw [← e, h1] at hb
  cases hb
theorem GrAt.chg {s : Nat → Prop} {w w' : World} {B M : Nat} {g : List Pl} {k : Int} (h : GrAt w B M g k) (hc : Chg s w w') (hB : ¬ s B) (hM : ¬ s M) : GrAt w' B M g k := ⟨hc.rowC h.row hB, h.map.chg hc hM⟩
theorem GrAt.below {w w' : World} {B M : Nat} {g : List Pl} {k : Int} (h : GrAt w B M g k) (hb : Below w.heap.size w w') : GrAt w' B M g k := h.chg (s := fun _ => False) (Chg.of_below hb) id id
/-- What a call on it changes. -/
def GrC (B M : Nat) (w w' : World) : Prop := Chg (fun j => j = B ∨ j = M) w w'
theorem takeG_in (k : Int) (g : List Pl) (dir name : List UInt8) : takeG k g dir name true = g.filter fun p => !(!decide (p.lay = k) && (!decide (p.nd.path = dir) && insideB dir p.nd.path)) := rfl
theorem takeG_from (k : Int) (g : List Pl) (dir name : List UInt8) : takeG k g dir name false = g.filter fun p => !(!decide (p.lay = k) && insideB (join2 dir name) p.nd.path) := rfl
theorem box_two (w1 : World) (s : ByteArray) (v : Value) :
    rowC ((w1.alloc (.cells #[.string s] 9)).alloc (.cells #[v] 49)) w1.heap.size #[.string s] 9 ∧
    rowC ((w1.alloc (.cells #[.string s] 9)).alloc (.cells #[v] 49)) (w1.heap.size + 1) #[v] 49 ∧
    Below w1.heap.size w1 ((w1.alloc (.cells #[.string s] 9)).alloc (.cells #[v] 49)) ∧
    ((w1.alloc (.cells #[.string s] 9)).alloc (.cells #[v] 49)).heap.size = w1.heap.size + 2 := by
  have e1 : (w1.alloc (.cells #[.string s] 9)).heap.size = w1.heap.size + 1 := size_alloc _ _
  have r1 := rowC_new w1 #[.string s] 9
  have r2 := rowC_new (w1.alloc (.cells #[.string s] 9)) #[v] 49
  rw [e1] at r2
  refine ⟨rowC_alloc r1 _, r2, ?_, ?_⟩
  · exact ((Below.refl _ _).alloc (Nat.le_refl _) _).alloc (by rw [e1]; omega) _
  · rw [size_alloc, e1]
/-- What a closure of what goes asks, and what it says: over whatever the map has become. -/
theorem take1_del (g : Nat) (fp : List UInt8 → Bool) (top : List UInt8) (nb : Nat) (eg : ∀ args w, (callFunc g args).run Tryz.prog w = .ok (.enter g args) w)
    (hg : ∀ W : World, W.cell? ⟨nb, 0, none⟩ = some (.string (str top)) → ∀ p, Calls Tryz.prog g (#[.string (str p)] ++ #[.pointer (some ⟨nb, 0, none⟩)]) W fun e w' => e = .returned (.bool (fp p)) ∧ W = w')
    (b4 b8 B M : Nat) (k : Int) (w : World) (c4 : w.cell? ⟨b4, 0, none⟩ = some (.pointer (some ⟨B, 0, none⟩))) (c8 : w.cell? ⟨b8, 0, none⟩ = some (.func (.func g) #[] #[.pointer (some ⟨nb, 0, none⟩)]))
    (cB : w.cell? ⟨B, 1, none⟩ = some (.int .i64 k)) (cn : w.cell? ⟨nb, 0, none⟩ = some (.string (str top))) (n4 : b4 ≠ M) (n8 : b8 ≠ M) (nB : B ≠ M) (nn : nb ≠ M) (W : World) (x : Pl) (hgr : w.grownBy W (some M)) :
    Calls Tryz.prog 91 (#[.string (str x.nd.path), .agg (plA x)] ++ #[.pointer (some ⟨b4, 0, none⟩), .pointer (some ⟨b8, 0, none⟩)]) W fun e w' => e = .returned (.bool (!decide (x.lay = k) && fp x.nd.path)) ∧ W.grownBy w' none := by
  have far : ∀ {a : Addr} {v : Value}, w.cell? a = some v → a.block ≠ M → W.cell? a = some v := fun {a v} h hne => by
    rw [World.cell?_of_block (hgr.block _ (World.block_lt_of_cell? w a h) (fun e => hne (Option.some.inj e)))]
    exact h
  exact take1_any g fp top nb eg hg b4 b8 B k x W (far c4 n4) (far c8 n8) (far cB nB) (far cn nn)
set_option maxRecDepth 100000 in
set_option maxHeartbeats 8000000 in
theorem takeAway_any (dir name : List UInt8) (op : Bool) (hd : dir.length ≤ 1000000) (hn : name.length ≤ 1000000) (B M : Nat) (g : List Pl) (k : Int) (w : World) (h : GrAt w B M g k) :
    Calls Tryz.prog 71 #[.pointer (some ⟨B, 0, none⟩), .string (str dir), .string (str name), .bool op] w fun e w' => e = .returned (.tuple #[]) ∧ GrAt w' B M (takeG k g dir name op) k ∧ GrC B M w w' := by
  have CJ := fun W => join_any dir name hd hn W
  have CF := fun W => from_any (join2 dir name) W
  have CI := fun W => in_any dir W
  have HTF := Lib.hid (takeG_from k g dir name)
  have HTI := Lib.hid (takeG_in k g dir name)
  have hBw := rowC_lt h.row
  have hMw := h.map.lt
  have hBM := h.ne
  generalize hjn : join2 dir name = jn at *
  clear hjn hd hn
  obtain ⟨W0, hW0⟩ : ∃ W0, W0 = w.alloc (.cells #[.pointer (some ⟨B, 0, none⟩)] 78) := ⟨_, rfl⟩
  have HW0 := Lib.hid hW0
  have HB0 : Hid (Below w.heap.size w W0) := Lib.hid (by rw [hW0]; exact (Below.refl _ _).alloc (Nat.le_refl _) _)
  have HR0 : Hid (rowC W0 w.heap.size #[.pointer (some ⟨B, 0, none⟩)] 78) := Lib.hid (by rw [hW0]; exact rowC_new w _ _)
  have HG := Lib.hid h
  clear hW0 h
  go_enter Tryz.func71, Tryz.ntmps71
  go_upto_region 1 with (fail)
  rw [← HW0.out]
  go_upto_region 2 with (first
    | (go_at_call 88; ((with_reducible refine (CJ _).mono ?_); rintro e w1 ⟨rfl, hB1⟩; have HB1 := Lib.hid (HB0.out.trans (hB1.mono HB0.out.size)); have HR1 := Lib.hid (rowC_below HR0.out hB1 (rowC_lt HR0.out)); clear hB1; have HX := Lib.hid (fun v => box_two w1 (str jn) v)))
    | (go_at_call 87; ((with_reducible refine (CF _).mono ?_); rintro e w2 ⟨rfl, rfl⟩)))
  have hw1 := HB1.out.size
  obtain ⟨r1, r2, hb2, hz2⟩ := HX.out (.func (.func 112) #[] #[.pointer (some ⟨w1.heap.size, 0, none⟩)])
  generalize ((w1.alloc (.cells #[.string (str jn)] 9)).alloc (.cells #[.func (.func 112) #[] #[.pointer (some ⟨w1.heap.size, 0, none⟩)]] 49)) = W2 at *
  have HB2 := Lib.hid (HB1.out.trans (hb2.mono hw1))
  have hw4 : w.heap.size < w1.heap.size := rowC_lt HR1.out
  have HR2 := Lib.hid (rowC_below HR1.out hb2 (rowC_lt HR1.out))
  have HG2 : Hid (GrAt W2 B M g k) := Lib.hid (HG.out.below HB2.out)
  clear HX hb2
  cases op with
  | false =>
    have c0 : W2.cell? ⟨B, 0, none⟩ = some (.map (some M)) := rowC_cell HG2.out.row 0
    have c4 : W2.cell? ⟨w.heap.size, 0, none⟩ = some (.pointer (some ⟨B, 0, none⟩)) := rowC_cell HR2.out 0
    have CD := delFunc_any (fun x => !decide (x.lay = k) && insideB jn x.nd.path) 91 #[.pointer (some ⟨w.heap.size, 0, none⟩), .pointer (some ⟨w1.heap.size + 1, 0, none⟩)] M g W2 (enters_of Tryz.func91 (by kernel_rfl) rfl) HG2.out.map
      (fun W p _ hgr => take1_del 112 (fun q => insideB jn q) jn w1.heap.size (enters_of Tryz.func112 (by kernel_rfl) rfl) (fun W hW q => from1_any jn q _ W hW) w.heap.size (w1.heap.size + 1) B M k W2 c4 (rowC_cell r2 0) (rowC_cell HG2.out.row 1) (rowC_cell r1 0) (by omega) (by omega) hBM (by omega) W p hgr)
    go_wp2_with (go_at_call 90; (refine CD.mono ?_; rintro e w3 ⟨rfl, hM3, hg3⟩))
    go_end0
    have hc3 : Chg (fun j => j = M) W2 w3 := (Chg.refl _ _).grown hg3 (fun j hj => by cases hj; exact .inl rfl)
    exact ⟨rfl, ⟨hc3.rowC HG2.out.row hBM, by rw [HTF.out]; exact hM3⟩, (Chg.of_below HB2.out).trans hc3 (fun j _ hj => .inr hj)⟩
  | true =>
    have c8 : (W2.alloc (.cells #[.string (str dir)] 9)).cell? ⟨w1.heap.size + 1, 0, none⟩ = some _ ∧ (W2.alloc (.cells #[.string (str dir)] 9)).frozen? ⟨w1.heap.size + 1, 0, none⟩ = false := ⟨rowC_cell (rowC_alloc r2 _) 0, rowC_free (rowC_alloc r2 _) 0⟩
    obtain ⟨c8a, c8b⟩ := c8
    go_upto_region 4 with (go_at_call 89; ((with_reducible refine (CI _).mono ?_); rintro e w3 ⟨rfl, rfl⟩))
    obtain ⟨W3, hW3⟩ : ∃ W3, W3 = (W2.setCell ⟨w1.heap.size + 1, 0, none⟩ (.func (.func 114) #[] #[.pointer (some ⟨W2.heap.size, 0, none⟩)])).alloc (.cells #[.string (str dir)] 9) := ⟨_, rfl⟩
    rw [hz2] at hW3
    rw [← hW3]
    have r3 : rowC W3 (w1.heap.size + 1) #[.func (.func 114) #[] #[.pointer (some ⟨w1.heap.size + 2, 0, none⟩)]] 49 := by rw [hW3]; exact rowC_alloc (rowC_set r2 0 _) _
    have r4 : rowC W3 (w1.heap.size + 2) #[.string (str dir)] 9 := by
      rw [hW3]
      have := rowC_new (W2.setCell ⟨w1.heap.size + 1, 0, none⟩ (.func (.func 114) #[] #[.pointer (some ⟨w1.heap.size + 2, 0, none⟩)])) #[.string (str dir)] 9
      rw [World.size_setCell, hz2] at this
      exact this
    have HB3 : Hid (Below w.heap.size w W3) := Lib.hid (by rw [hW3]; exact (HB2.out.setCell (p := ⟨w1.heap.size + 1, 0, none⟩) (by show w.heap.size ≤ w1.heap.size + 1; omega) _).alloc (by rw [World.size_setCell]; exact HB2.out.size) _)
    have HR3 : Hid (rowC W3 w.heap.size #[.pointer (some ⟨B, 0, none⟩)] 78) := Lib.hid (by rw [hW3]; exact rowC_alloc (rowC_other HR2.out _ _ (by show w.heap.size ≠ w1.heap.size + 1; omega)) _)
    have HG3 : Hid (GrAt W3 B M g k) := Lib.hid (HG.out.below HB3.out)
    clear hW3 HG2 HR2 c8a c8b r1 r2
    have c0 : W3.cell? ⟨B, 0, none⟩ = some (.map (some M)) := rowC_cell HG3.out.row 0
    have c4 : W3.cell? ⟨w.heap.size, 0, none⟩ = some (.pointer (some ⟨B, 0, none⟩)) := rowC_cell HR3.out 0
    have CD := delFunc_any (fun x => !decide (x.lay = k) && (!decide (x.nd.path = dir) && insideB dir x.nd.path)) 91 #[.pointer (some ⟨w.heap.size, 0, none⟩), .pointer (some ⟨w1.heap.size + 1, 0, none⟩)] M g W3 (enters_of Tryz.func91 (by kernel_rfl) rfl) HG3.out.map
      (fun W p _ hgr => take1_del 114 (fun q => !decide (q = dir) && insideB dir q) dir (w1.heap.size + 2) (enters_of Tryz.func114 (by kernel_rfl) rfl) (fun W hW q => in1_any dir q _ W hW) w.heap.size (w1.heap.size + 1) B M k W3 c4 (rowC_cell r3 0) (rowC_cell HG3.out.row 1) (rowC_cell r4 0) (by omega) (by omega) hBM (by omega) W p hgr)
    go_wp2_with (go_at_call 90; (refine CD.mono ?_; rintro e w3 ⟨rfl, hM3, hg3⟩))
    go_end0
    have hc3 : Chg (fun j => j = M) W3 w3 := (Chg.refl _ _).grown hg3 (fun j hj => by cases hj; exact .inl rfl)
    exact ⟨rfl, ⟨hc3.rowC HG3.out.row hBM, by rw [HTI.out]; exact hM3⟩, (Chg.of_below HB3.out).trans hc3 (fun j _ hj => .inr hj)⟩
end Go.Proofs.YtoallfcpnbhhiaaGreatDoor
#print axioms Go.Proofs.YtoallfcpnbhhiaaGreatDoor.takeAway_any

