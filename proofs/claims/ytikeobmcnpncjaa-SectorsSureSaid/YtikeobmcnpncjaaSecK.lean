/- Layer 6: Same, of any disk that is the document's, and the document's own. -/
import Derived.Test.YtikeobmcnpncjaaSecJ
namespace Go.Proofs.Ytikeobmcnpncjaa
open Go.RowKit

/-- Both disks, in one memory. -/
structure BothV (I : Impl) (W w : World) (q p : Nat) (d : RD) (o : Nat → Prop) (vS vL vK : Value) : Prop where
  r : RefV w p vS vL vK d
  i : I.Inv w q d o
  b : Below W.heap.size W w
theorem BothV.below {I : Impl} {W w w' : World} {q p : Nat} {d : RD} {o : Nat → Prop} {vS vL vK : Value} (h : BothV I W w q p d o vS vL vK) (hb : Below w.heap.size w w') : BothV I W w' q p d o vS vL vK :=
  ⟨h.r.below hb, I.below h.i hb, h.b.trans (hb.mono h.b.size)⟩
theorem BothV.drew {I : Impl} {W w : World} {q p : Nat} {d : RD} {o : Nat → Prop} {vS vL vK : Value} (h : BothV I W w q p d o vS vL vK) : BothV I W w.drew q p d o vS vL vK := h.below (Below.refl _ _).drew
theorem BothV.call {I : Impl} {W w : World} {q p : Nat} {d : RD} {o : Nat → Prop} {vS vL vK : Value} {f : FuncId} {args : Array Value} {v : Value} (hc : Calls Try.prog f args w fun e w' => e = .returned v ∧ Below w.heap.size w w') (h : BothV I W w q p d o vS vL vK) :
    Calls Try.prog f args w fun e w' => e = .returned v ∧ BothV I W w' q p d o vS vL vK := hc.mono fun _ _ ⟨h1, h2⟩ => ⟨h1, h.below h2⟩
set_option maxRecDepth 100000 in
set_option maxHeartbeats 4000000 in
theorem same_any (I : Impl) {W w : World} {q p : Nat} {d : RD} {o : Nat → Prop} {vS vL vK : Value} (h : BothV I W w q p d o vS vL vK) (hok : d.ok) (hf : d.few) :
    Calls Try.prog 12 #[.pointer (some ⟨q, 0, none⟩), .pointer (some ⟨p, 0, none⟩)] w fun e w' => e = .returned (.bool true) ∧ BothV I W w' q p d o vS vL vK := by
  obtain ⟨gS, capS, rfl⟩ := owns_some h.r.s (by have := hok.lo; omega)
  obtain ⟨aL, capL, rfl⟩ := owns_form h.r.l
  have hi := hok.hi
  have CZ : ∀ w', BothV I W w' q p d o (.slice (some ⟨gS, 0, none⟩) d.sure.length capS) (.slice aL d.loose.length capL) vK → _ := fun w' m => m.call (I.size m.i hok)
  have CL : ∀ w', BothV I W w' q p d o (.slice (some ⟨gS, 0, none⟩) d.sure.length capS) (.slice aL d.loose.length capL) vK → _ := fun w' m => m.call (I.loose m.i hok)
  have CU : ∀ w', BothV I W w' q p d o (.slice (some ⟨gS, 0, none⟩) d.sure.length capS) (.slice aL d.loose.length capL) vK → _ := fun w' m => m.call (I.up m.i hok)
  have CS : ∀ w', BothV I W w' q p d o (.slice (some ⟨gS, 0, none⟩) d.sure.length capS) (.slice aL d.loose.length capL) vK → _ := fun w' m => m.call (I.starts m.i hok)
  have CR : ∀ i w', BothV I W w' q p d o (.slice (some ⟨gS, 0, none⟩) d.sure.length capS) (.slice aL d.loose.length capL) vK → _ := fun i w' m => m.call (I.read i m.i hok hf)
  have CQ : ∀ i w', BothV I W w' q p d o (.slice (some ⟨gS, 0, none⟩) d.sure.length capS) (.slice aL d.loose.length capL) vK → _ := fun i w' m => m.call ((rread_any m.r hok i (by have := hf.loose; omega)).mono fun e w'' ⟨he, hw⟩ => ⟨he, hw ▸ Below.refl _ _⟩)
  obtain ⟨M, hM⟩ : ∃ M : World → Prop, M = fun w' => BothV I W w' q p d o (.slice (some ⟨gS, 0, none⟩) d.sure.length capS) (.slice aL d.loose.length capL) vK := ⟨_, rfl⟩
  have MT : ∀ w', M w' → BothV I W w' q p d o (.slice (some ⟨gS, 0, none⟩) d.sure.length capS) (.slice aL d.loose.length capL) vK := fun w' h => by rw [hM] at h; exact h
  have TM : ∀ w', BothV I W w' q p d o (.slice (some ⟨gS, 0, none⟩) d.sure.length capS) (.slice aL d.loose.length capL) vK → M w' := fun w' h => by rw [hM]; exact h
  have TM' : ∀ {f args v} w', M w' → (BothV I W w' q p d o (.slice (some ⟨gS, 0, none⟩) d.sure.length capS) (.slice aL d.loose.length capL) vK → Calls Try.prog f args w' fun e w'' => e = .returned v ∧ BothV I W w'' q p d o (.slice (some ⟨gS, 0, none⟩) d.sure.length capS) (.slice aL d.loose.length capL) vK) → Calls Try.prog f args w' fun e w'' => e = .returned v ∧ M w'' :=
    fun w' h hc => (hc (MT w' h)).mono fun _ _ ⟨h1, h2⟩ => ⟨h1, TM _ h2⟩
  replace CZ := fun w' (h : M w') => TM' w' h (CZ w')
  replace CL := fun w' (h : M w') => TM' w' h (CL w')
  replace CU := fun w' (h : M w') => TM' w' h (CU w')
  replace CS := fun w' (h : M w') => TM' w' h (CS w')
  replace CR := fun i w' (h : M w') => TM' w' h (CR i w')
  replace CQ := fun i w' (h : M w') => TM' w' h (CQ i w')
  have OC : ∀ w', M w' → w'.cell? ⟨p, 0, none⟩ = some (.slice (some ⟨gS, 0, none⟩) d.sure.length capS) ∧ w'.cell? ⟨p, 1, none⟩ = some (.slice aL d.loose.length capL) ∧ w'.cell? ⟨p, 2, none⟩ = some (.bool d.down) ∧ w'.cell? ⟨p, 3, none⟩ = some (.int .i64 (d.starts : Int)) := fun w' m => ⟨(MT w' m).r.cell.1, (MT w' m).r.cell.2.1, (MT w' m).r.cell.2.2.1, (MT w' m).r.cell.2.2.2.1⟩
  have md := TM _ h.drew
  have HMT := Lib.hid MT
  clear MT TM TM' hM h hok hf
  obtain ⟨SS, hSS⟩ : ∃ SS : World → Prop, SS = fun w' => M w' := ⟨_, rfl⟩
  have SO : ∀ w', M w' → SS w' := fun w' m => by rw [hSS]; exact m
  have OS : ∀ w', SS w' → w'.cell? ⟨p, 0, none⟩ = some (.slice (some ⟨gS, 0, none⟩) d.sure.length capS) ∧ w'.cell? ⟨p, 1, none⟩ = some (.slice aL d.loose.length capL) ∧ w'.cell? ⟨p, 2, none⟩ = some (.bool d.down) ∧ w'.cell? ⟨p, 3, none⟩ = some (.int .i64 (d.starts : Int)) := fun w' h => by rw [hSS] at h; exact OC w' h
  clear hSS
  generalize d.sure.length = S at *
  generalize d.loose.length = N at *
  generalize d.starts = T at *
  generalize d.down = D at *
  have HCR := Lib.hid CR
  have HCQ := Lib.hid CQ
  clear CR CQ
  go_enter Try.func12, Try.ntmps12
  go_wp2
  refine wp_region_noPanic ?_
  refine wp_region_held_drew (S := SS) (by kernel_rfl) (SO _ md) (fun hHeld => ?_)
  refine wpAnyH_take (i := 0) (oi := { dst := some 10, op := Op.move (Operand.tmp 0), type := 25, pos := "law.go:52", after := #[], guard := none }) (v := ?_) rfl (by kernel_rfl) (by kernel_rfl) (by kernel_rfl) (fun _ _ _ h => h) (Or.inl ⟨by rfl, ?_⟩) (by assumption) ?_
  rotate_left
  · intro w hSw
    skip
    clear hSw
    go_simp
    try with_reducible rfl
  try simp only [Act.put, List.setIfInBounds_toArray, List.set_cons_zero, List.set_cons_succ]
  refine wpAnyH_take (i := 2) (oi := { dst := some 12, op := Op.move (Operand.tmp 1), type := 29, pos := "law.go:52", after := #[], guard := none }) (v := ?_) rfl (by kernel_rfl) (by kernel_rfl) (by kernel_rfl) (fun _ _ _ h => h) (Or.inl ⟨by rfl, ?_⟩) (by assumption) ?_
  rotate_left
  · intro w hSw
    skip
    clear hSw
    go_simp
    try with_reducible rfl
  try simp only [Act.put, List.setIfInBounds_toArray, List.set_cons_zero, List.set_cons_succ]
  refine wpAnyH_take (i := 3) (oi := { dst := some 13, op := Op.nilCheck (Operand.tmp 12), type := 0, pos := "law.go:52", after := #[{ on := 2, ground := Ground.data }], guard := none }) (v := ?_) rfl (by kernel_rfl) (by kernel_rfl) (by kernel_rfl) (fun _ _ _ h => h) (Or.inl ⟨by rfl, ?_⟩) (by assumption) ?_
  rotate_left
  · intro w hSw
    skip
    clear hSw
    go_simp
    try with_reducible rfl
  try simp only [Act.put, List.setIfInBounds_toArray, List.set_cons_zero, List.set_cons_succ]
  refine wpAnyH_take (i := 4) (oi := { dst := some 14, op := Op.fieldAddr 66 (Operand.tmp 13) 0, type := 0, pos := "law.go:52", after := #[{ on := 3, ground := Ground.data }], guard := none }) (v := ?_) rfl (by kernel_rfl) (by kernel_rfl) (by kernel_rfl) (fun _ _ _ h => h) (Or.inl ⟨by rfl, ?_⟩) (by assumption) ?_
  rotate_left
  · intro w hSw
    skip
    clear hSw
    go_simp
    try with_reducible rfl
  try simp only [Act.put, List.setIfInBounds_toArray, List.set_cons_zero, List.set_cons_succ]
  refine wpAnyH_take (i := 5) (oi := { dst := some 15, op := Op.load 58 (Operand.tmp 14), type := 58, pos := "law.go:52", after := #[{ on := 4, ground := Ground.data }], guard := none }) (v := ?_) rfl (by kernel_rfl) (by kernel_rfl) (by kernel_rfl) (fun _ _ _ h => h) (Or.inl ⟨by rfl, ?_⟩) (by assumption) ?_
  rotate_left
  · intro w hSw
    have hSw := OS _ hSw
    go_simp
    try with_reducible rfl
  try simp only [Act.put, List.setIfInBounds_toArray, List.set_cons_zero, List.set_cons_succ]
  refine wpAnyH_take (i := 6) (oi := { dst := some 16, op := Op.call { callee := Callee.builtin Builtin.len, args := #[Operand.tmp 15], argTypes := #[58] }, type := 3, pos := "law.go:52", after := #[{ on := 5, ground := Ground.data }], guard := none }) (v := ?_) rfl (by kernel_rfl) (by kernel_rfl) (by kernel_rfl) (fun _ _ _ h => h) (Or.inl ⟨by rfl, ?_⟩) (by assumption) ?_
  rotate_left
  · intro w hSw
    skip
    clear hSw
    go_simp
    try with_reducible rfl
  try simp only [Act.put, List.setIfInBounds_toArray, List.set_cons_zero, List.set_cons_succ]
  refine wpAnyH_ready (rs := [1]) (by kernel_rfl) (by simp) ?_
  refine AllReadyH.cons (o := { dst := some 11, op := Op.call { callee := Callee.value (Operand.func 19), args := #[Operand.tmp 10], argTypes := #[25] }, type := 3, pos := "law.go:52", after := #[{ on := 0, ground := Ground.data }], guard := none }) rfl (fun K hK => ?_) AllReadyH.nil
  go_simp
  refine (CZ _ (by assumption)).mono ?_
  rintro e w1' ⟨rfl, m1'⟩
  refine hK.out _ _ (SO _ (by assumption)) (fun hHeld => ?_)
  clear hK K
  try simp only [Act.put, List.setIfInBounds_toArray, List.set_cons_zero, List.set_cons_succ]
  refine wpAnyH_take (i := 7) (oi := { dst := some 17, op := Op.binOp BinOp.neq 3 (Operand.tmp 11) (Operand.tmp 16) 3, type := 4, pos := "law.go:52", after := #[{ on := 1, ground := Ground.data }, { on := 6, ground := Ground.data }], guard := none }) (v := ?_) rfl (by kernel_rfl) (by kernel_rfl) (by kernel_rfl) (fun _ _ _ h => h) (Or.inl ⟨by rfl, ?_⟩) (by assumption) ?_
  rotate_left
  · intro w hSw
    skip
    clear hSw
    go_simp
    try with_reducible rfl
  try simp only [Act.put, List.setIfInBounds_toArray, List.set_cons_zero, List.set_cons_succ]
  refine wpAnyH_take (i := 8) (oi := { dst := some 18, op := Op.move (Operand.tmp 17), type := 4, pos := "law.go:52", after := #[{ on := 7, ground := Ground.data }, { on := 1, ground := Ground.chain }], guard := none }) (v := ?_) rfl (by kernel_rfl) (by kernel_rfl) (by kernel_rfl) (fun _ _ _ h => h) (Or.inl ⟨by rfl, ?_⟩) (by assumption) ?_
  rotate_left
  · intro w hSw
    skip
    clear hSw
    go_simp
    try with_reducible rfl
  try simp only [Act.put, List.setIfInBounds_toArray, List.set_cons_zero, List.set_cons_succ]
  refine wpAnyH_take (i := 9) (oi := { dst := some 19, op := Op.move (Operand.tmp 0), type := 25, pos := "law.go:52", after := #[{ on := 8, ground := Ground.guard }], guard := some (8, false) }) (v := ?_) rfl (by kernel_rfl) (by kernel_rfl) (by kernel_rfl) (fun _ _ _ h => h) (Or.inl ⟨by rfl, ?_⟩) (by assumption) ?_
  rotate_left
  · intro w hSw
    skip
    clear hSw
    go_simp
    try with_reducible rfl
  try simp only [Act.put, List.setIfInBounds_toArray, List.set_cons_zero, List.set_cons_succ]
  refine wpAnyH_take (i := 11) (oi := { dst := some 21, op := Op.move (Operand.tmp 1), type := 29, pos := "law.go:52", after := #[{ on := 8, ground := Ground.guard }], guard := some (8, false) }) (v := ?_) rfl (by kernel_rfl) (by kernel_rfl) (by kernel_rfl) (fun _ _ _ h => h) (Or.inl ⟨by rfl, ?_⟩) (by assumption) ?_
  rotate_left
  · intro w hSw
    skip
    clear hSw
    go_simp
    try with_reducible rfl
  try simp only [Act.put, List.setIfInBounds_toArray, List.set_cons_zero, List.set_cons_succ]
  refine wpAnyH_take (i := 12) (oi := { dst := some 22, op := Op.nilCheck (Operand.tmp 21), type := 0, pos := "law.go:52", after := #[{ on := 11, ground := Ground.data }, { on := 8, ground := Ground.guard }], guard := some (8, false) }) (v := ?_) rfl (by kernel_rfl) (by kernel_rfl) (by kernel_rfl) (fun _ _ _ h => h) (Or.inl ⟨by rfl, ?_⟩) (by assumption) ?_
  rotate_left
  · intro w hSw
    skip
    clear hSw
    go_simp
    try with_reducible rfl
  try simp only [Act.put, List.setIfInBounds_toArray, List.set_cons_zero, List.set_cons_succ]
  refine wpAnyH_take (i := 13) (oi := { dst := some 23, op := Op.fieldAddr 66 (Operand.tmp 22) 1, type := 0, pos := "law.go:52", after := #[{ on := 12, ground := Ground.data }, { on := 8, ground := Ground.guard }], guard := some (8, false) }) (v := ?_) rfl (by kernel_rfl) (by kernel_rfl) (by kernel_rfl) (fun _ _ _ h => h) (Or.inl ⟨by rfl, ?_⟩) (by assumption) ?_
  rotate_left
  · intro w hSw
    skip
    clear hSw
    go_simp
    try with_reducible rfl
  try simp only [Act.put, List.setIfInBounds_toArray, List.set_cons_zero, List.set_cons_succ]
  refine wpAnyH_take (i := 14) (oi := { dst := some 24, op := Op.load 60 (Operand.tmp 23), type := 60, pos := "law.go:52", after := #[{ on := 13, ground := Ground.data }, { on := 8, ground := Ground.guard }], guard := some (8, false) }) (v := ?_) rfl (by kernel_rfl) (by kernel_rfl) (by kernel_rfl) (fun _ _ _ h => h) (Or.inl ⟨by rfl, ?_⟩) (by assumption) ?_
  rotate_left
  · intro w hSw
    have hSw := OS _ hSw
    go_simp
    try with_reducible rfl
  try simp only [Act.put, List.setIfInBounds_toArray, List.set_cons_zero, List.set_cons_succ]
  refine wpAnyH_take (i := 15) (oi := { dst := some 25, op := Op.call { callee := Callee.builtin Builtin.len, args := #[Operand.tmp 24], argTypes := #[60] }, type := 3, pos := "law.go:52", after := #[{ on := 14, ground := Ground.data }, { on := 8, ground := Ground.guard }], guard := some (8, false) }) (v := ?_) rfl (by kernel_rfl) (by kernel_rfl) (by kernel_rfl) (fun _ _ _ h => h) (Or.inl ⟨by rfl, ?_⟩) (by assumption) ?_
  rotate_left
  · intro w hSw
    skip
    clear hSw
    go_simp
    try with_reducible rfl
  try simp only [Act.put, List.setIfInBounds_toArray, List.set_cons_zero, List.set_cons_succ]
  refine wpAnyH_ready (rs := [10]) (by kernel_rfl) (by simp) ?_
  refine AllReadyH.cons (o := { dst := some 20, op := Op.call { callee := Callee.value (Operand.func 20), args := #[Operand.tmp 19], argTypes := #[25] }, type := 3, pos := "law.go:52", after := #[{ on := 9, ground := Ground.data }, { on := 8, ground := Ground.chain }, { on := 8, ground := Ground.guard }], guard := some (8, false) }) rfl (fun K hK => ?_) AllReadyH.nil
  go_simp
  refine (CL _ (by assumption)).mono ?_
  rintro e w10' ⟨rfl, m10'⟩
  refine hK.out _ _ (SO _ (by assumption)) (fun hHeld => ?_)
  clear hK K
  try simp only [Act.put, List.setIfInBounds_toArray, List.set_cons_zero, List.set_cons_succ]
  refine wpAnyH_take (i := 16) (oi := { dst := some 26, op := Op.binOp BinOp.neq 3 (Operand.tmp 20) (Operand.tmp 25) 3, type := 4, pos := "law.go:52", after := #[{ on := 10, ground := Ground.data }, { on := 15, ground := Ground.data }, { on := 8, ground := Ground.guard }], guard := some (8, false) }) (v := ?_) rfl (by kernel_rfl) (by kernel_rfl) (by kernel_rfl) (fun _ _ _ h => h) (Or.inl ⟨by rfl, ?_⟩) (by assumption) ?_
  rotate_left
  · intro w hSw
    skip
    clear hSw
    go_simp
    try with_reducible rfl
  try simp only [Act.put, List.setIfInBounds_toArray, List.set_cons_zero, List.set_cons_succ]
  refine wpAnyH_take (i := 17) (oi := { dst := some 27, op := Op.pick (Operand.tmp 18) (Operand.const (Value.bool true)) (Operand.tmp 26), type := 4, pos := "law.go:52", after := #[{ on := 8, ground := Ground.data }, { on := 16, ground := Ground.data }], guard := none }) (v := ?_) rfl (by kernel_rfl) (by kernel_rfl) (by kernel_rfl) (fun _ _ _ h => h) (Or.inl ⟨by rfl, ?_⟩) (by assumption) ?_
  rotate_left
  · intro w hSw
    skip
    clear hSw
    go_simp
    try with_reducible rfl
  try simp only [Act.put, List.setIfInBounds_toArray, List.set_cons_zero, List.set_cons_succ]
  refine wpAnyH_take (i := 18) (oi := { dst := some 28, op := Op.move (Operand.tmp 27), type := 4, pos := "law.go:52", after := #[{ on := 17, ground := Ground.data }, { on := 10, ground := Ground.chain }], guard := none }) (v := ?_) rfl (by kernel_rfl) (by kernel_rfl) (by kernel_rfl) (fun _ _ _ h => h) (Or.inl ⟨by rfl, ?_⟩) (by assumption) ?_
  rotate_left
  · intro w hSw
    skip
    clear hSw
    go_simp
    try with_reducible rfl
  try simp only [Act.put, List.setIfInBounds_toArray, List.set_cons_zero, List.set_cons_succ]
  refine wpAnyH_take (i := 19) (oi := { dst := some 29, op := Op.move (Operand.tmp 0), type := 25, pos := "law.go:52", after := #[{ on := 18, ground := Ground.guard }], guard := some (18, false) }) (v := ?_) rfl (by kernel_rfl) (by kernel_rfl) (by kernel_rfl) (fun _ _ _ h => h) (Or.inl ⟨by rfl, ?_⟩) (by assumption) ?_
  rotate_left
  · intro w hSw
    skip
    clear hSw
    go_simp
    try with_reducible rfl
  try simp only [Act.put, List.setIfInBounds_toArray, List.set_cons_zero, List.set_cons_succ]
  refine wpAnyH_take (i := 21) (oi := { dst := some 31, op := Op.move (Operand.tmp 1), type := 29, pos := "law.go:52", after := #[{ on := 18, ground := Ground.guard }], guard := some (18, false) }) (v := ?_) rfl (by kernel_rfl) (by kernel_rfl) (by kernel_rfl) (fun _ _ _ h => h) (Or.inl ⟨by rfl, ?_⟩) (by assumption) ?_
  rotate_left
  · intro w hSw
    skip
    clear hSw
    go_simp
    try with_reducible rfl
  try simp only [Act.put, List.setIfInBounds_toArray, List.set_cons_zero, List.set_cons_succ]
  refine wpAnyH_take (i := 22) (oi := { dst := some 32, op := Op.nilCheck (Operand.tmp 31), type := 0, pos := "law.go:52", after := #[{ on := 21, ground := Ground.data }, { on := 18, ground := Ground.guard }], guard := some (18, false) }) (v := ?_) rfl (by kernel_rfl) (by kernel_rfl) (by kernel_rfl) (fun _ _ _ h => h) (Or.inl ⟨by rfl, ?_⟩) (by assumption) ?_
  rotate_left
  · intro w hSw
    skip
    clear hSw
    go_simp
    try with_reducible rfl
  try simp only [Act.put, List.setIfInBounds_toArray, List.set_cons_zero, List.set_cons_succ]
  refine wpAnyH_take (i := 23) (oi := { dst := some 33, op := Op.fieldAddr 66 (Operand.tmp 32) 2, type := 0, pos := "law.go:52", after := #[{ on := 22, ground := Ground.data }, { on := 18, ground := Ground.guard }], guard := some (18, false) }) (v := ?_) rfl (by kernel_rfl) (by kernel_rfl) (by kernel_rfl) (fun _ _ _ h => h) (Or.inl ⟨by rfl, ?_⟩) (by assumption) ?_
  rotate_left
  · intro w hSw
    skip
    clear hSw
    go_simp
    try with_reducible rfl
  try simp only [Act.put, List.setIfInBounds_toArray, List.set_cons_zero, List.set_cons_succ]
  refine wpAnyH_take (i := 24) (oi := { dst := some 34, op := Op.load 4 (Operand.tmp 33), type := 4, pos := "law.go:52", after := #[{ on := 23, ground := Ground.data }, { on := 18, ground := Ground.guard }], guard := some (18, false) }) (v := ?_) rfl (by kernel_rfl) (by kernel_rfl) (by kernel_rfl) (fun _ _ _ h => h) (Or.inl ⟨by rfl, ?_⟩) (by assumption) ?_
  rotate_left
  · intro w hSw
    have hSw := OS _ hSw
    go_simp
    try with_reducible rfl
  try simp only [Act.put, List.setIfInBounds_toArray, List.set_cons_zero, List.set_cons_succ]
  refine wpAnyH_ready (rs := [20]) (by kernel_rfl) (by simp) ?_
  refine AllReadyH.cons (o := { dst := some 30, op := Op.call { callee := Callee.value (Operand.func 21), args := #[Operand.tmp 29], argTypes := #[25] }, type := 4, pos := "law.go:52", after := #[{ on := 19, ground := Ground.data }, { on := 18, ground := Ground.chain }, { on := 18, ground := Ground.guard }], guard := some (18, false) }) rfl (fun K hK => ?_) AllReadyH.nil
  go_simp
  refine (CU _ (by assumption)).mono ?_
  rintro e w20' ⟨rfl, m20'⟩
  refine hK.out _ _ (SO _ (by assumption)) (fun hHeld => ?_)
  clear hK K
  try simp only [Act.put, List.setIfInBounds_toArray, List.set_cons_zero, List.set_cons_succ]
  refine wpAnyH_take (i := 25) (oi := { dst := some 35, op := Op.binOp BinOp.eql 4 (Operand.tmp 30) (Operand.tmp 34) 4, type := 4, pos := "law.go:52", after := #[{ on := 20, ground := Ground.data }, { on := 24, ground := Ground.data }, { on := 18, ground := Ground.guard }], guard := some (18, false) }) (v := ?_) rfl (by kernel_rfl) (by kernel_rfl) (by kernel_rfl) (fun _ _ _ h => h) (Or.inl ⟨by rfl, ?_⟩) (by assumption) ?_
  rotate_left
  · intro w hSw
    skip
    clear hSw
    go_simp
    try with_reducible rfl
  try simp only [Act.put, List.setIfInBounds_toArray, List.set_cons_zero, List.set_cons_succ]
  refine wpAnyH_take (i := 26) (oi := { dst := some 36, op := Op.pick (Operand.tmp 28) (Operand.const (Value.bool true)) (Operand.tmp 35), type := 4, pos := "law.go:52", after := #[{ on := 18, ground := Ground.data }, { on := 25, ground := Ground.data }], guard := none }) (v := ?_) rfl (by kernel_rfl) (by kernel_rfl) (by kernel_rfl) (fun _ _ _ h => h) (Or.inl ⟨by rfl, ?_⟩) (by assumption) ?_
  rotate_left
  · intro w hSw
    skip
    clear hSw
    go_simp
    try with_reducible rfl
  try simp only [Act.put, List.setIfInBounds_toArray, List.set_cons_zero, List.set_cons_succ]
  refine wpAnyH_take (i := 27) (oi := { dst := some 37, op := Op.move (Operand.tmp 36), type := 4, pos := "law.go:52", after := #[{ on := 26, ground := Ground.data }, { on := 20, ground := Ground.chain }], guard := none }) (v := ?_) rfl (by kernel_rfl) (by kernel_rfl) (by kernel_rfl) (fun _ _ _ h => h) (Or.inl ⟨by rfl, ?_⟩) (by assumption) ?_
  rotate_left
  · intro w hSw
    skip
    clear hSw
    go_simp
    try with_reducible rfl
  try simp only [Act.put, List.setIfInBounds_toArray, List.set_cons_zero, List.set_cons_succ]
  refine wpAnyH_take (i := 28) (oi := { dst := some 38, op := Op.move (Operand.tmp 0), type := 25, pos := "law.go:52", after := #[{ on := 27, ground := Ground.guard }], guard := some (27, false) }) (v := ?_) rfl (by kernel_rfl) (by kernel_rfl) (by kernel_rfl) (fun _ _ _ h => h) (Or.inl ⟨by rfl, ?_⟩) (by assumption) ?_
  rotate_left
  · intro w hSw
    skip
    clear hSw
    go_simp
    try with_reducible rfl
  try simp only [Act.put, List.setIfInBounds_toArray, List.set_cons_zero, List.set_cons_succ]
  refine wpAnyH_take (i := 30) (oi := { dst := some 40, op := Op.move (Operand.tmp 1), type := 29, pos := "law.go:52", after := #[{ on := 27, ground := Ground.guard }], guard := some (27, false) }) (v := ?_) rfl (by kernel_rfl) (by kernel_rfl) (by kernel_rfl) (fun _ _ _ h => h) (Or.inl ⟨by rfl, ?_⟩) (by assumption) ?_
  rotate_left
  · intro w hSw
    skip
    clear hSw
    go_simp
    try with_reducible rfl
  try simp only [Act.put, List.setIfInBounds_toArray, List.set_cons_zero, List.set_cons_succ]
  refine wpAnyH_take (i := 31) (oi := { dst := some 41, op := Op.nilCheck (Operand.tmp 40), type := 0, pos := "law.go:52", after := #[{ on := 30, ground := Ground.data }, { on := 27, ground := Ground.guard }], guard := some (27, false) }) (v := ?_) rfl (by kernel_rfl) (by kernel_rfl) (by kernel_rfl) (fun _ _ _ h => h) (Or.inl ⟨by rfl, ?_⟩) (by assumption) ?_
  rotate_left
  · intro w hSw
    skip
    clear hSw
    go_simp
    try with_reducible rfl
  try simp only [Act.put, List.setIfInBounds_toArray, List.set_cons_zero, List.set_cons_succ]
  refine wpAnyH_take (i := 32) (oi := { dst := some 42, op := Op.fieldAddr 66 (Operand.tmp 41) 3, type := 0, pos := "law.go:52", after := #[{ on := 31, ground := Ground.data }, { on := 27, ground := Ground.guard }], guard := some (27, false) }) (v := ?_) rfl (by kernel_rfl) (by kernel_rfl) (by kernel_rfl) (fun _ _ _ h => h) (Or.inl ⟨by rfl, ?_⟩) (by assumption) ?_
  rotate_left
  · intro w hSw
    skip
    clear hSw
    go_simp
    try with_reducible rfl
  try simp only [Act.put, List.setIfInBounds_toArray, List.set_cons_zero, List.set_cons_succ]
  refine wpAnyH_take (i := 33) (oi := { dst := some 43, op := Op.load 3 (Operand.tmp 42), type := 3, pos := "law.go:52", after := #[{ on := 32, ground := Ground.data }, { on := 27, ground := Ground.guard }], guard := some (27, false) }) (v := ?_) rfl (by kernel_rfl) (by kernel_rfl) (by kernel_rfl) (fun _ _ _ h => h) (Or.inl ⟨by rfl, ?_⟩) (by assumption) ?_
  rotate_left
  · intro w hSw
    have hSw := OS _ hSw
    go_simp
    try with_reducible rfl
  try simp only [Act.put, List.setIfInBounds_toArray, List.set_cons_zero, List.set_cons_succ]
  refine wpAnyH_ready (rs := [29]) (by kernel_rfl) (by simp) ?_
  refine AllReadyH.cons (o := { dst := some 39, op := Op.call { callee := Callee.value (Operand.func 22), args := #[Operand.tmp 38], argTypes := #[25] }, type := 3, pos := "law.go:52", after := #[{ on := 28, ground := Ground.data }, { on := 27, ground := Ground.chain }, { on := 27, ground := Ground.guard }], guard := some (27, false) }) rfl (fun K hK => ?_) AllReadyH.nil
  go_simp
  refine (CS _ (by assumption)).mono ?_
  rintro e w29' ⟨rfl, m29'⟩
  refine hK.out _ _ (SO _ (by assumption)) (fun hHeld => ?_)
  clear hK K
  try simp only [Act.put, List.setIfInBounds_toArray, List.set_cons_zero, List.set_cons_succ]
  refine wpAnyH_take (i := 34) (oi := { dst := some 44, op := Op.binOp BinOp.neq 3 (Operand.tmp 39) (Operand.tmp 43) 3, type := 4, pos := "law.go:52", after := #[{ on := 29, ground := Ground.data }, { on := 33, ground := Ground.data }, { on := 27, ground := Ground.guard }], guard := some (27, false) }) (v := ?_) rfl (by kernel_rfl) (by kernel_rfl) (by kernel_rfl) (fun _ _ _ h => h) (Or.inl ⟨by rfl, ?_⟩) (by assumption) ?_
  rotate_left
  · intro w hSw
    skip
    clear hSw
    go_simp
    try with_reducible rfl
  try simp only [Act.put, List.setIfInBounds_toArray, List.set_cons_zero, List.set_cons_succ]
  refine wpAnyH_take (i := 35) (oi := { dst := some 45, op := Op.pick (Operand.tmp 37) (Operand.const (Value.bool true)) (Operand.tmp 44), type := 4, pos := "law.go:52", after := #[{ on := 27, ground := Ground.data }, { on := 34, ground := Ground.data }], guard := none }) (v := ?_) rfl (by kernel_rfl) (by kernel_rfl) (by kernel_rfl) (fun _ _ _ h => h) (Or.inl ⟨by rfl, ?_⟩) (by assumption) ?_
  rotate_left
  · intro w hSw
    skip
    clear hSw
    go_simp
    try with_reducible rfl
  try simp only [Act.put, List.setIfInBounds_toArray, List.set_cons_zero, List.set_cons_succ]
  refine wpAnyH_done (by kernel_rfl) ?_ _
  refine NoPanic.normal ?_
  have MS := Lib.hid m29'
  clear CZ CL CU CS SO OS hHeld m29' m20' m10' m1' md
  go_wp2
  go_loopw [5] (fun i wr => ∃ k : Nat, k ≤ S + 2 ∧ i = .int .i64 ((k : Int) - 1) ∧ M wr) (fun i _ => S + 2 - (intOf i + 1).toNat)
  case atStart => exact ⟨0, by omega, rfl, MS.out⟩
  case round =>
    obtain ⟨k, hk, rfl, hm⟩ := hrel
    clear MS
    have c0 := (OC _ hm).1
    have c5 := fun w' (m : M w') => (OC w' m).1
    have HO := Lib.hid c5
    have HOC := Lib.hid OC
    clear c5 OC
    by_cases hlt : k < S + 2
    · have g1 : (k : Int) - 1 ≤ (S : Int) := by omega
      have g2 : (k : Int) ≤ (S : Int) + 1 := by omega
      have g0 : (0 : Int) ≤ (k : Int) := by omega
      have g5 : (k : Int) ≤ 5000 := by omega
      have C1 := HCR.out ((k : Int) - 1)
      have C2 := HCQ.out ((k : Int) - 1)
      generalize d.read ((k : Int) - 1) = z at C1 C2
      obtain ⟨a, b⟩ := z
      dsimp only at C1 C2
      go_wp2_with (first
        | (go_at_call 13; ((with_reducible refine (C1 _ hm).mono ?_); rintro e w1 ⟨rfl, m1⟩))
        | (go_at_call 31; ((with_reducible refine (C2 _ m1).mono ?_); rintro e w2 ⟨rfl, m2⟩)))
      go_roundw
      case rel => exact ⟨k + 1, by omega, by congr 1; omega, m2⟩
      case measure => simp [intOf]; omega
    · obtain rfl : k = S + 2 := by omega
      have g1 : ¬ (((S + 2 : Nat) : Int) - 1 ≤ (S : Int)) := by omega
      go_wp2
      go_ret
      exact ⟨rfl, HMT.out _ hm⟩
end Go.Proofs.Ytikeobmcnpncjaa
