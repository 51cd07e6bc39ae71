/- Layer 6: Do, kind by kind. -/
import Derived.Test.YtikeobmcnpncjaaSecN
import Derived.Deep.DeepCutAuto
import Derived.Deep.CutBlock
namespace Go.Proofs.Ytikeobmcnpncjaa
open Go.RowKit

set_option maxRecDepth 100000 in
set_option maxHeartbeats 2000000 in
theorem do_6 {I : Impl} {w : World} {q p : Nat} {vS vL vK : Value} {o : Nat → Prop} {d : RD} {v : Value} {ks : List Bool} (h : DoArgs I w q p vS vL vK o d v ks) {kind : Nat} (hk : kind < 256) (hk7 : kind % 13 = 6) (c : UInt8) (n : Int) (s : ByteArray) (hs : s.size ≤ maxLen) :
    Calls Try.prog 11 #[.agg (actC kind c n s v), .pointer (some ⟨q, 0, none⟩), .pointer (some ⟨p, 0, none⟩)] w (DoPost I w q p vS vL vK o (actD d kind c n s ks)) := by
  have hd : actD d kind c n s ks = (d.write n s).1 := by unfold actD; rw [if_pos hk7]
  rw [hd]
  clear hd
  obtain ⟨gS, capS, rfl⟩ := owns_some h.r.s (by have := h.ok.lo; omega)
  have M0 := Lib.hid (h.start (actC kind c n s v))
  have c0 : (w.alloc (.cells (actC kind c n s v) 34)).cell? ⟨p, 0, none⟩ = some (.slice (some ⟨gS, 0, none⟩) d.sure.length capS) := (h.r.below ((Below.refl _ _).alloc (Nat.le_refl _) _)).cell.1
  have b0 : (w.alloc (.cells (actC kind c n s v) 34)).cell? ⟨w.heap.size, 0, none⟩ = some (.int .u8 (kind : Int)) := rowC_cell M0.out.box 0
  have b2 : (w.alloc (.cells (actC kind c n s v) 34)).cell? ⟨w.heap.size, 2, none⟩ = some (.int .i64 n) := rowC_cell M0.out.box 2
  have lo := h.ok.lo
  have hi := h.ok.hi
  have C1 := Lib.hid (fun w' (m : DoM I w w' (fun k => o k ∨ refOwn p (.slice (some ⟨gS, 0, none⟩) d.sure.length capS) vL vK k) q p d d w.heap.size (actC kind c n s v) v ks) => do_write m h.ok h.few n s hs)
  have C2 := Lib.hid (fun w' (m : DoM I w w' (fun k => o k ∨ refOwn p (.slice (some ⟨gS, 0, none⟩) d.sure.length capS) vL vK k) q p (d.write n s).1 d w.heap.size (actC kind c n s v) v ks) => do_rwrite m h.ok h.few n s)
  have ea := i64_and4095 n
  have e1 : 0 ≤ n % 4096 := Int.emod_nonneg _ (by decide)
  have e2 : n % 4096 < 4096 := Int.emod_lt_of_pos _ (by decide)
  have e3 : (8 : Int) ≤ (d.sure.length : Int) := by omega
  have e4 : (kind : Int) % 13 = 6 := by omega
  have e5 : (kind : Int) ≤ 255 := by omega
  generalize d.sure.length = S at *
  generalize n % 4096 = y at *
  clear h
  go_enter Try.func11, Try.ntmps11
  go_wp2
  generalize w.alloc _ = w1 at *
  go_quiet (fail)
  replace b0 : (w1.drewN nq).cell? ⟨w.heap.size, 0, none⟩ = _ := b0
  replace b2 : (w1.drewN nq).cell? ⟨w.heap.size, 2, none⟩ = _ := b2
  have M1 := Lib.hid (M0.out.below (below_drewN (Below.refl _ _) nq))
  clear M0 c0 ea
  generalize w1.drewN nq = w2 at *
  go_wp2
  have md := M1.out.drew
  have m0 := md
  obtain ⟨SS, hSS⟩ : ∃ SS : World → Prop, SS = fun w' => rowC w' w.heap.size (actC kind c n s v) 34 := ⟨_, rfl⟩
  have SO : ∀ w', rowC w' w.heap.size (actC kind c n s v) 34 → SS w' := fun w' m => by rw [hSS]; exact m
  have OS : ∀ w', SS w' → w'.cell? ⟨w.heap.size, 1, none⟩ = some (byteV c) ∧ w'.cell? ⟨w.heap.size, 2, none⟩ = some (.int .i64 n) ∧ w'.cell? ⟨w.heap.size, 3, none⟩ = some (.string s) ∧ w'.cell? ⟨w.heap.size, 4, none⟩ = some v := fun w' h => by
    rw [hSS] at h
    exact ⟨rowC_cell h 1, rowC_cell h 2, rowC_cell h 3, rowC_cell h 4⟩
  clear hSS
  clear b0 b2 M1
  refine wp_region_noPanic ?_
  refine wp_region_held_drew (S := SS) (by kernel_rfl) (SO _ md.box) (fun hHeld => ?_)
  refine wpAnyH_take (i := 0) (oi := { dst := some 27, op := Op.move (Operand.tmp 1), type := 25, pos := "law.go:70", after := #[], guard := none }) (v := ?_) rfl (by kernel_rfl) (by kernel_rfl) (by kernel_rfl) (fun _ _ _ h => h) (Or.inl ⟨by rfl, ?_⟩) (by assumption) ?_
  rotate_left
  · intro w hSw
    skip
    clear hSw
    go_simp
    try with_reducible rfl
  try simp only [Act.put, List.setIfInBounds_toArray, List.set_cons_zero, List.set_cons_succ]
  refine wpAnyH_take (i := 1) (oi := { dst := some 28, op := Op.fieldAddr 34 (Operand.tmp 3) 2, type := 0, pos := "law.go:70", after := #[], guard := none }) (v := ?_) rfl (by kernel_rfl) (by kernel_rfl) (by kernel_rfl) (fun _ _ _ h => h) (Or.inl ⟨by rfl, ?_⟩) (by assumption) ?_
  rotate_left
  · intro w hSw
    skip
    clear hSw
    go_simp
    try with_reducible rfl
  try simp only [Act.put, List.setIfInBounds_toArray, List.set_cons_zero, List.set_cons_succ]
  refine wpAnyH_take (i := 3) (oi := { dst := some 30, op := Op.fieldAddr 34 (Operand.tmp 3) 3, type := 0, pos := "law.go:70", after := #[], guard := none }) (v := ?_) rfl (by kernel_rfl) (by kernel_rfl) (by kernel_rfl) (fun _ _ _ h => h) (Or.inl ⟨by rfl, ?_⟩) (by assumption) ?_
  rotate_left
  · intro w hSw
    skip
    clear hSw
    go_simp
    try with_reducible rfl
  try simp only [Act.put, List.setIfInBounds_toArray, List.set_cons_zero, List.set_cons_succ]
  refine wpAnyH_take (i := 6) (oi := { dst := some 33, op := Op.move (Operand.tmp 2), type := 29, pos := "law.go:70", after := #[], guard := none }) (v := ?_) rfl (by kernel_rfl) (by kernel_rfl) (by kernel_rfl) (fun _ _ _ h => h) (Or.inl ⟨by rfl, ?_⟩) (by assumption) ?_
  rotate_left
  · intro w hSw
    skip
    clear hSw
    go_simp
    try with_reducible rfl
  try simp only [Act.put, List.setIfInBounds_toArray, List.set_cons_zero, List.set_cons_succ]
  refine wpAnyH_take (i := 7) (oi := { dst := some 34, op := Op.fieldAddr 34 (Operand.tmp 3) 2, type := 0, pos := "law.go:70", after := #[], guard := none }) (v := ?_) rfl (by kernel_rfl) (by kernel_rfl) (by kernel_rfl) (fun _ _ _ h => h) (Or.inl ⟨by rfl, ?_⟩) (by assumption) ?_
  rotate_left
  · intro w hSw
    skip
    clear hSw
    go_simp
    try with_reducible rfl
  try simp only [Act.put, List.setIfInBounds_toArray, List.set_cons_zero, List.set_cons_succ]
  refine wpAnyH_take (i := 9) (oi := { dst := some 36, op := Op.fieldAddr 34 (Operand.tmp 3) 3, type := 0, pos := "law.go:70", after := #[], guard := none }) (v := ?_) rfl (by kernel_rfl) (by kernel_rfl) (by kernel_rfl) (fun _ _ _ h => h) (Or.inl ⟨by rfl, ?_⟩) (by assumption) ?_
  rotate_left
  · intro w hSw
    skip
    clear hSw
    go_simp
    try with_reducible rfl
  try simp only [Act.put, List.setIfInBounds_toArray, List.set_cons_zero, List.set_cons_succ]
  refine wpAnyH_take (i := 2) (oi := { dst := some 29, op := Op.load 3 (Operand.tmp 28), type := 3, pos := "law.go:70", after := #[{ on := 1, ground := Ground.data }], guard := none }) (v := ?_) rfl (by kernel_rfl) (by kernel_rfl) (by kernel_rfl) (fun _ _ _ h => h) (Or.inl ⟨by rfl, ?_⟩) (by assumption) ?_
  rotate_left
  · intro w hSw
    have hSw := OS _ hSw
    go_simp
    try with_reducible rfl
  try simp only [Act.put, List.setIfInBounds_toArray, List.set_cons_zero, List.set_cons_succ]
  refine wpAnyH_take (i := 4) (oi := { dst := some 31, op := Op.load 9 (Operand.tmp 30), type := 9, pos := "law.go:70", after := #[{ on := 3, ground := Ground.data }], guard := none }) (v := ?_) rfl (by kernel_rfl) (by kernel_rfl) (by kernel_rfl) (fun _ _ _ h => h) (Or.inl ⟨by rfl, ?_⟩) (by assumption) ?_
  rotate_left
  · intro w hSw
    have hSw := OS _ hSw
    go_simp
    try with_reducible rfl
  try simp only [Act.put, List.setIfInBounds_toArray, List.set_cons_zero, List.set_cons_succ]
  refine wpAnyH_take (i := 8) (oi := { dst := some 35, op := Op.load 3 (Operand.tmp 34), type := 3, pos := "law.go:70", after := #[{ on := 7, ground := Ground.data }], guard := none }) (v := ?_) rfl (by kernel_rfl) (by kernel_rfl) (by kernel_rfl) (fun _ _ _ h => h) (Or.inl ⟨by rfl, ?_⟩) (by assumption) ?_
  rotate_left
  · intro w hSw
    have hSw := OS _ hSw
    go_simp
    try with_reducible rfl
  try simp only [Act.put, List.setIfInBounds_toArray, List.set_cons_zero, List.set_cons_succ]
  refine wpAnyH_take (i := 10) (oi := { dst := some 37, op := Op.load 9 (Operand.tmp 36), type := 9, pos := "law.go:70", after := #[{ on := 9, ground := Ground.data }], guard := none }) (v := ?_) rfl (by kernel_rfl) (by kernel_rfl) (by kernel_rfl) (fun _ _ _ h => h) (Or.inl ⟨by rfl, ?_⟩) (by assumption) ?_
  rotate_left
  · intro w hSw
    have hSw := OS _ hSw
    go_simp
    try with_reducible rfl
  try simp only [Act.put, List.setIfInBounds_toArray, List.set_cons_zero, List.set_cons_succ]
  refine wpAnyH_ready (rs := [5]) (by kernel_rfl) (by simp) ?_
  refine AllReadyH.cons (o := { dst := some 32, op := Op.call { callee := Callee.value (Operand.func 14), args := #[Operand.tmp 27, Operand.tmp 29, Operand.tmp 31], argTypes := #[25, 3, 9] }, type := 26, pos := "law.go:70", after := #[{ on := 0, ground := Ground.data }, { on := 2, ground := Ground.data }, { on := 4, ground := Ground.data }], guard := none }) rfl (fun K hK => ?_) AllReadyH.nil
  go_simp
  refine (C1.out _ (by assumption)).mono ?_
  rintro e w5' ⟨rfl, m5'⟩
  refine hK.out _ _ (SO _ m5'.box) (fun hHeld => ?_)
  clear hK K
  try simp only [Act.put, List.setIfInBounds_toArray, List.set_cons_zero, List.set_cons_succ]
  refine wpAnyH_ready (rs := [11]) (by kernel_rfl) (by simp) ?_
  refine AllReadyH.cons (o := { dst := some 38, op := Op.call { callee := Callee.value (Operand.func 26), args := #[Operand.tmp 33, Operand.tmp 35, Operand.tmp 37], argTypes := #[29, 3, 9] }, type := 26, pos := "law.go:70", after := #[{ on := 6, ground := Ground.data }, { on := 8, ground := Ground.data }, { on := 10, ground := Ground.data }, { on := 5, ground := Ground.chain }], guard := none }) rfl (fun K hK => ?_) AllReadyH.nil
  go_simp
  refine (C2.out _ (by assumption)).mono ?_
  rintro e w11' ⟨rfl, m11'⟩
  refine hK.out _ _ (SO _ m11'.box) (fun hHeld => ?_)
  clear hK K
  try simp only [Act.put, List.setIfInBounds_toArray, List.set_cons_zero, List.set_cons_succ]
  refine wpAnyH_take (i := 12) (oi := { dst := some 39, op := Op.binOp BinOp.eql 26 (Operand.tmp 32) (Operand.tmp 38) 26, type := 4, pos := "law.go:70", after := #[{ on := 5, ground := Ground.data }, { on := 11, ground := Ground.data }], guard := none }) (v := ?_) rfl (by kernel_rfl) (by kernel_rfl) (by kernel_rfl) (fun _ _ _ h => h) (Or.inl ⟨by rfl, ?_⟩) (by assumption) ?_
  rotate_left
  · intro w hSw
    skip
    clear hSw
    go_simp
    try with_reducible rfl
  try simp only [Act.put, List.setIfInBounds_toArray, List.set_cons_zero, List.set_cons_succ]
  refine wpAnyH_take (i := 13) (oi := { dst := some 6, op := Op.assign (Operand.tmp 39), type := 4, pos := "law.go:70", after := #[{ on := 12, ground := Ground.data }, { on := 11, ground := Ground.chain }, { on := 0, ground := Ground.phase }, { on := 1, ground := Ground.phase }, { on := 2, ground := Ground.phase }, { on := 3, ground := Ground.phase }, { on := 4, ground := Ground.phase }, { on := 5, ground := Ground.phase }, { on := 6, ground := Ground.phase }, { on := 7, ground := Ground.phase }, { on := 8, ground := Ground.phase }, { on := 9, ground := Ground.phase }, { on := 10, ground := Ground.phase }, { on := 11, ground := Ground.phase }, { on := 12, ground := Ground.phase }], guard := none }) (v := ?_) rfl (by kernel_rfl) (by kernel_rfl) (by kernel_rfl) (fun _ _ _ h => h) (Or.inl ⟨by rfl, ?_⟩) (by assumption) ?_
  rotate_left
  · intro w hSw
    skip
    clear hSw
    go_simp
    try with_reducible rfl
  try simp only [Act.put, List.setIfInBounds_toArray, List.set_cons_zero, List.set_cons_succ]
  refine wpAnyH_done (by kernel_rfl) ?_ _
  refine NoPanic.normal ?_
  go_wp2
  go_ret
  exact m11'.post

set_option maxRecDepth 100000 in
set_option maxHeartbeats 2000000 in
theorem do_8 {I : Impl} {w : World} {q p : Nat} {vS vL vK : Value} {o : Nat → Prop} {d : RD} {v : Value} {ks : List Bool} (h : DoArgs I w q p vS vL vK o d v ks) {kind : Nat} (hk : kind < 256) (hk7 : kind % 13 = 8) (c : UInt8) (n : Int) (s : ByteArray) :
    Calls Try.prog 11 #[.agg (actC kind c n s v), .pointer (some ⟨q, 0, none⟩), .pointer (some ⟨p, 0, none⟩)] w (DoPost I w q p vS vL vK o (actD d kind c n s ks)) := by
  have hd : actD d kind c n s ks = (d.crash ks).1 := by unfold actD; rw [if_neg (by omega), if_neg (by omega), if_pos hk7]
  rw [hd]
  clear hd
  obtain ⟨gS, capS, rfl⟩ := owns_some h.r.s (by have := h.ok.lo; omega)
  have M0 := Lib.hid (h.start (actC kind c n s v))
  have c0 : (w.alloc (.cells (actC kind c n s v) 34)).cell? ⟨p, 0, none⟩ = some (.slice (some ⟨gS, 0, none⟩) d.sure.length capS) := (h.r.below ((Below.refl _ _).alloc (Nat.le_refl _) _)).cell.1
  have b0 : (w.alloc (.cells (actC kind c n s v) 34)).cell? ⟨w.heap.size, 0, none⟩ = some (.int .u8 (kind : Int)) := rowC_cell M0.out.box 0
  have b2 : (w.alloc (.cells (actC kind c n s v) 34)).cell? ⟨w.heap.size, 2, none⟩ = some (.int .i64 n) := rowC_cell M0.out.box 2
  have lo := h.ok.lo
  have hi := h.ok.hi
  have C1 := Lib.hid (fun w' (m : DoM I w w' (fun k => o k ∨ refOwn p (.slice (some ⟨gS, 0, none⟩) d.sure.length capS) vL vK k) q p d d w.heap.size (actC kind c n s v) v ks) => do_crash m h.ok h.few h.l)
  have C2 := Lib.hid (fun w' (m : DoM I w w' (fun k => o k ∨ refOwn p (.slice (some ⟨gS, 0, none⟩) d.sure.length capS) vL vK k) q p (d.crash ks).1 d w.heap.size (actC kind c n s v) v ks) => do_rcrash m h.ok h.few)
  have ea := i64_and4095 n
  have e1 : 0 ≤ n % 4096 := Int.emod_nonneg _ (by decide)
  have e2 : n % 4096 < 4096 := Int.emod_lt_of_pos _ (by decide)
  have e3 : (8 : Int) ≤ (d.sure.length : Int) := by omega
  have e4 : (kind : Int) % 13 = 8 := by omega
  have e5 : (kind : Int) ≤ 255 := by omega
  generalize d.sure.length = S at *
  generalize n % 4096 = y at *
  clear h
  go_enter Try.func11, Try.ntmps11
  go_wp2
  generalize w.alloc _ = w1 at *
  go_quiet (fail)
  replace b0 : (w1.drewN nq).cell? ⟨w.heap.size, 0, none⟩ = _ := b0
  replace b2 : (w1.drewN nq).cell? ⟨w.heap.size, 2, none⟩ = _ := b2
  have M1 := Lib.hid (M0.out.below (below_drewN (Below.refl _ _) nq))
  clear M0 c0 ea
  generalize w1.drewN nq = w2 at *
  go_wp2
  have md := M1.out.drew
  have m0 := md
  obtain ⟨SS, hSS⟩ : ∃ SS : World → Prop, SS = fun w' => rowC w' w.heap.size (actC kind c n s v) 34 := ⟨_, rfl⟩
  have SO : ∀ w', rowC w' w.heap.size (actC kind c n s v) 34 → SS w' := fun w' m => by rw [hSS]; exact m
  have OS : ∀ w', SS w' → w'.cell? ⟨w.heap.size, 1, none⟩ = some (byteV c) ∧ w'.cell? ⟨w.heap.size, 2, none⟩ = some (.int .i64 n) ∧ w'.cell? ⟨w.heap.size, 3, none⟩ = some (.string s) ∧ w'.cell? ⟨w.heap.size, 4, none⟩ = some v := fun w' h => by
    rw [hSS] at h
    exact ⟨rowC_cell h 1, rowC_cell h 2, rowC_cell h 3, rowC_cell h 4⟩
  clear hSS
  clear b0 b2 M1
  refine wp_region_noPanic ?_
  refine wp_region_held_drew (S := SS) (by kernel_rfl) (SO _ md.box) (fun hHeld => ?_)
  refine wpAnyH_take (i := 0) (oi := { dst := some 49, op := Op.move (Operand.tmp 1), type := 25, pos := "law.go:74", after := #[], guard := none }) (v := ?_) rfl (by kernel_rfl) (by kernel_rfl) (by kernel_rfl) (fun _ _ _ h => h) (Or.inl ⟨by rfl, ?_⟩) (by assumption) ?_
  rotate_left
  · intro w hSw
    skip
    clear hSw
    go_simp
    try with_reducible rfl
  try simp only [Act.put, List.setIfInBounds_toArray, List.set_cons_zero, List.set_cons_succ]
  refine wpAnyH_take (i := 1) (oi := { dst := some 50, op := Op.fieldAddr 34 (Operand.tmp 3) 4, type := 0, pos := "law.go:74", after := #[], guard := none }) (v := ?_) rfl (by kernel_rfl) (by kernel_rfl) (by kernel_rfl) (fun _ _ _ h => h) (Or.inl ⟨by rfl, ?_⟩) (by assumption) ?_
  rotate_left
  · intro w hSw
    skip
    clear hSw
    go_simp
    try with_reducible rfl
  try simp only [Act.put, List.setIfInBounds_toArray, List.set_cons_zero, List.set_cons_succ]
  refine wpAnyH_take (i := 4) (oi := { dst := some 53, op := Op.move (Operand.tmp 2), type := 29, pos := "law.go:74", after := #[], guard := none }) (v := ?_) rfl (by kernel_rfl) (by kernel_rfl) (by kernel_rfl) (fun _ _ _ h => h) (Or.inl ⟨by rfl, ?_⟩) (by assumption) ?_
  rotate_left
  · intro w hSw
    skip
    clear hSw
    go_simp
    try with_reducible rfl
  try simp only [Act.put, List.setIfInBounds_toArray, List.set_cons_zero, List.set_cons_succ]
  refine wpAnyH_take (i := 5) (oi := { dst := some 54, op := Op.fieldAddr 34 (Operand.tmp 3) 4, type := 0, pos := "law.go:74", after := #[], guard := none }) (v := ?_) rfl (by kernel_rfl) (by kernel_rfl) (by kernel_rfl) (fun _ _ _ h => h) (Or.inl ⟨by rfl, ?_⟩) (by assumption) ?_
  rotate_left
  · intro w hSw
    skip
    clear hSw
    go_simp
    try with_reducible rfl
  try simp only [Act.put, List.setIfInBounds_toArray, List.set_cons_zero, List.set_cons_succ]
  refine wpAnyH_take (i := 2) (oi := { dst := some 51, op := Op.load 32 (Operand.tmp 50), type := 32, pos := "law.go:74", after := #[{ on := 1, ground := Ground.data }], guard := none }) (v := ?_) rfl (by kernel_rfl) (by kernel_rfl) (by kernel_rfl) (fun _ _ _ h => h) (Or.inl ⟨by rfl, ?_⟩) (by assumption) ?_
  rotate_left
  · intro w hSw
    have hSw := OS _ hSw
    go_simp
    try with_reducible rfl
  try simp only [Act.put, List.setIfInBounds_toArray, List.set_cons_zero, List.set_cons_succ]
  refine wpAnyH_take (i := 6) (oi := { dst := some 55, op := Op.load 32 (Operand.tmp 54), type := 32, pos := "law.go:74", after := #[{ on := 5, ground := Ground.data }], guard := none }) (v := ?_) rfl (by kernel_rfl) (by kernel_rfl) (by kernel_rfl) (fun _ _ _ h => h) (Or.inl ⟨by rfl, ?_⟩) (by assumption) ?_
  rotate_left
  · intro w hSw
    have hSw := OS _ hSw
    go_simp
    try with_reducible rfl
  try simp only [Act.put, List.setIfInBounds_toArray, List.set_cons_zero, List.set_cons_succ]
  refine wpAnyH_ready (rs := [3]) (by kernel_rfl) (by simp) ?_
  refine AllReadyH.cons (o := { dst := some 52, op := Op.call { callee := Callee.value (Operand.func 16), args := #[Operand.tmp 49, Operand.tmp 51], argTypes := #[25, 32] }, type := 26, pos := "law.go:74", after := #[{ on := 0, ground := Ground.data }, { on := 2, ground := Ground.data }], guard := none }) rfl (fun K hK => ?_) AllReadyH.nil
  go_simp
  refine (C1.out _ (by assumption)).mono ?_
  rintro e w3' ⟨rfl, m3'⟩
  refine hK.out _ _ (SO _ m3'.box) (fun hHeld => ?_)
  clear hK K
  try simp only [Act.put, List.setIfInBounds_toArray, List.set_cons_zero, List.set_cons_succ]
  refine wpAnyH_ready (rs := [7]) (by kernel_rfl) (by simp) ?_
  refine AllReadyH.cons (o := { dst := some 56, op := Op.call { callee := Callee.value (Operand.func 28), args := #[Operand.tmp 53, Operand.tmp 55], argTypes := #[29, 32] }, type := 26, pos := "law.go:74", after := #[{ on := 4, ground := Ground.data }, { on := 6, ground := Ground.data }, { on := 3, ground := Ground.chain }], guard := none }) rfl (fun K hK => ?_) AllReadyH.nil
  go_simp
  refine (C2.out _ (by assumption)).mono ?_
  rintro e w7' ⟨rfl, m7'⟩
  refine hK.out _ _ (SO _ m7'.box) (fun hHeld => ?_)
  clear hK K
  try simp only [Act.put, List.setIfInBounds_toArray, List.set_cons_zero, List.set_cons_succ]
  refine wpAnyH_take (i := 8) (oi := { dst := some 57, op := Op.binOp BinOp.eql 26 (Operand.tmp 52) (Operand.tmp 56) 26, type := 4, pos := "law.go:74", after := #[{ on := 3, ground := Ground.data }, { on := 7, ground := Ground.data }], guard := none }) (v := ?_) rfl (by kernel_rfl) (by kernel_rfl) (by kernel_rfl) (fun _ _ _ h => h) (Or.inl ⟨by rfl, ?_⟩) (by assumption) ?_
  rotate_left
  · intro w hSw
    skip
    clear hSw
    go_simp
    try with_reducible rfl
  try simp only [Act.put, List.setIfInBounds_toArray, List.set_cons_zero, List.set_cons_succ]
  refine wpAnyH_take (i := 9) (oi := { dst := some 6, op := Op.assign (Operand.tmp 57), type := 4, pos := "law.go:74", after := #[{ on := 8, ground := Ground.data }, { on := 7, ground := Ground.chain }, { on := 0, ground := Ground.phase }, { on := 1, ground := Ground.phase }, { on := 2, ground := Ground.phase }, { on := 3, ground := Ground.phase }, { on := 4, ground := Ground.phase }, { on := 5, ground := Ground.phase }, { on := 6, ground := Ground.phase }, { on := 7, ground := Ground.phase }, { on := 8, ground := Ground.phase }], guard := none }) (v := ?_) rfl (by kernel_rfl) (by kernel_rfl) (by kernel_rfl) (fun _ _ _ h => h) (Or.inl ⟨by rfl, ?_⟩) (by assumption) ?_
  rotate_left
  · intro w hSw
    skip
    clear hSw
    go_simp
    try with_reducible rfl
  try simp only [Act.put, List.setIfInBounds_toArray, List.set_cons_zero, List.set_cons_succ]
  refine wpAnyH_done (by kernel_rfl) ?_ _
  refine NoPanic.normal ?_
  go_wp2
  go_ret
  exact m7'.post

set_option maxRecDepth 100000 in
set_option maxHeartbeats 2000000 in
theorem do_9 {I : Impl} {w : World} {q p : Nat} {vS vL vK : Value} {o : Nat → Prop} {d : RD} {v : Value} {ks : List Bool} (h : DoArgs I w q p vS vL vK o d v ks) {kind : Nat} (hk : kind < 256) (hk7 : kind % 13 = 9) (c : UInt8) (n : Int) (s : ByteArray) :
    Calls Try.prog 11 #[.agg (actC kind c n s v), .pointer (some ⟨q, 0, none⟩), .pointer (some ⟨p, 0, none⟩)] w (DoPost I w q p vS vL vK o (actD d kind c n s ks)) := by
  have hd : actD d kind c n s ks = d.start.1 := by unfold actD; rw [if_neg (by omega), if_neg (by omega), if_neg (by omega), if_pos (by omega)]
  rw [hd]
  clear hd
  obtain ⟨gS, capS, rfl⟩ := owns_some h.r.s (by have := h.ok.lo; omega)
  have M0 := Lib.hid (h.start (actC kind c n s v))
  have c0 : (w.alloc (.cells (actC kind c n s v) 34)).cell? ⟨p, 0, none⟩ = some (.slice (some ⟨gS, 0, none⟩) d.sure.length capS) := (h.r.below ((Below.refl _ _).alloc (Nat.le_refl _) _)).cell.1
  have b0 : (w.alloc (.cells (actC kind c n s v) 34)).cell? ⟨w.heap.size, 0, none⟩ = some (.int .u8 (kind : Int)) := rowC_cell M0.out.box 0
  have b2 : (w.alloc (.cells (actC kind c n s v) 34)).cell? ⟨w.heap.size, 2, none⟩ = some (.int .i64 n) := rowC_cell M0.out.box 2
  have lo := h.ok.lo
  have hi := h.ok.hi
  have C1 := Lib.hid (fun w' (m : DoM I w w' (fun k => o k ∨ refOwn p (.slice (some ⟨gS, 0, none⟩) d.sure.length capS) vL vK k) q p d d w.heap.size (actC kind c n s v) v ks) => do_start m h.ok h.few)
  have C2 := Lib.hid (fun w' (m : DoM I w w' (fun k => o k ∨ refOwn p (.slice (some ⟨gS, 0, none⟩) d.sure.length capS) vL vK k) q p d.start.1 d w.heap.size (actC kind c n s v) v ks) => do_rstart m h.few)
  have ea := i64_and4095 n
  have e1 : 0 ≤ n % 4096 := Int.emod_nonneg _ (by decide)
  have e2 : n % 4096 < 4096 := Int.emod_lt_of_pos _ (by decide)
  have e3 : (8 : Int) ≤ (d.sure.length : Int) := by omega
  have e4 : (kind : Int) % 13 = 9 := by omega
  have e5 : (kind : Int) ≤ 255 := by omega
  generalize d.sure.length = S at *
  generalize n % 4096 = y at *
  clear h
  go_enter Try.func11, Try.ntmps11
  go_wp2
  generalize w.alloc _ = w1 at *
  go_quiet (fail)
  replace b0 : (w1.drewN nq).cell? ⟨w.heap.size, 0, none⟩ = _ := b0
  replace b2 : (w1.drewN nq).cell? ⟨w.heap.size, 2, none⟩ = _ := b2
  have M1 := Lib.hid (M0.out.below (below_drewN (Below.refl _ _) nq))
  clear M0 c0 ea
  generalize w1.drewN nq = w2 at *
  go_wp2_with (first
    | (go_at_call 17; ((with_reducible refine (C1.out _ M1.out).mono ?_); rintro e w3 ⟨rfl, m3⟩))
    | (go_at_call 29; ((with_reducible refine (C2.out _ m3).mono ?_); rintro e w4 ⟨rfl, m4⟩)))
  go_ret
  exact m4.post

set_option maxRecDepth 100000 in
set_option maxHeartbeats 2000000 in
theorem do_10 {I : Impl} {w : World} {q p : Nat} {vS vL vK : Value} {o : Nat → Prop} {d : RD} {v : Value} {ks : List Bool} (h : DoArgs I w q p vS vL vK o d v ks) {kind : Nat} (hk : kind < 256) (hk7 : kind % 13 = 10) (c : UInt8) (n : Int) (s : ByteArray) :
    Calls Try.prog 11 #[.agg (actC kind c n s v), .pointer (some ⟨q, 0, none⟩), .pointer (some ⟨p, 0, none⟩)] w (DoPost I w q p vS vL vK o (actD d kind c n s ks)) := by
  have hd : actD d kind c n s ks = d.start.1 := by unfold actD; rw [if_neg (by omega), if_neg (by omega), if_neg (by omega), if_pos (by omega)]
  rw [hd]
  clear hd
  obtain ⟨gS, capS, rfl⟩ := owns_some h.r.s (by have := h.ok.lo; omega)
  have M0 := Lib.hid (h.start (actC kind c n s v))
  have c0 : (w.alloc (.cells (actC kind c n s v) 34)).cell? ⟨p, 0, none⟩ = some (.slice (some ⟨gS, 0, none⟩) d.sure.length capS) := (h.r.below ((Below.refl _ _).alloc (Nat.le_refl _) _)).cell.1
  have b0 : (w.alloc (.cells (actC kind c n s v) 34)).cell? ⟨w.heap.size, 0, none⟩ = some (.int .u8 (kind : Int)) := rowC_cell M0.out.box 0
  have b2 : (w.alloc (.cells (actC kind c n s v) 34)).cell? ⟨w.heap.size, 2, none⟩ = some (.int .i64 n) := rowC_cell M0.out.box 2
  have lo := h.ok.lo
  have hi := h.ok.hi
  have C1 := Lib.hid (fun w' (m : DoM I w w' (fun k => o k ∨ refOwn p (.slice (some ⟨gS, 0, none⟩) d.sure.length capS) vL vK k) q p d d w.heap.size (actC kind c n s v) v ks) => do_start m h.ok h.few)
  have C2 := Lib.hid (fun w' (m : DoM I w w' (fun k => o k ∨ refOwn p (.slice (some ⟨gS, 0, none⟩) d.sure.length capS) vL vK k) q p d.start.1 d w.heap.size (actC kind c n s v) v ks) => do_rstart m h.few)
  have ea := i64_and4095 n
  have e1 : 0 ≤ n % 4096 := Int.emod_nonneg _ (by decide)
  have e2 : n % 4096 < 4096 := Int.emod_lt_of_pos _ (by decide)
  have e3 : (8 : Int) ≤ (d.sure.length : Int) := by omega
  have e4 : (kind : Int) % 13 = 10 := by omega
  have e5 : (kind : Int) ≤ 255 := by omega
  generalize d.sure.length = S at *
  generalize n % 4096 = y at *
  clear h
  go_enter Try.func11, Try.ntmps11
  go_wp2
  generalize w.alloc _ = w1 at *
  go_quiet (fail)
  replace b0 : (w1.drewN nq).cell? ⟨w.heap.size, 0, none⟩ = _ := b0
  replace b2 : (w1.drewN nq).cell? ⟨w.heap.size, 2, none⟩ = _ := b2
  have M1 := Lib.hid (M0.out.below (below_drewN (Below.refl _ _) nq))
  clear M0 c0 ea
  generalize w1.drewN nq = w2 at *
  go_wp2_with (first
    | (go_at_call 17; ((with_reducible refine (C1.out _ M1.out).mono ?_); rintro e w3 ⟨rfl, m3⟩))
    | (go_at_call 29; ((with_reducible refine (C2.out _ m3).mono ?_); rintro e w4 ⟨rfl, m4⟩)))
  go_ret
  exact m4.post

set_option maxRecDepth 100000 in
set_option maxHeartbeats 2000000 in
theorem do_12 {I : Impl} {w : World} {q p : Nat} {vS vL vK : Value} {o : Nat → Prop} {d : RD} {v : Value} {ks : List Bool} (h : DoArgs I w q p vS vL vK o d v ks) {kind : Nat} (hk : kind < 256) (hk7 : kind % 13 = 12) (c : UInt8) (n : Int) (s : ByteArray) :
    Calls Try.prog 11 #[.agg (actC kind c n s v), .pointer (some ⟨q, 0, none⟩), .pointer (some ⟨p, 0, none⟩)] w (DoPost I w q p vS vL vK o (actD d kind c n s ks)) := by
  have hd : actD d kind c n s ks = d := by unfold actD; rw [if_neg (by omega), if_neg (by omega), if_neg (by omega), if_neg (by omega), if_neg (by omega), if_pos hk7]
  rw [hd]
  clear hd
  obtain ⟨gS, capS, rfl⟩ := owns_some h.r.s (by have := h.ok.lo; omega)
  have M0 := Lib.hid (h.start (actC kind c n s v))
  have c0 : (w.alloc (.cells (actC kind c n s v) 34)).cell? ⟨p, 0, none⟩ = some (.slice (some ⟨gS, 0, none⟩) d.sure.length capS) := (h.r.below ((Below.refl _ _).alloc (Nat.le_refl _) _)).cell.1
  have b0 : (w.alloc (.cells (actC kind c n s v) 34)).cell? ⟨w.heap.size, 0, none⟩ = some (.int .u8 (kind : Int)) := rowC_cell M0.out.box 0
  have b2 : (w.alloc (.cells (actC kind c n s v) 34)).cell? ⟨w.heap.size, 2, none⟩ = some (.int .i64 n) := rowC_cell M0.out.box 2
  have lo := h.ok.lo
  have hi := h.ok.hi
  have C1 := Lib.hid (fun w' (m : DoM I w w' (fun k => o k ∨ refOwn p (.slice (some ⟨gS, 0, none⟩) d.sure.length capS) vL vK k) q p d d w.heap.size (actC kind c n s v) v ks) => do_read m h.ok h.few n)
  have C2 := Lib.hid (fun w' (m : DoM I w w' (fun k => o k ∨ refOwn p (.slice (some ⟨gS, 0, none⟩) d.sure.length capS) vL vK k) q p d d w.heap.size (actC kind c n s v) v ks) => do_rread m h.ok h.few n)
  have ea := i64_and4095 n
  have e1 : 0 ≤ n % 4096 := Int.emod_nonneg _ (by decide)
  have e2 : n % 4096 < 4096 := Int.emod_lt_of_pos _ (by decide)
  have e3 : (8 : Int) ≤ (d.sure.length : Int) := by omega
  have e4 : (kind : Int) % 13 = 12 := by omega
  have e5 : (kind : Int) ≤ 255 := by omega
  generalize d.sure.length = S at *
  generalize n % 4096 = y at *
  clear h
  go_enter Try.func11, Try.ntmps11
  go_wp2
  generalize w.alloc _ = w1 at *
  go_quiet (fail)
  replace b0 : (w1.drewN nq).cell? ⟨w.heap.size, 0, none⟩ = _ := b0
  replace b2 : (w1.drewN nq).cell? ⟨w.heap.size, 2, none⟩ = _ := b2
  have M1 := Lib.hid (M0.out.below (below_drewN (Below.refl _ _) nq))
  clear M0 c0 ea
  generalize w1.drewN nq = w2 at *
  have HB := Lib.hid (show ∀ w', DoM I w w' (fun k => o k ∨ refOwn p (.slice (some ⟨gS, 0, none⟩) S capS) vL vK k) q p d d w.heap.size (actC kind c n s v) v ks → w'.cell? ⟨w.heap.size, 2, none⟩ = some (.int .i64 n) from fun w' m => rowC_cell m.box 2)
  go_wp2_with (first
    | (go_at_call 13; ((with_reducible refine (C1.out _ M1.out).mono ?_); rintro e w3 ⟨rfl, m3⟩); have b3 := HB.out _ m3)
    | (go_at_call 31; ((with_reducible refine (C2.out _ m3).mono ?_); rintro e w4 ⟨rfl, m4⟩)))
  go_ret
  exact m4.post

set_option maxRecDepth 100000 in
set_option maxHeartbeats 2000000 in
theorem do_11a {I : Impl} {w : World} {q p : Nat} {vS vL vK : Value} {o : Nat → Prop} {d : RD} {v : Value} {ks : List Bool} (h : DoArgs I w q p vS vL vK o d v ks) {kind : Nat} (hk : kind < 256) (hk7 : kind % 13 = 11) (c : UInt8) (n : Int) (s : ByteArray) (hn : 0 < n) :
    Calls Try.prog 11 #[.agg (actC kind c n s v), .pointer (some ⟨q, 0, none⟩), .pointer (some ⟨p, 0, none⟩)] w (DoPost I w q p vS vL vK o (actD d kind c n s ks)) := by
  have hd : actD d kind c n s ks = (d.fail (n % 8) ks).1 := by unfold actD; rw [if_neg (by omega), if_neg (by omega), if_neg (by omega), if_neg (by omega), if_pos hk7, if_pos hn]
  rw [hd]
  clear hd
  obtain ⟨gS, capS, rfl⟩ := owns_some h.r.s (by have := h.ok.lo; omega)
  have M0 := Lib.hid (h.start (actC kind c n s v))
  have c0 : (w.alloc (.cells (actC kind c n s v) 34)).cell? ⟨p, 0, none⟩ = some (.slice (some ⟨gS, 0, none⟩) d.sure.length capS) := (h.r.below ((Below.refl _ _).alloc (Nat.le_refl _) _)).cell.1
  have b0 : (w.alloc (.cells (actC kind c n s v) 34)).cell? ⟨w.heap.size, 0, none⟩ = some (.int .u8 (kind : Int)) := rowC_cell M0.out.box 0
  have b2 : (w.alloc (.cells (actC kind c n s v) 34)).cell? ⟨w.heap.size, 2, none⟩ = some (.int .i64 n) := rowC_cell M0.out.box 2
  have lo := h.ok.lo
  have hi := h.ok.hi
  have C1 := Lib.hid (fun w' (m : DoM I w w' (fun k => o k ∨ refOwn p (.slice (some ⟨gS, 0, none⟩) d.sure.length capS) vL vK k) q p d d w.heap.size (actC kind c n s v) v ks) => do_fail m h.ok h.few h.l (n % 8) (by omega))
  have C2 := Lib.hid (fun w' (m : DoM I w w' (fun k => o k ∨ refOwn p (.slice (some ⟨gS, 0, none⟩) d.sure.length capS) vL vK k) q p (d.fail (n % 8) ks).1 d w.heap.size (actC kind c n s v) v ks) => do_rfail m h.l (n % 8))
  have ez := i64_and7 n
  have z1 : 0 ≤ n % 8 := Int.emod_nonneg _ (by decide)
  have z2 : n % 8 < 8 := Int.emod_lt_of_pos _ (by decide)
  generalize n % 8 = y8 at *
  have ea := i64_and4095 n
  have e1 : 0 ≤ n % 4096 := Int.emod_nonneg _ (by decide)
  have e2 : n % 4096 < 4096 := Int.emod_lt_of_pos _ (by decide)
  have e3 : (8 : Int) ≤ (d.sure.length : Int) := by omega
  have e4 : (kind : Int) % 13 = 11 := by omega
  have e5 : (kind : Int) ≤ 255 := by omega
  generalize d.sure.length = S at *
  generalize n % 4096 = y at *
  clear h
  go_enter Try.func11, Try.ntmps11
  go_wp2
  generalize w.alloc _ = w1 at *
  go_quiet (fail)
  replace b0 : (w1.drewN nq).cell? ⟨w.heap.size, 0, none⟩ = _ := b0
  replace b2 : (w1.drewN nq).cell? ⟨w.heap.size, 2, none⟩ = _ := b2
  have M1 := Lib.hid (M0.out.below (below_drewN (Below.refl _ _) nq))
  clear M0 c0 ea
  generalize w1.drewN nq = w2 at *
  have ez := i64_and7 n
  have z1 : 0 ≤ n % 8 := Int.emod_nonneg _ (by decide)
  have z2 : n % 8 < 8 := Int.emod_lt_of_pos _ (by decide)
  generalize n % 8 = y8 at *
  go_upto_region 16 with (fail)
  have md := M1.out.drew
  have m0 := md
  obtain ⟨SS, hSS⟩ : ∃ SS : World → Prop, SS = fun w' => rowC w' w.heap.size (actC kind c n s v) 34 := ⟨_, rfl⟩
  have SO : ∀ w', rowC w' w.heap.size (actC kind c n s v) 34 → SS w' := fun w' m => by rw [hSS]; exact m
  have OS : ∀ w', SS w' → w'.cell? ⟨w.heap.size, 1, none⟩ = some (byteV c) ∧ w'.cell? ⟨w.heap.size, 2, none⟩ = some (.int .i64 n) ∧ w'.cell? ⟨w.heap.size, 3, none⟩ = some (.string s) ∧ w'.cell? ⟨w.heap.size, 4, none⟩ = some v := fun w' h => by
    rw [hSS] at h
    exact ⟨rowC_cell h 1, rowC_cell h 2, rowC_cell h 3, rowC_cell h 4⟩
  clear hSS
  clear b0 b2 M1
  refine wp_region_noPanic ?_
  refine wp_region_held_drew (S := SS) (by kernel_rfl) (SO _ md.box) (fun hHeld => ?_)
  refine wpAnyH_take (i := 0) (oi := { dst := some 74, op := Op.move (Operand.tmp 1), type := 25, pos := "law.go:82", after := #[], guard := none }) (v := ?_) rfl (by kernel_rfl) (by kernel_rfl) (by kernel_rfl) (fun _ _ _ h => h) (Or.inl ⟨by rfl, ?_⟩) (by assumption) ?_
  rotate_left
  · intro w hSw
    skip
    clear hSw
    go_simp
    try with_reducible rfl
  try simp only [Act.put, List.setIfInBounds_toArray, List.set_cons_zero, List.set_cons_succ]
  refine wpAnyH_take (i := 1) (oi := { dst := some 75, op := Op.move (Operand.tmp 8), type := 3, pos := "law.go:82", after := #[], guard := none }) (v := ?_) rfl (by kernel_rfl) (by kernel_rfl) (by kernel_rfl) (fun _ _ _ h => h) (Or.inl ⟨by rfl, ?_⟩) (by assumption) ?_
  rotate_left
  · intro w hSw
    skip
    clear hSw
    go_simp
    try with_reducible rfl
  try simp only [Act.put, List.setIfInBounds_toArray, List.set_cons_zero, List.set_cons_succ]
  refine wpAnyH_take (i := 2) (oi := { dst := some 76, op := Op.fieldAddr 34 (Operand.tmp 3) 4, type := 0, pos := "law.go:82", after := #[], guard := none }) (v := ?_) rfl (by kernel_rfl) (by kernel_rfl) (by kernel_rfl) (fun _ _ _ h => h) (Or.inl ⟨by rfl, ?_⟩) (by assumption) ?_
  rotate_left
  · intro w hSw
    skip
    clear hSw
    go_simp
    try with_reducible rfl
  try simp only [Act.put, List.setIfInBounds_toArray, List.set_cons_zero, List.set_cons_succ]
  refine wpAnyH_take (i := 5) (oi := { dst := some 79, op := Op.move (Operand.tmp 2), type := 29, pos := "law.go:82", after := #[], guard := none }) (v := ?_) rfl (by kernel_rfl) (by kernel_rfl) (by kernel_rfl) (fun _ _ _ h => h) (Or.inl ⟨by rfl, ?_⟩) (by assumption) ?_
  rotate_left
  · intro w hSw
    skip
    clear hSw
    go_simp
    try with_reducible rfl
  try simp only [Act.put, List.setIfInBounds_toArray, List.set_cons_zero, List.set_cons_succ]
  refine wpAnyH_take (i := 6) (oi := { dst := some 80, op := Op.move (Operand.tmp 8), type := 3, pos := "law.go:82", after := #[], guard := none }) (v := ?_) rfl (by kernel_rfl) (by kernel_rfl) (by kernel_rfl) (fun _ _ _ h => h) (Or.inl ⟨by rfl, ?_⟩) (by assumption) ?_
  rotate_left
  · intro w hSw
    skip
    clear hSw
    go_simp
    try with_reducible rfl
  try simp only [Act.put, List.setIfInBounds_toArray, List.set_cons_zero, List.set_cons_succ]
  refine wpAnyH_take (i := 7) (oi := { dst := some 81, op := Op.fieldAddr 34 (Operand.tmp 3) 4, type := 0, pos := "law.go:82", after := #[], guard := none }) (v := ?_) rfl (by kernel_rfl) (by kernel_rfl) (by kernel_rfl) (fun _ _ _ h => h) (Or.inl ⟨by rfl, ?_⟩) (by assumption) ?_
  rotate_left
  · intro w hSw
    skip
    clear hSw
    go_simp
    try with_reducible rfl
  try simp only [Act.put, List.setIfInBounds_toArray, List.set_cons_zero, List.set_cons_succ]
  refine wpAnyH_take (i := 3) (oi := { dst := some 77, op := Op.load 32 (Operand.tmp 76), type := 32, pos := "law.go:82", after := #[{ on := 2, ground := Ground.data }], guard := none }) (v := ?_) rfl (by kernel_rfl) (by kernel_rfl) (by kernel_rfl) (fun _ _ _ h => h) (Or.inl ⟨by rfl, ?_⟩) (by assumption) ?_
  rotate_left
  · intro w hSw
    have hSw := OS _ hSw
    go_simp
    try with_reducible rfl
  try simp only [Act.put, List.setIfInBounds_toArray, List.set_cons_zero, List.set_cons_succ]
  refine wpAnyH_take (i := 8) (oi := { dst := some 82, op := Op.load 32 (Operand.tmp 81), type := 32, pos := "law.go:82", after := #[{ on := 7, ground := Ground.data }], guard := none }) (v := ?_) rfl (by kernel_rfl) (by kernel_rfl) (by kernel_rfl) (fun _ _ _ h => h) (Or.inl ⟨by rfl, ?_⟩) (by assumption) ?_
  rotate_left
  · intro w hSw
    have hSw := OS _ hSw
    go_simp
    try with_reducible rfl
  try simp only [Act.put, List.setIfInBounds_toArray, List.set_cons_zero, List.set_cons_succ]
  refine wpAnyH_ready (rs := [4]) (by kernel_rfl) (by simp) ?_
  refine AllReadyH.cons (o := { dst := some 78, op := Op.call { callee := Callee.value (Operand.func 18), args := #[Operand.tmp 74, Operand.tmp 75, Operand.tmp 77], argTypes := #[25, 3, 32] }, type := 26, pos := "law.go:82", after := #[{ on := 0, ground := Ground.data }, { on := 1, ground := Ground.data }, { on := 3, ground := Ground.data }], guard := none }) rfl (fun K hK => ?_) AllReadyH.nil
  go_simp
  refine (C1.out _ (by assumption)).mono ?_
  rintro e w4' ⟨rfl, m4'⟩
  refine hK.out _ _ (SO _ m4'.box) (fun hHeld => ?_)
  clear hK K
  try simp only [Act.put, List.setIfInBounds_toArray, List.set_cons_zero, List.set_cons_succ]
  refine wpAnyH_ready (rs := [9]) (by kernel_rfl) (by simp) ?_
  refine AllReadyH.cons (o := { dst := some 83, op := Op.call { callee := Callee.value (Operand.func 30), args := #[Operand.tmp 79, Operand.tmp 80, Operand.tmp 82], argTypes := #[29, 3, 32] }, type := 26, pos := "law.go:82", after := #[{ on := 5, ground := Ground.data }, { on := 6, ground := Ground.data }, { on := 8, ground := Ground.data }, { on := 4, ground := Ground.chain }], guard := none }) rfl (fun K hK => ?_) AllReadyH.nil
  go_simp
  refine (C2.out _ (by assumption)).mono ?_
  rintro e w9' ⟨rfl, m9'⟩
  refine hK.out _ _ (SO _ m9'.box) (fun hHeld => ?_)
  clear hK K
  try simp only [Act.put, List.setIfInBounds_toArray, List.set_cons_zero, List.set_cons_succ]
  refine wpAnyH_take (i := 10) (oi := { dst := some 84, op := Op.binOp BinOp.eql 26 (Operand.tmp 78) (Operand.tmp 83) 26, type := 4, pos := "law.go:82", after := #[{ on := 4, ground := Ground.data }, { on := 9, ground := Ground.data }], guard := none }) (v := ?_) rfl (by kernel_rfl) (by kernel_rfl) (by kernel_rfl) (fun _ _ _ h => h) (Or.inl ⟨by rfl, ?_⟩) (by assumption) ?_
  rotate_left
  · intro w hSw
    skip
    clear hSw
    go_simp
    try with_reducible rfl
  try simp only [Act.put, List.setIfInBounds_toArray, List.set_cons_zero, List.set_cons_succ]
  refine wpAnyH_take (i := 11) (oi := { dst := some 6, op := Op.assign (Operand.tmp 84), type := 4, pos := "law.go:82", after := #[{ on := 10, ground := Ground.data }, { on := 9, ground := Ground.chain }, { on := 0, ground := Ground.phase }, { on := 1, ground := Ground.phase }, { on := 2, ground := Ground.phase }, { on := 3, ground := Ground.phase }, { on := 4, ground := Ground.phase }, { on := 5, ground := Ground.phase }, { on := 6, ground := Ground.phase }, { on := 7, ground := Ground.phase }, { on := 8, ground := Ground.phase }, { on := 9, ground := Ground.phase }, { on := 10, ground := Ground.phase }], guard := none }) (v := ?_) rfl (by kernel_rfl) (by kernel_rfl) (by kernel_rfl) (fun _ _ _ h => h) (Or.inl ⟨by rfl, ?_⟩) (by assumption) ?_
  rotate_left
  · intro w hSw
    skip
    clear hSw
    go_simp
    try with_reducible rfl
  try simp only [Act.put, List.setIfInBounds_toArray, List.set_cons_zero, List.set_cons_succ]
  refine wpAnyH_done (by kernel_rfl) ?_ _
  refine NoPanic.normal ?_
  go_wp2
  go_ret
  exact m9'.post

set_option maxRecDepth 100000 in
set_option maxHeartbeats 2000000 in
theorem do_11b {I : Impl} {w : World} {q p : Nat} {vS vL vK : Value} {o : Nat → Prop} {d : RD} {v : Value} {ks : List Bool} (h : DoArgs I w q p vS vL vK o d v ks) {kind : Nat} (hk : kind < 256) (hk7 : kind % 13 = 11) (c : UInt8) (n : Int) (s : ByteArray) (hn : ¬ 0 < n) :
    Calls Try.prog 11 #[.agg (actC kind c n s v), .pointer (some ⟨q, 0, none⟩), .pointer (some ⟨p, 0, none⟩)] w (DoPost I w q p vS vL vK o (actD d kind c n s ks)) := by
  have hd : actD d kind c n s ks = (d.fail (n) ks).1 := by unfold actD; rw [if_neg (by omega), if_neg (by omega), if_neg (by omega), if_neg (by omega), if_pos hk7, if_neg hn]
  rw [hd]
  clear hd
  obtain ⟨gS, capS, rfl⟩ := owns_some h.r.s (by have := h.ok.lo; omega)
  have M0 := Lib.hid (h.start (actC kind c n s v))
  have c0 : (w.alloc (.cells (actC kind c n s v) 34)).cell? ⟨p, 0, none⟩ = some (.slice (some ⟨gS, 0, none⟩) d.sure.length capS) := (h.r.below ((Below.refl _ _).alloc (Nat.le_refl _) _)).cell.1
  have b0 : (w.alloc (.cells (actC kind c n s v) 34)).cell? ⟨w.heap.size, 0, none⟩ = some (.int .u8 (kind : Int)) := rowC_cell M0.out.box 0
  have b2 : (w.alloc (.cells (actC kind c n s v) 34)).cell? ⟨w.heap.size, 2, none⟩ = some (.int .i64 n) := rowC_cell M0.out.box 2
  have lo := h.ok.lo
  have hi := h.ok.hi
  have C1 := Lib.hid (fun w' (m : DoM I w w' (fun k => o k ∨ refOwn p (.slice (some ⟨gS, 0, none⟩) d.sure.length capS) vL vK k) q p d d w.heap.size (actC kind c n s v) v ks) => do_fail m h.ok h.few h.l (n) (by omega))
  have C2 := Lib.hid (fun w' (m : DoM I w w' (fun k => o k ∨ refOwn p (.slice (some ⟨gS, 0, none⟩) d.sure.length capS) vL vK k) q p (d.fail (n) ks).1 d w.heap.size (actC kind c n s v) v ks) => do_rfail m h.l (n))
  have ea := i64_and4095 n
  have e1 : 0 ≤ n % 4096 := Int.emod_nonneg _ (by decide)
  have e2 : n % 4096 < 4096 := Int.emod_lt_of_pos _ (by decide)
  have e3 : (8 : Int) ≤ (d.sure.length : Int) := by omega
  have e4 : (kind : Int) % 13 = 11 := by omega
  have e5 : (kind : Int) ≤ 255 := by omega
  generalize d.sure.length = S at *
  generalize n % 4096 = y at *
  clear h
  go_enter Try.func11, Try.ntmps11
  go_wp2
  generalize w.alloc _ = w1 at *
  go_quiet (fail)
  replace b0 : (w1.drewN nq).cell? ⟨w.heap.size, 0, none⟩ = _ := b0
  replace b2 : (w1.drewN nq).cell? ⟨w.heap.size, 2, none⟩ = _ := b2
  have M1 := Lib.hid (M0.out.below (below_drewN (Below.refl _ _) nq))
  clear M0 c0 ea
  generalize w1.drewN nq = w2 at *
  have ez := i64_and7 n
  have z1 : 0 ≤ n % 8 := Int.emod_nonneg _ (by decide)
  have z2 : n % 8 < 8 := Int.emod_lt_of_pos _ (by decide)
  generalize n % 8 = y8 at *
  go_upto_region 16 with (fail)
  have md := M1.out.drew
  have m0 := md
  obtain ⟨SS, hSS⟩ : ∃ SS : World → Prop, SS = fun w' => rowC w' w.heap.size (actC kind c n s v) 34 := ⟨_, rfl⟩
  have SO : ∀ w', rowC w' w.heap.size (actC kind c n s v) 34 → SS w' := fun w' m => by rw [hSS]; exact m
  have OS : ∀ w', SS w' → w'.cell? ⟨w.heap.size, 1, none⟩ = some (byteV c) ∧ w'.cell? ⟨w.heap.size, 2, none⟩ = some (.int .i64 n) ∧ w'.cell? ⟨w.heap.size, 3, none⟩ = some (.string s) ∧ w'.cell? ⟨w.heap.size, 4, none⟩ = some v := fun w' h => by
    rw [hSS] at h
    exact ⟨rowC_cell h 1, rowC_cell h 2, rowC_cell h 3, rowC_cell h 4⟩
  clear hSS
  clear b0 b2 M1
  refine wp_region_noPanic ?_
  refine wp_region_held_drew (S := SS) (by kernel_rfl) (SO _ md.box) (fun hHeld => ?_)
  refine wpAnyH_take (i := 0) (oi := { dst := some 74, op := Op.move (Operand.tmp 1), type := 25, pos := "law.go:82", after := #[], guard := none }) (v := ?_) rfl (by kernel_rfl) (by kernel_rfl) (by kernel_rfl) (fun _ _ _ h => h) (Or.inl ⟨by rfl, ?_⟩) (by assumption) ?_
  rotate_left
  · intro w hSw
    skip
    clear hSw
    go_simp
    try with_reducible rfl
  try simp only [Act.put, List.setIfInBounds_toArray, List.set_cons_zero, List.set_cons_succ]
  refine wpAnyH_take (i := 1) (oi := { dst := some 75, op := Op.move (Operand.tmp 8), type := 3, pos := "law.go:82", after := #[], guard := none }) (v := ?_) rfl (by kernel_rfl) (by kernel_rfl) (by kernel_rfl) (fun _ _ _ h => h) (Or.inl ⟨by rfl, ?_⟩) (by assumption) ?_
  rotate_left
  · intro w hSw
    skip
    clear hSw
    go_simp
    try with_reducible rfl
  try simp only [Act.put, List.setIfInBounds_toArray, List.set_cons_zero, List.set_cons_succ]
  refine wpAnyH_take (i := 2) (oi := { dst := some 76, op := Op.fieldAddr 34 (Operand.tmp 3) 4, type := 0, pos := "law.go:82", after := #[], guard := none }) (v := ?_) rfl (by kernel_rfl) (by kernel_rfl) (by kernel_rfl) (fun _ _ _ h => h) (Or.inl ⟨by rfl, ?_⟩) (by assumption) ?_
  rotate_left
  · intro w hSw
    skip
    clear hSw
    go_simp
    try with_reducible rfl
  try simp only [Act.put, List.setIfInBounds_toArray, List.set_cons_zero, List.set_cons_succ]
  refine wpAnyH_take (i := 5) (oi := { dst := some 79, op := Op.move (Operand.tmp 2), type := 29, pos := "law.go:82", after := #[], guard := none }) (v := ?_) rfl (by kernel_rfl) (by kernel_rfl) (by kernel_rfl) (fun _ _ _ h => h) (Or.inl ⟨by rfl, ?_⟩) (by assumption) ?_
  rotate_left
  · intro w hSw
    skip
    clear hSw
    go_simp
    try with_reducible rfl
  try simp only [Act.put, List.setIfInBounds_toArray, List.set_cons_zero, List.set_cons_succ]
  refine wpAnyH_take (i := 6) (oi := { dst := some 80, op := Op.move (Operand.tmp 8), type := 3, pos := "law.go:82", after := #[], guard := none }) (v := ?_) rfl (by kernel_rfl) (by kernel_rfl) (by kernel_rfl) (fun _ _ _ h => h) (Or.inl ⟨by rfl, ?_⟩) (by assumption) ?_
  rotate_left
  · intro w hSw
    skip
    clear hSw
    go_simp
    try with_reducible rfl
  try simp only [Act.put, List.setIfInBounds_toArray, List.set_cons_zero, List.set_cons_succ]
  refine wpAnyH_take (i := 7) (oi := { dst := some 81, op := Op.fieldAddr 34 (Operand.tmp 3) 4, type := 0, pos := "law.go:82", after := #[], guard := none }) (v := ?_) rfl (by kernel_rfl) (by kernel_rfl) (by kernel_rfl) (fun _ _ _ h => h) (Or.inl ⟨by rfl, ?_⟩) (by assumption) ?_
  rotate_left
  · intro w hSw
    skip
    clear hSw
    go_simp
    try with_reducible rfl
  try simp only [Act.put, List.setIfInBounds_toArray, List.set_cons_zero, List.set_cons_succ]
  refine wpAnyH_take (i := 3) (oi := { dst := some 77, op := Op.load 32 (Operand.tmp 76), type := 32, pos := "law.go:82", after := #[{ on := 2, ground := Ground.data }], guard := none }) (v := ?_) rfl (by kernel_rfl) (by kernel_rfl) (by kernel_rfl) (fun _ _ _ h => h) (Or.inl ⟨by rfl, ?_⟩) (by assumption) ?_
  rotate_left
  · intro w hSw
    have hSw := OS _ hSw
    go_simp
    try with_reducible rfl
  try simp only [Act.put, List.setIfInBounds_toArray, List.set_cons_zero, List.set_cons_succ]
  refine wpAnyH_take (i := 8) (oi := { dst := some 82, op := Op.load 32 (Operand.tmp 81), type := 32, pos := "law.go:82", after := #[{ on := 7, ground := Ground.data }], guard := none }) (v := ?_) rfl (by kernel_rfl) (by kernel_rfl) (by kernel_rfl) (fun _ _ _ h => h) (Or.inl ⟨by rfl, ?_⟩) (by assumption) ?_
  rotate_left
  · intro w hSw
    have hSw := OS _ hSw
    go_simp
    try with_reducible rfl
  try simp only [Act.put, List.setIfInBounds_toArray, List.set_cons_zero, List.set_cons_succ]
  refine wpAnyH_ready (rs := [4]) (by kernel_rfl) (by simp) ?_
  refine AllReadyH.cons (o := { dst := some 78, op := Op.call { callee := Callee.value (Operand.func 18), args := #[Operand.tmp 74, Operand.tmp 75, Operand.tmp 77], argTypes := #[25, 3, 32] }, type := 26, pos := "law.go:82", after := #[{ on := 0, ground := Ground.data }, { on := 1, ground := Ground.data }, { on := 3, ground := Ground.data }], guard := none }) rfl (fun K hK => ?_) AllReadyH.nil
  go_simp
  refine (C1.out _ (by assumption)).mono ?_
  rintro e w4' ⟨rfl, m4'⟩
  refine hK.out _ _ (SO _ m4'.box) (fun hHeld => ?_)
  clear hK K
  try simp only [Act.put, List.setIfInBounds_toArray, List.set_cons_zero, List.set_cons_succ]
  refine wpAnyH_ready (rs := [9]) (by kernel_rfl) (by simp) ?_
  refine AllReadyH.cons (o := { dst := some 83, op := Op.call { callee := Callee.value (Operand.func 30), args := #[Operand.tmp 79, Operand.tmp 80, Operand.tmp 82], argTypes := #[29, 3, 32] }, type := 26, pos := "law.go:82", after := #[{ on := 5, ground := Ground.data }, { on := 6, ground := Ground.data }, { on := 8, ground := Ground.data }, { on := 4, ground := Ground.chain }], guard := none }) rfl (fun K hK => ?_) AllReadyH.nil
  go_simp
  refine (C2.out _ (by assumption)).mono ?_
  rintro e w9' ⟨rfl, m9'⟩
  refine hK.out _ _ (SO _ m9'.box) (fun hHeld => ?_)
  clear hK K
  try simp only [Act.put, List.setIfInBounds_toArray, List.set_cons_zero, List.set_cons_succ]
  refine wpAnyH_take (i := 10) (oi := { dst := some 84, op := Op.binOp BinOp.eql 26 (Operand.tmp 78) (Operand.tmp 83) 26, type := 4, pos := "law.go:82", after := #[{ on := 4, ground := Ground.data }, { on := 9, ground := Ground.data }], guard := none }) (v := ?_) rfl (by kernel_rfl) (by kernel_rfl) (by kernel_rfl) (fun _ _ _ h => h) (Or.inl ⟨by rfl, ?_⟩) (by assumption) ?_
  rotate_left
  · intro w hSw
    skip
    clear hSw
    go_simp
    try with_reducible rfl
  try simp only [Act.put, List.setIfInBounds_toArray, List.set_cons_zero, List.set_cons_succ]
  refine wpAnyH_take (i := 11) (oi := { dst := some 6, op := Op.assign (Operand.tmp 84), type := 4, pos := "law.go:82", after := #[{ on := 10, ground := Ground.data }, { on := 9, ground := Ground.chain }, { on := 0, ground := Ground.phase }, { on := 1, ground := Ground.phase }, { on := 2, ground := Ground.phase }, { on := 3, ground := Ground.phase }, { on := 4, ground := Ground.phase }, { on := 5, ground := Ground.phase }, { on := 6, ground := Ground.phase }, { on := 7, ground := Ground.phase }, { on := 8, ground := Ground.phase }, { on := 9, ground := Ground.phase }, { on := 10, ground := Ground.phase }], guard := none }) (v := ?_) rfl (by kernel_rfl) (by kernel_rfl) (by kernel_rfl) (fun _ _ _ h => h) (Or.inl ⟨by rfl, ?_⟩) (by assumption) ?_
  rotate_left
  · intro w hSw
    skip
    clear hSw
    go_simp
    try with_reducible rfl
  try simp only [Act.put, List.setIfInBounds_toArray, List.set_cons_zero, List.set_cons_succ]
  refine wpAnyH_done (by kernel_rfl) ?_ _
  refine NoPanic.normal ?_
  go_wp2
  go_ret
  exact m9'.post

set_option maxRecDepth 100000 in
set_option maxHeartbeats 2000000 in
theorem do_else {I : Impl} {w : World} {q p : Nat} {vS vL vK : Value} {o : Nat → Prop} {d : RD} {v : Value} {ks : List Bool} (h : DoArgs I w q p vS vL vK o d v ks) {kind : Nat} (hk : kind < 256) (hk7 : kind % 13 < 6) (c : UInt8) (n : Int) (s : ByteArray) :
    Calls Try.prog 11 #[.agg (actC kind c n s v), .pointer (some ⟨q, 0, none⟩), .pointer (some ⟨p, 0, none⟩)] w (DoPost I w q p vS vL vK o (actD d kind c n s ks)) := by
  have hd : actD d kind c n s ks = (d.write ((n % 4096) % (d.sure.length : Int)) (secB c)).1 := by unfold actD; rw [if_neg (by omega), if_neg (by omega), if_neg (by omega), if_neg (by omega), if_neg (by omega), if_neg (by omega)]
  rw [hd]
  clear hd
  obtain ⟨gS, capS, rfl⟩ := owns_some h.r.s (by have := h.ok.lo; omega)
  have M0 := Lib.hid (h.start (actC kind c n s v))
  have c0 : (w.alloc (.cells (actC kind c n s v) 34)).cell? ⟨p, 0, none⟩ = some (.slice (some ⟨gS, 0, none⟩) d.sure.length capS) := (h.r.below ((Below.refl _ _).alloc (Nat.le_refl _) _)).cell.1
  have b0 : (w.alloc (.cells (actC kind c n s v) 34)).cell? ⟨w.heap.size, 0, none⟩ = some (.int .u8 (kind : Int)) := rowC_cell M0.out.box 0
  have b2 : (w.alloc (.cells (actC kind c n s v) 34)).cell? ⟨w.heap.size, 2, none⟩ = some (.int .i64 n) := rowC_cell M0.out.box 2
  have lo := h.ok.lo
  have hi := h.ok.hi
  have C1 := Lib.hid (fun w' (m : DoM I w w' (fun k => o k ∨ refOwn p (.slice (some ⟨gS, 0, none⟩) d.sure.length capS) vL vK k) q p d d w.heap.size (actC kind c n s v) v ks) => do_write m h.ok h.few ((n % 4096) % (d.sure.length : Int)) (secB c) (by rw [secB_size]; decide))
  have C2 := Lib.hid (fun w' (m : DoM I w w' (fun k => o k ∨ refOwn p (.slice (some ⟨gS, 0, none⟩) d.sure.length capS) vL vK k) q p (d.write ((n % 4096) % (d.sure.length : Int)) (secB c)).1 d w.heap.size (actC kind c n s v) v ks) => do_rwrite m h.ok h.few ((n % 4096) % (d.sure.length : Int)) (secB c))
  have CS1 := Lib.hid (fun w' (m : DoM I w w' (fun k => o k ∨ refOwn p (.slice (some ⟨gS, 0, none⟩) d.sure.length capS) vL vK k) q p d d w.heap.size (actC kind c n s v) v ks) => do_sector m c)
  have CS2 := Lib.hid (fun w' (m : DoM I w w' (fun k => o k ∨ refOwn p (.slice (some ⟨gS, 0, none⟩) d.sure.length capS) vL vK k) q p (d.write ((n % 4096) % (d.sure.length : Int)) (secB c)).1 d w.heap.size (actC kind c n s v) v ks) => do_sector m c)
  have ea := i64_and4095 n
  have e1 : 0 ≤ n % 4096 := Int.emod_nonneg _ (by decide)
  have e2 : n % 4096 < 4096 := Int.emod_lt_of_pos _ (by decide)
  have e3 : (8 : Int) ≤ (d.sure.length : Int) := by omega
  obtain ⟨x, hx⟩ : ∃ x : Int, x = (kind : Int) % 13 := ⟨_, rfl⟩
  have x0 : 0 ≤ x := by omega
  have x1 : x < 6 := by omega
  have ex : (kind : Int) % 13 = x := hx.symm
  clear hx
  have e5 : (kind : Int) ≤ 255 := by omega
  generalize d.sure.length = S at *
  generalize n % 4096 = y at *
  clear h
  go_enter Try.func11, Try.ntmps11
  go_wp2
  generalize w.alloc _ = w1 at *
  go_quiet (fail)
  replace b0 : (w1.drewN nq).cell? ⟨w.heap.size, 0, none⟩ = _ := b0
  replace b2 : (w1.drewN nq).cell? ⟨w.heap.size, 2, none⟩ = _ := b2
  have M1 := Lib.hid (M0.out.below (below_drewN (Below.refl _ _) nq))
  clear M0 c0 ea
  generalize w1.drewN nq = w2 at *
  go_wp2
  have md := M1.out.drew
  have m0 := md
  obtain ⟨SS, hSS⟩ : ∃ SS : World → Prop, SS = fun w' => rowC w' w.heap.size (actC kind c n s v) 34 := ⟨_, rfl⟩
  have SO : ∀ w', rowC w' w.heap.size (actC kind c n s v) 34 → SS w' := fun w' m => by rw [hSS]; exact m
  have OS : ∀ w', SS w' → w'.cell? ⟨w.heap.size, 1, none⟩ = some (byteV c) ∧ w'.cell? ⟨w.heap.size, 2, none⟩ = some (.int .i64 n) ∧ w'.cell? ⟨w.heap.size, 3, none⟩ = some (.string s) ∧ w'.cell? ⟨w.heap.size, 4, none⟩ = some v := fun w' h => by
    rw [hSS] at h
    exact ⟨rowC_cell h 1, rowC_cell h 2, rowC_cell h 3, rowC_cell h 4⟩
  clear hSS
  clear b0 b2 M1
  refine wp_region_noPanic ?_
  refine wp_region_held_drew (S := SS) (by kernel_rfl) (SO _ md.box) (fun hHeld => ?_)
  refine wpAnyH_take (i := 0) (oi := { dst := some 109, op := Op.move (Operand.tmp 1), type := 25, pos := "law.go:88", after := #[], guard := none }) (v := ?_) rfl (by kernel_rfl) (by kernel_rfl) (by kernel_rfl) (fun _ _ _ h => h) (Or.inl ⟨by rfl, ?_⟩) (by assumption) ?_
  rotate_left
  · intro w hSw
    skip
    clear hSw
    go_simp
    try with_reducible rfl
  try simp only [Act.put, List.setIfInBounds_toArray, List.set_cons_zero, List.set_cons_succ]
  refine wpAnyH_take (i := 1) (oi := { dst := some 110, op := Op.move (Operand.tmp 7), type := 3, pos := "law.go:88", after := #[], guard := none }) (v := ?_) rfl (by kernel_rfl) (by kernel_rfl) (by kernel_rfl) (fun _ _ _ h => h) (Or.inl ⟨by rfl, ?_⟩) (by assumption) ?_
  rotate_left
  · intro w hSw
    skip
    clear hSw
    go_simp
    try with_reducible rfl
  try simp only [Act.put, List.setIfInBounds_toArray, List.set_cons_zero, List.set_cons_succ]
  refine wpAnyH_take (i := 2) (oi := { dst := some 111, op := Op.fieldAddr 34 (Operand.tmp 3) 1, type := 0, pos := "law.go:88", after := #[], guard := none }) (v := ?_) rfl (by kernel_rfl) (by kernel_rfl) (by kernel_rfl) (fun _ _ _ h => h) (Or.inl ⟨by rfl, ?_⟩) (by assumption) ?_
  rotate_left
  · intro w hSw
    skip
    clear hSw
    go_simp
    try with_reducible rfl
  try simp only [Act.put, List.setIfInBounds_toArray, List.set_cons_zero, List.set_cons_succ]
  refine wpAnyH_take (i := 6) (oi := { dst := some 115, op := Op.move (Operand.tmp 2), type := 29, pos := "law.go:88", after := #[], guard := none }) (v := ?_) rfl (by kernel_rfl) (by kernel_rfl) (by kernel_rfl) (fun _ _ _ h => h) (Or.inl ⟨by rfl, ?_⟩) (by assumption) ?_
  rotate_left
  · intro w hSw
    skip
    clear hSw
    go_simp
    try with_reducible rfl
  try simp only [Act.put, List.setIfInBounds_toArray, List.set_cons_zero, List.set_cons_succ]
  refine wpAnyH_take (i := 7) (oi := { dst := some 116, op := Op.move (Operand.tmp 7), type := 3, pos := "law.go:88", after := #[], guard := none }) (v := ?_) rfl (by kernel_rfl) (by kernel_rfl) (by kernel_rfl) (fun _ _ _ h => h) (Or.inl ⟨by rfl, ?_⟩) (by assumption) ?_
  rotate_left
  · intro w hSw
    skip
    clear hSw
    go_simp
    try with_reducible rfl
  try simp only [Act.put, List.setIfInBounds_toArray, List.set_cons_zero, List.set_cons_succ]
  refine wpAnyH_take (i := 8) (oi := { dst := some 117, op := Op.fieldAddr 34 (Operand.tmp 3) 1, type := 0, pos := "law.go:88", after := #[], guard := none }) (v := ?_) rfl (by kernel_rfl) (by kernel_rfl) (by kernel_rfl) (fun _ _ _ h => h) (Or.inl ⟨by rfl, ?_⟩) (by assumption) ?_
  rotate_left
  · intro w hSw
    skip
    clear hSw
    go_simp
    try with_reducible rfl
  try simp only [Act.put, List.setIfInBounds_toArray, List.set_cons_zero, List.set_cons_succ]
  refine wpAnyH_take (i := 3) (oi := { dst := some 112, op := Op.load 5 (Operand.tmp 111), type := 5, pos := "law.go:88", after := #[{ on := 2, ground := Ground.data }], guard := none }) (v := ?_) rfl (by kernel_rfl) (by kernel_rfl) (by kernel_rfl) (fun _ _ _ h => h) (Or.inl ⟨by rfl, ?_⟩) (by assumption) ?_
  rotate_left
  · intro w hSw
    have hSw := OS _ hSw
    go_simp
    try with_reducible rfl
  try simp only [Act.put, List.setIfInBounds_toArray, List.set_cons_zero, List.set_cons_succ]
  refine wpAnyH_take (i := 9) (oi := { dst := some 118, op := Op.load 5 (Operand.tmp 117), type := 5, pos := "law.go:88", after := #[{ on := 8, ground := Ground.data }], guard := none }) (v := ?_) rfl (by kernel_rfl) (by kernel_rfl) (by kernel_rfl) (fun _ _ _ h => h) (Or.inl ⟨by rfl, ?_⟩) (by assumption) ?_
  rotate_left
  · intro w hSw
    have hSw := OS _ hSw
    go_simp
    try with_reducible rfl
  try simp only [Act.put, List.setIfInBounds_toArray, List.set_cons_zero, List.set_cons_succ]
  refine wpAnyH_ready (rs := [4]) (by kernel_rfl) (by simp) ?_
  refine AllReadyH.cons (o := { dst := some 113, op := Op.call { callee := Callee.value (Operand.func 23), args := #[Operand.tmp 112], argTypes := #[5] }, type := 9, pos := "law.go:88", after := #[{ on := 3, ground := Ground.data }], guard := none }) rfl (fun K hK => ?_) AllReadyH.nil
  go_simp
  refine (CS1.out _ (by assumption)).mono ?_
  rintro e w4' ⟨rfl, m4'⟩
  refine hK.out _ _ (SO _ m4'.box) (fun hHeld => ?_)
  clear hK K
  try simp only [Act.put, List.setIfInBounds_toArray, List.set_cons_zero, List.set_cons_succ]
  refine wpAnyH_ready (rs := [5]) (by kernel_rfl) (by simp) ?_
  refine AllReadyH.cons (o := { dst := some 114, op := Op.call { callee := Callee.value (Operand.func 14), args := #[Operand.tmp 109, Operand.tmp 110, Operand.tmp 113], argTypes := #[25, 3, 9] }, type := 26, pos := "law.go:88", after := #[{ on := 0, ground := Ground.data }, { on := 1, ground := Ground.data }, { on := 4, ground := Ground.data }, { on := 4, ground := Ground.chain }], guard := none }) rfl (fun K hK => ?_) AllReadyH.nil
  go_simp
  refine (C1.out _ (by assumption)).mono ?_
  rintro e w5' ⟨rfl, m5'⟩
  refine hK.out _ _ (SO _ m5'.box) (fun hHeld => ?_)
  clear hK K
  try simp only [Act.put, List.setIfInBounds_toArray, List.set_cons_zero, List.set_cons_succ]
  refine wpAnyH_ready (rs := [10]) (by kernel_rfl) (by simp) ?_
  refine AllReadyH.cons (o := { dst := some 119, op := Op.call { callee := Callee.value (Operand.func 23), args := #[Operand.tmp 118], argTypes := #[5] }, type := 9, pos := "law.go:88", after := #[{ on := 9, ground := Ground.data }, { on := 5, ground := Ground.chain }], guard := none }) rfl (fun K hK => ?_) AllReadyH.nil
  go_simp
  refine (CS2.out _ (by assumption)).mono ?_
  rintro e w10' ⟨rfl, m10'⟩
  refine hK.out _ _ (SO _ m10'.box) (fun hHeld => ?_)
  clear hK K
  try simp only [Act.put, List.setIfInBounds_toArray, List.set_cons_zero, List.set_cons_succ]
  refine wpAnyH_ready (rs := [11]) (by kernel_rfl) (by simp) ?_
  refine AllReadyH.cons (o := { dst := some 120, op := Op.call { callee := Callee.value (Operand.func 26), args := #[Operand.tmp 115, Operand.tmp 116, Operand.tmp 119], argTypes := #[29, 3, 9] }, type := 26, pos := "law.go:88", after := #[{ on := 6, ground := Ground.data }, { on := 7, ground := Ground.data }, { on := 10, ground := Ground.data }, { on := 10, ground := Ground.chain }], guard := none }) rfl (fun K hK => ?_) AllReadyH.nil
  go_simp
  refine (C2.out _ (by assumption)).mono ?_
  rintro e w11' ⟨rfl, m11'⟩
  refine hK.out _ _ (SO _ m11'.box) (fun hHeld => ?_)
  clear hK K
  try simp only [Act.put, List.setIfInBounds_toArray, List.set_cons_zero, List.set_cons_succ]
  refine wpAnyH_take (i := 12) (oi := { dst := some 121, op := Op.binOp BinOp.eql 26 (Operand.tmp 114) (Operand.tmp 120) 26, type := 4, pos := "law.go:88", after := #[{ on := 5, ground := Ground.data }, { on := 11, ground := Ground.data }], guard := none }) (v := ?_) rfl (by kernel_rfl) (by kernel_rfl) (by kernel_rfl) (fun _ _ _ h => h) (Or.inl ⟨by rfl, ?_⟩) (by assumption) ?_
  rotate_left
  · intro w hSw
    skip
    clear hSw
    go_simp
    try with_reducible rfl
  try simp only [Act.put, List.setIfInBounds_toArray, List.set_cons_zero, List.set_cons_succ]
  refine wpAnyH_take (i := 13) (oi := { dst := some 6, op := Op.assign (Operand.tmp 121), type := 4, pos := "law.go:88", after := #[{ on := 12, ground := Ground.data }, { on := 11, ground := Ground.chain }, { on := 0, ground := Ground.phase }, { on := 1, ground := Ground.phase }, { on := 2, ground := Ground.phase }, { on := 3, ground := Ground.phase }, { on := 4, ground := Ground.phase }, { on := 5, ground := Ground.phase }, { on := 6, ground := Ground.phase }, { on := 7, ground := Ground.phase }, { on := 8, ground := Ground.phase }, { on := 9, ground := Ground.phase }, { on := 10, ground := Ground.phase }, { on := 11, ground := Ground.phase }, { on := 12, ground := Ground.phase }], guard := none }) (v := ?_) rfl (by kernel_rfl) (by kernel_rfl) (by kernel_rfl) (fun _ _ _ h => h) (Or.inl ⟨by rfl, ?_⟩) (by assumption) ?_
  rotate_left
  · intro w hSw
    skip
    clear hSw
    go_simp
    try with_reducible rfl
  try simp only [Act.put, List.setIfInBounds_toArray, List.set_cons_zero, List.set_cons_succ]
  refine wpAnyH_done (by kernel_rfl) ?_ _
  refine NoPanic.normal ?_
  go_wp2
  go_ret
  exact m11'.post

end Go.Proofs.Ytikeobmcnpncjaa
