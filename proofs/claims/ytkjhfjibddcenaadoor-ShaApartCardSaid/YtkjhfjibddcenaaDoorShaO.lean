/- Layer 4: the chapter's examples. -/
import Derived.Test.YtkjhfjibddcenaaDoorShaN
import Derived.Deep.RegionHeld3
namespace Go.Proofs.YtkjhfjibddcenaaDoor
open Go.RowKit
set_option linter.unusedSimpArgs false

def noneL : List UInt8 := [0xe3, 0xb0, 0xc4, 0x42, 0x98, 0xfc, 0x1c, 0x14, 0x9a, 0xfb, 0xf4, 0xc8, 0x99, 0x6f, 0xb9, 0x24, 0x27, 0xae, 0x41, 0xe4, 0x64, 0x9b, 0x93, 0x4c, 0xa4, 0x95, 0x99, 0x1b, 0x78, 0x52, 0xb8, 0x55]
def abcL : List UInt8 := [0xba, 0x78, 0x16, 0xbf, 0x8f, 0x01, 0xcf, 0xea, 0x41, 0x41, 0x40, 0xde, 0x5d, 0xae, 0x22, 0x23, 0xb0, 0x03, 0x61, 0xa3, 0x96, 0x17, 0x7a, 0x9c, 0xb4, 0x10, 0xff, 0x61, 0xf2, 0x00, 0x15, 0xad]
/-- The memory of hashed: two digests, a hasher. -/
structure HsM (W w : World) (all : List UInt8) : Prop where
  a : rowC w W.heap.size (cells8 noneL) 24
  b : rowC w (W.heap.size + 1) (cells8 abcL) 24
  h : IsHash w (W.heap.size + 1 + 1) all
  l : Laid w
  nx : Below W.heap.size W w
theorem HsM.below {W w w' : World} {all : List UInt8} (h : HsM W w all) (hb : Below w.heap.size w w') : HsM W w' all := by
  have := h.h.lt
  have := h.l.lt
  exact ⟨rowC_below h.a hb (by omega), rowC_below h.b hb (by omega), h.h.below hb (by omega), h.l.below hb (by omega), h.nx.trans (hb.mono (by omega))⟩
theorem HsM.grown {W w w' : World} {all all' : List UInt8} (h : HsM W w all) (hw : 2 ≤ W.heap.size) (hg : w.grownBy w' (some (W.heap.size + 1 + 1))) (hh : IsHash w' (W.heap.size + 1 + 1) all') : HsM W w' all' := by
  have := h.h.lt
  exact ⟨rowC_grown h.a hg (by omega), rowC_grown h.b hg (by omega), hh, h.l.grown (by omega) hg, below_grown h.nx hg (by omega) (by omega)⟩

theorem IsHash.at0 {w : World} {p q : Nat} {all : List UInt8} (h : IsHash w p all) (e : p = q) : IsHash w q all := e ▸ h
theorem write_in {W w : World} {all all' : List UInt8} {s : ByteArray} {n : Int} (h : HsM W w all) (hw : 2 ≤ W.heap.size) (hb : all.length + s.size ≤ 1000) (hn : (s.size : Int) = n) (ha : all ++ s.data.toList = all') :
    Calls Tryd.prog 12 #[.pointer (some ⟨W.heap.size + 1 + 1, 0, none⟩), .string s] w fun e w' => e = .returned (.int .i64 n) ∧ HsM W w' all' := by
  subst hn ha
  exact (write_any w _ all s h.h h.l (by omega) (by omega)).mono fun e w' ⟨h1, h2, h3⟩ => ⟨h1, h.grown hw h3 h2⟩
theorem sum_in {W w : World} {all l : List UInt8} (h : HsM W w all) (hb : all.length ≤ 900000) (hl : hashL all = l) :
    Calls Tryd.prog 13 #[.pointer (some ⟨W.heap.size + 1 + 1, 0, none⟩)] w fun e w' => e = .returned (.agg (cells8 l)) ∧ HsM W w' all := by
  subst hl
  exact (sum_any w _ all h.h h.l hb).mono fun e w' ⟨h1, h2⟩ => ⟨h1, h.below h2⟩
theorem size_in {W w : World} {all : List UInt8} {n : Int} (h : HsM W w all) (hn : (all.length : Int) = n) :
    Calls Tryd.prog 14 #[.pointer (some ⟨W.heap.size + 1 + 1, 0, none⟩)] w fun e w' => e = .returned (.int .i64 n) ∧ HsM W w' all := by
  subst hn
  refine (size_any w _ all h.h).mono ?_
  rintro e w' ⟨h1, rfl⟩
  exact ⟨h1, h⟩
theorem of_in {W w : World} {all l : List UInt8} {s : ByteArray} (h : HsM W w all) (hb : s.size ≤ 900000) (hl : hashL s.data.toList = l) :
    Calls Tryd.prog 8 #[.string s] w fun e w' => e = .returned (.agg (cells8 l)) ∧ HsM W w' all := by
  subst hl
  exact (of_any w s h.l hb).mono fun e w' ⟨h1, h2⟩ => ⟨h1, h.below h2⟩
theorem range_row {w : World} {b : Nat} {l : List UInt8} {t : TypeId} (h : rowC w b (cells8 l) t) : w.rangeAt b 0 (l.map byteV) := fun j v hv => by
  rw [Nat.zero_add, rowC_cell h]
  simpa [cells8] using hv
theorem HsM.drew {W w : World} {all : List UInt8} (h : HsM W w all) : HsM W w.drew all := ⟨rowC_drew h.a, rowC_drew h.b, h.h.drewN 1, h.l.below ((Below.refl _ _).drew) (by have := h.l.lt; omega), h.nx.drew⟩
theorem arr3 : ([] ++ (ByteArray.mk #[97]).data.toList : List UInt8) = [97] := rfl
set_option maxRecDepth 100000 in
set_option maxHeartbeats 1000000 in
theorem hashed_any (w : World) (L : Laid w) :
    Calls Tryd.prog 7 #[] w fun e w' => e = .returned (.bool true) ∧ Below w.heap.size w w' := by
  have hw2 := L.lt
  have b0 : Below w.heap.size w ((w.alloc (.cells (cells8 noneL) 24)).alloc (.cells (cells8 abcL) 24)) := ((Below.refl _ _).alloc (Nat.le_refl _) _).alloc (by simp) _
  have l0 : Laid ((w.alloc (.cells (cells8 noneL) 24)).alloc (.cells (cells8 abcL) 24)) := L.below b0 hw2
  have r0 : rowC ((w.alloc (.cells (cells8 noneL) 24)).alloc (.cells (cells8 abcL) 24)) w.heap.size (cells8 noneL) 24 := rowC_alloc (rowC_new _ _ _) _
  have r1 : rowC ((w.alloc (.cells (cells8 noneL) 24)).alloc (.cells (cells8 abcL) 24)) (w.heap.size + 1) (cells8 abcL) 24 := by
    have := rowC_new (w.alloc (.cells (cells8 noneL) 24)) (cells8 abcL) 24
    rw [size_alloc] at this
    exact this
  have B0 := Lib.hid b0
  have L0 := Lib.hid l0
  have R0 := Lib.hid r0
  have R1 := Lib.hid r1
  clear b0 l0 r0 r1 L
  go_enter Tryd.func7, Tryd.ntmps7
  go_wp2_with (first
    | (refine wpList_build_as (o := ⟨some 6, _, _, _, _, _⟩) rfl 24 _ rfl (cells8 noneL) ?_ ?_; kernel_rfl)
    | (refine wpList_build_as (o := ⟨some 7, _, _, _, _, _⟩) rfl 24 _ rfl (cells8 abcL) ?_ ?_; kernel_rfl)
    | (refine wpList_store_last rfl 24 _ _ rfl w.heap.size (cells8 noneL) rfl rfl 24 _ rfl (by kernel_rfl) rfl (cells8_one _) ?_)
    | (refine wpList_store_last rfl 24 _ _ rfl (w.heap.size + 1) (cells8 abcL) rfl rfl 24 _ (by simp) (by kernel_rfl) rfl (cells8_one _) ?_)
    | (go_at_call 10; ((with_reducible refine (new_any _ L0.out).mono ?_); rintro e w1 ⟨rfl, hh1, hb1⟩)))
  have m1 : HsM w w1 [] := ⟨rowC_below R0.out hb1 (by simp; omega), rowC_below R1.out hb1 (by simp), hh1.at0 (by simp), L0.out.below hb1 (by simp), B0.out.trans (hb1.mono (by simp; omega))⟩
  clear hh1 hb1 B0 L0 R0 R1
  refine (write_in m1 hw2 (by decide) (n := 1) (all' := [97]) rfl rfl).mono ?_
  rintro e w2 ⟨rfl, m2⟩
  go_wp2_with (go_at_call 12; ((with_reducible refine (write_in m2 hw2 ?_ (n := 2) (all' := [97, 98, 99]) ?_ ?_).mono ?_); rotate_left; rotate_left; rotate_left; rintro e w3 ⟨rfl, m3⟩; rotate_left; decide; rfl; rfl))
  have q1 : ∀ w, (Op.equalIn 10000 24 (.agg (cells8 noneL)) (.agg (cells8 noneL))).run Tryd.prog w = .ok true w := fun w => by
    rw [eq_digest w 9998 rfl rfl]; rfl
  have q2 : ∀ w, (Op.equalIn 10000 24 (.agg (cells8 abcL)) (.agg (cells8 abcL))).run Tryd.prog w = .ok true w := fun w => by
    rw [eq_digest w 9998 rfl rfl]; rfl
  have hs1 : hashL (ByteArray.mk #[]).data.toList = noneL := hash_none
  have hs2 : hashL [97, 98, 99] = abcL := hash_abc
  have CO : ∀ w', HsM w w' [97, 98, 99] → Calls Tryd.prog 8 #[.string ⟨#[]⟩] w' fun e w'' => e = .returned (.agg (cells8 noneL)) ∧ HsM w w'' [97, 98, 99] := fun w' m => of_in m (by decide) hs1
  have CS : ∀ w', HsM w w' [97, 98, 99] → Calls Tryd.prog 13 #[.pointer (some ⟨w.heap.size + 1 + 1, 0, none⟩)] w' fun e w'' => e = .returned (.agg (cells8 abcL)) ∧ HsM w w'' [97, 98, 99] := fun w' m => sum_in m (by decide) hs2
  have CZ : ∀ w', HsM w w' [97, 98, 99] → Calls Tryd.prog 14 #[.pointer (some ⟨w.heap.size + 1 + 1, 0, none⟩)] w' fun e w'' => e = .returned (.int .i64 3) ∧ HsM w w'' [97, 98, 99] := fun w' m => size_in m rfl
  clear hs1 hs2
  have ra : ∀ w', HsM w w' [97, 98, 99] → w'.rangeAt w.heap.size 0 (noneL.map byteV) := fun w' m => range_row m.a
  have rb : ∀ w', HsM w w' [97, 98, 99] → w'.rangeAt (w.heap.size + 1) 0 (abcL.map byteV) := fun w' m => range_row m.b
  have hiN : (Tryd.prog.info? 24).map (·.size) = some (noneL.map byteV).length := by kernel_rfl
  have hiA : (Tryd.prog.info? 24).map (·.size) = some (abcL.map byteV).length := by kernel_rfl
  unfold cells8 at q1 q2 CO CS ⊢
  generalize noneL.map byteV = NL at *
  generalize abcL.map byteV = AL at *
  have md := m3.drew
  have hu := Tryd.underlying24
  have gd := guard_digest
  have SO : ∀ w', HsM w w' [97, 98, 99] → (fun w' => HsM w w' [97, 98, 99] ∧ w'.rangeAt w.heap.size 0 NL ∧ w'.rangeAt (w.heap.size + 1) 0 AL) w' := fun w' m => ⟨m, ra w' m, rb w' m⟩
  generalize hS : (fun w' => HsM w w' [97, 98, 99] ∧ w'.rangeAt w.heap.size 0 NL ∧ w'.rangeAt (w.heap.size + 1) 0 AL) = S at SO
  have OS : ∀ w', S w' → HsM w w' [97, 98, 99] ∧ w'.rangeAt w.heap.size 0 NL ∧ w'.rangeAt (w.heap.size + 1) 0 AL := fun w' h => by rw [← hS] at h; exact h
  clear hS ra rb
  refine wp_region_noPanic ?_
  refine wp_region_held_drew (S := S) (by kernel_rfl) (SO _ md) (fun hHeld => ?_)
  refine wpAnyH_take (i := 1) (oi := { dst := some 14, op := Op.load 24 (Operand.tmp 1), type := 24, pos := "law.go:16", after := #[], guard := none }) (v := _) rfl (by kernel_rfl) (by kernel_rfl) (by kernel_rfl) (fun _ _ _ h => h) (yieldsIf_load_mid (by rfl) _ _ rfl _ _ rfl _ _ (by intro w hSw; have hSw := OS _ hSw; go_split_ands; assumption) (by assumption) rfl (by assumption)) (by assumption) ?_
  try simp only [Act.put, List.setIfInBounds_toArray, List.set_cons_zero, List.set_cons_succ]
  refine wpAnyH_ready (rs := [0]) (by kernel_rfl) (by simp) ?_
  refine AllReadyH.cons (o := { dst := some 13, op := Op.call { callee := Callee.value (Operand.func 8), args := #[Operand.const (Value.string { data := #[] })], argTypes := #[9] }, type := 24, pos := "law.go:16", after := #[], guard := none }) rfl (fun K hK => ?_) AllReadyH.nil
  go_simp
  refine (CO _ (by assumption)).mono ?_
  rintro e w0' ⟨rfl, m0'⟩
  refine hK.out _ _ (SO _ (by assumption)) (fun hHeld => ?_)
  clear hK K
  try simp only [Act.put, List.setIfInBounds_toArray, List.set_cons_zero, List.set_cons_succ]
  refine wpAnyH_take (i := 2) (oi := { dst := some 15, op := Op.binOp BinOp.eql 24 (Operand.tmp 13) (Operand.tmp 14) 24, type := 4, pos := "law.go:16", after := #[{ on := 0, ground := Ground.data }, { on := 1, ground := Ground.data }], guard := none }) (v := ?_) rfl (by kernel_rfl) (by kernel_rfl) (by kernel_rfl) (fun _ _ _ h => h) (Or.inl ⟨by rfl, ?_⟩) (by assumption) ?_
  rotate_left
  · intro w hSw
    clear hSw
    go_simp
    try with_reducible rfl
  try simp only [Act.put, List.setIfInBounds_toArray, List.set_cons_zero, List.set_cons_succ]
  refine wpAnyH_take (i := 3) (oi := { dst := some 16, op := Op.move (Operand.tmp 15), type := 4, pos := "law.go:16", after := #[{ on := 2, ground := Ground.data }, { on := 0, ground := Ground.chain }], guard := none }) (v := ?_) rfl (by kernel_rfl) (by kernel_rfl) (by kernel_rfl) (fun _ _ _ h => h) (Or.inl ⟨by rfl, ?_⟩) (by assumption) ?_
  rotate_left
  · intro w hSw
    clear hSw
    go_simp
    try with_reducible rfl
  try simp only [Act.put, List.setIfInBounds_toArray, List.set_cons_zero, List.set_cons_succ]
  refine wpAnyH_take (i := 4) (oi := { dst := some 17, op := Op.move (Operand.tmp 4), type := 3, pos := "law.go:16", after := #[{ on := 3, ground := Ground.guard }], guard := some (3, true) }) (v := ?_) rfl (by kernel_rfl) (by kernel_rfl) (by kernel_rfl) (fun _ _ _ h => h) (Or.inl ⟨by rfl, ?_⟩) (by assumption) ?_
  rotate_left
  · intro w hSw
    clear hSw
    go_simp
    try with_reducible rfl
  try simp only [Act.put, List.setIfInBounds_toArray, List.set_cons_zero, List.set_cons_succ]
  refine wpAnyH_take (i := 5) (oi := { dst := some 18, op := Op.binOp BinOp.eql 3 (Operand.tmp 17) (Operand.const (Value.int IntKind.i64 1)) 3, type := 4, pos := "law.go:16", after := #[{ on := 4, ground := Ground.data }, { on := 3, ground := Ground.guard }], guard := some (3, true) }) (v := ?_) rfl (by kernel_rfl) (by kernel_rfl) (by kernel_rfl) (fun _ _ _ h => h) (Or.inl ⟨by rfl, ?_⟩) (by assumption) ?_
  rotate_left
  · intro w hSw
    clear hSw
    go_simp
    try with_reducible rfl
  try simp only [Act.put, List.setIfInBounds_toArray, List.set_cons_zero, List.set_cons_succ]
  refine wpAnyH_take (i := 6) (oi := { dst := some 19, op := Op.pick (Operand.tmp 16) (Operand.tmp 18) (Operand.const (Value.bool false)), type := 4, pos := "law.go:16", after := #[{ on := 3, ground := Ground.data }, { on := 5, ground := Ground.data }], guard := none }) (v := ?_) rfl (by kernel_rfl) (by kernel_rfl) (by kernel_rfl) (fun _ _ _ h => h) (Or.inl ⟨by rfl, ?_⟩) (by assumption) ?_
  rotate_left
  · intro w hSw
    clear hSw
    go_simp
    try with_reducible rfl
  try simp only [Act.put, List.setIfInBounds_toArray, List.set_cons_zero, List.set_cons_succ]
  refine wpAnyH_take (i := 7) (oi := { dst := some 20, op := Op.move (Operand.tmp 19), type := 4, pos := "law.go:16", after := #[{ on := 6, ground := Ground.data }, { on := 3, ground := Ground.chain }], guard := none }) (v := ?_) rfl (by kernel_rfl) (by kernel_rfl) (by kernel_rfl) (fun _ _ _ h => h) (Or.inl ⟨by rfl, ?_⟩) (by assumption) ?_
  rotate_left
  · intro w hSw
    clear hSw
    go_simp
    try with_reducible rfl
  try simp only [Act.put, List.setIfInBounds_toArray, List.set_cons_zero, List.set_cons_succ]
  refine wpAnyH_take (i := 8) (oi := { dst := some 21, op := Op.move (Operand.tmp 5), type := 3, pos := "law.go:16", after := #[{ on := 7, ground := Ground.guard }], guard := some (7, true) }) (v := ?_) rfl (by kernel_rfl) (by kernel_rfl) (by kernel_rfl) (fun _ _ _ h => h) (Or.inl ⟨by rfl, ?_⟩) (by assumption) ?_
  rotate_left
  · intro w hSw
    clear hSw
    go_simp
    try with_reducible rfl
  try simp only [Act.put, List.setIfInBounds_toArray, List.set_cons_zero, List.set_cons_succ]
  refine wpAnyH_take (i := 9) (oi := { dst := some 22, op := Op.binOp BinOp.eql 3 (Operand.tmp 21) (Operand.const (Value.int IntKind.i64 2)) 3, type := 4, pos := "law.go:16", after := #[{ on := 8, ground := Ground.data }, { on := 7, ground := Ground.guard }], guard := some (7, true) }) (v := ?_) rfl (by kernel_rfl) (by kernel_rfl) (by kernel_rfl) (fun _ _ _ h => h) (Or.inl ⟨by rfl, ?_⟩) (by assumption) ?_
  rotate_left
  · intro w hSw
    clear hSw
    go_simp
    try with_reducible rfl
  try simp only [Act.put, List.setIfInBounds_toArray, List.set_cons_zero, List.set_cons_succ]
  refine wpAnyH_take (i := 10) (oi := { dst := some 23, op := Op.pick (Operand.tmp 20) (Operand.tmp 22) (Operand.const (Value.bool false)), type := 4, pos := "law.go:16", after := #[{ on := 7, ground := Ground.data }, { on := 9, ground := Ground.data }], guard := none }) (v := ?_) rfl (by kernel_rfl) (by kernel_rfl) (by kernel_rfl) (fun _ _ _ h => h) (Or.inl ⟨by rfl, ?_⟩) (by assumption) ?_
  rotate_left
  · intro w hSw
    clear hSw
    go_simp
    try with_reducible rfl
  try simp only [Act.put, List.setIfInBounds_toArray, List.set_cons_zero, List.set_cons_succ]
  refine wpAnyH_take (i := 11) (oi := { dst := some 24, op := Op.move (Operand.tmp 23), type := 4, pos := "law.go:16", after := #[{ on := 10, ground := Ground.data }, { on := 7, ground := Ground.chain }], guard := none }) (v := ?_) rfl (by kernel_rfl) (by kernel_rfl) (by kernel_rfl) (fun _ _ _ h => h) (Or.inl ⟨by rfl, ?_⟩) (by assumption) ?_
  rotate_left
  · intro w hSw
    clear hSw
    go_simp
    try with_reducible rfl
  try simp only [Act.put, List.setIfInBounds_toArray, List.set_cons_zero, List.set_cons_succ]
  refine wpAnyH_take (i := 12) (oi := { dst := some 25, op := Op.move (Operand.tmp 3), type := 28, pos := "law.go:16", after := #[{ on := 11, ground := Ground.guard }], guard := some (11, true) }) (v := ?_) rfl (by kernel_rfl) (by kernel_rfl) (by kernel_rfl) (fun _ _ _ h => h) (Or.inl ⟨by rfl, ?_⟩) (by assumption) ?_
  rotate_left
  · intro w hSw
    clear hSw
    go_simp
    try with_reducible rfl
  try simp only [Act.put, List.setIfInBounds_toArray, List.set_cons_zero, List.set_cons_succ]
  refine wpAnyH_take (i := 14) (oi := { dst := some 27, op := Op.load 24 (Operand.tmp 2), type := 24, pos := "law.go:16", after := #[{ on := 11, ground := Ground.guard }], guard := some (11, true) }) (v := _) rfl (by kernel_rfl) (by kernel_rfl) (by kernel_rfl) (fun _ _ _ h => h) (yieldsIf_load_mid (by rfl) _ _ rfl _ _ rfl _ _ (by intro w hSw; have hSw := OS _ hSw; go_split_ands; assumption) (by assumption) rfl (by assumption)) (by assumption) ?_
  try simp only [Act.put, List.setIfInBounds_toArray, List.set_cons_zero, List.set_cons_succ]
  refine wpAnyH_ready (rs := [13]) (by kernel_rfl) (by simp) ?_
  refine AllReadyH.cons (o := { dst := some 26, op := Op.call { callee := Callee.value (Operand.func 13), args := #[Operand.tmp 25], argTypes := #[28] }, type := 24, pos := "law.go:16", after := #[{ on := 12, ground := Ground.data }, { on := 11, ground := Ground.chain }, { on := 11, ground := Ground.guard }], guard := some (11, true) }) rfl (fun K hK => ?_) AllReadyH.nil
  go_simp
  refine (CS _ (by assumption)).mono ?_
  rintro e w13' ⟨rfl, m13'⟩
  refine hK.out _ _ (SO _ (by assumption)) (fun hHeld => ?_)
  clear hK K
  try simp only [Act.put, List.setIfInBounds_toArray, List.set_cons_zero, List.set_cons_succ]
  refine wpAnyH_take (i := 15) (oi := { dst := some 28, op := Op.binOp BinOp.eql 24 (Operand.tmp 26) (Operand.tmp 27) 24, type := 4, pos := "law.go:16", after := #[{ on := 13, ground := Ground.data }, { on := 14, ground := Ground.data }, { on := 11, ground := Ground.guard }], guard := some (11, true) }) (v := ?_) rfl (by kernel_rfl) (by kernel_rfl) (by kernel_rfl) (fun _ _ _ h => h) (Or.inl ⟨by rfl, ?_⟩) (by assumption) ?_
  rotate_left
  · intro w hSw
    clear hSw
    go_simp
    try with_reducible rfl
  try simp only [Act.put, List.setIfInBounds_toArray, List.set_cons_zero, List.set_cons_succ]
  refine wpAnyH_take (i := 16) (oi := { dst := some 29, op := Op.pick (Operand.tmp 24) (Operand.tmp 28) (Operand.const (Value.bool false)), type := 4, pos := "law.go:16", after := #[{ on := 11, ground := Ground.data }, { on := 15, ground := Ground.data }], guard := none }) (v := ?_) rfl (by kernel_rfl) (by kernel_rfl) (by kernel_rfl) (fun _ _ _ h => h) (Or.inl ⟨by rfl, ?_⟩) (by assumption) ?_
  rotate_left
  · intro w hSw
    clear hSw
    go_simp
    try with_reducible rfl
  try simp only [Act.put, List.setIfInBounds_toArray, List.set_cons_zero, List.set_cons_succ]
  refine wpAnyH_take (i := 17) (oi := { dst := some 30, op := Op.move (Operand.tmp 29), type := 4, pos := "law.go:16", after := #[{ on := 16, ground := Ground.data }, { on := 13, ground := Ground.chain }], guard := none }) (v := ?_) rfl (by kernel_rfl) (by kernel_rfl) (by kernel_rfl) (fun _ _ _ h => h) (Or.inl ⟨by rfl, ?_⟩) (by assumption) ?_
  rotate_left
  · intro w hSw
    clear hSw
    go_simp
    try with_reducible rfl
  try simp only [Act.put, List.setIfInBounds_toArray, List.set_cons_zero, List.set_cons_succ]
  refine wpAnyH_take (i := 18) (oi := { dst := some 31, op := Op.move (Operand.tmp 3), type := 28, pos := "law.go:16", after := #[{ on := 17, ground := Ground.guard }], guard := some (17, true) }) (v := ?_) rfl (by kernel_rfl) (by kernel_rfl) (by kernel_rfl) (fun _ _ _ h => h) (Or.inl ⟨by rfl, ?_⟩) (by assumption) ?_
  rotate_left
  · intro w hSw
    clear hSw
    go_simp
    try with_reducible rfl
  try simp only [Act.put, List.setIfInBounds_toArray, List.set_cons_zero, List.set_cons_succ]
  refine wpAnyH_ready (rs := [19]) (by kernel_rfl) (by simp) ?_
  refine AllReadyH.cons (o := { dst := some 32, op := Op.call { callee := Callee.value (Operand.func 14), args := #[Operand.tmp 31], argTypes := #[28] }, type := 3, pos := "law.go:16", after := #[{ on := 18, ground := Ground.data }, { on := 17, ground := Ground.chain }, { on := 17, ground := Ground.guard }], guard := some (17, true) }) rfl (fun K hK => ?_) AllReadyH.nil
  go_simp
  refine (CZ _ (by assumption)).mono ?_
  rintro e w19' ⟨rfl, m19'⟩
  refine hK.out _ _ (SO _ (by assumption)) (fun hHeld => ?_)
  clear hK K
  try simp only [Act.put, List.setIfInBounds_toArray, List.set_cons_zero, List.set_cons_succ]
  refine wpAnyH_take (i := 20) (oi := { dst := some 33, op := Op.binOp BinOp.eql 3 (Operand.tmp 32) (Operand.const (Value.int IntKind.i64 3)) 3, type := 4, pos := "law.go:16", after := #[{ on := 19, ground := Ground.data }, { on := 17, ground := Ground.guard }], guard := some (17, true) }) (v := ?_) rfl (by kernel_rfl) (by kernel_rfl) (by kernel_rfl) (fun _ _ _ h => h) (Or.inl ⟨by rfl, ?_⟩) (by assumption) ?_
  rotate_left
  · intro w hSw
    clear hSw
    go_simp
    try with_reducible rfl
  try simp only [Act.put, List.setIfInBounds_toArray, List.set_cons_zero, List.set_cons_succ]
  refine wpAnyH_take (i := 21) (oi := { dst := some 34, op := Op.pick (Operand.tmp 30) (Operand.tmp 33) (Operand.const (Value.bool false)), type := 4, pos := "law.go:16", after := #[{ on := 17, ground := Ground.data }, { on := 20, ground := Ground.data }], guard := none }) (v := ?_) rfl (by kernel_rfl) (by kernel_rfl) (by kernel_rfl) (fun _ _ _ h => h) (Or.inl ⟨by rfl, ?_⟩) (by assumption) ?_
  rotate_left
  · intro w hSw
    clear hSw
    go_simp
    try with_reducible rfl
  try simp only [Act.put, List.setIfInBounds_toArray, List.set_cons_zero, List.set_cons_succ]
  refine wpAnyH_take (i := 22) (oi := { dst := some 0, op := Op.assign (Operand.tmp 34), type := 4, pos := "law.go:16", after := #[{ on := 21, ground := Ground.data }, { on := 19, ground := Ground.chain }, { on := 0, ground := Ground.phase }, { on := 1, ground := Ground.phase }, { on := 2, ground := Ground.phase }, { on := 3, ground := Ground.phase }, { on := 4, ground := Ground.phase }, { on := 5, ground := Ground.phase }, { on := 6, ground := Ground.phase }, { on := 7, ground := Ground.phase }, { on := 8, ground := Ground.phase }, { on := 9, ground := Ground.phase }, { on := 10, ground := Ground.phase }, { on := 11, ground := Ground.phase }, { on := 12, ground := Ground.phase }, { on := 13, ground := Ground.phase }, { on := 14, ground := Ground.phase }, { on := 15, ground := Ground.phase }, { on := 16, ground := Ground.phase }, { on := 17, ground := Ground.phase }, { on := 18, ground := Ground.phase }, { on := 19, ground := Ground.phase }, { on := 20, ground := Ground.phase }, { on := 21, ground := Ground.phase }], guard := none }) (v := ?_) rfl (by kernel_rfl) (by kernel_rfl) (by kernel_rfl) (fun _ _ _ h => h) (Or.inl ⟨by rfl, ?_⟩) (by assumption) ?_
  rotate_left
  · intro w hSw
    clear hSw
    go_simp
    try with_reducible rfl
  try simp only [Act.put, List.setIfInBounds_toArray, List.set_cons_zero, List.set_cons_succ]
  refine wpAnyH_done (by kernel_rfl) ?_ _
  refine NoPanic.normal ?_
  go_wp2
  go_ret
  exact ⟨rfl, m19'.nx⟩
end Go.Proofs.YtkjhfjibddcenaaDoor
