/- Merged: TtL, Md. -/
import Derived.Test.YtoallfcpnbhhiaaGreatDoorM17
import Derived.Test.YtoallfcpnbhhiaaGreatDoorM07
/- Layer 16: the program's put. -/
namespace Go.Proofs.YtoallfcpnbhhiaaGreatDoor
open Go.RowKit

theorem put1_any (top : List UInt8) (nb b5 : Nat) (x : Pl) (w : World) (c5 : w.cell? ⟨b5, 0, none⟩ = some (.func (.func 112) #[] #[.pointer (some ⟨nb, 0, none⟩)])) (cn : w.cell? ⟨nb, 0, none⟩ = some (.string (str top))) :
    Calls Tryz.prog 93 (#[.string (str x.nd.path), .agg (plA x)] ++ #[.pointer (some ⟨b5, 0, none⟩)]) w fun e w' => e = .returned (.bool (insideB top x.nd.path)) ∧ w.grownBy w' none := by
  have eg : ∀ args w, (callFunc 112 args).run Tryz.prog w = .ok (.enter 112 args) w := enters_of Tryz.func112 (by kernel_rfl) rfl
  have hpl : (Value.agg (plA x)) = .agg #[.string (str x.nd.path), .int .i64 x.nd.kind, .int .i64 x.nd.mode, .string (str x.nd.data), .int .i64 x.lay] := rfl
  rw [hpl]
  obtain ⟨W1, hW1⟩ : ∃ W1, W1 = w.alloc (.cells #[.string (str x.nd.path), .int .i64 x.nd.kind, .int .i64 x.nd.mode, .string (str x.nd.data), .int .i64 x.lay] 104) := ⟨_, rfl⟩
  have HW1 := Lib.hid hW1
  have HB1 : Hid (Below w.heap.size w W1) := Lib.hid (by rw [hW1]; exact (Below.refl _ _).alloc (Nat.le_refl _) _)
  have far : ∀ {a : Addr} {v : Value}, w.cell? a = some v → W1.cell? a = some v := fun {a v} h => by
    rw [cell_far HB1.out (World.block_lt_of_cell? w a h)]
    exact h
  have d5 := far c5
  have C := from1_any top x.nd.path nb W1 (far cn)
  clear far hW1 c5 cn hpl
  generalize insideB top x.nd.path = R at *
  go_enter Tryz.func93, Tryz.ntmps93
  go_upto_region 1 with (fail)
  rw [← HW1.out]
  go_wp2_with (go_at_fn 112; (refine C.mono ?_; rintro e w1 ⟨rfl, rfl⟩))
  go_ret
  exact ⟨rfl, grown_of_below HB1.out⟩
theorem put1_del (top : List UInt8) (nb b5 M : Nat) (w : World) (c5 : w.cell? ⟨b5, 0, none⟩ = some (.func (.func 112) #[] #[.pointer (some ⟨nb, 0, none⟩)])) (cn : w.cell? ⟨nb, 0, none⟩ = some (.string (str top)))
    (n5 : b5 ≠ M) (nn : nb ≠ M) (W : World) (x : Pl) (hgr : w.grownBy W (some M)) :
    Calls Tryz.prog 93 (#[.string (str x.nd.path), .agg (plA x)] ++ #[.pointer (some ⟨b5, 0, none⟩)]) W fun e w' => e = .returned (.bool (insideB top x.nd.path)) ∧ W.grownBy w' none := by
  have far : ∀ {a : Addr} {v : Value}, w.cell? a = some v → a.block ≠ M → W.cell? a = some v := fun {a v} h hne => by
    rw [World.cell?_of_block (hgr.block _ (World.block_lt_of_cell? w a h) (fun e => hne (Option.some.inj e)))]
    exact h
  exact put1_any top nb b5 x W (far c5 n5) (far cn nn)
theorem isDir_get (g : List Pl) (s : List UInt8) : isDir g s = decide ((getG g s).nd.kind = 2) := by
  unfold isDir getG
  cases lookG g s <;> rfl
set_option maxRecDepth 100000 in
set_option maxHeartbeats 16000000 in
theorem gput_any (n : Nd) (hp : n.path.length ≤ 900000) (B M : Nat) (g : List Pl) (hlen : g.length ≤ 1000000) (k : Int) (w : World) (h : GrAt w B M g k) :
    Calls Tryz.prog 74 #[.pointer (some ⟨B, 0, none⟩), .agg #[.string (str n.path), .int .i64 n.kind, .int .i64 n.mode, .string (str n.data)]] w fun e w' => e = .returned (.tuple #[]) ∧ GrAt w' B M (layG k g n) k ∧ GrC B M w w' := by
  have HI := Lib.hid info_nd4
  have CF := fun W => from_any n.path W
  have hBw := rowC_lt h.row
  have hMw := h.map.lt
  have hBM := h.ne
  have HPL := Lib.hid hp
  have HLL := Lib.hid hlen
  have HLD : Hid (layG k g n = putG (if isDir g n.path && !decide (n.kind = 2) then g.filter (fun q => !insideB n.path q.nd.path) else g) ⟨n, k⟩) := Lib.hid rfl
  have HID := Lib.hid (isDir_get g n.path)
  obtain ⟨W0, hW0⟩ : ∃ W0, W0 = w.alloc (.cells #[.string (str n.path), .int .i64 n.kind, .int .i64 n.mode, .string (str n.data)] 32) := ⟨_, rfl⟩
  have HW0 := Lib.hid hW0
  have HB0 : Hid (Below w.heap.size w W0) := Lib.hid (by rw [hW0]; exact (Below.refl _ _).alloc (Nat.le_refl _) _)
  have HR0 : Hid (rowC W0 w.heap.size (ndA n) 32) := Lib.hid (by rw [hW0]; exact rowC_new w _ _)
  have HG0 : Hid (GrAt W0 B M g k) := Lib.hid (h.below HB0.out)
  have hz0 : W0.heap.size = w.heap.size + 1 := by rw [hW0, size_alloc]
  clear hW0 h
  go_enter Tryz.func74, Tryz.ntmps74
  go_upto_region 1 with (fail)
  rw [← HW0.out]
  have OS : ∀ w', Gn W0 no w' → w'.cell? ⟨w.heap.size, 0, none⟩ = some (.string (str n.path)) ∧ w'.cell? ⟨B, 0, none⟩ = some (.map (some M)) ∧ (Instr.lookup 100 (.map (some M)) (.string (str n.path)) false).run Tryz.prog w' = .ok (.agg (plA (getG g n.path))) w' := fun w' hg =>
    ⟨rowC_cell (hg.row HR0.out id) 0, rowC_cell (hg.row HG0.out.row id) 0, (HG0.out.map.chg hg id).get n.path (by have := HPL.out; unfold maxLen; omega)⟩
  have SO : ∀ w', Gn W0 no w' → Gn W0 no w' := fun _ h => h
  refine wp_region_noPanic ?_
  refine wp_region_held_drew (S := Gn W0 no) (by kernel_rfl) (Gn.start _ _) (fun hHeld => ?_)
  have hzd : W0.drew.heap.size = w.heap.size + 1 := hz0
  generalize W0.drew = wd at *
  refine wpAnyH_take (i := 0) (oi := { dst := some 6, op := Op.move (Operand.tmp 0), type := 78, pos := "trees.go:333", after := #[], guard := none }) (v := ?_) rfl (by kernel_rfl) (by kernel_rfl) (by kernel_rfl) (fun _ _ _ h => h) (Or.inl ⟨by rfl, ?_⟩) (by assumption) ?_
  rotate_left
  · intro w hSw
    skip
    clear hSw
    go_simp
    try with_reducible rfl
  try simp only [Act.put, List.setIfInBounds_toArray, List.set_cons_zero, List.set_cons_succ]
  refine wpAnyH_take (i := 1) (oi := { dst := some 7, op := Op.nilCheck (Operand.tmp 6), type := 0, pos := "trees.go:333", after := #[{ on := 0, ground := Ground.data }], guard := none }) (v := ?_) rfl (by kernel_rfl) (by kernel_rfl) (by kernel_rfl) (fun _ _ _ h => h) (Or.inl ⟨by rfl, ?_⟩) (by assumption) ?_
  rotate_left
  · intro w hSw
    skip
    clear hSw
    go_simp
    try with_reducible rfl
  try simp only [Act.put, List.setIfInBounds_toArray, List.set_cons_zero, List.set_cons_succ]
  refine wpAnyH_take (i := 2) (oi := { dst := some 8, op := Op.fieldAddr 102 (Operand.tmp 7) 0, type := 0, pos := "trees.go:333", after := #[{ on := 1, ground := Ground.data }], guard := none }) (v := ?_) rfl (by kernel_rfl) (by kernel_rfl) (by kernel_rfl) (fun _ _ _ h => h) (Or.inl ⟨by rfl, ?_⟩) (by assumption) ?_
  rotate_left
  · intro w hSw
    skip
    clear hSw
    go_simp
    try with_reducible rfl
  try simp only [Act.put, List.setIfInBounds_toArray, List.set_cons_zero, List.set_cons_succ]
  refine wpAnyH_take (i := 4) (oi := { dst := some 10, op := Op.fieldAddr 32 (Operand.tmp 3) 0, type := 0, pos := "trees.go:333", after := #[], guard := none }) (v := ?_) rfl (by kernel_rfl) (by kernel_rfl) (by kernel_rfl) (fun _ _ _ h => h) (Or.inl ⟨by rfl, ?_⟩) (by assumption) ?_
  rotate_left
  · intro w hSw
    skip
    clear hSw
    go_simp
    try with_reducible rfl
  try simp only [Act.put, List.setIfInBounds_toArray, List.set_cons_zero, List.set_cons_succ]
  refine wpAnyH_take (i := 3) (oi := { dst := some 9, op := Op.load 100 (Operand.tmp 8), type := 100, pos := "trees.go:333", after := #[{ on := 2, ground := Ground.data }], guard := none }) (v := ?_) rfl (by kernel_rfl) (by kernel_rfl) (by kernel_rfl) (fun _ _ _ h => h) (Or.inl ⟨by rfl, ?_⟩) (by assumption) ?_
  rotate_left
  · intro w hSw
    have hSw := OS _ hSw
    go_simp
    try with_reducible rfl
  try simp only [Act.put, List.setIfInBounds_toArray, List.set_cons_zero, List.set_cons_succ]
  refine wpAnyH_take (i := 5) (oi := { dst := some 11, op := Op.load 9 (Operand.tmp 10), type := 9, pos := "trees.go:333", after := #[{ on := 4, ground := Ground.data }], guard := none }) (v := ?_) rfl (by kernel_rfl) (by kernel_rfl) (by kernel_rfl) (fun _ _ _ h => h) (Or.inl ⟨by rfl, ?_⟩) (by assumption) ?_
  rotate_left
  · intro w hSw
    have hSw := OS _ hSw
    go_simp
    try with_reducible rfl
  try simp only [Act.put, List.setIfInBounds_toArray, List.set_cons_zero, List.set_cons_succ]
  refine wpAnyH_take (i := 6) (oi := { dst := some 12, op := Op.lookup 100 (Operand.tmp 9) (Operand.tmp 11) false, type := 104, pos := "trees.go:333", after := #[{ on := 3, ground := Ground.data }, { on := 5, ground := Ground.data }], guard := none }) (v := ?_) rfl (by kernel_rfl) (by kernel_rfl) (by kernel_rfl) (fun _ _ _ h => h) (Or.inl ⟨by rfl, ?_⟩) (by assumption) ?_
  rotate_left
  · intro w hSw
    have hSw := OS _ hSw
    go_simp
    try with_reducible rfl
  try simp only [Act.put, List.setIfInBounds_toArray, List.set_cons_zero, List.set_cons_succ]
  refine wpAnyH_take (i := 7) (oi := { dst := some 13, op := Op.field 104 (Operand.tmp 12) 0, type := 32, pos := "trees.go:333", after := #[{ on := 6, ground := Ground.data }], guard := none }) (v := .agg (ndA (getG g n.path).nd)) rfl (by kernel_rfl) (by kernel_rfl) (by kernel_rfl) (fun _ _ _ h => h) (Or.inl ⟨by rfl, ?_⟩) (by assumption) ?_
  · intro w hSw
    skip
    clear hSw
    go_simp
    rfl
  try simp only [Act.put, List.setIfInBounds_toArray, List.set_cons_zero, List.set_cons_succ]
  refine wpAnyH_ready (rs := [8]) (by kernel_rfl) (by simp) ?_
  refine (AllReadyH.cons (o := { dst := some 4, op := Op.alloc 32, type := 0, pos := "trees.go:333", after := #[], guard := none }) rfl (fun K hK => ?_) AllReadyH.nil)
  skip
  go_simp
  refine hK.out _ _ (Gn.alloc hHeld _) (fun hHeld => ?_)
  clear hK K
  try simp only [Act.put, List.setIfInBounds_toArray, List.set_cons_zero, List.set_cons_succ]
  refine wpAnyH_ready (rs := [9]) (by kernel_rfl) (by simp) ?_
  refine (AllReadyH.cons (o := { dst := none, op := Op.store 32 (Operand.tmp 4) (Operand.tmp 13), type := 0, pos := "trees.go:333", after := #[{ on := 8, ground := Ground.data }, { on := 7, ground := Ground.data }, { on := 0, ground := Ground.phase }, { on := 1, ground := Ground.phase }, { on := 2, ground := Ground.phase }, { on := 3, ground := Ground.phase }, { on := 4, ground := Ground.phase }, { on := 5, ground := Ground.phase }, { on := 6, ground := Ground.phase }, { on := 7, ground := Ground.phase }, { on := 8, ground := Ground.phase }], guard := none }) rfl (fun K hK => ?_) AllReadyH.nil)
  refine step_store_row (by rfl) 32 _ _ (by rfl) (w.heap.size + 1) (ndA (getG g n.path).nd) (by rfl) (by rfl) 32 #[.string ⟨#[]⟩, .int .i64 0, .int .i64 0, .string ⟨#[]⟩] (by have := rowC_new wd #[.string ⟨#[]⟩, .int .i64 0, .int .i64 0, .string ⟨#[]⟩] 32; rwa [hzd] at this) HI.out rfl (ndA_one _) ?_
  refine hK.out _ _ (Gn.set hHeld _ _ (.inr (by omega))) (fun hHeld => ?_)
  clear hK K
  refine wpAnyH_done (by kernel_rfl) ?_ _
  refine NoPanic.normal ?_
  have HB1 := Lib.hid (HB0.out.trans (hHeld.below HB0.out.size (fun _ _ => id)))
  have HR1 := Lib.hid (hHeld.row HR0.out id)
  have HG1 : Hid (GrAt _ B M g k) := Lib.hid (HG0.out.chg hHeld id id)
  have HQ1 := Lib.hid (rowC_setRow (rowC_new wd #[.string ⟨#[]⟩, .int .i64 0, .int .i64 0, .string ⟨#[]⟩] 32) (ndA (getG g n.path).nd))
  have hz1 : ((wd.alloc (.cells #[.string ⟨#[]⟩, .int .i64 0, .int .i64 0, .string ⟨#[]⟩] 32)).setRow wd.heap.size (ndA (getG g n.path).nd)).heap.size = w.heap.size + 2 := by
    have : ∀ (a : World) (b : Nat) (c : Array Value), (a.setRow b c).heap.size = a.heap.size := fun a b c => setRow_size a b c
    rw [this, size_alloc, hzd]
  clear hHeld OS SO HB0 HR0 HG0 hz0
  rw [hzd] at HQ1 hz1
  generalize ((wd.alloc (.cells #[.string ⟨#[]⟩, .int .i64 0, .int .i64 0, .string ⟨#[]⟩] 32)).setRow (w.heap.size + 1) (ndA (getG g n.path).nd)) = W1 at *
  have k1 : W1.cell? ⟨w.heap.size + 1, 1, none⟩ = some (.int .i64 (getG g n.path).nd.kind) := rowC_cell HQ1.out 1
  have k2 : W1.cell? ⟨w.heap.size, 1, none⟩ = some (.int .i64 n.kind) := rowC_cell HR1.out 1
  have k3 : W1.cell? ⟨w.heap.size, 0, none⟩ = some (.string (str n.path)) := rowC_cell HR1.out 0
  obtain ⟨wk, hwk⟩ : ∃ wk, wk = (getG g n.path).nd.kind := ⟨_, rfl⟩
  rw [← hwk] at k1 HID
  clear hwk
  have ui := Tryz.underlying32
  have ii := info_nd4
  cases hcond : isDir g n.path && !decide (n.kind = 2) with
  | false =>
    have HLY : Hid (layG k g n = putG g ⟨n, k⟩) := Lib.hid (by rw [HLD.out, hcond]; rfl)
    have HC3 : Hid (GrC B M w W1) := Lib.hid (Chg.of_below HB1.out)
    obtain ⟨Wx, hWx⟩ : ∃ Wx, Wx = W1 := ⟨_, rfl⟩
    subst hWx
    have HR3 := HR1
    have HG3 := HG1
    have HLN := HLL
    by_cases hw2 : wk = 2
    · have hn2 : n.kind = 2 := by
        rw [HID.out, decide_eq_true hw2, Bool.true_and, Bool.not_eq_false', decide_eq_true_eq] at hcond
        exact hcond
      have g1 : (wk == 2) = true := by rw [beq_iff_eq]; exact hw2
      have g2 : (n.kind != 2) = false := by rw [bne_eq_false_iff_eq]; exact hn2
      clear hcond HLD HID hw2 hn2
      go_upto_region 5 with (fail)
      clear k1 k2 k3
      have OS : ∀ w', Gn Wx (fun j => j = M) w' → w'.rangeAt w.heap.size 0 (ndV n) ∧ w'.cell? ⟨w.heap.size, 0, none⟩ = some (.string (str n.path)) ∧ w'.cell? ⟨B, 0, none⟩ = some (.map (some M)) ∧ w'.cell? ⟨B, 1, none⟩ = some (.int .i64 k) := fun w' hg =>
        ⟨rowC_range (hg.row HR3.out (by omega)) 0 _ (fun j u hj => by rw [Nat.zero_add, ← ndV_arr, List.getElem?_toArray]; exact hj), rowC_cell (hg.row HR3.out (by omega)) 0, rowC_cell (hg.row HG3.out.row hBM) 0, rowC_cell (hg.row HG3.out.row hBM) 1⟩
      have SO : ∀ w', Gn Wx (fun j => j = M) w' → Gn Wx (fun j => j = M) w' := fun _ h => h
      have HEND : Hid (∀ w', Gn Wx (fun j => j = M) w' → GrC B M w w' ∧ rowC w' B #[.map (some M), .int .i64 k] 102) := Lib.hid fun w' hg => ⟨Chg.trans HC3.out hg (fun j _ hj => .inr hj), hg.row HG3.out.row hBM⟩
      refine wp_region_noPanic ?_
      refine wp_region_held_drew (S := Gn Wx (fun j => j = M)) (by kernel_rfl) (Gn.start _ _) (fun hHeld => ?_)
      have HMd : Hid (MapG Wx.drew M (g)) := Lib.hid (HG3.out.map.chg (s := fun _ => False) (Chg.refl _ _).drew id)
      generalize Wx.drew = wd2 at *
      refine wpAnyH_take (i := 0) (oi := { dst := some 31, op := Op.move (Operand.tmp 0), type := 78, pos := "trees.go:338", after := #[], guard := none }) (v := ?_) rfl (by kernel_rfl) (by kernel_rfl) (by kernel_rfl) (fun _ _ _ h => h) (Or.inl ⟨by rfl, ?_⟩) (by assumption) ?_
      rotate_left
      · intro w hSw
        skip
        clear hSw
        go_simp
        try with_reducible rfl
      try simp only [Act.put, List.setIfInBounds_toArray, List.set_cons_zero, List.set_cons_succ]
      refine wpAnyH_take (i := 1) (oi := { dst := some 32, op := Op.nilCheck (Operand.tmp 31), type := 0, pos := "trees.go:338", after := #[{ on := 0, ground := Ground.data }], guard := none }) (v := ?_) rfl (by kernel_rfl) (by kernel_rfl) (by kernel_rfl) (fun _ _ _ h => h) (Or.inl ⟨by rfl, ?_⟩) (by assumption) ?_
      rotate_left
      · intro w hSw
        skip
        clear hSw
        go_simp
        try with_reducible rfl
      try simp only [Act.put, List.setIfInBounds_toArray, List.set_cons_zero, List.set_cons_succ]
      refine wpAnyH_take (i := 2) (oi := { dst := some 33, op := Op.fieldAddr 102 (Operand.tmp 32) 0, type := 0, pos := "trees.go:338", after := #[{ on := 1, ground := Ground.data }], guard := none }) (v := ?_) rfl (by kernel_rfl) (by kernel_rfl) (by kernel_rfl) (fun _ _ _ h => h) (Or.inl ⟨by rfl, ?_⟩) (by assumption) ?_
      rotate_left
      · intro w hSw
        skip
        clear hSw
        go_simp
        try with_reducible rfl
      try simp only [Act.put, List.setIfInBounds_toArray, List.set_cons_zero, List.set_cons_succ]
      refine wpAnyH_take (i := 4) (oi := { dst := some 35, op := Op.fieldAddr 32 (Operand.tmp 3) 0, type := 0, pos := "trees.go:338", after := #[], guard := none }) (v := ?_) rfl (by kernel_rfl) (by kernel_rfl) (by kernel_rfl) (fun _ _ _ h => h) (Or.inl ⟨by rfl, ?_⟩) (by assumption) ?_
      rotate_left
      · intro w hSw
        skip
        clear hSw
        go_simp
        try with_reducible rfl
      try simp only [Act.put, List.setIfInBounds_toArray, List.set_cons_zero, List.set_cons_succ]
      refine wpAnyH_take (i := 7) (oi := { dst := some 38, op := Op.move (Operand.tmp 0), type := 78, pos := "trees.go:338", after := #[], guard := none }) (v := ?_) rfl (by kernel_rfl) (by kernel_rfl) (by kernel_rfl) (fun _ _ _ h => h) (Or.inl ⟨by rfl, ?_⟩) (by assumption) ?_
      rotate_left
      · intro w hSw
        skip
        clear hSw
        go_simp
        try with_reducible rfl
      try simp only [Act.put, List.setIfInBounds_toArray, List.set_cons_zero, List.set_cons_succ]
      refine wpAnyH_take (i := 8) (oi := { dst := some 39, op := Op.nilCheck (Operand.tmp 38), type := 0, pos := "trees.go:338", after := #[{ on := 7, ground := Ground.data }], guard := none }) (v := ?_) rfl (by kernel_rfl) (by kernel_rfl) (by kernel_rfl) (fun _ _ _ h => h) (Or.inl ⟨by rfl, ?_⟩) (by assumption) ?_
      rotate_left
      · intro w hSw
        skip
        clear hSw
        go_simp
        try with_reducible rfl
      try simp only [Act.put, List.setIfInBounds_toArray, List.set_cons_zero, List.set_cons_succ]
      refine wpAnyH_take (i := 9) (oi := { dst := some 40, op := Op.fieldAddr 102 (Operand.tmp 39) 1, type := 0, pos := "trees.go:338", after := #[{ on := 8, ground := Ground.data }], guard := none }) (v := ?_) rfl (by kernel_rfl) (by kernel_rfl) (by kernel_rfl) (fun _ _ _ h => h) (Or.inl ⟨by rfl, ?_⟩) (by assumption) ?_
      rotate_left
      · intro w hSw
        skip
        clear hSw
        go_simp
        try with_reducible rfl
      try simp only [Act.put, List.setIfInBounds_toArray, List.set_cons_zero, List.set_cons_succ]
      refine wpAnyH_take (i := 3) (oi := { dst := some 34, op := Op.load 100 (Operand.tmp 33), type := 100, pos := "trees.go:338", after := #[{ on := 2, ground := Ground.data }], guard := none }) (v := ?_) rfl (by kernel_rfl) (by kernel_rfl) (by kernel_rfl) (fun _ _ _ h => h) (Or.inl ⟨by rfl, ?_⟩) (by assumption) ?_
      rotate_left
      · intro w hSw
        have hSw := OS _ hSw
        go_simp
        try with_reducible rfl
      try simp only [Act.put, List.setIfInBounds_toArray, List.set_cons_zero, List.set_cons_succ]
      refine wpAnyH_take (i := 5) (oi := { dst := some 36, op := Op.load 9 (Operand.tmp 35), type := 9, pos := "trees.go:338", after := #[{ on := 4, ground := Ground.data }], guard := none }) (v := ?_) rfl (by kernel_rfl) (by kernel_rfl) (by kernel_rfl) (fun _ _ _ h => h) (Or.inl ⟨by rfl, ?_⟩) (by assumption) ?_
      rotate_left
      · intro w hSw
        have hSw := OS _ hSw
        go_simp
        try with_reducible rfl
      try simp only [Act.put, List.setIfInBounds_toArray, List.set_cons_zero, List.set_cons_succ]
      refine wpAnyH_take (i := 6) (oi := { dst := some 37, op := Op.load 32 (Operand.tmp 3), type := 32, pos := "trees.go:338", after := #[], guard := none }) (v := _) rfl (by kernel_rfl) (by kernel_rfl) (by kernel_rfl) (fun _ _ _ h => h) (yieldsIf_load_mid (by rfl) _ _ rfl _ _ rfl _ _ (by intro w hSw; have hSw := OS _ hSw; go_split_ands; assumption) (by assumption) rfl (by assumption)) (by assumption) ?_
      try simp only [Act.put, List.setIfInBounds_toArray, List.set_cons_zero, List.set_cons_succ]
      refine wpAnyH_take (i := 10) (oi := { dst := some 41, op := Op.load 3 (Operand.tmp 40), type := 3, pos := "trees.go:338", after := #[{ on := 9, ground := Ground.data }], guard := none }) (v := ?_) rfl (by kernel_rfl) (by kernel_rfl) (by kernel_rfl) (fun _ _ _ h => h) (Or.inl ⟨by rfl, ?_⟩) (by assumption) ?_
      rotate_left
      · intro w hSw
        have hSw := OS _ hSw
        go_simp
        try with_reducible rfl
      try simp only [Act.put, List.setIfInBounds_toArray, List.set_cons_zero, List.set_cons_succ]
      refine wpAnyH_take (i := 11) (oi := { dst := some 42, op := Op.build 104 #[(0, Operand.tmp 37), (1, Operand.tmp 41)], type := 104, pos := "trees.go:338", after := #[{ on := 6, ground := Ground.data }, { on := 10, ground := Ground.data }], guard := none }) (v := .agg (plA ⟨n, k⟩)) rfl (by kernel_rfl) (by kernel_rfl) (by kernel_rfl) (fun _ _ _ h => h) (Or.inl ⟨by rfl, ?_⟩) (by assumption) ?_
      · intro w hSw
        skip
        clear hSw
        go_simp
        rfl
      try simp only [Act.put, List.setIfInBounds_toArray, List.set_cons_zero, List.set_cons_succ]
      refine wpAnyH_ready (rs := [12]) (by kernel_rfl) (by simp) ?_
      refine (AllReadyH.cons (o := { dst := none, op := Op.mapUpdate 100 (Operand.tmp 34) (Operand.tmp 36) (Operand.tmp 42), type := 0, pos := "trees.go:338", after := #[{ on := 3, ground := Ground.data }, { on := 5, ground := Ground.data }, { on := 11, ground := Ground.data }, { on := 0, ground := Ground.phase }, { on := 1, ground := Ground.phase }, { on := 2, ground := Ground.phase }, { on := 3, ground := Ground.phase }, { on := 4, ground := Ground.phase }, { on := 5, ground := Ground.phase }, { on := 6, ground := Ground.phase }, { on := 7, ground := Ground.phase }, { on := 8, ground := Ground.phase }, { on := 9, ground := Ground.phase }, { on := 10, ground := Ground.phase }, { on := 11, ground := Ground.phase }], guard := none }) rfl (fun K hK => ?_) AllReadyH.nil)
      obtain ⟨w8, hrun8, hM8, hg8⟩ := HMd.out.put (by unfold maxLen; have := HLN.out; omega) ⟨n, k⟩ (by have := HPL.out; unfold maxLen; show n.path.length ≤ _; omega)
      have hrun9 : (Instr.mapUpdate 100 (.map (some M)) (.string (str n.path)) (.agg (plA ⟨n, k⟩))).run Tryz.prog wd2 = .ok () w8 := hrun8
      clear hrun8
      go_simp
      refine hK.out _ _ (Gn.grown (by assumption) hg8 (fun j hj => (by cases hj; exact .inl rfl))) (fun hHeld2 => ?_)
      clear hK K
      refine wpAnyH_done (by kernel_rfl) ?_ _
      refine NoPanic.normal ?_
      go_end0
      exact ⟨rfl, ⟨(HEND.out _ (by assumption)).2, by rw [HLY.out]; exact hM8⟩, (HEND.out _ (by assumption)).1⟩
    · have g1 : (wk == 2) = false := by rw [beq_eq_false_iff_ne]; exact hw2
      clear hcond HLD HID hw2
      go_upto_region 5 with (fail)
      clear k1 k2 k3
      have OS : ∀ w', Gn Wx (fun j => j = M) w' → w'.rangeAt w.heap.size 0 (ndV n) ∧ w'.cell? ⟨w.heap.size, 0, none⟩ = some (.string (str n.path)) ∧ w'.cell? ⟨B, 0, none⟩ = some (.map (some M)) ∧ w'.cell? ⟨B, 1, none⟩ = some (.int .i64 k) := fun w' hg =>
        ⟨rowC_range (hg.row HR3.out (by omega)) 0 _ (fun j u hj => by rw [Nat.zero_add, ← ndV_arr, List.getElem?_toArray]; exact hj), rowC_cell (hg.row HR3.out (by omega)) 0, rowC_cell (hg.row HG3.out.row hBM) 0, rowC_cell (hg.row HG3.out.row hBM) 1⟩
      have SO : ∀ w', Gn Wx (fun j => j = M) w' → Gn Wx (fun j => j = M) w' := fun _ h => h
      have HEND : Hid (∀ w', Gn Wx (fun j => j = M) w' → GrC B M w w' ∧ rowC w' B #[.map (some M), .int .i64 k] 102) := Lib.hid fun w' hg => ⟨Chg.trans HC3.out hg (fun j _ hj => .inr hj), hg.row HG3.out.row hBM⟩
      refine wp_region_noPanic ?_
      refine wp_region_held_drew (S := Gn Wx (fun j => j = M)) (by kernel_rfl) (Gn.start _ _) (fun hHeld => ?_)
      have HMd : Hid (MapG Wx.drew M (g)) := Lib.hid (HG3.out.map.chg (s := fun _ => False) (Chg.refl _ _).drew id)
      generalize Wx.drew = wd2 at *
      refine wpAnyH_take (i := 0) (oi := { dst := some 31, op := Op.move (Operand.tmp 0), type := 78, pos := "trees.go:338", after := #[], guard := none }) (v := ?_) rfl (by kernel_rfl) (by kernel_rfl) (by kernel_rfl) (fun _ _ _ h => h) (Or.inl ⟨by rfl, ?_⟩) (by assumption) ?_
      rotate_left
      · intro w hSw
        skip
        clear hSw
        go_simp
        try with_reducible rfl
      try simp only [Act.put, List.setIfInBounds_toArray, List.set_cons_zero, List.set_cons_succ]
      refine wpAnyH_take (i := 1) (oi := { dst := some 32, op := Op.nilCheck (Operand.tmp 31), type := 0, pos := "trees.go:338", after := #[{ on := 0, ground := Ground.data }], guard := none }) (v := ?_) rfl (by kernel_rfl) (by kernel_rfl) (by kernel_rfl) (fun _ _ _ h => h) (Or.inl ⟨by rfl, ?_⟩) (by assumption) ?_
      rotate_left
      · intro w hSw
        skip
        clear hSw
        go_simp
        try with_reducible rfl
      try simp only [Act.put, List.setIfInBounds_toArray, List.set_cons_zero, List.set_cons_succ]
      refine wpAnyH_take (i := 2) (oi := { dst := some 33, op := Op.fieldAddr 102 (Operand.tmp 32) 0, type := 0, pos := "trees.go:338", after := #[{ on := 1, ground := Ground.data }], guard := none }) (v := ?_) rfl (by kernel_rfl) (by kernel_rfl) (by kernel_rfl) (fun _ _ _ h => h) (Or.inl ⟨by rfl, ?_⟩) (by assumption) ?_
      rotate_left
      · intro w hSw
        skip
        clear hSw
        go_simp
        try with_reducible rfl
      try simp only [Act.put, List.setIfInBounds_toArray, List.set_cons_zero, List.set_cons_succ]
      refine wpAnyH_take (i := 4) (oi := { dst := some 35, op := Op.fieldAddr 32 (Operand.tmp 3) 0, type := 0, pos := "trees.go:338", after := #[], guard := none }) (v := ?_) rfl (by kernel_rfl) (by kernel_rfl) (by kernel_rfl) (fun _ _ _ h => h) (Or.inl ⟨by rfl, ?_⟩) (by assumption) ?_
      rotate_left
      · intro w hSw
        skip
        clear hSw
        go_simp
        try with_reducible rfl
      try simp only [Act.put, List.setIfInBounds_toArray, List.set_cons_zero, List.set_cons_succ]
      refine wpAnyH_take (i := 7) (oi := { dst := some 38, op := Op.move (Operand.tmp 0), type := 78, pos := "trees.go:338", after := #[], guard := none }) (v := ?_) rfl (by kernel_rfl) (by kernel_rfl) (by kernel_rfl) (fun _ _ _ h => h) (Or.inl ⟨by rfl, ?_⟩) (by assumption) ?_
      rotate_left
      · intro w hSw
        skip
        clear hSw
        go_simp
        try with_reducible rfl
      try simp only [Act.put, List.setIfInBounds_toArray, List.set_cons_zero, List.set_cons_succ]
      refine wpAnyH_take (i := 8) (oi := { dst := some 39, op := Op.nilCheck (Operand.tmp 38), type := 0, pos := "trees.go:338", after := #[{ on := 7, ground := Ground.data }], guard := none }) (v := ?_) rfl (by kernel_rfl) (by kernel_rfl) (by kernel_rfl) (fun _ _ _ h => h) (Or.inl ⟨by rfl, ?_⟩) (by assumption) ?_
      rotate_left
      · intro w hSw
        skip
        clear hSw
        go_simp
        try with_reducible rfl
      try simp only [Act.put, List.setIfInBounds_toArray, List.set_cons_zero, List.set_cons_succ]
      refine wpAnyH_take (i := 9) (oi := { dst := some 40, op := Op.fieldAddr 102 (Operand.tmp 39) 1, type := 0, pos := "trees.go:338", after := #[{ on := 8, ground := Ground.data }], guard := none }) (v := ?_) rfl (by kernel_rfl) (by kernel_rfl) (by kernel_rfl) (fun _ _ _ h => h) (Or.inl ⟨by rfl, ?_⟩) (by assumption) ?_
      rotate_left
      · intro w hSw
        skip
        clear hSw
        go_simp
        try with_reducible rfl
      try simp only [Act.put, List.setIfInBounds_toArray, List.set_cons_zero, List.set_cons_succ]
      refine wpAnyH_take (i := 3) (oi := { dst := some 34, op := Op.load 100 (Operand.tmp 33), type := 100, pos := "trees.go:338", after := #[{ on := 2, ground := Ground.data }], guard := none }) (v := ?_) rfl (by kernel_rfl) (by kernel_rfl) (by kernel_rfl) (fun _ _ _ h => h) (Or.inl ⟨by rfl, ?_⟩) (by assumption) ?_
      rotate_left
      · intro w hSw
        have hSw := OS _ hSw
        go_simp
        try with_reducible rfl
      try simp only [Act.put, List.setIfInBounds_toArray, List.set_cons_zero, List.set_cons_succ]
      refine wpAnyH_take (i := 5) (oi := { dst := some 36, op := Op.load 9 (Operand.tmp 35), type := 9, pos := "trees.go:338", after := #[{ on := 4, ground := Ground.data }], guard := none }) (v := ?_) rfl (by kernel_rfl) (by kernel_rfl) (by kernel_rfl) (fun _ _ _ h => h) (Or.inl ⟨by rfl, ?_⟩) (by assumption) ?_
      rotate_left
      · intro w hSw
        have hSw := OS _ hSw
        go_simp
        try with_reducible rfl
      try simp only [Act.put, List.setIfInBounds_toArray, List.set_cons_zero, List.set_cons_succ]
      refine wpAnyH_take (i := 6) (oi := { dst := some 37, op := Op.load 32 (Operand.tmp 3), type := 32, pos := "trees.go:338", after := #[], guard := none }) (v := _) rfl (by kernel_rfl) (by kernel_rfl) (by kernel_rfl) (fun _ _ _ h => h) (yieldsIf_load_mid (by rfl) _ _ rfl _ _ rfl _ _ (by intro w hSw; have hSw := OS _ hSw; go_split_ands; assumption) (by assumption) rfl (by assumption)) (by assumption) ?_
      try simp only [Act.put, List.setIfInBounds_toArray, List.set_cons_zero, List.set_cons_succ]
      refine wpAnyH_take (i := 10) (oi := { dst := some 41, op := Op.load 3 (Operand.tmp 40), type := 3, pos := "trees.go:338", after := #[{ on := 9, ground := Ground.data }], guard := none }) (v := ?_) rfl (by kernel_rfl) (by kernel_rfl) (by kernel_rfl) (fun _ _ _ h => h) (Or.inl ⟨by rfl, ?_⟩) (by assumption) ?_
      rotate_left
      · intro w hSw
        have hSw := OS _ hSw
        go_simp
        try with_reducible rfl
      try simp only [Act.put, List.setIfInBounds_toArray, List.set_cons_zero, List.set_cons_succ]
      refine wpAnyH_take (i := 11) (oi := { dst := some 42, op := Op.build 104 #[(0, Operand.tmp 37), (1, Operand.tmp 41)], type := 104, pos := "trees.go:338", after := #[{ on := 6, ground := Ground.data }, { on := 10, ground := Ground.data }], guard := none }) (v := .agg (plA ⟨n, k⟩)) rfl (by kernel_rfl) (by kernel_rfl) (by kernel_rfl) (fun _ _ _ h => h) (Or.inl ⟨by rfl, ?_⟩) (by assumption) ?_
      · intro w hSw
        skip
        clear hSw
        go_simp
        rfl
      try simp only [Act.put, List.setIfInBounds_toArray, List.set_cons_zero, List.set_cons_succ]
      refine wpAnyH_ready (rs := [12]) (by kernel_rfl) (by simp) ?_
      refine (AllReadyH.cons (o := { dst := none, op := Op.mapUpdate 100 (Operand.tmp 34) (Operand.tmp 36) (Operand.tmp 42), type := 0, pos := "trees.go:338", after := #[{ on := 3, ground := Ground.data }, { on := 5, ground := Ground.data }, { on := 11, ground := Ground.data }, { on := 0, ground := Ground.phase }, { on := 1, ground := Ground.phase }, { on := 2, ground := Ground.phase }, { on := 3, ground := Ground.phase }, { on := 4, ground := Ground.phase }, { on := 5, ground := Ground.phase }, { on := 6, ground := Ground.phase }, { on := 7, ground := Ground.phase }, { on := 8, ground := Ground.phase }, { on := 9, ground := Ground.phase }, { on := 10, ground := Ground.phase }, { on := 11, ground := Ground.phase }], guard := none }) rfl (fun K hK => ?_) AllReadyH.nil)
      obtain ⟨w8, hrun8, hM8, hg8⟩ := HMd.out.put (by unfold maxLen; have := HLN.out; omega) ⟨n, k⟩ (by have := HPL.out; unfold maxLen; show n.path.length ≤ _; omega)
      have hrun9 : (Instr.mapUpdate 100 (.map (some M)) (.string (str n.path)) (.agg (plA ⟨n, k⟩))).run Tryz.prog wd2 = .ok () w8 := hrun8
      clear hrun8
      go_simp
      refine hK.out _ _ (Gn.grown (by assumption) hg8 (fun j hj => (by cases hj; exact .inl rfl))) (fun hHeld2 => ?_)
      clear hK K
      refine wpAnyH_done (by kernel_rfl) ?_ _
      refine NoPanic.normal ?_
      go_end0
      exact ⟨rfl, ⟨(HEND.out _ (by assumption)).2, by rw [HLY.out]; exact hM8⟩, (HEND.out _ (by assumption)).1⟩
  | true =>
    have HLY : Hid (layG k g n = putG (g.filter (fun q => !insideB n.path q.nd.path)) ⟨n, k⟩) := Lib.hid (by rw [HLD.out, hcond]; rfl)
    rw [Bool.and_eq_true, HID.out, decide_eq_true_eq, Bool.not_eq_true', decide_eq_false_iff_not] at hcond
    obtain ⟨hw2, hn2⟩ := hcond
    have g1 : (wk == 2) = true := by rw [beq_iff_eq]; exact hw2
    have g2 : (n.kind != 2) = true := by rw [bne_iff_ne]; exact hn2
    clear HLD HID hw2 hn2
    go_upto_region 4 with (go_at_call 87; ((with_reducible refine (CF _).mono ?_); rintro e w2 ⟨rfl, rfl⟩))
    obtain ⟨r1, r2, hb2, hz2⟩ := box_two W1 (str n.path) (.func (.func 112) #[] #[.pointer (some ⟨W1.heap.size, 0, none⟩)])
    rw [hz1] at r1 r2 hb2 hz2
    have HB2 : Hid (Below w.heap.size w _) := Lib.hid (HB1.out.trans (hb2.mono (by omega)))
    have HR2 := Lib.hid (rowC_below HR1.out (by rw [hz1]; exact hb2) (rowC_lt HR1.out))
    have HG2 : Hid (GrAt _ B M g k) := Lib.hid (HG1.out.below (by rw [hz1]; exact hb2))
    clear hb2 k1 k2 k3 hz2
    generalize ((W1.alloc (.cells #[.string (str n.path)] 9)).alloc (.cells #[.func (.func 112) #[] #[.pointer (some ⟨w.heap.size + 2, 0, none⟩)]] 49)) = W2 at *
    have c0 : W2.cell? ⟨B, 0, none⟩ = some (.map (some M)) := rowC_cell HG2.out.row 0
    have CD := delFunc_any (fun x => insideB n.path x.nd.path) 93 #[.pointer (some ⟨w.heap.size + 2 + 1, 0, none⟩)] M g W2 (enters_of Tryz.func93 (by kernel_rfl) rfl) HG2.out.map
      (fun W p _ hgr => put1_del n.path (w.heap.size + 2) (w.heap.size + 2 + 1) M W2 (rowC_cell r2 0) (rowC_cell r1 0) (by omega) (by omega) W p hgr)
    clear r1 r2
    go_upto_region 5 with (go_at_call 90; (refine CD.mono ?_; rintro e Wx ⟨rfl, hM3, hg3⟩))
    have hc3 : Chg (fun j => j = M) W2 Wx := (Chg.refl _ _).grown hg3 (fun j hj => by cases hj; exact .inl rfl)
    have HG3 : Hid (GrAt Wx B M (g.filter (fun q => !insideB n.path q.nd.path)) k) := Lib.hid ⟨hc3.rowC HG2.out.row hBM, hM3⟩
    have HC3 : Hid (GrC B M w Wx) := Lib.hid ((Chg.of_below HB2.out).trans hc3 (fun j _ hj => .inr hj))
    have HR3 := Lib.hid (hc3.rowC HR2.out (by omega))
    have HLN : Hid ((g.filter (fun q => !insideB n.path q.nd.path)).length ≤ 1000000) := Lib.hid (Nat.le_trans (List.length_filter_le _ _) HLL.out)
    clear hM3 hg3 hc3 c0
    have OS : ∀ w', Gn Wx (fun j => j = M) w' → w'.rangeAt w.heap.size 0 (ndV n) ∧ w'.cell? ⟨w.heap.size, 0, none⟩ = some (.string (str n.path)) ∧ w'.cell? ⟨B, 0, none⟩ = some (.map (some M)) ∧ w'.cell? ⟨B, 1, none⟩ = some (.int .i64 k) := fun w' hg =>
      ⟨rowC_range (hg.row HR3.out (by omega)) 0 _ (fun j u hj => by rw [Nat.zero_add, ← ndV_arr, List.getElem?_toArray]; exact hj), rowC_cell (hg.row HR3.out (by omega)) 0, rowC_cell (hg.row HG3.out.row hBM) 0, rowC_cell (hg.row HG3.out.row hBM) 1⟩
    have SO : ∀ w', Gn Wx (fun j => j = M) w' → Gn Wx (fun j => j = M) w' := fun _ h => h
    have HEND : Hid (∀ w', Gn Wx (fun j => j = M) w' → GrC B M w w' ∧ rowC w' B #[.map (some M), .int .i64 k] 102) := Lib.hid fun w' hg => ⟨Chg.trans HC3.out hg (fun j _ hj => .inr hj), hg.row HG3.out.row hBM⟩
    refine wp_region_noPanic ?_
    refine wp_region_held_drew (S := Gn Wx (fun j => j = M)) (by kernel_rfl) (Gn.start _ _) (fun hHeld => ?_)
    have HMd : Hid (MapG Wx.drew M (g.filter (fun q => !insideB n.path q.nd.path))) := Lib.hid (HG3.out.map.chg (s := fun _ => False) (Chg.refl _ _).drew id)
    generalize Wx.drew = wd2 at *
    refine wpAnyH_take (i := 0) (oi := { dst := some 31, op := Op.move (Operand.tmp 0), type := 78, pos := "trees.go:338", after := #[], guard := none }) (v := ?_) rfl (by kernel_rfl) (by kernel_rfl) (by kernel_rfl) (fun _ _ _ h => h) (Or.inl ⟨by rfl, ?_⟩) (by assumption) ?_
    rotate_left
    · intro w hSw
      skip
      clear hSw
      go_simp
      try with_reducible rfl
    try simp only [Act.put, List.setIfInBounds_toArray, List.set_cons_zero, List.set_cons_succ]
    refine wpAnyH_take (i := 1) (oi := { dst := some 32, op := Op.nilCheck (Operand.tmp 31), type := 0, pos := "trees.go:338", after := #[{ on := 0, ground := Ground.data }], guard := none }) (v := ?_) rfl (by kernel_rfl) (by kernel_rfl) (by kernel_rfl) (fun _ _ _ h => h) (Or.inl ⟨by rfl, ?_⟩) (by assumption) ?_
    rotate_left
    · intro w hSw
      skip
      clear hSw
      go_simp
      try with_reducible rfl
    try simp only [Act.put, List.setIfInBounds_toArray, List.set_cons_zero, List.set_cons_succ]
    refine wpAnyH_take (i := 2) (oi := { dst := some 33, op := Op.fieldAddr 102 (Operand.tmp 32) 0, type := 0, pos := "trees.go:338", after := #[{ on := 1, ground := Ground.data }], guard := none }) (v := ?_) rfl (by kernel_rfl) (by kernel_rfl) (by kernel_rfl) (fun _ _ _ h => h) (Or.inl ⟨by rfl, ?_⟩) (by assumption) ?_
    rotate_left
    · intro w hSw
      skip
      clear hSw
      go_simp
      try with_reducible rfl
    try simp only [Act.put, List.setIfInBounds_toArray, List.set_cons_zero, List.set_cons_succ]
    refine wpAnyH_take (i := 4) (oi := { dst := some 35, op := Op.fieldAddr 32 (Operand.tmp 3) 0, type := 0, pos := "trees.go:338", after := #[], guard := none }) (v := ?_) rfl (by kernel_rfl) (by kernel_rfl) (by kernel_rfl) (fun _ _ _ h => h) (Or.inl ⟨by rfl, ?_⟩) (by assumption) ?_
    rotate_left
    · intro w hSw
      skip
      clear hSw
      go_simp
      try with_reducible rfl
    try simp only [Act.put, List.setIfInBounds_toArray, List.set_cons_zero, List.set_cons_succ]
    refine wpAnyH_take (i := 7) (oi := { dst := some 38, op := Op.move (Operand.tmp 0), type := 78, pos := "trees.go:338", after := #[], guard := none }) (v := ?_) rfl (by kernel_rfl) (by kernel_rfl) (by kernel_rfl) (fun _ _ _ h => h) (Or.inl ⟨by rfl, ?_⟩) (by assumption) ?_
    rotate_left
    · intro w hSw
      skip
      clear hSw
      go_simp
      try with_reducible rfl
    try simp only [Act.put, List.setIfInBounds_toArray, List.set_cons_zero, List.set_cons_succ]
    refine wpAnyH_take (i := 8) (oi := { dst := some 39, op := Op.nilCheck (Operand.tmp 38), type := 0, pos := "trees.go:338", after := #[{ on := 7, ground := Ground.data }], guard := none }) (v := ?_) rfl (by kernel_rfl) (by kernel_rfl) (by kernel_rfl) (fun _ _ _ h => h) (Or.inl ⟨by rfl, ?_⟩) (by assumption) ?_
    rotate_left
    · intro w hSw
      skip
      clear hSw
      go_simp
      try with_reducible rfl
    try simp only [Act.put, List.setIfInBounds_toArray, List.set_cons_zero, List.set_cons_succ]
    refine wpAnyH_take (i := 9) (oi := { dst := some 40, op := Op.fieldAddr 102 (Operand.tmp 39) 1, type := 0, pos := "trees.go:338", after := #[{ on := 8, ground := Ground.data }], guard := none }) (v := ?_) rfl (by kernel_rfl) (by kernel_rfl) (by kernel_rfl) (fun _ _ _ h => h) (Or.inl ⟨by rfl, ?_⟩) (by assumption) ?_
    rotate_left
    · intro w hSw
      skip
      clear hSw
      go_simp
      try with_reducible rfl
    try simp only [Act.put, List.setIfInBounds_toArray, List.set_cons_zero, List.set_cons_succ]
    refine wpAnyH_take (i := 3) (oi := { dst := some 34, op := Op.load 100 (Operand.tmp 33), type := 100, pos := "trees.go:338", after := #[{ on := 2, ground := Ground.data }], guard := none }) (v := ?_) rfl (by kernel_rfl) (by kernel_rfl) (by kernel_rfl) (fun _ _ _ h => h) (Or.inl ⟨by rfl, ?_⟩) (by assumption) ?_
    rotate_left
    · intro w hSw
      have hSw := OS _ hSw
      go_simp
      try with_reducible rfl
    try simp only [Act.put, List.setIfInBounds_toArray, List.set_cons_zero, List.set_cons_succ]
    refine wpAnyH_take (i := 5) (oi := { dst := some 36, op := Op.load 9 (Operand.tmp 35), type := 9, pos := "trees.go:338", after := #[{ on := 4, ground := Ground.data }], guard := none }) (v := ?_) rfl (by kernel_rfl) (by kernel_rfl) (by kernel_rfl) (fun _ _ _ h => h) (Or.inl ⟨by rfl, ?_⟩) (by assumption) ?_
    rotate_left
    · intro w hSw
      have hSw := OS _ hSw
      go_simp
      try with_reducible rfl
    try simp only [Act.put, List.setIfInBounds_toArray, List.set_cons_zero, List.set_cons_succ]
    refine wpAnyH_take (i := 6) (oi := { dst := some 37, op := Op.load 32 (Operand.tmp 3), type := 32, pos := "trees.go:338", after := #[], guard := none }) (v := _) rfl (by kernel_rfl) (by kernel_rfl) (by kernel_rfl) (fun _ _ _ h => h) (yieldsIf_load_mid (by rfl) _ _ rfl _ _ rfl _ _ (by intro w hSw; have hSw := OS _ hSw; go_split_ands; assumption) (by assumption) rfl (by assumption)) (by assumption) ?_
    try simp only [Act.put, List.setIfInBounds_toArray, List.set_cons_zero, List.set_cons_succ]
    refine wpAnyH_take (i := 10) (oi := { dst := some 41, op := Op.load 3 (Operand.tmp 40), type := 3, pos := "trees.go:338", after := #[{ on := 9, ground := Ground.data }], guard := none }) (v := ?_) rfl (by kernel_rfl) (by kernel_rfl) (by kernel_rfl) (fun _ _ _ h => h) (Or.inl ⟨by rfl, ?_⟩) (by assumption) ?_
    rotate_left
    · intro w hSw
      have hSw := OS _ hSw
      go_simp
      try with_reducible rfl
    try simp only [Act.put, List.setIfInBounds_toArray, List.set_cons_zero, List.set_cons_succ]
    refine wpAnyH_take (i := 11) (oi := { dst := some 42, op := Op.build 104 #[(0, Operand.tmp 37), (1, Operand.tmp 41)], type := 104, pos := "trees.go:338", after := #[{ on := 6, ground := Ground.data }, { on := 10, ground := Ground.data }], guard := none }) (v := .agg (plA ⟨n, k⟩)) rfl (by kernel_rfl) (by kernel_rfl) (by kernel_rfl) (fun _ _ _ h => h) (Or.inl ⟨by rfl, ?_⟩) (by assumption) ?_
    · intro w hSw
      skip
      clear hSw
      go_simp
      rfl
    try simp only [Act.put, List.setIfInBounds_toArray, List.set_cons_zero, List.set_cons_succ]
    refine wpAnyH_ready (rs := [12]) (by kernel_rfl) (by simp) ?_
    refine (AllReadyH.cons (o := { dst := none, op := Op.mapUpdate 100 (Operand.tmp 34) (Operand.tmp 36) (Operand.tmp 42), type := 0, pos := "trees.go:338", after := #[{ on := 3, ground := Ground.data }, { on := 5, ground := Ground.data }, { on := 11, ground := Ground.data }, { on := 0, ground := Ground.phase }, { on := 1, ground := Ground.phase }, { on := 2, ground := Ground.phase }, { on := 3, ground := Ground.phase }, { on := 4, ground := Ground.phase }, { on := 5, ground := Ground.phase }, { on := 6, ground := Ground.phase }, { on := 7, ground := Ground.phase }, { on := 8, ground := Ground.phase }, { on := 9, ground := Ground.phase }, { on := 10, ground := Ground.phase }, { on := 11, ground := Ground.phase }], guard := none }) rfl (fun K hK => ?_) AllReadyH.nil)
    obtain ⟨w8, hrun8, hM8, hg8⟩ := HMd.out.put (by unfold maxLen; have := HLN.out; omega) ⟨n, k⟩ (by have := HPL.out; unfold maxLen; show n.path.length ≤ _; omega)
    have hrun9 : (Instr.mapUpdate 100 (.map (some M)) (.string (str n.path)) (.agg (plA ⟨n, k⟩))).run Tryz.prog wd2 = .ok () w8 := hrun8
    clear hrun8
    go_simp
    refine hK.out _ _ (Gn.grown (by assumption) hg8 (fun j hj => (by cases hj; exact .inl rfl))) (fun hHeld2 => ?_)
    clear hK K
    refine wpAnyH_done (by kernel_rfl) ?_ _
    refine NoPanic.normal ?_
    go_end0
    exact ⟨rfl, ⟨(HEND.out _ (by assumption)).2, by rw [HLY.out]; exact hM8⟩, (HEND.out _ (by assumption)).1⟩
end Go.Proofs.YtoallfcpnbhhiaaGreatDoor
#print axioms Go.Proofs.YtoallfcpnbhhiaaGreatDoor.gput_any

/- Generic: some cells of a row are set, one behind the other. -/
namespace Go.Proofs.YtoallfcpnbhhiaaGreatDoor
open Go.RowKit

/-- Cells in a row, one behind the other, set. -/
theorem rowC_setCells {b : Nat} {t : TypeId} : ∀ (vs : List Value) (o : Nat) {w : World} {cs : List Value}, rowC w b cs.toArray t → o + vs.length ≤ cs.length → rowC (w.setCells b o vs) b (cs.take o ++ vs ++ cs.drop (o + vs.length)).toArray t
  | [], o, w, cs, h, _ => by
    rw [List.append_nil, List.length_nil, Nat.add_zero, List.take_append_drop]
    exact h
  | v :: r, o, w, cs, h, hl => by
    rw [List.length_cons] at hl
    have h1 := rowC_set h o v
    rw [List.setIfInBounds_toArray] at h1
    have h2 := rowC_setCells r (o + 1) h1 (by rw [List.length_set]; omega)
    rw [World.setCells]
    have e : (cs.set o v).take (o + 1) ++ r ++ (cs.set o v).drop (o + 1 + r.length) = cs.take o ++ (v :: r) ++ cs.drop (o + (v :: r).length) := by
      rw [List.drop_set_of_lt (by omega), List.take_succ_eq_append_getElem (by rw [List.length_set]; omega), List.getElem_set_self, List.take_set_of_le (Nat.le_refl _), List.length_cons]
      simp [Nat.add_assoc, Nat.add_comm 1]
    rw [e] at h2
    exact h2
theorem row_there {w : World} {b : Nat} {t : TypeId} {cs : Array Value} (h : rowC w b cs t) (o n : Nat) (hn : o + n ≤ cs.size) : w.there b o n := fun j hj => by
  refine ⟨?_, rowC_free h _⟩
  rw [rowC_cell h, Array.getElem?_eq_getElem (by omega)]
  rfl
theorem Gn.sets {W : World} {s : Nat → Prop} {b : Nat} : ∀ (vs : List Value) (o : Nat) {w : World}, Gn W s w → (s b ∨ W.heap.size ≤ b) → Gn W s (w.setCells b o vs)
  | [], _, _, h, _ => h
  | v :: r, o, w, h, hb => by
    rw [World.setCells]
    exact Gn.sets r (o + 1) (h.cell ⟨b, o, none⟩ v hb) hb
end Go.Proofs.YtoallfcpnbhhiaaGreatDoor

