/- Merged: TtK, TtL. -/
import Derived.Test.YtbjgmkjinnbokaaGreatDoorM14
import Derived.Laws.EntriesVeiled
/- Layer 16: the program's takeAway. -/
namespace Go.Proofs.YtbjgmkjinnbokaaGreatDoor
open Go.RowKit

structure GrAt (w : World) (B M : Nat) (g : List Pl) (k : Int) : Prop where
  row : rowC w B #[.map (some M), .int .i64 k] 62
  map : MapG w M g
theorem GrAt.ne {w : World} {B M : Nat} {g : List Pl} {k : Int} (h : GrAt w B M g k) : B ≠ M := fun e => by
  have h1 : w.heap[B]? = _ := h.row
  obtain ⟨es, clock, hb, _⟩ := h.map
  rw [← e, h1] at hb
  cases hb
theorem GrAt.chg {s : Nat → Prop} {w w' : World} {B M : Nat} {g : List Pl} {k : Int} (h : GrAt w B M g k) (hc : Chg s w w') (hB : ¬ s B) (hM : ¬ s M) : GrAt w' B M g k := ⟨hc.rowC h.row hB, h.map.chg hc hM⟩
theorem GrAt.below {w w' : World} {B M : Nat} {g : List Pl} {k : Int} (h : GrAt w B M g k) (hb : Below w.heap.size w w') : GrAt w' B M g k := h.chg (s := fun _ => False) (Chg.of_below hb) id id
/-- What a call on it changes. -/
def GrC (B M : Nat) (w w' : World) : Prop := Chg (fun j => j = B ∨ j = M) w w'
theorem takeG_in (k : Int) (g : List Pl) (dir name : List UInt8) : takeG k g dir name true = g.filter fun p => !(!decide (p.lay = k) && (!decide (p.nd.path = dir) && insideB dir p.nd.path)) := rfl
theorem takeG_from (k : Int) (g : List Pl) (dir name : List UInt8) : takeG k g dir name false = g.filter fun p => !(!decide (p.lay = k) && insideB (join2 dir name) p.nd.path) := rfl
theorem box_two (w1 : World) (s : ByteArray) (v : Value) :
    rowC ((w1.alloc (.cells #[.string s] 9)).alloc (.cells #[v] 106)) w1.heap.size #[.string s] 9 ∧
    rowC ((w1.alloc (.cells #[.string s] 9)).alloc (.cells #[v] 106)) (w1.heap.size + 1) #[v] 106 ∧
    Below w1.heap.size w1 ((w1.alloc (.cells #[.string s] 9)).alloc (.cells #[v] 106)) ∧
    ((w1.alloc (.cells #[.string s] 9)).alloc (.cells #[v] 106)).heap.size = w1.heap.size + 2 := by
  have e1 : (w1.alloc (.cells #[.string s] 9)).heap.size = w1.heap.size + 1 := size_alloc _ _
  have r1 := rowC_new w1 #[.string s] 9
  have r2 := rowC_new (w1.alloc (.cells #[.string s] 9)) #[v] 106
  rw [e1] at r2
  refine ⟨rowC_alloc r1 _, r2, ?_, ?_⟩
  · exact ((Below.refl _ _).alloc (Nat.le_refl _) _).alloc (by rw [e1]; omega) _
  · rw [size_alloc, e1]
/-- What a closure of what goes asks, and what it says: over whatever the map has become. -/
theorem take1_del (g : Nat) (fp : List UInt8 → Bool) (top : List UInt8) (nb : Nat) (eg : ∀ args w, (callFunc g args).run Tryz.prog w = .ok (.enter g args) w)
    (hg : ∀ W : World, W.cell? ⟨nb, 0, none⟩ = some (.string (str top)) → ∀ p, Calls Tryz.prog g (#[.string (str p)] ++ #[.pointer (some ⟨nb, 0, none⟩)]) W fun e w' => e = .returned (.bool (fp p)) ∧ W = w')
    (b4 b8 B M : Nat) (k : Int) (w : World) (c4 : w.cell? ⟨b4, 0, none⟩ = some (.pointer (some ⟨B, 0, none⟩))) (c8 : w.cell? ⟨b8, 0, none⟩ = some (.func (.func g) #[] #[.pointer (some ⟨nb, 0, none⟩)]))
    (cB : w.cell? ⟨B, 1, none⟩ = some (.int .i64 k)) (cn : w.cell? ⟨nb, 0, none⟩ = some (.string (str top))) (n4 : b4 ≠ M) (n8 : b8 ≠ M) (nB : B ≠ M) (nn : nb ≠ M) (W : World) (x : Pl) (hgr : w.grownBy W (some M)) :
    Calls Tryz.prog 63 (#[.string (str x.nd.path), .agg (plA x)] ++ #[.pointer (some ⟨b4, 0, none⟩), .pointer (some ⟨b8, 0, none⟩)]) W fun e w' => e = .returned (.bool (!decide (x.lay = k) && fp x.nd.path)) ∧ W.grownBy w' none := by
  have far : ∀ {a : Addr} {v : Value}, w.cell? a = some v → a.block ≠ M → W.cell? a = some v := fun {a v} h hne => by
    rw [World.cell?_of_block (hgr.block _ (World.block_lt_of_cell? w a h) (fun e => hne (Option.some.inj e)))]
    exact h
  exact take1_any g fp top nb eg hg b4 b8 B k x W (far c4 n4) (far c8 n8) (far cB nB) (far cn nn)
set_option maxRecDepth 100000 in
set_option maxHeartbeats 8000000 in
theorem takeAway_any (dir name : List UInt8) (op : Bool) (hd : dir.length ≤ 1000000) (hn : name.length ≤ 1000000) (B M : Nat) (g : List Pl) (k : Int) (w : World) (h : GrAt w B M g k) :
    Calls Tryz.prog 42 #[.pointer (some ⟨B, 0, none⟩), .string (str dir), .string (str name), .bool op] w fun e w' => e = .returned (.tuple #[]) ∧ GrAt w' B M (takeG k g dir name op) k ∧ GrC B M w w' := by
  have CJ := fun W => join_any dir name hd hn W
  have CF := fun W => from_any (join2 dir name) W
  have CI := fun W => in_any dir W
  have HTF := Lib.hid (takeG_from k g dir name)
  have HTI := Lib.hid (takeG_in k g dir name)
  have hBw := rowC_lt h.row
  have hMw := h.map.lt
  have hBM := h.ne
  generalize hjn : join2 dir name = jn at *
  clear hjn hd hn
  obtain ⟨W0, hW0⟩ : ∃ W0, W0 = w.alloc (.cells #[.pointer (some ⟨B, 0, none⟩)] 43) := ⟨_, rfl⟩
  have HW0 := Lib.hid hW0
  have HB0 : Hid (Below w.heap.size w W0) := Lib.hid (by rw [hW0]; exact (Below.refl _ _).alloc (Nat.le_refl _) _)
  have HR0 : Hid (rowC W0 w.heap.size #[.pointer (some ⟨B, 0, none⟩)] 43) := Lib.hid (by rw [hW0]; exact rowC_new w _ _)
  have HG := Lib.hid h
  clear hW0 h
  go_enter Tryz.func42, Tryz.ntmps42
  go_upto_region 1 with (fail)
  rw [← HW0.out]
  go_upto_region 2 with (first
    | (go_at_call 60; ((with_reducible refine (CJ _).mono ?_); rintro e w1 ⟨rfl, hB1⟩; have HB1 := Lib.hid (HB0.out.trans (hB1.mono HB0.out.size)); have HR1 := Lib.hid (rowC_below HR0.out hB1 (rowC_lt HR0.out)); clear hB1; have HX := Lib.hid (fun v => box_two w1 (str jn) v)))
    | (go_at_call 59; ((with_reducible refine (CF _).mono ?_); rintro e w2 ⟨rfl, rfl⟩)))
  have hw1 := HB1.out.size
  obtain ⟨r1, r2, hb2, hz2⟩ := HX.out (.func (.func 87) #[] #[.pointer (some ⟨w1.heap.size, 0, none⟩)])
  generalize ((w1.alloc (.cells #[.string (str jn)] 9)).alloc (.cells #[.func (.func 87) #[] #[.pointer (some ⟨w1.heap.size, 0, none⟩)]] 106)) = W2 at *
  have HB2 := Lib.hid (HB1.out.trans (hb2.mono hw1))
  have hw4 : w.heap.size < w1.heap.size := rowC_lt HR1.out
  have HR2 := Lib.hid (rowC_below HR1.out hb2 (rowC_lt HR1.out))
  have HG2 : Hid (GrAt W2 B M g k) := Lib.hid (HG.out.below HB2.out)
  clear HX hb2
  cases op with
  | false =>
    have c0 : W2.cell? ⟨B, 0, none⟩ = some (.map (some M)) := rowC_cell HG2.out.row 0
    have c4 : W2.cell? ⟨w.heap.size, 0, none⟩ = some (.pointer (some ⟨B, 0, none⟩)) := rowC_cell HR2.out 0
    have CD := delFunc_any (fun x => !decide (x.lay = k) && insideB jn x.nd.path) 63 #[.pointer (some ⟨w.heap.size, 0, none⟩), .pointer (some ⟨w1.heap.size + 1, 0, none⟩)] M g W2 (enters_of Tryz.func63 (by kernel_rfl) rfl) HG2.out.map
      (fun W p _ hgr => take1_del 87 (fun q => insideB jn q) jn w1.heap.size (enters_of Tryz.func87 (by kernel_rfl) rfl) (fun W hW q => from1_any jn q _ W hW) w.heap.size (w1.heap.size + 1) B M k W2 c4 (rowC_cell r2 0) (rowC_cell HG2.out.row 1) (rowC_cell r1 0) (by omega) (by omega) hBM (by omega) W p hgr)
    go_wp2_with (go_at_call 62; (refine CD.mono ?_; rintro e w3 ⟨rfl, hM3, hg3⟩))
    go_end0
    have hc3 : Chg (fun j => j = M) W2 w3 := (Chg.refl _ _).grown hg3 (fun j hj => by cases hj; exact .inl rfl)
    exact ⟨rfl, ⟨hc3.rowC HG2.out.row hBM, by rw [HTF.out]; exact hM3⟩, (Chg.of_below HB2.out).trans hc3 (fun j _ hj => .inr hj)⟩
  | true =>
    have c8 : (W2.alloc (.cells #[.string (str dir)] 9)).cell? ⟨w1.heap.size + 1, 0, none⟩ = some _ ∧ (W2.alloc (.cells #[.string (str dir)] 9)).frozen? ⟨w1.heap.size + 1, 0, none⟩ = false := ⟨rowC_cell (rowC_alloc r2 _) 0, rowC_free (rowC_alloc r2 _) 0⟩
    obtain ⟨c8a, c8b⟩ := c8
    go_upto_region 4 with (go_at_call 61; ((with_reducible refine (CI _).mono ?_); rintro e w3 ⟨rfl, rfl⟩))
    obtain ⟨W3, hW3⟩ : ∃ W3, W3 = (W2.setCell ⟨w1.heap.size + 1, 0, none⟩ (.func (.func 89) #[] #[.pointer (some ⟨W2.heap.size, 0, none⟩)])).alloc (.cells #[.string (str dir)] 9) := ⟨_, rfl⟩
    rw [hz2] at hW3
    rw [← hW3]
    have r3 : rowC W3 (w1.heap.size + 1) #[.func (.func 89) #[] #[.pointer (some ⟨w1.heap.size + 2, 0, none⟩)]] 106 := by rw [hW3]; exact rowC_alloc (rowC_set r2 0 _) _
    have r4 : rowC W3 (w1.heap.size + 2) #[.string (str dir)] 9 := by
      rw [hW3]
      have := rowC_new (W2.setCell ⟨w1.heap.size + 1, 0, none⟩ (.func (.func 89) #[] #[.pointer (some ⟨w1.heap.size + 2, 0, none⟩)])) #[.string (str dir)] 9
      rw [World.size_setCell, hz2] at this
      exact this
    have HB3 : Hid (Below w.heap.size w W3) := Lib.hid (by rw [hW3]; exact (HB2.out.setCell (p := ⟨w1.heap.size + 1, 0, none⟩) (by show w.heap.size ≤ w1.heap.size + 1; omega) _).alloc (by rw [World.size_setCell]; exact HB2.out.size) _)
    have HR3 : Hid (rowC W3 w.heap.size #[.pointer (some ⟨B, 0, none⟩)] 43) := Lib.hid (by rw [hW3]; exact rowC_alloc (rowC_other HR2.out _ _ (by show w.heap.size ≠ w1.heap.size + 1; omega)) _)
    have HG3 : Hid (GrAt W3 B M g k) := Lib.hid (HG.out.below HB3.out)
    clear hW3 HG2 HR2 c8a c8b r1 r2
    have c0 : W3.cell? ⟨B, 0, none⟩ = some (.map (some M)) := rowC_cell HG3.out.row 0
    have c4 : W3.cell? ⟨w.heap.size, 0, none⟩ = some (.pointer (some ⟨B, 0, none⟩)) := rowC_cell HR3.out 0
    have CD := delFunc_any (fun x => !decide (x.lay = k) && (!decide (x.nd.path = dir) && insideB dir x.nd.path)) 63 #[.pointer (some ⟨w.heap.size, 0, none⟩), .pointer (some ⟨w1.heap.size + 1, 0, none⟩)] M g W3 (enters_of Tryz.func63 (by kernel_rfl) rfl) HG3.out.map
      (fun W p _ hgr => take1_del 89 (fun q => !decide (q = dir) && insideB dir q) dir (w1.heap.size + 2) (enters_of Tryz.func89 (by kernel_rfl) rfl) (fun W hW q => in1_any dir q _ W hW) w.heap.size (w1.heap.size + 1) B M k W3 c4 (rowC_cell r3 0) (rowC_cell HG3.out.row 1) (rowC_cell r4 0) (by omega) (by omega) hBM (by omega) W p hgr)
    go_wp2_with (go_at_call 62; (refine CD.mono ?_; rintro e w3 ⟨rfl, hM3, hg3⟩))
    go_end0
    have hc3 : Chg (fun j => j = M) W3 w3 := (Chg.refl _ _).grown hg3 (fun j hj => by cases hj; exact .inl rfl)
    exact ⟨rfl, ⟨hc3.rowC HG3.out.row hBM, by rw [HTI.out]; exact hM3⟩, (Chg.of_below HB3.out).trans hc3 (fun j _ hj => .inr hj)⟩
end Go.Proofs.YtbjgmkjinnbokaaGreatDoor
#print axioms Go.Proofs.YtbjgmkjinnbokaaGreatDoor.takeAway_any

/- Layer 16: the program's put. -/
namespace Go.Proofs.YtbjgmkjinnbokaaGreatDoor
open Go.RowKit

theorem put1_any (top : List UInt8) (nb b5 : Nat) (x : Pl) (w : World) (c5 : w.cell? ⟨b5, 0, none⟩ = some (.func (.func 87) #[] #[.pointer (some ⟨nb, 0, none⟩)])) (cn : w.cell? ⟨nb, 0, none⟩ = some (.string (str top))) :
    Calls Tryz.prog 65 (#[.string (str x.nd.path), .agg (plA x)] ++ #[.pointer (some ⟨b5, 0, none⟩)]) w fun e w' => e = .returned (.bool (insideB top x.nd.path)) ∧ w.grownBy w' none := by
  have eg : ∀ args w, (callFunc 87 args).run Tryz.prog w = .ok (.enter 87 args) w := enters_of Tryz.func87 (by kernel_rfl) rfl
  have hpl : (Value.agg (plA x)) = .agg #[.string (str x.nd.path), .int .i64 x.nd.kind, .int .i64 x.nd.mode, .string (str x.nd.data), .int .i64 x.lay] := rfl
  rw [hpl]
  obtain ⟨W1, hW1⟩ : ∃ W1, W1 = w.alloc (.cells #[.string (str x.nd.path), .int .i64 x.nd.kind, .int .i64 x.nd.mode, .string (str x.nd.data), .int .i64 x.lay] 64) := ⟨_, rfl⟩
  have HW1 := Lib.hid hW1
  have HB1 : Hid (Below w.heap.size w W1) := Lib.hid (by rw [hW1]; exact (Below.refl _ _).alloc (Nat.le_refl _) _)
  have far : ∀ {a : Addr} {v : Value}, w.cell? a = some v → W1.cell? a = some v := fun {a v} h => by
    rw [cell_far HB1.out (World.block_lt_of_cell? w a h)]
    exact h
  have d5 := far c5
  have C := from1_any top x.nd.path nb W1 (far cn)
  clear far hW1 c5 cn hpl
  generalize insideB top x.nd.path = R at *
  go_enter Tryz.func65, Tryz.ntmps65
  go_upto_region 1 with (fail)
  rw [← HW1.out]
  go_wp2_with (go_at_fn 87; (refine C.mono ?_; rintro e w1 ⟨rfl, rfl⟩))
  go_ret
  exact ⟨rfl, grown_of_below HB1.out⟩
theorem put1_del (top : List UInt8) (nb b5 M : Nat) (w : World) (c5 : w.cell? ⟨b5, 0, none⟩ = some (.func (.func 87) #[] #[.pointer (some ⟨nb, 0, none⟩)])) (cn : w.cell? ⟨nb, 0, none⟩ = some (.string (str top)))
    (n5 : b5 ≠ M) (nn : nb ≠ M) (W : World) (x : Pl) (hgr : w.grownBy W (some M)) :
    Calls Tryz.prog 65 (#[.string (str x.nd.path), .agg (plA x)] ++ #[.pointer (some ⟨b5, 0, none⟩)]) W fun e w' => e = .returned (.bool (insideB top x.nd.path)) ∧ W.grownBy w' none := by
  have far : ∀ {a : Addr} {v : Value}, w.cell? a = some v → a.block ≠ M → W.cell? a = some v := fun {a v} h hne => by
    rw [World.cell?_of_block (hgr.block _ (World.block_lt_of_cell? w a h) (fun e => hne (Option.some.inj e)))]
    exact h
  exact put1_any top nb b5 x W (far c5 n5) (far cn nn)
theorem isDir_get (g : List Pl) (s : List UInt8) : isDir g s = decide ((getG g s).nd.kind = 2) := by
  unfold isDir getG
  cases lookG g s <;> rfl
set_option maxRecDepth 100000 in
set_option maxHeartbeats 16000000 in
theorem gput_any (n : Nd) (hp : n.path.length ≤ 900000) (B M : Nat) (g : List Pl) (hlen : g.length ≤ 1000000) (k : Int) (w : World) (h : GrAt w B M g k) :
    Calls Tryz.prog 45 #[.pointer (some ⟨B, 0, none⟩), .agg #[.string (str n.path), .int .i64 n.kind, .int .i64 n.mode, .string (str n.data)]] w fun e w' => e = .returned (.tuple #[]) ∧ GrAt w' B M (layG k g n) k ∧ GrC B M w w' := by
  have HI := Lib.hid info_nd4
  have CF := fun W => from_any n.path W
  have hBw := rowC_lt h.row
  have hMw := h.map.lt
  have hBM := h.ne
  have HPL := Lib.hid hp
  have HLL := Lib.hid hlen
  have HLD : Hid (layG k g n = putG (if isDir g n.path && !decide (n.kind = 2) then g.filter (fun q => !insideB n.path q.nd.path) else g) ⟨n, k⟩) := Lib.hid rfl
  have HID := Lib.hid (isDir_get g n.path)
  obtain ⟨W0, hW0⟩ : ∃ W0, W0 = w.alloc (.cells #[.string (str n.path), .int .i64 n.kind, .int .i64 n.mode, .string (str n.data)] 41) := ⟨_, rfl⟩
  have HW0 := Lib.hid hW0
  have HB0 : Hid (Below w.heap.size w W0) := Lib.hid (by rw [hW0]; exact (Below.refl _ _).alloc (Nat.le_refl _) _)
  have HR0 : Hid (rowC W0 w.heap.size (ndA n) 41) := Lib.hid (by rw [hW0]; exact rowC_new w _ _)
  have HG0 : Hid (GrAt W0 B M g k) := Lib.hid (h.below HB0.out)
  have hz0 : W0.heap.size = w.heap.size + 1 := by rw [hW0, size_alloc]
  clear hW0 h
  go_enter Tryz.func45, Tryz.ntmps45
  go_upto_region 1 with (fail)
  rw [← HW0.out]
  have OS : ∀ w', Gn W0 no w' → w'.cell? ⟨w.heap.size, 0, none⟩ = some (.string (str n.path)) ∧ w'.cell? ⟨B, 0, none⟩ = some (.map (some M)) ∧ (Instr.lookup 60 (.map (some M)) (.string (str n.path)) false).run Tryz.prog w' = .ok (.agg (plA (getG g n.path))) w' := fun w' hg =>
    ⟨rowC_cell (hg.row HR0.out id) 0, rowC_cell (hg.row HG0.out.row id) 0, (HG0.out.map.chg hg id).get n.path (by have := HPL.out; unfold maxLen; omega)⟩
  have SO : ∀ w', Gn W0 no w' → Gn W0 no w' := fun _ h => h
  refine wp_region_noPanic ?_
  refine wp_region_held_drew (S := Gn W0 no) (by kernel_rfl) (Gn.start _ _) (fun hHeld => ?_)
  have hzd : W0.drew.heap.size = w.heap.size + 1 := hz0
  generalize W0.drew = wd at *
  refine wpAnyH_take (i := 0) (oi := { dst := some 6, op := Op.move (Operand.tmp 0), type := 43, pos := "trees.go:333", after := #[], guard := none }) (v := ?_) rfl (by kernel_rfl) (by kernel_rfl) (by kernel_rfl) (fun _ _ _ h => h) (Or.inl ⟨by rfl, ?_⟩) (by assumption) ?_
  rotate_left
  · intro w hSw
    skip
    clear hSw
    go_simp
    try with_reducible rfl
  try simp only [Act.put, List.setIfInBounds_toArray, List.set_cons_zero, List.set_cons_succ]
  refine wpAnyH_take (i := 1) (oi := { dst := some 7, op := Op.nilCheck (Operand.tmp 6), type := 0, pos := "trees.go:333", after := #[{ on := 0, ground := Ground.data }], guard := none }) (v := ?_) rfl (by kernel_rfl) (by kernel_rfl) (by kernel_rfl) (fun _ _ _ h => h) (Or.inl ⟨by rfl, ?_⟩) (by assumption) ?_
  rotate_left
  · intro w hSw
    skip
    clear hSw
    go_simp
    try with_reducible rfl
  try simp only [Act.put, List.setIfInBounds_toArray, List.set_cons_zero, List.set_cons_succ]
  refine wpAnyH_take (i := 2) (oi := { dst := some 8, op := Op.fieldAddr 62 (Operand.tmp 7) 0, type := 0, pos := "trees.go:333", after := #[{ on := 1, ground := Ground.data }], guard := none }) (v := ?_) rfl (by kernel_rfl) (by kernel_rfl) (by kernel_rfl) (fun _ _ _ h => h) (Or.inl ⟨by rfl, ?_⟩) (by assumption) ?_
  rotate_left
  · intro w hSw
    skip
    clear hSw
    go_simp
    try with_reducible rfl
  try simp only [Act.put, List.setIfInBounds_toArray, List.set_cons_zero, List.set_cons_succ]
  refine wpAnyH_take (i := 4) (oi := { dst := some 10, op := Op.fieldAddr 41 (Operand.tmp 3) 0, type := 0, pos := "trees.go:333", after := #[], guard := none }) (v := ?_) rfl (by kernel_rfl) (by kernel_rfl) (by kernel_rfl) (fun _ _ _ h => h) (Or.inl ⟨by rfl, ?_⟩) (by assumption) ?_
  rotate_left
  · intro w hSw
    skip
    clear hSw
    go_simp
    try with_reducible rfl
  try simp only [Act.put, List.setIfInBounds_toArray, List.set_cons_zero, List.set_cons_succ]
  refine wpAnyH_take (i := 3) (oi := { dst := some 9, op := Op.load 60 (Operand.tmp 8), type := 60, pos := "trees.go:333", after := #[{ on := 2, ground := Ground.data }], guard := none }) (v := ?_) rfl (by kernel_rfl) (by kernel_rfl) (by kernel_rfl) (fun _ _ _ h => h) (Or.inl ⟨by rfl, ?_⟩) (by assumption) ?_
  rotate_left
  · intro w hSw
    have hSw := OS _ hSw
    go_simp
    try with_reducible rfl
  try simp only [Act.put, List.setIfInBounds_toArray, List.set_cons_zero, List.set_cons_succ]
  refine wpAnyH_take (i := 5) (oi := { dst := some 11, op := Op.load 9 (Operand.tmp 10), type := 9, pos := "trees.go:333", after := #[{ on := 4, ground := Ground.data }], guard := none }) (v := ?_) rfl (by kernel_rfl) (by kernel_rfl) (by kernel_rfl) (fun _ _ _ h => h) (Or.inl ⟨by rfl, ?_⟩) (by assumption) ?_
  rotate_left
  · intro w hSw
    have hSw := OS _ hSw
    go_simp
    try with_reducible rfl
  try simp only [Act.put, List.setIfInBounds_toArray, List.set_cons_zero, List.set_cons_succ]
  refine wpAnyH_take (i := 6) (oi := { dst := some 12, op := Op.lookup 60 (Operand.tmp 9) (Operand.tmp 11) false, type := 64, pos := "trees.go:333", after := #[{ on := 3, ground := Ground.data }, { on := 5, ground := Ground.data }], guard := none }) (v := ?_) rfl (by kernel_rfl) (by kernel_rfl) (by kernel_rfl) (fun _ _ _ h => h) (Or.inl ⟨by rfl, ?_⟩) (by assumption) ?_
  rotate_left
  · intro w hSw
    have hSw := OS _ hSw
    go_simp
    try with_reducible rfl
  try simp only [Act.put, List.setIfInBounds_toArray, List.set_cons_zero, List.set_cons_succ]
  refine wpAnyH_take (i := 7) (oi := { dst := some 13, op := Op.field 64 (Operand.tmp 12) 0, type := 41, pos := "trees.go:333", after := #[{ on := 6, ground := Ground.data }], guard := none }) (v := .agg (ndA (getG g n.path).nd)) rfl (by kernel_rfl) (by kernel_rfl) (by kernel_rfl) (fun _ _ _ h => h) (Or.inl ⟨by rfl, ?_⟩) (by assumption) ?_
  · intro w hSw
    skip
    clear hSw
    go_simp
    rfl
  try simp only [Act.put, List.setIfInBounds_toArray, List.set_cons_zero, List.set_cons_succ]
  refine wpAnyH_ready (rs := [8]) (by kernel_rfl) (by simp) ?_
  refine (AllReadyH.cons (o := { dst := some 4, op := Op.alloc 41, type := 0, pos := "trees.go:333", after := #[], guard := none }) rfl (fun K hK => ?_) AllReadyH.nil)
  skip
  go_simp
  refine hK.out _ _ (Gn.alloc hHeld _) (fun hHeld => ?_)
  clear hK K
  try simp only [Act.put, List.setIfInBounds_toArray, List.set_cons_zero, List.set_cons_succ]
  refine wpAnyH_ready (rs := [9]) (by kernel_rfl) (by simp) ?_
  refine (AllReadyH.cons (o := { dst := none, op := Op.store 41 (Operand.tmp 4) (Operand.tmp 13), type := 0, pos := "trees.go:333", after := #[{ on := 8, ground := Ground.data }, { on := 7, ground := Ground.data }, { on := 0, ground := Ground.phase }, { on := 1, ground := Ground.phase }, { on := 2, ground := Ground.phase }, { on := 3, ground := Ground.phase }, { on := 4, ground := Ground.phase }, { on := 5, ground := Ground.phase }, { on := 6, ground := Ground.phase }, { on := 7, ground := Ground.phase }, { on := 8, ground := Ground.phase }], guard := none }) rfl (fun K hK => ?_) AllReadyH.nil)
  refine step_store_row (by rfl) 41 _ _ (by rfl) (w.heap.size + 1) (ndA (getG g n.path).nd) (by rfl) (by rfl) 41 #[.string ⟨#[]⟩, .int .i64 0, .int .i64 0, .string ⟨#[]⟩] (by have := rowC_new wd #[.string ⟨#[]⟩, .int .i64 0, .int .i64 0, .string ⟨#[]⟩] 41; rwa [hzd] at this) HI.out rfl (ndA_one _) ?_
  refine hK.out _ _ (Gn.set hHeld _ _ (.inr (by omega))) (fun hHeld => ?_)
  clear hK K
  refine wpAnyH_done (by kernel_rfl) ?_ _
  refine NoPanic.normal ?_
  have HB1 := Lib.hid (HB0.out.trans (hHeld.below HB0.out.size (fun _ _ => id)))
  have HR1 := Lib.hid (hHeld.row HR0.out id)
  have HG1 : Hid (GrAt _ B M g k) := Lib.hid (HG0.out.chg hHeld id id)
  have HQ1 := Lib.hid (rowC_setRow (rowC_new wd #[.string ⟨#[]⟩, .int .i64 0, .int .i64 0, .string ⟨#[]⟩] 41) (ndA (getG g n.path).nd))
  have hz1 : ((wd.alloc (.cells #[.string ⟨#[]⟩, .int .i64 0, .int .i64 0, .string ⟨#[]⟩] 41)).setRow wd.heap.size (ndA (getG g n.path).nd)).heap.size = w.heap.size + 2 := by
    have : ∀ (a : World) (b : Nat) (c : Array Value), (a.setRow b c).heap.size = a.heap.size := fun a b c => setRow_size a b c
    rw [this, size_alloc, hzd]
  clear hHeld OS SO HB0 HR0 HG0 hz0
  rw [hzd] at HQ1 hz1
  generalize ((wd.alloc (.cells #[.string ⟨#[]⟩, .int .i64 0, .int .i64 0, .string ⟨#[]⟩] 41)).setRow (w.heap.size + 1) (ndA (getG g n.path).nd)) = W1 at *
  have k1 : W1.cell? ⟨w.heap.size + 1, 1, none⟩ = some (.int .i64 (getG g n.path).nd.kind) := rowC_cell HQ1.out 1
  have k2 : W1.cell? ⟨w.heap.size, 1, none⟩ = some (.int .i64 n.kind) := rowC_cell HR1.out 1
  have k3 : W1.cell? ⟨w.heap.size, 0, none⟩ = some (.string (str n.path)) := rowC_cell HR1.out 0
  obtain ⟨wk, hwk⟩ : ∃ wk, wk = (getG g n.path).nd.kind := ⟨_, rfl⟩
  rw [← hwk] at k1 HID
  clear hwk
  have ui := Tryz.underlying41
  have ii := info_nd4
  cases hcond : isDir g n.path && !decide (n.kind = 2) with
  | false =>
    have HLY : Hid (layG k g n = putG g ⟨n, k⟩) := Lib.hid (by rw [HLD.out, hcond]; rfl)
    have HC3 : Hid (GrC B M w W1) := Lib.hid (Chg.of_below HB1.out)
    obtain ⟨Wx, hWx⟩ : ∃ Wx, Wx = W1 := ⟨_, rfl⟩
    subst hWx
    have HR3 := HR1
    have HG3 := HG1
    have HLN := HLL
    by_cases hw2 : wk = 2
    · have hn2 : n.kind = 2 := by
        rw [HID.out, decide_eq_true hw2, Bool.true_and, Bool.not_eq_false', decide_eq_true_eq] at hcond
        exact hcond
      have g1 : (wk == 2) = true := by rw [beq_iff_eq]; exact hw2
      have g2 : (n.kind != 2) = false := by rw [bne_eq_false_iff_eq]; exact hn2
      clear hcond HLD HID hw2 hn2
      go_upto_region 5 with (fail)
      clear k1 k2 k3
      have OS : ∀ w', Gn Wx (fun j => j = M) w' → w'.rangeAt w.heap.size 0 (ndV n) ∧ w'.cell? ⟨w.heap.size, 0, none⟩ = some (.string (str n.path)) ∧ w'.cell? ⟨B, 0, none⟩ = some (.map (some M)) ∧ w'.cell? ⟨B, 1, none⟩ = some (.int .i64 k) := fun w' hg =>
        ⟨rowC_range (hg.row HR3.out (by omega)) 0 _ (fun j u hj => by rw [Nat.zero_add, ← ndV_arr, List.getElem?_toArray]; exact hj), rowC_cell (hg.row HR3.out (by omega)) 0, rowC_cell (hg.row HG3.out.row hBM) 0, rowC_cell (hg.row HG3.out.row hBM) 1⟩
      have SO : ∀ w', Gn Wx (fun j => j = M) w' → Gn Wx (fun j => j = M) w' := fun _ h => h
      have HEND : Hid (∀ w', Gn Wx (fun j => j = M) w' → GrC B M w w' ∧ rowC w' B #[.map (some M), .int .i64 k] 62) := Lib.hid fun w' hg => ⟨Chg.trans HC3.out hg (fun j _ hj => .inr hj), hg.row HG3.out.row hBM⟩
      refine wp_region_noPanic ?_
      refine wp_region_held_drew (S := Gn Wx (fun j => j = M)) (by kernel_rfl) (Gn.start _ _) (fun hHeld => ?_)
      have HMd : Hid (MapG Wx.drew M (g)) := Lib.hid (HG3.out.map.chg (s := fun _ => False) (Chg.refl _ _).drew id)
      generalize Wx.drew = wd2 at *
      refine wpAnyH_take (i := 0) (oi := { dst := some 31, op := Op.move (Operand.tmp 0), type := 43, pos := "trees.go:338", after := #[], guard := none }) (v := ?_) rfl (by kernel_rfl) (by kernel_rfl) (by kernel_rfl) (fun _ _ _ h => h) (Or.inl ⟨by rfl, ?_⟩) (by assumption) ?_
      rotate_left
      · intro w hSw
        skip
        clear hSw
        go_simp
        try with_reducible rfl
      try simp only [Act.put, List.setIfInBounds_toArray, List.set_cons_zero, List.set_cons_succ]
      refine wpAnyH_take (i := 1) (oi := { dst := some 32, op := Op.nilCheck (Operand.tmp 31), type := 0, pos := "trees.go:338", after := #[{ on := 0, ground := Ground.data }], guard := none }) (v := ?_) rfl (by kernel_rfl) (by kernel_rfl) (by kernel_rfl) (fun _ _ _ h => h) (Or.inl ⟨by rfl, ?_⟩) (by assumption) ?_
      rotate_left
      · intro w hSw
        skip
        clear hSw
        go_simp
        try with_reducible rfl
      try simp only [Act.put, List.setIfInBounds_toArray, List.set_cons_zero, List.set_cons_succ]
      refine wpAnyH_take (i := 2) (oi := { dst := some 33, op := Op.fieldAddr 62 (Operand.tmp 32) 0, type := 0, pos := "trees.go:338", after := #[{ on := 1, ground := Ground.data }], guard := none }) (v := ?_) rfl (by kernel_rfl) (by kernel_rfl) (by kernel_rfl) (fun _ _ _ h => h) (Or.inl ⟨by rfl, ?_⟩) (by assumption) ?_
      rotate_left
      · intro w hSw
        skip
        clear hSw
        go_simp
        try with_reducible rfl
      try simp only [Act.put, List.setIfInBounds_toArray, List.set_cons_zero, List.set_cons_succ]
      refine wpAnyH_take (i := 4) (oi := { dst := some 35, op := Op.fieldAddr 41 (Operand.tmp 3) 0, type := 0, pos := "trees.go:338", after := #[], guard := none }) (v := ?_) rfl (by kernel_rfl) (by kernel_rfl) (by kernel_rfl) (fun _ _ _ h => h) (Or.inl ⟨by rfl, ?_⟩) (by assumption) ?_
      rotate_left
      · intro w hSw
        skip
        clear hSw
        go_simp
        try with_reducible rfl
      try simp only [Act.put, List.setIfInBounds_toArray, List.set_cons_zero, List.set_cons_succ]
      refine wpAnyH_take (i := 7) (oi := { dst := some 38, op := Op.move (Operand.tmp 0), type := 43, pos := "trees.go:338", after := #[], guard := none }) (v := ?_) rfl (by kernel_rfl) (by kernel_rfl) (by kernel_rfl) (fun _ _ _ h => h) (Or.inl ⟨by rfl, ?_⟩) (by assumption) ?_
      rotate_left
      · intro w hSw
        skip
        clear hSw
        go_simp
        try with_reducible rfl
      try simp only [Act.put, List.setIfInBounds_toArray, List.set_cons_zero, List.set_cons_succ]
      refine wpAnyH_take (i := 8) (oi := { dst := some 39, op := Op.nilCheck (Operand.tmp 38), type := 0, pos := "trees.go:338", after := #[{ on := 7, ground := Ground.data }], guard := none }) (v := ?_) rfl (by kernel_rfl) (by kernel_rfl) (by kernel_rfl) (fun _ _ _ h => h) (Or.inl ⟨by rfl, ?_⟩) (by assumption) ?_
      rotate_left
      · intro w hSw
        skip
        clear hSw
        go_simp
        try with_reducible rfl
      try simp only [Act.put, List.setIfInBounds_toArray, List.set_cons_zero, List.set_cons_succ]
      refine wpAnyH_take (i := 9) (oi := { dst := some 40, op := Op.fieldAddr 62 (Operand.tmp 39) 1, type := 0, pos := "trees.go:338", after := #[{ on := 8, ground := Ground.data }], guard := none }) (v := ?_) rfl (by kernel_rfl) (by kernel_rfl) (by kernel_rfl) (fun _ _ _ h => h) (Or.inl ⟨by rfl, ?_⟩) (by assumption) ?_
      rotate_left
      · intro w hSw
        skip
        clear hSw
        go_simp
        try with_reducible rfl
      try simp only [Act.put, List.setIfInBounds_toArray, List.set_cons_zero, List.set_cons_succ]
      refine wpAnyH_take (i := 3) (oi := { dst := some 34, op := Op.load 60 (Operand.tmp 33), type := 60, pos := "trees.go:338", after := #[{ on := 2, ground := Ground.data }], guard := none }) (v := ?_) rfl (by kernel_rfl) (by kernel_rfl) (by kernel_rfl) (fun _ _ _ h => h) (Or.inl ⟨by rfl, ?_⟩) (by assumption) ?_
      rotate_left
      · intro w hSw
        have hSw := OS _ hSw
        go_simp
        try with_reducible rfl
      try simp only [Act.put, List.setIfInBounds_toArray, List.set_cons_zero, List.set_cons_succ]
      refine wpAnyH_take (i := 5) (oi := { dst := some 36, op := Op.load 9 (Operand.tmp 35), type := 9, pos := "trees.go:338", after := #[{ on := 4, ground := Ground.data }], guard := none }) (v := ?_) rfl (by kernel_rfl) (by kernel_rfl) (by kernel_rfl) (fun _ _ _ h => h) (Or.inl ⟨by rfl, ?_⟩) (by assumption) ?_
      rotate_left
      · intro w hSw
        have hSw := OS _ hSw
        go_simp
        try with_reducible rfl
      try simp only [Act.put, List.setIfInBounds_toArray, List.set_cons_zero, List.set_cons_succ]
      refine wpAnyH_take (i := 6) (oi := { dst := some 37, op := Op.load 41 (Operand.tmp 3), type := 41, pos := "trees.go:338", after := #[], guard := none }) (v := _) rfl (by kernel_rfl) (by kernel_rfl) (by kernel_rfl) (fun _ _ _ h => h) (yieldsIf_load_mid (by rfl) _ _ rfl _ _ rfl _ _ (by intro w hSw; have hSw := OS _ hSw; go_split_ands; assumption) (by assumption) rfl (by assumption)) (by assumption) ?_
      try simp only [Act.put, List.setIfInBounds_toArray, List.set_cons_zero, List.set_cons_succ]
      refine wpAnyH_take (i := 10) (oi := { dst := some 41, op := Op.load 3 (Operand.tmp 40), type := 3, pos := "trees.go:338", after := #[{ on := 9, ground := Ground.data }], guard := none }) (v := ?_) rfl (by kernel_rfl) (by kernel_rfl) (by kernel_rfl) (fun _ _ _ h => h) (Or.inl ⟨by rfl, ?_⟩) (by assumption) ?_
      rotate_left
      · intro w hSw
        have hSw := OS _ hSw
        go_simp
        try with_reducible rfl
      try simp only [Act.put, List.setIfInBounds_toArray, List.set_cons_zero, List.set_cons_succ]
      refine wpAnyH_take (i := 11) (oi := { dst := some 42, op := Op.build 64 #[(0, Operand.tmp 37), (1, Operand.tmp 41)], type := 64, pos := "trees.go:338", after := #[{ on := 6, ground := Ground.data }, { on := 10, ground := Ground.data }], guard := none }) (v := .agg (plA ⟨n, k⟩)) rfl (by kernel_rfl) (by kernel_rfl) (by kernel_rfl) (fun _ _ _ h => h) (Or.inl ⟨by rfl, ?_⟩) (by assumption) ?_
      · intro w hSw
        skip
        clear hSw
        go_simp
        rfl
      try simp only [Act.put, List.setIfInBounds_toArray, List.set_cons_zero, List.set_cons_succ]
      refine wpAnyH_ready (rs := [12]) (by kernel_rfl) (by simp) ?_
      refine (AllReadyH.cons (o := { dst := none, op := Op.mapUpdate 60 (Operand.tmp 34) (Operand.tmp 36) (Operand.tmp 42), type := 0, pos := "trees.go:338", after := #[{ on := 3, ground := Ground.data }, { on := 5, ground := Ground.data }, { on := 11, ground := Ground.data }, { on := 0, ground := Ground.phase }, { on := 1, ground := Ground.phase }, { on := 2, ground := Ground.phase }, { on := 3, ground := Ground.phase }, { on := 4, ground := Ground.phase }, { on := 5, ground := Ground.phase }, { on := 6, ground := Ground.phase }, { on := 7, ground := Ground.phase }, { on := 8, ground := Ground.phase }, { on := 9, ground := Ground.phase }, { on := 10, ground := Ground.phase }, { on := 11, ground := Ground.phase }], guard := none }) rfl (fun K hK => ?_) AllReadyH.nil)
      obtain ⟨w8, hrun8, hM8, hg8⟩ := HMd.out.put (by unfold maxLen; have := HLN.out; omega) ⟨n, k⟩ (by have := HPL.out; unfold maxLen; show n.path.length ≤ _; omega)
      have hrun9 : (Instr.mapUpdate 60 (.map (some M)) (.string (str n.path)) (.agg (plA ⟨n, k⟩))).run Tryz.prog wd2 = .ok () w8 := hrun8
      clear hrun8
      go_simp
      refine hK.out _ _ (Gn.grown (by assumption) hg8 (fun j hj => (by cases hj; exact .inl rfl))) (fun hHeld2 => ?_)
      clear hK K
      refine wpAnyH_done (by kernel_rfl) ?_ _
      refine NoPanic.normal ?_
      go_end0
      exact ⟨rfl, ⟨(HEND.out _ (by assumption)).2, by rw [HLY.out]; exact hM8⟩, (HEND.out _ (by assumption)).1⟩
    · have g1 : (wk == 2) = false := by rw [beq_eq_false_iff_ne]; exact hw2
      clear hcond HLD HID hw2
      go_upto_region 5 with (fail)
      clear k1 k2 k3
      have OS : ∀ w', Gn Wx (fun j => j = M) w' → w'.rangeAt w.heap.size 0 (ndV n) ∧ w'.cell? ⟨w.heap.size, 0, none⟩ = some (.string (str n.path)) ∧ w'.cell? ⟨B, 0, none⟩ = some (.map (some M)) ∧ w'.cell? ⟨B, 1, none⟩ = some (.int .i64 k) := fun w' hg =>
        ⟨rowC_range (hg.row HR3.out (by omega)) 0 _ (fun j u hj => by rw [Nat.zero_add, ← ndV_arr, List.getElem?_toArray]; exact hj), rowC_cell (hg.row HR3.out (by omega)) 0, rowC_cell (hg.row HG3.out.row hBM) 0, rowC_cell (hg.row HG3.out.row hBM) 1⟩
      have SO : ∀ w', Gn Wx (fun j => j = M) w' → Gn Wx (fun j => j = M) w' := fun _ h => h
      have HEND : Hid (∀ w', Gn Wx (fun j => j = M) w' → GrC B M w w' ∧ rowC w' B #[.map (some M), .int .i64 k] 62) := Lib.hid fun w' hg => ⟨Chg.trans HC3.out hg (fun j _ hj => .inr hj), hg.row HG3.out.row hBM⟩
      refine wp_region_noPanic ?_
      refine wp_region_held_drew (S := Gn Wx (fun j => j = M)) (by kernel_rfl) (Gn.start _ _) (fun hHeld => ?_)
      have HMd : Hid (MapG Wx.drew M (g)) := Lib.hid (HG3.out.map.chg (s := fun _ => False) (Chg.refl _ _).drew id)
      generalize Wx.drew = wd2 at *
      refine wpAnyH_take (i := 0) (oi := { dst := some 31, op := Op.move (Operand.tmp 0), type := 43, pos := "trees.go:338", after := #[], guard := none }) (v := ?_) rfl (by kernel_rfl) (by kernel_rfl) (by kernel_rfl) (fun _ _ _ h => h) (Or.inl ⟨by rfl, ?_⟩) (by assumption) ?_
      rotate_left
      · intro w hSw
        skip
        clear hSw
        go_simp
        try with_reducible rfl
      try simp only [Act.put, List.setIfInBounds_toArray, List.set_cons_zero, List.set_cons_succ]
      refine wpAnyH_take (i := 1) (oi := { dst := some 32, op := Op.nilCheck (Operand.tmp 31), type := 0, pos := "trees.go:338", after := #[{ on := 0, ground := Ground.data }], guard := none }) (v := ?_) rfl (by kernel_rfl) (by kernel_rfl) (by kernel_rfl) (fun _ _ _ h => h) (Or.inl ⟨by rfl, ?_⟩) (by assumption) ?_
      rotate_left
      · intro w hSw
        skip
        clear hSw
        go_simp
        try with_reducible rfl
      try simp only [Act.put, List.setIfInBounds_toArray, List.set_cons_zero, List.set_cons_succ]
      refine wpAnyH_take (i := 2) (oi := { dst := some 33, op := Op.fieldAddr 62 (Operand.tmp 32) 0, type := 0, pos := "trees.go:338", after := #[{ on := 1, ground := Ground.data }], guard := none }) (v := ?_) rfl (by kernel_rfl) (by kernel_rfl) (by kernel_rfl) (fun _ _ _ h => h) (Or.inl ⟨by rfl, ?_⟩) (by assumption) ?_
      rotate_left
      · intro w hSw
        skip
        clear hSw
        go_simp
        try with_reducible rfl
      try simp only [Act.put, List.setIfInBounds_toArray, List.set_cons_zero, List.set_cons_succ]
      refine wpAnyH_take (i := 4) (oi := { dst := some 35, op := Op.fieldAddr 41 (Operand.tmp 3) 0, type := 0, pos := "trees.go:338", after := #[], guard := none }) (v := ?_) rfl (by kernel_rfl) (by kernel_rfl) (by kernel_rfl) (fun _ _ _ h => h) (Or.inl ⟨by rfl, ?_⟩) (by assumption) ?_
      rotate_left
      · intro w hSw
        skip
        clear hSw
        go_simp
        try with_reducible rfl
      try simp only [Act.put, List.setIfInBounds_toArray, List.set_cons_zero, List.set_cons_succ]
      refine wpAnyH_take (i := 7) (oi := { dst := some 38, op := Op.move (Operand.tmp 0), type := 43, pos := "trees.go:338", after := #[], guard := none }) (v := ?_) rfl (by kernel_rfl) (by kernel_rfl) (by kernel_rfl) (fun _ _ _ h => h) (Or.inl ⟨by rfl, ?_⟩) (by assumption) ?_
      rotate_left
      · intro w hSw
        skip
        clear hSw
        go_simp
        try with_reducible rfl
      try simp only [Act.put, List.setIfInBounds_toArray, List.set_cons_zero, List.set_cons_succ]
      refine wpAnyH_take (i := 8) (oi := { dst := some 39, op := Op.nilCheck (Operand.tmp 38), type := 0, pos := "trees.go:338", after := #[{ on := 7, ground := Ground.data }], guard := none }) (v := ?_) rfl (by kernel_rfl) (by kernel_rfl) (by kernel_rfl) (fun _ _ _ h => h) (Or.inl ⟨by rfl, ?_⟩) (by assumption) ?_
      rotate_left
      · intro w hSw
        skip
        clear hSw
        go_simp
        try with_reducible rfl
      try simp only [Act.put, List.setIfInBounds_toArray, List.set_cons_zero, List.set_cons_succ]
      refine wpAnyH_take (i := 9) (oi := { dst := some 40, op := Op.fieldAddr 62 (Operand.tmp 39) 1, type := 0, pos := "trees.go:338", after := #[{ on := 8, ground := Ground.data }], guard := none }) (v := ?_) rfl (by kernel_rfl) (by kernel_rfl) (by kernel_rfl) (fun _ _ _ h => h) (Or.inl ⟨by rfl, ?_⟩) (by assumption) ?_
      rotate_left
      · intro w hSw
        skip
        clear hSw
        go_simp
        try with_reducible rfl
      try simp only [Act.put, List.setIfInBounds_toArray, List.set_cons_zero, List.set_cons_succ]
      refine wpAnyH_take (i := 3) (oi := { dst := some 34, op := Op.load 60 (Operand.tmp 33), type := 60, pos := "trees.go:338", after := #[{ on := 2, ground := Ground.data }], guard := none }) (v := ?_) rfl (by kernel_rfl) (by kernel_rfl) (by kernel_rfl) (fun _ _ _ h => h) (Or.inl ⟨by rfl, ?_⟩) (by assumption) ?_
      rotate_left
      · intro w hSw
        have hSw := OS _ hSw
        go_simp
        try with_reducible rfl
      try simp only [Act.put, List.setIfInBounds_toArray, List.set_cons_zero, List.set_cons_succ]
      refine wpAnyH_take (i := 5) (oi := { dst := some 36, op := Op.load 9 (Operand.tmp 35), type := 9, pos := "trees.go:338", after := #[{ on := 4, ground := Ground.data }], guard := none }) (v := ?_) rfl (by kernel_rfl) (by kernel_rfl) (by kernel_rfl) (fun _ _ _ h => h) (Or.inl ⟨by rfl, ?_⟩) (by assumption) ?_
      rotate_left
      · intro w hSw
        have hSw := OS _ hSw
        go_simp
        try with_reducible rfl
      try simp only [Act.put, List.setIfInBounds_toArray, List.set_cons_zero, List.set_cons_succ]
      refine wpAnyH_take (i := 6) (oi := { dst := some 37, op := Op.load 41 (Operand.tmp 3), type := 41, pos := "trees.go:338", after := #[], guard := none }) (v := _) rfl (by kernel_rfl) (by kernel_rfl) (by kernel_rfl) (fun _ _ _ h => h) (yieldsIf_load_mid (by rfl) _ _ rfl _ _ rfl _ _ (by intro w hSw; have hSw := OS _ hSw; go_split_ands; assumption) (by assumption) rfl (by assumption)) (by assumption) ?_
      try simp only [Act.put, List.setIfInBounds_toArray, List.set_cons_zero, List.set_cons_succ]
      refine wpAnyH_take (i := 10) (oi := { dst := some 41, op := Op.load 3 (Operand.tmp 40), type := 3, pos := "trees.go:338", after := #[{ on := 9, ground := Ground.data }], guard := none }) (v := ?_) rfl (by kernel_rfl) (by kernel_rfl) (by kernel_rfl) (fun _ _ _ h => h) (Or.inl ⟨by rfl, ?_⟩) (by assumption) ?_
      rotate_left
      · intro w hSw
        have hSw := OS _ hSw
        go_simp
        try with_reducible rfl
      try simp only [Act.put, List.setIfInBounds_toArray, List.set_cons_zero, List.set_cons_succ]
      refine wpAnyH_take (i := 11) (oi := { dst := some 42, op := Op.build 64 #[(0, Operand.tmp 37), (1, Operand.tmp 41)], type := 64, pos := "trees.go:338", after := #[{ on := 6, ground := Ground.data }, { on := 10, ground := Ground.data }], guard := none }) (v := .agg (plA ⟨n, k⟩)) rfl (by kernel_rfl) (by kernel_rfl) (by kernel_rfl) (fun _ _ _ h => h) (Or.inl ⟨by rfl, ?_⟩) (by assumption) ?_
      · intro w hSw
        skip
        clear hSw
        go_simp
        rfl
      try simp only [Act.put, List.setIfInBounds_toArray, List.set_cons_zero, List.set_cons_succ]
      refine wpAnyH_ready (rs := [12]) (by kernel_rfl) (by simp) ?_
      refine (AllReadyH.cons (o := { dst := none, op := Op.mapUpdate 60 (Operand.tmp 34) (Operand.tmp 36) (Operand.tmp 42), type := 0, pos := "trees.go:338", after := #[{ on := 3, ground := Ground.data }, { on := 5, ground := Ground.data }, { on := 11, ground := Ground.data }, { on := 0, ground := Ground.phase }, { on := 1, ground := Ground.phase }, { on := 2, ground := Ground.phase }, { on := 3, ground := Ground.phase }, { on := 4, ground := Ground.phase }, { on := 5, ground := Ground.phase }, { on := 6, ground := Ground.phase }, { on := 7, ground := Ground.phase }, { on := 8, ground := Ground.phase }, { on := 9, ground := Ground.phase }, { on := 10, ground := Ground.phase }, { on := 11, ground := Ground.phase }], guard := none }) rfl (fun K hK => ?_) AllReadyH.nil)
      obtain ⟨w8, hrun8, hM8, hg8⟩ := HMd.out.put (by unfold maxLen; have := HLN.out; omega) ⟨n, k⟩ (by have := HPL.out; unfold maxLen; show n.path.length ≤ _; omega)
      have hrun9 : (Instr.mapUpdate 60 (.map (some M)) (.string (str n.path)) (.agg (plA ⟨n, k⟩))).run Tryz.prog wd2 = .ok () w8 := hrun8
      clear hrun8
      go_simp
      refine hK.out _ _ (Gn.grown (by assumption) hg8 (fun j hj => (by cases hj; exact .inl rfl))) (fun hHeld2 => ?_)
      clear hK K
      refine wpAnyH_done (by kernel_rfl) ?_ _
      refine NoPanic.normal ?_
      go_end0
      exact ⟨rfl, ⟨(HEND.out _ (by assumption)).2, by rw [HLY.out]; exact hM8⟩, (HEND.out _ (by assumption)).1⟩
  | true =>
    have HLY : Hid (layG k g n = putG (g.filter (fun q => !insideB n.path q.nd.path)) ⟨n, k⟩) := Lib.hid (by rw [HLD.out, hcond]; rfl)
    rw [Bool.and_eq_true, HID.out, decide_eq_true_eq, Bool.not_eq_true', decide_eq_false_iff_not] at hcond
    obtain ⟨hw2, hn2⟩ := hcond
    have g1 : (wk == 2) = true := by rw [beq_iff_eq]; exact hw2
    have g2 : (n.kind != 2) = true := by rw [bne_iff_ne]; exact hn2
    clear HLD HID hw2 hn2
    go_upto_region 4 with (go_at_call 59; ((with_reducible refine (CF _).mono ?_); rintro e w2 ⟨rfl, rfl⟩))
    obtain ⟨r1, r2, hb2, hz2⟩ := box_two W1 (str n.path) (.func (.func 87) #[] #[.pointer (some ⟨W1.heap.size, 0, none⟩)])
    rw [hz1] at r1 r2 hb2 hz2
    have HB2 : Hid (Below w.heap.size w _) := Lib.hid (HB1.out.trans (hb2.mono (by omega)))
    have HR2 := Lib.hid (rowC_below HR1.out (by rw [hz1]; exact hb2) (rowC_lt HR1.out))
    have HG2 : Hid (GrAt _ B M g k) := Lib.hid (HG1.out.below (by rw [hz1]; exact hb2))
    clear hb2 k1 k2 k3 hz2
    generalize ((W1.alloc (.cells #[.string (str n.path)] 9)).alloc (.cells #[.func (.func 87) #[] #[.pointer (some ⟨w.heap.size + 2, 0, none⟩)]] 106)) = W2 at *
    have c0 : W2.cell? ⟨B, 0, none⟩ = some (.map (some M)) := rowC_cell HG2.out.row 0
    have CD := delFunc_any (fun x => insideB n.path x.nd.path) 65 #[.pointer (some ⟨w.heap.size + 2 + 1, 0, none⟩)] M g W2 (enters_of Tryz.func65 (by kernel_rfl) rfl) HG2.out.map
      (fun W p _ hgr => put1_del n.path (w.heap.size + 2) (w.heap.size + 2 + 1) M W2 (rowC_cell r2 0) (rowC_cell r1 0) (by omega) (by omega) W p hgr)
    clear r1 r2
    go_upto_region 5 with (go_at_call 62; (refine CD.mono ?_; rintro e Wx ⟨rfl, hM3, hg3⟩))
    have hc3 : Chg (fun j => j = M) W2 Wx := (Chg.refl _ _).grown hg3 (fun j hj => by cases hj; exact .inl rfl)
    have HG3 : Hid (GrAt Wx B M (g.filter (fun q => !insideB n.path q.nd.path)) k) := Lib.hid ⟨hc3.rowC HG2.out.row hBM, hM3⟩
    have HC3 : Hid (GrC B M w Wx) := Lib.hid ((Chg.of_below HB2.out).trans hc3 (fun j _ hj => .inr hj))
    have HR3 := Lib.hid (hc3.rowC HR2.out (by omega))
    have HLN : Hid ((g.filter (fun q => !insideB n.path q.nd.path)).length ≤ 1000000) := Lib.hid (Nat.le_trans (List.length_filter_le _ _) HLL.out)
    clear hM3 hg3 hc3 c0
    have OS : ∀ w', Gn Wx (fun j => j = M) w' → w'.rangeAt w.heap.size 0 (ndV n) ∧ w'.cell? ⟨w.heap.size, 0, none⟩ = some (.string (str n.path)) ∧ w'.cell? ⟨B, 0, none⟩ = some (.map (some M)) ∧ w'.cell? ⟨B, 1, none⟩ = some (.int .i64 k) := fun w' hg =>
      ⟨rowC_range (hg.row HR3.out (by omega)) 0 _ (fun j u hj => by rw [Nat.zero_add, ← ndV_arr, List.getElem?_toArray]; exact hj), rowC_cell (hg.row HR3.out (by omega)) 0, rowC_cell (hg.row HG3.out.row hBM) 0, rowC_cell (hg.row HG3.out.row hBM) 1⟩
    have SO : ∀ w', Gn Wx (fun j => j = M) w' → Gn Wx (fun j => j = M) w' := fun _ h => h
    have HEND : Hid (∀ w', Gn Wx (fun j => j = M) w' → GrC B M w w' ∧ rowC w' B #[.map (some M), .int .i64 k] 62) := Lib.hid fun w' hg => ⟨Chg.trans HC3.out hg (fun j _ hj => .inr hj), hg.row HG3.out.row hBM⟩
    refine wp_region_noPanic ?_
    refine wp_region_held_drew (S := Gn Wx (fun j => j = M)) (by kernel_rfl) (Gn.start _ _) (fun hHeld => ?_)
    have HMd : Hid (MapG Wx.drew M (g.filter (fun q => !insideB n.path q.nd.path))) := Lib.hid (HG3.out.map.chg (s := fun _ => False) (Chg.refl _ _).drew id)
    generalize Wx.drew = wd2 at *
    refine wpAnyH_take (i := 0) (oi := { dst := some 31, op := Op.move (Operand.tmp 0), type := 43, pos := "trees.go:338", after := #[], guard := none }) (v := ?_) rfl (by kernel_rfl) (by kernel_rfl) (by kernel_rfl) (fun _ _ _ h => h) (Or.inl ⟨by rfl, ?_⟩) (by assumption) ?_
    rotate_left
    · intro w hSw
      skip
      clear hSw
      go_simp
      try with_reducible rfl
    try simp only [Act.put, List.setIfInBounds_toArray, List.set_cons_zero, List.set_cons_succ]
    refine wpAnyH_take (i := 1) (oi := { dst := some 32, op := Op.nilCheck (Operand.tmp 31), type := 0, pos := "trees.go:338", after := #[{ on := 0, ground := Ground.data }], guard := none }) (v := ?_) rfl (by kernel_rfl) (by kernel_rfl) (by kernel_rfl) (fun _ _ _ h => h) (Or.inl ⟨by rfl, ?_⟩) (by assumption) ?_
    rotate_left
    · intro w hSw
      skip
      clear hSw
      go_simp
      try with_reducible rfl
    try simp only [Act.put, List.setIfInBounds_toArray, List.set_cons_zero, List.set_cons_succ]
    refine wpAnyH_take (i := 2) (oi := { dst := some 33, op := Op.fieldAddr 62 (Operand.tmp 32) 0, type := 0, pos := "trees.go:338", after := #[{ on := 1, ground := Ground.data }], guard := none }) (v := ?_) rfl (by kernel_rfl) (by kernel_rfl) (by kernel_rfl) (fun _ _ _ h => h) (Or.inl ⟨by rfl, ?_⟩) (by assumption) ?_
    rotate_left
    · intro w hSw
      skip
      clear hSw
      go_simp
      try with_reducible rfl
    try simp only [Act.put, List.setIfInBounds_toArray, List.set_cons_zero, List.set_cons_succ]
    refine wpAnyH_take (i := 4) (oi := { dst := some 35, op := Op.fieldAddr 41 (Operand.tmp 3) 0, type := 0, pos := "trees.go:338", after := #[], guard := none }) (v := ?_) rfl (by kernel_rfl) (by kernel_rfl) (by kernel_rfl) (fun _ _ _ h => h) (Or.inl ⟨by rfl, ?_⟩) (by assumption) ?_
    rotate_left
    · intro w hSw
      skip
      clear hSw
      go_simp
      try with_reducible rfl
    try simp only [Act.put, List.setIfInBounds_toArray, List.set_cons_zero, List.set_cons_succ]
    refine wpAnyH_take (i := 7) (oi := { dst := some 38, op := Op.move (Operand.tmp 0), type := 43, pos := "trees.go:338", after := #[], guard := none }) (v := ?_) rfl (by kernel_rfl) (by kernel_rfl) (by kernel_rfl) (fun _ _ _ h => h) (Or.inl ⟨by rfl, ?_⟩) (by assumption) ?_
    rotate_left
    · intro w hSw
      skip
      clear hSw
      go_simp
      try with_reducible rfl
    try simp only [Act.put, List.setIfInBounds_toArray, List.set_cons_zero, List.set_cons_succ]
    refine wpAnyH_take (i := 8) (oi := { dst := some 39, op := Op.nilCheck (Operand.tmp 38), type := 0, pos := "trees.go:338", after := #[{ on := 7, ground := Ground.data }], guard := none }) (v := ?_) rfl (by kernel_rfl) (by kernel_rfl) (by kernel_rfl) (fun _ _ _ h => h) (Or.inl ⟨by rfl, ?_⟩) (by assumption) ?_
    rotate_left
    · intro w hSw
      skip
      clear hSw
      go_simp
      try with_reducible rfl
    try simp only [Act.put, List.setIfInBounds_toArray, List.set_cons_zero, List.set_cons_succ]
    refine wpAnyH_take (i := 9) (oi := { dst := some 40, op := Op.fieldAddr 62 (Operand.tmp 39) 1, type := 0, pos := "trees.go:338", after := #[{ on := 8, ground := Ground.data }], guard := none }) (v := ?_) rfl (by kernel_rfl) (by kernel_rfl) (by kernel_rfl) (fun _ _ _ h => h) (Or.inl ⟨by rfl, ?_⟩) (by assumption) ?_
    rotate_left
    · intro w hSw
      skip
      clear hSw
      go_simp
      try with_reducible rfl
    try simp only [Act.put, List.setIfInBounds_toArray, List.set_cons_zero, List.set_cons_succ]
    refine wpAnyH_take (i := 3) (oi := { dst := some 34, op := Op.load 60 (Operand.tmp 33), type := 60, pos := "trees.go:338", after := #[{ on := 2, ground := Ground.data }], guard := none }) (v := ?_) rfl (by kernel_rfl) (by kernel_rfl) (by kernel_rfl) (fun _ _ _ h => h) (Or.inl ⟨by rfl, ?_⟩) (by assumption) ?_
    rotate_left
    · intro w hSw
      have hSw := OS _ hSw
      go_simp
      try with_reducible rfl
    try simp only [Act.put, List.setIfInBounds_toArray, List.set_cons_zero, List.set_cons_succ]
    refine wpAnyH_take (i := 5) (oi := { dst := some 36, op := Op.load 9 (Operand.tmp 35), type := 9, pos := "trees.go:338", after := #[{ on := 4, ground := Ground.data }], guard := none }) (v := ?_) rfl (by kernel_rfl) (by kernel_rfl) (by kernel_rfl) (fun _ _ _ h => h) (Or.inl ⟨by rfl, ?_⟩) (by assumption) ?_
    rotate_left
    · intro w hSw
      have hSw := OS _ hSw
      go_simp
      try with_reducible rfl
    try simp only [Act.put, List.setIfInBounds_toArray, List.set_cons_zero, List.set_cons_succ]
    refine wpAnyH_take (i := 6) (oi := { dst := some 37, op := Op.load 41 (Operand.tmp 3), type := 41, pos := "trees.go:338", after := #[], guard := none }) (v := _) rfl (by kernel_rfl) (by kernel_rfl) (by kernel_rfl) (fun _ _ _ h => h) (yieldsIf_load_mid (by rfl) _ _ rfl _ _ rfl _ _ (by intro w hSw; have hSw := OS _ hSw; go_split_ands; assumption) (by assumption) rfl (by assumption)) (by assumption) ?_
    try simp only [Act.put, List.setIfInBounds_toArray, List.set_cons_zero, List.set_cons_succ]
    refine wpAnyH_take (i := 10) (oi := { dst := some 41, op := Op.load 3 (Operand.tmp 40), type := 3, pos := "trees.go:338", after := #[{ on := 9, ground := Ground.data }], guard := none }) (v := ?_) rfl (by kernel_rfl) (by kernel_rfl) (by kernel_rfl) (fun _ _ _ h => h) (Or.inl ⟨by rfl, ?_⟩) (by assumption) ?_
    rotate_left
    · intro w hSw
      have hSw := OS _ hSw
      go_simp
      try with_reducible rfl
    try simp only [Act.put, List.setIfInBounds_toArray, List.set_cons_zero, List.set_cons_succ]
    refine wpAnyH_take (i := 11) (oi := { dst := some 42, op := Op.build 64 #[(0, Operand.tmp 37), (1, Operand.tmp 41)], type := 64, pos := "trees.go:338", after := #[{ on := 6, ground := Ground.data }, { on := 10, ground := Ground.data }], guard := none }) (v := .agg (plA ⟨n, k⟩)) rfl (by kernel_rfl) (by kernel_rfl) (by kernel_rfl) (fun _ _ _ h => h) (Or.inl ⟨by rfl, ?_⟩) (by assumption) ?_
    · intro w hSw
      skip
      clear hSw
      go_simp
      rfl
    try simp only [Act.put, List.setIfInBounds_toArray, List.set_cons_zero, List.set_cons_succ]
    refine wpAnyH_ready (rs := [12]) (by kernel_rfl) (by simp) ?_
    refine (AllReadyH.cons (o := { dst := none, op := Op.mapUpdate 60 (Operand.tmp 34) (Operand.tmp 36) (Operand.tmp 42), type := 0, pos := "trees.go:338", after := #[{ on := 3, ground := Ground.data }, { on := 5, ground := Ground.data }, { on := 11, ground := Ground.data }, { on := 0, ground := Ground.phase }, { on := 1, ground := Ground.phase }, { on := 2, ground := Ground.phase }, { on := 3, ground := Ground.phase }, { on := 4, ground := Ground.phase }, { on := 5, ground := Ground.phase }, { on := 6, ground := Ground.phase }, { on := 7, ground := Ground.phase }, { on := 8, ground := Ground.phase }, { on := 9, ground := Ground.phase }, { on := 10, ground := Ground.phase }, { on := 11, ground := Ground.phase }], guard := none }) rfl (fun K hK => ?_) AllReadyH.nil)
    obtain ⟨w8, hrun8, hM8, hg8⟩ := HMd.out.put (by unfold maxLen; have := HLN.out; omega) ⟨n, k⟩ (by have := HPL.out; unfold maxLen; show n.path.length ≤ _; omega)
    have hrun9 : (Instr.mapUpdate 60 (.map (some M)) (.string (str n.path)) (.agg (plA ⟨n, k⟩))).run Tryz.prog wd2 = .ok () w8 := hrun8
    clear hrun8
    go_simp
    refine hK.out _ _ (Gn.grown (by assumption) hg8 (fun j hj => (by cases hj; exact .inl rfl))) (fun hHeld2 => ?_)
    clear hK K
    refine wpAnyH_done (by kernel_rfl) ?_ _
    refine NoPanic.normal ?_
    go_end0
    exact ⟨rfl, ⟨(HEND.out _ (by assumption)).2, by rw [HLY.out]; exact hM8⟩, (HEND.out _ (by assumption)).1⟩
end Go.Proofs.YtbjgmkjinnbokaaGreatDoor
#print axioms Go.Proofs.YtbjgmkjinnbokaaGreatDoor.gput_any

