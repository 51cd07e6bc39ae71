/- Layer 16: the program's takeAway. -/
import Derived.Test.YtokeiagcdahmaaaDoorTtJ
import Derived.Laws.EntriesVeiled
namespace Go.Proofs.YtokeiagcdahmaaaDoor
open Go.RowKit

structure GrAt (w : World) (B M : Nat) (g : List Pl) (k : Int) : Prop where
  row : rowC w B #[.map (some M), .int .i64 k] 52
  map : MapG w M g
theorem GrAt.ne {w : World} {B M : Nat} {g : List Pl} {k : Int} (h : GrAt w B M g k) : B ≠ M := fun e => by
  have h1 : w.heap[B]? = _ := h.row
  obtain ⟨es, clock, hb, _⟩ := h.map
  rw [← e, h1] at hb
  cases hb
theorem GrAt.chg {s : Nat → Prop} {w w' : World} {B M : Nat} {g : List Pl} {k : Int} (h : GrAt w B M g k) (hc : Chg s w w') (hB : ¬ s B) (hM : ¬ s M) : GrAt w' B M g k := ⟨hc.rowC h.row hB, h.map.chg hc hM⟩
theorem GrAt.below {w w' : World} {B M : Nat} {g : List Pl} {k : Int} (h : GrAt w B M g k) (hb : Below w.heap.size w w') : GrAt w' B M g k := h.chg (s := fun _ => False) (Chg.of_below hb) id id
/-- What a call on it changes. -/
def GrC (B M : Nat) (w w' : World) : Prop := Chg (fun j => j = B ∨ j = M) w w'
theorem takeG_in (k : Int) (g : List Pl) (dir name : List UInt8) : takeG k g dir name true = g.filter fun p => !(!decide (p.lay = k) && (!decide (p.nd.path = dir) && insideB dir p.nd.path)) := rfl
theorem takeG_from (k : Int) (g : List Pl) (dir name : List UInt8) : takeG k g dir name false = g.filter fun p => !(!decide (p.lay = k) && insideB (join2 dir name) p.nd.path) := rfl
theorem box_two (w1 : World) (s : ByteArray) (v : Value) :
    rowC ((w1.alloc (.cells #[.string s] 9)).alloc (.cells #[v] 81)) w1.heap.size #[.string s] 9 ∧
    rowC ((w1.alloc (.cells #[.string s] 9)).alloc (.cells #[v] 81)) (w1.heap.size + 1) #[v] 81 ∧
    Below w1.heap.size w1 ((w1.alloc (.cells #[.string s] 9)).alloc (.cells #[v] 81)) ∧
    ((w1.alloc (.cells #[.string s] 9)).alloc (.cells #[v] 81)).heap.size = w1.heap.size + 2 := by
  have e1 : (w1.alloc (.cells #[.string s] 9)).heap.size = w1.heap.size + 1 := size_alloc _ _
  have r1 := rowC_new w1 #[.string s] 9
  have r2 := rowC_new (w1.alloc (.cells #[.string s] 9)) #[v] 81
  rw [e1] at r2
  refine ⟨rowC_alloc r1 _, r2, ?_, ?_⟩
  · exact ((Below.refl _ _).alloc (Nat.le_refl _) _).alloc (by rw [e1]; omega) _
  · rw [size_alloc, e1]
/-- What a closure of what goes asks, and what it says: over whatever the map has become. -/
theorem take1_del (g : Nat) (fp : List UInt8 → Bool) (top : List UInt8) (nb : Nat) (eg : ∀ args w, (callFunc g args).run Tryd.prog w = .ok (.enter g args) w)
    (hg : ∀ W : World, W.cell? ⟨nb, 0, none⟩ = some (.string (str top)) → ∀ p, Calls Tryd.prog g (#[.string (str p)] ++ #[.pointer (some ⟨nb, 0, none⟩)]) W fun e w' => e = .returned (.bool (fp p)) ∧ W = w')
    (b4 b8 B M : Nat) (k : Int) (w : World) (c4 : w.cell? ⟨b4, 0, none⟩ = some (.pointer (some ⟨B, 0, none⟩))) (c8 : w.cell? ⟨b8, 0, none⟩ = some (.func (.func g) #[] #[.pointer (some ⟨nb, 0, none⟩)]))
    (cB : w.cell? ⟨B, 1, none⟩ = some (.int .i64 k)) (cn : w.cell? ⟨nb, 0, none⟩ = some (.string (str top))) (n4 : b4 ≠ M) (n8 : b8 ≠ M) (nB : B ≠ M) (nn : nb ≠ M) (W : World) (x : Pl) (hgr : w.grownBy W (some M)) :
    Calls Tryd.prog 48 (#[.string (str x.nd.path), .agg (plA x)] ++ #[.pointer (some ⟨b4, 0, none⟩), .pointer (some ⟨b8, 0, none⟩)]) W fun e w' => e = .returned (.bool (!decide (x.lay = k) && fp x.nd.path)) ∧ W.grownBy w' none := by
  have far : ∀ {a : Addr} {v : Value}, w.cell? a = some v → a.block ≠ M → W.cell? a = some v := fun {a v} h hne => by
    rw [World.cell?_of_block (hgr.block _ (World.block_lt_of_cell? w a h) (fun e => hne (Option.some.inj e)))]
    exact h
  exact take1_any g fp top nb eg hg b4 b8 B k x W (far c4 n4) (far c8 n8) (far cB nB) (far cn nn)
set_option maxRecDepth 100000 in
set_option maxHeartbeats 8000000 in
theorem takeAway_any (dir name : List UInt8) (op : Bool) (hd : dir.length ≤ 1000000) (hn : name.length ≤ 1000000) (B M : Nat) (g : List Pl) (k : Int) (w : World) (h : GrAt w B M g k) :
    Calls Tryd.prog 30 #[.pointer (some ⟨B, 0, none⟩), .string (str dir), .string (str name), .bool op] w fun e w' => e = .returned (.tuple #[]) ∧ GrAt w' B M (takeG k g dir name op) k ∧ GrC B M w w' := by
  have CJ := fun W => join_any dir name hd hn W
  have CF := fun W => from_any (join2 dir name) W
  have CI := fun W => in_any dir W
  have HTF := Lib.hid (takeG_from k g dir name)
  have HTI := Lib.hid (takeG_in k g dir name)
  have hBw := rowC_lt h.row
  have hMw := h.map.lt
  have hBM := h.ne
  generalize hjn : join2 dir name = jn at *
  clear hjn hd hn
  obtain ⟨W0, hW0⟩ : ∃ W0, W0 = w.alloc (.cells #[.pointer (some ⟨B, 0, none⟩)] 43) := ⟨_, rfl⟩
  have HW0 := Lib.hid hW0
  have HB0 : Hid (Below w.heap.size w W0) := Lib.hid (by rw [hW0]; exact (Below.refl _ _).alloc (Nat.le_refl _) _)
  have HR0 : Hid (rowC W0 w.heap.size #[.pointer (some ⟨B, 0, none⟩)] 43) := Lib.hid (by rw [hW0]; exact rowC_new w _ _)
  have HG := Lib.hid h
  clear hW0 h
  go_enter Tryd.func30, Tryd.ntmps30
  go_upto_region 1 with (fail)
  rw [← HW0.out]
  go_upto_region 2 with (first
    | (go_at_call 45; ((with_reducible refine (CJ _).mono ?_); rintro e w1 ⟨rfl, hB1⟩; have HB1 := Lib.hid (HB0.out.trans (hB1.mono HB0.out.size)); have HR1 := Lib.hid (rowC_below HR0.out hB1 (rowC_lt HR0.out)); clear hB1; have HX := Lib.hid (fun v => box_two w1 (str jn) v)))
    | (go_at_call 44; ((with_reducible refine (CF _).mono ?_); rintro e w2 ⟨rfl, rfl⟩)))
  have hw1 := HB1.out.size
  obtain ⟨r1, r2, hb2, hz2⟩ := HX.out (.func (.func 72) #[] #[.pointer (some ⟨w1.heap.size, 0, none⟩)])
  generalize ((w1.alloc (.cells #[.string (str jn)] 9)).alloc (.cells #[.func (.func 72) #[] #[.pointer (some ⟨w1.heap.size, 0, none⟩)]] 81)) = W2 at *
  have HB2 := Lib.hid (HB1.out.trans (hb2.mono hw1))
  have hw4 : w.heap.size < w1.heap.size := rowC_lt HR1.out
  have HR2 := Lib.hid (rowC_below HR1.out hb2 (rowC_lt HR1.out))
  have HG2 : Hid (GrAt W2 B M g k) := Lib.hid (HG.out.below HB2.out)
  clear HX hb2
  cases op with
  | false =>
    have c0 : W2.cell? ⟨B, 0, none⟩ = some (.map (some M)) := rowC_cell HG2.out.row 0
    have c4 : W2.cell? ⟨w.heap.size, 0, none⟩ = some (.pointer (some ⟨B, 0, none⟩)) := rowC_cell HR2.out 0
    have CD := delFunc_any (fun x => !decide (x.lay = k) && insideB jn x.nd.path) 48 #[.pointer (some ⟨w.heap.size, 0, none⟩), .pointer (some ⟨w1.heap.size + 1, 0, none⟩)] M g W2 (enters_of Tryd.func48 (by kernel_rfl) rfl) HG2.out.map
      (fun W p _ hgr => take1_del 72 (fun q => insideB jn q) jn w1.heap.size (enters_of Tryd.func72 (by kernel_rfl) rfl) (fun W hW q => from1_any jn q _ W hW) w.heap.size (w1.heap.size + 1) B M k W2 c4 (rowC_cell r2 0) (rowC_cell HG2.out.row 1) (rowC_cell r1 0) (by omega) (by omega) hBM (by omega) W p hgr)
    go_wp2_with (go_at_call 47; (refine CD.mono ?_; rintro e w3 ⟨rfl, hM3, hg3⟩))
    go_end0
    have hc3 : Chg (fun j => j = M) W2 w3 := (Chg.refl _ _).grown hg3 (fun j hj => by cases hj; exact .inl rfl)
    exact ⟨rfl, ⟨hc3.rowC HG2.out.row hBM, by rw [HTF.out]; exact hM3⟩, (Chg.of_below HB2.out).trans hc3 (fun j _ hj => .inr hj)⟩
  | true =>
    have c8 : (W2.alloc (.cells #[.string (str dir)] 9)).cell? ⟨w1.heap.size + 1, 0, none⟩ = some _ ∧ (W2.alloc (.cells #[.string (str dir)] 9)).frozen? ⟨w1.heap.size + 1, 0, none⟩ = false := ⟨rowC_cell (rowC_alloc r2 _) 0, rowC_free (rowC_alloc r2 _) 0⟩
    obtain ⟨c8a, c8b⟩ := c8
    go_upto_region 4 with (go_at_call 46; ((with_reducible refine (CI _).mono ?_); rintro e w3 ⟨rfl, rfl⟩))
    obtain ⟨W3, hW3⟩ : ∃ W3, W3 = (W2.setCell ⟨w1.heap.size + 1, 0, none⟩ (.func (.func 74) #[] #[.pointer (some ⟨W2.heap.size, 0, none⟩)])).alloc (.cells #[.string (str dir)] 9) := ⟨_, rfl⟩
    rw [hz2] at hW3
    rw [← hW3]
    have r3 : rowC W3 (w1.heap.size + 1) #[.func (.func 74) #[] #[.pointer (some ⟨w1.heap.size + 2, 0, none⟩)]] 81 := by rw [hW3]; exact rowC_alloc (rowC_set r2 0 _) _
    have r4 : rowC W3 (w1.heap.size + 2) #[.string (str dir)] 9 := by
      rw [hW3]
      have := rowC_new (W2.setCell ⟨w1.heap.size + 1, 0, none⟩ (.func (.func 74) #[] #[.pointer (some ⟨w1.heap.size + 2, 0, none⟩)])) #[.string (str dir)] 9
      rw [World.size_setCell, hz2] at this
      exact this
    have HB3 : Hid (Below w.heap.size w W3) := Lib.hid (by rw [hW3]; exact (HB2.out.setCell (p := ⟨w1.heap.size + 1, 0, none⟩) (by show w.heap.size ≤ w1.heap.size + 1; omega) _).alloc (by rw [World.size_setCell]; exact HB2.out.size) _)
    have HR3 : Hid (rowC W3 w.heap.size #[.pointer (some ⟨B, 0, none⟩)] 43) := Lib.hid (by rw [hW3]; exact rowC_alloc (rowC_other HR2.out _ _ (by show w.heap.size ≠ w1.heap.size + 1; omega)) _)
    have HG3 : Hid (GrAt W3 B M g k) := Lib.hid (HG.out.below HB3.out)
    clear hW3 HG2 HR2 c8a c8b r1 r2
    have c0 : W3.cell? ⟨B, 0, none⟩ = some (.map (some M)) := rowC_cell HG3.out.row 0
    have c4 : W3.cell? ⟨w.heap.size, 0, none⟩ = some (.pointer (some ⟨B, 0, none⟩)) := rowC_cell HR3.out 0
    have CD := delFunc_any (fun x => !decide (x.lay = k) && (!decide (x.nd.path = dir) && insideB dir x.nd.path)) 48 #[.pointer (some ⟨w.heap.size, 0, none⟩), .pointer (some ⟨w1.heap.size + 1, 0, none⟩)] M g W3 (enters_of Tryd.func48 (by kernel_rfl) rfl) HG3.out.map
      (fun W p _ hgr => take1_del 74 (fun q => !decide (q = dir) && insideB dir q) dir (w1.heap.size + 2) (enters_of Tryd.func74 (by kernel_rfl) rfl) (fun W hW q => in1_any dir q _ W hW) w.heap.size (w1.heap.size + 1) B M k W3 c4 (rowC_cell r3 0) (rowC_cell HG3.out.row 1) (rowC_cell r4 0) (by omega) (by omega) hBM (by omega) W p hgr)
    go_wp2_with (go_at_call 47; (refine CD.mono ?_; rintro e w3 ⟨rfl, hM3, hg3⟩))
    go_end0
    have hc3 : Chg (fun j => j = M) W3 w3 := (Chg.refl _ _).grown hg3 (fun j hj => by cases hj; exact .inl rfl)
    exact ⟨rfl, ⟨hc3.rowC HG3.out.row hBM, by rw [HTI.out]; exact hM3⟩, (Chg.of_below HB3.out).trans hc3 (fun j _ hj => .inr hj)⟩
end Go.Proofs.YtokeiagcdahmaaaDoor
#print axioms Go.Proofs.YtokeiagcdahmaaaDoor.takeAway_any
