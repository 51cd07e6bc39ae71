/- Merged: OdY, OdZ, OeA. -/
import Derived.Test.YtnkencdibniagaaGreatDoorM33
import Derived.Deep.RegionHeld3
import Derived.Test.YtnkencdibniagaaGreatDoorM04
import Derived.Lib.ItoaLen
/- Layer 13: a digest's value. -/
namespace Go.Proofs.YtnkencdibniagaaGreatDoor
open Go.RowKit

set_option maxRecDepth 100000 in
set_option maxHeartbeats 4000000 in
theorem digest_put (D : Bs) (hD : D.length = 32) (w : World) : Calls Tryz.prog 62 #[.agg (cells8 D)] w fun e w' => e = .returned (.agg (row4 4 (str (textL D)) none 0 0 none 0 0)) ∧ Below w.heap.size w w' := by
  have HI := Lib.hid info_V
  have HID := Lib.hid (info_Gc D hD)
  obtain ⟨W0, hW0⟩ : ∃ W0, W0 = (w.alloc (.cells (cells8 D) 24)).alloc (.cells #[.int .i64 0, .string ⟨#[]⟩, .slice none 0 0, .slice none 0 0] 63) := ⟨_, rfl⟩
  have R0 : rowC W0 w.heap.size (cells8 D) 24 := by rw [hW0]; exact rowC_alloc (rowC_new w _ _) _
  have Z0 : rowC W0 (w.heap.size + 1) zeroV4 63 := by rw [hW0, ← size_alloc w (.cells (cells8 D) 24)]; exact rowC_new _ _ _
  have B0 : Below w.heap.size w W0 := by rw [hW0]; exact ((Below.refl _ _).alloc (Nat.le_refl _) _).alloc (by rw [size_alloc]; omega) _
  have S0 : W0.heap.size = w.heap.size + 2 := by rw [hW0, size_alloc, size_alloc]
  have CT := fun w' => text_any D w' hD
  have CX := fun w' => text_put (textL D) w'
  have HW0 := Lib.hid hW0
  have HR0 := Lib.hid R0
  have HZ0 := Lib.hid Z0
  have HB0 := Lib.hid B0
  clear hW0 R0 Z0 B0
  go_enter Tryz.func62, Tryz.ntmps62
  go_upto_region 1 with (fail)
  rw [← HW0.out]
  go_wp2_with (first
    | ((with_reducible show wpList _ _ _ (⟨some 3, .load _ _, _, _, _, _⟩ :: _) _ _); refine wpList_load_row rfl 24 _ rfl w.heap.size rfl 24 (cells8 D) (0, 0) _ HR0.out Tryz.underlying24 rfl HID.out ?_)
    | (go_at_call 93; ((with_reducible refine (CT _).mono ?_); rintro e w2 ⟨rfl, hb2⟩; have HB2 := Lib.hid hb2; have s2 := hb2.size; have HZ2 := Lib.hid (rowC_below HZ0.out hb2 (by omega)); clear hb2))
    | (go_at_call 52; ((with_reducible refine (CX _).mono ?_); rintro e w3 ⟨rfl, hb3⟩; have HB3 := Lib.hid hb3; have s3 := hb3.size; have HZ3 := Lib.hid (rowC_below HZ2.out hb3 (by omega)); clear hb3))
    | ((with_reducible show wpList _ _ _ (⟨none, .store _ (.tmp 2) _, _, _, _, _⟩ :: _) _ _); refine wpList_store_row rfl 63 _ _ rfl (w.heap.size + 1) (row4 4 (str (textL D)) none 0 0 none 0 0) rfl rfl 63 zeroV4 HZ3.out HI.out rfl (row4_all _ _ _ _ _ _ _ _) ?_))
  refine bodyPost_ret (results_cell_row rfl _ _ (w.heap.size + 1) 63 (row4 4 (str (textL D)) none 0 0 none 0 0) (0, 0) _ rfl (rowC_setRow HZ3.out _) Tryz.underlying63 rfl HI.out) rfl ?_
  have b3 := (HB0.out.trans (HB2.out.mono (by omega))).trans (HB3.out.mono (by omega))
  exact ⟨rfl, below_setRow b3 (by omega) _⟩
end Go.Proofs.YtnkencdibniagaaGreatDoor

/- Layer 13: a descriptor's fields, to be put. -/
namespace Go.Proofs.YtnkencdibniagaaGreatDoor
open Go.RowKit

theorem leaf_holds (w : World) (F : Nat → Prop) (k : Int) (t : Bs) (h : t.length ≤ 281474976710656) : HoldsC w F (.mk k t [] []) (.int .i64 k) (.string (str t)) (.slice none 0 0) (.slice none 0 0) := by
  rw [HoldsC]
  exact ⟨rfl, rfl, h, .inl ⟨rfl, rfl⟩, .inl ⟨rfl, rfl⟩⟩
/-- The three fields, in memory. -/
def fldC (d : DV) : Array Value := #[.string ⟨#[109, 101, 100, 105, 97, 84, 121, 112, 101]⟩, .int .i64 4, .string (str d.media), .slice none 0 0, .slice none 0 0,
  .string ⟨#[100, 105, 103, 101, 115, 116]⟩, .int .i64 4, .string (str (textL d.dig)), .slice none 0 0, .slice none 0 0,
  .string ⟨#[115, 105, 122, 101]⟩, .int .i64 3, .string (str (Lib.itoa d.size)), .slice none 0 0, .slice none 0 0]
def FldsP (w : World) (d : DV) (e : Ending) (w' : World) : Prop :=
  ∃ g, e = .returned (.slice (some ⟨g, 0, none⟩) 3 3) ∧ rowC w' g (fldC d) 102 ∧ w.heap.size ≤ g ∧ g < w'.heap.size ∧ Below w.heap.size w w'
theorem encD_range {w : World} {b : Nat} {d : DV} (hd : d.dig.length = 32) (h : rowC w b (encD d) 28) :
    w.cell? ⟨b, 0, none⟩ = some (.string (str d.media)) ∧ w.rangeAt b 1 (cells8 d.dig).toList ∧ w.cell? ⟨b, 33, none⟩ = some (.int .i64 d.size) := by
  rw [encD_list] at h
  refine ⟨rowC_cell h 0, rowC_range h 1 _ (fun j v hv => ?_), ?_⟩
  · rw [List.getElem?_toArray]
    unfold encL cells8 at *
    simp only [List.cons_append, List.nil_append] at *
    rw [Nat.add_comm, List.getElem?_cons_succ, List.getElem?_append_left (by
      have := (List.getElem?_eq_some_iff.1 hv).1
      simpa using this)]
    simpa using hv
  · rw [rowC_cell h 33, List.getElem?_toArray]
    unfold encL
    rw [List.append_assoc, List.getElem?_append_right (by simp), List.getElem?_append_right (by simp [hd])]
    simp [hd]
set_option maxRecDepth 100000 in
set_option maxHeartbeats 16000000 in
theorem fields_put (d : DV) (hd : d.dig.length = 32) (h0 : -9223372036854775808 ≤ d.size) (h1 : d.size ≤ 9223372036854775807) (w : World) (hE : Env2 w) :
    Calls Tryz.prog 91 #[.agg (encD d)] w fun e w' => FldsP w d e w' := by
  obtain ⟨W0, hW0⟩ : ∃ W0, W0 = w.alloc (.cells (encD d) 28) := ⟨_, rfl⟩
  have R0 : rowC W0 w.heap.size (encD d) 28 := by rw [hW0]; exact rowC_new w _ _
  have B0 : Below w.heap.size w W0 := by rw [hW0]; exact (Below.refl _ _).alloc (Nat.le_refl _) _
  have S0 : W0.heap.size = w.heap.size + 1 := by rw [hW0, size_alloc]
  have CT : ∀ w', Gn W0 no w' → Calls Tryz.prog 52 #[.string (str d.media)] w' fun e w2 => e = .returned (.agg #[.int .i64 4, .string (str d.media), .slice none 0 0, .slice none 0 0]) ∧ Gn W0 no w2 := fun w' hg =>
    (text_put d.media w').mono (fun e w2 h => ⟨h.1, hg.call h.2⟩)
  obtain ⟨X, hX⟩ : ∃ X, X = (cells8 d.dig).toList := ⟨_, rfl⟩
  have hXa : X.toArray = cells8 d.dig := by rw [hX]
  have CD : ∀ w', Gn W0 no w' → Calls Tryz.prog 62 #[.agg X.toArray] w' fun e w2 => e = .returned (.agg #[.int .i64 4, .string (str (textL d.dig)), .slice none 0 0, .slice none 0 0]) ∧ Gn W0 no w2 := fun w' hg => by
    rw [hXa]
    exact (digest_put d.dig hd w').mono (fun e w2 h => ⟨h.1, hg.call h.2⟩)
  have CI : ∀ w', Gn W0 no w' → Calls Tryz.prog 51 #[.int .i64 d.size] w' fun e w2 => e = .returned (.agg #[.int .i64 3, .string (str (Lib.itoa d.size)), .slice none 0 0, .slice none 0 0]) ∧ Gn W0 no w2 := fun w' hg =>
    (number_put d.size h0 h1 w' (hE.below (B0.trans (hg.below (by omega) (fun _ _ h => h))))).mono (fun e w2 h => ⟨h.1, hg.call h.2⟩)
  have OS : ∀ w', Gn W0 no w' → w'.cell? ⟨w.heap.size, 0, none⟩ = some (.string (str d.media)) ∧ w'.rangeAt w.heap.size 1 X ∧ w'.cell? ⟨w.heap.size, 33, none⟩ = some (.int .i64 d.size) := fun w' h => by
    rw [hX]
    exact encD_range hd (h.row R0 id)
  have iD : (Tryz.prog.info? 24).map (·.size) = some X.length := by
    have := info_Gc d.dig hd
    rw [this, hX]
    simp
  have uD := Tryz.underlying24
  have HW0 := Lib.hid hW0
  have HB0 := Lib.hid B0
  have HE := Lib.hid hE
  clear hW0 B0 R0 hX hXa hE h0 h1 hd
  go_enter Tryz.func91, Tryz.ntmps91
  go_upto_region 1 with (fail)
  rw [← HW0.out]
  have SO : ∀ w', Gn W0 no w' → Gn W0 no w' := fun _ h => h
  refine wp_region_noPanic ?_
  refine wp_region_held_drew (S := Gn W0 no) (by kernel_rfl) (Gn.start _ _) (fun hHeld => ?_)
  generalize W0.drew = wd at *
  refine wpAnyH_take (i := 0) (oi := { dst := some 3, op := Op.fieldAddr 28 (Operand.tmp 1) 0, type := 0, pos := "oci.go:362", after := #[], guard := none }) (v := ?_) rfl (by kernel_rfl) (by kernel_rfl) (by kernel_rfl) (fun _ _ _ h => h) (Or.inl ⟨by rfl, ?_⟩) (by assumption) ?_
  rotate_left
  · intro w hSw
    skip
    clear hSw
    go_simp
    try with_reducible rfl
  try simp only [Act.put, List.setIfInBounds_toArray, List.set_cons_zero, List.set_cons_succ]
  refine wpAnyH_take (i := 4) (oi := { dst := some 7, op := Op.fieldAddr 28 (Operand.tmp 1) 1, type := 0, pos := "oci.go:362", after := #[], guard := none }) (v := ?_) rfl (by kernel_rfl) (by kernel_rfl) (by kernel_rfl) (fun _ _ _ h => h) (Or.inl ⟨by rfl, ?_⟩) (by assumption) ?_
  rotate_left
  · intro w hSw
    skip
    clear hSw
    go_simp
    try with_reducible rfl
  try simp only [Act.put, List.setIfInBounds_toArray, List.set_cons_zero, List.set_cons_succ]
  refine wpAnyH_take (i := 8) (oi := { dst := some 11, op := Op.fieldAddr 28 (Operand.tmp 1) 2, type := 0, pos := "oci.go:362", after := #[], guard := none }) (v := ?_) rfl (by kernel_rfl) (by kernel_rfl) (by kernel_rfl) (fun _ _ _ h => h) (Or.inl ⟨by rfl, ?_⟩) (by assumption) ?_
  rotate_left
  · intro w hSw
    skip
    clear hSw
    go_simp
    try with_reducible rfl
  try simp only [Act.put, List.setIfInBounds_toArray, List.set_cons_zero, List.set_cons_succ]
  refine wpAnyH_take (i := 1) (oi := { dst := some 4, op := Op.load 9 (Operand.tmp 3), type := 9, pos := "oci.go:362", after := #[{ on := 0, ground := Ground.data }], guard := none }) (v := ?_) rfl (by kernel_rfl) (by kernel_rfl) (by kernel_rfl) (fun _ _ _ h => h) (Or.inl ⟨by rfl, ?_⟩) (by assumption) ?_
  rotate_left
  · intro w hSw
    have hSw := OS _ hSw
    go_simp
    try with_reducible rfl
  try simp only [Act.put, List.setIfInBounds_toArray, List.set_cons_zero, List.set_cons_succ]
  refine wpAnyH_take (i := 5) (oi := { dst := some 8, op := Op.load 24 (Operand.tmp 7), type := 24, pos := "oci.go:362", after := #[{ on := 4, ground := Ground.data }], guard := none }) (v := _) rfl (by kernel_rfl) (by kernel_rfl) (by kernel_rfl) (fun _ _ _ h => h) (yieldsIf_load_mid (by rfl) _ _ rfl _ _ rfl _ _ (by intro w hSw; have hSw := OS _ hSw; go_split_ands; assumption) (by assumption) rfl (by assumption)) (by assumption) ?_
  try simp only [Act.put, List.setIfInBounds_toArray, List.set_cons_zero, List.set_cons_succ]
  refine wpAnyH_take (i := 9) (oi := { dst := some 12, op := Op.load 3 (Operand.tmp 11), type := 3, pos := "oci.go:362", after := #[{ on := 8, ground := Ground.data }], guard := none }) (v := ?_) rfl (by kernel_rfl) (by kernel_rfl) (by kernel_rfl) (fun _ _ _ h => h) (Or.inl ⟨by rfl, ?_⟩) (by assumption) ?_
  rotate_left
  · intro w hSw
    have hSw := OS _ hSw
    go_simp
    try with_reducible rfl
  try simp only [Act.put, List.setIfInBounds_toArray, List.set_cons_zero, List.set_cons_succ]
  refine wpAnyH_ready (rs := [2]) (by kernel_rfl) (by simp) ?_
  refine (AllReadyH.cons (o := { dst := some 5, op := Op.call { callee := Callee.value (Operand.func 52), args := #[Operand.tmp 4], argTypes := #[9] }, type := 63, pos := "oci.go:363", after := #[{ on := 1, ground := Ground.data }], guard := none }) rfl (fun K hK => ?_) AllReadyH.nil)
  go_simp
  with_reducible refine (CT _ hHeld).mono ?_
  rintro e w2' ⟨rfl, m2'⟩
  refine hK.out _ _ (SO _ (by assumption)) (fun hHeld => ?_)
  clear hK K
  try simp only [Act.put, List.setIfInBounds_toArray, List.set_cons_zero, List.set_cons_succ]
  refine wpAnyH_take (i := 3) (oi := { dst := some 6, op := Op.build 102 #[(0, Operand.const (Value.string { data := #[109, 101, 100, 105, 97, 84, 121, 112, 101] })), (1, Operand.tmp 5)], type := 102, pos := "oci.go:362", after := #[{ on := 2, ground := Ground.data }], guard := none }) (v := ?_) rfl (by kernel_rfl) (by kernel_rfl) (by kernel_rfl) (fun _ _ _ h => h) (Or.inl ⟨by rfl, ?_⟩) (by assumption) ?_
  rotate_left
  · intro w hSw
    skip
    clear hSw
    go_simp
    try with_reducible rfl
  try simp only [Act.put, List.setIfInBounds_toArray, List.set_cons_zero, List.set_cons_succ]
  refine wpAnyH_ready (rs := [6]) (by kernel_rfl) (by simp) ?_
  refine (AllReadyH.cons (o := { dst := some 9, op := Op.call { callee := Callee.value (Operand.func 62), args := #[Operand.tmp 8], argTypes := #[24] }, type := 63, pos := "oci.go:364", after := #[{ on := 5, ground := Ground.data }, { on := 2, ground := Ground.chain }], guard := none }) rfl (fun K hK => ?_) AllReadyH.nil)
  go_simp
  with_reducible refine (CD _ hHeld).mono ?_
  rintro e w6' ⟨rfl, m6'⟩
  refine hK.out _ _ (SO _ (by assumption)) (fun hHeld => ?_)
  clear hK K
  try simp only [Act.put, List.setIfInBounds_toArray, List.set_cons_zero, List.set_cons_succ]
  refine wpAnyH_take (i := 7) (oi := { dst := some 10, op := Op.build 102 #[(0, Operand.const (Value.string { data := #[100, 105, 103, 101, 115, 116] })), (1, Operand.tmp 9)], type := 102, pos := "oci.go:362", after := #[{ on := 6, ground := Ground.data }], guard := none }) (v := ?_) rfl (by kernel_rfl) (by kernel_rfl) (by kernel_rfl) (fun _ _ _ h => h) (Or.inl ⟨by rfl, ?_⟩) (by assumption) ?_
  rotate_left
  · intro w hSw
    skip
    clear hSw
    go_simp
    try with_reducible rfl
  try simp only [Act.put, List.setIfInBounds_toArray, List.set_cons_zero, List.set_cons_succ]
  refine wpAnyH_ready (rs := [10]) (by kernel_rfl) (by simp) ?_
  refine (AllReadyH.cons (o := { dst := some 13, op := Op.call { callee := Callee.value (Operand.func 51), args := #[Operand.tmp 12], argTypes := #[3] }, type := 63, pos := "oci.go:365", after := #[{ on := 9, ground := Ground.data }, { on := 6, ground := Ground.chain }], guard := none }) rfl (fun K hK => ?_) AllReadyH.nil)
  go_simp
  with_reducible refine (CI _ hHeld).mono ?_
  rintro e w10' ⟨rfl, m10'⟩
  refine hK.out _ _ (SO _ (by assumption)) (fun hHeld => ?_)
  clear hK K
  try simp only [Act.put, List.setIfInBounds_toArray, List.set_cons_zero, List.set_cons_succ]
  refine wpAnyH_take (i := 11) (oi := { dst := some 14, op := Op.build 102 #[(0, Operand.const (Value.string { data := #[115, 105, 122, 101] })), (1, Operand.tmp 13)], type := 102, pos := "oci.go:362", after := #[{ on := 10, ground := Ground.data }], guard := none }) (v := ?_) rfl (by kernel_rfl) (by kernel_rfl) (by kernel_rfl) (fun _ _ _ h => h) (Or.inl ⟨by rfl, ?_⟩) (by assumption) ?_
  rotate_left
  · intro w hSw
    skip
    clear hSw
    go_simp
    try with_reducible rfl
  try simp only [Act.put, List.setIfInBounds_toArray, List.set_cons_zero, List.set_cons_succ]
  refine wpAnyH_ready (rs := [12]) (by kernel_rfl) (by simp) ?_
  refine (AllReadyH.cons (o := { dst := some 15, op := Op.buildSlice 158 3 #[(0, Operand.tmp 6), (1, Operand.tmp 10), (2, Operand.tmp 14)], type := 158, pos := "oci.go:362", after := #[{ on := 3, ground := Ground.data }, { on := 7, ground := Ground.data }, { on := 11, ground := Ground.data }], guard := none }) rfl (fun K hK => ?_) AllReadyH.nil)
  skip
  go_simp
  refine hK.out _ _ (SO _ (by exact Gn.alloc hHeld _)) (fun hHeld => ?_)
  clear hK K
  try simp only [Act.put, List.setIfInBounds_toArray, List.set_cons_zero, List.set_cons_succ]
  refine wpAnyH_take (i := 13) (oi := { dst := some 2, op := Op.assign (Operand.tmp 15), type := 158, pos := "oci.go:362", after := #[{ on := 12, ground := Ground.data }, { on := 10, ground := Ground.chain }, { on := 0, ground := Ground.phase }, { on := 1, ground := Ground.phase }, { on := 2, ground := Ground.phase }, { on := 3, ground := Ground.phase }, { on := 4, ground := Ground.phase }, { on := 5, ground := Ground.phase }, { on := 6, ground := Ground.phase }, { on := 7, ground := Ground.phase }, { on := 8, ground := Ground.phase }, { on := 9, ground := Ground.phase }, { on := 10, ground := Ground.phase }, { on := 11, ground := Ground.phase }, { on := 12, ground := Ground.phase }], guard := none }) (v := ?_) rfl (by kernel_rfl) (by kernel_rfl) (by kernel_rfl) (fun _ _ _ h => h) (Or.inl ⟨by rfl, ?_⟩) (by assumption) ?_
  rotate_left
  · intro w hSw
    skip
    clear hSw
    go_simp
    try with_reducible rfl
  try simp only [Act.put, List.setIfInBounds_toArray, List.set_cons_zero, List.set_cons_succ]
  refine wpAnyH_done (by kernel_rfl) ?_ _
  refine NoPanic.normal ?_
  go_wp2
  go_ret
  exact ⟨_, rfl, rowC_new _ _ _, by have := m10'.size; omega, by rw [size_alloc]; omega, HB0.out.trans ((hHeld.below (B := W0.heap.size) (by omega) (fun _ _ h => h)).mono (by omega))⟩
end Go.Proofs.YtnkencdibniagaaGreatDoor

/- Layer 13: a descriptor put without its platform. -/
namespace Go.Proofs.YtnkencdibniagaaGreatDoor
open Go.RowKit

/-- What may be put: numbers within an int, texts no longer than memory takes. -/
def putD (d : DV) : Prop := goodD d ∧ -9223372036854775808 ≤ d.size ∧ d.size ≤ 9223372036854775807
/-- A value put: in blocks of its own. -/
def PutP (w : World) (v : JV) (e : Ending) (w' : World) : Prop :=
  ∃ y m z n, e = .returned (.agg (row4 v.kind (str v.text) y v.items.length m z v.keys.length n)) ∧ HoldsC w' (fun q => w.heap.size ≤ q ∧ q < w'.heap.size) v (.int .i64 v.kind) (.string (str v.text)) (.slice y v.items.length m) (.slice z v.keys.length n) ∧ Below w.heap.size w w'
theorem obj_putP {w w3 : World} {l : List (Bs × JV)} {B c m n : Nat} {y z : Option Addr} (hh : HoldsC w3 (fun q => B ≤ q ∧ q < w3.heap.size) (objJ l) (.int .i64 6) (.string ⟨#[]⟩) (.slice y l.length m) (.slice z l.length n)) (hb : Below w.heap.size w w3) (hc : w.heap.size ≤ c) (hcB : c < B) (cs : Array Value) :
    PutP w (objJ l) (.returned (.agg (row4 6 ⟨#[]⟩ y l.length m z l.length n))) (w3.setRow c cs) := by
  have cz : Chg (fun q => q = c) w3 (w3.setRow c cs) := (Chg.refl _ _).setRow _ _ (.inl rfl)
  have h2 := HoldsC.mono (G := fun q => w.heap.size ≤ q ∧ q < (w3.setRow c cs).heap.size) (fun q hq hlt => ⟨by have := hq.1; omega, hlt⟩) _ _ _ _ _ (HoldsC.chg cz (fun q hq e => by have := hq.1; omega) _ _ _ _ _ hh)
  have e1 : (objJ l).items.length = l.length := by unfold objJ; simp [JV.items]
  have e2 : (objJ l).keys.length = l.length := by unfold objJ; simp [JV.keys]
  refine ⟨y, m, z, n, ?_, ?_, below_setRow hb hc _⟩
  · rw [e1, e2]
    rfl
  · rw [e1, e2]
    exact h2
end Go.Proofs.YtnkencdibniagaaGreatDoor

