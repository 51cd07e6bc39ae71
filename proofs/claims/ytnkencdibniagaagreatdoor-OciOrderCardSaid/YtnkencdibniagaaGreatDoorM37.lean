/- Merged: OeH, OgA, OgB. -/
import Derived.Test.YtnkencdibniagaaGreatDoorM36
import Derived.Test.YtnkencdibniagaaGreatDoorM20
import Derived.Test.YtnkencdibniagaaGreatDoorM04
import Derived.Deep.RegionHeld3
import Derived.Deep.DeepCutAuto
import Derived.Deep.CutBlock
import Derived.Test.YtnkencdibniagaaGreatDoorM26
/- Layer 13: PutImage. -/
namespace Go.Proofs.YtnkencdibniagaaGreatDoor
open Go.RowKit

theorem fldr2 {w : World} {g B : Nat} {k1 k2 : Bs} {v1 v2 : JV} {a1 b1 c1 d1 a2 b2 c2 d2 : Value} (h : rowC w g #[.string (str k1), a1, b1, c1, d1, .string (str k2), a2, b2, c2, d2] 102) (hg : g < w.heap.size)
    (h1 : HoldsC w (fun q => B ≤ q ∧ q < w.heap.size) v1 a1 b1 c1 d1) (h2 : HoldsC w (fun q => B ≤ q ∧ q < w.heap.size) v2 a2 b2 c2 d2) : FldR w B [(k1, v1), (k2, v2)] (some ⟨g, 0, none⟩) := by
  intro i k v hi
  rcases i with _ | _ | i
  · simp only [List.getElem?_cons_zero, Option.some.injEq, Prod.mk.injEq] at hi
    obtain ⟨rfl, rfl⟩ := hi
    refine ⟨⟨g, 0, none⟩, _, _, _, _, rfl, hg, ?_, h1⟩
    intro j u hu
    rcases j with _ | _ | _ | _ | _ | j
    · exact (rowC_cell h 0).trans hu
    · exact (rowC_cell h 1).trans hu
    · exact (rowC_cell h 2).trans hu
    · exact (rowC_cell h 3).trans hu
    · exact (rowC_cell h 4).trans hu
    · simp at hu
  · simp only [List.getElem?_cons_succ, List.getElem?_cons_zero, Option.some.injEq, Prod.mk.injEq] at hi
    obtain ⟨rfl, rfl⟩ := hi
    refine ⟨⟨g, 0, none⟩, _, _, _, _, rfl, hg, ?_, h2⟩
    intro j u hu
    rcases j with _ | _ | _ | _ | _ | j
    · exact (rowC_cell h 5).trans hu
    · exact (rowC_cell h 6).trans hu
    · exact (rowC_cell h 7).trans hu
    · exact (rowC_cell h 8).trans hu
    · exact (rowC_cell h 9).trans hu
    · simp at hu
  · simp at hi
def rooJ (l : List Bs) : JV := objJ [(kTyp, txtJ kLay), (kDif, lstJ (l.map digJ))]
theorem okJ_roo {l : List Bs} (hl : l.length ≤ 8) : okJ (rooJ l) := okJ_obj (by show 2 ≤ 65536; omega) fun p hq => by
  simp only [List.mem_cons, List.not_mem_nil, or_false] at hq
  rcases hq with rfl | rfl
  · exact ⟨Nat.le_of_ble_eq_true rfl, okJ_txt _⟩
  · refine ⟨Nat.le_of_ble_eq_true rfl, okJ_lst (by rw [List.length_map]; omega) fun v hv => ?_⟩
    obtain ⟨d, hd, rfl⟩ := List.mem_map.1 hv
    exact okJ_txt _
theorem okJ_img {p : Bs × Bs} {l : List Bs} (hl : l.length ≤ 8) : okJ (imgJ p l) := okJ_obj (by show 3 ≤ 65536; omega) fun q hq => by
  simp only [List.mem_cons, List.not_mem_nil, or_false] at hq
  rcases hq with rfl | rfl | rfl
  · exact ⟨Nat.le_of_ble_eq_true rfl, okJ_txt _⟩
  · exact ⟨Nat.le_of_ble_eq_true rfl, okJ_txt _⟩
  · exact ⟨Nat.le_of_ble_eq_true rfl, okJ_roo hl⟩
@[reducible] def rooC (y : Option Addr) (N m : Nat) (z : Option Addr) (n : Nat) : Array Value := #[.string ⟨#[116, 121, 112, 101]⟩, .int .i64 4, .string ⟨#[108, 97, 121, 101, 114, 115]⟩, .slice none 0 0, .slice none 0 0, .string ⟨#[100, 105, 102, 102, 95, 105, 100, 115]⟩, .int .i64 5, .string ⟨#[]⟩, .slice y N m, .slice z 0 n]
@[reducible] def imgC (p : Bs × Bs) (y : Option Addr) (m : Nat) (z : Option Addr) (n : Nat) : Array Value := #[.string ⟨#[97, 114, 99, 104, 105, 116, 101, 99, 116, 117, 114, 101]⟩, .int .i64 4, .string (str p.2), .slice none 0 0, .slice none 0 0, .string ⟨#[111, 115]⟩, .int .i64 4, .string (str p.1), .slice none 0 0, .slice none 0 0, .string ⟨#[114, 111, 111, 116, 102, 115]⟩, .int .i64 6, .string ⟨#[]⟩, .slice y 2 m, .slice z 2 n]
set_option maxRecDepth 100000 in
set_option maxHeartbeats 16000000 in
theorem putImage_any (p : Bs × Bs) (l : List Bs) (x : Option Addr) (cc : Nat) (w : World) (hE : Env2 w) (hl : l.length ≤ 70368744177664) (h1 : p.1.length ≤ 281474976710656) (h2 : p.2.length ≤ 281474976710656) (hL : eDigs.at_ w (fun k => k < w.heap.size) l (.slice x l.length cc)) :
    Calls Tryz.prog 22 #[.agg (row3 (str p.1) (str p.2) x l.length cc)] w fun e w' => e = .returned (.tuple #[.string (str (imgA p l).1), .int .i64 ((imgA p l).2 : Int)]) ∧ Below w.heap.size w w' := by
  obtain ⟨R, hR⟩ : ∃ R, R = imgA p l := ⟨_, rfl⟩
  rw [← hR]
  have HR := Lib.hid hR
  obtain ⟨W0, hW0⟩ : ∃ W0, W0 = w.alloc (.cells (row3 (str p.1) (str p.2) x l.length cc) 39) := ⟨_, rfl⟩
  have R0 : rowC W0 w.heap.size (row3 (str p.1) (str p.2) x l.length cc) 39 := by rw [hW0]; exact rowC_new w _ _
  have B0 : Below w.heap.size w W0 := by rw [hW0]; exact (Below.refl _ _).alloc (Nat.le_refl _) _
  have S0 : W0.heap.size = w.heap.size + 1 := by rw [hW0, size_alloc]
  have CI : Calls Tryz.prog 60 #[.agg #[.string (str p.1), .string (str p.2)]] W0 fun e w' => e = .returned (.bool (Lib.validD p.1 && Lib.validD p.2)) ∧ Below W0.heap.size W0 w' := isText_any p h1 h2 W0 (hE.below B0)
  obtain ⟨M, hM⟩ : ∃ M, M = (Lib.validD p.1 && Lib.validD p.2) := ⟨_, rfl⟩
  rw [← hM] at CI
  have HM := Lib.hid hM
  have HE := Lib.hid hE
  have HL := Lib.hid hL
  have HW0 := Lib.hid hW0
  have HR0 := Lib.hid R0
  have HB0 := Lib.hid B0
  have HIP := Lib.hid info_P
  have HP1 := Lib.hid h1
  have HP2 := Lib.hid h2
  have RG := Lib.hid (rowC_range R0 0 [.string (str p.1), .string (str p.2)] (fun i u hu => by
    rw [Nat.zero_add]
    rcases i with _ | _ | i
    · exact hu
    · exact hu
    · simp at hu))
  clear hR hM hE hL hW0 R0 B0 h1 h2
  go_enter Tryz.func22, Tryz.ntmps22
  go_upto_region 1 with (fail)
  rw [show w.alloc (.cells (row3 (str p.1) (str p.2) x l.length cc) 39) = W0 from HW0.out.symm]
  cases M with
  | false =>
    have e0 : Hid (R = ([], 2)) := Lib.hid (by rw [HR.out]; unfold imgA; rw [if_pos HM.out.symm])
    go_wp2_with (first
      | ((with_reducible show wpList _ _ _ (⟨some 5, .load _ _, _, _, _, _⟩ :: _) _ _); refine wpList_load_mid rfl 26 _ rfl w.heap.size 0 rfl [.string (str p.1), .string (str p.2)] _ RG.out Tryz.underlying26 rfl HIP.out ?_)
      | (go_at_call 60; ((with_reducible refine CI.mono ?_); rintro e w2 ⟨rfl, hb2⟩)))
    go_ret2
    rw [e0.out]
    exact ⟨rfl, HB0.out.trans (hb2.mono (by omega))⟩
  | true =>
    go_upto_region 3 with (first
      | ((with_reducible show wpList _ _ _ (⟨some 5, .load _ _, _, _, _, _⟩ :: _) _ _); refine wpList_load_mid rfl 26 _ rfl w.heap.size 0 rfl [.string (str p.1), .string (str p.2)] _ RG.out Tryz.underlying26 rfl HIP.out ?_)
      | (go_at_call 60; ((with_reducible refine CI.mono ?_); rintro e w2 ⟨rfl, hb2⟩; have HB2 := Lib.hid hb2; clear hb2)))
    have s2 := HB2.out.size
    have R2 := rowC_below HR0.out HB2.out (rowC_lt HR0.out)
    have q2 : w2.cell? ⟨w.heap.size, 2, none⟩ = some (.slice x l.length cc) := rowC_cell R2 2
    have HR2 := Lib.hid R2
    clear R2
    by_cases h8 : 8 < l.length
    · have e0 : Hid (R = ([], 63)) := Lib.hid (by rw [HR.out]; unfold imgA; rw [if_neg (by have := HM.out; simp at this; simp [this]), if_pos h8])
      have h8' : (8 : Int) < (l.length : Int) := by omega
      go_wp2
      go_ret2
      rw [e0.out]
      exact ⟨rfl, HB0.out.trans (HB2.out.mono (by omega))⟩
    have e0 : Hid (R = printA (imgJ p l)) := Lib.hid (by rw [HR.out]; unfold imgA; rw [if_neg (by have := HM.out; simp at this; simp [this]), if_neg h8])
    have h8' : ¬ (8 : Int) < (l.length : Int) := by omega
    go_upto_region 5 with (fail)
    have HBW : ∀ w', Gn w2 no w' → Below w.heap.size w w' := fun w' hg => (HB0.out.trans (HB2.out.mono (by omega))).trans ((hg.below (B := w.heap.size) (by omega) (fun _ _ h => h)))
    have CA : ∀ w', Gn w2 no w' → Calls Tryz.prog 52 #[.string (str p.2)] w' fun e w3 => e = .returned (.agg #[.int .i64 4, .string (str p.2), .slice none 0 0, .slice none 0 0]) ∧ Gn w2 no w3 := fun w' hg =>
      (text_put p.2 w').mono (fun e w3 h => ⟨h.1, hg.call h.2⟩)
    have CT : ∀ w', Gn w2 no w' → Calls Tryz.prog 52 #[.string (str p.1)] w' fun e w3 => e = .returned (.agg #[.int .i64 4, .string (str p.1), .slice none 0 0, .slice none 0 0]) ∧ Gn w2 no w3 := fun w' hg =>
      (text_put p.1 w').mono (fun e w3 h => ⟨h.1, hg.call h.2⟩)
    have CK : ∀ w', Gn w2 no w' → Calls Tryz.prog 52 #[.string ⟨#[108, 97, 121, 101, 114, 115]⟩] w' fun e w3 => e = .returned (.agg #[.int .i64 4, .string ⟨#[108, 97, 121, 101, 114, 115]⟩, .slice none 0 0, .slice none 0 0]) ∧ Gn w2 no w3 := fun w' hg =>
      (text_put kLay w').mono (fun e w3 h => ⟨h.1, hg.call h.2⟩)
    have CL : ∀ w', Gn w2 no w' → Calls Tryz.prog 61 #[.slice x l.length cc, .func (.func 62) #[] #[]] w' fun e w3 => ∃ y m z n, e = .returned (.agg #[.int .i64 5, .string ⟨#[]⟩, .slice y l.length m, .slice z 0 n]) ∧ HoldsC w3 (fun q => w.heap.size ≤ q ∧ q < w3.heap.size) (lstJ (l.map digJ)) (.int .i64 5) (.string ⟨#[]⟩) (.slice y l.length m) (.slice z 0 n) ∧ Gn w2 no w3 := fun w' hg => by
      have hb := HBW w' hg
      refine (lsput_dig l x cc w' (HE.out.below hb) (by omega) (eDigs.mono (eDigs.chg HL.out (Chg.of_below (s := no) hb) (fun _ _ h => h)) (fun k hk _ => Nat.lt_of_lt_of_le hk hb.size))).mono ?_
      rintro e w3 ⟨y, m, z, n, rfl, hV, hb3⟩
      have e1 : (lstJ (l.map digJ)).items.length = l.length := by unfold lstJ; simp [JV.items]
      rw [e1] at hV ⊢
      exact ⟨y, m, z, n, rfl, HoldsC.mono (fun k hk hlt => ⟨Nat.le_trans hb.size hk.1, hlt⟩) _ _ _ _ _ hV, hg.call hb3⟩
    have CO : ∀ w' b y m z n, Gn w2 no w' → rowC w' b (rooC y l.length m z n) 102 → b < w'.heap.size → HoldsC w' (fun q => w.heap.size ≤ q ∧ q < w'.heap.size) (lstJ (l.map digJ)) (.int .i64 5) (.string ⟨#[]⟩) (.slice y l.length m) (.slice z 0 n) → Calls Tryz.prog 50 #[.slice (some ⟨b, 0, none⟩) 2 2] w' fun e w3 => ∃ y m z n, e = .returned (.agg #[.int .i64 6, .string ⟨#[]⟩, .slice y 2 m, .slice z 2 n]) ∧ HoldsC w3 (fun q => w.heap.size ≤ q ∧ q < w3.heap.size) (rooJ l) (.int .i64 6) (.string ⟨#[]⟩) (.slice y 2 m) (.slice z 2 n) ∧ Gn w2 no w3 := fun w' b y m z n hg h1 h2 h3 => by
      have hb := HBW w' hg
      refine (object_put [(kTyp, txtJ kLay), (kDif, lstJ (l.map digJ))] w.heap.size _ 2 w' hb.size (by show 2 ≤ 1000; omega) (fldr2 (k1 := kTyp) (k2 := kDif) h1 h2 (leaf_holds _ _ 4 kLay (by decide)) h3)).mono ?_
      rintro e w3 ⟨y, m, z, n, rfl, hV, hb3⟩
      exact ⟨y, m, z, n, rfl, hV, hg.call hb3⟩
    have CQ : ∀ w' b y m z n, Gn w2 no w' → rowC w' b (imgC p y m z n) 102 → b < w'.heap.size → HoldsC w' (fun q => w.heap.size ≤ q ∧ q < w'.heap.size) (rooJ l) (.int .i64 6) (.string ⟨#[]⟩) (.slice y 2 m) (.slice z 2 n) → Calls Tryz.prog 50 #[.slice (some ⟨b, 0, none⟩) 3 3] w' fun e w3 => ∃ y m z n, e = .returned (.agg #[.int .i64 6, .string ⟨#[]⟩, .slice y 3 m, .slice z 3 n]) ∧ HoldsC w3 (fun q => q < w3.heap.size) (imgJ p l) (.int .i64 6) (.string ⟨#[]⟩) (.slice y 3 m) (.slice z 3 n) ∧ Gn w2 no w3 := fun w' b y m z n hg h1 h2 h3 => by
      have hb := HBW w' hg
      refine (object_put [(kArc, txtJ p.2), (kOS, txtJ p.1), (kRoo, rooJ l)] w.heap.size _ 3 w' hb.size (by show 3 ≤ 1000; omega) (fldr3 (k1 := kArc) (k2 := kOS) (k3 := kRoo) h1 h2 (leaf_holds _ _ 4 p.2 HP2.out) (leaf_holds _ _ 4 p.1 HP1.out) h3)).mono ?_
      rintro e w3 ⟨y, m, z, n, rfl, hV, hb3⟩
      exact ⟨y, m, z, n, rfl, HoldsC.mono (fun k hk hlt => hlt) _ _ _ _ _ hV, hg.call hb3⟩
    have CP : ∀ w' y m z n, Gn w2 no w' → HoldsC w' (fun q => q < w'.heap.size) (imgJ p l) (.int .i64 6) (.string ⟨#[]⟩) (.slice y 3 m) (.slice z 3 n) → Calls Tryz.prog 29 #[.agg #[.int .i64 6, .string ⟨#[]⟩, .slice y 3 m, .slice z 3 n]] w' fun e w3 => e = .returned (.tuple #[.string (str R.1), .int .i64 (R.2 : Int)]) ∧ Gn w2 no w3 := fun w' y m z n hg hV => by
      rw [e0.out]
      refine (print_any (okJ_img (by omega)) (HE.out.below (HBW w' hg)).env hV).mono ?_
      rintro e w3 ⟨rfl, hb3⟩
      exact ⟨rfl, hg.call hb3⟩
    have OS : ∀ w', Gn w2 no w' → w'.cell? ⟨w.heap.size, 0, none⟩ = some (.string (str p.1)) ∧ w'.cell? ⟨w.heap.size, 1, none⟩ = some (.string (str p.2)) ∧ w'.cell? ⟨w.heap.size, 2, none⟩ = some (.slice x l.length cc) := fun w' h => by
      have r := h.row HR2.out id
      exact ⟨rowC_cell r 0, rowC_cell r 1, rowC_cell r 2⟩
    have HBB := Lib.hid HBW
    clear HBW q2
    have SO : ∀ w', Gn w2 no w' → Gn w2 no w' := fun _ h => h
    refine wp_region_noPanic ?_
    refine wp_region_held_drew (S := Gn w2 no) (by kernel_rfl) (Gn.start _ _) (fun hHeld => ?_)
    generalize w2.drew = wd at *
    refine wpAnyH_take (i := 0) (oi := { dst := some 12, op := Op.fieldAddr 39 (Operand.tmp 1) 0, type := 0, pos := "oci.go:181", after := #[], guard := none }) (v := ?_) rfl (by kernel_rfl) (by kernel_rfl) (by kernel_rfl) (fun _ _ _ h => h) (Or.inl ⟨by rfl, ?_⟩) (by assumption) ?_
    rotate_left
    · intro w hSw
      skip
      clear hSw
      go_simp
      try with_reducible rfl
    try simp only [Act.put, List.setIfInBounds_toArray, List.set_cons_zero, List.set_cons_succ]
    refine wpAnyH_take (i := 1) (oi := { dst := some 13, op := Op.fieldAddr 26 (Operand.tmp 12) 1, type := 0, pos := "oci.go:181", after := #[{ on := 0, ground := Ground.data }], guard := none }) (v := ?_) rfl (by kernel_rfl) (by kernel_rfl) (by kernel_rfl) (fun _ _ _ h => h) (Or.inl ⟨by rfl, ?_⟩) (by assumption) ?_
    rotate_left
    · intro w hSw
      skip
      clear hSw
      go_simp
      try with_reducible rfl
    try simp only [Act.put, List.setIfInBounds_toArray, List.set_cons_zero, List.set_cons_succ]
    refine wpAnyH_take (i := 5) (oi := { dst := some 17, op := Op.fieldAddr 39 (Operand.tmp 1) 0, type := 0, pos := "oci.go:181", after := #[], guard := none }) (v := ?_) rfl (by kernel_rfl) (by kernel_rfl) (by kernel_rfl) (fun _ _ _ h => h) (Or.inl ⟨by rfl, ?_⟩) (by assumption) ?_
    rotate_left
    · intro w hSw
      skip
      clear hSw
      go_simp
      try with_reducible rfl
    try simp only [Act.put, List.setIfInBounds_toArray, List.set_cons_zero, List.set_cons_succ]
    refine wpAnyH_take (i := 6) (oi := { dst := some 18, op := Op.fieldAddr 26 (Operand.tmp 17) 0, type := 0, pos := "oci.go:181", after := #[{ on := 5, ground := Ground.data }], guard := none }) (v := ?_) rfl (by kernel_rfl) (by kernel_rfl) (by kernel_rfl) (fun _ _ _ h => h) (Or.inl ⟨by rfl, ?_⟩) (by assumption) ?_
    rotate_left
    · intro w hSw
      skip
      clear hSw
      go_simp
      try with_reducible rfl
    try simp only [Act.put, List.setIfInBounds_toArray, List.set_cons_zero, List.set_cons_succ]
    refine wpAnyH_take (i := 12) (oi := { dst := some 24, op := Op.fieldAddr 39 (Operand.tmp 1) 1, type := 0, pos := "oci.go:181", after := #[], guard := none }) (v := ?_) rfl (by kernel_rfl) (by kernel_rfl) (by kernel_rfl) (fun _ _ _ h => h) (Or.inl ⟨by rfl, ?_⟩) (by assumption) ?_
    rotate_left
    · intro w hSw
      skip
      clear hSw
      go_simp
      try with_reducible rfl
    try simp only [Act.put, List.setIfInBounds_toArray, List.set_cons_zero, List.set_cons_succ]
    refine wpAnyH_take (i := 2) (oi := { dst := some 14, op := Op.load 9 (Operand.tmp 13), type := 9, pos := "oci.go:181", after := #[{ on := 1, ground := Ground.data }], guard := none }) (v := ?_) rfl (by kernel_rfl) (by kernel_rfl) (by kernel_rfl) (fun _ _ _ h => h) (Or.inl ⟨by rfl, ?_⟩) (by assumption) ?_
    rotate_left
    · intro w hSw
      have hSw := OS _ hSw
      go_simp
      try with_reducible rfl
    try simp only [Act.put, List.setIfInBounds_toArray, List.set_cons_zero, List.set_cons_succ]
    refine wpAnyH_take (i := 7) (oi := { dst := some 19, op := Op.load 9 (Operand.tmp 18), type := 9, pos := "oci.go:181", after := #[{ on := 6, ground := Ground.data }], guard := none }) (v := ?_) rfl (by kernel_rfl) (by kernel_rfl) (by kernel_rfl) (fun _ _ _ h => h) (Or.inl ⟨by rfl, ?_⟩) (by assumption) ?_
    rotate_left
    · intro w hSw
      have hSw := OS _ hSw
      go_simp
      try with_reducible rfl
    try simp only [Act.put, List.setIfInBounds_toArray, List.set_cons_zero, List.set_cons_succ]
    refine wpAnyH_take (i := 13) (oi := { dst := some 25, op := Op.load 37 (Operand.tmp 24), type := 37, pos := "oci.go:181", after := #[{ on := 12, ground := Ground.data }], guard := none }) (v := ?_) rfl (by kernel_rfl) (by kernel_rfl) (by kernel_rfl) (fun _ _ _ h => h) (Or.inl ⟨by rfl, ?_⟩) (by assumption) ?_
    rotate_left
    · intro w hSw
      have hSw := OS _ hSw
      go_simp
      try with_reducible rfl
    try simp only [Act.put, List.setIfInBounds_toArray, List.set_cons_zero, List.set_cons_succ]
    refine wpAnyH_ready (rs := [3]) (by kernel_rfl) (by simp) ?_
    refine (AllReadyH.cons (o := { dst := some 15, op := Op.call { callee := Callee.value (Operand.func 52), args := #[Operand.tmp 14], argTypes := #[9] }, type := 63, pos := "oci.go:182", after := #[{ on := 2, ground := Ground.data }], guard := none }) rfl (fun K hK => ?_) AllReadyH.nil)
    go_simp
    with_reducible refine (CA _ hHeld).mono ?_
    rintro e w3' ⟨rfl, m3'⟩
    refine hK.out _ _ (SO _ (by assumption)) (fun hHeld => ?_)
    clear hK K
    try simp only [Act.put, List.setIfInBounds_toArray, List.set_cons_zero, List.set_cons_succ]
    refine wpAnyH_take (i := 4) (oi := { dst := some 16, op := Op.build 102 #[(0, Operand.const (Value.string { data := #[97, 114, 99, 104, 105, 116, 101, 99, 116, 117, 114, 101] })), (1, Operand.tmp 15)], type := 102, pos := "oci.go:181", after := #[{ on := 3, ground := Ground.data }], guard := none }) (v := ?_) rfl (by kernel_rfl) (by kernel_rfl) (by kernel_rfl) (fun _ _ _ h => h) (Or.inl ⟨by rfl, ?_⟩) (by assumption) ?_
    rotate_left
    · intro w hSw
      skip
      clear hSw
      go_simp
      try with_reducible rfl
    try simp only [Act.put, List.setIfInBounds_toArray, List.set_cons_zero, List.set_cons_succ]
    refine wpAnyH_ready (rs := [8]) (by kernel_rfl) (by simp) ?_
    refine (AllReadyH.cons (o := { dst := some 20, op := Op.call { callee := Callee.value (Operand.func 52), args := #[Operand.tmp 19], argTypes := #[9] }, type := 63, pos := "oci.go:183", after := #[{ on := 7, ground := Ground.data }, { on := 3, ground := Ground.chain }], guard := none }) rfl (fun K hK => ?_) AllReadyH.nil)
    go_simp
    with_reducible refine (CT _ hHeld).mono ?_
    rintro e w8' ⟨rfl, m8'⟩
    refine hK.out _ _ (SO _ (by assumption)) (fun hHeld => ?_)
    clear hK K
    try simp only [Act.put, List.setIfInBounds_toArray, List.set_cons_zero, List.set_cons_succ]
    refine wpAnyH_take (i := 9) (oi := { dst := some 21, op := Op.build 102 #[(0, Operand.const (Value.string { data := #[111, 115] })), (1, Operand.tmp 20)], type := 102, pos := "oci.go:181", after := #[{ on := 8, ground := Ground.data }], guard := none }) (v := ?_) rfl (by kernel_rfl) (by kernel_rfl) (by kernel_rfl) (fun _ _ _ h => h) (Or.inl ⟨by rfl, ?_⟩) (by assumption) ?_
    rotate_left
    · intro w hSw
      skip
      clear hSw
      go_simp
      try with_reducible rfl
    try simp only [Act.put, List.setIfInBounds_toArray, List.set_cons_zero, List.set_cons_succ]
    refine wpAnyH_ready (rs := [10]) (by kernel_rfl) (by simp) ?_
    refine (AllReadyH.cons (o := { dst := some 22, op := Op.call { callee := Callee.value (Operand.func 52), args := #[Operand.const (Value.string { data := #[108, 97, 121, 101, 114, 115] })], argTypes := #[9] }, type := 63, pos := "oci.go:185", after := #[{ on := 8, ground := Ground.chain }], guard := none }) rfl (fun K hK => ?_) AllReadyH.nil)
    go_simp
    with_reducible refine (CK _ hHeld).mono ?_
    rintro e w10' ⟨rfl, m10'⟩
    refine hK.out _ _ (SO _ (by assumption)) (fun hHeld => ?_)
    clear hK K
    try simp only [Act.put, List.setIfInBounds_toArray, List.set_cons_zero, List.set_cons_succ]
    refine wpAnyH_take (i := 11) (oi := { dst := some 23, op := Op.build 102 #[(0, Operand.const (Value.string { data := #[116, 121, 112, 101] })), (1, Operand.tmp 22)], type := 102, pos := "oci.go:181", after := #[{ on := 10, ground := Ground.data }], guard := none }) (v := ?_) rfl (by kernel_rfl) (by kernel_rfl) (by kernel_rfl) (fun _ _ _ h => h) (Or.inl ⟨by rfl, ?_⟩) (by assumption) ?_
    rotate_left
    · intro w hSw
      skip
      clear hSw
      go_simp
      try with_reducible rfl
    try simp only [Act.put, List.setIfInBounds_toArray, List.set_cons_zero, List.set_cons_succ]
    refine wpAnyH_ready (rs := [14]) (by kernel_rfl) (by simp) ?_
    refine (AllReadyH.cons (o := { dst := some 26, op := Op.call { callee := Callee.value (Operand.func 61), args := #[Operand.tmp 25, Operand.func 62], argTypes := #[37, 112] }, type := 63, pos := "oci.go:186", after := #[{ on := 13, ground := Ground.data }, { on := 10, ground := Ground.chain }], guard := none }) rfl (fun K hK => ?_) AllReadyH.nil)
    go_simp
    with_reducible refine (CL _ hHeld).mono ?_
    rintro e w14' ⟨y, m, z, n, rfl, h14, m14'⟩
    have H14 := Lib.hid h14; clear h14
    refine hK.out _ _ (SO _ (by assumption)) (fun hHeld => ?_)
    clear hK K
    try simp only [Act.put, List.setIfInBounds_toArray, List.set_cons_zero, List.set_cons_succ]
    refine wpAnyH_take (i := 15) (oi := { dst := some 27, op := Op.build 102 #[(0, Operand.const (Value.string { data := #[100, 105, 102, 102, 95, 105, 100, 115] })), (1, Operand.tmp 26)], type := 102, pos := "oci.go:181", after := #[{ on := 14, ground := Ground.data }], guard := none }) (v := ?_) rfl (by kernel_rfl) (by kernel_rfl) (by kernel_rfl) (fun _ _ _ h => h) (Or.inl ⟨by rfl, ?_⟩) (by assumption) ?_
    rotate_left
    · intro w hSw
      skip
      clear hSw
      go_simp
      try with_reducible rfl
    try simp only [Act.put, List.setIfInBounds_toArray, List.set_cons_zero, List.set_cons_succ]
    refine wpAnyH_ready (rs := [16]) (by kernel_rfl) (by simp) ?_
    refine (AllReadyH.cons (o := { dst := some 28, op := Op.buildSlice 158 2 #[(0, Operand.tmp 23), (1, Operand.tmp 27)], type := 158, pos := "oci.go:181", after := #[{ on := 11, ground := Ground.data }, { on := 15, ground := Ground.data }], guard := none }) rfl (fun K hK => ?_) AllReadyH.nil)
    skip
    go_simp
    refine hK.out _ _ (SO _ (by exact Gn.alloc hHeld _)) (fun hHeld => ?_)
    clear hK K
    try simp only [Act.put, List.setIfInBounds_toArray, List.set_cons_zero, List.set_cons_succ]
    refine wpAnyH_ready (rs := [17]) (by kernel_rfl) (by simp) ?_
    refine (AllReadyH.cons (o := { dst := some 29, op := Op.call { callee := Callee.value (Operand.func 50), args := #[Operand.tmp 28], argTypes := #[158] }, type := 63, pos := "oci.go:184", after := #[{ on := 16, ground := Ground.data }, { on := 14, ground := Ground.chain }], guard := none }) rfl (fun K hK => ?_) AllReadyH.nil)
    go_simp
    with_reducible refine (CO _ _ _ _ _ _ hHeld (rowC_new _ _ _) (by rw [size_alloc]; omega) (HoldsC.mono (fun k hk _ => ⟨hk.1, by rw [size_alloc]; have := hk.2; omega⟩) _ _ _ _ _ (HoldsC.chg ((Chg.refl (fun _ => False) _).alloc _) (fun _ _ h => h) _ _ _ _ _ H14.out))).mono ?_
    rintro e w17' ⟨y7, m7, z7, n7, rfl, h17, m17'⟩
    have H17 := Lib.hid h17; clear h17
    refine hK.out _ _ (SO _ (by assumption)) (fun hHeld => ?_)
    clear hK K
    try simp only [Act.put, List.setIfInBounds_toArray, List.set_cons_zero, List.set_cons_succ]
    refine wpAnyH_take (i := 18) (oi := { dst := some 30, op := Op.build 102 #[(0, Operand.const (Value.string { data := #[114, 111, 111, 116, 102, 115] })), (1, Operand.tmp 29)], type := 102, pos := "oci.go:181", after := #[{ on := 17, ground := Ground.data }], guard := none }) (v := ?_) rfl (by kernel_rfl) (by kernel_rfl) (by kernel_rfl) (fun _ _ _ h => h) (Or.inl ⟨by rfl, ?_⟩) (by assumption) ?_
    rotate_left
    · intro w hSw
      skip
      clear hSw
      go_simp
      try with_reducible rfl
    try simp only [Act.put, List.setIfInBounds_toArray, List.set_cons_zero, List.set_cons_succ]
    refine wpAnyH_ready (rs := [19]) (by kernel_rfl) (by simp) ?_
    refine (AllReadyH.cons (o := { dst := some 31, op := Op.buildSlice 158 3 #[(0, Operand.tmp 16), (1, Operand.tmp 21), (2, Operand.tmp 30)], type := 158, pos := "oci.go:181", after := #[{ on := 4, ground := Ground.data }, { on := 9, ground := Ground.data }, { on := 18, ground := Ground.data }], guard := none }) rfl (fun K hK => ?_) AllReadyH.nil)
    skip
    go_simp
    refine hK.out _ _ (SO _ (by exact Gn.alloc hHeld _)) (fun hHeld => ?_)
    clear hK K
    try simp only [Act.put, List.setIfInBounds_toArray, List.set_cons_zero, List.set_cons_succ]
    refine wpAnyH_ready (rs := [20]) (by kernel_rfl) (by simp) ?_
    refine (AllReadyH.cons (o := { dst := some 32, op := Op.call { callee := Callee.value (Operand.func 50), args := #[Operand.tmp 31], argTypes := #[158] }, type := 63, pos := "oci.go:181", after := #[{ on := 19, ground := Ground.data }, { on := 17, ground := Ground.chain }], guard := none }) rfl (fun K hK => ?_) AllReadyH.nil)
    go_simp
    with_reducible refine (CQ _ _ _ _ _ _ hHeld (rowC_new _ _ _) (by rw [size_alloc]; omega) (HoldsC.mono (fun k hk _ => ⟨hk.1, by rw [size_alloc]; have := hk.2; omega⟩) _ _ _ _ _ (HoldsC.chg ((Chg.refl (fun _ => False) _).alloc _) (fun _ _ h => h) _ _ _ _ _ H17.out))).mono ?_
    rintro e w20' ⟨y8, m8, z8, n8, rfl, h20, m20'⟩
    have H20 := Lib.hid h20; clear h20
    refine hK.out _ _ (SO _ (by assumption)) (fun hHeld => ?_)
    clear hK K
    try simp only [Act.put, List.setIfInBounds_toArray, List.set_cons_zero, List.set_cons_succ]
    refine wpAnyH_ready (rs := [21]) (by kernel_rfl) (by simp) ?_
    refine (AllReadyH.cons (o := { dst := some 33, op := Op.call { callee := Callee.value (Operand.func 29), args := #[Operand.tmp 32], argTypes := #[63] }, type := 50, pos := "oci.go:181", after := #[{ on := 20, ground := Ground.data }, { on := 20, ground := Ground.chain }], guard := none }) rfl (fun K hK => ?_) AllReadyH.nil)
    go_simp
    with_reducible refine (CP _ _ _ _ _ hHeld H20.out).mono ?_
    rintro e w21' ⟨rfl, m21'⟩
    refine hK.out _ _ (SO _ (by assumption)) (fun hHeld => ?_)
    clear hK K
    try simp only [Act.put, List.setIfInBounds_toArray, List.set_cons_zero, List.set_cons_succ]
    refine wpAnyH_take (i := 22) (oi := { dst := some 34, op := Op.extract (Operand.tmp 33) 0, type := 9, pos := "oci.go:181", after := #[{ on := 21, ground := Ground.data }], guard := none }) (v := ?_) rfl (by kernel_rfl) (by kernel_rfl) (by kernel_rfl) (fun _ _ _ h => h) (Or.inl ⟨by rfl, ?_⟩) (by assumption) ?_
    rotate_left
    · intro w hSw
      skip
      clear hSw
      go_simp
      try with_reducible rfl
    try simp only [Act.put, List.setIfInBounds_toArray, List.set_cons_zero, List.set_cons_succ]
    refine wpAnyH_take (i := 23) (oi := { dst := some 35, op := Op.extract (Operand.tmp 33) 1, type := 32, pos := "oci.go:181", after := #[{ on := 21, ground := Ground.data }], guard := none }) (v := ?_) rfl (by kernel_rfl) (by kernel_rfl) (by kernel_rfl) (fun _ _ _ h => h) (Or.inl ⟨by rfl, ?_⟩) (by assumption) ?_
    rotate_left
    · intro w hSw
      skip
      clear hSw
      go_simp
      try with_reducible rfl
    try simp only [Act.put, List.setIfInBounds_toArray, List.set_cons_zero, List.set_cons_succ]
    refine wpAnyH_take (i := 24) (oi := { dst := some 2, op := Op.assign (Operand.tmp 34), type := 9, pos := "oci.go:181", after := #[{ on := 22, ground := Ground.data }, { on := 21, ground := Ground.chain }, { on := 0, ground := Ground.phase }, { on := 1, ground := Ground.phase }, { on := 2, ground := Ground.phase }, { on := 3, ground := Ground.phase }, { on := 4, ground := Ground.phase }, { on := 5, ground := Ground.phase }, { on := 6, ground := Ground.phase }, { on := 7, ground := Ground.phase }, { on := 8, ground := Ground.phase }, { on := 9, ground := Ground.phase }, { on := 10, ground := Ground.phase }, { on := 11, ground := Ground.phase }, { on := 12, ground := Ground.phase }, { on := 13, ground := Ground.phase }, { on := 14, ground := Ground.phase }, { on := 15, ground := Ground.phase }, { on := 16, ground := Ground.phase }, { on := 17, ground := Ground.phase }, { on := 18, ground := Ground.phase }, { on := 19, ground := Ground.phase }, { on := 20, ground := Ground.phase }, { on := 21, ground := Ground.phase }, { on := 22, ground := Ground.phase }, { on := 23, ground := Ground.phase }], guard := none }) (v := ?_) rfl (by kernel_rfl) (by kernel_rfl) (by kernel_rfl) (fun _ _ _ h => h) (Or.inl ⟨by rfl, ?_⟩) (by assumption) ?_
    rotate_left
    · intro w hSw
      skip
      clear hSw
      go_simp
      try with_reducible rfl
    try simp only [Act.put, List.setIfInBounds_toArray, List.set_cons_zero, List.set_cons_succ]
    refine wpAnyH_take (i := 25) (oi := { dst := some 3, op := Op.assign (Operand.tmp 35), type := 32, pos := "oci.go:181", after := #[{ on := 23, ground := Ground.data }, { on := 24, ground := Ground.chain }, { on := 0, ground := Ground.phase }, { on := 1, ground := Ground.phase }, { on := 2, ground := Ground.phase }, { on := 3, ground := Ground.phase }, { on := 4, ground := Ground.phase }, { on := 5, ground := Ground.phase }, { on := 6, ground := Ground.phase }, { on := 7, ground := Ground.phase }, { on := 8, ground := Ground.phase }, { on := 9, ground := Ground.phase }, { on := 10, ground := Ground.phase }, { on := 11, ground := Ground.phase }, { on := 12, ground := Ground.phase }, { on := 13, ground := Ground.phase }, { on := 14, ground := Ground.phase }, { on := 15, ground := Ground.phase }, { on := 16, ground := Ground.phase }, { on := 17, ground := Ground.phase }, { on := 18, ground := Ground.phase }, { on := 19, ground := Ground.phase }, { on := 20, ground := Ground.phase }, { on := 21, ground := Ground.phase }, { on := 22, ground := Ground.phase }, { on := 23, ground := Ground.phase }, { on := 24, ground := Ground.phase }], guard := none }) (v := ?_) rfl (by kernel_rfl) (by kernel_rfl) (by kernel_rfl) (fun _ _ _ h => h) (Or.inl ⟨by rfl, ?_⟩) (by assumption) ?_
    rotate_left
    · intro w hSw
      skip
      clear hSw
      go_simp
      try with_reducible rfl
    try simp only [Act.put, List.setIfInBounds_toArray, List.set_cons_zero, List.set_cons_succ]
    refine wpAnyH_done (by kernel_rfl) ?_ _
    refine NoPanic.normal ?_
    go_wp2
    go_ret2
    exact ⟨rfl, HBB.out _ hHeld⟩
end Go.Proofs.YtnkencdibniagaaGreatDoor

/- Layer 13: what 'turned' keeps while it gathers: the value's box, the answer's row, and the value that is gathered, with a row of keys and a row of values of its own. -/
namespace Go.Proofs.YtnkencdibniagaaGreatDoor
open Go.RowKit

theorem keysV_snoc (ks : List Bs) (y : Bs) : keysV (ks ++ [y]) = keysV ks ++ [.string (str y)] := by simp [keysV]
structure TuM (w : World) (row : Array Value) (bL b2 : Nat) (kk : Int) (t : Bs) (ks : List Bs) (acc : List JV) (VI VK : Value) (W : World) : Prop where
  o : w.heap.size + 2 ≤ b2 ∧ b2 < bL
  b : Below w.heap.size w W
  x : rowC W w.heap.size row 63
  z : rowC W (w.heap.size + 1) zeroV4 63
  r : rowC W b2 #[.int .i64 kk, .string (str t), VI, VK] 63
  k : W.ownsRow bL 9 1 VK ks.length (keysV ks)
  i : RowJ W bL VI acc (fun q => q = b2 ∨ VK.ownBlock = some q)
theorem TuM.key {w : World} {row : Array Value} {bL b2 n g cap : Nat} {kk : Int} {t y : Bs} {ks : List Bs} {acc : List JV} {VI VK : Value} {W W1 w7 : World} (h : TuM w row bL b2 kk t ks acc VI VK W) (c1 : Chg (fun _ => False) W W1) (hn : ks.length = n)
    (ho : w7.ownsRow bL 9 1 (.slice (some ⟨g, 0, none⟩) (n + 1) cap) (n + 1) (keysV ks ++ [.string (str y)])) (hg : W1.grownBy w7 VK.ownBlock) (hat : VK.ownBlock = some g ∨ W1.heap.size ≤ g) :
    TuM w row bL b2 kk t (ks ++ [y]) acc VI (.slice (some ⟨g, 0, none⟩) (n + 1) cap) (w7.setCell ⟨b2, 3, none⟩ (.slice (some ⟨g, 0, none⟩) (n + 1) cap)) := by
  have o1 := h.o.1
  have o2 := h.o.2
  have s0 := h.b.size
  have s1 := c1.size
  have hK : ∀ q, VK.ownBlock = some q → bL ≤ q ∧ q < W.heap.size := fun q hq => h.k.lt q hq
  have c7 : Chg (fun q => VK.ownBlock = some q) W w7 := (c1.mono (fun _ _ h => h.elim)).trans ((Chg.refl (fun q => VK.ownBlock = some q) W1).grown hg (fun q hq => .inl hq)) (fun q _ hq => hq)
  have c8 : Chg (fun q => q = b2) w7 (w7.setCell ⟨b2, 3, none⟩ (.slice (some ⟨g, 0, none⟩) (n + 1) cap)) := (Chg.refl _ w7).cellq 3 _
  have r7 := c7.rowC h.r (fun e => by have := (hK b2 e).1; omega)
  have hgb : bL ≤ g := (ho.lt g rfl).1
  refine ⟨h.o, ?_, c8.rowC (c7.rowC h.x (fun e => by have := (hK _ e).1; omega)) (by omega), c8.rowC (c7.rowC h.z (fun e => by have := (hK _ e).1; omega)) (by omega), rowC_set r7 3 _, ?_, ?_⟩
  · exact (h.b.trans (c7.below s0 (fun q hq e => by have := (hK q e).1; omega))).setCell (p := ⟨b2, 3, none⟩) (show w.heap.size ≤ b2 by omega) _
  · rw [keysV_snoc, List.length_append, List.length_singleton, hn]
    exact c8.owns ho (fun q hq e => by simp only [Value.ownBlock, Option.some.injEq] at hq; omega)
  · have i1 : RowJ W bL VI acc (fun q => q = b2 ∨ VK.ownBlock = some q ∨ g = q) := h.i.renew (fun q hq => by
      rcases hq with e | e | e
      · exact .inl (.inl e)
      · exact .inl (.inr e)
      · rcases hat with e2 | e2
        · exact .inl (.inr (by rw [e2, e]))
        · exact .inr (by omega))
    have i2 := i1.chg c7 (fun q hq => .inr (.inr (.inl hq)))
    have i3 := i2.chg c8 (fun q hq => .inr (.inl hq))
    refine i3.renew (fun q hq => ?_)
    rcases hq with e | e
    · exact .inl (.inl e)
    · simp only [Value.ownBlock, Option.some.injEq] at e
      exact .inl (.inr (.inr e))
theorem TuM.item {w : World} {row : Array Value} {bL b2 n g cap lo : Nat} {kk : Int} {t : Bs} {ks : List Bs} {acc : List JV} {VI VK : Value} {W w5 w7 : World} {x : JV} {a b c d : Value} {xs : List Value} {F : Nat → Prop} {o2 : Obj} (h : TuM w row bL b2 kk t ks acc VI VK W)
    (hI : ItemsC W F acc xs) (hF : ∀ q, F q → bL ≤ q ∧ ¬ (q = b2 ∨ VK.ownBlock = some q) ∧ VI.ownBlock ≠ some q) (hVI : ∀ q, VI.ownBlock = some q → q < W.heap.size) (hn : acc.length = n)
    (c5 : Chg (fun _ => False) W w5) (hlo : W.heap.size ≤ lo) (hbl : bL ≤ W.heap.size) (hx : HoldsC w5 (fun q => lo ≤ q ∧ q < w5.heap.size) x a b c d)
    (ho7 : w7.ownsRow bL 63 4 (.slice (some ⟨g, 0, none⟩) (n + 1) cap) (n + 1) (xs ++ [a, b, c, d])) (hg7 : (w5.alloc o2).grownBy w7 VI.ownBlock) (hat : VI.ownBlock = some g ∨ g = w5.heap.size + 1) :
    TuM w row bL b2 kk t ks (acc ++ [x]) (.slice (some ⟨g, 0, none⟩) (n + 1) cap) VK (w7.setCell ⟨b2, 2, none⟩ (.slice (some ⟨g, 0, none⟩) (n + 1) cap)) := by
  have p1 := h.o.1
  have p2 := h.o.2
  have s0 := h.b.size
  have s5 := c5.size
  have sa : (w5.alloc o2).heap.size = w5.heap.size + 1 := size_alloc _ _
  have hne := h.i.ne
  have hK : ∀ q, VK.ownBlock = some q → bL ≤ q ∧ q < W.heap.size := fun q hq => h.k.lt q hq
  have hJ : ∀ q, VI.ownBlock = some q → bL ≤ q := fun q hq => by
    obtain ⟨_, _, h1, _⟩ := h.i.ex
    exact (h1.lt q hq).1
  have c5a : Chg (fun _ => False) W (w5.alloc o2) := c5.alloc _
  have c7 : Chg (fun q => VI.ownBlock = some q) (w5.alloc o2) w7 := (Chg.refl _ _).grown hg7 (fun q hq => .inl hq)
  have cw7 : Chg (fun q => VI.ownBlock = some q) W w7 := (c5a.mono (fun _ _ h => h.elim)).trans c7 (fun q _ hq => hq)
  have c8 : Chg (fun q => q = b2) w7 (w7.setCell ⟨b2, 2, none⟩ (.slice (some ⟨g, 0, none⟩) (n + 1) cap)) := (Chg.refl _ w7).cellq 2 _
  have r7 := cw7.rowC h.r (fun e => by have := hJ b2 e; omega)
  refine ⟨h.o, ?_, c8.rowC (cw7.rowC h.x (fun e => by have := hJ _ e; omega)) (by omega), c8.rowC (cw7.rowC h.z (fun e => by have := hJ _ e; omega)) (by omega), rowC_set r7 2 _, ?_, ?_⟩
  · exact (h.b.trans (cw7.below s0 (fun q hq e => by have := hJ q e; omega))).setCell (p := ⟨b2, 2, none⟩) (show w.heap.size ≤ b2 by omega) _
  · exact c8.owns (cw7.owns h.k (fun q hq e => hne q (.inr hq) e)) (fun q hq e => by have := (hK q hq).1; omega)
  · refine RowJ.chg ?_ c8 (fun q hq => .inr (.inl hq))
    refine RowJ.app (w := w5.alloc o2) (lo := lo) (hi := w5.heap.size) (ItemsC.chg c5a (fun _ _ h => h) acc xs (ItemsC.mono (G := fun q => F q ∧ q < W.heap.size) (fun q hq hlt => ⟨hq, hlt⟩) acc xs hI)) (fun q hq => hF q hq.1) hn (HoldsC.chg ((Chg.refl (fun _ => False) w5).alloc o2) (fun _ _ h => h) x _ _ _ _ hx) (by omega) (by omega) ?_ (fun q hq => by have := hVI q hq; omega) ho7 c7 ?_ ?_
    · intro q hq
      rcases hq with e | e
      · exact .inl (by omega)
      · exact .inl (by have := (hK q e).2; omega)
    · rcases hat with e | e
      · exact .inl e
      · exact .inr (by omega)
    · rintro (e | e)
      · rcases hat with e2 | e2
        · have := hJ _ e2; omega
        · omega
      · rcases hat with e2 | e2
        · exact hne g (.inr e) e2
        · have := (hK g e).2; omega
/-- What is answered. -/
theorem TuM.fin {w : World} {row : Array Value} {bL b2 : Nat} {kk : Int} {t : Bs} {ks : List Bs} {acc : List JV} {VI VK : Value} {W : World} (h : TuM w row bL b2 kk t ks acc VI VK W) (ht : t.length ≤ 281474976710656) (r : Array Value) :
    HoldsJ (W.setRow (w.heap.size + 1) r) (fun k => w.heap.size ≤ k ∧ k < (W.setRow (w.heap.size + 1) r).heap.size) (.mk kk t acc ks) (.agg #[.int .i64 kk, .string (str t), VI, VK]) ∧ Below w.heap.size w (W.setRow (w.heap.size + 1) r) := by
  have p1 := h.o.1
  have p2 := h.o.2
  have hc : Chg (fun q => q = w.heap.size + 1) W (W.setRow (w.heap.size + 1) r) := (Chg.refl _ _).setRow _ _ (.inl rfl)
  have hsz : (W.setRow (w.heap.size + 1) r).heap.size = W.heap.size := setRow_size _ _ _
  refine ⟨⟨_, _, _, _, rfl, ?_⟩, below_setRow h.b (by omega) _⟩
  rw [HoldsC]
  refine ⟨rfl, rfl, ht, ?_, ?_⟩
  · have hk := hc.owns h.k (fun q hq e => by have := (h.k.lt q hq).1; omega)
    rcases hk.2 with ⟨hv, hn⟩ | ⟨g, cap, cur, hv, hb, _⟩
    · exact .inl ⟨hv, List.eq_nil_of_length_eq_zero hn⟩
    · refine .inr ⟨⟨g, 0, none⟩, cap, hv, fun i hi => ⟨⟨by show w.heap.size ≤ g; omega, (hk.lt g (by rw [hv]; rfl)).2⟩, ?_⟩⟩
      have := hk.cells (g := g) (by rw [hv]; rfl) i (.string (str (ks.getD i []))) (by unfold keysV; rw [List.getElem?_map, List.getElem?_eq_getElem hi]; simp [List.getD, hi])
      simpa [Addr.add] using this
  · have hj := (h.i.chg (own := fun q => q = b2 ∨ VK.ownBlock = some q) hc (fun q hq => .inl (by omega))).holds
    rcases hj with h1 | ⟨ad, cap, h1, h2⟩
    · exact .inl h1
    · exact .inr ⟨ad, cap, h1, HoldsR.mono (fun k hk hlt => ⟨by show w.heap.size ≤ k; have hk : bL ≤ k := hk; omega, hlt⟩) _ _ _ h2⟩
end Go.Proofs.YtnkencdibniagaaGreatDoor

/- Layer 13: a value, turned. -/
namespace Go.Proofs.YtnkencdibniagaaGreatDoor
open Go.RowKit

def TurnOk (v : JV) : Prop := ∀ (y : Nat) (w : World) (a b c d : Value), y ≤ 255 → HoldsC w (fun k => k < w.heap.size) v a b c d →
  Calls Tryz.prog 30 #[.agg #[a, b, c, d], .int .i64 (y : Int)] w fun e w' => ∃ V, e = .returned V ∧ HoldsJ w' (fun k => w.heap.size ≤ k ∧ k < w'.heap.size) (turnJ y v) V ∧ Below w.heap.size w w'
/-- The items, and the keys, in the order in which they are gathered. -/
def ordJ (kk : Int) (y : Nat) (items : List JV) : List JV := if kk = 6 then rotL y (turnL y items) else turnL y items
def ordK (kk : Int) (y : Nat) (keys : List Bs) : List Bs := if kk = 6 then rotL y keys else []
theorem turnJ_ord (kk : Int) (y : Nat) (t : Bs) (items : List JV) (keys : List Bs) : turnJ y (.mk kk t items keys) = if kk = 6 then .mk kk t (ordJ kk y items ++ [annJ]) (ordK kk y keys ++ [kAnn]) else .mk kk t (ordJ kk y items) (ordK kk y keys) := by
  rw [turnJ]
  unfold ordJ ordK
  by_cases h : kk = 6
  · subst h; rfl
  · rw [if_neg h, if_neg h, if_neg h, if_neg h]
theorem turnL_len (y : Nat) (l : List JV) : (turnL y l).length = l.length := by rw [turnL_map, List.length_map]
theorem ordJ_len (kk : Int) (y : Nat) (items : List JV) : (ordJ kk y items).length = items.length := by
  unfold ordJ
  split
  · rw [rot_length, turnL_len]
  · rw [turnL_len]
theorem ordJ_at {kk : Int} {y j : Nat} {items : List JV} (hj : j < items.length) {k : Nat} (hk : k = if kk = 6 then (j + y) % items.length else j) {x : JV} (hx : items[k]? = some x) : (ordJ kk y items)[j]? = some (turnJ y x) := by
  unfold ordJ
  by_cases h : kk = 6
  · rw [if_pos h] at hk ⊢
    rw [rot_at y _ j (by rw [turnL_len]; exact hj), turnL_len, ← hk, turnL_map, List.getElem?_map, hx]
    rfl
  · rw [if_neg h] at hk ⊢
    rw [turnL_map, List.getElem?_map, ← hk, hx]
    rfl
theorem ordK_at {y j : Nat} {keys : List Bs} (hj : j < keys.length) : (ordK 6 y keys)[j]? = some (keys.getD ((j + y) % keys.length) []) := by
  unfold ordK
  rw [if_pos rfl, rot_at y _ j hj]
  have hm : (j + y) % keys.length < keys.length := Nat.mod_lt _ (by omega)
  rw [List.getElem?_eq_getElem hm]
  simp [List.getD, hm]
theorem holds_ann {W : World} {b : Nat} {F : Nat → Prop} (h : rowC W b zeroV4 63) (hb : F b) : HoldsC W F annJ (.int .i64 5) (.string ⟨#[]⟩) (.slice (some ⟨b, 0, none⟩) 1 1) (.slice none 0 0) := by
  unfold annJ
  rw [HoldsC]
  refine ⟨rfl, rfl, by simp, .inl ⟨rfl, rfl⟩, .inr ⟨_, _, rfl, ?_⟩⟩
  rw [HoldsR, HoldsR]
  refine ⟨⟨_, _, _, _, hb, rowC_cell h 0, rowC_cell h 1, rowC_cell h 2, rowC_cell h 3, ?_⟩, trivial⟩
  rw [HoldsC]
  exact ⟨rfl, rfl, by simp, .inl ⟨rfl, rfl⟩, .inl ⟨rfl, rfl⟩⟩
theorem info_str3 : (Tryz.prog.info? 9).map (fun i => (i.zero, i.size, i.bytes)) = some (some (.string ⟨#[]⟩), 1, 16) := by kernel_rfl
theorem yieldsIf_load_at {ops : Array Oper} {S : World → Prop} {op : Oper} {a : Act} (hw : Region.wanted op (yielded ops a.tmps) = true) (ty : TypeId) (x : Operand) (ho : op.op = .load ty x)
    (p : Addr) (hx : a.eval x = .pointer (some p)) (cs : List Value) (d : TypeDesc) (hS : ∀ w, S w → ∀ j v, cs[j]? = some v → w.cell? (p.add j) = some v)
    (hu : Tryz.prog.underlying ty = some d) (hd : d.isRow = true) (hi : (Tryz.prog.info? ty).map (·.size) = some cs.length) : YieldsIf Tryz.prog ops S op (.agg cs.toArray) a :=
  .inl ⟨hw, fun w hw' => by
    unfold execOp
    simp only [ho, hx, Instr.loadAt, Instr.sureAddr, Sem.run_bind, Sem.run_pure, Result.andThen_ok, run_loadVar_at w p ty cs d (hS w hw') hu hd hi]⟩
set_option maxRecDepth 100000 in
set_option maxHeartbeats 16000000 in
theorem turned_any : ∀ (n : Nat) (v : JV), SizeOf.sizeOf v ≤ n → okJ v → may v → TurnOk v
  | 0, .mk _ _ _ _, h, _, _ => by simp at h
  | n + 1, .mk kk t items keys, hsz, ho, hmay => by
    intro y w a b c d hy hH
    rw [okJ] at ho
    obtain ⟨_, ⟨ho1, ho2, ho3⟩, ho4⟩ := ho
    obtain ⟨rfl, rfl, htl, ⟨x1, c1, rfl, hit⟩, x2, c2, rfl, hk⟩ := hH.opens
    have hml : mayL items := by rw [may] at hmay; exact hmay.1
    have hkl : kk = 6 → keys.length = items.length := fun e => by subst e; exact (may_obj hmay).2.2.1
    obtain ⟨N, hN⟩ : ∃ N, N = items.length := ⟨_, rfl⟩
    obtain ⟨row, hrow⟩ : ∃ r, r = row4 kk (str t) x1 items.length c1 x2 keys.length c2 := ⟨_, rfl⟩
    obtain ⟨WA, hWA⟩ : ∃ W, W = (w.alloc (.cells row 63)).alloc (.cells zeroV4 63) := ⟨_, rfl⟩
    have s1 := size_alloc w (.cells row 63)
    have s2 : WA.heap.size = w.heap.size + 2 := by rw [hWA, size_alloc, s1]
    have BA : Below w.heap.size w WA := by rw [hWA]; exact ((Below.refl _ _).alloc (Nat.le_refl _) _).alloc (by omega) _
    have RA : rowC WA w.heap.size row 63 := by rw [hWA]; exact rowC_alloc (rowC_new w _ _) _
    have ZA : rowC WA (w.heap.size + 1) zeroV4 63 := by rw [hWA, ← s1]; exact rowC_new _ _ _
    have HM0 : Hid (TuM w row (w.heap.size + 3) (w.heap.size + 2) kk t [] [] (.slice none 0 0) (.slice none 0 0) (WA.alloc (.cells #[.int .i64 kk, .string (str t), .slice none 0 0, .slice none 0 0] 63))) := Lib.hid
      ⟨⟨Nat.le_refl _, Nat.lt_succ_self _⟩, BA.alloc (by omega) _, rowC_alloc RA _, rowC_alloc ZA _, by rw [← s2]; exact rowC_new _ _ _, World.ownsRow_nil _ _ _ _, RowJ.nil _ _ _⟩
    have r0 : WA.cell? ⟨w.heap.size, 0, none⟩ = some (.int .i64 kk) := by have := rowC_cell RA 0; rw [hrow] at this; exact this
    have r1 : WA.cell? ⟨w.heap.size, 1, none⟩ = some (.string (str t)) := by have := rowC_cell RA 1; rw [hrow] at this; exact this
    have HWA := Lib.hid (show (w.alloc (.cells (row4 kk (str t) x1 items.length c1 x2 keys.length c2) 63)).alloc (.cells zeroV4 63) = WA by rw [hWA, hrow])
    have HROW := Lib.hid hrow
    have HIT := Lib.hid hit
    have HKY := Lib.hid hk
    have HO4 := Lib.hid ho4
    have HSZ := Lib.hid hsz
    have HML := Lib.hid hml
    have HKL := Lib.hid hkl
    have HI := Lib.hid info_V
    have HN := Lib.hid hN
    rw [← hN] at ho1 HWA HROW ⊢
    clear hWA hrow hit hk ho4 hsz hml hkl hH hmay s1 hN BA RA ZA
    obtain ⟨M, hM⟩ : ∃ M, M = keys.length := ⟨_, rfl⟩
    rw [← hM] at ho2 HWA HROW ⊢
    have HM := Lib.hid hM
    clear hM
    go_enter Tryz.func30, Tryz.ntmps30
    go_upto_region 1 with (fail)
    rw [show (w.alloc (.cells #[.int .i64 kk, .string (str t), .slice x1 N c1, .slice x2 M c2] 63)).alloc (.cells #[.int .i64 0, .string ⟨#[]⟩, .slice none 0 0, .slice none 0 0] 63) = WA from HWA.out]
    go_upto_region 2 with (first
      | ((with_reducible show wpList _ _ _ (⟨some 13, .build _ _, _, _, _, _⟩ :: _) _ _); refine wpList_build_as rfl 63 _ rfl #[.int .i64 kk, .string (str t), .slice none 0 0, .slice none 0 0] (by kernel_rfl) ?_)
      | ((with_reducible show wpList _ _ _ (⟨none, .store _ (.tmp 5) _, _, _, _, _⟩ :: _) _ _); refine wpList_store_last rfl 63 _ _ rfl WA.heap.size #[.int .i64 kk, .string (str t), .slice none 0 0, .slice none 0 0] rfl rfl 63 zeroV4 rfl HI.out rfl (row4_all _ _ _ _ _ _ _ _) ?_))
    obtain ⟨BL, hBL⟩ : ∃ b, b = w.heap.size + 3 := ⟨_, rfl⟩
    obtain ⟨B2, hB2⟩ : ∃ b, b = w.heap.size + 2 := ⟨_, rfl⟩
    rw [← hBL, ← hB2] at HM0
    rw [← hB2]
    have HBL := Lib.hid hBL
    have HB2 := Lib.hid hB2
    have k2 : (WA.alloc (.cells #[.int .i64 kk, .string (str t), .slice none 0 0, .slice none 0 0] 63)).cell? ⟨w.heap.size, 2, none⟩ = some (.slice x1 N c1) := by have := rowC_cell HM0.out.x 2; rw [HROW.out] at this; exact this
    generalize WA.alloc (.cells #[.int .i64 kk, .string (str t), .slice none 0 0, .slice none 0 0] 63) = W0 at *
    clear r0 r1 s2 HWA hBL hB2
    go_wp2
    go_loopw [7] (fun i wr => ∃ (j : Nat) (VI VK : Value), i = .int .i64 (j : Int) ∧ j ≤ N ∧ Hid (TuM w row BL B2 kk t ((ordK kk y keys).take j) ((ordJ kk y items).take j) VI VK wr)) (fun i _ => N - (intOf i).toNat)
    case atStart => exact ⟨0, _, _, rfl, Nat.zero_le _, HM0⟩
    case round =>
      obtain ⟨j, VI, VK, rfl, hjN, hM⟩ := hrel
      by_cases hlt : j < N
      · have g1 : (j : Int) < (N : Int) := by omega
        have k0 : wr.cell? ⟨w.heap.size, 0, none⟩ = some (.int .i64 kk) := by have := rowC_cell hM.out.x 0; rw [HROW.out] at this; exact this
        have k3 : wr.cell? ⟨w.heap.size, 3, none⟩ = some (.slice x2 M c2) := by have := rowC_cell hM.out.x 3; rw [HROW.out] at this; exact this
        go_upto_if 25 with (fail)
        go_cut [8] from 26 to 40 (fun cx wx => ∃ (k : Nat) (VK' : Value), cx = .int .i64 (k : Int) ∧ (k = if kk = 6 then (j + y) % N else j) ∧ Hid (TuM w row BL B2 kk t ((ordK kk y keys).take (j + 1)) ((ordJ kk y items).take j) VI VK' wx))
        case first =>
          by_cases h6 : kk = 6
          ·
            subst h6
            obtain ⟨kn, hkn⟩ : ∃ k, k = (j + y) % N := ⟨_, rfl⟩
            have hkN : kn < N := by rw [hkn]; exact Nat.mod_lt _ (by omega)
            have hMN : M = N := by rw [HM.out, HN.out]; exact HKL.out rfl
            obtain ⟨adk, hx2, hadk, hck⟩ := HKY.out kn (by rw [← HM.out]; omega)
            subst hx2
            obtain ⟨Y, hY⟩ : ∃ Y, Y = keys.getD kn [] := ⟨_, rfl⟩
            rw [← hY] at hck
            rw [hMN] at k3
            have HAT : Hid ((ordK 6 y keys)[j]? = some Y) := Lib.hid (by
              have e : keys.length = N := by rw [← HM.out]; exact hMN
              rw [ordK_at (by rw [e]; exact hlt), e, ← hkn, ← hY])
            have HKN := Lib.hid hkn
            have hlen : ((ordK 6 y keys).take j).length = j := by
              have e : keys.length = N := by rw [← HM.out]; exact hMN
              unfold ordK
              rw [if_pos rfl, List.length_take, rot_length, e]
              omega
            have hOWN := hM.out.k
            rw [hlen] at hOWN
            obtain ⟨xk, ck, rfl⟩ := owns_form hOWN
            have ob := hM.out.o
            have HC : Hid (wr.cell? (adk.add kn) = some (.string (str Y))) := Lib.hid (by
              rw [World.cell?_of_block (w := w) (w' := wr) (hM.out.b.block _ (by rw [add_block]; exact hadk))]
              exact hck)
            obtain ⟨SB, hSB⟩ : ∃ SB : Nat → Prop, SB = fun q => q = B2 ∨ (Value.slice xk j ck).ownBlock = some q := ⟨_, rfl⟩
            have hsb0 : SB B2 := by rw [hSB]; exact .inl rfl
            have hsb1 : ∀ q, (Value.slice xk j ck).ownBlock = some q → SB q := fun q hq => by rw [hSB]; exact .inr hq
            have hsbF : ∀ q, q < B2 → ¬ SB q := fun q hq => by
              rw [hSB]
              rintro (e | e)
              · omega
              · have := (hOWN.lt q e).1; omega
            have OS : ∀ w', Gn wr SB w' → w'.cell? ⟨w.heap.size, 3, none⟩ = some (.slice (some adk) N c2) ∧ w'.cell? (adk.add kn) = some (.string (str Y)) := fun w' h => ⟨cell_chg h k3 (hsbF _ (show w.heap.size < B2 by omega)), cell_chg h HC.out (hsbF _ (by rw [add_block]; omega))⟩
            have SO : ∀ w', Gn wr SB w' → Gn wr SB w' := fun _ h => h
            have CD : Chg (fun _ => False) wr wr.drew := (Chg.refl _ _).drew
            have R1 := hM.out.r
            have L1 : wr.drew.cell? ⟨B2, 3, none⟩ = some (.slice xk j ck) := rowC_cell (CD.rowC R1 id) 3
            have L2 : ∀ o, (wr.drew.alloc o).cell? ⟨B2, 3, none⟩ = some (.slice xk j ck) := fun o => rowC_cell ((CD.alloc o).rowC R1 id) 3
            have OW : ∀ o, (wr.drew.alloc o).ownsRow BL 9 1 (.slice xk j ck) j (keysV ((ordK 6 y keys).take j)) := fun o => (CD.alloc o).owns hOWN (fun _ _ h => h)
            have SG : ∀ o w7, (wr.drew.alloc o).grownBy w7 (Value.slice xk j ck).ownBlock → Gn wr SB w7 := fun o w7 hg => ((Gn.start wr SB).alloc o).grown hg (fun k hk => .inl (hsb1 k hk))
            have SZ : ∀ o w7, (wr.drew.alloc o).grownBy w7 (Value.slice xk j ck).ownBlock → w7.cell? ⟨B2, 3, none⟩ = some (.slice xk j ck) ∧ w7.frozen? ⟨B2, 3, none⟩ = false := fun o w7 hg => by
              have c7 : Chg (fun q => (Value.slice xk j ck).ownBlock = some q) wr w7 := ((CD.alloc o).mono (fun _ _ h => h.elim)).grown hg (fun q hq => .inl hq)
              have r7 := c7.rowC R1 (fun e => by have := (hOWN.lt _ e).1; omega)
              exact ⟨rowC_cell r7 3, rowC_free r7 3⟩
            have FIN : ∀ o g cap w7, w7.ownsRow BL 9 1 (.slice (some ⟨g, 0, none⟩) (j + 1) cap) (j + 1) (keysV ((ordK 6 y keys).take j) ++ [.string (str Y)]) → (wr.drew.alloc o).grownBy w7 (Value.slice xk j ck).ownBlock → ((Value.slice xk j ck).ownBlock = some g ∨ g = (wr.drew.alloc o).heap.size) → Hid (TuM w row BL B2 6 t ((ordK 6 y keys).take (j + 1)) ((ordJ 6 y items).take j) VI (.slice (some ⟨g, 0, none⟩) (j + 1) cap) (w7.setCell ⟨B2, 3, none⟩ (.slice (some ⟨g, 0, none⟩) (j + 1) cap))) := fun o g cap w7 h1 h2 h3 => Lib.hid (by
              rw [take_one HAT.out]
              exact hM.out.key (CD.alloc o) hlen h1 h2 (h3.imp id (fun e => Nat.le_of_eq e.symm)))
            have hblw : BL ≤ wr.drew.heap.size := by
              have h1 := rowC_lt R1
              have h2 := HBL.out
              have h3 := HB2.out
              have h4 := CD.size
              omega
            obtain ⟨s0, hs0, hs1, hs2, hs3⟩ := info_parts info_str3
            clear hkn hMN hck hY hOWN ob hsb1 R1 CD hlen HC hadk k3
            go_upto_region 9 with (fail)
            rw [show ((j : Int) + (y : Int)) % (N : Int) = (kn : Int) by rw [HKN.out]; simp]
            refine wp_region_noPanic ?_
            refine wp_region_held_drew (S := Gn wr SB) (by kernel_rfl) (Gn.start _ _) (fun hHeld => ?_)
            generalize wr.drew = wd at *
            refine wpAnyH_take (i := 0) (oi := { dst := some 31, op := Op.fieldAddr 63 (Operand.tmp 5) 3, type := 0, pos := "outright.go:59", after := #[], guard := none }) (v := ?_) rfl (by kernel_rfl) (by kernel_rfl) (by kernel_rfl) (fun _ _ _ h => h) (Or.inl ⟨by rfl, ?_⟩) (by assumption) ?_
            rotate_left
            · intro w hSw
              skip
              clear hSw
              go_simp
              try with_reducible rfl
            try simp only [Act.put, List.setIfInBounds_toArray, List.set_cons_zero, List.set_cons_succ]
            refine wpAnyH_take (i := 2) (oi := { dst := some 33, op := Op.fieldAddr 63 (Operand.tmp 2) 3, type := 0, pos := "outright.go:59", after := #[], guard := none }) (v := ?_) rfl (by kernel_rfl) (by kernel_rfl) (by kernel_rfl) (fun _ _ _ h => h) (Or.inl ⟨by rfl, ?_⟩) (by assumption) ?_
            rotate_left
            · intro w hSw
              skip
              clear hSw
              go_simp
              try with_reducible rfl
            try simp only [Act.put, List.setIfInBounds_toArray, List.set_cons_zero, List.set_cons_succ]
            refine wpAnyH_take (i := 4) (oi := { dst := some 35, op := Op.move (Operand.tmp 8), type := 3, pos := "outright.go:59", after := #[], guard := none }) (v := ?_) rfl (by kernel_rfl) (by kernel_rfl) (by kernel_rfl) (fun _ _ _ h => h) (Or.inl ⟨by rfl, ?_⟩) (by assumption) ?_
            rotate_left
            · intro w hSw
              skip
              clear hSw
              go_simp
              try with_reducible rfl
            try simp only [Act.put, List.setIfInBounds_toArray, List.set_cons_zero, List.set_cons_succ]
            refine wpAnyH_take (i := 3) (oi := { dst := some 34, op := Op.load 61 (Operand.tmp 33), type := 61, pos := "outright.go:59", after := #[{ on := 2, ground := Ground.data }], guard := none }) (v := ?_) rfl (by kernel_rfl) (by kernel_rfl) (by kernel_rfl) (fun _ _ _ h => h) (Or.inl ⟨by rfl, ?_⟩) (by assumption) ?_
            rotate_left
            · intro w hSw
              have hSw := OS _ hSw
              go_simp
              try with_reducible rfl
            try simp only [Act.put, List.setIfInBounds_toArray, List.set_cons_zero, List.set_cons_succ]
            refine wpAnyH_take (i := 5) (oi := { dst := some 36, op := Op.indexAddr 61 (Operand.tmp 34) (Operand.tmp 35), type := 0, pos := "outright.go:59", after := #[{ on := 3, ground := Ground.data }, { on := 4, ground := Ground.data }], guard := none }) (v := ?_) rfl (by kernel_rfl) (by kernel_rfl) (by kernel_rfl) (fun _ _ _ h => h) (Or.inl ⟨by rfl, ?_⟩) (by assumption) ?_
            rotate_left
            · intro w hSw
              skip
              clear hSw
              go_simp
              try with_reducible rfl
            try simp only [Act.put, List.setIfInBounds_toArray, List.set_cons_zero, List.set_cons_succ]
            refine wpAnyH_take (i := 6) (oi := { dst := some 37, op := Op.load 9 (Operand.tmp 36), type := 9, pos := "outright.go:59", after := #[{ on := 5, ground := Ground.data }], guard := none }) (v := ?_) rfl (by kernel_rfl) (by kernel_rfl) (by kernel_rfl) (fun _ _ _ h => h) (Or.inl ⟨by rfl, ?_⟩) (by assumption) ?_
            rotate_left
            · intro w hSw
              have hSw := OS _ hSw
              go_simp
              try with_reducible rfl
            try simp only [Act.put, List.setIfInBounds_toArray, List.set_cons_zero, List.set_cons_succ]
            refine wpAnyH_ready (rs := [1, 7]) (by kernel_rfl) (by simp) ?_
            refine (AllReadyH.cons (o := { dst := some 32, op := Op.load 61 (Operand.tmp 31), type := 61, pos := "outright.go:59", after := #[{ on := 0, ground := Ground.data }], guard := none }) rfl (fun K hK => ?_) (AllReadyH.cons (o := { dst := some 38, op := Op.buildSlice 61 1 #[(0, Operand.tmp 37)], type := 61, pos := "outright.go:59", after := #[{ on := 6, ground := Ground.data }], guard := none }) rfl (fun K hK => ?_) AllReadyH.nil))
            · skip
              go_simp
              refine hK.out _ _ (SO _ (by first | assumption | exact Gn.alloc (by assumption) _ | exact Gn.cell (by assumption) _ _ (.inl hsb0))) (fun hHeld => ?_)
              clear hK K
              try simp only [Act.put, List.setIfInBounds_toArray, List.set_cons_zero, List.set_cons_succ]
              refine wpAnyH_ready (rs := [7]) (by kernel_rfl) (by simp) ?_
              refine (AllReadyH.cons (o := { dst := some 38, op := Op.buildSlice 61 1 #[(0, Operand.tmp 37)], type := 61, pos := "outright.go:59", after := #[{ on := 6, ground := Ground.data }], guard := none }) rfl (fun K hK => ?_) AllReadyH.nil)
              skip
              go_simp
              refine hK.out _ _ (SO _ (by first | assumption | exact Gn.alloc (by assumption) _ | exact Gn.cell (by assumption) _ _ (.inl hsb0))) (fun hHeld => ?_)
              clear hK K
              try simp only [Act.put, List.setIfInBounds_toArray, List.set_cons_zero, List.set_cons_succ]
              refine wpAnyH_ready (rs := [8]) (by kernel_rfl) (by simp) ?_
              refine (AllReadyH.cons (o := { dst := some 39, op := Op.call { callee := Callee.builtin Builtin.append, args := #[Operand.tmp 32, Operand.tmp 38], argTypes := #[61, 61] }, type := 61, pos := "outright.go:59", after := #[{ on := 1, ground := Ground.data }, { on := 7, ground := Ground.data }], guard := none }) rfl (fun K hK => ?_) AllReadyH.nil)
              refine step_append_lies _ (by rfl) _ _ 61 (by rfl) BL 9 s0 (.string ⟨#[]⟩) 1 16 Tryz.underlying61 hs0 hs1 hs2 hs3 (by rfl) (by decide) (.slice xk j ck) j (keysV ((ordK 6 y keys).take j)) (by rfl) (OW _) ⟨wd.heap.size, 0, none⟩ 1 1 [.string (str Y)] (by rfl) (by rfl) (World.news_of_block (heap_alloc_new wd _)) (fun u hu => by rw [List.mem_singleton.1 hu]; rfl) (by decide) (by unfold maxLen; omega) (by omega) (by rw [size_alloc]; omega) _ rfl ?_
              intro g cap w7 hown7 hgrow7 hat7 hlt7
              have S7 := SG _ _ hgrow7
              obtain ⟨z2, y2f⟩ := SZ _ _ hgrow7
              refine hK.out _ _ (SO _ (by first | assumption | exact Gn.alloc (by assumption) _ | exact Gn.cell (by assumption) _ _ (.inl hsb0))) (fun hHeld => ?_)
              clear hK K
              try simp only [Act.put, List.setIfInBounds_toArray, List.set_cons_zero, List.set_cons_succ]
              refine wpAnyH_take (i := 9) (oi := { dst := some 40, op := Op.fieldAddr 63 (Operand.tmp 5) 3, type := 0, pos := "outright.go:59", after := #[{ on := 0, ground := Ground.phase }, { on := 1, ground := Ground.phase }, { on := 2, ground := Ground.phase }, { on := 3, ground := Ground.phase }, { on := 4, ground := Ground.phase }, { on := 5, ground := Ground.phase }, { on := 6, ground := Ground.phase }, { on := 7, ground := Ground.phase }, { on := 8, ground := Ground.phase }], guard := none }) (v := ?_) rfl (by kernel_rfl) (by kernel_rfl) (by kernel_rfl) (fun _ _ _ h => h) (Or.inl ⟨by rfl, ?_⟩) (by assumption) ?_
              rotate_left
              · intro w hSw
                skip
                clear hSw
                go_simp
                try with_reducible rfl
              try simp only [Act.put, List.setIfInBounds_toArray, List.set_cons_zero, List.set_cons_succ]
              refine wpAnyH_ready (rs := [10]) (by kernel_rfl) (by simp) ?_
              refine (AllReadyH.cons (o := { dst := none, op := Op.store 61 (Operand.tmp 40) (Operand.tmp 39), type := 0, pos := "outright.go:59", after := #[{ on := 9, ground := Ground.data }, { on := 8, ground := Ground.data }, { on := 8, ground := Ground.chain }, { on := 0, ground := Ground.phase }, { on := 1, ground := Ground.phase }, { on := 2, ground := Ground.phase }, { on := 3, ground := Ground.phase }, { on := 4, ground := Ground.phase }, { on := 5, ground := Ground.phase }, { on := 6, ground := Ground.phase }, { on := 7, ground := Ground.phase }, { on := 8, ground := Ground.phase }], guard := none }) rfl (fun K hK => ?_) AllReadyH.nil)
              skip
              go_simp
              refine hK.out _ _ (SO _ (by first | assumption | exact Gn.alloc (by assumption) _ | exact Gn.cell (by assumption) _ _ (.inl hsb0))) (fun hHeld => ?_)
              clear hK K
              try simp only [Act.put]
              refine wpAnyH_done (by kernel_rfl) ?_ _
              refine NoPanic.normal ?_
              go_wp2_with (fail)
              go_meet
              exact ⟨kn, _, rfl, by simpa using HKN.out, FIN _ _ _ _ hown7 hgrow7 hat7⟩
            · skip
              go_simp
              refine hK.out _ _ (SO _ (by first | assumption | exact Gn.alloc (by assumption) _ | exact Gn.cell (by assumption) _ _ (.inl hsb0))) (fun hHeld => ?_)
              clear hK K
              try simp only [Act.put, List.setIfInBounds_toArray, List.set_cons_zero, List.set_cons_succ]
              refine wpAnyH_ready (rs := [1]) (by kernel_rfl) (by simp) ?_
              refine (AllReadyH.cons (o := { dst := some 32, op := Op.load 61 (Operand.tmp 31), type := 61, pos := "outright.go:59", after := #[{ on := 0, ground := Ground.data }], guard := none }) rfl (fun K hK => ?_) AllReadyH.nil)
              skip
              go_simp
              refine hK.out _ _ (SO _ (by first | assumption | exact Gn.alloc (by assumption) _ | exact Gn.cell (by assumption) _ _ (.inl hsb0))) (fun hHeld => ?_)
              clear hK K
              try simp only [Act.put, List.setIfInBounds_toArray, List.set_cons_zero, List.set_cons_succ]
              refine wpAnyH_ready (rs := [8]) (by kernel_rfl) (by simp) ?_
              refine (AllReadyH.cons (o := { dst := some 39, op := Op.call { callee := Callee.builtin Builtin.append, args := #[Operand.tmp 32, Operand.tmp 38], argTypes := #[61, 61] }, type := 61, pos := "outright.go:59", after := #[{ on := 1, ground := Ground.data }, { on := 7, ground := Ground.data }], guard := none }) rfl (fun K hK => ?_) AllReadyH.nil)
              refine step_append_lies _ (by rfl) _ _ 61 (by rfl) BL 9 s0 (.string ⟨#[]⟩) 1 16 Tryz.underlying61 hs0 hs1 hs2 hs3 (by rfl) (by decide) (.slice xk j ck) j (keysV ((ordK 6 y keys).take j)) (by rfl) (OW _) ⟨wd.heap.size, 0, none⟩ 1 1 [.string (str Y)] (by rfl) (by rfl) (World.news_of_block (heap_alloc_new wd _)) (fun u hu => by rw [List.mem_singleton.1 hu]; rfl) (by decide) (by unfold maxLen; omega) (by omega) (by rw [size_alloc]; omega) _ rfl ?_
              intro g cap w7 hown7 hgrow7 hat7 hlt7
              have S7 := SG _ _ hgrow7
              obtain ⟨z2, y2f⟩ := SZ _ _ hgrow7
              refine hK.out _ _ (SO _ (by first | assumption | exact Gn.alloc (by assumption) _ | exact Gn.cell (by assumption) _ _ (.inl hsb0))) (fun hHeld => ?_)
              clear hK K
              try simp only [Act.put, List.setIfInBounds_toArray, List.set_cons_zero, List.set_cons_succ]
              refine wpAnyH_take (i := 9) (oi := { dst := some 40, op := Op.fieldAddr 63 (Operand.tmp 5) 3, type := 0, pos := "outright.go:59", after := #[{ on := 0, ground := Ground.phase }, { on := 1, ground := Ground.phase }, { on := 2, ground := Ground.phase }, { on := 3, ground := Ground.phase }, { on := 4, ground := Ground.phase }, { on := 5, ground := Ground.phase }, { on := 6, ground := Ground.phase }, { on := 7, ground := Ground.phase }, { on := 8, ground := Ground.phase }], guard := none }) (v := ?_) rfl (by kernel_rfl) (by kernel_rfl) (by kernel_rfl) (fun _ _ _ h => h) (Or.inl ⟨by rfl, ?_⟩) (by assumption) ?_
              rotate_left
              · intro w hSw
                skip
                clear hSw
                go_simp
                try with_reducible rfl
              try simp only [Act.put, List.setIfInBounds_toArray, List.set_cons_zero, List.set_cons_succ]
              refine wpAnyH_ready (rs := [10]) (by kernel_rfl) (by simp) ?_
              refine (AllReadyH.cons (o := { dst := none, op := Op.store 61 (Operand.tmp 40) (Operand.tmp 39), type := 0, pos := "outright.go:59", after := #[{ on := 9, ground := Ground.data }, { on := 8, ground := Ground.data }, { on := 8, ground := Ground.chain }, { on := 0, ground := Ground.phase }, { on := 1, ground := Ground.phase }, { on := 2, ground := Ground.phase }, { on := 3, ground := Ground.phase }, { on := 4, ground := Ground.phase }, { on := 5, ground := Ground.phase }, { on := 6, ground := Ground.phase }, { on := 7, ground := Ground.phase }, { on := 8, ground := Ground.phase }], guard := none }) rfl (fun K hK => ?_) AllReadyH.nil)
              skip
              go_simp
              refine hK.out _ _ (SO _ (by first | assumption | exact Gn.alloc (by assumption) _ | exact Gn.cell (by assumption) _ _ (.inl hsb0))) (fun hHeld => ?_)
              clear hK K
              try simp only [Act.put]
              refine wpAnyH_done (by kernel_rfl) ?_ _
              refine NoPanic.normal ?_
              go_wp2_with (fail)
              go_meet
              exact ⟨kn, _, rfl, by simpa using HKN.out, FIN _ _ _ _ hown7 hgrow7 hat7⟩
          · have q6 : (kk == 6) = false := beq_eq_false_iff_ne.2 h6
            have hK0 : ordK kk y keys = [] := if_neg h6
            have HNX : Hid (TuM w row BL B2 kk t ((ordK kk y keys).take (j + 1)) ((ordJ kk y items).take j) VI VK wr) := Lib.hid (by have := hM.out; rw [hK0] at this ⊢; simpa using this)
            clear hK0 k3
            go_wp2
            go_meet
            exact ⟨j, VK, rfl, by rw [if_neg h6], HNX⟩
        case rest =>
          obtain ⟨k, VK', rfl, hk, hM2⟩ := hcut
          have hkN : k < N := by
            rw [hk]
            split
            · exact Nat.mod_lt _ (by omega)
            · exact hlt
          obtain ⟨xv, hxv⟩ : ∃ xv, items[k]? = some xv := ⟨_, List.getElem?_eq_getElem (by rw [← HN.out]; exact hkN)⟩
          obtain ⟨ad, a', b', c', d', hx1, hab, h4, hHx⟩ := HIT.out k xv hxv
          subst hx1
          have k2 : wc.cell? ⟨w.heap.size, 2, none⟩ = some (.slice (some ad) N c1) := by have := rowC_cell hM2.out.x 2; rw [HROW.out] at this; exact this
          have hJl : ((ordJ kk y items).take j).length = j := by rw [List.length_take, ordJ_len, ← HN.out]; omega
          have hJN : j < items.length := by rw [← HN.out]; exact hlt
          obtain ⟨tv, htv⟩ : ∃ t, t = turnJ y xv := ⟨_, rfl⟩
          have HTV : Hid ((ordJ kk y items)[j]? = some tv) := Lib.hid (by rw [htv]; exact ordJ_at hJN (by rw [← HN.out]; exact hk) hxv)
          obtain ⟨⟨xs, F, hOWN, hIt, hF⟩, hne⟩ := hM2.out.i
          rw [hJl] at hOWN
          obtain ⟨xi, ci, rfl⟩ := owns_form hOWN
          have ob := hM2.out.o
          have R1 := hM2.out.r
          have hB := hM2.out.b
          have sB := hB.size
          have hblx : BL ≤ wc.heap.size := by
            have h1 := rowC_lt R1
            have h2 := HBL.out
            have h3 := HB2.out
            omega
          have HC : Hid (∀ i v, [a', b', c', d'][i]? = some v → wc.cell? ((ad.add (k * 4)).add i) = some v) := Lib.hid (fun i v hi => by
            rw [World.cell?_of_block (w := w) (w' := wc) (hB.block _ (by rw [add_block, add_block]; exact hab))]
            exact h4 i v hi)
          have hxm : xv ∈ items := List.mem_of_getElem? hxv
          have hsx : SizeOf.sizeOf xv ≤ n := by
            have h1 := List.sizeOf_lt_of_mem hxm
            have h2 := HSZ.out
            simp only [JV.mk.sizeOf_spec] at h2
            omega
          have IH := turned_any n xv hsx (okJL_mem HO4.out xv hxm) (mayL_mem HML.out xv hxm)
          obtain ⟨SB, hSB⟩ : ∃ SB : Nat → Prop, SB = fun q => q = B2 ∨ (Value.slice xi j ci).ownBlock = some q := ⟨_, rfl⟩
          have hsb0 : SB B2 := by rw [hSB]; exact .inl rfl
          have hsb1 : ∀ q, (Value.slice xi j ci).ownBlock = some q → SB q := fun q hq => by rw [hSB]; exact .inr hq
          have hsbF : ∀ q, q < B2 → ¬ SB q := fun q hq => by
            rw [hSB]
            rintro (e | e)
            · omega
            · have := (hOWN.lt q e).1; omega
          have OS : ∀ w', Gn wc SB w' → w'.cell? ⟨w.heap.size, 2, none⟩ = some (.slice (some ad) N c1) ∧ (∀ i v, [a', b', c', d'][i]? = some v → w'.cell? ((ad.add (k * 4)).add i) = some v) := fun w' h => ⟨cell_chg h k2 (hsbF _ (show w.heap.size < B2 by omega)), fun i v hi => cell_chg h (HC.out i v hi) (hsbF _ (by rw [add_block, add_block]; omega))⟩
          have SO : ∀ w', Gn wc SB w' → Gn wc SB w' := fun _ h => h
          have C8 : ∀ w', Gn wc SB w' → Calls Tryz.prog 30 #[.agg #[a', b', c', d'], .int .i64 (y : Int)] w' fun e w'' => ∃ K2 T2 y2 n2 m2 y3 n3 m3, e = .returned (.agg #[.int .i64 K2, .string T2, .slice y2 n2 m2, .slice y3 n3 m3]) ∧ HoldsC w'' (fun q => w'.heap.size ≤ q ∧ q < w''.heap.size) tv (.int .i64 K2) (.string T2) (.slice y2 n2 m2) (.slice y3 n3 m3) ∧ Chg (fun _ => False) w' w'' ∧ Gn wc SB w'' := fun w' hG => by
            have hb' : Below w.heap.size w w' := hB.trans (hG.below sB (fun k hk => hsbF k (by omega)))
            refine (IH y w' a' b' c' d' hy (HoldsC.mono (fun k hk _ => by have := hb'.size; have hk : k < w.heap.size := hk; show k < w'.heap.size; omega) _ _ _ _ _ (HoldsC.far hHx hb'))).mono ?_
            rintro e w'' ⟨V, rfl, ⟨a, b, c, d, rfl, hx⟩, hb⟩
            rw [← htv] at hx
            obtain ⟨rfl, rfl, ⟨p1, q1, rfl⟩, p2, q2, rfl⟩ := hx.form
            exact ⟨_, _, _, _, _, _, _, _, rfl, hx, Chg.of_below hb, hG.call hb⟩
          have CD : Chg (fun _ => False) wc wc.drew := (Chg.refl _ _).drew
          have R2 := CD.rowC R1 id
          have OW2 := CD.owns hOWN (fun _ _ h => h)
          have L1 : wc.drew.cell? ⟨B2, 2, none⟩ = some (.slice xi j ci) := rowC_cell R2 2
          have NXT : ∀ w8 o g cap w7 a b c d, Chg (fun _ => False) wc.drew w8 → HoldsC w8 (fun q => wc.drew.heap.size ≤ q ∧ q < w8.heap.size) tv a b c d → w7.ownsRow BL 63 4 (.slice (some ⟨g, 0, none⟩) (j + 1) cap) (j + 1) (xs ++ [a, b, c, d]) → (w8.alloc o).grownBy w7 (Value.slice xi j ci).ownBlock → ((Value.slice xi j ci).ownBlock = some g ∨ g = (w8.alloc o).heap.size) → Hid (TuM w row BL B2 kk t ((ordK kk y keys).take (j + 1)) ((ordJ kk y items).take (j + 1)) (.slice (some ⟨g, 0, none⟩) (j + 1) cap) VK' (w7.setCell ⟨B2, 2, none⟩ (.slice (some ⟨g, 0, none⟩) (j + 1) cap))) := fun w8 o g cap w7 a b c d h1 h2 h3 h4 h5 => Lib.hid (by
            rw [take_one HTV.out]
            exact hM2.out.item hIt hF (fun q hq => (hOWN.lt q hq).2) hJl (CD.trans h1 (fun _ _ h => h)) CD.size hblx h2 h3 h4 (by rw [size_alloc] at h5; exact h5))
          have hblw : BL ≤ wc.drew.heap.size := Nat.le_trans hblx CD.size
          have hB2w : B2 < BL := ob.2
          have SG0 : ∀ w8, Chg (fun _ => False) wc.drew w8 → ∀ o w7, (w8.alloc o).grownBy w7 (Value.slice xi j ci).ownBlock → Gn wc SB w7 := fun w8 h1 o w7 hg => ((((CD.trans h1 (fun _ _ h => h)).mono (fun _ _ h => h.elim)) : Chg SB wc w8).alloc o).grown hg (fun k hk => .inl (hsb1 k hk))
          have SZ0 : ∀ w8, Chg (fun _ => False) wc.drew w8 → ∀ o w7, (w8.alloc o).grownBy w7 (Value.slice xi j ci).ownBlock → w7.cell? ⟨B2, 2, none⟩ = some (.slice xi j ci) ∧ w7.frozen? ⟨B2, 2, none⟩ = false := fun w8 h1 o w7 hg => by
            have c7 : Chg (fun q => (Value.slice xi j ci).ownBlock = some q) wc.drew w7 := ((h1.alloc o).mono (fun _ _ h => h.elim)).grown hg (fun q hq => .inl hq)
            have r7 := c7.rowC R2 (fun e => by have := (hOWN.lt _ e).1; omega)
            exact ⟨rowC_cell r7 2, rowC_free r7 2⟩
          obtain ⟨i0, hi0, hz0, hz1, hz2⟩ := info_parts info_V3
          have HK := Lib.hid hk
          clear hk hxv hab h4 hHx k2 hJl hJN htv hIt hF hne hOWN ob R1 hB sB hxm hsx IH hsb1 hsbF CD
          go_upto_region 10 with (fail)
          refine wp_region_noPanic ?_
          refine wp_region_held_drew (S := Gn wc SB) (by kernel_rfl) (Gn.start _ _) (fun hHeld => ?_)
          generalize wc.drew = wd at *
          refine wpAnyH_take (i := 0) (oi := { dst := some 41, op := Op.fieldAddr 63 (Operand.tmp 5) 2, type := 0, pos := "outright.go:61", after := #[], guard := none }) (v := ?_) rfl (by kernel_rfl) (by kernel_rfl) (by kernel_rfl) (fun _ _ _ h => h) (Or.inl ⟨by rfl, ?_⟩) (by assumption) ?_
          rotate_left
          · intro w hSw
            skip
            clear hSw
            go_simp
            try with_reducible rfl
          try simp only [Act.put, List.setIfInBounds_toArray, List.set_cons_zero, List.set_cons_succ]
          refine wpAnyH_take (i := 2) (oi := { dst := some 43, op := Op.fieldAddr 63 (Operand.tmp 2) 2, type := 0, pos := "outright.go:61", after := #[], guard := none }) (v := ?_) rfl (by kernel_rfl) (by kernel_rfl) (by kernel_rfl) (fun _ _ _ h => h) (Or.inl ⟨by rfl, ?_⟩) (by assumption) ?_
          rotate_left
          · intro w hSw
            skip
            clear hSw
            go_simp
            try with_reducible rfl
          try simp only [Act.put, List.setIfInBounds_toArray, List.set_cons_zero, List.set_cons_succ]
          refine wpAnyH_take (i := 4) (oi := { dst := some 45, op := Op.move (Operand.tmp 8), type := 3, pos := "outright.go:61", after := #[], guard := none }) (v := ?_) rfl (by kernel_rfl) (by kernel_rfl) (by kernel_rfl) (fun _ _ _ h => h) (Or.inl ⟨by rfl, ?_⟩) (by assumption) ?_
          rotate_left
          · intro w hSw
            skip
            clear hSw
            go_simp
            try with_reducible rfl
          try simp only [Act.put, List.setIfInBounds_toArray, List.set_cons_zero, List.set_cons_succ]
          refine wpAnyH_take (i := 7) (oi := { dst := some 48, op := Op.move (Operand.tmp 1), type := 3, pos := "outright.go:61", after := #[], guard := none }) (v := ?_) rfl (by kernel_rfl) (by kernel_rfl) (by kernel_rfl) (fun _ _ _ h => h) (Or.inl ⟨by rfl, ?_⟩) (by assumption) ?_
          rotate_left
          · intro w hSw
            skip
            clear hSw
            go_simp
            try with_reducible rfl
          try simp only [Act.put, List.setIfInBounds_toArray, List.set_cons_zero, List.set_cons_succ]
          refine wpAnyH_take (i := 3) (oi := { dst := some 44, op := Op.load 60 (Operand.tmp 43), type := 60, pos := "outright.go:61", after := #[{ on := 2, ground := Ground.data }], guard := none }) (v := ?_) rfl (by kernel_rfl) (by kernel_rfl) (by kernel_rfl) (fun _ _ _ h => h) (Or.inl ⟨by rfl, ?_⟩) (by assumption) ?_
          rotate_left
          · intro w hSw
            have hSw := OS _ hSw
            go_simp
            try with_reducible rfl
          try simp only [Act.put, List.setIfInBounds_toArray, List.set_cons_zero, List.set_cons_succ]
          refine wpAnyH_take (i := 5) (oi := { dst := some 46, op := Op.indexAddr 60 (Operand.tmp 44) (Operand.tmp 45), type := 0, pos := "outright.go:61", after := #[{ on := 3, ground := Ground.data }, { on := 4, ground := Ground.data }], guard := none }) (v := ?_) rfl (by kernel_rfl) (by kernel_rfl) (by kernel_rfl) (fun _ _ _ h => h) (Or.inl ⟨by rfl, ?_⟩) (by assumption) ?_
          rotate_left
          · intro w hSw
            skip
            clear hSw
            go_simp
            try with_reducible rfl
          try simp only [Act.put, List.setIfInBounds_toArray, List.set_cons_zero, List.set_cons_succ]
          refine wpAnyH_take (i := 6) (oi := { dst := some 47, op := Op.load 63 (Operand.tmp 46), type := 63, pos := "outright.go:61", after := #[{ on := 5, ground := Ground.data }], guard := none }) (v := _) rfl (by kernel_rfl) (by kernel_rfl) (by kernel_rfl) (fun _ _ _ h => h) (yieldsIf_load_at (by rfl) _ _ rfl (ad.add (k * 4)) rfl [a', b', c', d'] _ (fun w hSw => (OS _ hSw).2) Tryz.underlying63 rfl HI.out) (by assumption) ?_
          try simp only [Act.put, List.setIfInBounds_toArray, List.set_cons_zero, List.set_cons_succ]
          refine wpAnyH_ready (rs := [1, 8]) (by kernel_rfl) (by simp) ?_
          refine (AllReadyH.cons (o := { dst := some 42, op := Op.load 60 (Operand.tmp 41), type := 60, pos := "outright.go:61", after := #[{ on := 0, ground := Ground.data }], guard := none }) rfl (fun K hK => ?_) (AllReadyH.cons (o := { dst := some 49, op := Op.call { callee := Callee.value (Operand.func 30), args := #[Operand.tmp 47, Operand.tmp 48], argTypes := #[63, 3] }, type := 63, pos := "outright.go:61", after := #[{ on := 6, ground := Ground.data }, { on := 7, ground := Ground.data }], guard := none }) rfl (fun K hK => ?_) AllReadyH.nil))
          · skip
            go_simp
            refine hK.out _ _ (SO _ (by first | assumption | exact Gn.alloc (by assumption) _ | exact Gn.cell (by assumption) _ _ (.inl hsb0) | exact Gn.call (by assumption) (by assumption))) (fun hHeld => ?_)
            clear hK K
            try simp only [Act.put, List.setIfInBounds_toArray, List.set_cons_zero, List.set_cons_succ]
            refine wpAnyH_ready (rs := [8]) (by kernel_rfl) (by simp) ?_
            refine (AllReadyH.cons (o := { dst := some 49, op := Op.call { callee := Callee.value (Operand.func 30), args := #[Operand.tmp 47, Operand.tmp 48], argTypes := #[63, 3] }, type := 63, pos := "outright.go:61", after := #[{ on := 6, ground := Ground.data }, { on := 7, ground := Ground.data }], guard := none }) rfl (fun K hK => ?_) AllReadyH.nil)
            go_simp
            with_reducible refine (C8 _ hHeld).mono ?_
            rintro e w8' ⟨K2, T2, y2, n2, m2, y3, n3, m3, rfl, hx8, hc8, m8'⟩
            have s8 := hc8.size
            have L2 : w8'.cell? ⟨B2, 2, none⟩ = some (.slice xi j ci) := rowC_cell (hc8.rowC R2 id) 2
            have L3 : ∀ o, (w8'.alloc o).cell? ⟨B2, 2, none⟩ = some (.slice xi j ci) := fun o => rowC_cell ((hc8.alloc o).rowC R2 id) 2
            have OW : ∀ o, (w8'.alloc o).ownsRow BL 63 4 (.slice xi j ci) j xs := fun o => (hc8.alloc o).owns OW2 (fun _ _ h => h)
            have SG := SG0 w8' hc8
            have SZ := SZ0 w8' hc8
            refine hK.out _ _ (SO _ (by assumption)) (fun hHeld => ?_)
            clear hK K
            try simp only [Act.put, List.setIfInBounds_toArray, List.set_cons_zero, List.set_cons_succ]
            refine wpAnyH_ready (rs := [9]) (by kernel_rfl) (by simp) ?_
            refine (AllReadyH.cons (o := { dst := some 50, op := Op.buildSlice 60 1 #[(0, Operand.tmp 49)], type := 60, pos := "outright.go:61", after := #[{ on := 8, ground := Ground.data }], guard := none }) rfl (fun K hK => ?_) AllReadyH.nil)
            skip
            go_simp
            refine hK.out _ _ (SO _ (by first | assumption | exact Gn.alloc (by assumption) _ | exact Gn.cell (by assumption) _ _ (.inl hsb0) | exact Gn.call (by assumption) (by assumption))) (fun hHeld => ?_)
            clear hK K
            try simp only [Act.put, List.setIfInBounds_toArray, List.set_cons_zero, List.set_cons_succ]
            refine wpAnyH_ready (rs := [10]) (by kernel_rfl) (by simp) ?_
            refine (AllReadyH.cons (o := { dst := some 51, op := Op.call { callee := Callee.builtin Builtin.append, args := #[Operand.tmp 42, Operand.tmp 50], argTypes := #[60, 60] }, type := 60, pos := "outright.go:61", after := #[{ on := 1, ground := Ground.data }, { on := 9, ground := Ground.data }, { on := 8, ground := Ground.chain }], guard := none }) rfl (fun K hK => ?_) AllReadyH.nil)
            refine step_append_lies _ (by rfl) _ _ 60 (by rfl) BL 63 i0 (.agg #[.int .i64 0, .string ⟨#[]⟩, .slice none 0 0, .slice none 0 0]) 4 72 Tryz.underlying60 hi0 hz0 hz1 hz2 (by rfl) (by decide) (.slice xi j ci) j xs (by rfl) (OW _) ⟨w8'.heap.size, 0, none⟩ 1 1 [.int .i64 K2, .string T2, .slice y2 n2 m2, .slice y3 n3 m3] (by rfl) (by rfl) (World.news_of_block (heap_alloc_new w8' _)) (fun u hu => all_one4 u hu) (by decide) (by unfold maxLen; omega) (by omega) (by rw [size_alloc]; omega) _ rfl ?_
            intro g cap w7 hown7 hgrow7 hat7 hlt7
            have S7 := SG _ _ hgrow7
            obtain ⟨z2, y2f⟩ := SZ _ _ hgrow7
            refine hK.out _ _ (SO _ (by first | assumption | exact Gn.alloc (by assumption) _ | exact Gn.cell (by assumption) _ _ (.inl hsb0) | exact Gn.call (by assumption) (by assumption))) (fun hHeld => ?_)
            clear hK K
            try simp only [Act.put, List.setIfInBounds_toArray, List.set_cons_zero, List.set_cons_succ]
            refine wpAnyH_take (i := 11) (oi := { dst := some 52, op := Op.fieldAddr 63 (Operand.tmp 5) 2, type := 0, pos := "outright.go:61", after := #[{ on := 0, ground := Ground.phase }, { on := 1, ground := Ground.phase }, { on := 2, ground := Ground.phase }, { on := 3, ground := Ground.phase }, { on := 4, ground := Ground.phase }, { on := 5, ground := Ground.phase }, { on := 6, ground := Ground.phase }, { on := 7, ground := Ground.phase }, { on := 8, ground := Ground.phase }, { on := 9, ground := Ground.phase }, { on := 10, ground := Ground.phase }], guard := none }) (v := ?_) rfl (by kernel_rfl) (by kernel_rfl) (by kernel_rfl) (fun _ _ _ h => h) (Or.inl ⟨by rfl, ?_⟩) (by assumption) ?_
            rotate_left
            · intro w hSw
              skip
              clear hSw
              go_simp
              try with_reducible rfl
            try simp only [Act.put, List.setIfInBounds_toArray, List.set_cons_zero, List.set_cons_succ]
            refine wpAnyH_ready (rs := [12]) (by kernel_rfl) (by simp) ?_
            refine (AllReadyH.cons (o := { dst := none, op := Op.store 60 (Operand.tmp 52) (Operand.tmp 51), type := 0, pos := "outright.go:61", after := #[{ on := 11, ground := Ground.data }, { on := 10, ground := Ground.data }, { on := 10, ground := Ground.chain }, { on := 0, ground := Ground.phase }, { on := 1, ground := Ground.phase }, { on := 2, ground := Ground.phase }, { on := 3, ground := Ground.phase }, { on := 4, ground := Ground.phase }, { on := 5, ground := Ground.phase }, { on := 6, ground := Ground.phase }, { on := 7, ground := Ground.phase }, { on := 8, ground := Ground.phase }, { on := 9, ground := Ground.phase }, { on := 10, ground := Ground.phase }], guard := none }) rfl (fun K hK => ?_) AllReadyH.nil)
            skip
            go_simp
            refine hK.out _ _ (SO _ (by first | assumption | exact Gn.alloc (by assumption) _ | exact Gn.cell (by assumption) _ _ (.inl hsb0) | exact Gn.call (by assumption) (by assumption))) (fun hHeld => ?_)
            clear hK K
            try simp only [Act.put]
            refine wpAnyH_done (by kernel_rfl) ?_ _
            refine NoPanic.normal ?_
            go_wp2_with (fail)
            go_roundw
            case rel => exact ⟨j + 1, _, _, by go_num, by omega, NXT _ _ _ _ _ _ _ _ _ hc8 hx8 hown7 hgrow7 hat7⟩
            case measure => simp [intOf] <;> omega
          · go_simp
            with_reducible refine (C8 _ hHeld).mono ?_
            rintro e w8' ⟨K2, T2, y2, n2, m2, y3, n3, m3, rfl, hx8, hc8, m8'⟩
            have s8 := hc8.size
            have L2 : w8'.cell? ⟨B2, 2, none⟩ = some (.slice xi j ci) := rowC_cell (hc8.rowC R2 id) 2
            have L3 : ∀ o, (w8'.alloc o).cell? ⟨B2, 2, none⟩ = some (.slice xi j ci) := fun o => rowC_cell ((hc8.alloc o).rowC R2 id) 2
            have OW : ∀ o, (w8'.alloc o).ownsRow BL 63 4 (.slice xi j ci) j xs := fun o => (hc8.alloc o).owns OW2 (fun _ _ h => h)
            have SG := SG0 w8' hc8
            have SZ := SZ0 w8' hc8
            refine hK.out _ _ (SO _ (by assumption)) (fun hHeld => ?_)
            clear hK K
            try simp only [Act.put, List.setIfInBounds_toArray, List.set_cons_zero, List.set_cons_succ]
            refine wpAnyH_ready (rs := [1, 9]) (by kernel_rfl) (by simp) ?_
            refine (AllReadyH.cons (o := { dst := some 42, op := Op.load 60 (Operand.tmp 41), type := 60, pos := "outright.go:61", after := #[{ on := 0, ground := Ground.data }], guard := none }) rfl (fun K hK => ?_) (AllReadyH.cons (o := { dst := some 50, op := Op.buildSlice 60 1 #[(0, Operand.tmp 49)], type := 60, pos := "outright.go:61", after := #[{ on := 8, ground := Ground.data }], guard := none }) rfl (fun K hK => ?_) AllReadyH.nil))
            · skip
              go_simp
              refine hK.out _ _ (SO _ (by first | assumption | exact Gn.alloc (by assumption) _ | exact Gn.cell (by assumption) _ _ (.inl hsb0) | exact Gn.call (by assumption) (by assumption))) (fun hHeld => ?_)
              clear hK K
              try simp only [Act.put, List.setIfInBounds_toArray, List.set_cons_zero, List.set_cons_succ]
              refine wpAnyH_ready (rs := [9]) (by kernel_rfl) (by simp) ?_
              refine (AllReadyH.cons (o := { dst := some 50, op := Op.buildSlice 60 1 #[(0, Operand.tmp 49)], type := 60, pos := "outright.go:61", after := #[{ on := 8, ground := Ground.data }], guard := none }) rfl (fun K hK => ?_) AllReadyH.nil)
              skip
              go_simp
              refine hK.out _ _ (SO _ (by first | assumption | exact Gn.alloc (by assumption) _ | exact Gn.cell (by assumption) _ _ (.inl hsb0) | exact Gn.call (by assumption) (by assumption))) (fun hHeld => ?_)
              clear hK K
              try simp only [Act.put, List.setIfInBounds_toArray, List.set_cons_zero, List.set_cons_succ]
              refine wpAnyH_ready (rs := [10]) (by kernel_rfl) (by simp) ?_
              refine (AllReadyH.cons (o := { dst := some 51, op := Op.call { callee := Callee.builtin Builtin.append, args := #[Operand.tmp 42, Operand.tmp 50], argTypes := #[60, 60] }, type := 60, pos := "outright.go:61", after := #[{ on := 1, ground := Ground.data }, { on := 9, ground := Ground.data }, { on := 8, ground := Ground.chain }], guard := none }) rfl (fun K hK => ?_) AllReadyH.nil)
              refine step_append_lies _ (by rfl) _ _ 60 (by rfl) BL 63 i0 (.agg #[.int .i64 0, .string ⟨#[]⟩, .slice none 0 0, .slice none 0 0]) 4 72 Tryz.underlying60 hi0 hz0 hz1 hz2 (by rfl) (by decide) (.slice xi j ci) j xs (by rfl) (OW _) ⟨w8'.heap.size, 0, none⟩ 1 1 [.int .i64 K2, .string T2, .slice y2 n2 m2, .slice y3 n3 m3] (by rfl) (by rfl) (World.news_of_block (heap_alloc_new w8' _)) (fun u hu => all_one4 u hu) (by decide) (by unfold maxLen; omega) (by omega) (by rw [size_alloc]; omega) _ rfl ?_
              intro g cap w7 hown7 hgrow7 hat7 hlt7
              have S7 := SG _ _ hgrow7
              obtain ⟨z2, y2f⟩ := SZ _ _ hgrow7
              refine hK.out _ _ (SO _ (by first | assumption | exact Gn.alloc (by assumption) _ | exact Gn.cell (by assumption) _ _ (.inl hsb0) | exact Gn.call (by assumption) (by assumption))) (fun hHeld => ?_)
              clear hK K
              try simp only [Act.put, List.setIfInBounds_toArray, List.set_cons_zero, List.set_cons_succ]
              refine wpAnyH_take (i := 11) (oi := { dst := some 52, op := Op.fieldAddr 63 (Operand.tmp 5) 2, type := 0, pos := "outright.go:61", after := #[{ on := 0, ground := Ground.phase }, { on := 1, ground := Ground.phase }, { on := 2, ground := Ground.phase }, { on := 3, ground := Ground.phase }, { on := 4, ground := Ground.phase }, { on := 5, ground := Ground.phase }, { on := 6, ground := Ground.phase }, { on := 7, ground := Ground.phase }, { on := 8, ground := Ground.phase }, { on := 9, ground := Ground.phase }, { on := 10, ground := Ground.phase }], guard := none }) (v := ?_) rfl (by kernel_rfl) (by kernel_rfl) (by kernel_rfl) (fun _ _ _ h => h) (Or.inl ⟨by rfl, ?_⟩) (by assumption) ?_
              rotate_left
              · intro w hSw
                skip
                clear hSw
                go_simp
                try with_reducible rfl
              try simp only [Act.put, List.setIfInBounds_toArray, List.set_cons_zero, List.set_cons_succ]
              refine wpAnyH_ready (rs := [12]) (by kernel_rfl) (by simp) ?_
              refine (AllReadyH.cons (o := { dst := none, op := Op.store 60 (Operand.tmp 52) (Operand.tmp 51), type := 0, pos := "outright.go:61", after := #[{ on := 11, ground := Ground.data }, { on := 10, ground := Ground.data }, { on := 10, ground := Ground.chain }, { on := 0, ground := Ground.phase }, { on := 1, ground := Ground.phase }, { on := 2, ground := Ground.phase }, { on := 3, ground := Ground.phase }, { on := 4, ground := Ground.phase }, { on := 5, ground := Ground.phase }, { on := 6, ground := Ground.phase }, { on := 7, ground := Ground.phase }, { on := 8, ground := Ground.phase }, { on := 9, ground := Ground.phase }, { on := 10, ground := Ground.phase }], guard := none }) rfl (fun K hK => ?_) AllReadyH.nil)
              skip
              go_simp
              refine hK.out _ _ (SO _ (by first | assumption | exact Gn.alloc (by assumption) _ | exact Gn.cell (by assumption) _ _ (.inl hsb0) | exact Gn.call (by assumption) (by assumption))) (fun hHeld => ?_)
              clear hK K
              try simp only [Act.put]
              refine wpAnyH_done (by kernel_rfl) ?_ _
              refine NoPanic.normal ?_
              go_wp2_with (fail)
              go_roundw
              case rel => exact ⟨j + 1, _, _, by go_num, by omega, NXT _ _ _ _ _ _ _ _ _ hc8 hx8 hown7 hgrow7 hat7⟩
              case measure => simp [intOf] <;> omega
            · skip
              go_simp
              refine hK.out _ _ (SO _ (by first | assumption | exact Gn.alloc (by assumption) _ | exact Gn.cell (by assumption) _ _ (.inl hsb0) | exact Gn.call (by assumption) (by assumption))) (fun hHeld => ?_)
              clear hK K
              try simp only [Act.put, List.setIfInBounds_toArray, List.set_cons_zero, List.set_cons_succ]
              refine wpAnyH_ready (rs := [1]) (by kernel_rfl) (by simp) ?_
              refine (AllReadyH.cons (o := { dst := some 42, op := Op.load 60 (Operand.tmp 41), type := 60, pos := "outright.go:61", after := #[{ on := 0, ground := Ground.data }], guard := none }) rfl (fun K hK => ?_) AllReadyH.nil)
              skip
              go_simp
              refine hK.out _ _ (SO _ (by first | assumption | exact Gn.alloc (by assumption) _ | exact Gn.cell (by assumption) _ _ (.inl hsb0) | exact Gn.call (by assumption) (by assumption))) (fun hHeld => ?_)
              clear hK K
              try simp only [Act.put, List.setIfInBounds_toArray, List.set_cons_zero, List.set_cons_succ]
              refine wpAnyH_ready (rs := [10]) (by kernel_rfl) (by simp) ?_
              refine (AllReadyH.cons (o := { dst := some 51, op := Op.call { callee := Callee.builtin Builtin.append, args := #[Operand.tmp 42, Operand.tmp 50], argTypes := #[60, 60] }, type := 60, pos := "outright.go:61", after := #[{ on := 1, ground := Ground.data }, { on := 9, ground := Ground.data }, { on := 8, ground := Ground.chain }], guard := none }) rfl (fun K hK => ?_) AllReadyH.nil)
              refine step_append_lies _ (by rfl) _ _ 60 (by rfl) BL 63 i0 (.agg #[.int .i64 0, .string ⟨#[]⟩, .slice none 0 0, .slice none 0 0]) 4 72 Tryz.underlying60 hi0 hz0 hz1 hz2 (by rfl) (by decide) (.slice xi j ci) j xs (by rfl) (OW _) ⟨w8'.heap.size, 0, none⟩ 1 1 [.int .i64 K2, .string T2, .slice y2 n2 m2, .slice y3 n3 m3] (by rfl) (by rfl) (World.news_of_block (heap_alloc_new w8' _)) (fun u hu => all_one4 u hu) (by decide) (by unfold maxLen; omega) (by omega) (by rw [size_alloc]; omega) _ rfl ?_
              intro g cap w7 hown7 hgrow7 hat7 hlt7
              have S7 := SG _ _ hgrow7
              obtain ⟨z2, y2f⟩ := SZ _ _ hgrow7
              refine hK.out _ _ (SO _ (by first | assumption | exact Gn.alloc (by assumption) _ | exact Gn.cell (by assumption) _ _ (.inl hsb0) | exact Gn.call (by assumption) (by assumption))) (fun hHeld => ?_)
              clear hK K
              try simp only [Act.put, List.setIfInBounds_toArray, List.set_cons_zero, List.set_cons_succ]
              refine wpAnyH_take (i := 11) (oi := { dst := some 52, op := Op.fieldAddr 63 (Operand.tmp 5) 2, type := 0, pos := "outright.go:61", after := #[{ on := 0, ground := Ground.phase }, { on := 1, ground := Ground.phase }, { on := 2, ground := Ground.phase }, { on := 3, ground := Ground.phase }, { on := 4, ground := Ground.phase }, { on := 5, ground := Ground.phase }, { on := 6, ground := Ground.phase }, { on := 7, ground := Ground.phase }, { on := 8, ground := Ground.phase }, { on := 9, ground := Ground.phase }, { on := 10, ground := Ground.phase }], guard := none }) (v := ?_) rfl (by kernel_rfl) (by kernel_rfl) (by kernel_rfl) (fun _ _ _ h => h) (Or.inl ⟨by rfl, ?_⟩) (by assumption) ?_
              rotate_left
              · intro w hSw
                skip
                clear hSw
                go_simp
                try with_reducible rfl
              try simp only [Act.put, List.setIfInBounds_toArray, List.set_cons_zero, List.set_cons_succ]
              refine wpAnyH_ready (rs := [12]) (by kernel_rfl) (by simp) ?_
              refine (AllReadyH.cons (o := { dst := none, op := Op.store 60 (Operand.tmp 52) (Operand.tmp 51), type := 0, pos := "outright.go:61", after := #[{ on := 11, ground := Ground.data }, { on := 10, ground := Ground.data }, { on := 10, ground := Ground.chain }, { on := 0, ground := Ground.phase }, { on := 1, ground := Ground.phase }, { on := 2, ground := Ground.phase }, { on := 3, ground := Ground.phase }, { on := 4, ground := Ground.phase }, { on := 5, ground := Ground.phase }, { on := 6, ground := Ground.phase }, { on := 7, ground := Ground.phase }, { on := 8, ground := Ground.phase }, { on := 9, ground := Ground.phase }, { on := 10, ground := Ground.phase }], guard := none }) rfl (fun K hK => ?_) AllReadyH.nil)
              skip
              go_simp
              refine hK.out _ _ (SO _ (by first | assumption | exact Gn.alloc (by assumption) _ | exact Gn.cell (by assumption) _ _ (.inl hsb0) | exact Gn.call (by assumption) (by assumption))) (fun hHeld => ?_)
              clear hK K
              try simp only [Act.put]
              refine wpAnyH_done (by kernel_rfl) ?_ _
              refine NoPanic.normal ?_
              go_wp2_with (fail)
              go_roundw
              case rel => exact ⟨j + 1, _, _, by go_num, by omega, NXT _ _ _ _ _ _ _ _ _ hc8 hx8 hown7 hgrow7 hat7⟩
              case measure => simp [intOf] <;> omega
      · obtain rfl : j = N := by omega
        have eJ : (ordJ kk y items).take j = ordJ kk y items := List.take_of_length_le (by rw [ordJ_len, ← HN.out]; omega)
        have hM1 := hM.out
        rw [eJ] at hM1
        have k0 : wr.cell? ⟨w.heap.size, 0, none⟩ = some (.int .i64 kk) := by have := rowC_cell hM1.x 0; rw [HROW.out] at this; exact this
        have hlJ : (ordJ kk y items).length = j := by rw [ordJ_len, ← HN.out]
        clear hM eJ
        by_cases h6 : kk = 6
        · subst h6
          have hlK : (ordK 6 y keys).length = j := by unfold ordK; rw [if_pos rfl, rot_length, HKL.out rfl, ← HN.out]
          have eK : (ordK 6 y keys).take j = ordK 6 y keys := List.take_of_length_le (by omega)
          rw [eK] at hM1
          have hOK := hM1.k
          rw [hlK] at hOK
          obtain ⟨xk, ck, rfl⟩ := owns_form hOK
          have ob := hM1.o
          have R1 := hM1.r
          have k3 : wr.cell? ⟨B2, 3, none⟩ = some (.slice xk j ck) := rowC_cell R1 3
          have CA : ∀ o, Chg (fun _ => False) wr (wr.alloc o) := fun o => (Chg.refl _ _).alloc o
          have hblr : BL ≤ wr.heap.size := by
            have h1 := rowC_lt R1
            have h2 := HBL.out
            have h3 := HB2.out
            omega
          have HFAR := Lib.hid (fun (o : Obj) (w7 : World) (hg : (wr.alloc o).grownBy w7 (Value.slice xk j ck).ownBlock) => show w7.cell? ⟨B2, 3, none⟩ = some (.slice xk j ck) ∧ w7.frozen? ⟨B2, 3, none⟩ = false from by
            have c7 : Chg (fun q => (Value.slice xk j ck).ownBlock = some q) wr w7 := ((CA o).mono (fun _ _ h => h.elim)).grown hg (fun q hq => .inl hq)
            have r7 := c7.rowC R1 (fun e => by have := (hOK.lt _ e).1; omega)
            exact ⟨rowC_cell r7 3, rowC_free r7 3⟩)
          have HNX := Lib.hid (fun (o : Obj) (g cap : Nat) (w7 : World) (h1 : w7.ownsRow BL 9 1 (.slice (some ⟨g, 0, none⟩) (j + 1) cap) (j + 1) (keysV (ordK 6 y keys) ++ [.string (str kAnn)])) (h2 : (wr.alloc o).grownBy w7 (Value.slice xk j ck).ownBlock) (h3 : (Value.slice xk j ck).ownBlock = some g ∨ g = (wr.alloc o).heap.size) =>
            hM1.key (CA o) hlK h1 h2 (h3.imp id (fun e => Nat.le_of_eq e.symm)))
          have HOK := Lib.hid (fun (o : Obj) => (CA o).owns hOK (fun _ _ h => h))
          obtain ⟨s0, hs0, hs1, hs2, hs3⟩ := info_parts info_str3
          have hb0 : BL ≤ wr.heap.size + 1 := by omega
          clear hM1 hlK eK hOK R1 CA hblr
          go_upto_region 13 with ((with_reducible show wpList _ _ _ (⟨some 59, _, _, _, _, _⟩ :: _) _ _); refine wpList_append_lies _ rfl _ _ 61 rfl BL 9 s0 (.string ⟨#[]⟩) 1 16 Tryz.underlying61 hs0 hs1 hs2 hs3 (by rfl) (by decide) (.slice xk j ck) j (keysV (ordK 6 y keys)) rfl (HOK.out _) ⟨wr.heap.size, 0, none⟩ 1 1 [.string (str kAnn)] rfl rfl (World.news_of_block (heap_alloc_new wr _)) (fun u hu => by rw [List.mem_singleton.1 hu]; rfl) (by decide) (by unfold maxLen; omega) (by omega) (by rw [size_alloc]; exact hb0) _ rfl ?_; intro g cap w7 hown7 hgrow7 hat7 hlt7; obtain ⟨z1, z2⟩ := HFAR.out _ _ hgrow7; have HM8 := Lib.hid (HNX.out _ _ _ _ hown7 hgrow7 hat7); clear hown7 hgrow7 hat7 hlt7)
          clear HOK HNX HFAR
          generalize w7.setCell ⟨B2, 3, none⟩ (.slice (some ⟨g, 0, none⟩) (j + 1) cap) = W8 at *
          obtain ⟨⟨xs, F, hOJ, hIt, hF⟩, _⟩ := HM8.out.i
          rw [hlJ] at hOJ
          obtain ⟨xi, ci, rfl⟩ := owns_form hOJ
          have R8 := HM8.out.r
          have k8 : W8.cell? ⟨B2, 2, none⟩ = some (.slice xi j ci) := rowC_cell R8 2
          have hblr : BL ≤ W8.heap.size := by
            have h1 := rowC_lt R8
            have h2 := HBL.out
            have h3 := HB2.out
            omega
          obtain ⟨W9, hW9⟩ : ∃ W, W = W8.alloc (.cells zeroV4 63) := ⟨_, rfl⟩
          have C9 : Chg (fun _ => False) W8 W9 := by rw [hW9]; exact (Chg.refl _ _).alloc _
          have R9 : rowC W9 W8.heap.size zeroV4 63 := by rw [hW9]; exact rowC_new _ _ _
          have S9 : W9.heap.size = W8.heap.size + 1 := by rw [hW9]; exact size_alloc _ _
          have HW9 := Lib.hid hW9
          have HFAR := Lib.hid (fun (o : Obj) (w7 : World) (hg : (W9.alloc o).grownBy w7 (Value.slice xi j ci).ownBlock) => show w7.cell? ⟨B2, 2, none⟩ = some (.slice xi j ci) ∧ w7.frozen? ⟨B2, 2, none⟩ = false from by
            have c7 : Chg (fun q => (Value.slice xi j ci).ownBlock = some q) W8 w7 := ((C9.alloc o).mono (fun _ _ h => h.elim)).grown hg (fun q hq => .inl hq)
            have r7 := c7.rowC R8 (fun e => by have := (hOJ.lt _ e).1; omega)
            exact ⟨rowC_cell r7 2, rowC_free r7 2⟩)
          have HNX := Lib.hid (fun (o : Obj) (g' cap' : Nat) (w7 : World) (h1 : w7.ownsRow BL 63 4 (.slice (some ⟨g', 0, none⟩) (j + 1) cap') (j + 1) (xs ++ [.int .i64 5, .string ⟨#[]⟩, .slice (some ⟨W8.heap.size, 0, none⟩) 1 1, .slice none 0 0])) (h2 : (W9.alloc o).grownBy w7 (Value.slice xi j ci).ownBlock) (h3 : (Value.slice xi j ci).ownBlock = some g' ∨ g' = (W9.alloc o).heap.size) =>
            HM8.out.item hIt hF (fun q hq => (hOJ.lt q hq).2) hlJ C9 (Nat.le_refl _) hblr (holds_ann R9 ⟨Nat.le_refl _, by omega⟩) h1 h2 (by rw [size_alloc] at h3; exact h3))
          have HOJ := Lib.hid (fun (o : Obj) => (C9.alloc o).owns hOJ (fun _ _ h => h))
          obtain ⟨i0, hi0, hz0, hz1, hz2⟩ := info_parts info_V3
          have hb1 : BL ≤ W9.heap.size + 1 := by omega
          clear HM8 hIt hF hOJ R8 C9 R9 hblr hW9
          go_upto_region 14 with (first
            | ((with_reducible show wpList _ _ _ (⟨some 63, .build _ _, _, _, _, _⟩ :: _) _ _); refine wpList_build_as rfl 63 _ rfl zeroV4 (by kernel_rfl) ?_)
            | ((with_reducible show wpList _ _ _ (⟨some 64, .buildSlice _ _ _, _, _, _, _⟩ :: _) _ _); refine wpList_oneR rfl 60 63 4 _ rfl zeroV4 rfl i0 _ Tryz.underlying60 hi0 hz0 hz1 rfl (by decide) (by decide) ?_; rw [← HW9.out])
            | ((with_reducible show wpList _ _ _ (⟨some 65, .build _ _, _, _, _, _⟩ :: _) _ _); refine wpList_build_as rfl 63 _ rfl #[.int .i64 5, .string ⟨#[]⟩, .slice (some ⟨W8.heap.size, 0, none⟩) 1 1, .slice none 0 0] (by kernel_rfl) ?_)
            | ((with_reducible show wpList _ _ _ (⟨some 66, .buildSlice _ _ _, _, _, _, _⟩ :: _) _ _); refine wpList_oneR rfl 60 63 4 _ rfl #[.int .i64 5, .string ⟨#[]⟩, .slice (some ⟨W8.heap.size, 0, none⟩) 1 1, .slice none 0 0] rfl i0 _ Tryz.underlying60 hi0 hz0 hz1 rfl (by decide) (by decide) ?_)
            | ((with_reducible show wpList _ _ _ (⟨some 67, _, _, _, _, _⟩ :: _) _ _); refine wpList_append_lies _ rfl _ _ 60 rfl BL 63 i0 (.agg #[.int .i64 0, .string ⟨#[]⟩, .slice none 0 0, .slice none 0 0]) 4 72 Tryz.underlying60 hi0 hz0 hz1 hz2 (by rfl) (by decide) (.slice xi j ci) j xs rfl (HOJ.out _) ⟨W9.heap.size, 0, none⟩ 1 1 [.int .i64 5, .string ⟨#[]⟩, .slice (some ⟨W8.heap.size, 0, none⟩) 1 1, .slice none 0 0] rfl rfl (World.news_of_block (heap_alloc_new W9 _)) (fun u hu => all_one4 u hu) (by decide) (by unfold maxLen; omega) (by omega) (by rw [size_alloc]; exact hb1) _ rfl ?_; intro g' cap' w10 hown7 hgrow7 hat7 hlt7; obtain ⟨z3, z4⟩ := HFAR.out _ _ hgrow7; have HMX := Lib.hid (HNX.out _ _ _ _ hown7 hgrow7 hat7); clear hown7 hgrow7 hat7 hlt7))
          clear HOJ HNX HFAR
          generalize w10.setCell ⟨B2, 2, none⟩ (.slice (some ⟨g', 0, none⟩) (j + 1) cap') = WX at *
          obtain ⟨r0, hr0⟩ : ∃ r, r = row4 6 (str t) (some ⟨g', 0, none⟩) (j + 1) cap' (some ⟨g, 0, none⟩) (j + 1) cap := ⟨_, rfl⟩
          have RX : rowC WX B2 r0 63 := by rw [hr0]; exact HMX.out.r
          have ZX := HMX.out.z
          have hra : r0.all (·.oneCell') = true := by rw [hr0]; exact row4_all _ _ _ _ _ _ _ _
          have hir : (Tryz.prog.info? 63).map (·.size) = some r0.size := by rw [hr0]; exact HI.out
          have hzr : zeroV4.size = r0.size := by rw [hr0]; rfl
          have HR0 := Lib.hid hr0
          clear hr0
          go_wp2_with (first
            | ((with_reducible show wpList _ _ _ (⟨some 69, .load _ _, _, _, _, _⟩ :: _) _ _); refine wpList_load_row rfl 63 _ rfl B2 rfl 63 r0 (0, 0) _ RX Tryz.underlying63 rfl hir ?_)
            | ((with_reducible show wpList _ _ _ (⟨none, .store _ (.tmp 4) _, _, _, _, _⟩ :: _) _ _); refine wpList_store_row rfl 63 _ _ rfl (w.heap.size + 1) r0 rfl rfl 63 zeroV4 ZX hir hzr hra ?_))
          refine bodyPost_ret (results_cell_row rfl _ _ (w.heap.size + 1) 63 r0 (0, 0) _ rfl (rowC_setRow ZX _) Tryz.underlying63 rfl hir) rfl ?_
          obtain ⟨f1, f2⟩ := HMX.out.fin htl r0
          refine ⟨_, rfl, ?_, f2⟩
          rw [turnJ_ord, if_pos rfl, HR0.out]
          rw [HR0.out] at f1
          exact f1
        · have q6 : (kk == 6) = false := beq_eq_false_iff_ne.2 h6
          have hK0 : ordK kk y keys = [] := if_neg h6
          have hM2 := hM1
          rw [hK0, List.take_nil] at hM2
          have HMX := Lib.hid hM2
          have hOK := hM2.k
          obtain ⟨xk, ck, rfl⟩ := owns_form hOK
          obtain ⟨⟨xs, F, hOJ, hIt, hF⟩, _⟩ := hM2.i
          rw [hlJ] at hOJ
          obtain ⟨xi, ci, rfl⟩ := owns_form hOJ
          obtain ⟨r0, hr0⟩ : ∃ r, r = row4 kk (str t) xi j ci xk ([] : List Bs).length ck := ⟨_, rfl⟩
          have RX : rowC wr B2 r0 63 := by rw [hr0]; exact HMX.out.r
          have ZX := HMX.out.z
          have hra : r0.all (·.oneCell') = true := by rw [hr0]; exact row4_all _ _ _ _ _ _ _ _
          have hir : (Tryz.prog.info? 63).map (·.size) = some r0.size := by rw [hr0]; exact HI.out
          have hzr : zeroV4.size = r0.size := by rw [hr0]; rfl
          have HR0 := Lib.hid hr0
          have H6 := Lib.hid h6
          have HK0 := Lib.hid hK0
          clear hr0 hM1 hM2 hOK hOJ hIt hF hlJ hK0
          go_wp2_with (first
            | ((with_reducible show wpList _ _ _ (⟨some 69, .load _ _, _, _, _, _⟩ :: _) _ _); refine wpList_load_row rfl 63 _ rfl B2 rfl 63 r0 (0, 0) _ RX Tryz.underlying63 rfl hir ?_)
            | ((with_reducible show wpList _ _ _ (⟨none, .store _ (.tmp 4) _, _, _, _, _⟩ :: _) _ _); refine wpList_store_row rfl 63 _ _ rfl (w.heap.size + 1) r0 rfl rfl 63 zeroV4 ZX hir hzr hra ?_))
          refine bodyPost_ret (results_cell_row rfl _ _ (w.heap.size + 1) 63 r0 (0, 0) _ rfl (rowC_setRow ZX _) Tryz.underlying63 rfl hir) rfl ?_
          obtain ⟨f1, f2⟩ := HMX.out.fin htl r0
          refine ⟨_, rfl, ?_, f2⟩
          rw [turnJ_ord, if_neg H6.out, HK0.out, HR0.out]
          rw [HR0.out] at f1
          exact f1
end Go.Proofs.YtnkencdibniagaaGreatDoor

