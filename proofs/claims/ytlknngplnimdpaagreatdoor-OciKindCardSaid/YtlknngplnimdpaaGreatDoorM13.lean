/- Merged: OeH, OeI, OfA, OfB, OfC, OfD. -/
import Derived.Test.YtlknngplnimdpaaGreatDoorM12
import Derived.Test.YtlknngplnimdpaaGreatDoorM10
import Derived.Deep.Slices
import Derived.Deep.Fields
import Derived.ChangeSame
import Derived.OpenShut
import Derived.ChangeArms
import Derived.SizedLaws
import Derived.ChangeKeysEq
/- Layer 13: PutImage. -/
namespace Go.Proofs.YtlknngplnimdpaaGreatDoor
open Go.RowKit

theorem fldr2 {w : World} {g B : Nat} {k1 k2 : Bs} {v1 v2 : JV} {a1 b1 c1 d1 a2 b2 c2 d2 : Value} (h : rowC w g #[.string (str k1), a1, b1, c1, d1, .string (str k2), a2, b2, c2, d2] 102) (hg : g < w.heap.size)
    (h1 : HoldsC w (fun q => B ≤ q ∧ q < w.heap.size) v1 a1 b1 c1 d1) (h2 : HoldsC w (fun q => B ≤ q ∧ q < w.heap.size) v2 a2 b2 c2 d2) : FldR w B [(k1, v1), (k2, v2)] (some ⟨g, 0, none⟩) := by
  intro i k v hi
  rcases i with _ | _ | i
  · simp only [List.getElem?_cons_zero, Option.some.injEq, Prod.mk.injEq] at hi
    obtain ⟨rfl, rfl⟩ := hi
    refine ⟨⟨g, 0, none⟩, _, _, _, _, rfl, hg, ?_, h1⟩
    intro j u hu
    rcases j with _ | _ | _ | _ | _ | j
    · exact (rowC_cell h 0).trans hu
    · exact (rowC_cell h 1).trans hu
    · exact (rowC_cell h 2).trans hu
    · exact (rowC_cell h 3).trans hu
    · exact (rowC_cell h 4).trans hu
    · simp at hu
  · simp only [List.getElem?_cons_succ, List.getElem?_cons_zero, Option.some.injEq, Prod.mk.injEq] at hi
    obtain ⟨rfl, rfl⟩ := hi
    refine ⟨⟨g, 0, none⟩, _, _, _, _, rfl, hg, ?_, h2⟩
    intro j u hu
    rcases j with _ | _ | _ | _ | _ | j
    · exact (rowC_cell h 5).trans hu
    · exact (rowC_cell h 6).trans hu
    · exact (rowC_cell h 7).trans hu
    · exact (rowC_cell h 8).trans hu
    · exact (rowC_cell h 9).trans hu
    · simp at hu
  · simp at hi
def rooJ (l : List Bs) : JV := objJ [(kTyp, txtJ kLay), (kDif, lstJ (l.map digJ))]
theorem okJ_roo {l : List Bs} (hl : l.length ≤ 8) : okJ (rooJ l) := okJ_obj (by show 2 ≤ 65536; omega) fun p hq => by
  simp only [List.mem_cons, List.not_mem_nil, or_false] at hq
  rcases hq with rfl | rfl
  · exact ⟨Nat.le_of_ble_eq_true rfl, okJ_txt _⟩
  · refine ⟨Nat.le_of_ble_eq_true rfl, okJ_lst (by rw [List.length_map]; omega) fun v hv => ?_⟩
    obtain ⟨d, hd, rfl⟩ := List.mem_map.1 hv
    exact okJ_txt _
theorem okJ_img {p : Bs × Bs} {l : List Bs} (hl : l.length ≤ 8) : okJ (imgJ p l) := okJ_obj (by show 3 ≤ 65536; omega) fun q hq => by
  simp only [List.mem_cons, List.not_mem_nil, or_false] at hq
  rcases hq with rfl | rfl | rfl
  · exact ⟨Nat.le_of_ble_eq_true rfl, okJ_txt _⟩
  · exact ⟨Nat.le_of_ble_eq_true rfl, okJ_txt _⟩
  · exact ⟨Nat.le_of_ble_eq_true rfl, okJ_roo hl⟩
@[reducible] def rooC (y : Option Addr) (N m : Nat) (z : Option Addr) (n : Nat) : Array Value := #[.string ⟨#[116, 121, 112, 101]⟩, .int .i64 4, .string ⟨#[108, 97, 121, 101, 114, 115]⟩, .slice none 0 0, .slice none 0 0, .string ⟨#[100, 105, 102, 102, 95, 105, 100, 115]⟩, .int .i64 5, .string ⟨#[]⟩, .slice y N m, .slice z 0 n]
@[reducible] def imgC (p : Bs × Bs) (y : Option Addr) (m : Nat) (z : Option Addr) (n : Nat) : Array Value := #[.string ⟨#[97, 114, 99, 104, 105, 116, 101, 99, 116, 117, 114, 101]⟩, .int .i64 4, .string (str p.2), .slice none 0 0, .slice none 0 0, .string ⟨#[111, 115]⟩, .int .i64 4, .string (str p.1), .slice none 0 0, .slice none 0 0, .string ⟨#[114, 111, 111, 116, 102, 115]⟩, .int .i64 6, .string ⟨#[]⟩, .slice y 2 m, .slice z 2 n]
set_option maxRecDepth 100000 in
set_option maxHeartbeats 16000000 in
theorem putImage_any (p : Bs × Bs) (l : List Bs) (x : Option Addr) (cc : Nat) (w : World) (hE : Env2 w) (hl : l.length ≤ 70368744177664) (h1 : p.1.length ≤ 281474976710656) (h2 : p.2.length ≤ 281474976710656) (hL : eDigs.at_ w (fun k => k < w.heap.size) l (.slice x l.length cc)) :
    Calls Tryz.prog 22 #[.agg (row3 (str p.1) (str p.2) x l.length cc)] w fun e w' => e = .returned (.tuple #[.string (str (imgA p l).1), .int .i64 ((imgA p l).2 : Int)]) ∧ Below w.heap.size w w' := by
  obtain ⟨R, hR⟩ : ∃ R, R = imgA p l := ⟨_, rfl⟩
  rw [← hR]
  have HR := Lib.hid hR
  obtain ⟨W0, hW0⟩ : ∃ W0, W0 = w.alloc (.cells (row3 (str p.1) (str p.2) x l.length cc) 39) := ⟨_, rfl⟩
  have R0 : rowC W0 w.heap.size (row3 (str p.1) (str p.2) x l.length cc) 39 := by rw [hW0]; exact rowC_new w _ _
  have B0 : Below w.heap.size w W0 := by rw [hW0]; exact (Below.refl _ _).alloc (Nat.le_refl _) _
  have S0 : W0.heap.size = w.heap.size + 1 := by rw [hW0, size_alloc]
  have CI : Calls Tryz.prog 60 #[.agg #[.string (str p.1), .string (str p.2)]] W0 fun e w' => e = .returned (.bool (Lib.validD p.1 && Lib.validD p.2)) ∧ Below W0.heap.size W0 w' := isText_any p h1 h2 W0 (hE.below B0)
  obtain ⟨M, hM⟩ : ∃ M, M = (Lib.validD p.1 && Lib.validD p.2) := ⟨_, rfl⟩
  rw [← hM] at CI
  have HM := Lib.hid hM
  have HE := Lib.hid hE
  have HL := Lib.hid hL
  have HW0 := Lib.hid hW0
  have HR0 := Lib.hid R0
  have HB0 := Lib.hid B0
  have HIP := Lib.hid info_P
  have HP1 := Lib.hid h1
  have HP2 := Lib.hid h2
  have RG := Lib.hid (rowC_range R0 0 [.string (str p.1), .string (str p.2)] (fun i u hu => by
    rw [Nat.zero_add]
    rcases i with _ | _ | i
    · exact hu
    · exact hu
    · simp at hu))
  clear hR hM hE hL hW0 R0 B0 h1 h2
  go_enter Tryz.func22, Tryz.ntmps22
  go_upto_region 1 with (fail)
  rw [show w.alloc (.cells (row3 (str p.1) (str p.2) x l.length cc) 39) = W0 from HW0.out.symm]
  cases M with
  | false =>
    have e0 : Hid (R = ([], 2)) := Lib.hid (by rw [HR.out]; unfold imgA; rw [if_pos HM.out.symm])
    go_wp2_with (first
      | ((with_reducible show wpList _ _ _ (⟨some 5, .load _ _, _, _, _, _⟩ :: _) _ _); refine wpList_load_mid rfl 26 _ rfl w.heap.size 0 rfl [.string (str p.1), .string (str p.2)] _ RG.out Tryz.underlying26 rfl HIP.out ?_)
      | (go_at_call 60; ((with_reducible refine CI.mono ?_); rintro e w2 ⟨rfl, hb2⟩)))
    go_ret2
    rw [e0.out]
    exact ⟨rfl, HB0.out.trans (hb2.mono (by omega))⟩
  | true =>
    go_upto_region 3 with (first
      | ((with_reducible show wpList _ _ _ (⟨some 5, .load _ _, _, _, _, _⟩ :: _) _ _); refine wpList_load_mid rfl 26 _ rfl w.heap.size 0 rfl [.string (str p.1), .string (str p.2)] _ RG.out Tryz.underlying26 rfl HIP.out ?_)
      | (go_at_call 60; ((with_reducible refine CI.mono ?_); rintro e w2 ⟨rfl, hb2⟩; have HB2 := Lib.hid hb2; clear hb2)))
    have s2 := HB2.out.size
    have R2 := rowC_below HR0.out HB2.out (rowC_lt HR0.out)
    have q2 : w2.cell? ⟨w.heap.size, 2, none⟩ = some (.slice x l.length cc) := rowC_cell R2 2
    have HR2 := Lib.hid R2
    clear R2
    by_cases h8 : 8 < l.length
    · have e0 : Hid (R = ([], 63)) := Lib.hid (by rw [HR.out]; unfold imgA; rw [if_neg (by have := HM.out; simp at this; simp [this]), if_pos h8])
      have h8' : (8 : Int) < (l.length : Int) := by omega
      go_wp2
      go_ret2
      rw [e0.out]
      exact ⟨rfl, HB0.out.trans (HB2.out.mono (by omega))⟩
    have e0 : Hid (R = printA (imgJ p l)) := Lib.hid (by rw [HR.out]; unfold imgA; rw [if_neg (by have := HM.out; simp at this; simp [this]), if_neg h8])
    have h8' : ¬ (8 : Int) < (l.length : Int) := by omega
    go_upto_region 5 with (fail)
    have HBW : ∀ w', Gn w2 no w' → Below w.heap.size w w' := fun w' hg => (HB0.out.trans (HB2.out.mono (by omega))).trans ((hg.below (B := w.heap.size) (by omega) (fun _ _ h => h)))
    have CA : ∀ w', Gn w2 no w' → Calls Tryz.prog 52 #[.string (str p.2)] w' fun e w3 => e = .returned (.agg #[.int .i64 4, .string (str p.2), .slice none 0 0, .slice none 0 0]) ∧ Gn w2 no w3 := fun w' hg =>
      (text_put p.2 w').mono (fun e w3 h => ⟨h.1, hg.call h.2⟩)
    have CT : ∀ w', Gn w2 no w' → Calls Tryz.prog 52 #[.string (str p.1)] w' fun e w3 => e = .returned (.agg #[.int .i64 4, .string (str p.1), .slice none 0 0, .slice none 0 0]) ∧ Gn w2 no w3 := fun w' hg =>
      (text_put p.1 w').mono (fun e w3 h => ⟨h.1, hg.call h.2⟩)
    have CK : ∀ w', Gn w2 no w' → Calls Tryz.prog 52 #[.string ⟨#[108, 97, 121, 101, 114, 115]⟩] w' fun e w3 => e = .returned (.agg #[.int .i64 4, .string ⟨#[108, 97, 121, 101, 114, 115]⟩, .slice none 0 0, .slice none 0 0]) ∧ Gn w2 no w3 := fun w' hg =>
      (text_put kLay w').mono (fun e w3 h => ⟨h.1, hg.call h.2⟩)
    have CL : ∀ w', Gn w2 no w' → Calls Tryz.prog 61 #[.slice x l.length cc, .func (.func 62) #[] #[]] w' fun e w3 => ∃ y m z n, e = .returned (.agg #[.int .i64 5, .string ⟨#[]⟩, .slice y l.length m, .slice z 0 n]) ∧ HoldsC w3 (fun q => w.heap.size ≤ q ∧ q < w3.heap.size) (lstJ (l.map digJ)) (.int .i64 5) (.string ⟨#[]⟩) (.slice y l.length m) (.slice z 0 n) ∧ Gn w2 no w3 := fun w' hg => by
      have hb := HBW w' hg
      refine (lsput_dig l x cc w' (HE.out.below hb) (by omega) (eDigs.mono (eDigs.chg HL.out (Chg.of_below (s := no) hb) (fun _ _ h => h)) (fun k hk _ => Nat.lt_of_lt_of_le hk hb.size))).mono ?_
      rintro e w3 ⟨y, m, z, n, rfl, hV, hb3⟩
      have e1 : (lstJ (l.map digJ)).items.length = l.length := by unfold lstJ; simp [JV.items]
      rw [e1] at hV ⊢
      exact ⟨y, m, z, n, rfl, HoldsC.mono (fun k hk hlt => ⟨Nat.le_trans hb.size hk.1, hlt⟩) _ _ _ _ _ hV, hg.call hb3⟩
    have CO : ∀ w' b y m z n, Gn w2 no w' → rowC w' b (rooC y l.length m z n) 102 → b < w'.heap.size → HoldsC w' (fun q => w.heap.size ≤ q ∧ q < w'.heap.size) (lstJ (l.map digJ)) (.int .i64 5) (.string ⟨#[]⟩) (.slice y l.length m) (.slice z 0 n) → Calls Tryz.prog 50 #[.slice (some ⟨b, 0, none⟩) 2 2] w' fun e w3 => ∃ y m z n, e = .returned (.agg #[.int .i64 6, .string ⟨#[]⟩, .slice y 2 m, .slice z 2 n]) ∧ HoldsC w3 (fun q => w.heap.size ≤ q ∧ q < w3.heap.size) (rooJ l) (.int .i64 6) (.string ⟨#[]⟩) (.slice y 2 m) (.slice z 2 n) ∧ Gn w2 no w3 := fun w' b y m z n hg h1 h2 h3 => by
      have hb := HBW w' hg
      refine (object_put [(kTyp, txtJ kLay), (kDif, lstJ (l.map digJ))] w.heap.size _ 2 w' hb.size (by show 2 ≤ 1000; omega) (fldr2 (k1 := kTyp) (k2 := kDif) h1 h2 (leaf_holds _ _ 4 kLay (by decide)) h3)).mono ?_
      rintro e w3 ⟨y, m, z, n, rfl, hV, hb3⟩
      exact ⟨y, m, z, n, rfl, hV, hg.call hb3⟩
    have CQ : ∀ w' b y m z n, Gn w2 no w' → rowC w' b (imgC p y m z n) 102 → b < w'.heap.size → HoldsC w' (fun q => w.heap.size ≤ q ∧ q < w'.heap.size) (rooJ l) (.int .i64 6) (.string ⟨#[]⟩) (.slice y 2 m) (.slice z 2 n) → Calls Tryz.prog 50 #[.slice (some ⟨b, 0, none⟩) 3 3] w' fun e w3 => ∃ y m z n, e = .returned (.agg #[.int .i64 6, .string ⟨#[]⟩, .slice y 3 m, .slice z 3 n]) ∧ HoldsC w3 (fun q => q < w3.heap.size) (imgJ p l) (.int .i64 6) (.string ⟨#[]⟩) (.slice y 3 m) (.slice z 3 n) ∧ Gn w2 no w3 := fun w' b y m z n hg h1 h2 h3 => by
      have hb := HBW w' hg
      refine (object_put [(kArc, txtJ p.2), (kOS, txtJ p.1), (kRoo, rooJ l)] w.heap.size _ 3 w' hb.size (by show 3 ≤ 1000; omega) (fldr3 (k1 := kArc) (k2 := kOS) (k3 := kRoo) h1 h2 (leaf_holds _ _ 4 p.2 HP2.out) (leaf_holds _ _ 4 p.1 HP1.out) h3)).mono ?_
      rintro e w3 ⟨y, m, z, n, rfl, hV, hb3⟩
      exact ⟨y, m, z, n, rfl, HoldsC.mono (fun k hk hlt => hlt) _ _ _ _ _ hV, hg.call hb3⟩
    have CP : ∀ w' y m z n, Gn w2 no w' → HoldsC w' (fun q => q < w'.heap.size) (imgJ p l) (.int .i64 6) (.string ⟨#[]⟩) (.slice y 3 m) (.slice z 3 n) → Calls Tryz.prog 29 #[.agg #[.int .i64 6, .string ⟨#[]⟩, .slice y 3 m, .slice z 3 n]] w' fun e w3 => e = .returned (.tuple #[.string (str R.1), .int .i64 (R.2 : Int)]) ∧ Gn w2 no w3 := fun w' y m z n hg hV => by
      rw [e0.out]
      refine (print_any (okJ_img (by omega)) (HE.out.below (HBW w' hg)).env hV).mono ?_
      rintro e w3 ⟨rfl, hb3⟩
      exact ⟨rfl, hg.call hb3⟩
    have OS : ∀ w', Gn w2 no w' → w'.cell? ⟨w.heap.size, 0, none⟩ = some (.string (str p.1)) ∧ w'.cell? ⟨w.heap.size, 1, none⟩ = some (.string (str p.2)) ∧ w'.cell? ⟨w.heap.size, 2, none⟩ = some (.slice x l.length cc) := fun w' h => by
      have r := h.row HR2.out id
      exact ⟨rowC_cell r 0, rowC_cell r 1, rowC_cell r 2⟩
    have HBB := Lib.hid HBW
    clear HBW q2
    have SO : ∀ w', Gn w2 no w' → Gn w2 no w' := fun _ h => h
    refine wp_region_noPanic ?_
    refine wp_region_held_drew (S := Gn w2 no) (by kernel_rfl) (Gn.start _ _) (fun hHeld => ?_)
    generalize w2.drew = wd at *
    refine wpAnyH_take (i := 0) (oi := { dst := some 12, op := Op.fieldAddr 39 (Operand.tmp 1) 0, type := 0, pos := "oci.go:181", after := #[], guard := none }) (v := ?_) rfl (by kernel_rfl) (by kernel_rfl) (by kernel_rfl) (fun _ _ _ h => h) (Or.inl ⟨by rfl, ?_⟩) (by assumption) ?_
    rotate_left
    · intro w hSw
      skip
      clear hSw
      go_simp
      try with_reducible rfl
    try simp only [Act.put, List.setIfInBounds_toArray, List.set_cons_zero, List.set_cons_succ]
    refine wpAnyH_take (i := 1) (oi := { dst := some 13, op := Op.fieldAddr 26 (Operand.tmp 12) 1, type := 0, pos := "oci.go:181", after := #[{ on := 0, ground := Ground.data }], guard := none }) (v := ?_) rfl (by kernel_rfl) (by kernel_rfl) (by kernel_rfl) (fun _ _ _ h => h) (Or.inl ⟨by rfl, ?_⟩) (by assumption) ?_
    rotate_left
    · intro w hSw
      skip
      clear hSw
      go_simp
      try with_reducible rfl
    try simp only [Act.put, List.setIfInBounds_toArray, List.set_cons_zero, List.set_cons_succ]
    refine wpAnyH_take (i := 5) (oi := { dst := some 17, op := Op.fieldAddr 39 (Operand.tmp 1) 0, type := 0, pos := "oci.go:181", after := #[], guard := none }) (v := ?_) rfl (by kernel_rfl) (by kernel_rfl) (by kernel_rfl) (fun _ _ _ h => h) (Or.inl ⟨by rfl, ?_⟩) (by assumption) ?_
    rotate_left
    · intro w hSw
      skip
      clear hSw
      go_simp
      try with_reducible rfl
    try simp only [Act.put, List.setIfInBounds_toArray, List.set_cons_zero, List.set_cons_succ]
    refine wpAnyH_take (i := 6) (oi := { dst := some 18, op := Op.fieldAddr 26 (Operand.tmp 17) 0, type := 0, pos := "oci.go:181", after := #[{ on := 5, ground := Ground.data }], guard := none }) (v := ?_) rfl (by kernel_rfl) (by kernel_rfl) (by kernel_rfl) (fun _ _ _ h => h) (Or.inl ⟨by rfl, ?_⟩) (by assumption) ?_
    rotate_left
    · intro w hSw
      skip
      clear hSw
      go_simp
      try with_reducible rfl
    try simp only [Act.put, List.setIfInBounds_toArray, List.set_cons_zero, List.set_cons_succ]
    refine wpAnyH_take (i := 12) (oi := { dst := some 24, op := Op.fieldAddr 39 (Operand.tmp 1) 1, type := 0, pos := "oci.go:181", after := #[], guard := none }) (v := ?_) rfl (by kernel_rfl) (by kernel_rfl) (by kernel_rfl) (fun _ _ _ h => h) (Or.inl ⟨by rfl, ?_⟩) (by assumption) ?_
    rotate_left
    · intro w hSw
      skip
      clear hSw
      go_simp
      try with_reducible rfl
    try simp only [Act.put, List.setIfInBounds_toArray, List.set_cons_zero, List.set_cons_succ]
    refine wpAnyH_take (i := 2) (oi := { dst := some 14, op := Op.load 9 (Operand.tmp 13), type := 9, pos := "oci.go:181", after := #[{ on := 1, ground := Ground.data }], guard := none }) (v := ?_) rfl (by kernel_rfl) (by kernel_rfl) (by kernel_rfl) (fun _ _ _ h => h) (Or.inl ⟨by rfl, ?_⟩) (by assumption) ?_
    rotate_left
    · intro w hSw
      have hSw := OS _ hSw
      go_simp
      try with_reducible rfl
    try simp only [Act.put, List.setIfInBounds_toArray, List.set_cons_zero, List.set_cons_succ]
    refine wpAnyH_take (i := 7) (oi := { dst := some 19, op := Op.load 9 (Operand.tmp 18), type := 9, pos := "oci.go:181", after := #[{ on := 6, ground := Ground.data }], guard := none }) (v := ?_) rfl (by kernel_rfl) (by kernel_rfl) (by kernel_rfl) (fun _ _ _ h => h) (Or.inl ⟨by rfl, ?_⟩) (by assumption) ?_
    rotate_left
    · intro w hSw
      have hSw := OS _ hSw
      go_simp
      try with_reducible rfl
    try simp only [Act.put, List.setIfInBounds_toArray, List.set_cons_zero, List.set_cons_succ]
    refine wpAnyH_take (i := 13) (oi := { dst := some 25, op := Op.load 37 (Operand.tmp 24), type := 37, pos := "oci.go:181", after := #[{ on := 12, ground := Ground.data }], guard := none }) (v := ?_) rfl (by kernel_rfl) (by kernel_rfl) (by kernel_rfl) (fun _ _ _ h => h) (Or.inl ⟨by rfl, ?_⟩) (by assumption) ?_
    rotate_left
    · intro w hSw
      have hSw := OS _ hSw
      go_simp
      try with_reducible rfl
    try simp only [Act.put, List.setIfInBounds_toArray, List.set_cons_zero, List.set_cons_succ]
    refine wpAnyH_ready (rs := [3]) (by kernel_rfl) (by simp) ?_
    refine (AllReadyH.cons (o := { dst := some 15, op := Op.call { callee := Callee.value (Operand.func 52), args := #[Operand.tmp 14], argTypes := #[9] }, type := 63, pos := "oci.go:182", after := #[{ on := 2, ground := Ground.data }], guard := none }) rfl (fun K hK => ?_) AllReadyH.nil)
    go_simp
    with_reducible refine (CA _ hHeld).mono ?_
    rintro e w3' ⟨rfl, m3'⟩
    refine hK.out _ _ (SO _ (by assumption)) (fun hHeld => ?_)
    clear hK K
    try simp only [Act.put, List.setIfInBounds_toArray, List.set_cons_zero, List.set_cons_succ]
    refine wpAnyH_take (i := 4) (oi := { dst := some 16, op := Op.build 102 #[(0, Operand.const (Value.string { data := #[97, 114, 99, 104, 105, 116, 101, 99, 116, 117, 114, 101] })), (1, Operand.tmp 15)], type := 102, pos := "oci.go:181", after := #[{ on := 3, ground := Ground.data }], guard := none }) (v := ?_) rfl (by kernel_rfl) (by kernel_rfl) (by kernel_rfl) (fun _ _ _ h => h) (Or.inl ⟨by rfl, ?_⟩) (by assumption) ?_
    rotate_left
    · intro w hSw
      skip
      clear hSw
      go_simp
      try with_reducible rfl
    try simp only [Act.put, List.setIfInBounds_toArray, List.set_cons_zero, List.set_cons_succ]
    refine wpAnyH_ready (rs := [8]) (by kernel_rfl) (by simp) ?_
    refine (AllReadyH.cons (o := { dst := some 20, op := Op.call { callee := Callee.value (Operand.func 52), args := #[Operand.tmp 19], argTypes := #[9] }, type := 63, pos := "oci.go:183", after := #[{ on := 7, ground := Ground.data }, { on := 3, ground := Ground.chain }], guard := none }) rfl (fun K hK => ?_) AllReadyH.nil)
    go_simp
    with_reducible refine (CT _ hHeld).mono ?_
    rintro e w8' ⟨rfl, m8'⟩
    refine hK.out _ _ (SO _ (by assumption)) (fun hHeld => ?_)
    clear hK K
    try simp only [Act.put, List.setIfInBounds_toArray, List.set_cons_zero, List.set_cons_succ]
    refine wpAnyH_take (i := 9) (oi := { dst := some 21, op := Op.build 102 #[(0, Operand.const (Value.string { data := #[111, 115] })), (1, Operand.tmp 20)], type := 102, pos := "oci.go:181", after := #[{ on := 8, ground := Ground.data }], guard := none }) (v := ?_) rfl (by kernel_rfl) (by kernel_rfl) (by kernel_rfl) (fun _ _ _ h => h) (Or.inl ⟨by rfl, ?_⟩) (by assumption) ?_
    rotate_left
    · intro w hSw
      skip
      clear hSw
      go_simp
      try with_reducible rfl
    try simp only [Act.put, List.setIfInBounds_toArray, List.set_cons_zero, List.set_cons_succ]
    refine wpAnyH_ready (rs := [10]) (by kernel_rfl) (by simp) ?_
    refine (AllReadyH.cons (o := { dst := some 22, op := Op.call { callee := Callee.value (Operand.func 52), args := #[Operand.const (Value.string { data := #[108, 97, 121, 101, 114, 115] })], argTypes := #[9] }, type := 63, pos := "oci.go:185", after := #[{ on := 8, ground := Ground.chain }], guard := none }) rfl (fun K hK => ?_) AllReadyH.nil)
    go_simp
    with_reducible refine (CK _ hHeld).mono ?_
    rintro e w10' ⟨rfl, m10'⟩
    refine hK.out _ _ (SO _ (by assumption)) (fun hHeld => ?_)
    clear hK K
    try simp only [Act.put, List.setIfInBounds_toArray, List.set_cons_zero, List.set_cons_succ]
    refine wpAnyH_take (i := 11) (oi := { dst := some 23, op := Op.build 102 #[(0, Operand.const (Value.string { data := #[116, 121, 112, 101] })), (1, Operand.tmp 22)], type := 102, pos := "oci.go:181", after := #[{ on := 10, ground := Ground.data }], guard := none }) (v := ?_) rfl (by kernel_rfl) (by kernel_rfl) (by kernel_rfl) (fun _ _ _ h => h) (Or.inl ⟨by rfl, ?_⟩) (by assumption) ?_
    rotate_left
    · intro w hSw
      skip
      clear hSw
      go_simp
      try with_reducible rfl
    try simp only [Act.put, List.setIfInBounds_toArray, List.set_cons_zero, List.set_cons_succ]
    refine wpAnyH_ready (rs := [14]) (by kernel_rfl) (by simp) ?_
    refine (AllReadyH.cons (o := { dst := some 26, op := Op.call { callee := Callee.value (Operand.func 61), args := #[Operand.tmp 25, Operand.func 62], argTypes := #[37, 112] }, type := 63, pos := "oci.go:186", after := #[{ on := 13, ground := Ground.data }, { on := 10, ground := Ground.chain }], guard := none }) rfl (fun K hK => ?_) AllReadyH.nil)
    go_simp
    with_reducible refine (CL _ hHeld).mono ?_
    rintro e w14' ⟨y, m, z, n, rfl, h14, m14'⟩
    have H14 := Lib.hid h14; clear h14
    refine hK.out _ _ (SO _ (by assumption)) (fun hHeld => ?_)
    clear hK K
    try simp only [Act.put, List.setIfInBounds_toArray, List.set_cons_zero, List.set_cons_succ]
    refine wpAnyH_take (i := 15) (oi := { dst := some 27, op := Op.build 102 #[(0, Operand.const (Value.string { data := #[100, 105, 102, 102, 95, 105, 100, 115] })), (1, Operand.tmp 26)], type := 102, pos := "oci.go:181", after := #[{ on := 14, ground := Ground.data }], guard := none }) (v := ?_) rfl (by kernel_rfl) (by kernel_rfl) (by kernel_rfl) (fun _ _ _ h => h) (Or.inl ⟨by rfl, ?_⟩) (by assumption) ?_
    rotate_left
    · intro w hSw
      skip
      clear hSw
      go_simp
      try with_reducible rfl
    try simp only [Act.put, List.setIfInBounds_toArray, List.set_cons_zero, List.set_cons_succ]
    refine wpAnyH_ready (rs := [16]) (by kernel_rfl) (by simp) ?_
    refine (AllReadyH.cons (o := { dst := some 28, op := Op.buildSlice 158 2 #[(0, Operand.tmp 23), (1, Operand.tmp 27)], type := 158, pos := "oci.go:181", after := #[{ on := 11, ground := Ground.data }, { on := 15, ground := Ground.data }], guard := none }) rfl (fun K hK => ?_) AllReadyH.nil)
    skip
    go_simp
    refine hK.out _ _ (SO _ (by exact Gn.alloc hHeld _)) (fun hHeld => ?_)
    clear hK K
    try simp only [Act.put, List.setIfInBounds_toArray, List.set_cons_zero, List.set_cons_succ]
    refine wpAnyH_ready (rs := [17]) (by kernel_rfl) (by simp) ?_
    refine (AllReadyH.cons (o := { dst := some 29, op := Op.call { callee := Callee.value (Operand.func 50), args := #[Operand.tmp 28], argTypes := #[158] }, type := 63, pos := "oci.go:184", after := #[{ on := 16, ground := Ground.data }, { on := 14, ground := Ground.chain }], guard := none }) rfl (fun K hK => ?_) AllReadyH.nil)
    go_simp
    with_reducible refine (CO _ _ _ _ _ _ hHeld (rowC_new _ _ _) (by rw [size_alloc]; omega) (HoldsC.mono (fun k hk _ => ⟨hk.1, by rw [size_alloc]; have := hk.2; omega⟩) _ _ _ _ _ (HoldsC.chg ((Chg.refl (fun _ => False) _).alloc _) (fun _ _ h => h) _ _ _ _ _ H14.out))).mono ?_
    rintro e w17' ⟨y7, m7, z7, n7, rfl, h17, m17'⟩
    have H17 := Lib.hid h17; clear h17
    refine hK.out _ _ (SO _ (by assumption)) (fun hHeld => ?_)
    clear hK K
    try simp only [Act.put, List.setIfInBounds_toArray, List.set_cons_zero, List.set_cons_succ]
    refine wpAnyH_take (i := 18) (oi := { dst := some 30, op := Op.build 102 #[(0, Operand.const (Value.string { data := #[114, 111, 111, 116, 102, 115] })), (1, Operand.tmp 29)], type := 102, pos := "oci.go:181", after := #[{ on := 17, ground := Ground.data }], guard := none }) (v := ?_) rfl (by kernel_rfl) (by kernel_rfl) (by kernel_rfl) (fun _ _ _ h => h) (Or.inl ⟨by rfl, ?_⟩) (by assumption) ?_
    rotate_left
    · intro w hSw
      skip
      clear hSw
      go_simp
      try with_reducible rfl
    try simp only [Act.put, List.setIfInBounds_toArray, List.set_cons_zero, List.set_cons_succ]
    refine wpAnyH_ready (rs := [19]) (by kernel_rfl) (by simp) ?_
    refine (AllReadyH.cons (o := { dst := some 31, op := Op.buildSlice 158 3 #[(0, Operand.tmp 16), (1, Operand.tmp 21), (2, Operand.tmp 30)], type := 158, pos := "oci.go:181", after := #[{ on := 4, ground := Ground.data }, { on := 9, ground := Ground.data }, { on := 18, ground := Ground.data }], guard := none }) rfl (fun K hK => ?_) AllReadyH.nil)
    skip
    go_simp
    refine hK.out _ _ (SO _ (by exact Gn.alloc hHeld _)) (fun hHeld => ?_)
    clear hK K
    try simp only [Act.put, List.setIfInBounds_toArray, List.set_cons_zero, List.set_cons_succ]
    refine wpAnyH_ready (rs := [20]) (by kernel_rfl) (by simp) ?_
    refine (AllReadyH.cons (o := { dst := some 32, op := Op.call { callee := Callee.value (Operand.func 50), args := #[Operand.tmp 31], argTypes := #[158] }, type := 63, pos := "oci.go:181", after := #[{ on := 19, ground := Ground.data }, { on := 17, ground := Ground.chain }], guard := none }) rfl (fun K hK => ?_) AllReadyH.nil)
    go_simp
    with_reducible refine (CQ _ _ _ _ _ _ hHeld (rowC_new _ _ _) (by rw [size_alloc]; omega) (HoldsC.mono (fun k hk _ => ⟨hk.1, by rw [size_alloc]; have := hk.2; omega⟩) _ _ _ _ _ (HoldsC.chg ((Chg.refl (fun _ => False) _).alloc _) (fun _ _ h => h) _ _ _ _ _ H17.out))).mono ?_
    rintro e w20' ⟨y8, m8, z8, n8, rfl, h20, m20'⟩
    have H20 := Lib.hid h20; clear h20
    refine hK.out _ _ (SO _ (by assumption)) (fun hHeld => ?_)
    clear hK K
    try simp only [Act.put, List.setIfInBounds_toArray, List.set_cons_zero, List.set_cons_succ]
    refine wpAnyH_ready (rs := [21]) (by kernel_rfl) (by simp) ?_
    refine (AllReadyH.cons (o := { dst := some 33, op := Op.call { callee := Callee.value (Operand.func 29), args := #[Operand.tmp 32], argTypes := #[63] }, type := 50, pos := "oci.go:181", after := #[{ on := 20, ground := Ground.data }, { on := 20, ground := Ground.chain }], guard := none }) rfl (fun K hK => ?_) AllReadyH.nil)
    go_simp
    with_reducible refine (CP _ _ _ _ _ hHeld H20.out).mono ?_
    rintro e w21' ⟨rfl, m21'⟩
    refine hK.out _ _ (SO _ (by assumption)) (fun hHeld => ?_)
    clear hK K
    try simp only [Act.put, List.setIfInBounds_toArray, List.set_cons_zero, List.set_cons_succ]
    refine wpAnyH_take (i := 22) (oi := { dst := some 34, op := Op.extract (Operand.tmp 33) 0, type := 9, pos := "oci.go:181", after := #[{ on := 21, ground := Ground.data }], guard := none }) (v := ?_) rfl (by kernel_rfl) (by kernel_rfl) (by kernel_rfl) (fun _ _ _ h => h) (Or.inl ⟨by rfl, ?_⟩) (by assumption) ?_
    rotate_left
    · intro w hSw
      skip
      clear hSw
      go_simp
      try with_reducible rfl
    try simp only [Act.put, List.setIfInBounds_toArray, List.set_cons_zero, List.set_cons_succ]
    refine wpAnyH_take (i := 23) (oi := { dst := some 35, op := Op.extract (Operand.tmp 33) 1, type := 32, pos := "oci.go:181", after := #[{ on := 21, ground := Ground.data }], guard := none }) (v := ?_) rfl (by kernel_rfl) (by kernel_rfl) (by kernel_rfl) (fun _ _ _ h => h) (Or.inl ⟨by rfl, ?_⟩) (by assumption) ?_
    rotate_left
    · intro w hSw
      skip
      clear hSw
      go_simp
      try with_reducible rfl
    try simp only [Act.put, List.setIfInBounds_toArray, List.set_cons_zero, List.set_cons_succ]
    refine wpAnyH_take (i := 24) (oi := { dst := some 2, op := Op.assign (Operand.tmp 34), type := 9, pos := "oci.go:181", after := #[{ on := 22, ground := Ground.data }, { on := 21, ground := Ground.chain }, { on := 0, ground := Ground.phase }, { on := 1, ground := Ground.phase }, { on := 2, ground := Ground.phase }, { on := 3, ground := Ground.phase }, { on := 4, ground := Ground.phase }, { on := 5, ground := Ground.phase }, { on := 6, ground := Ground.phase }, { on := 7, ground := Ground.phase }, { on := 8, ground := Ground.phase }, { on := 9, ground := Ground.phase }, { on := 10, ground := Ground.phase }, { on := 11, ground := Ground.phase }, { on := 12, ground := Ground.phase }, { on := 13, ground := Ground.phase }, { on := 14, ground := Ground.phase }, { on := 15, ground := Ground.phase }, { on := 16, ground := Ground.phase }, { on := 17, ground := Ground.phase }, { on := 18, ground := Ground.phase }, { on := 19, ground := Ground.phase }, { on := 20, ground := Ground.phase }, { on := 21, ground := Ground.phase }, { on := 22, ground := Ground.phase }, { on := 23, ground := Ground.phase }], guard := none }) (v := ?_) rfl (by kernel_rfl) (by kernel_rfl) (by kernel_rfl) (fun _ _ _ h => h) (Or.inl ⟨by rfl, ?_⟩) (by assumption) ?_
    rotate_left
    · intro w hSw
      skip
      clear hSw
      go_simp
      try with_reducible rfl
    try simp only [Act.put, List.setIfInBounds_toArray, List.set_cons_zero, List.set_cons_succ]
    refine wpAnyH_take (i := 25) (oi := { dst := some 3, op := Op.assign (Operand.tmp 35), type := 32, pos := "oci.go:181", after := #[{ on := 23, ground := Ground.data }, { on := 24, ground := Ground.chain }, { on := 0, ground := Ground.phase }, { on := 1, ground := Ground.phase }, { on := 2, ground := Ground.phase }, { on := 3, ground := Ground.phase }, { on := 4, ground := Ground.phase }, { on := 5, ground := Ground.phase }, { on := 6, ground := Ground.phase }, { on := 7, ground := Ground.phase }, { on := 8, ground := Ground.phase }, { on := 9, ground := Ground.phase }, { on := 10, ground := Ground.phase }, { on := 11, ground := Ground.phase }, { on := 12, ground := Ground.phase }, { on := 13, ground := Ground.phase }, { on := 14, ground := Ground.phase }, { on := 15, ground := Ground.phase }, { on := 16, ground := Ground.phase }, { on := 17, ground := Ground.phase }, { on := 18, ground := Ground.phase }, { on := 19, ground := Ground.phase }, { on := 20, ground := Ground.phase }, { on := 21, ground := Ground.phase }, { on := 22, ground := Ground.phase }, { on := 23, ground := Ground.phase }, { on := 24, ground := Ground.phase }], guard := none }) (v := ?_) rfl (by kernel_rfl) (by kernel_rfl) (by kernel_rfl) (fun _ _ _ h => h) (Or.inl ⟨by rfl, ?_⟩) (by assumption) ?_
    rotate_left
    · intro w hSw
      skip
      clear hSw
      go_simp
      try with_reducible rfl
    try simp only [Act.put, List.setIfInBounds_toArray, List.set_cons_zero, List.set_cons_succ]
    refine wpAnyH_done (by kernel_rfl) ?_ _
    refine NoPanic.normal ?_
    go_wp2
    go_ret2
    exact ⟨rfl, HBB.out _ hHeld⟩
end Go.Proofs.YtlknngplnimdpaaGreatDoor

/- Layer 13: PutManifest. -/
namespace Go.Proofs.YtlknngplnimdpaaGreatDoor
open Go.RowKit

theorem fldr4 {w : World} {g B : Nat} {k1 k2 k3 k4 : Bs} {v1 v2 v3 v4 : JV} {a1 b1 c1 d1 a2 b2 c2 d2 a3 b3 c3 d3 a4 b4 c4 d4 : Value} (h : rowC w g #[.string (str k1), a1, b1, c1, d1, .string (str k2), a2, b2, c2, d2, .string (str k3), a3, b3, c3, d3, .string (str k4), a4, b4, c4, d4] 102) (hg : g < w.heap.size)
    (h1 : HoldsC w (fun q => B ≤ q ∧ q < w.heap.size) v1 a1 b1 c1 d1) (h2 : HoldsC w (fun q => B ≤ q ∧ q < w.heap.size) v2 a2 b2 c2 d2) (h3 : HoldsC w (fun q => B ≤ q ∧ q < w.heap.size) v3 a3 b3 c3 d3) (h4 : HoldsC w (fun q => B ≤ q ∧ q < w.heap.size) v4 a4 b4 c4 d4) : FldR w B [(k1, v1), (k2, v2), (k3, v3), (k4, v4)] (some ⟨g, 0, none⟩) := by
  intro i k v hi
  rcases i with _ | _ | _ | _ | i
  · simp only [List.getElem?_cons_zero, Option.some.injEq, Prod.mk.injEq] at hi
    obtain ⟨rfl, rfl⟩ := hi
    refine ⟨⟨g, 0, none⟩, _, _, _, _, rfl, hg, ?_, h1⟩
    intro j u hu
    rcases j with _ | _ | _ | _ | _ | j
    · exact (rowC_cell h 0).trans hu
    · exact (rowC_cell h 1).trans hu
    · exact (rowC_cell h 2).trans hu
    · exact (rowC_cell h 3).trans hu
    · exact (rowC_cell h 4).trans hu
    · simp at hu
  · simp only [List.getElem?_cons_succ, List.getElem?_cons_zero, Option.some.injEq, Prod.mk.injEq] at hi
    obtain ⟨rfl, rfl⟩ := hi
    refine ⟨⟨g, 0, none⟩, _, _, _, _, rfl, hg, ?_, h2⟩
    intro j u hu
    rcases j with _ | _ | _ | _ | _ | j
    · exact (rowC_cell h 5).trans hu
    · exact (rowC_cell h 6).trans hu
    · exact (rowC_cell h 7).trans hu
    · exact (rowC_cell h 8).trans hu
    · exact (rowC_cell h 9).trans hu
    · simp at hu
  · simp only [List.getElem?_cons_succ, List.getElem?_cons_zero, Option.some.injEq, Prod.mk.injEq] at hi
    obtain ⟨rfl, rfl⟩ := hi
    refine ⟨⟨g, 0, none⟩, _, _, _, _, rfl, hg, ?_, h3⟩
    intro j u hu
    rcases j with _ | _ | _ | _ | _ | j
    · exact (rowC_cell h 10).trans hu
    · exact (rowC_cell h 11).trans hu
    · exact (rowC_cell h 12).trans hu
    · exact (rowC_cell h 13).trans hu
    · exact (rowC_cell h 14).trans hu
    · simp at hu
  · simp only [List.getElem?_cons_succ, List.getElem?_cons_zero, Option.some.injEq, Prod.mk.injEq] at hi
    obtain ⟨rfl, rfl⟩ := hi
    refine ⟨⟨g, 0, none⟩, _, _, _, _, rfl, hg, ?_, h4⟩
    intro j u hu
    rcases j with _ | _ | _ | _ | _ | j
    · exact (rowC_cell h 15).trans hu
    · exact (rowC_cell h 16).trans hu
    · exact (rowC_cell h 17).trans hu
    · exact (rowC_cell h 18).trans hu
    · exact (rowC_cell h 19).trans hu
    · simp at hu
  · simp at hi
theorem okJ_man {c : DV} {l : List DV} (hl : l.length ≤ 8) (hc : putD c) (hp : ∀ d ∈ l, putD d) : okJ (manJ c l) := okJ_obj (by show 4 ≤ 65536; omega) fun q hq => by
  simp only [List.mem_cons, List.not_mem_nil, or_false] at hq
  rcases hq with rfl | rfl | rfl | rfl
  · exact ⟨Nat.le_of_ble_eq_true rfl, okJ_num (by omega) (by omega)⟩
  · exact ⟨Nat.le_of_ble_eq_true rfl, okJ_txt _⟩
  · exact ⟨Nat.le_of_ble_eq_true rfl, okJ_bare hc⟩
  · refine ⟨Nat.le_of_ble_eq_true rfl, okJ_lst (by rw [List.length_map]; omega) fun v hv => ?_⟩
    obtain ⟨d, hd, rfl⟩ := List.mem_map.1 hv
    exact okJ_bare (hp d hd)
theorem one_des {w : World} {g : Nat} {c : DV} (hc : goodD c) (h : rowC w g (encD c) 28) (hg : g < w.heap.size) : eDess.at_ w (fun k => k < w.heap.size) [c] (.slice (some ⟨g, 0, none⟩) [c].length 1) := by
  refine .inr ⟨⟨g, 0, none⟩, 1, rfl, fun i d hi => ?_⟩
  rcases i with _ | i
  · simp only [List.getElem?_cons_zero, Option.some.injEq] at hi
    subst hi
    refine ⟨hg, hc, fun j u hj => ?_⟩
    have hh := (rowC_cell h j).trans ((Array.getElem?_toList ..).symm.trans hj)
    rw [show 36 * 0 + j = j by omega]
    by_cases hj0 : j = 0
    · subst hj0
      simpa [Addr.add] using hh
    · simpa [Addr.add, hj0] using hh
  · simp at hi
theorem encM_range {w : World} {b : Nat} {c : DV} {t : Value} (hc : goodD c) (h : rowC w b (encM c t) 31) : w.rangeAt b 0 (encL c) ∧ w.cell? ⟨b, 36, none⟩ = some t := by
  refine ⟨rowC_range h 0 _ (fun j v hv => ?_), (rowC_cell h 36).trans (encM_36 hc t)⟩
  unfold encM
  rw [Nat.zero_add, List.getElem?_toArray, List.getElem?_append_left (List.getElem?_eq_some_iff.1 hv).1]
  exact hv
@[reducible] def manC (y6 : Option Addr) (a6 : Nat) (z6 : Option Addr) (b6 : Nat) (y : Option Addr) (N m : Nat) (z : Option Addr) (n : Nat) : Array Value := #[.string ⟨#[115, 99, 104, 101, 109, 97, 86, 101, 114, 115, 105, 111, 110]⟩, .int .i64 3, .string (str (Lib.itoa 2)), .slice none 0 0, .slice none 0 0, .string ⟨#[109, 101, 100, 105, 97, 84, 121, 112, 101]⟩, .int .i64 4, .string ⟨#[97, 112, 112, 108, 105, 99, 97, 116, 105, 111, 110, 47, 118, 110, 100, 46, 111, 99, 105, 46, 105, 109, 97, 103, 101, 46, 109, 97, 110, 105, 102, 101, 115, 116, 46, 118, 49, 43, 106, 115, 111, 110]⟩, .slice none 0 0, .slice none 0 0, .string ⟨#[99, 111, 110, 102, 105, 103]⟩, .int .i64 6, .string ⟨#[]⟩, .slice y6 3 a6, .slice z6 3 b6, .string ⟨#[108, 97, 121, 101, 114, 115]⟩, .int .i64 5, .string ⟨#[]⟩, .slice y N m, .slice z 0 n]
set_option maxRecDepth 100000 in
set_option maxHeartbeats 16000000 in
theorem putManifest_any (c : DV) (l : List DV) (x : Option Addr) (cc : Nat) (w : World) (hE : Env2 w) (hl : l.length ≤ 70368744177664) (hc : putD c) (hp : ∀ d ∈ l, putD d) (hL : eDess.at_ w (fun k => k < w.heap.size) l (.slice x l.length cc)) :
    Calls Tryz.prog 18 #[.agg (encM c (.slice x l.length cc))] w fun e w' => e = .returned (.tuple #[.string (str (manA c l).1), .int .i64 ((manA c l).2 : Int)]) ∧ Below w.heap.size w w' := by
  obtain ⟨R, hR⟩ : ∃ R, R = manA c l := ⟨_, rfl⟩
  rw [← hR]
  have HR := Lib.hid hR
  obtain ⟨W0, hW0⟩ : ∃ W0, W0 = w.alloc (.cells (encM c (.slice x l.length cc)) 31) := ⟨_, rfl⟩
  have R0 : rowC W0 w.heap.size (encM c (.slice x l.length cc)) 31 := by rw [hW0]; exact rowC_new w _ _
  have B0 : Below w.heap.size w W0 := by rw [hW0]; exact (Below.refl _ _).alloc (Nat.le_refl _) _
  have S0 : W0.heap.size = w.heap.size + 1 := by rw [hW0, size_alloc]
  obtain ⟨W1, hW1⟩ : ∃ W1, W1 = W0.alloc (.cells (encD c) 28) := ⟨_, rfl⟩
  have B1 : Below w.heap.size w W1 := by rw [hW1]; exact B0.alloc (by omega) _
  have S1 : W1.heap.size = w.heap.size + 2 := by rw [hW1, size_alloc, S0]
  have RD : rowC W1 W0.heap.size (encD c) 28 := by rw [hW1]; exact rowC_new _ _ _
  have RM : rowC W1 w.heap.size (encM c (.slice x l.length cc)) 31 := by rw [hW1]; exact rowC_alloc R0 _
  have CM : Calls Tryz.prog 49 #[.slice (some ⟨W0.heap.size, 0, none⟩) 1 1] W1 fun e w' => e = .returned (.bool ([c].all mayD)) ∧ Below W1.heap.size W1 w' := omayBe_any [c] (some ⟨W0.heap.size, 0, none⟩) 1 W1 (hE.below B1) (by show 1 ≤ 70368744177664; omega) (one_des hc.1 RD (by omega))
  have CN : ∀ w', Below W1.heap.size W1 w' → Calls Tryz.prog 49 #[.slice x l.length cc] w' fun e w2 => e = .returned (.bool (l.all mayD)) ∧ Below w'.heap.size w' w2 := fun w' hb => by
    have hb' : Below w.heap.size w w' := B1.trans (hb.mono (by omega))
    exact omayBe_any l x cc w' (hE.below hb') hl (eDess.mono (eDess.chg hL (Chg.of_below (s := no) hb') (fun _ _ h => h)) (fun k hk _ => Nat.lt_of_lt_of_le hk hb'.size))
  obtain ⟨M, hM⟩ : ∃ M, M = mayD c := ⟨_, rfl⟩
  have hM1 : [c].all mayD = M := by rw [hM]; simp
  rw [hM1, S0] at CM
  obtain ⟨M2, hM2⟩ : ∃ M2, M2 = l.all mayD := ⟨_, rfl⟩
  rw [← hM2] at CN
  have HM := Lib.hid hM
  have HM2 := Lib.hid hM2
  have HE := Lib.hid hE
  have HL := Lib.hid hL
  have HW0 := Lib.hid hW0
  have HW1 := Lib.hid hW1
  have HRM := Lib.hid RM
  have HR0 := Lib.hid R0
  have HB0 := Lib.hid B0
  have HB1 := Lib.hid B1
  have HPC := Lib.hid hc
  have HP := Lib.hid hp
  have RG := Lib.hid (encM_range hc.1 R0).1
  have q0 : W0.cell? ⟨w.heap.size, 36, none⟩ = some (.slice x l.length cc) := (encM_range hc.1 R0).2
  have HEL := Lib.hid (encD_list c)
  have HSZ : Hid ((encD c).size = 36) := Lib.hid (encD_size c hc.1)
  have HIL := Lib.hid (show (Tryz.prog.info? 28).map (·.size) = some (encL c).length by rw [encL_len hc.1.1]; exact info_D)
  have HIM := Lib.hid (show (Tryz.prog.info? 31).map (·.size) = some (encM c (.slice x l.length cc)).size by rw [info_M]; unfold encM; rw [List.size_toArray, List.length_append, encL_len hc.1.1]; rfl)
  obtain ⟨i0, hi0, hz0, hz1, hz2⟩ := info_parts info_des3
  clear hR hM hM1 hM2 hE hL hW0 hW1 RD RM R0 B0 B1 hc hp
  go_enter Tryz.func18, Tryz.ntmps18
  go_upto_region 1 with (fail)
  rw [show w.alloc (.cells (encM c (.slice x l.length cc)) 31) = W0 from HW0.out.symm]
  cases M with
  | false =>
    have e0 : Hid (R = ([], 2)) := Lib.hid (by rw [HR.out]; unfold manA; rw [if_pos (.inl HM.out.symm)])
    clear CN
    go_wp2_with (first
      | ((with_reducible show wpList _ _ _ (⟨some 6, .load _ _, _, _, _, _⟩ :: _) _ _); refine wpList_load_mid rfl 28 _ rfl w.heap.size 0 rfl (encL c) _ RG.out Tryz.underlying28 rfl HIL.out ?_)
      | ((with_reducible show wpList _ _ _ (⟨some 7, .buildSlice _ _ _, _, _, _, _⟩ :: _) _ _); refine wpList_oneR rfl 29 28 36 _ rfl (encD c) (by rw [HEL.out]; rfl) i0 _ Tryz.underlying29 hi0 hz0 hz1 HSZ.out (by decide) (by decide) ?_; rw [← HW1.out])
      | (go_at_call 49; ((with_reducible refine CM.mono ?_); rintro e w2 ⟨rfl, hb2⟩; have HB2 := Lib.hid hb2; clear hb2)))
    go_ret2
    rw [e0.out]
    exact ⟨rfl, HB1.out.trans (HB2.out.mono (by omega))⟩
  | true =>
    cases M2 with
    | false =>
      have e0 : Hid (R = ([], 2)) := Lib.hid (by rw [HR.out]; unfold manA; rw [if_pos (.inr HM2.out.symm)])
      go_wp2_with (first
        | ((with_reducible show wpList _ _ _ (⟨some 6, .load _ _, _, _, _, _⟩ :: _) _ _); refine wpList_load_mid rfl 28 _ rfl w.heap.size 0 rfl (encL c) _ RG.out Tryz.underlying28 rfl HIL.out ?_)
        | ((with_reducible show wpList _ _ _ (⟨some 7, .buildSlice _ _ _, _, _, _, _⟩ :: _) _ _); refine wpList_oneR rfl 29 28 36 _ rfl (encD c) (by rw [HEL.out]; rfl) i0 _ Tryz.underlying29 hi0 hz0 hz1 HSZ.out (by decide) (by decide) ?_; rw [← HW1.out])
        | (go_at_call 49; ((with_reducible refine CM.mono ?_); rintro e w2 ⟨rfl, hb2⟩; have HB2 := Lib.hid hb2; have s2 := hb2.size; have CW := CN w2 hb2; have q2 : w2.cell? ⟨w.heap.size, 36, none⟩ = some (.slice x l.length cc) := (encM_range HPC.out.1 (rowC_below HRM.out hb2 (by omega))).2; clear hb2 CM))
        | (go_at_call 49; ((with_reducible refine CW.mono ?_); rintro e w3 ⟨rfl, hb3⟩; have HB3 := Lib.hid hb3; have s3 := hb3.size; clear hb3)))
      go_ret2
      rw [e0.out]
      exact ⟨rfl, (HB1.out.trans (HB2.out.mono (by omega))).trans (HB3.out.mono (by omega))⟩
    | true =>
      go_upto_region 3 with (first
        | ((with_reducible show wpList _ _ _ (⟨some 6, .load _ _, _, _, _, _⟩ :: _) _ _); refine wpList_load_mid rfl 28 _ rfl w.heap.size 0 rfl (encL c) _ RG.out Tryz.underlying28 rfl HIL.out ?_)
        | ((with_reducible show wpList _ _ _ (⟨some 7, .buildSlice _ _ _, _, _, _, _⟩ :: _) _ _); refine wpList_oneR rfl 29 28 36 _ rfl (encD c) (by rw [HEL.out]; rfl) i0 _ Tryz.underlying29 hi0 hz0 hz1 HSZ.out (by decide) (by decide) ?_; rw [← HW1.out])
        | (go_at_call 49; ((with_reducible refine CM.mono ?_); rintro e w2 ⟨rfl, hb2⟩; have HB2 := Lib.hid hb2; have s2 := hb2.size; have CW := CN w2 hb2; have q2 : w2.cell? ⟨w.heap.size, 36, none⟩ = some (.slice x l.length cc) := (encM_range HPC.out.1 (rowC_below HRM.out hb2 (by omega))).2; clear hb2 CM))
        | (go_at_call 49; ((with_reducible refine CW.mono ?_); rintro e w3 ⟨rfl, hb3⟩; have HB3 := Lib.hid hb3; have s3 := hb3.size; clear hb3)))
      have R3 : Hid (rowC w3 w.heap.size (encM c (.slice x l.length cc)) 31) := Lib.hid (rowC_below (rowC_below HRM.out HB2.out (by omega)) HB3.out (by omega))
      have B3 : Hid (Below w.heap.size w w3) := Lib.hid ((HB1.out.trans (HB2.out.mono (by omega))).trans (HB3.out.mono (by omega)))
      have CF := fits_any c l x cc w3 HPC.out.1 (eDess.mono (eDess.chg HL.out (Chg.of_below (s := no) B3.out) (fun _ _ h => h)) (fun k hk _ => Nat.lt_of_lt_of_le hk B3.out.size))
      obtain ⟨K, hK⟩ : ∃ K, K = fitsN c l := ⟨_, rfl⟩
      rw [← hK] at CF
      have HK := Lib.hid hK
      clear hK q2 CW CN
      by_cases hk0 : K = 0
      rotate_left
      · have e0 : Hid (R = ([], K)) := Lib.hid (by rw [HR.out]; unfold manA; rw [if_neg (by rw [← HM.out, ← HM2.out]; simp), if_pos (by rw [← HK.out]; exact hk0), HK.out])
        have hk1 : ¬ ((K : Nat) : Int) = 0 := by omega
        have hk2 : (((K : Nat) : Int) != 0) = true := by simpa using hk0
        clear hk0
        go_wp2_with (first
          | ((with_reducible show wpList _ _ _ (⟨some 16, .load _ _, _, _, _, _⟩ :: _) _ _); refine wpList_load_row rfl 31 _ rfl w.heap.size rfl 31 (encM c (.slice x l.length cc)) (0, 0) _ R3.out Tryz.underlying31 rfl HIM.out ?_)
          | (go_at_call 36; ((with_reducible refine CF.mono ?_); rintro e w4 ⟨rfl, hb4⟩; have HB4 := Lib.hid hb4; clear hb4)))
        go_ret2
        rw [e0.out]
        exact ⟨rfl, B3.out.trans (HB4.out.mono B3.out.size)⟩
      have e0 : Hid (R = printA (manJ c l)) := Lib.hid (by rw [HR.out]; unfold manA; rw [if_neg (by rw [← HM.out, ← HM2.out]; simp), if_neg (by rw [← HK.out]; simp [hk0])])
      have hl8 : l.length ≤ 8 := by
        have h := HK.out
        rw [hk0] at h
        unfold fitsN at h
        by_cases h8 : 8 < l.length
        · rw [if_pos h8] at h; cases h
        · omega
      subst hk0
      go_upto_region 6 with (first
        | ((with_reducible show wpList _ _ _ (⟨some 16, .load _ _, _, _, _, _⟩ :: _) _ _); refine wpList_load_row rfl 31 _ rfl w.heap.size rfl 31 (encM c (.slice x l.length cc)) (0, 0) _ R3.out Tryz.underlying31 rfl HIM.out ?_)
        | (go_at_call 36; ((with_reducible refine CF.mono ?_); rintro e w4 ⟨rfl, hb4⟩; have HB4 := Lib.hid hb4; clear hb4)))
      have s3' := B3.out.size
      have s4 := HB4.out.size
      have R4 : Hid (rowC w4 w.heap.size (encM c (.slice x l.length cc)) 31) := Lib.hid (rowC_below R3.out HB4.out (rowC_lt R3.out))
      have HBW : ∀ w', Gn w4 no w' → Below w.heap.size w w' := fun w' hg => (B3.out.trans (HB4.out.mono s3')).trans ((hg.below (B := w.heap.size) (by omega) (fun _ _ h => h)))
      have CV : ∀ w', Gn w4 no w' → Calls Tryz.prog 51 #[.int .i64 2] w' fun e w3 => e = .returned (.agg #[.int .i64 3, .string (str (Lib.itoa 2)), .slice none 0 0, .slice none 0 0]) ∧ Gn w4 no w3 := fun w' hg =>
        (number_put 2 (by omega) (by omega) w' (HE.out.below (HBW w' hg))).mono (fun e w3 h => ⟨h.1, hg.call h.2⟩)
      have CT : ∀ w', Gn w4 no w' → Calls Tryz.prog 52 #[.string ⟨#[97, 112, 112, 108, 105, 99, 97, 116, 105, 111, 110, 47, 118, 110, 100, 46, 111, 99, 105, 46, 105, 109, 97, 103, 101, 46, 109, 97, 110, 105, 102, 101, 115, 116, 46, 118, 49, 43, 106, 115, 111, 110]⟩] w' fun e w3 => e = .returned (.agg #[.int .i64 4, .string ⟨#[97, 112, 112, 108, 105, 99, 97, 116, 105, 111, 110, 47, 118, 110, 100, 46, 111, 99, 105, 46, 105, 109, 97, 103, 101, 46, 109, 97, 110, 105, 102, 101, 115, 116, 46, 118, 49, 43, 106, 115, 111, 110]⟩, .slice none 0 0, .slice none 0 0]) ∧ Gn w4 no w3 := fun w' hg =>
        (text_put mMan w').mono (fun e w3 h => ⟨h.1, hg.call h.2⟩)
      obtain ⟨X, hX⟩ : ∃ X, X = encL c := ⟨_, rfl⟩
      have hXa : X.toArray = encD c := by rw [hX, encD_list]
      have CG : ∀ w', Gn w4 no w' → Calls Tryz.prog 53 #[.agg X.toArray] w' fun e w3 => ∃ y m z n, e = .returned (.agg #[.int .i64 6, .string ⟨#[]⟩, .slice y 3 m, .slice z 3 n]) ∧ HoldsC w3 (fun q => w.heap.size ≤ q ∧ q < w3.heap.size) (bareJ c) (.int .i64 6) (.string ⟨#[]⟩) (.slice y 3 m) (.slice z 3 n) ∧ Gn w4 no w3 := fun w' hg => by
        have hb := HBW w' hg
        rw [hXa]
        refine (plain_put c HPC.out w' (HE.out.below hb)).mono ?_
        rintro e w3 ⟨y, m, z, n, rfl, hV, hb3⟩
        exact ⟨y, m, z, n, rfl, HoldsC.mono (fun k hk hlt => ⟨Nat.le_trans hb.size hk.1, hlt⟩) _ _ _ _ _ hV, hg.call hb3⟩
      have CL : ∀ w', Gn w4 no w' → Calls Tryz.prog 54 #[.slice x l.length cc, .func (.func 53) #[] #[]] w' fun e w3 => ∃ y m z n, e = .returned (.agg #[.int .i64 5, .string ⟨#[]⟩, .slice y l.length m, .slice z 0 n]) ∧ HoldsC w3 (fun q => w.heap.size ≤ q ∧ q < w3.heap.size) (lstJ (l.map bareJ)) (.int .i64 5) (.string ⟨#[]⟩) (.slice y l.length m) (.slice z 0 n) ∧ Below w'.heap.size w' w3 ∧ Gn w4 no w3 := fun w' hg => by
        have hb := HBW w' hg
        refine (lsput_des putF_pln l x cc w' (HE.out.below hb) (by omega) HP.out (eDess.mono (eDess.chg HL.out (Chg.of_below (s := no) hb) (fun _ _ h => h)) (fun k hk _ => Nat.lt_of_lt_of_le hk hb.size))).mono ?_
        rintro e w3 ⟨y, m, z, n, rfl, hV, hb3⟩
        have e1 : (lstJ (l.map bareJ)).items.length = l.length := by unfold lstJ; simp [JV.items]
        rw [e1] at hV ⊢
        exact ⟨y, m, z, n, rfl, HoldsC.mono (fun k hk hlt => ⟨Nat.le_trans hb.size hk.1, hlt⟩) _ _ _ _ _ hV, hb3, hg.call hb3⟩
      have CO : ∀ w' b y6 a6 z6 b6 y m z n, Gn w4 no w' → rowC w' b (manC y6 a6 z6 b6 y l.length m z n) 102 → b < w'.heap.size → HoldsC w' (fun q => w.heap.size ≤ q ∧ q < w'.heap.size) (bareJ c) (.int .i64 6) (.string ⟨#[]⟩) (.slice y6 3 a6) (.slice z6 3 b6) → HoldsC w' (fun q => w.heap.size ≤ q ∧ q < w'.heap.size) (lstJ (l.map bareJ)) (.int .i64 5) (.string ⟨#[]⟩) (.slice y l.length m) (.slice z 0 n) → Calls Tryz.prog 50 #[.slice (some ⟨b, 0, none⟩) 4 4] w' fun e w3 => ∃ y m z n, e = .returned (.agg #[.int .i64 6, .string ⟨#[]⟩, .slice y 4 m, .slice z 4 n]) ∧ HoldsC w3 (fun q => q < w3.heap.size) (manJ c l) (.int .i64 6) (.string ⟨#[]⟩) (.slice y 4 m) (.slice z 4 n) ∧ Gn w4 no w3 := fun w' b y6 a6 z6 b6 y m z n hg h1 h2 h3 h4 => by
        have hb := HBW w' hg
        refine (object_put [(kVer, numJ 2), (kMed, txtJ mMan), (kCfg, bareJ c), (kLay, lstJ (l.map bareJ))] w.heap.size _ 4 w' hb.size (by show 4 ≤ 1000; omega) (fldr4 (k1 := kVer) (k2 := kMed) (k3 := kCfg) (k4 := kLay) h1 h2 (leaf_holds _ _ 3 (Lib.itoa 2) (by have := Lib.itoa_length_le 2 (by omega) (by omega); omega)) (leaf_holds _ _ 4 mMan (by decide)) h3 h4)).mono ?_
        rintro e w3 ⟨y, m, z, n, rfl, hV, hb3⟩
        exact ⟨y, m, z, n, rfl, HoldsC.mono (fun k hk hlt => hlt) _ _ _ _ _ hV, hg.call hb3⟩
      have CP : ∀ w' y m z n, Gn w4 no w' → HoldsC w' (fun q => q < w'.heap.size) (manJ c l) (.int .i64 6) (.string ⟨#[]⟩) (.slice y 4 m) (.slice z 4 n) → Calls Tryz.prog 29 #[.agg #[.int .i64 6, .string ⟨#[]⟩, .slice y 4 m, .slice z 4 n]] w' fun e w3 => e = .returned (.tuple #[.string (str R.1), .int .i64 (R.2 : Int)]) ∧ Gn w4 no w3 := fun w' y m z n hg hV => by
        rw [e0.out]
        refine (print_any (okJ_man hl8 HPC.out HP.out) (HE.out.below (HBW w' hg)).env hV).mono ?_
        rintro e w3 ⟨rfl, hb3⟩
        exact ⟨rfl, hg.call hb3⟩
      have OS : ∀ w', Gn w4 no w' → w'.rangeAt w.heap.size 0 X ∧ w'.cell? ⟨w.heap.size, 36, none⟩ = some (.slice x l.length cc) := fun w' h => by
        rw [hX]
        exact encM_range HPC.out.1 (h.row R4.out id)
      have iD : (Tryz.prog.info? 28).map (·.size) = some X.length := by rw [hX]; exact HIL.out
      have uD := Tryz.underlying28
      have HBB := Lib.hid HBW
      clear HBW hX hXa CF
      have SO : ∀ w', Gn w4 no w' → Gn w4 no w' := fun _ h => h
      refine wp_region_noPanic ?_
      refine wp_region_held_drew (S := Gn w4 no) (by kernel_rfl) (Gn.start _ _) (fun hHeld => ?_)
      generalize w4.drew = wd at *
      refine wpAnyH_take (i := 4) (oi := { dst := some 25, op := Op.fieldAddr 31 (Operand.tmp 1) 0, type := 0, pos := "oci.go:150", after := #[], guard := none }) (v := ?_) rfl (by kernel_rfl) (by kernel_rfl) (by kernel_rfl) (fun _ _ _ h => h) (Or.inl ⟨by rfl, ?_⟩) (by assumption) ?_
      rotate_left
      · intro w hSw
        skip
        clear hSw
        go_simp
        try with_reducible rfl
      try simp only [Act.put, List.setIfInBounds_toArray, List.set_cons_zero, List.set_cons_succ]
      refine wpAnyH_take (i := 8) (oi := { dst := some 29, op := Op.fieldAddr 31 (Operand.tmp 1) 1, type := 0, pos := "oci.go:150", after := #[], guard := none }) (v := ?_) rfl (by kernel_rfl) (by kernel_rfl) (by kernel_rfl) (fun _ _ _ h => h) (Or.inl ⟨by rfl, ?_⟩) (by assumption) ?_
      rotate_left
      · intro w hSw
        skip
        clear hSw
        go_simp
        try with_reducible rfl
      try simp only [Act.put, List.setIfInBounds_toArray, List.set_cons_zero, List.set_cons_succ]
      refine wpAnyH_take (i := 5) (oi := { dst := some 26, op := Op.load 28 (Operand.tmp 25), type := 28, pos := "oci.go:150", after := #[{ on := 4, ground := Ground.data }], guard := none }) (v := _) rfl (by kernel_rfl) (by kernel_rfl) (by kernel_rfl) (fun _ _ _ h => h) (yieldsIf_load_mid (by rfl) _ _ rfl _ _ rfl _ _ (by intro w hSw; have hSw := OS _ hSw; go_split_ands; assumption) (by assumption) rfl (by assumption)) (by assumption) ?_
      try simp only [Act.put, List.setIfInBounds_toArray, List.set_cons_zero, List.set_cons_succ]
      refine wpAnyH_take (i := 9) (oi := { dst := some 30, op := Op.load 29 (Operand.tmp 29), type := 29, pos := "oci.go:150", after := #[{ on := 8, ground := Ground.data }], guard := none }) (v := ?_) rfl (by kernel_rfl) (by kernel_rfl) (by kernel_rfl) (fun _ _ _ h => h) (Or.inl ⟨by rfl, ?_⟩) (by assumption) ?_
      rotate_left
      · intro w hSw
        have hSw := OS _ hSw
        go_simp
        try with_reducible rfl
      try simp only [Act.put, List.setIfInBounds_toArray, List.set_cons_zero, List.set_cons_succ]
      refine wpAnyH_ready (rs := [0]) (by kernel_rfl) (by simp) ?_
      refine (AllReadyH.cons (o := { dst := some 21, op := Op.call { callee := Callee.value (Operand.func 51), args := #[Operand.const (Value.int IntKind.i64 2)], argTypes := #[3] }, type := 63, pos := "oci.go:151", after := #[], guard := none }) rfl (fun K hK => ?_) AllReadyH.nil)
      go_simp
      with_reducible refine (CV _ hHeld).mono ?_
      rintro e w0' ⟨rfl, m0'⟩
      refine hK.out _ _ (SO _ (by assumption)) (fun hHeld => ?_)
      clear hK K
      try simp only [Act.put, List.setIfInBounds_toArray, List.set_cons_zero, List.set_cons_succ]
      refine wpAnyH_take (i := 1) (oi := { dst := some 22, op := Op.build 102 #[(0, Operand.const (Value.string { data := #[115, 99, 104, 101, 109, 97, 86, 101, 114, 115, 105, 111, 110] })), (1, Operand.tmp 21)], type := 102, pos := "oci.go:150", after := #[{ on := 0, ground := Ground.data }], guard := none }) (v := ?_) rfl (by kernel_rfl) (by kernel_rfl) (by kernel_rfl) (fun _ _ _ h => h) (Or.inl ⟨by rfl, ?_⟩) (by assumption) ?_
      rotate_left
      · intro w hSw
        skip
        clear hSw
        go_simp
        try with_reducible rfl
      try simp only [Act.put, List.setIfInBounds_toArray, List.set_cons_zero, List.set_cons_succ]
      refine wpAnyH_ready (rs := [2]) (by kernel_rfl) (by simp) ?_
      refine (AllReadyH.cons (o := { dst := some 23, op := Op.call { callee := Callee.value (Operand.func 52), args := #[Operand.const (Value.string { data := #[97, 112, 112, 108, 105, 99, 97, 116, 105, 111, 110, 47, 118, 110, 100, 46, 111, 99, 105, 46, 105, 109, 97, 103, 101, 46, 109, 97, 110, 105, 102, 101, 115, 116, 46, 118, 49, 43, 106, 115, 111, 110] })], argTypes := #[9] }, type := 63, pos := "oci.go:152", after := #[{ on := 0, ground := Ground.chain }], guard := none }) rfl (fun K hK => ?_) AllReadyH.nil)
      go_simp
      with_reducible refine (CT _ hHeld).mono ?_
      rintro e w2' ⟨rfl, m2'⟩
      refine hK.out _ _ (SO _ (by assumption)) (fun hHeld => ?_)
      clear hK K
      try simp only []
      refine wpAnyH_take (i := 3) (oi := { dst := some 24, op := Op.build 102 #[(0, Operand.const (Value.string { data := #[109, 101, 100, 105, 97, 84, 121, 112, 101] })), (1, Operand.tmp 23)], type := 102, pos := "oci.go:150", after := #[{ on := 2, ground := Ground.data }], guard := none }) (v := ?_) rfl (by kernel_rfl) (by kernel_rfl) (by kernel_rfl) (fun _ _ _ h => h) (Or.inl ⟨by rfl, ?_⟩) (by assumption) ?_
      rotate_left
      · intro w hSw
        skip
        clear hSw
        go_simp
        try with_reducible rfl
      try simp only [Act.put, List.setIfInBounds_toArray, List.set_cons_zero, List.set_cons_succ]
      refine wpAnyH_ready (rs := [6]) (by kernel_rfl) (by simp) ?_
      refine (AllReadyH.cons (o := { dst := some 27, op := Op.call { callee := Callee.value (Operand.func 53), args := #[Operand.tmp 26], argTypes := #[28] }, type := 63, pos := "oci.go:153", after := #[{ on := 5, ground := Ground.data }, { on := 2, ground := Ground.chain }], guard := none }) rfl (fun K hK => ?_) AllReadyH.nil)
      go_simp
      with_reducible refine (CG _ hHeld).mono ?_
      rintro e w6' ⟨y6, a6, z6, b6, rfl, h6, m6'⟩
      have H6 := Lib.hid h6; clear h6
      refine hK.out _ _ (SO _ (by assumption)) (fun hHeld => ?_)
      clear hK K
      try simp only [Act.put, List.setIfInBounds_toArray, List.set_cons_zero, List.set_cons_succ]
      refine wpAnyH_take (i := 7) (oi := { dst := some 28, op := Op.build 102 #[(0, Operand.const (Value.string { data := #[99, 111, 110, 102, 105, 103] })), (1, Operand.tmp 27)], type := 102, pos := "oci.go:150", after := #[{ on := 6, ground := Ground.data }], guard := none }) (v := ?_) rfl (by kernel_rfl) (by kernel_rfl) (by kernel_rfl) (fun _ _ _ h => h) (Or.inl ⟨by rfl, ?_⟩) (by assumption) ?_
      rotate_left
      · intro w hSw
        skip
        clear hSw
        go_simp
        try with_reducible rfl
      try simp only [Act.put, List.setIfInBounds_toArray, List.set_cons_zero, List.set_cons_succ]
      refine wpAnyH_ready (rs := [10]) (by kernel_rfl) (by simp) ?_
      refine (AllReadyH.cons (o := { dst := some 31, op := Op.call { callee := Callee.value (Operand.func 54), args := #[Operand.tmp 30, Operand.func 53], argTypes := #[29, 104] }, type := 63, pos := "oci.go:154", after := #[{ on := 9, ground := Ground.data }, { on := 6, ground := Ground.chain }], guard := none }) rfl (fun K hK => ?_) AllReadyH.nil)
      go_simp
      with_reducible refine (CL _ hHeld).mono ?_
      rintro e w10' ⟨y, m, z, n, rfl, h10, b10, m10'⟩
      have H10 := Lib.hid h10; have H6' := Lib.hid (HoldsC.mono (G := fun q => w.heap.size ≤ q ∧ q < w10'.heap.size) (fun k hk hlt => ⟨hk.1, hlt⟩) _ _ _ _ _ (HoldsC.chg (Chg.of_below (s := fun _ => False) b10) (fun _ _ h => h) _ _ _ _ _ H6.out)); clear h10 b10
      refine hK.out _ _ (SO _ (by assumption)) (fun hHeld => ?_)
      clear hK K
      try simp only [Act.put, List.setIfInBounds_toArray, List.set_cons_zero, List.set_cons_succ]
      refine wpAnyH_take (i := 11) (oi := { dst := some 32, op := Op.build 102 #[(0, Operand.const (Value.string { data := #[108, 97, 121, 101, 114, 115] })), (1, Operand.tmp 31)], type := 102, pos := "oci.go:150", after := #[{ on := 10, ground := Ground.data }], guard := none }) (v := ?_) rfl (by kernel_rfl) (by kernel_rfl) (by kernel_rfl) (fun _ _ _ h => h) (Or.inl ⟨by rfl, ?_⟩) (by assumption) ?_
      rotate_left
      · intro w hSw
        skip
        clear hSw
        go_simp
        try with_reducible rfl
      try simp only [Act.put, List.setIfInBounds_toArray, List.set_cons_zero, List.set_cons_succ]
      refine wpAnyH_ready (rs := [12]) (by kernel_rfl) (by simp) ?_
      refine (AllReadyH.cons (o := { dst := some 33, op := Op.buildSlice 158 4 #[(0, Operand.tmp 22), (1, Operand.tmp 24), (2, Operand.tmp 28), (3, Operand.tmp 32)], type := 158, pos := "oci.go:150", after := #[{ on := 1, ground := Ground.data }, { on := 3, ground := Ground.data }, { on := 7, ground := Ground.data }, { on := 11, ground := Ground.data }], guard := none }) rfl (fun K hK => ?_) AllReadyH.nil)
      skip
      go_simp
      refine hK.out _ _ (SO _ (by exact Gn.alloc hHeld _)) (fun hHeld => ?_)
      clear hK K
      try simp only [Act.put, List.setIfInBounds_toArray, List.set_cons_zero, List.set_cons_succ]
      refine wpAnyH_ready (rs := [13]) (by kernel_rfl) (by simp) ?_
      refine (AllReadyH.cons (o := { dst := some 34, op := Op.call { callee := Callee.value (Operand.func 50), args := #[Operand.tmp 33], argTypes := #[158] }, type := 63, pos := "oci.go:150", after := #[{ on := 12, ground := Ground.data }, { on := 10, ground := Ground.chain }], guard := none }) rfl (fun K hK => ?_) AllReadyH.nil)
      go_simp
      with_reducible refine (CO _ _ _ _ _ _ _ _ _ _ hHeld (rowC_new _ _ _) (by rw [size_alloc]; omega) (HoldsC.mono (fun k hk _ => ⟨hk.1, by rw [size_alloc]; have := hk.2; omega⟩) _ _ _ _ _ (HoldsC.chg ((Chg.refl (fun _ => False) _).alloc _) (fun _ _ h => h) _ _ _ _ _ H6'.out)) (HoldsC.mono (fun k hk _ => ⟨hk.1, by rw [size_alloc]; have := hk.2; omega⟩) _ _ _ _ _ (HoldsC.chg ((Chg.refl (fun _ => False) _).alloc _) (fun _ _ h => h) _ _ _ _ _ H10.out))).mono ?_
      rintro e w13' ⟨y8, m8, z8, n8, rfl, h13, m13'⟩
      have H13 := Lib.hid h13; clear h13
      refine hK.out _ _ (SO _ (by assumption)) (fun hHeld => ?_)
      clear hK K
      try simp only [Act.put, List.setIfInBounds_toArray, List.set_cons_zero, List.set_cons_succ]
      refine wpAnyH_ready (rs := [14]) (by kernel_rfl) (by simp) ?_
      refine (AllReadyH.cons (o := { dst := some 35, op := Op.call { callee := Callee.value (Operand.func 29), args := #[Operand.tmp 34], argTypes := #[63] }, type := 50, pos := "oci.go:150", after := #[{ on := 13, ground := Ground.data }, { on := 13, ground := Ground.chain }], guard := none }) rfl (fun K hK => ?_) AllReadyH.nil)
      go_simp
      with_reducible refine (CP _ _ _ _ _ hHeld H13.out).mono ?_
      rintro e w14' ⟨rfl, m14'⟩
      refine hK.out _ _ (SO _ (by assumption)) (fun hHeld => ?_)
      clear hK K
      try simp only [Act.put, List.setIfInBounds_toArray, List.set_cons_zero, List.set_cons_succ]
      refine wpAnyH_take (i := 15) (oi := { dst := some 36, op := Op.extract (Operand.tmp 35) 0, type := 9, pos := "oci.go:150", after := #[{ on := 14, ground := Ground.data }], guard := none }) (v := ?_) rfl (by kernel_rfl) (by kernel_rfl) (by kernel_rfl) (fun _ _ _ h => h) (Or.inl ⟨by rfl, ?_⟩) (by assumption) ?_
      rotate_left
      · intro w hSw
        skip
        clear hSw
        go_simp
        try with_reducible rfl
      try simp only [Act.put, List.setIfInBounds_toArray, List.set_cons_zero, List.set_cons_succ]
      refine wpAnyH_take (i := 16) (oi := { dst := some 37, op := Op.extract (Operand.tmp 35) 1, type := 32, pos := "oci.go:150", after := #[{ on := 14, ground := Ground.data }], guard := none }) (v := ?_) rfl (by kernel_rfl) (by kernel_rfl) (by kernel_rfl) (fun _ _ _ h => h) (Or.inl ⟨by rfl, ?_⟩) (by assumption) ?_
      rotate_left
      · intro w hSw
        skip
        clear hSw
        go_simp
        try with_reducible rfl
      try simp only [Act.put, List.setIfInBounds_toArray, List.set_cons_zero, List.set_cons_succ]
      refine wpAnyH_take (i := 17) (oi := { dst := some 2, op := Op.assign (Operand.tmp 36), type := 9, pos := "oci.go:150", after := #[{ on := 15, ground := Ground.data }, { on := 14, ground := Ground.chain }, { on := 0, ground := Ground.phase }, { on := 1, ground := Ground.phase }, { on := 2, ground := Ground.phase }, { on := 3, ground := Ground.phase }, { on := 4, ground := Ground.phase }, { on := 5, ground := Ground.phase }, { on := 6, ground := Ground.phase }, { on := 7, ground := Ground.phase }, { on := 8, ground := Ground.phase }, { on := 9, ground := Ground.phase }, { on := 10, ground := Ground.phase }, { on := 11, ground := Ground.phase }, { on := 12, ground := Ground.phase }, { on := 13, ground := Ground.phase }, { on := 14, ground := Ground.phase }, { on := 15, ground := Ground.phase }, { on := 16, ground := Ground.phase }], guard := none }) (v := ?_) rfl (by kernel_rfl) (by kernel_rfl) (by kernel_rfl) (fun _ _ _ h => h) (Or.inl ⟨by rfl, ?_⟩) (by assumption) ?_
      rotate_left
      · intro w hSw
        skip
        clear hSw
        go_simp
        try with_reducible rfl
      try simp only [Act.put, List.setIfInBounds_toArray, List.set_cons_zero, List.set_cons_succ]
      refine wpAnyH_take (i := 18) (oi := { dst := some 3, op := Op.assign (Operand.tmp 37), type := 32, pos := "oci.go:150", after := #[{ on := 16, ground := Ground.data }, { on := 17, ground := Ground.chain }, { on := 0, ground := Ground.phase }, { on := 1, ground := Ground.phase }, { on := 2, ground := Ground.phase }, { on := 3, ground := Ground.phase }, { on := 4, ground := Ground.phase }, { on := 5, ground := Ground.phase }, { on := 6, ground := Ground.phase }, { on := 7, ground := Ground.phase }, { on := 8, ground := Ground.phase }, { on := 9, ground := Ground.phase }, { on := 10, ground := Ground.phase }, { on := 11, ground := Ground.phase }, { on := 12, ground := Ground.phase }, { on := 13, ground := Ground.phase }, { on := 14, ground := Ground.phase }, { on := 15, ground := Ground.phase }, { on := 16, ground := Ground.phase }, { on := 17, ground := Ground.phase }], guard := none }) (v := ?_) rfl (by kernel_rfl) (by kernel_rfl) (by kernel_rfl) (fun _ _ _ h => h) (Or.inl ⟨by rfl, ?_⟩) (by assumption) ?_
      rotate_left
      · intro w hSw
        skip
        clear hSw
        go_simp
        try with_reducible rfl
      try simp only [Act.put, List.setIfInBounds_toArray, List.set_cons_zero, List.set_cons_succ]
      refine wpAnyH_done (by kernel_rfl) ?_ _
      refine NoPanic.normal ?_
      go_wp2
      go_ret2
      exact ⟨rfl, HBB.out _ hHeld⟩
end Go.Proofs.YtlknngplnimdpaaGreatDoor

/- Layer 13: what the statements hand in: descriptors in the rough, platforms, digests. -/
namespace Go.Proofs.YtlknngplnimdpaaGreatDoor
open Go.RowKit Go.ChangeShapes Go.WideShapes Go.Deep

theorem all_bytesV : ∀ cs : List Value, (∀ v ∈ cs, ∃ b : UInt8, v = byteV b) → ∃ l : List UInt8, cs = l.map byteV
  | [], _ => ⟨[], rfl⟩
  | v :: r, h => by
    obtain ⟨b, rfl⟩ := h v (by simp)
    obtain ⟨l, rfl⟩ := all_bytesV r (fun u hu => h u (by simp [hu]))
    exact ⟨b :: l, rfl⟩
theorem rough_u8 {n : Int} (h : (Lit.int .u8 n).wf = true) : 0 ≤ n ∧ n ≤ 255 := by
  simp [Lit.wf, IntKind.min, IntKind.max, IntKind.signed, IntKind.bits] at h
  omega
theorem rough_i64 {n : Int} (h : (Lit.int .i64 n).wf = true) : -9223372036854775808 ≤ n ∧ n ≤ 9223372036854775807 := by
  simp [Lit.wf, IntKind.min, IntKind.max, IntKind.signed, IntKind.bits] at h
  omega
/-- A descriptor in the rough. -/
structure RG where
  num : Nat
  media : Bs
  dig : Bs
  size : Int
  os : Bs
  arch : Bs
instance : Inhabited RG := ⟨⟨0, [], [], 0, [], []⟩⟩
def RG.ok (r : RG) : Prop := r.num < 256 ∧ r.dig.length = 32 ∧ -9223372036854775808 ≤ r.size ∧ r.size ≤ 9223372036854775807
def encR (r : RG) : List Value := [.int .u8 (r.num : Int), .string (str r.media)] ++ r.dig.map byteV ++ [.int .i64 r.size, .string (str r.os), .string (str r.arch)]
theorem encR_len {r : RG} (h : r.ok) : (encR r).length = 37 := by unfold encR; simp [h.2.1]
def RghsC (w : World) (x : Option Addr) (l : List RG) : Prop := ∀ i r, l[i]? = some r → r.ok ∧ ∃ ad, x = some ad ∧ ad.block < w.heap.size ∧ ∀ j v, (encR r)[j]? = some v → w.cell? ((ad.add (i * 37)).add j) = some v
section
variable {H : Type} {enc : TypeId × Value → H} {W : World} {base : Nat} {sp : Nat → Bool} {held : Bool}
set_option maxRecDepth 100000 in
theorem open_byteL {fuel : Nat} {cs : List Value} {x : DataW H × List MemPlace} (h : DataW.trod enc Tryz.prog W base sp held fuel 24 cs = some x) : ∃ l : List UInt8, l.length = 32 ∧ cs = l.map byteV := by
  have he : Tryz.prog.cellsOf 5 = 1 := by kernel_rfl
  have hc : Tryz.prog.cellsOf 24 = 32 := by kernel_rfl
  obtain ⟨xs, m, _, _, hsz, hxs, hall⟩ := DataW.trod_array Tryz.underlying24 h
  rw [hc] at hsz
  have key : ∀ u ∈ cs, ∃ b : UInt8, u = byteV b := by
    intro u hu
    obtain ⟨i, hi, rfl⟩ := List.mem_iff_getElem.1 hu
    have h1 := hall i (by omega)
    rw [he, Nat.mul_one, List.getElem?_eq_getElem (by omega)] at h1
    obtain ⟨a, ha, _, hw⟩ := DataW.trod_int Tryz.underlying5 h1
    have e : (cs.drop i).take 1 = [cs[i]] := by
      rw [List.drop_eq_getElem_cons hi]; rfl
    rw [e] at ha
    have hb : 0 ≤ a ∧ a ≤ 255 := by
      simp [Lit.wf, IntKind.min, IntKind.max, IntKind.signed, IntKind.bits] at hw
      omega
    refine ⟨UInt8.ofNat a.toNat, ?_⟩
    rw [List.cons.inj ha |>.1, byteV_ofNat]
    congr 1
    omega
  obtain ⟨l, hl⟩ := all_bytesV cs key
  refine ⟨l, ?_, hl⟩
  have := congrArg List.length hl
  rw [List.length_map] at this
  omega
theorem one_cell {i : Nat} {cs : List Value} {v : Value} (h : (cs.drop i).take 1 = [v]) : cs[i]? = some v := by
  have : ((cs.drop i).take 1)[0]? = some v := by rw [h]; rfl
  rwa [List.getElem?_take, if_pos (by decide), List.getElem?_drop, Nat.add_zero] at this
set_option maxRecDepth 100000 in
theorem open_platL {fuel : Nat} {cs : List Value} {x : DataW H × List MemPlace} (h : DataW.trod enc Tryz.prog W base sp held fuel 26 cs = some x) : ∃ p : Bs × Bs, cs = [.string (str p.1), .string (str p.2)] := by
  obtain ⟨xs, n, _, _, hlen, hx, hf⟩ := DataW.trod_struct Tryz.underlying26 h
  have hc : Tryz.prog.cellsOf 26 = 2 := by kernel_rfl
  have c1 : Tryz.prog.cellsOf 9 = 1 := by kernel_rfl
  rw [hc] at hlen
  replace hx : xs.length = 2 := hx
  match cs, hlen with
  | [v0, v1], _ =>
    have f0 : DataW.trod enc Tryz.prog W base sp held n 9 (([v0, v1].drop 0).take (Tryz.prog.cellsOf 9)) = xs[0]? := hf 0 _ rfl
    have f1 : DataW.trod enc Tryz.prog W base sp held n 9 (([v0, v1].drop 1).take (Tryz.prog.cellsOf 9)) = xs[1]? := hf 1 _ rfl
    rw [c1, List.getElem?_eq_getElem (by omega)] at f0 f1
    obtain ⟨s0, e0, _, _⟩ := DataW.trod_string Tryz.underlying9 f0
    obtain ⟨s1, e1, _, _⟩ := DataW.trod_string Tryz.underlying9 f1
    have e0' : v0 = .string s0 := (List.cons.inj e0).1
    have e1' : v1 = .string s1 := (List.cons.inj e1).1
    exact ⟨(s0.data.toList, s1.data.toList), by rw [e0', e1']; rfl⟩
set_option maxRecDepth 100000 in
theorem open_plat {v0 : Value} {d : DataW H} {p : List MemPlace} (h : DataW.Trod enc Tryz.prog W base sp held 26 v0 d p) : ∃ q : Bs × Bs, v0 = .agg #[.string (str q.1), .string (str q.2)] := by
  obtain ⟨fuel, hf⟩ := h
  obtain ⟨q, hc⟩ := open_platL hf
  refine ⟨q, ?_⟩
  cases v0 with
  | agg cs =>
    have : cs.toList = [.string (str q.1), .string (str q.2)] := hc
    rw [show cs = cs.toList.toArray by simp, this]
  | _ => exact absurd (congrArg List.length hc) (by simp [Value.cells])
set_option maxRecDepth 100000 in
theorem open_roughL {fuel : Nat} {cs : List Value} {x : DataW H × List MemPlace} (h : DataW.trod enc Tryz.prog W base sp held fuel 46 cs = some x) : ∃ r : RG, r.ok ∧ cs = encR r := by
  obtain ⟨xs, n, _, _, hlen, hx, hf⟩ := DataW.trod_struct Tryz.underlying46 h
  have hc : Tryz.prog.cellsOf 46 = 37 := by kernel_rfl
  have c0 : Tryz.prog.cellsOf 5 = 1 := by kernel_rfl
  have c1 : Tryz.prog.cellsOf 9 = 1 := by kernel_rfl
  have c2 : Tryz.prog.cellsOf 24 = 32 := by kernel_rfl
  have c3 : Tryz.prog.cellsOf 3 = 1 := by kernel_rfl
  have c4 : Tryz.prog.cellsOf 26 = 2 := by kernel_rfl
  rw [hc] at hlen
  replace hx : xs.length = 5 := hx
  have f0 : DataW.trod enc Tryz.prog W base sp held n 5 ((cs.drop 0).take (Tryz.prog.cellsOf 5)) = xs[0]? := hf 0 _ rfl
  have f1 : DataW.trod enc Tryz.prog W base sp held n 9 ((cs.drop 1).take (Tryz.prog.cellsOf 9)) = xs[1]? := hf 1 _ rfl
  have f2 : DataW.trod enc Tryz.prog W base sp held n 24 ((cs.drop 2).take (Tryz.prog.cellsOf 24)) = xs[2]? := hf 2 _ rfl
  have f3 : DataW.trod enc Tryz.prog W base sp held n 3 ((cs.drop 34).take (Tryz.prog.cellsOf 3)) = xs[3]? := hf 3 _ rfl
  have f4 : DataW.trod enc Tryz.prog W base sp held n 26 ((cs.drop 35).take (Tryz.prog.cellsOf 26)) = xs[4]? := hf 4 _ rfl
  rw [c0] at f0
  rw [c1] at f1
  rw [c2] at f2
  rw [c3] at f3
  rw [c4] at f4
  rw [List.getElem?_eq_getElem (by omega)] at f0 f1 f2 f3 f4
  obtain ⟨n0, e0, _, w0⟩ := DataW.trod_int Tryz.underlying5 f0
  obtain ⟨s1, e1, _, _⟩ := DataW.trod_string Tryz.underlying9 f1
  obtain ⟨l, hl, e2⟩ := open_byteL f2
  obtain ⟨n3, e3, _, w3⟩ := DataW.trod_int Tryz.underlying3 f3
  obtain ⟨p, e4⟩ := open_platL f4
  obtain ⟨b0, b1⟩ := rough_u8 w0
  obtain ⟨b2, b3⟩ := rough_i64 w3
  obtain ⟨m, rfl⟩ : ∃ m : Nat, n0 = m := ⟨n0.toNat, by omega⟩
  refine ⟨⟨m, s1.data.toList, l, n3, p.1, p.2⟩, ⟨show m < 256 by omega, hl, b2, b3⟩, ?_⟩
  have st : str s1.data.toList = s1 := rfl
  unfold encR
  simp only [st]
  have e5 : cs = (cs.drop 0).take 1 ++ ((cs.drop 1).take 1 ++ ((cs.drop 2).take 32 ++ ((cs.drop 34).take 1 ++ (cs.drop 35).take 2))) := by
    have t5 : (cs.drop 35).take 2 = cs.drop 35 := List.take_of_length_le (by rw [List.length_drop]; omega)
    have t4 : (cs.drop 34).take 1 ++ cs.drop 35 = cs.drop 34 := by
      have := List.take_append_drop 1 (cs.drop 34)
      rwa [List.drop_drop] at this
    have t3 : (cs.drop 2).take 32 ++ cs.drop 34 = cs.drop 2 := by
      have := List.take_append_drop 32 (cs.drop 2)
      rwa [List.drop_drop] at this
    have t2 : (cs.drop 1).take 1 ++ cs.drop 2 = cs.drop 1 := by
      have := List.take_append_drop 1 (cs.drop 1)
      rwa [List.drop_drop] at this
    have t1 : (cs.drop 0).take 1 ++ cs.drop 1 = cs := by
      have := List.take_append_drop 1 (cs.drop 0)
      rwa [List.drop_drop] at this
    rw [t5, t4, t3, t2, t1]
  rw [e5, e0, e1, e2, e3, e4]
  simp
theorem open_rough {v0 : Value} {d : DataW H} {p : List MemPlace} (h : DataW.Trod enc Tryz.prog W base sp held 46 v0 d p) : ∃ r : RG, r.ok ∧ v0 = .agg (encR r).toArray := by
  obtain ⟨fuel, hf⟩ := h
  obtain ⟨r, hr, hc⟩ := open_roughL hf
  refine ⟨r, hr, ?_⟩
  have h37 := encR_len hr
  cases v0 with
  | agg cs =>
    have : cs.toList = encR r := hc
    rw [← this]
  | _ => rw [← hc] at h37; simp [Value.cells] at h37
/-- A list of them that comes in. -/
theorem open_roughs {fuel : Nat} {v : Value} {x : DataW H × List MemPlace} (h : DataW.trod enc Tryz.prog W base sp held fuel 47 [v] = some x) :
    ∃ (l : List RG) (xp : Option Addr) (cp : Nat), v = .slice xp l.length cp ∧ RghsC W xp l ∧ l.length ≤ maxLen ∧ ∀ B : Nat, (∀ el sp, x.1 = .slice el sp → (el.length + sp.length) * Tryz.prog.bytesOf 46 ≤ B) → l.length * Tryz.prog.bytesOf 46 ≤ B := by
  have hc4 : Tryz.prog.cellsOf 46 = 37 := by kernel_rfl
  rcases open_slice Tryz.underlying47 h with ⟨hcs, _⟩ | ⟨a, len, cap, m, n, D, Pl, hcs, _, hl, hm, hmm, hdx, hx⟩
  · exact ⟨[], none, 0, (List.cons.inj hcs).1, (fun i p hi => by cases hi), Nat.zero_le _, (fun B _ => by rw [List.length_nil, Nat.zero_mul]; exact Nat.zero_le _)⟩
  · have hlm : len ≤ m := by rw [hmm]; split <;> omega
    rw [hc4] at hx
    have key : ∀ i, i < len → ∃ z : RG, z.ok ∧ a.block < W.heap.size ∧ ∀ j v, (encR z)[j]? = some v → W.cell? ((a.add (i * 37)).add j) = some v := by
      intro i hi
      obtain ⟨cs', h1, h2⟩ := hx i (by omega)
      obtain ⟨_, h3, hat⟩ := World.cells?_some h1
      obtain ⟨r, hr, rfl⟩ := open_roughL h2
      have q0 := hat 0 (by decide)
      rw [Addr.add_zero'] at q0
      have hb := World.block_lt_of_cell? W _ (q0.trans (List.getElem?_eq_getElem (by rw [encR_len hr]; decide)))
      rw [add_block] at hb
      refine ⟨r, hr, hb, fun j v hj => ?_⟩
      have hj4 : j < 37 := by have := (List.getElem?_eq_some_iff.1 hj).1; rwa [encR_len hr] at this
      exact (hat j hj4).trans hj
    obtain ⟨f, hf⟩ := choose_lt key
    have e1 : ((List.range len).map f).length = len := by rw [List.length_map, List.length_range]
    have e2 : v = .slice (some a) len cap := (List.cons.inj hcs).1
    refine ⟨(List.range len).map f, some a, cap, by rw [e1]; exact e2, fun i p hi => ?_, ?_, ?_⟩
    · have hlt : i < len := by
        have := (List.getElem?_eq_some_iff.1 hi).1
        rwa [e1] at this
      rw [List.getElem?_map, List.getElem?_range hlt] at hi
      obtain rfl : f i = p := Option.some.inj hi
      exact ⟨(hf i hlt).1, a, rfl, (hf i hlt).2.1, (hf i hlt).2.2⟩
    · rw [e1]
      omega
    · intro B hB
      have := hB _ _ (by rw [hdx])
      rw [List.length_map, List.length_range, List.length_map, List.length_range, Nat.add_mul] at this
      rw [e1]
      omega
/-- A list of digests that comes in. -/
theorem open_digs {fuel : Nat} {v : Value} {x : DataW H × List MemPlace} (h : DataW.trod enc Tryz.prog W base sp held fuel 37 [v] = some x) :
    ∃ (l : List Bs) (xp : Option Addr) (cp : Nat), v = .slice xp l.length cp ∧ eDigs.at_ W (fun k => k < W.heap.size) l v ∧ l.length ≤ maxLen ∧ ∀ d ∈ l, d.length = 32 := by
  have hc4 : Tryz.prog.cellsOf 24 = 32 := by kernel_rfl
  rcases open_slice Tryz.underlying37 h with ⟨hcs, _⟩ | ⟨a, len, cap, m, n, D, Pl, hcs, _, hl, hm, hmm, _, hx⟩
  · exact ⟨[], none, 0, (List.cons.inj hcs).1, .inl ⟨(List.cons.inj hcs).1, rfl⟩, Nat.zero_le _, (fun d hd => by cases hd)⟩
  · have hlm : len ≤ m := by rw [hmm]; split <;> omega
    rw [hc4] at hx
    have key : ∀ i, i < len → ∃ z : Bs, z.length = 32 ∧ a.block < W.heap.size ∧ ∀ j v, (z.map byteV)[j]? = some v → W.cell? ((a.add (i * 32)).add j) = some v := by
      intro i hi
      obtain ⟨cs', h1, h2⟩ := hx i (by omega)
      obtain ⟨_, h3, hat⟩ := World.cells?_some h1
      obtain ⟨r, hr, rfl⟩ := open_byteL h2
      have q0 := hat 0 (by decide)
      rw [Addr.add_zero'] at q0
      have hb := World.block_lt_of_cell? W _ (q0.trans (List.getElem?_eq_getElem (by rw [List.length_map, hr]; decide)))
      rw [add_block] at hb
      refine ⟨r, hr, hb, fun j v hj => ?_⟩
      have hj4 : j < 32 := by have := (List.getElem?_eq_some_iff.1 hj).1; rwa [List.length_map, hr] at this
      exact (hat j hj4).trans hj
    obtain ⟨f, hf⟩ := choose_lt key
    have e1 : ((List.range len).map f).length = len := by rw [List.length_map, List.length_range]
    have e2 : v = .slice (some a) len cap := (List.cons.inj hcs).1
    have hg : ∀ (i : Nat) (p : Bs), ((List.range len).map f)[i]? = some p → i < len ∧ f i = p := fun i p hi => by
      have hlt : i < len := by
        have := (List.getElem?_eq_some_iff.1 hi).1
        rwa [e1] at this
      rw [List.getElem?_map, List.getElem?_range hlt] at hi
      exact ⟨hlt, Option.some.inj hi⟩
    refine ⟨(List.range len).map f, some a, cap, by rw [e1]; exact e2, .inr ⟨a, cap, by rw [e1]; exact e2, fun i p hi => ?_⟩, ?_, fun d hd => ?_⟩
    · obtain ⟨hlt, rfl⟩ := hg i p hi
      refine ⟨(hf i hlt).2.1, (hf i hlt).1, fun j u hj => ?_⟩
      have hh := (hf i hlt).2.2 j u (by simpa [cells8] using hj)
      rw [add_add] at hh
      rwa [show 32 * i + j = i * 32 + j by omega]
    · rw [e1]
      omega
    · obtain ⟨i, hi⟩ := List.mem_iff_getElem?.1 hd
      obtain ⟨hlt, rfl⟩ := hg i d hi
      exact (hf i hlt).1
end
end Go.Proofs.YtlknngplnimdpaaGreatDoor

/- Layer 13: two platforms, two descriptors; a descriptor copied; the one that is picked. -/
namespace Go.Proofs.YtlknngplnimdpaaGreatDoor
open Go.RowKit

def eqPB (a b : Bs × Bs) : Bool := decide (a.1 = b.1) && decide (a.2 = b.2)
theorem eqPB_iff (a b : Bs × Bs) : eqPB a b = true ↔ a = b := by
  unfold eqPB
  rw [Bool.and_eq_true, decide_eq_true_eq, decide_eq_true_eq]
  exact ⟨fun h => Prod.ext h.1 h.2, fun h => by rw [h]; exact ⟨rfl, rfl⟩⟩
def eqDB (a b : DV) : Bool := decide (a.media = b.media) && (decide (a.dig = b.dig) && (decide (a.size = b.size) && eqPB (a.os, a.arch) (b.os, b.arch)))
theorem eqDB_iff (a b : DV) : eqDB a b = true ↔ a = b := by
  unfold eqDB
  rw [Bool.and_eq_true, Bool.and_eq_true, Bool.and_eq_true, decide_eq_true_eq, decide_eq_true_eq, decide_eq_true_eq, eqPB_iff]
  obtain ⟨a1, a2, a3, a4, a5⟩ := a
  obtain ⟨b1, b2, b3, b4, b5⟩ := b
  simp only [DV.mk.injEq, Prod.mk.injEq]
theorem fields_plat : (Tryz.prog.fieldsOf 26).toList = [⟨"OS", 9, 0, false, "", "", 0⟩, ⟨"Arch", 9, 1, false, "", "", 16⟩] := by kernel_rfl
theorem fields_desc : (Tryz.prog.fieldsOf 28).toList = [⟨"Media", 9, 0, false, "", "", 0⟩, ⟨"Digest", 24, 1, false, "", "", 16⟩, ⟨"Size", 3, 33, false, "", "", 48⟩, ⟨"Platform", 26, 34, false, "", "", 56⟩] := by kernel_rfl
theorem txt_eq (x y : List UInt8) : ((str x).toList == (str y).toList) = decide (x = y) := eq_texts x y
theorem eq_plat (w : World) (d : Nat) (a b : Bs × Bs) : (Op.equalIn (d + 2) 26 (.agg (encP a)) (.agg (encP b))).run Tryz.prog w = .ok (eqPB a b) w := by
  rw [run_equalIn_struct w (d + 1) _ _ _ (by kernel_rfl) (by kernel_rfl), fields_plat]
  have e1 (x y : List UInt8) (w : World) : (Op.equalIn (d + 1) 9 (.string (str x)) (.string (str y))).run Tryz.prog w = .ok (decide (x = y)) w := by
    rw [run_equalIn_string w d _ _ _ Tryz.underlying9, txt_eq]
  have p0 (q : Bs × Bs) (w : World) : (part 9 (encP q) 0).run Tryz.prog w = .ok (.string (str q.1)) w := run_part_plain w (by kernel_rfl) rfl
  have p1 (q : Bs × Bs) (w : World) : (part 9 (encP q) 1).run Tryz.prog w = .ok (.string (str q.2)) w := run_part_plain w (by kernel_rfl) rfl
  simp only [Op.eqFields, show ("OS" : String) ≠ "_" by decide, show ("Arch" : String) ≠ "_" by decide, ne_eq, not_false_eq_true, if_true, Sem.run_bind, Sem.run_ite, Sem.run_pure, p0, p1, Result.andThen_ok, e1]
  unfold eqPB
  by_cases h1 : a.1 = b.1 <;> by_cases h2 : a.2 = b.2 <;> simp [h1, h2]
theorem guard_plat : Tryz.prog.eqGuardType Tryz.prog.depth 26 = false := by kernel_rfl
theorem encD_get {d : DV} (h : d.dig.length = 32) : (encD d)[0]? = some (.string (str d.media)) ∧ (encD d)[33]? = some (.int .i64 d.size) ∧ (encD d)[34]? = some (.string (str d.os)) ∧ (encD d)[35]? = some (.string (str d.arch)) := by
  rw [encD_list]
  unfold encL
  refine ⟨rfl, ?_, ?_, ?_⟩
  · rw [List.getElem?_toArray, List.getElem?_append_right (by simp [h])]; simp [h]
  · rw [List.getElem?_toArray, List.getElem?_append_right (by simp [h])]; simp [h]
  · rw [List.getElem?_toArray, List.getElem?_append_right (by simp [h])]; simp [h]
theorem encD_dig {d : DV} (h : d.dig.length = 32) : (encD d).extract 1 (1 + 32) = cells8 d.dig := by
  rw [encD_list]
  unfold encL cells8
  rw [List.extract_toArray]
  congr 1
  rw [List.extract_eq_take_drop, List.append_assoc, List.drop_append_of_le_length (by simp)]
  simp [h]
theorem encD_plx {d : DV} (h : d.dig.length = 32) : (encD d).extract 34 (34 + 2) = encP (d.os, d.arch) := by
  rw [encD_list]
  unfold encL encP
  rw [List.extract_toArray]
  apply congrArg List.toArray
  rw [List.extract_eq_take_drop, List.drop_append]
  have h2 : List.drop 33 (d.dig.map byteV) = [] := List.drop_eq_nil_of_le (by rw [List.length_map, h]; decide)
  simp [h, h2]
theorem part_agg {t : TypeId} {n : Nat} {cs : Array Value} {k : Nat} (hs : ∀ w, (sizeOf t).run Tryz.prog w = .ok n w) (ha : ∀ w, (isAgg t).run Tryz.prog w = .ok true w) (w : World) : (part t cs k).run Tryz.prog w = .ok (.agg (cs.extract k (k + n))) w := by
  unfold part
  rw [Sem.run_bind, ha, Result.andThen_ok]
  simp only [if_true, Sem.run_bind, hs, Result.andThen_ok, Sem.run_pure]
theorem eq_desc (w : World) (d : Nat) {a b : DV} (ha : a.dig.length = 32) (hb : b.dig.length = 32) : (Op.equalIn (d + 3) 28 (.agg (encD a)) (.agg (encD b))).run Tryz.prog w = .ok (eqDB a b) w := by
  rw [run_equalIn_struct w (d + 2) _ _ _ (by kernel_rfl) (by kernel_rfl), fields_desc]
  have e1 (x y : List UInt8) (w : World) : (Op.equalIn (d + 2) 9 (.string (str x)) (.string (str y))).run Tryz.prog w = .ok (decide (x = y)) w := by
    rw [run_equalIn_string w (d + 1) _ _ _ Tryz.underlying9, txt_eq]
  have e2 (x y : Int) (w : World) : (Op.equalIn (d + 2) 3 (.int .i64 x) (.int .i64 y)).run Tryz.prog w = .ok (x == y) w := run_equalIn_int w (d + 1) _ _ _ _ _ Tryz.underlying3
  have e3 := eq_digest w d ha hb
  have e4 := eq_plat w d (a.os, a.arch) (b.os, b.arch)
  have p0 (q : DV) (h : q.dig.length = 32) (w : World) : (part 9 (encD q) 0).run Tryz.prog w = .ok (.string (str q.media)) w := run_part_plain w (by kernel_rfl) (encD_get h).1
  have p1 (q : DV) (h : q.dig.length = 32) (w : World) : (part 24 (encD q) 1).run Tryz.prog w = .ok (.agg (cells8 q.dig)) w := by
    rw [part_agg (n := 32) (fun w => by kernel_rfl) (fun w => by kernel_rfl), encD_dig h]
  have p2 (q : DV) (h : q.dig.length = 32) (w : World) : (part 3 (encD q) 33).run Tryz.prog w = .ok (.int .i64 q.size) w := run_part_plain w (by kernel_rfl) (encD_get h).2.1
  have p3 (q : DV) (h : q.dig.length = 32) (w : World) : (part 26 (encD q) 34).run Tryz.prog w = .ok (.agg (encP (q.os, q.arch))) w := by
    rw [part_agg (n := 2) (fun w => by kernel_rfl) (fun w => by kernel_rfl), encD_plx h]
  simp only [Op.eqFields, show ("Media" : String) ≠ "_" by decide, show ("Digest" : String) ≠ "_" by decide, show ("Size" : String) ≠ "_" by decide, show ("Platform" : String) ≠ "_" by decide, ne_eq, not_false_eq_true, if_true, Sem.run_bind, Sem.run_ite, Sem.run_pure, p0 a ha, p0 b hb, p1 a ha, p1 b hb, p2 a ha, p2 b hb, p3 a ha, p3 b hb, Result.andThen_ok, e1, e2, e3, e4]
  unfold eqDB
  cases eqPB (a.os, a.arch) (b.os, b.arch)
  all_goals by_cases h1 : a.media = b.media <;> by_cases h2 : a.dig = b.dig <;> by_cases h3 : a.size = b.size <;> simp [h1, h2, h3]
theorem guard_desc : Tryz.prog.eqGuardType Tryz.prog.depth 28 = false := by kernel_rfl
theorem set_again {cs : Array Value} {i : Nat} {v : Value} (h : cs[i]? = some v) : cs.setIfInBounds i v = cs := by
  apply Array.ext_getElem?
  intro j
  rw [Array.getElem?_setIfInBounds]
  split
  · rename_i e
    subst e
    split
    · exact h.symm
    · rename_i h2
      rw [Array.getElem?_eq_none (by omega)]
  · rfl
theorem rowC_again {w : World} {b : Nat} {cs : Array Value} {t : TypeId} (h : rowC w b cs t) {i : Nat} {v : Value} (hv : cs[i]? = some v) : rowC (w.setCell ⟨b, i, none⟩ v) b cs t := by
  have := rowC_set h i v
  rwa [set_again hv] at this
/-- A part of a row is read, where a guard may stand ahead of it. -/
theorem wpList_load_midG {P : Program} {ops : Array Oper} {rest : List Oper} {op : Oper} {a : Act} {w : World} {Q : Exit → Act → World → Prop} (hw : Region.wanted op (yielded ops a.tmps) = true) (ty : TypeId) (x : Operand) (ho : op.op = .load ty x)
    (b o : Nat) (hx : a.eval x = .pointer (some ⟨b, o, none⟩)) (cs : List Value) (d : TypeDesc) (hc : w.rangeAt b o cs)
    (hu : P.underlying ty = some d) (hd : d.isRow = true) (hi : (P.info? ty).map (·.size) = some cs.length)
    (h : wpList P ops Q rest (a.put op.dst (.agg cs.toArray)) w) : wpList P ops Q (op :: rest) a w := by
  rw [wpList, if_pos hw]
  exact .inl (wp_load_mid ty x ho b o hx cs d hc hu hd hi h)
theorem desc_pla {w : World} {b : Nat} {d : DV} (hd : d.dig.length = 32) (h : rowC w b (encD d) 28) : w.rangeAt b 34 [.string (str d.os), .string (str d.arch)] :=
  rowC_range h 34 _ (fun j v hv => by
    match j, hv with
    | 0, hv => rw [(encD_get hd).2.2.1]; exact hv
    | 1, hv => rw [(encD_get hd).2.2.2]; exact hv)
end Go.Proofs.YtlknngplnimdpaaGreatDoor

/- Layer 13: a descriptor copied; the one that is picked. -/
namespace Go.Proofs.YtlknngplnimdpaaGreatDoor
open Go.RowKit

set_option maxRecDepth 100000 in
set_option maxHeartbeats 4000000 in
theorem oclone_any (d : DV) (w : World) (hd : goodD d) :
    Calls Tryz.prog 66 #[.agg (encD d)] w fun e w' => e = .returned (.agg (encD d)) ∧ Below w.heap.size w w' := by
  obtain ⟨W0, hW0⟩ : ∃ W0, W0 = (w.alloc (.cells (encD d) 28)).alloc (.cells (encD zeroD) 28) := ⟨_, rfl⟩
  have s1 : (w.alloc (.cells (encD d) 28)).heap.size = w.heap.size + 1 := size_alloc _ _
  have R0 : rowC W0 w.heap.size (encD d) 28 := by rw [hW0]; exact rowC_alloc (rowC_new _ _ _) _
  have Z0 : rowC W0 (w.heap.size + 1) (encD zeroD) 28 := by rw [hW0, ← s1]; exact rowC_new _ _ _
  have B0 : Below w.heap.size w W0 := by rw [hW0]; exact ((Below.refl _ _).alloc (Nat.le_refl _) _).alloc (by rw [s1]; omega) _
  have S0 : W0.heap.size = w.heap.size + 2 := by rw [hW0, size_alloc, s1]
  obtain ⟨g0, _, g34, g35⟩ := encD_get hd.1
  have C1 := fun w => clone_any (str d.media) w (by rw [str_size]; exact hd.2.1)
  have C2 := fun w => clone_any (str d.os) w (by rw [str_size]; exact hd.2.2.1)
  have C3 := fun w => clone_any (str d.arch) w (by rw [str_size]; exact hd.2.2.2)
  have q0 : W0.cell? ⟨w.heap.size, 0, none⟩ = some (.string (str d.media)) := by rw [rowC_cell R0]; exact g0
  have HG34 := Lib.hid g34
  have HG35 := Lib.hid g35
  have HG0 := Lib.hid g0
  have HW0 := Lib.hid hW0
  have HR0 := Lib.hid R0
  have HZ0 := Lib.hid Z0
  have HB0 := Lib.hid B0
  have HI := Lib.hid (show (Tryz.prog.info? 28).map (·.size) = some (encD d).size by rw [encD_size d hd]; exact info_D)
  have HSZ := Lib.hid (show (encD zeroD).size = (encD d).size by rw [encD_size d hd]; rfl)
  clear hW0 R0 Z0 B0 g0 g34 g35
  go_enter Tryz.func66, Tryz.ntmps66
  go_upto_region 1 with (fail)
  change Code.wp _ _ _ _ ((w.alloc (.cells (encD d) 28)).alloc (.cells (encD zeroD) 28))
  rw [← HW0.out]
  clear HW0
  -- the media type
  go_upto_region 2 with (go_at_call 97; (with_reducible refine (C1 _).mono ?_); rintro e w1 ⟨rfl, b1⟩; have R1 := rowC_below HR0.out b1 (by omega); have Z1 := rowC_below HZ0.out b1 (by omega); have t0 := rowC_cell R1 0; rw [HG0.out] at t0; have f0 := rowC_free R1 0; have HR1 := Lib.hid R1; have HZ1 := Lib.hid Z1; have HB1 := Lib.hid (HB0.out.trans (b1.mono (by omega))); have hs1 := b1.size; clear R1 Z1 b1)
  have HR1' := Lib.hid (rowC_again HR1.out HG0.out)
  have HZ1' := Lib.hid (rowC_other HZ1.out ⟨w.heap.size, 0, none⟩ (.string (str d.media)) (by show w.heap.size + 1 ≠ w.heap.size; omega))
  have HB1' := Lib.hid (HB1.out.setCell (p := ⟨w.heap.size, 0, none⟩) (Nat.le_refl _) (.string (str d.media)))
  have hs1' : (w1.setCell ⟨w.heap.size, 0, none⟩ (.string (str d.media))).heap.size = w1.heap.size := World.size_setCell _ _ _
  generalize w1.setCell ⟨w.heap.size, 0, none⟩ (.string (str d.media)) = v1 at *
  have q34 : v1.cell? ⟨w.heap.size, 34, none⟩ = some (.string (str d.os)) := by rw [rowC_cell HR1'.out]; exact HG34.out
  clear t0 f0 HR1 HZ1 HB1 q0
  -- the platform's two texts
  go_upto_region 3 with (go_at_call 97; (with_reducible refine (C2 _).mono ?_); rintro e w2 ⟨rfl, b2⟩; have R2 := rowC_below HR1'.out b2 (by omega); have Z2 := rowC_below HZ1'.out b2 (by omega); have t0 := rowC_cell R2 34; rw [HG34.out] at t0; have f0 := rowC_free R2 34; have HR2 := Lib.hid R2; have HZ2 := Lib.hid Z2; have HB2 := Lib.hid (HB1'.out.trans (b2.mono (by omega))); have hs2 := b2.size; clear R2 Z2 b2)
  have HR2' := Lib.hid (rowC_again HR2.out HG34.out)
  have HZ2' := Lib.hid (rowC_other HZ2.out ⟨w.heap.size, 34, none⟩ (.string (str d.os)) (by show w.heap.size + 1 ≠ w.heap.size; omega))
  have HB2' := Lib.hid (HB2.out.setCell (p := ⟨w.heap.size, 34, none⟩) (Nat.le_refl _) (.string (str d.os)))
  have hs2' : (w2.setCell ⟨w.heap.size, 34, none⟩ (.string (str d.os))).heap.size = w2.heap.size := World.size_setCell _ _ _
  generalize w2.setCell ⟨w.heap.size, 34, none⟩ (.string (str d.os)) = v2 at *
  have q35 : v2.cell? ⟨w.heap.size, 35, none⟩ = some (.string (str d.arch)) := by rw [rowC_cell HR2'.out]; exact HG35.out
  clear t0 f0 HR2 HZ2 HB2 q34
  go_upto_region 4 with (go_at_call 97; (with_reducible refine (C3 _).mono ?_); rintro e w3 ⟨rfl, b3⟩; have R3 := rowC_below HR2'.out b3 (by omega); have Z3 := rowC_below HZ2'.out b3 (by omega); have t0 := rowC_cell R3 35; rw [HG35.out] at t0; have f0 := rowC_free R3 35; have HR3 := Lib.hid R3; have HZ3 := Lib.hid Z3; have HB3 := Lib.hid (HB2'.out.trans (b3.mono (by omega))); have hs3 := b3.size; clear R3 Z3 b3)
  have HR3' := Lib.hid (rowC_again HR3.out HG35.out)
  have HZ3' := Lib.hid (rowC_other HZ3.out ⟨w.heap.size, 35, none⟩ (.string (str d.arch)) (by show w.heap.size + 1 ≠ w.heap.size; omega))
  have HB3' := Lib.hid (HB3.out.setCell (p := ⟨w.heap.size, 35, none⟩) (Nat.le_refl _) (.string (str d.arch)))
  generalize w3.setCell ⟨w.heap.size, 35, none⟩ (.string (str d.arch)) = v3 at *
  clear t0 f0 HR3 HZ3 HB3 q35
  go_wp2_with (first
    | ((with_reducible show wpList _ _ _ (⟨some 19, .load _ _, _, _, _, _⟩ :: _) _ _); refine wpList_load_row rfl 28 _ rfl w.heap.size rfl 28 (encD d) (0, 0) _ HR3'.out Tryz.underlying28 rfl HI.out ?_)
    | ((with_reducible show wpList _ _ _ (⟨none, .store _ (.tmp 2) _, _, _, _, _⟩ :: _) _ _); refine wpList_store_row rfl 28 _ _ rfl (w.heap.size + 1) (encD d) rfl rfl 28 _ HZ3'.out HI.out HSZ.out (encD_one _) ?_))
  refine bodyPost_ret (results_cell_row rfl _ _ (w.heap.size + 1) 28 (encD d) (0, 0) _ rfl (rowC_setRow HZ3'.out _) Tryz.underlying28 rfl HI.out) rfl ?_
  exact ⟨rfl, below_setRow HB3'.out (by omega) _⟩
end Go.Proofs.YtlknngplnimdpaaGreatDoor

/- Layer 13: Pick. -/
namespace Go.Proofs.YtlknngplnimdpaaGreatDoor
open Go.RowKit

theorem find_at {α : Type} {q : α → Bool} : ∀ {l : List α} {j : Nat} {d : α}, (∀ i d', i < j → l[i]? = some d' → q d' = false) → l[j]? = some d → q d = true → l.find? q = some d
  | [], _, _, _, hd, _ => by simp at hd
  | x :: l, 0, d, _, hd, hq => by
    simp only [List.getElem?_cons_zero, Option.some.injEq] at hd
    subst hd
    simp [List.find?, hq]
  | x :: l, j + 1, d, h, hd, hq => by
    have hx := h 0 x (by omega) rfl
    rw [List.getElem?_cons_succ] at hd
    have := find_at (fun i d' hi hd' => h (i + 1) d' (by omega) (by rw [List.getElem?_cons_succ]; exact hd')) hd hq
    simp [List.find?, hx, this]
def pickQ (p : Bs × Bs) (d : DV) : Bool := kindN d.media == 1 && (decide (d.os = p.1) && decide (d.arch = p.2))
def pickA (l : List DV) (p : Bs × Bs) : DV × Nat := match l.find? (pickQ p) with | some d => (d, 0) | none => (zeroD, 73)
theorem pickQ_eq (p : Bs × Bs) (d : DV) : pickQ p d = (kindN d.media == 1 && eqPB (d.os, d.arch) p) := rfl
theorem pickA_some {l : List DV} {p : Bs × Bs} {d : DV} (h : l.find? (pickQ p) = some d) : pickA l p = (d, 0) := by unfold pickA; rw [h]
theorem pickA_none {l : List DV} {p : Bs × Bs} (h : ∀ (i : Nat) (d : DV), l[i]? = some d → pickQ p d = false) : pickA l p = (zeroD, 73) := by
  unfold pickA
  rw [List.find?_eq_none.2 (fun d hd => by obtain ⟨i, hi⟩ := List.mem_iff_getElem?.1 hd; rw [h i d hi]; decide)]
set_option maxRecDepth 100000 in
set_option maxHeartbeats 8000000 in
theorem pick_any (l : List DV) (p : Bs × Bs) (x : Option Addr) (cc : Nat) (w : World) (hll : l.length ≤ 65536) (hL : eDess.at_ w (fun k => k < w.heap.size) l (.slice x l.length cc)) :
    Calls Tryz.prog 27 #[.slice x l.length cc, .agg #[.string (str p.1), .string (str p.2)]] w fun e w' => e = .returned (.tuple #[.agg (encD (pickA l p).1), .int .i64 ((pickA l p).2 : Int)]) ∧ Below w.heap.size w w' := by
  obtain ⟨W0, hW0⟩ : ∃ W0, W0 = (w.alloc (.cells #[.string (str p.1), .string (str p.2)] 26)).alloc (.cells (encD zeroD) 28) := ⟨_, rfl⟩
  have s1 : (w.alloc (.cells #[.string (str p.1), .string (str p.2)] 26)).heap.size = w.heap.size + 1 := size_alloc _ _
  have R0 : rowC W0 w.heap.size #[.string (str p.1), .string (str p.2)] 26 := by rw [hW0]; exact rowC_alloc (rowC_new _ _ _) _
  have Z0 : rowC W0 (w.heap.size + 1) (encD zeroD) 28 := by rw [hW0, ← s1]; exact rowC_new _ _ _
  have B0 : Below w.heap.size w W0 := by rw [hW0]; exact ((Below.refl _ _).alloc (Nat.le_refl _) _).alloc (by rw [s1]; omega) _
  have S0 : W0.heap.size = w.heap.size + 2 := by rw [hW0, size_alloc, s1]
  have HCK := Lib.hid (fun (s : Bs) (w : World) => kind_any s w)
  have HW0 := Lib.hid hW0
  have HR0 := Lib.hid R0
  have HZ0 := Lib.hid Z0
  have HB0 := Lib.hid B0
  have HL := Lib.hid hL
  have HID := Lib.hid (fun (d : DV) (h : goodD d) => show (Tryz.prog.info? 28).map (·.size) = some (encD d).size by rw [encD_size d h]; exact info_D)
  have HSZ := Lib.hid (fun (d : DV) (h : goodD d) => show (encD zeroD).size = (encD d).size by rw [encD_size d h]; rfl)
  have gd := guard_plat
  have hu := Tryz.underlying26
  have g0 : goodD zeroD := ⟨rfl, by simp [zeroD], by simp [zeroD], by simp [zeroD]⟩
  have G0 := Lib.hid g0
  clear hW0 R0 Z0 B0 hL g0
  go_enter Tryz.func27, Tryz.ntmps27
  go_upto_region 1 with (fail)
  change Code.wp _ _ _ _ ((w.alloc (.cells #[.string (str p.1), .string (str p.2)] 26)).alloc (.cells (encD zeroD) 28))
  rw [← HW0.out]
  clear HW0
  go_wp2
  go_loopg [10] l.length (fun gk s10 wr => ∃ j : Nat, s10 = .int .i64 (j : Int) ∧ Hid (gk = l.length - j) ∧ Hid (j ≤ l.length) ∧ Hid (∀ i d, i < j → l[i]? = some d → pickQ p d = false) ∧ Hid (Below W0.heap.size W0 wr))
  case atStart => exact ⟨0, rfl, Lib.hid rfl, Lib.hid (Nat.zero_le _), Lib.hid (fun i d h => absurd h (Nat.not_lt_zero _)), Lib.hid (Below.refl _ _)⟩
  case round =>
    obtain ⟨j, rfl, HNj, HNL, HM, HBW⟩ := hrel
    have sw := HBW.out.size
    have hbw : Below w.heap.size w wr := HB0.out.trans (HBW.out.mono (by omega))
    by_cases hj : j < l.length
    · have hj1 : (j : Int) < (l.length : Int) := by omega
      obtain ⟨d, hd⟩ : ∃ d, l[j]? = some d := ⟨_, List.getElem?_eq_getElem hj⟩
      obtain ⟨gd', ad, rfl, hab, hcs⟩ := dess_at HL.out hd
      have HGD := Lib.hid gd'
      have HCS := Lib.hid (show ∀ i u, (encL d)[i]? = some u → wr.cell? ((ad.add (j * 36)).add i) = some u from fun i u hu => by
        rw [World.cell?_of_block (w := w) (w' := wr) (hbw.block _ (by rw [add_block, add_block]; exact hab))]
        exact hcs i u hu)
      have HDJ := Lib.hid hd
      have CD := HCK.out d.media
      have HEL := Lib.hid (encD_list d)
      have HIL := Lib.hid (show (Tryz.prog.info? 28).map (·.size) = some (encL d).length by rw [encL_len gd'.1]; exact info_D)
      have hjm : j ≤ 65536 := by omega
      clear gd' hcs hd hj
      go_upto_region 4 with (first
        | ((with_reducible show wpList _ _ _ (⟨some 13, .load _ _, _, _, _, _⟩ :: _) _ _); refine wpList_load_at rfl 28 _ rfl (ad.add (j * 36)) rfl (encL d) _ HCS.out Tryz.underlying28 rfl HIL.out ?_)
        | ((with_reducible show wpList _ _ _ (⟨none, .store _ (.tmp 7) _, _, _, _, _⟩ :: _) _ _); refine wpList_store_last rfl 28 _ _ rfl wr.heap.size (encD d) rfl (by rw [HEL.out]; rfl) 28 (encD zeroD) rfl (HID.out d HGD.out) (HSZ.out d HGD.out) (encD_one _) ?_))
      obtain ⟨W1, hW1⟩ : ∃ W1, W1 = wr.alloc (.cells (encD d) 28) := ⟨_, rfl⟩
      rw [← hW1]
      have R1 : rowC W1 wr.heap.size (encD d) 28 := by rw [hW1]; exact rowC_new _ _ _
      have q1 : W1.cell? ⟨wr.heap.size, 0, none⟩ = some (.string (str d.media)) := by rw [rowC_cell R1]; exact (encD_get HGD.out.1).1
      have BW1 : Below wr.heap.size wr W1 := by rw [hW1]; exact (Below.refl _ _).alloc (Nat.le_refl _) _
      have B1 := Lib.hid (HBW.out.trans (BW1.mono sw))
      have HP1 := Lib.hid (desc_pla HGD.out.1 R1)
      have HQ1 := Lib.hid (rowC_below (rowC_below HR0.out HBW.out (by omega)) BW1 (by omega))
      have HZ1 := Lib.hid (rowC_below (rowC_below HZ0.out HBW.out (by omega)) BW1 (by omega))
      have HR1 := Lib.hid R1
      have hs1 : wr.heap.size + 1 ≤ W1.heap.size := by rw [hW1, size_alloc]; omega
      clear hW1 R1 BW1
      have HQD := Lib.hid (pickQ_eq p d)
      have eq1 : ∀ w, (Op.equalIn 10000 26 (.agg #[.string (str d.os), .string (str d.arch)]) (.agg #[.string (str p.1), .string (str p.2)])).run Tryz.prog w = .ok (eqPB (d.os, d.arch) p) w := fun w => eq_plat w 9998 (d.os, d.arch) p
      by_cases h4 : kindN d.media = 1
      rotate_left
      · have e0 : Hid (pickQ p d = false) := Lib.hid (by rw [HQD.out, show (kindN d.media == 1) = false by simpa using h4]; rfl)
        have h4' : (((kindN d.media : Nat) : Int) == 1) = false := by rw [beq_eq_false_iff_ne]; omega
        generalize kindN d.media = kd at *
        clear h4 eq1 HQD
        go_wp2_with (go_at_call 24; ((with_reducible refine (CD _).mono ?_); rintro e w2 ⟨rfl, rfl⟩))
        go_roundg (l.length - (j + 1))
        case measure => rw [HNj.out]; omega
        case rel =>
          refine ⟨j + 1, rfl, Lib.hid rfl, Lib.hid (by omega), Lib.hid (fun i d' hi hd' => ?_), B1⟩
          by_cases hij : i = j
          · subst hij
            rw [HDJ.out] at hd'
            injection hd' with hd'
            rw [← hd']
            exact e0.out
          · exact HM.out i d' (by omega) hd'
      rw [h4] at CD HQD
      clear h4
      cases hq : eqPB (d.os, d.arch) p
      · have e0 : Hid (pickQ p d = false) := Lib.hid (by rw [HQD.out, hq]; rfl)
        rw [hq] at eq1
        clear hq HQD
        go_wp2_with (first
          | (go_at_call 24; ((with_reducible refine (CD _).mono ?_); rintro e w2 ⟨rfl, rfl⟩))
          | ((with_reducible show wpList _ _ _ (⟨some 20, .load _ _, _, _, _, _⟩ :: _) _ _); refine wpList_load_midG rfl 26 _ rfl wr.heap.size 34 rfl [.string (str d.os), .string (str d.arch)] _ HP1.out hu rfl info_P ?_)
          | ((with_reducible show wpList _ _ _ (⟨some 21, .load _ _, _, _, _, _⟩ :: _) _ _); refine wpList_load_rowG rfl 26 _ rfl w.heap.size rfl 26 #[.string (str p.1), .string (str p.2)] _ HQ1.out hu rfl info_P ?_))
        go_roundg (l.length - (j + 1))
        case measure => rw [HNj.out]; omega
        case rel =>
          refine ⟨j + 1, rfl, Lib.hid rfl, Lib.hid (by omega), Lib.hid (fun i d' hi hd' => ?_), B1⟩
          by_cases hij : i = j
          · subst hij
            rw [HDJ.out] at hd'
            injection hd' with hd'
            rw [← hd']
            exact e0.out
          · exact HM.out i d' (by omega) hd'
      · have e0 : Hid (pickA l p = (d, 0)) := Lib.hid (pickA_some (find_at (fun i d' hi hd' => HM.out i d' hi hd') HDJ.out (by rw [HQD.out, hq]; rfl)))
        rw [hq] at eq1
        clear hq HQD
        have CC := oclone_any d W1 HGD.out
        go_wp2_with (first
          | (go_at_call 24; ((with_reducible refine (CD _).mono ?_); rintro e w2 ⟨rfl, rfl⟩))
          | ((with_reducible show wpList _ _ _ (⟨some 20, .load _ _, _, _, _, _⟩ :: _) _ _); refine wpList_load_midG rfl 26 _ rfl wr.heap.size 34 rfl [.string (str d.os), .string (str d.arch)] _ HP1.out hu rfl info_P ?_)
          | ((with_reducible show wpList _ _ _ (⟨some 21, .load _ _, _, _, _, _⟩ :: _) _ _); refine wpList_load_rowG rfl 26 _ rfl w.heap.size rfl 26 #[.string (str p.1), .string (str p.2)] _ HQ1.out hu rfl info_P ?_)
          | ((with_reducible show wpList _ _ _ (⟨some 24, .load _ _, _, _, _, _⟩ :: _) _ _); refine wpList_load_row rfl 28 _ rfl wr.heap.size rfl 28 (encD d) (0, 0) _ HR1.out Tryz.underlying28 rfl (HID.out d HGD.out) ?_)
          | (go_at_call 66; refine CC.mono ?_; rintro e w3 ⟨rfl, b3⟩; have HZ3 := Lib.hid (rowC_below HZ1.out b3 (by omega)); have HB3 := Lib.hid b3; clear b3)
          | ((with_reducible show wpList _ _ _ (⟨none, .store _ (.tmp 4) _, _, _, _, _⟩ :: _) _ _); refine wpList_store_row rfl 28 _ _ rfl (w.heap.size + 1) (encD d) rfl rfl 28 _ HZ3.out (HID.out d HGD.out) (HSZ.out d HGD.out) (encD_one _) ?_))
        refine bodyPost_ret (results_row_tmp rfl _ _ (w.heap.size + 1) 28 (encD d) _ rfl (rowC_setRow HZ3.out _) Tryz.underlying28 rfl (HID.out d HGD.out) (.int .i64 0) rfl) rfl ?_
        rw [e0.out]
        have h1 := HB0.out.trans (B1.out.mono (by omega))
        exact ⟨rfl, below_setRow (h1.trans (HB3.out.mono h1.size)) (by omega) _⟩
    · have hj1 : ¬ (j : Int) < (l.length : Int) := by omega
      have e0 : Hid (pickA l p = (zeroD, 73)) := Lib.hid (pickA_none fun i d hi => HM.out i d (by have := (List.getElem?_eq_some_iff.1 hi).1; omega) hi)
      have HZ1 := Lib.hid (rowC_below HZ0.out HBW.out (by omega))
      clear hj
      go_wp2_with (first
        | ((with_reducible show wpList _ _ _ (⟨some 27, .build _ _, _, _, _, _⟩ :: _) _ _); refine wpList_build_as rfl 28 _ rfl (encD zeroD) (by kernel_rfl) ?_)
        | ((with_reducible show wpList _ _ _ (⟨none, .store _ (.tmp 4) _, _, _, _, _⟩ :: _) _ _); refine wpList_store_row rfl 28 _ _ rfl (w.heap.size + 1) (encD zeroD) rfl rfl 28 _ HZ1.out (HID.out _ G0.out) rfl (encD_one _) ?_))
      refine bodyPost_ret (results_row_tmp rfl _ _ (w.heap.size + 1) 28 (encD zeroD) _ rfl (rowC_setRow HZ1.out _) Tryz.underlying28 rfl (HID.out _ G0.out) (.int .i64 73) rfl) rfl ?_
      rw [e0.out]
      exact ⟨rfl, below_setRow hbw (by omega) _⟩
end Go.Proofs.YtlknngplnimdpaaGreatDoor

