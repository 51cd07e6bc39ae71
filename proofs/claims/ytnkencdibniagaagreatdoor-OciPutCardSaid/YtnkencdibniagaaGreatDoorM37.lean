/- Merged: OeG, OeH, OeI. -/
import Derived.Test.YtnkencdibniagaaGreatDoorM36
import Derived.Test.YtnkencdibniagaaGreatDoorM28
import Derived.Test.YtnkencdibniagaaGreatDoorM32
/- Layer 13: PutIndex. -/
namespace Go.Proofs.YtnkencdibniagaaGreatDoor
open Go.RowKit

theorem okJ_lf (k : Int) (t : Bs) (h : k = 3 → t.length ≤ 70368744177664) : okJ (.mk k t [] []) := by
  rw [okJ]
  exact ⟨h, ⟨by simp, by simp, fun y hy => by cases hy⟩, okJL_of fun x hx => by cases hx⟩
theorem okJ_obj {l : List (Bs × JV)} (h1 : l.length ≤ 65536) (h2 : ∀ p ∈ l, p.1.length ≤ 262144 ∧ okJ p.2) : okJ (objJ l) := by
  unfold objJ
  rw [okJ]
  refine ⟨fun h => (by cases h), ⟨by rw [List.length_map]; exact h1, by rw [List.length_map]; exact h1, fun y hy => ?_⟩, okJL_of fun x hx => ?_⟩
  · obtain ⟨p, hp, rfl⟩ := List.mem_map.1 hy
    exact (h2 p hp).1
  · obtain ⟨p, hp, rfl⟩ := List.mem_map.1 hx
    exact (h2 p hp).2
theorem okJ_lst {l : List JV} (h1 : l.length ≤ 65536) (h2 : ∀ v ∈ l, okJ v) : okJ (lstJ l) := by
  unfold lstJ
  rw [okJ]
  exact ⟨fun h => (by cases h), ⟨h1, by simp, fun y hy => by cases hy⟩, okJL_of h2⟩
theorem okJ_num {n : Int} (h0 : -9223372036854775808 ≤ n) (h1 : n ≤ 9223372036854775807) : okJ (numJ n) := okJ_lf 3 _ fun _ => by have := Lib.itoa_length_le n h0 h1; omega
theorem okJ_txt (s : Bs) : okJ (txtJ s) := okJ_lf 4 _ fun h => by cases h
theorem okJ_bare {d : DV} (hd : putD d) : okJ (bareJ d) := okJ_obj (by show 3 ≤ 65536; omega) fun p hp => by
  simp only [fldJ, List.mem_cons, List.not_mem_nil, or_false] at hp
  rcases hp with rfl | rfl | rfl
  · exact ⟨Nat.le_of_ble_eq_true rfl, okJ_txt _⟩
  · exact ⟨Nat.le_of_ble_eq_true rfl, okJ_txt _⟩
  · exact ⟨Nat.le_of_ble_eq_true rfl, okJ_num hd.2.1 hd.2.2⟩
theorem okJ_pla (os arch : Bs) : okJ (plaJ os arch) := okJ_obj (by show 2 ≤ 65536; omega) fun p hp => by
  simp only [List.mem_cons, List.not_mem_nil, or_false] at hp
  rcases hp with rfl | rfl
  · exact ⟨Nat.le_of_ble_eq_true rfl, okJ_txt _⟩
  · exact ⟨Nat.le_of_ble_eq_true rfl, okJ_txt _⟩
theorem okJ_full {d : DV} (hd : putD d) : okJ (fullJ d) := okJ_obj (by show 4 ≤ 65536; omega) fun p hp => by
  simp only [fldJ, List.cons_append, List.nil_append, List.mem_cons, List.not_mem_nil, or_false] at hp
  rcases hp with rfl | rfl | rfl | rfl
  · exact ⟨Nat.le_of_ble_eq_true rfl, okJ_txt _⟩
  · exact ⟨Nat.le_of_ble_eq_true rfl, okJ_txt _⟩
  · exact ⟨Nat.le_of_ble_eq_true rfl, okJ_num hd.2.1 hd.2.2⟩
  · exact ⟨Nat.le_of_ble_eq_true rfl, okJ_pla _ _⟩
theorem okJ_idx {l : List DV} (hl : l.length ≤ 32) (hp : ∀ d ∈ l, putD d) : okJ (idxJ l) := okJ_obj (by show 3 ≤ 65536; omega) fun p hq => by
  simp only [List.mem_cons, List.not_mem_nil, or_false] at hq
  rcases hq with rfl | rfl | rfl
  · exact ⟨Nat.le_of_ble_eq_true rfl, okJ_num (by omega) (by omega)⟩
  · exact ⟨Nat.le_of_ble_eq_true rfl, okJ_txt _⟩
  · refine ⟨Nat.le_of_ble_eq_true rfl, okJ_lst (by rw [List.length_map]; omega) fun v hv => ?_⟩
    obtain ⟨d, hd, rfl⟩ := List.mem_map.1 hv
    exact okJ_full (hp d hd)
theorem fldr3 {w : World} {g B : Nat} {k1 k2 k3 : Bs} {v1 v2 v3 : JV} {a1 b1 c1 d1 a2 b2 c2 d2 a3 b3 c3 d3 : Value} (h : rowC w g #[.string (str k1), a1, b1, c1, d1, .string (str k2), a2, b2, c2, d2, .string (str k3), a3, b3, c3, d3] 102) (hg : g < w.heap.size)
    (h1 : HoldsC w (fun q => B ≤ q ∧ q < w.heap.size) v1 a1 b1 c1 d1) (h2 : HoldsC w (fun q => B ≤ q ∧ q < w.heap.size) v2 a2 b2 c2 d2) (h3 : HoldsC w (fun q => B ≤ q ∧ q < w.heap.size) v3 a3 b3 c3 d3) : FldR w B [(k1, v1), (k2, v2), (k3, v3)] (some ⟨g, 0, none⟩) := by
  intro i k v hi
  rcases i with _ | _ | _ | i
  · simp only [List.getElem?_cons_zero, Option.some.injEq, Prod.mk.injEq] at hi
    obtain ⟨rfl, rfl⟩ := hi
    refine ⟨⟨g, 0, none⟩, _, _, _, _, rfl, hg, ?_, h1⟩
    intro j u hu
    rcases j with _ | _ | _ | _ | _ | j
    · exact (rowC_cell h 0).trans hu
    · exact (rowC_cell h 1).trans hu
    · exact (rowC_cell h 2).trans hu
    · exact (rowC_cell h 3).trans hu
    · exact (rowC_cell h 4).trans hu
    · simp at hu
  · simp only [List.getElem?_cons_succ, List.getElem?_cons_zero, Option.some.injEq, Prod.mk.injEq] at hi
    obtain ⟨rfl, rfl⟩ := hi
    refine ⟨⟨g, 0, none⟩, _, _, _, _, rfl, hg, ?_, h2⟩
    intro j u hu
    rcases j with _ | _ | _ | _ | _ | j
    · exact (rowC_cell h 5).trans hu
    · exact (rowC_cell h 6).trans hu
    · exact (rowC_cell h 7).trans hu
    · exact (rowC_cell h 8).trans hu
    · exact (rowC_cell h 9).trans hu
    · simp at hu
  · simp only [List.getElem?_cons_succ, List.getElem?_cons_zero, Option.some.injEq, Prod.mk.injEq] at hi
    obtain ⟨rfl, rfl⟩ := hi
    refine ⟨⟨g, 0, none⟩, _, _, _, _, rfl, hg, ?_, h3⟩
    intro j u hu
    rcases j with _ | _ | _ | _ | _ | j
    · exact (rowC_cell h 10).trans hu
    · exact (rowC_cell h 11).trans hu
    · exact (rowC_cell h 12).trans hu
    · exact (rowC_cell h 13).trans hu
    · exact (rowC_cell h 14).trans hu
    · simp at hu
  · simp at hi
@[reducible] def idxC (y : Option Addr) (N m : Nat) (z : Option Addr) (n : Nat) : Array Value := #[.string ⟨#[115, 99, 104, 101, 109, 97, 86, 101, 114, 115, 105, 111, 110]⟩, .int .i64 3, .string (str (Lib.itoa 2)), .slice none 0 0, .slice none 0 0, .string ⟨#[109, 101, 100, 105, 97, 84, 121, 112, 101]⟩, .int .i64 4, .string ⟨#[97, 112, 112, 108, 105, 99, 97, 116, 105, 111, 110, 47, 118, 110, 100, 46, 111, 99, 105, 46, 105, 109, 97, 103, 101, 46, 105, 110, 100, 101, 120, 46, 118, 49, 43, 106, 115, 111, 110]⟩, .slice none 0 0, .slice none 0 0, .string ⟨#[109, 97, 110, 105, 102, 101, 115, 116, 115]⟩, .int .i64 5, .string ⟨#[]⟩, .slice y N m, .slice z 0 n]
set_option maxRecDepth 100000 in
set_option maxHeartbeats 16000000 in
theorem putIndex_any (l : List DV) (x : Option Addr) (cc : Nat) (w : World) (hE : Env2 w) (hl : l.length ≤ 70368744177664) (hp : ∀ d ∈ l, putD d) (hL : eDess.at_ w (fun k => k < w.heap.size) l (.slice x l.length cc)) :
    Calls Tryz.prog 20 #[.slice x l.length cc] w fun e w' => e = .returned (.tuple #[.string (str (idxA l).1), .int .i64 ((idxA l).2 : Int)]) ∧ Below w.heap.size w w' := by
  obtain ⟨R, hR⟩ : ∃ R, R = idxA l := ⟨_, rfl⟩
  rw [← hR]
  have HR := Lib.hid hR
  have CM := omayBe_any l x cc w hE hl hL
  obtain ⟨M, hM⟩ : ∃ M, M = l.all mayD := ⟨_, rfl⟩
  rw [← hM] at CM
  have HM := Lib.hid hM
  have HE := Lib.hid hE
  have HP := Lib.hid hp
  have HL := Lib.hid hL
  clear hR hM hE hp hL
  go_enter Tryz.func20, Tryz.ntmps20
  cases M with
  | false =>
    have e0 : Hid (R = ([], 2)) := Lib.hid (by rw [HR.out]; unfold idxA; rw [if_pos HM.out.symm])
    go_wp2_with (go_at_call 49; ((with_reducible refine CM.mono ?_); rintro e w2 ⟨rfl, hb2⟩))
    go_ret2
    rw [e0.out]
    exact ⟨rfl, hb2⟩
  | true =>
    by_cases h32 : 32 < l.length
    · have e0 : Hid (R = ([], 63)) := Lib.hid (by rw [HR.out]; unfold idxA; rw [if_neg (by rw [← HM.out]; simp), if_pos h32])
      have h32' : (32 : Int) < (l.length : Int) := by omega
      go_wp2_with (go_at_call 49; ((with_reducible refine CM.mono ?_); rintro e w2 ⟨rfl, hb2⟩))
      go_ret2
      rw [e0.out]
      exact ⟨rfl, hb2⟩
    have e0 : Hid (R = printA (idxJ l)) := Lib.hid (by rw [HR.out]; unfold idxA; rw [if_neg (by rw [← HM.out]; simp), if_neg h32])
    have h32' : ¬ (32 : Int) < (l.length : Int) := by omega
    go_upto_region 5 with (go_at_call 49; ((with_reducible refine CM.mono ?_); rintro e w2 ⟨rfl, hb2⟩; have HB2 := Lib.hid hb2; clear hb2))
    have s2 := HB2.out.size
    have HBW : ∀ w', Gn w2 no w' → Below w.heap.size w w' := fun w' hg => HB2.out.trans ((hg.below (B := w.heap.size) s2 (fun _ _ h => h)))
    have CV : ∀ w', Gn w2 no w' → Calls Tryz.prog 51 #[.int .i64 2] w' fun e w3 => e = .returned (.agg #[.int .i64 3, .string (str (Lib.itoa 2)), .slice none 0 0, .slice none 0 0]) ∧ Gn w2 no w3 := fun w' hg =>
      (number_put 2 (by omega) (by omega) w' (HE.out.below (HBW w' hg))).mono (fun e w3 h => ⟨h.1, hg.call h.2⟩)
    have CT : ∀ w', Gn w2 no w' → Calls Tryz.prog 52 #[.string ⟨#[97, 112, 112, 108, 105, 99, 97, 116, 105, 111, 110, 47, 118, 110, 100, 46, 111, 99, 105, 46, 105, 109, 97, 103, 101, 46, 105, 110, 100, 101, 120, 46, 118, 49, 43, 106, 115, 111, 110]⟩] w' fun e w3 => e = .returned (.agg #[.int .i64 4, .string ⟨#[97, 112, 112, 108, 105, 99, 97, 116, 105, 111, 110, 47, 118, 110, 100, 46, 111, 99, 105, 46, 105, 109, 97, 103, 101, 46, 105, 110, 100, 101, 120, 46, 118, 49, 43, 106, 115, 111, 110]⟩, .slice none 0 0, .slice none 0 0]) ∧ Gn w2 no w3 := fun w' hg =>
      (text_put mIdx w').mono (fun e w3 h => ⟨h.1, hg.call h.2⟩)
    have CL : ∀ w', Gn w2 no w' → Calls Tryz.prog 54 #[.slice x l.length cc, .func (.func 59) #[] #[]] w' fun e w3 => ∃ y m z n, e = .returned (.agg #[.int .i64 5, .string ⟨#[]⟩, .slice y l.length m, .slice z 0 n]) ∧ HoldsC w3 (fun q => w.heap.size ≤ q ∧ q < w3.heap.size) (lstJ (l.map fullJ)) (.int .i64 5) (.string ⟨#[]⟩) (.slice y l.length m) (.slice z 0 n) ∧ Gn w2 no w3 := fun w' hg => by
      have hb := HBW w' hg
      refine (lsput_des putF_des l x cc w' (HE.out.below hb) (by omega) HP.out (eDess.mono (eDess.chg HL.out (Chg.of_below (s := no) hb) (fun _ _ h => h)) (fun k hk _ => Nat.lt_of_lt_of_le hk hb.size))).mono ?_
      rintro e w3 ⟨y, m, z, n, rfl, hV, hb3⟩
      have e1 : (lstJ (l.map fullJ)).items.length = l.length := by unfold lstJ; simp [JV.items]
      rw [e1] at hV ⊢
      exact ⟨y, m, z, n, rfl, HoldsC.mono (fun k hk hlt => ⟨Nat.le_trans hb.size hk.1, hlt⟩) _ _ _ _ _ hV, hg.call hb3⟩
    have CO : ∀ w' b y m z n, Gn w2 no w' → rowC w' b (idxC y l.length m z n) 102 → b < w'.heap.size → HoldsC w' (fun q => w.heap.size ≤ q ∧ q < w'.heap.size) (lstJ (l.map fullJ)) (.int .i64 5) (.string ⟨#[]⟩) (.slice y l.length m) (.slice z 0 n) → Calls Tryz.prog 50 #[.slice (some ⟨b, 0, none⟩) 3 3] w' fun e w3 => ∃ y m z n, e = .returned (.agg #[.int .i64 6, .string ⟨#[]⟩, .slice y 3 m, .slice z 3 n]) ∧ HoldsC w3 (fun q => q < w3.heap.size) (idxJ l) (.int .i64 6) (.string ⟨#[]⟩) (.slice y 3 m) (.slice z 3 n) ∧ Gn w2 no w3 := fun w' b y m z n hg h1 h2 h3 => by
      have hb := HBW w' hg
      refine (object_put [(kVer, numJ 2), (kMed, txtJ mIdx), (kMan, lstJ (l.map fullJ))] w.heap.size _ 3 w' hb.size (by show 3 ≤ 1000; omega) (fldr3 (k1 := kVer) (k2 := kMed) (k3 := kMan) h1 h2 (leaf_holds _ _ 3 (Lib.itoa 2) (by have := Lib.itoa_length_le 2 (by omega) (by omega); omega)) (leaf_holds _ _ 4 mIdx (by decide)) h3)).mono ?_
      rintro e w3 ⟨y, m, z, n, rfl, hV, hb3⟩
      exact ⟨y, m, z, n, rfl, HoldsC.mono (fun k hk hlt => hlt) _ _ _ _ _ hV, hg.call hb3⟩
    have CP : ∀ w' y m z n, Gn w2 no w' → HoldsC w' (fun q => q < w'.heap.size) (idxJ l) (.int .i64 6) (.string ⟨#[]⟩) (.slice y 3 m) (.slice z 3 n) → Calls Tryz.prog 29 #[.agg #[.int .i64 6, .string ⟨#[]⟩, .slice y 3 m, .slice z 3 n]] w' fun e w3 => e = .returned (.tuple #[.string (str R.1), .int .i64 (R.2 : Int)]) ∧ Gn w2 no w3 := fun w' y m z n hg hV => by
      rw [e0.out]
      refine (print_any (okJ_idx (by omega) HP.out) (HE.out.below (HBW w' hg)).env hV).mono ?_
      rintro e w3 ⟨rfl, hb3⟩
      exact ⟨rfl, hg.call hb3⟩
    have HBB := Lib.hid HBW
    clear HBW
    go_wp2_with (first
      | (go_at_call 51; ((with_reducible refine (CV _ (Gn.refl _ _)).mono ?_); rintro e v0 ⟨rfl, g0⟩))
      | (go_at_call 52; ((with_reducible refine (CT _ g0).mono ?_); rintro e v2 ⟨rfl, g2⟩))
      | (go_at_call 54; ((with_reducible refine (CL _ g2).mono ?_); rintro e v5 ⟨y, m, z, n, rfl, h5, g5⟩; have H5 := Lib.hid h5; clear h5))
      | (go_at_call 50; ((with_reducible refine (CO _ _ _ _ _ _ (Gn.alloc g5 _) (rowC_new _ _ _) (by rw [size_alloc]; omega) (HoldsC.mono (fun k hk _ => ⟨hk.1, by rw [size_alloc]; have := hk.2; omega⟩) _ _ _ _ _ (HoldsC.chg ((Chg.refl (fun _ => False) _).alloc _) (fun _ _ h => h) _ _ _ _ _ H5.out))).mono ?_); rintro e v8 ⟨y8, m8, z8, n8, rfl, h8, g8⟩; have H8 := Lib.hid h8; clear h8))
      | (go_at_call 29; ((with_reducible refine (CP _ _ _ _ _ g8 H8.out).mono ?_); rintro e v9 ⟨rfl, g9⟩)))
    go_ret2
    exact ⟨rfl, HBB.out _ g9⟩
end Go.Proofs.YtnkencdibniagaaGreatDoor

/- Layer 13: PutImage. -/
namespace Go.Proofs.YtnkencdibniagaaGreatDoor
open Go.RowKit

theorem fldr2 {w : World} {g B : Nat} {k1 k2 : Bs} {v1 v2 : JV} {a1 b1 c1 d1 a2 b2 c2 d2 : Value} (h : rowC w g #[.string (str k1), a1, b1, c1, d1, .string (str k2), a2, b2, c2, d2] 102) (hg : g < w.heap.size)
    (h1 : HoldsC w (fun q => B ≤ q ∧ q < w.heap.size) v1 a1 b1 c1 d1) (h2 : HoldsC w (fun q => B ≤ q ∧ q < w.heap.size) v2 a2 b2 c2 d2) : FldR w B [(k1, v1), (k2, v2)] (some ⟨g, 0, none⟩) := by
  intro i k v hi
  rcases i with _ | _ | i
  · simp only [List.getElem?_cons_zero, Option.some.injEq, Prod.mk.injEq] at hi
    obtain ⟨rfl, rfl⟩ := hi
    refine ⟨⟨g, 0, none⟩, _, _, _, _, rfl, hg, ?_, h1⟩
    intro j u hu
    rcases j with _ | _ | _ | _ | _ | j
    · exact (rowC_cell h 0).trans hu
    · exact (rowC_cell h 1).trans hu
    · exact (rowC_cell h 2).trans hu
    · exact (rowC_cell h 3).trans hu
    · exact (rowC_cell h 4).trans hu
    · simp at hu
  · simp only [List.getElem?_cons_succ, List.getElem?_cons_zero, Option.some.injEq, Prod.mk.injEq] at hi
    obtain ⟨rfl, rfl⟩ := hi
    refine ⟨⟨g, 0, none⟩, _, _, _, _, rfl, hg, ?_, h2⟩
    intro j u hu
    rcases j with _ | _ | _ | _ | _ | j
    · exact (rowC_cell h 5).trans hu
    · exact (rowC_cell h 6).trans hu
    · exact (rowC_cell h 7).trans hu
    · exact (rowC_cell h 8).trans hu
    · exact (rowC_cell h 9).trans hu
    · simp at hu
  · simp at hi
def rooJ (l : List Bs) : JV := objJ [(kTyp, txtJ kLay), (kDif, lstJ (l.map digJ))]
theorem okJ_roo {l : List Bs} (hl : l.length ≤ 8) : okJ (rooJ l) := okJ_obj (by show 2 ≤ 65536; omega) fun p hq => by
  simp only [List.mem_cons, List.not_mem_nil, or_false] at hq
  rcases hq with rfl | rfl
  · exact ⟨Nat.le_of_ble_eq_true rfl, okJ_txt _⟩
  · refine ⟨Nat.le_of_ble_eq_true rfl, okJ_lst (by rw [List.length_map]; omega) fun v hv => ?_⟩
    obtain ⟨d, hd, rfl⟩ := List.mem_map.1 hv
    exact okJ_txt _
theorem okJ_img {p : Bs × Bs} {l : List Bs} (hl : l.length ≤ 8) : okJ (imgJ p l) := okJ_obj (by show 3 ≤ 65536; omega) fun q hq => by
  simp only [List.mem_cons, List.not_mem_nil, or_false] at hq
  rcases hq with rfl | rfl | rfl
  · exact ⟨Nat.le_of_ble_eq_true rfl, okJ_txt _⟩
  · exact ⟨Nat.le_of_ble_eq_true rfl, okJ_txt _⟩
  · exact ⟨Nat.le_of_ble_eq_true rfl, okJ_roo hl⟩
@[reducible] def rooC (y : Option Addr) (N m : Nat) (z : Option Addr) (n : Nat) : Array Value := #[.string ⟨#[116, 121, 112, 101]⟩, .int .i64 4, .string ⟨#[108, 97, 121, 101, 114, 115]⟩, .slice none 0 0, .slice none 0 0, .string ⟨#[100, 105, 102, 102, 95, 105, 100, 115]⟩, .int .i64 5, .string ⟨#[]⟩, .slice y N m, .slice z 0 n]
@[reducible] def imgC (p : Bs × Bs) (y : Option Addr) (m : Nat) (z : Option Addr) (n : Nat) : Array Value := #[.string ⟨#[97, 114, 99, 104, 105, 116, 101, 99, 116, 117, 114, 101]⟩, .int .i64 4, .string (str p.2), .slice none 0 0, .slice none 0 0, .string ⟨#[111, 115]⟩, .int .i64 4, .string (str p.1), .slice none 0 0, .slice none 0 0, .string ⟨#[114, 111, 111, 116, 102, 115]⟩, .int .i64 6, .string ⟨#[]⟩, .slice y 2 m, .slice z 2 n]
set_option maxRecDepth 100000 in
set_option maxHeartbeats 16000000 in
theorem putImage_any (p : Bs × Bs) (l : List Bs) (x : Option Addr) (cc : Nat) (w : World) (hE : Env2 w) (hl : l.length ≤ 70368744177664) (h1 : p.1.length ≤ 281474976710656) (h2 : p.2.length ≤ 281474976710656) (hL : eDigs.at_ w (fun k => k < w.heap.size) l (.slice x l.length cc)) :
    Calls Tryz.prog 22 #[.agg (row3 (str p.1) (str p.2) x l.length cc)] w fun e w' => e = .returned (.tuple #[.string (str (imgA p l).1), .int .i64 ((imgA p l).2 : Int)]) ∧ Below w.heap.size w w' := by
  obtain ⟨R, hR⟩ : ∃ R, R = imgA p l := ⟨_, rfl⟩
  rw [← hR]
  have HR := Lib.hid hR
  obtain ⟨W0, hW0⟩ : ∃ W0, W0 = w.alloc (.cells (row3 (str p.1) (str p.2) x l.length cc) 39) := ⟨_, rfl⟩
  have R0 : rowC W0 w.heap.size (row3 (str p.1) (str p.2) x l.length cc) 39 := by rw [hW0]; exact rowC_new w _ _
  have B0 : Below w.heap.size w W0 := by rw [hW0]; exact (Below.refl _ _).alloc (Nat.le_refl _) _
  have S0 : W0.heap.size = w.heap.size + 1 := by rw [hW0, size_alloc]
  have CI : Calls Tryz.prog 60 #[.agg #[.string (str p.1), .string (str p.2)]] W0 fun e w' => e = .returned (.bool (Lib.validD p.1 && Lib.validD p.2)) ∧ Below W0.heap.size W0 w' := isText_any p h1 h2 W0 (hE.below B0)
  obtain ⟨M, hM⟩ : ∃ M, M = (Lib.validD p.1 && Lib.validD p.2) := ⟨_, rfl⟩
  rw [← hM] at CI
  have HM := Lib.hid hM
  have HE := Lib.hid hE
  have HL := Lib.hid hL
  have HW0 := Lib.hid hW0
  have HR0 := Lib.hid R0
  have HB0 := Lib.hid B0
  have HIP := Lib.hid info_P
  have HP1 := Lib.hid h1
  have HP2 := Lib.hid h2
  have RG := Lib.hid (rowC_range R0 0 [.string (str p.1), .string (str p.2)] (fun i u hu => by
    rw [Nat.zero_add]
    rcases i with _ | _ | i
    · exact hu
    · exact hu
    · simp at hu))
  clear hR hM hE hL hW0 R0 B0 h1 h2
  go_enter Tryz.func22, Tryz.ntmps22
  go_upto_region 1 with (fail)
  rw [show w.alloc (.cells (row3 (str p.1) (str p.2) x l.length cc) 39) = W0 from HW0.out.symm]
  cases M with
  | false =>
    have e0 : Hid (R = ([], 2)) := Lib.hid (by rw [HR.out]; unfold imgA; rw [if_pos HM.out.symm])
    go_wp2_with (first
      | ((with_reducible show wpList _ _ _ (⟨some 5, .load _ _, _, _, _, _⟩ :: _) _ _); refine wpList_load_mid rfl 26 _ rfl w.heap.size 0 rfl [.string (str p.1), .string (str p.2)] _ RG.out Tryz.underlying26 rfl HIP.out ?_)
      | (go_at_call 60; ((with_reducible refine CI.mono ?_); rintro e w2 ⟨rfl, hb2⟩)))
    go_ret2
    rw [e0.out]
    exact ⟨rfl, HB0.out.trans (hb2.mono (by omega))⟩
  | true =>
    go_upto_region 3 with (first
      | ((with_reducible show wpList _ _ _ (⟨some 5, .load _ _, _, _, _, _⟩ :: _) _ _); refine wpList_load_mid rfl 26 _ rfl w.heap.size 0 rfl [.string (str p.1), .string (str p.2)] _ RG.out Tryz.underlying26 rfl HIP.out ?_)
      | (go_at_call 60; ((with_reducible refine CI.mono ?_); rintro e w2 ⟨rfl, hb2⟩; have HB2 := Lib.hid hb2; clear hb2)))
    have s2 := HB2.out.size
    have R2 := rowC_below HR0.out HB2.out (rowC_lt HR0.out)
    have q2 : w2.cell? ⟨w.heap.size, 2, none⟩ = some (.slice x l.length cc) := rowC_cell R2 2
    have HR2 := Lib.hid R2
    clear R2
    by_cases h8 : 8 < l.length
    · have e0 : Hid (R = ([], 63)) := Lib.hid (by rw [HR.out]; unfold imgA; rw [if_neg (by have := HM.out; simp at this; simp [this]), if_pos h8])
      have h8' : (8 : Int) < (l.length : Int) := by omega
      go_wp2
      go_ret2
      rw [e0.out]
      exact ⟨rfl, HB0.out.trans (HB2.out.mono (by omega))⟩
    have e0 : Hid (R = printA (imgJ p l)) := Lib.hid (by rw [HR.out]; unfold imgA; rw [if_neg (by have := HM.out; simp at this; simp [this]), if_neg h8])
    have h8' : ¬ (8 : Int) < (l.length : Int) := by omega
    go_upto_region 5 with (fail)
    have HBW : ∀ w', Gn w2 no w' → Below w.heap.size w w' := fun w' hg => (HB0.out.trans (HB2.out.mono (by omega))).trans ((hg.below (B := w.heap.size) (by omega) (fun _ _ h => h)))
    have CA : ∀ w', Gn w2 no w' → Calls Tryz.prog 52 #[.string (str p.2)] w' fun e w3 => e = .returned (.agg #[.int .i64 4, .string (str p.2), .slice none 0 0, .slice none 0 0]) ∧ Gn w2 no w3 := fun w' hg =>
      (text_put p.2 w').mono (fun e w3 h => ⟨h.1, hg.call h.2⟩)
    have CT : ∀ w', Gn w2 no w' → Calls Tryz.prog 52 #[.string (str p.1)] w' fun e w3 => e = .returned (.agg #[.int .i64 4, .string (str p.1), .slice none 0 0, .slice none 0 0]) ∧ Gn w2 no w3 := fun w' hg =>
      (text_put p.1 w').mono (fun e w3 h => ⟨h.1, hg.call h.2⟩)
    have CK : ∀ w', Gn w2 no w' → Calls Tryz.prog 52 #[.string ⟨#[108, 97, 121, 101, 114, 115]⟩] w' fun e w3 => e = .returned (.agg #[.int .i64 4, .string ⟨#[108, 97, 121, 101, 114, 115]⟩, .slice none 0 0, .slice none 0 0]) ∧ Gn w2 no w3 := fun w' hg =>
      (text_put kLay w').mono (fun e w3 h => ⟨h.1, hg.call h.2⟩)
    have CL : ∀ w', Gn w2 no w' → Calls Tryz.prog 61 #[.slice x l.length cc, .func (.func 62) #[] #[]] w' fun e w3 => ∃ y m z n, e = .returned (.agg #[.int .i64 5, .string ⟨#[]⟩, .slice y l.length m, .slice z 0 n]) ∧ HoldsC w3 (fun q => w.heap.size ≤ q ∧ q < w3.heap.size) (lstJ (l.map digJ)) (.int .i64 5) (.string ⟨#[]⟩) (.slice y l.length m) (.slice z 0 n) ∧ Gn w2 no w3 := fun w' hg => by
      have hb := HBW w' hg
      refine (lsput_dig l x cc w' (HE.out.below hb) (by omega) (eDigs.mono (eDigs.chg HL.out (Chg.of_below (s := no) hb) (fun _ _ h => h)) (fun k hk _ => Nat.lt_of_lt_of_le hk hb.size))).mono ?_
      rintro e w3 ⟨y, m, z, n, rfl, hV, hb3⟩
      have e1 : (lstJ (l.map digJ)).items.length = l.length := by unfold lstJ; simp [JV.items]
      rw [e1] at hV ⊢
      exact ⟨y, m, z, n, rfl, HoldsC.mono (fun k hk hlt => ⟨Nat.le_trans hb.size hk.1, hlt⟩) _ _ _ _ _ hV, hg.call hb3⟩
    have CO : ∀ w' b y m z n, Gn w2 no w' → rowC w' b (rooC y l.length m z n) 102 → b < w'.heap.size → HoldsC w' (fun q => w.heap.size ≤ q ∧ q < w'.heap.size) (lstJ (l.map digJ)) (.int .i64 5) (.string ⟨#[]⟩) (.slice y l.length m) (.slice z 0 n) → Calls Tryz.prog 50 #[.slice (some ⟨b, 0, none⟩) 2 2] w' fun e w3 => ∃ y m z n, e = .returned (.agg #[.int .i64 6, .string ⟨#[]⟩, .slice y 2 m, .slice z 2 n]) ∧ HoldsC w3 (fun q => w.heap.size ≤ q ∧ q < w3.heap.size) (rooJ l) (.int .i64 6) (.string ⟨#[]⟩) (.slice y 2 m) (.slice z 2 n) ∧ Gn w2 no w3 := fun w' b y m z n hg h1 h2 h3 => by
      have hb := HBW w' hg
      refine (object_put [(kTyp, txtJ kLay), (kDif, lstJ (l.map digJ))] w.heap.size _ 2 w' hb.size (by show 2 ≤ 1000; omega) (fldr2 (k1 := kTyp) (k2 := kDif) h1 h2 (leaf_holds _ _ 4 kLay (by decide)) h3)).mono ?_
      rintro e w3 ⟨y, m, z, n, rfl, hV, hb3⟩
      exact ⟨y, m, z, n, rfl, hV, hg.call hb3⟩
    have CQ : ∀ w' b y m z n, Gn w2 no w' → rowC w' b (imgC p y m z n) 102 → b < w'.heap.size → HoldsC w' (fun q => w.heap.size ≤ q ∧ q < w'.heap.size) (rooJ l) (.int .i64 6) (.string ⟨#[]⟩) (.slice y 2 m) (.slice z 2 n) → Calls Tryz.prog 50 #[.slice (some ⟨b, 0, none⟩) 3 3] w' fun e w3 => ∃ y m z n, e = .returned (.agg #[.int .i64 6, .string ⟨#[]⟩, .slice y 3 m, .slice z 3 n]) ∧ HoldsC w3 (fun q => q < w3.heap.size) (imgJ p l) (.int .i64 6) (.string ⟨#[]⟩) (.slice y 3 m) (.slice z 3 n) ∧ Gn w2 no w3 := fun w' b y m z n hg h1 h2 h3 => by
      have hb := HBW w' hg
      refine (object_put [(kArc, txtJ p.2), (kOS, txtJ p.1), (kRoo, rooJ l)] w.heap.size _ 3 w' hb.size (by show 3 ≤ 1000; omega) (fldr3 (k1 := kArc) (k2 := kOS) (k3 := kRoo) h1 h2 (leaf_holds _ _ 4 p.2 HP2.out) (leaf_holds _ _ 4 p.1 HP1.out) h3)).mono ?_
      rintro e w3 ⟨y, m, z, n, rfl, hV, hb3⟩
      exact ⟨y, m, z, n, rfl, HoldsC.mono (fun k hk hlt => hlt) _ _ _ _ _ hV, hg.call hb3⟩
    have CP : ∀ w' y m z n, Gn w2 no w' → HoldsC w' (fun q => q < w'.heap.size) (imgJ p l) (.int .i64 6) (.string ⟨#[]⟩) (.slice y 3 m) (.slice z 3 n) → Calls Tryz.prog 29 #[.agg #[.int .i64 6, .string ⟨#[]⟩, .slice y 3 m, .slice z 3 n]] w' fun e w3 => e = .returned (.tuple #[.string (str R.1), .int .i64 (R.2 : Int)]) ∧ Gn w2 no w3 := fun w' y m z n hg hV => by
      rw [e0.out]
      refine (print_any (okJ_img (by omega)) (HE.out.below (HBW w' hg)).env hV).mono ?_
      rintro e w3 ⟨rfl, hb3⟩
      exact ⟨rfl, hg.call hb3⟩
    have OS : ∀ w', Gn w2 no w' → w'.cell? ⟨w.heap.size, 0, none⟩ = some (.string (str p.1)) ∧ w'.cell? ⟨w.heap.size, 1, none⟩ = some (.string (str p.2)) ∧ w'.cell? ⟨w.heap.size, 2, none⟩ = some (.slice x l.length cc) := fun w' h => by
      have r := h.row HR2.out id
      exact ⟨rowC_cell r 0, rowC_cell r 1, rowC_cell r 2⟩
    have HBB := Lib.hid HBW
    clear HBW q2
    have SO : ∀ w', Gn w2 no w' → Gn w2 no w' := fun _ h => h
    refine wp_region_noPanic ?_
    refine wp_region_held_drew (S := Gn w2 no) (by kernel_rfl) (Gn.start _ _) (fun hHeld => ?_)
    generalize w2.drew = wd at *
    refine wpAnyH_take (i := 0) (oi := { dst := some 12, op := Op.fieldAddr 39 (Operand.tmp 1) 0, type := 0, pos := "oci.go:181", after := #[], guard := none }) (v := ?_) rfl (by kernel_rfl) (by kernel_rfl) (by kernel_rfl) (fun _ _ _ h => h) (Or.inl ⟨by rfl, ?_⟩) (by assumption) ?_
    rotate_left
    · intro w hSw
      skip
      clear hSw
      go_simp
      try with_reducible rfl
    try simp only [Act.put, List.setIfInBounds_toArray, List.set_cons_zero, List.set_cons_succ]
    refine wpAnyH_take (i := 1) (oi := { dst := some 13, op := Op.fieldAddr 26 (Operand.tmp 12) 1, type := 0, pos := "oci.go:181", after := #[{ on := 0, ground := Ground.data }], guard := none }) (v := ?_) rfl (by kernel_rfl) (by kernel_rfl) (by kernel_rfl) (fun _ _ _ h => h) (Or.inl ⟨by rfl, ?_⟩) (by assumption) ?_
    rotate_left
    · intro w hSw
      skip
      clear hSw
      go_simp
      try with_reducible rfl
    try simp only [Act.put, List.setIfInBounds_toArray, List.set_cons_zero, List.set_cons_succ]
    refine wpAnyH_take (i := 5) (oi := { dst := some 17, op := Op.fieldAddr 39 (Operand.tmp 1) 0, type := 0, pos := "oci.go:181", after := #[], guard := none }) (v := ?_) rfl (by kernel_rfl) (by kernel_rfl) (by kernel_rfl) (fun _ _ _ h => h) (Or.inl ⟨by rfl, ?_⟩) (by assumption) ?_
    rotate_left
    · intro w hSw
      skip
      clear hSw
      go_simp
      try with_reducible rfl
    try simp only [Act.put, List.setIfInBounds_toArray, List.set_cons_zero, List.set_cons_succ]
    refine wpAnyH_take (i := 6) (oi := { dst := some 18, op := Op.fieldAddr 26 (Operand.tmp 17) 0, type := 0, pos := "oci.go:181", after := #[{ on := 5, ground := Ground.data }], guard := none }) (v := ?_) rfl (by kernel_rfl) (by kernel_rfl) (by kernel_rfl) (fun _ _ _ h => h) (Or.inl ⟨by rfl, ?_⟩) (by assumption) ?_
    rotate_left
    · intro w hSw
      skip
      clear hSw
      go_simp
      try with_reducible rfl
    try simp only [Act.put, List.setIfInBounds_toArray, List.set_cons_zero, List.set_cons_succ]
    refine wpAnyH_take (i := 12) (oi := { dst := some 24, op := Op.fieldAddr 39 (Operand.tmp 1) 1, type := 0, pos := "oci.go:181", after := #[], guard := none }) (v := ?_) rfl (by kernel_rfl) (by kernel_rfl) (by kernel_rfl) (fun _ _ _ h => h) (Or.inl ⟨by rfl, ?_⟩) (by assumption) ?_
    rotate_left
    · intro w hSw
      skip
      clear hSw
      go_simp
      try with_reducible rfl
    try simp only [Act.put, List.setIfInBounds_toArray, List.set_cons_zero, List.set_cons_succ]
    refine wpAnyH_take (i := 2) (oi := { dst := some 14, op := Op.load 9 (Operand.tmp 13), type := 9, pos := "oci.go:181", after := #[{ on := 1, ground := Ground.data }], guard := none }) (v := ?_) rfl (by kernel_rfl) (by kernel_rfl) (by kernel_rfl) (fun _ _ _ h => h) (Or.inl ⟨by rfl, ?_⟩) (by assumption) ?_
    rotate_left
    · intro w hSw
      have hSw := OS _ hSw
      go_simp
      try with_reducible rfl
    try simp only [Act.put, List.setIfInBounds_toArray, List.set_cons_zero, List.set_cons_succ]
    refine wpAnyH_take (i := 7) (oi := { dst := some 19, op := Op.load 9 (Operand.tmp 18), type := 9, pos := "oci.go:181", after := #[{ on := 6, ground := Ground.data }], guard := none }) (v := ?_) rfl (by kernel_rfl) (by kernel_rfl) (by kernel_rfl) (fun _ _ _ h => h) (Or.inl ⟨by rfl, ?_⟩) (by assumption) ?_
    rotate_left
    · intro w hSw
      have hSw := OS _ hSw
      go_simp
      try with_reducible rfl
    try simp only [Act.put, List.setIfInBounds_toArray, List.set_cons_zero, List.set_cons_succ]
    refine wpAnyH_take (i := 13) (oi := { dst := some 25, op := Op.load 37 (Operand.tmp 24), type := 37, pos := "oci.go:181", after := #[{ on := 12, ground := Ground.data }], guard := none }) (v := ?_) rfl (by kernel_rfl) (by kernel_rfl) (by kernel_rfl) (fun _ _ _ h => h) (Or.inl ⟨by rfl, ?_⟩) (by assumption) ?_
    rotate_left
    · intro w hSw
      have hSw := OS _ hSw
      go_simp
      try with_reducible rfl
    try simp only [Act.put, List.setIfInBounds_toArray, List.set_cons_zero, List.set_cons_succ]
    refine wpAnyH_ready (rs := [3]) (by kernel_rfl) (by simp) ?_
    refine (AllReadyH.cons (o := { dst := some 15, op := Op.call { callee := Callee.value (Operand.func 52), args := #[Operand.tmp 14], argTypes := #[9] }, type := 63, pos := "oci.go:182", after := #[{ on := 2, ground := Ground.data }], guard := none }) rfl (fun K hK => ?_) AllReadyH.nil)
    go_simp
    with_reducible refine (CA _ hHeld).mono ?_
    rintro e w3' ⟨rfl, m3'⟩
    refine hK.out _ _ (SO _ (by assumption)) (fun hHeld => ?_)
    clear hK K
    try simp only [Act.put, List.setIfInBounds_toArray, List.set_cons_zero, List.set_cons_succ]
    refine wpAnyH_take (i := 4) (oi := { dst := some 16, op := Op.build 102 #[(0, Operand.const (Value.string { data := #[97, 114, 99, 104, 105, 116, 101, 99, 116, 117, 114, 101] })), (1, Operand.tmp 15)], type := 102, pos := "oci.go:181", after := #[{ on := 3, ground := Ground.data }], guard := none }) (v := ?_) rfl (by kernel_rfl) (by kernel_rfl) (by kernel_rfl) (fun _ _ _ h => h) (Or.inl ⟨by rfl, ?_⟩) (by assumption) ?_
    rotate_left
    · intro w hSw
      skip
      clear hSw
      go_simp
      try with_reducible rfl
    try simp only [Act.put, List.setIfInBounds_toArray, List.set_cons_zero, List.set_cons_succ]
    refine wpAnyH_ready (rs := [8]) (by kernel_rfl) (by simp) ?_
    refine (AllReadyH.cons (o := { dst := some 20, op := Op.call { callee := Callee.value (Operand.func 52), args := #[Operand.tmp 19], argTypes := #[9] }, type := 63, pos := "oci.go:183", after := #[{ on := 7, ground := Ground.data }, { on := 3, ground := Ground.chain }], guard := none }) rfl (fun K hK => ?_) AllReadyH.nil)
    go_simp
    with_reducible refine (CT _ hHeld).mono ?_
    rintro e w8' ⟨rfl, m8'⟩
    refine hK.out _ _ (SO _ (by assumption)) (fun hHeld => ?_)
    clear hK K
    try simp only [Act.put, List.setIfInBounds_toArray, List.set_cons_zero, List.set_cons_succ]
    refine wpAnyH_take (i := 9) (oi := { dst := some 21, op := Op.build 102 #[(0, Operand.const (Value.string { data := #[111, 115] })), (1, Operand.tmp 20)], type := 102, pos := "oci.go:181", after := #[{ on := 8, ground := Ground.data }], guard := none }) (v := ?_) rfl (by kernel_rfl) (by kernel_rfl) (by kernel_rfl) (fun _ _ _ h => h) (Or.inl ⟨by rfl, ?_⟩) (by assumption) ?_
    rotate_left
    · intro w hSw
      skip
      clear hSw
      go_simp
      try with_reducible rfl
    try simp only [Act.put, List.setIfInBounds_toArray, List.set_cons_zero, List.set_cons_succ]
    refine wpAnyH_ready (rs := [10]) (by kernel_rfl) (by simp) ?_
    refine (AllReadyH.cons (o := { dst := some 22, op := Op.call { callee := Callee.value (Operand.func 52), args := #[Operand.const (Value.string { data := #[108, 97, 121, 101, 114, 115] })], argTypes := #[9] }, type := 63, pos := "oci.go:185", after := #[{ on := 8, ground := Ground.chain }], guard := none }) rfl (fun K hK => ?_) AllReadyH.nil)
    go_simp
    with_reducible refine (CK _ hHeld).mono ?_
    rintro e w10' ⟨rfl, m10'⟩
    refine hK.out _ _ (SO _ (by assumption)) (fun hHeld => ?_)
    clear hK K
    try simp only [Act.put, List.setIfInBounds_toArray, List.set_cons_zero, List.set_cons_succ]
    refine wpAnyH_take (i := 11) (oi := { dst := some 23, op := Op.build 102 #[(0, Operand.const (Value.string { data := #[116, 121, 112, 101] })), (1, Operand.tmp 22)], type := 102, pos := "oci.go:181", after := #[{ on := 10, ground := Ground.data }], guard := none }) (v := ?_) rfl (by kernel_rfl) (by kernel_rfl) (by kernel_rfl) (fun _ _ _ h => h) (Or.inl ⟨by rfl, ?_⟩) (by assumption) ?_
    rotate_left
    · intro w hSw
      skip
      clear hSw
      go_simp
      try with_reducible rfl
    try simp only [Act.put, List.setIfInBounds_toArray, List.set_cons_zero, List.set_cons_succ]
    refine wpAnyH_ready (rs := [14]) (by kernel_rfl) (by simp) ?_
    refine (AllReadyH.cons (o := { dst := some 26, op := Op.call { callee := Callee.value (Operand.func 61), args := #[Operand.tmp 25, Operand.func 62], argTypes := #[37, 112] }, type := 63, pos := "oci.go:186", after := #[{ on := 13, ground := Ground.data }, { on := 10, ground := Ground.chain }], guard := none }) rfl (fun K hK => ?_) AllReadyH.nil)
    go_simp
    with_reducible refine (CL _ hHeld).mono ?_
    rintro e w14' ⟨y, m, z, n, rfl, h14, m14'⟩
    have H14 := Lib.hid h14; clear h14
    refine hK.out _ _ (SO _ (by assumption)) (fun hHeld => ?_)
    clear hK K
    try simp only [Act.put, List.setIfInBounds_toArray, List.set_cons_zero, List.set_cons_succ]
    refine wpAnyH_take (i := 15) (oi := { dst := some 27, op := Op.build 102 #[(0, Operand.const (Value.string { data := #[100, 105, 102, 102, 95, 105, 100, 115] })), (1, Operand.tmp 26)], type := 102, pos := "oci.go:181", after := #[{ on := 14, ground := Ground.data }], guard := none }) (v := ?_) rfl (by kernel_rfl) (by kernel_rfl) (by kernel_rfl) (fun _ _ _ h => h) (Or.inl ⟨by rfl, ?_⟩) (by assumption) ?_
    rotate_left
    · intro w hSw
      skip
      clear hSw
      go_simp
      try with_reducible rfl
    try simp only [Act.put, List.setIfInBounds_toArray, List.set_cons_zero, List.set_cons_succ]
    refine wpAnyH_ready (rs := [16]) (by kernel_rfl) (by simp) ?_
    refine (AllReadyH.cons (o := { dst := some 28, op := Op.buildSlice 158 2 #[(0, Operand.tmp 23), (1, Operand.tmp 27)], type := 158, pos := "oci.go:181", after := #[{ on := 11, ground := Ground.data }, { on := 15, ground := Ground.data }], guard := none }) rfl (fun K hK => ?_) AllReadyH.nil)
    skip
    go_simp
    refine hK.out _ _ (SO _ (by exact Gn.alloc hHeld _)) (fun hHeld => ?_)
    clear hK K
    try simp only [Act.put, List.setIfInBounds_toArray, List.set_cons_zero, List.set_cons_succ]
    refine wpAnyH_ready (rs := [17]) (by kernel_rfl) (by simp) ?_
    refine (AllReadyH.cons (o := { dst := some 29, op := Op.call { callee := Callee.value (Operand.func 50), args := #[Operand.tmp 28], argTypes := #[158] }, type := 63, pos := "oci.go:184", after := #[{ on := 16, ground := Ground.data }, { on := 14, ground := Ground.chain }], guard := none }) rfl (fun K hK => ?_) AllReadyH.nil)
    go_simp
    with_reducible refine (CO _ _ _ _ _ _ hHeld (rowC_new _ _ _) (by rw [size_alloc]; omega) (HoldsC.mono (fun k hk _ => ⟨hk.1, by rw [size_alloc]; have := hk.2; omega⟩) _ _ _ _ _ (HoldsC.chg ((Chg.refl (fun _ => False) _).alloc _) (fun _ _ h => h) _ _ _ _ _ H14.out))).mono ?_
    rintro e w17' ⟨y7, m7, z7, n7, rfl, h17, m17'⟩
    have H17 := Lib.hid h17; clear h17
    refine hK.out _ _ (SO _ (by assumption)) (fun hHeld => ?_)
    clear hK K
    try simp only [Act.put, List.setIfInBounds_toArray, List.set_cons_zero, List.set_cons_succ]
    refine wpAnyH_take (i := 18) (oi := { dst := some 30, op := Op.build 102 #[(0, Operand.const (Value.string { data := #[114, 111, 111, 116, 102, 115] })), (1, Operand.tmp 29)], type := 102, pos := "oci.go:181", after := #[{ on := 17, ground := Ground.data }], guard := none }) (v := ?_) rfl (by kernel_rfl) (by kernel_rfl) (by kernel_rfl) (fun _ _ _ h => h) (Or.inl ⟨by rfl, ?_⟩) (by assumption) ?_
    rotate_left
    · intro w hSw
      skip
      clear hSw
      go_simp
      try with_reducible rfl
    try simp only [Act.put, List.setIfInBounds_toArray, List.set_cons_zero, List.set_cons_succ]
    refine wpAnyH_ready (rs := [19]) (by kernel_rfl) (by simp) ?_
    refine (AllReadyH.cons (o := { dst := some 31, op := Op.buildSlice 158 3 #[(0, Operand.tmp 16), (1, Operand.tmp 21), (2, Operand.tmp 30)], type := 158, pos := "oci.go:181", after := #[{ on := 4, ground := Ground.data }, { on := 9, ground := Ground.data }, { on := 18, ground := Ground.data }], guard := none }) rfl (fun K hK => ?_) AllReadyH.nil)
    skip
    go_simp
    refine hK.out _ _ (SO _ (by exact Gn.alloc hHeld _)) (fun hHeld => ?_)
    clear hK K
    try simp only [Act.put, List.setIfInBounds_toArray, List.set_cons_zero, List.set_cons_succ]
    refine wpAnyH_ready (rs := [20]) (by kernel_rfl) (by simp) ?_
    refine (AllReadyH.cons (o := { dst := some 32, op := Op.call { callee := Callee.value (Operand.func 50), args := #[Operand.tmp 31], argTypes := #[158] }, type := 63, pos := "oci.go:181", after := #[{ on := 19, ground := Ground.data }, { on := 17, ground := Ground.chain }], guard := none }) rfl (fun K hK => ?_) AllReadyH.nil)
    go_simp
    with_reducible refine (CQ _ _ _ _ _ _ hHeld (rowC_new _ _ _) (by rw [size_alloc]; omega) (HoldsC.mono (fun k hk _ => ⟨hk.1, by rw [size_alloc]; have := hk.2; omega⟩) _ _ _ _ _ (HoldsC.chg ((Chg.refl (fun _ => False) _).alloc _) (fun _ _ h => h) _ _ _ _ _ H17.out))).mono ?_
    rintro e w20' ⟨y8, m8, z8, n8, rfl, h20, m20'⟩
    have H20 := Lib.hid h20; clear h20
    refine hK.out _ _ (SO _ (by assumption)) (fun hHeld => ?_)
    clear hK K
    try simp only [Act.put, List.setIfInBounds_toArray, List.set_cons_zero, List.set_cons_succ]
    refine wpAnyH_ready (rs := [21]) (by kernel_rfl) (by simp) ?_
    refine (AllReadyH.cons (o := { dst := some 33, op := Op.call { callee := Callee.value (Operand.func 29), args := #[Operand.tmp 32], argTypes := #[63] }, type := 50, pos := "oci.go:181", after := #[{ on := 20, ground := Ground.data }, { on := 20, ground := Ground.chain }], guard := none }) rfl (fun K hK => ?_) AllReadyH.nil)
    go_simp
    with_reducible refine (CP _ _ _ _ _ hHeld H20.out).mono ?_
    rintro e w21' ⟨rfl, m21'⟩
    refine hK.out _ _ (SO _ (by assumption)) (fun hHeld => ?_)
    clear hK K
    try simp only [Act.put, List.setIfInBounds_toArray, List.set_cons_zero, List.set_cons_succ]
    refine wpAnyH_take (i := 22) (oi := { dst := some 34, op := Op.extract (Operand.tmp 33) 0, type := 9, pos := "oci.go:181", after := #[{ on := 21, ground := Ground.data }], guard := none }) (v := ?_) rfl (by kernel_rfl) (by kernel_rfl) (by kernel_rfl) (fun _ _ _ h => h) (Or.inl ⟨by rfl, ?_⟩) (by assumption) ?_
    rotate_left
    · intro w hSw
      skip
      clear hSw
      go_simp
      try with_reducible rfl
    try simp only [Act.put, List.setIfInBounds_toArray, List.set_cons_zero, List.set_cons_succ]
    refine wpAnyH_take (i := 23) (oi := { dst := some 35, op := Op.extract (Operand.tmp 33) 1, type := 32, pos := "oci.go:181", after := #[{ on := 21, ground := Ground.data }], guard := none }) (v := ?_) rfl (by kernel_rfl) (by kernel_rfl) (by kernel_rfl) (fun _ _ _ h => h) (Or.inl ⟨by rfl, ?_⟩) (by assumption) ?_
    rotate_left
    · intro w hSw
      skip
      clear hSw
      go_simp
      try with_reducible rfl
    try simp only [Act.put, List.setIfInBounds_toArray, List.set_cons_zero, List.set_cons_succ]
    refine wpAnyH_take (i := 24) (oi := { dst := some 2, op := Op.assign (Operand.tmp 34), type := 9, pos := "oci.go:181", after := #[{ on := 22, ground := Ground.data }, { on := 21, ground := Ground.chain }, { on := 0, ground := Ground.phase }, { on := 1, ground := Ground.phase }, { on := 2, ground := Ground.phase }, { on := 3, ground := Ground.phase }, { on := 4, ground := Ground.phase }, { on := 5, ground := Ground.phase }, { on := 6, ground := Ground.phase }, { on := 7, ground := Ground.phase }, { on := 8, ground := Ground.phase }, { on := 9, ground := Ground.phase }, { on := 10, ground := Ground.phase }, { on := 11, ground := Ground.phase }, { on := 12, ground := Ground.phase }, { on := 13, ground := Ground.phase }, { on := 14, ground := Ground.phase }, { on := 15, ground := Ground.phase }, { on := 16, ground := Ground.phase }, { on := 17, ground := Ground.phase }, { on := 18, ground := Ground.phase }, { on := 19, ground := Ground.phase }, { on := 20, ground := Ground.phase }, { on := 21, ground := Ground.phase }, { on := 22, ground := Ground.phase }, { on := 23, ground := Ground.phase }], guard := none }) (v := ?_) rfl (by kernel_rfl) (by kernel_rfl) (by kernel_rfl) (fun _ _ _ h => h) (Or.inl ⟨by rfl, ?_⟩) (by assumption) ?_
    rotate_left
    · intro w hSw
      skip
      clear hSw
      go_simp
      try with_reducible rfl
    try simp only [Act.put, List.setIfInBounds_toArray, List.set_cons_zero, List.set_cons_succ]
    refine wpAnyH_take (i := 25) (oi := { dst := some 3, op := Op.assign (Operand.tmp 35), type := 32, pos := "oci.go:181", after := #[{ on := 23, ground := Ground.data }, { on := 24, ground := Ground.chain }, { on := 0, ground := Ground.phase }, { on := 1, ground := Ground.phase }, { on := 2, ground := Ground.phase }, { on := 3, ground := Ground.phase }, { on := 4, ground := Ground.phase }, { on := 5, ground := Ground.phase }, { on := 6, ground := Ground.phase }, { on := 7, ground := Ground.phase }, { on := 8, ground := Ground.phase }, { on := 9, ground := Ground.phase }, { on := 10, ground := Ground.phase }, { on := 11, ground := Ground.phase }, { on := 12, ground := Ground.phase }, { on := 13, ground := Ground.phase }, { on := 14, ground := Ground.phase }, { on := 15, ground := Ground.phase }, { on := 16, ground := Ground.phase }, { on := 17, ground := Ground.phase }, { on := 18, ground := Ground.phase }, { on := 19, ground := Ground.phase }, { on := 20, ground := Ground.phase }, { on := 21, ground := Ground.phase }, { on := 22, ground := Ground.phase }, { on := 23, ground := Ground.phase }, { on := 24, ground := Ground.phase }], guard := none }) (v := ?_) rfl (by kernel_rfl) (by kernel_rfl) (by kernel_rfl) (fun _ _ _ h => h) (Or.inl ⟨by rfl, ?_⟩) (by assumption) ?_
    rotate_left
    · intro w hSw
      skip
      clear hSw
      go_simp
      try with_reducible rfl
    try simp only [Act.put, List.setIfInBounds_toArray, List.set_cons_zero, List.set_cons_succ]
    refine wpAnyH_done (by kernel_rfl) ?_ _
    refine NoPanic.normal ?_
    go_wp2
    go_ret2
    exact ⟨rfl, HBB.out _ hHeld⟩
end Go.Proofs.YtnkencdibniagaaGreatDoor

/- Layer 13: PutManifest. -/
namespace Go.Proofs.YtnkencdibniagaaGreatDoor
open Go.RowKit

theorem fldr4 {w : World} {g B : Nat} {k1 k2 k3 k4 : Bs} {v1 v2 v3 v4 : JV} {a1 b1 c1 d1 a2 b2 c2 d2 a3 b3 c3 d3 a4 b4 c4 d4 : Value} (h : rowC w g #[.string (str k1), a1, b1, c1, d1, .string (str k2), a2, b2, c2, d2, .string (str k3), a3, b3, c3, d3, .string (str k4), a4, b4, c4, d4] 102) (hg : g < w.heap.size)
    (h1 : HoldsC w (fun q => B ≤ q ∧ q < w.heap.size) v1 a1 b1 c1 d1) (h2 : HoldsC w (fun q => B ≤ q ∧ q < w.heap.size) v2 a2 b2 c2 d2) (h3 : HoldsC w (fun q => B ≤ q ∧ q < w.heap.size) v3 a3 b3 c3 d3) (h4 : HoldsC w (fun q => B ≤ q ∧ q < w.heap.size) v4 a4 b4 c4 d4) : FldR w B [(k1, v1), (k2, v2), (k3, v3), (k4, v4)] (some ⟨g, 0, none⟩) := by
  intro i k v hi
  rcases i with _ | _ | _ | _ | i
  · simp only [List.getElem?_cons_zero, Option.some.injEq, Prod.mk.injEq] at hi
    obtain ⟨rfl, rfl⟩ := hi
    refine ⟨⟨g, 0, none⟩, _, _, _, _, rfl, hg, ?_, h1⟩
    intro j u hu
    rcases j with _ | _ | _ | _ | _ | j
    · exact (rowC_cell h 0).trans hu
    · exact (rowC_cell h 1).trans hu
    · exact (rowC_cell h 2).trans hu
    · exact (rowC_cell h 3).trans hu
    · exact (rowC_cell h 4).trans hu
    · simp at hu
  · simp only [List.getElem?_cons_succ, List.getElem?_cons_zero, Option.some.injEq, Prod.mk.injEq] at hi
    obtain ⟨rfl, rfl⟩ := hi
    refine ⟨⟨g, 0, none⟩, _, _, _, _, rfl, hg, ?_, h2⟩
    intro j u hu
    rcases j with _ | _ | _ | _ | _ | j
    · exact (rowC_cell h 5).trans hu
    · exact (rowC_cell h 6).trans hu
    · exact (rowC_cell h 7).trans hu
    · exact (rowC_cell h 8).trans hu
    · exact (rowC_cell h 9).trans hu
    · simp at hu
  · simp only [List.getElem?_cons_succ, List.getElem?_cons_zero, Option.some.injEq, Prod.mk.injEq] at hi
    obtain ⟨rfl, rfl⟩ := hi
    refine ⟨⟨g, 0, none⟩, _, _, _, _, rfl, hg, ?_, h3⟩
    intro j u hu
    rcases j with _ | _ | _ | _ | _ | j
    · exact (rowC_cell h 10).trans hu
    · exact (rowC_cell h 11).trans hu
    · exact (rowC_cell h 12).trans hu
    · exact (rowC_cell h 13).trans hu
    · exact (rowC_cell h 14).trans hu
    · simp at hu
  · simp only [List.getElem?_cons_succ, List.getElem?_cons_zero, Option.some.injEq, Prod.mk.injEq] at hi
    obtain ⟨rfl, rfl⟩ := hi
    refine ⟨⟨g, 0, none⟩, _, _, _, _, rfl, hg, ?_, h4⟩
    intro j u hu
    rcases j with _ | _ | _ | _ | _ | j
    · exact (rowC_cell h 15).trans hu
    · exact (rowC_cell h 16).trans hu
    · exact (rowC_cell h 17).trans hu
    · exact (rowC_cell h 18).trans hu
    · exact (rowC_cell h 19).trans hu
    · simp at hu
  · simp at hi
theorem okJ_man {c : DV} {l : List DV} (hl : l.length ≤ 8) (hc : putD c) (hp : ∀ d ∈ l, putD d) : okJ (manJ c l) := okJ_obj (by show 4 ≤ 65536; omega) fun q hq => by
  simp only [List.mem_cons, List.not_mem_nil, or_false] at hq
  rcases hq with rfl | rfl | rfl | rfl
  · exact ⟨Nat.le_of_ble_eq_true rfl, okJ_num (by omega) (by omega)⟩
  · exact ⟨Nat.le_of_ble_eq_true rfl, okJ_txt _⟩
  · exact ⟨Nat.le_of_ble_eq_true rfl, okJ_bare hc⟩
  · refine ⟨Nat.le_of_ble_eq_true rfl, okJ_lst (by rw [List.length_map]; omega) fun v hv => ?_⟩
    obtain ⟨d, hd, rfl⟩ := List.mem_map.1 hv
    exact okJ_bare (hp d hd)
theorem one_des {w : World} {g : Nat} {c : DV} (hc : goodD c) (h : rowC w g (encD c) 28) (hg : g < w.heap.size) : eDess.at_ w (fun k => k < w.heap.size) [c] (.slice (some ⟨g, 0, none⟩) [c].length 1) := by
  refine .inr ⟨⟨g, 0, none⟩, 1, rfl, fun i d hi => ?_⟩
  rcases i with _ | i
  · simp only [List.getElem?_cons_zero, Option.some.injEq] at hi
    subst hi
    refine ⟨hg, hc, fun j u hj => ?_⟩
    have hh := (rowC_cell h j).trans ((Array.getElem?_toList ..).symm.trans hj)
    rw [show 36 * 0 + j = j by omega]
    by_cases hj0 : j = 0
    · subst hj0
      simpa [Addr.add] using hh
    · simpa [Addr.add, hj0] using hh
  · simp at hi
theorem encM_range {w : World} {b : Nat} {c : DV} {t : Value} (hc : goodD c) (h : rowC w b (encM c t) 31) : w.rangeAt b 0 (encL c) ∧ w.cell? ⟨b, 36, none⟩ = some t := by
  refine ⟨rowC_range h 0 _ (fun j v hv => ?_), (rowC_cell h 36).trans (encM_36 hc t)⟩
  unfold encM
  rw [Nat.zero_add, List.getElem?_toArray, List.getElem?_append_left (List.getElem?_eq_some_iff.1 hv).1]
  exact hv
@[reducible] def manC (y6 : Option Addr) (a6 : Nat) (z6 : Option Addr) (b6 : Nat) (y : Option Addr) (N m : Nat) (z : Option Addr) (n : Nat) : Array Value := #[.string ⟨#[115, 99, 104, 101, 109, 97, 86, 101, 114, 115, 105, 111, 110]⟩, .int .i64 3, .string (str (Lib.itoa 2)), .slice none 0 0, .slice none 0 0, .string ⟨#[109, 101, 100, 105, 97, 84, 121, 112, 101]⟩, .int .i64 4, .string ⟨#[97, 112, 112, 108, 105, 99, 97, 116, 105, 111, 110, 47, 118, 110, 100, 46, 111, 99, 105, 46, 105, 109, 97, 103, 101, 46, 109, 97, 110, 105, 102, 101, 115, 116, 46, 118, 49, 43, 106, 115, 111, 110]⟩, .slice none 0 0, .slice none 0 0, .string ⟨#[99, 111, 110, 102, 105, 103]⟩, .int .i64 6, .string ⟨#[]⟩, .slice y6 3 a6, .slice z6 3 b6, .string ⟨#[108, 97, 121, 101, 114, 115]⟩, .int .i64 5, .string ⟨#[]⟩, .slice y N m, .slice z 0 n]
set_option maxRecDepth 100000 in
set_option maxHeartbeats 16000000 in
theorem putManifest_any (c : DV) (l : List DV) (x : Option Addr) (cc : Nat) (w : World) (hE : Env2 w) (hl : l.length ≤ 70368744177664) (hc : putD c) (hp : ∀ d ∈ l, putD d) (hL : eDess.at_ w (fun k => k < w.heap.size) l (.slice x l.length cc)) :
    Calls Tryz.prog 18 #[.agg (encM c (.slice x l.length cc))] w fun e w' => e = .returned (.tuple #[.string (str (manA c l).1), .int .i64 ((manA c l).2 : Int)]) ∧ Below w.heap.size w w' := by
  obtain ⟨R, hR⟩ : ∃ R, R = manA c l := ⟨_, rfl⟩
  rw [← hR]
  have HR := Lib.hid hR
  obtain ⟨W0, hW0⟩ : ∃ W0, W0 = w.alloc (.cells (encM c (.slice x l.length cc)) 31) := ⟨_, rfl⟩
  have R0 : rowC W0 w.heap.size (encM c (.slice x l.length cc)) 31 := by rw [hW0]; exact rowC_new w _ _
  have B0 : Below w.heap.size w W0 := by rw [hW0]; exact (Below.refl _ _).alloc (Nat.le_refl _) _
  have S0 : W0.heap.size = w.heap.size + 1 := by rw [hW0, size_alloc]
  obtain ⟨W1, hW1⟩ : ∃ W1, W1 = W0.alloc (.cells (encD c) 28) := ⟨_, rfl⟩
  have B1 : Below w.heap.size w W1 := by rw [hW1]; exact B0.alloc (by omega) _
  have S1 : W1.heap.size = w.heap.size + 2 := by rw [hW1, size_alloc, S0]
  have RD : rowC W1 W0.heap.size (encD c) 28 := by rw [hW1]; exact rowC_new _ _ _
  have RM : rowC W1 w.heap.size (encM c (.slice x l.length cc)) 31 := by rw [hW1]; exact rowC_alloc R0 _
  have CM : Calls Tryz.prog 49 #[.slice (some ⟨W0.heap.size, 0, none⟩) 1 1] W1 fun e w' => e = .returned (.bool ([c].all mayD)) ∧ Below W1.heap.size W1 w' := omayBe_any [c] (some ⟨W0.heap.size, 0, none⟩) 1 W1 (hE.below B1) (by show 1 ≤ 70368744177664; omega) (one_des hc.1 RD (by omega))
  have CN : ∀ w', Below W1.heap.size W1 w' → Calls Tryz.prog 49 #[.slice x l.length cc] w' fun e w2 => e = .returned (.bool (l.all mayD)) ∧ Below w'.heap.size w' w2 := fun w' hb => by
    have hb' : Below w.heap.size w w' := B1.trans (hb.mono (by omega))
    exact omayBe_any l x cc w' (hE.below hb') hl (eDess.mono (eDess.chg hL (Chg.of_below (s := no) hb') (fun _ _ h => h)) (fun k hk _ => Nat.lt_of_lt_of_le hk hb'.size))
  obtain ⟨M, hM⟩ : ∃ M, M = mayD c := ⟨_, rfl⟩
  have hM1 : [c].all mayD = M := by rw [hM]; simp
  rw [hM1, S0] at CM
  obtain ⟨M2, hM2⟩ : ∃ M2, M2 = l.all mayD := ⟨_, rfl⟩
  rw [← hM2] at CN
  have HM := Lib.hid hM
  have HM2 := Lib.hid hM2
  have HE := Lib.hid hE
  have HL := Lib.hid hL
  have HW0 := Lib.hid hW0
  have HW1 := Lib.hid hW1
  have HRM := Lib.hid RM
  have HR0 := Lib.hid R0
  have HB0 := Lib.hid B0
  have HB1 := Lib.hid B1
  have HPC := Lib.hid hc
  have HP := Lib.hid hp
  have RG := Lib.hid (encM_range hc.1 R0).1
  have q0 : W0.cell? ⟨w.heap.size, 36, none⟩ = some (.slice x l.length cc) := (encM_range hc.1 R0).2
  have HEL := Lib.hid (encD_list c)
  have HSZ : Hid ((encD c).size = 36) := Lib.hid (encD_size c hc.1)
  have HIL := Lib.hid (show (Tryz.prog.info? 28).map (·.size) = some (encL c).length by rw [encL_len hc.1.1]; exact info_D)
  have HIM := Lib.hid (show (Tryz.prog.info? 31).map (·.size) = some (encM c (.slice x l.length cc)).size by rw [info_M]; unfold encM; rw [List.size_toArray, List.length_append, encL_len hc.1.1]; rfl)
  obtain ⟨i0, hi0, hz0, hz1, hz2⟩ := info_parts info_des3
  clear hR hM hM1 hM2 hE hL hW0 hW1 RD RM R0 B0 B1 hc hp
  go_enter Tryz.func18, Tryz.ntmps18
  go_upto_region 1 with (fail)
  rw [show w.alloc (.cells (encM c (.slice x l.length cc)) 31) = W0 from HW0.out.symm]
  cases M with
  | false =>
    have e0 : Hid (R = ([], 2)) := Lib.hid (by rw [HR.out]; unfold manA; rw [if_pos (.inl HM.out.symm)])
    clear CN
    go_wp2_with (first
      | ((with_reducible show wpList _ _ _ (⟨some 6, .load _ _, _, _, _, _⟩ :: _) _ _); refine wpList_load_mid rfl 28 _ rfl w.heap.size 0 rfl (encL c) _ RG.out Tryz.underlying28 rfl HIL.out ?_)
      | ((with_reducible show wpList _ _ _ (⟨some 7, .buildSlice _ _ _, _, _, _, _⟩ :: _) _ _); refine wpList_oneR rfl 29 28 36 _ rfl (encD c) (by rw [HEL.out]; rfl) i0 _ Tryz.underlying29 hi0 hz0 hz1 HSZ.out (by decide) (by decide) ?_; rw [← HW1.out])
      | (go_at_call 49; ((with_reducible refine CM.mono ?_); rintro e w2 ⟨rfl, hb2⟩; have HB2 := Lib.hid hb2; clear hb2)))
    go_ret2
    rw [e0.out]
    exact ⟨rfl, HB1.out.trans (HB2.out.mono (by omega))⟩
  | true =>
    cases M2 with
    | false =>
      have e0 : Hid (R = ([], 2)) := Lib.hid (by rw [HR.out]; unfold manA; rw [if_pos (.inr HM2.out.symm)])
      go_wp2_with (first
        | ((with_reducible show wpList _ _ _ (⟨some 6, .load _ _, _, _, _, _⟩ :: _) _ _); refine wpList_load_mid rfl 28 _ rfl w.heap.size 0 rfl (encL c) _ RG.out Tryz.underlying28 rfl HIL.out ?_)
        | ((with_reducible show wpList _ _ _ (⟨some 7, .buildSlice _ _ _, _, _, _, _⟩ :: _) _ _); refine wpList_oneR rfl 29 28 36 _ rfl (encD c) (by rw [HEL.out]; rfl) i0 _ Tryz.underlying29 hi0 hz0 hz1 HSZ.out (by decide) (by decide) ?_; rw [← HW1.out])
        | (go_at_call 49; ((with_reducible refine CM.mono ?_); rintro e w2 ⟨rfl, hb2⟩; have HB2 := Lib.hid hb2; have s2 := hb2.size; have CW := CN w2 hb2; have q2 : w2.cell? ⟨w.heap.size, 36, none⟩ = some (.slice x l.length cc) := (encM_range HPC.out.1 (rowC_below HRM.out hb2 (by omega))).2; clear hb2 CM))
        | (go_at_call 49; ((with_reducible refine CW.mono ?_); rintro e w3 ⟨rfl, hb3⟩; have HB3 := Lib.hid hb3; have s3 := hb3.size; clear hb3)))
      go_ret2
      rw [e0.out]
      exact ⟨rfl, (HB1.out.trans (HB2.out.mono (by omega))).trans (HB3.out.mono (by omega))⟩
    | true =>
      go_upto_region 3 with (first
        | ((with_reducible show wpList _ _ _ (⟨some 6, .load _ _, _, _, _, _⟩ :: _) _ _); refine wpList_load_mid rfl 28 _ rfl w.heap.size 0 rfl (encL c) _ RG.out Tryz.underlying28 rfl HIL.out ?_)
        | ((with_reducible show wpList _ _ _ (⟨some 7, .buildSlice _ _ _, _, _, _, _⟩ :: _) _ _); refine wpList_oneR rfl 29 28 36 _ rfl (encD c) (by rw [HEL.out]; rfl) i0 _ Tryz.underlying29 hi0 hz0 hz1 HSZ.out (by decide) (by decide) ?_; rw [← HW1.out])
        | (go_at_call 49; ((with_reducible refine CM.mono ?_); rintro e w2 ⟨rfl, hb2⟩; have HB2 := Lib.hid hb2; have s2 := hb2.size; have CW := CN w2 hb2; have q2 : w2.cell? ⟨w.heap.size, 36, none⟩ = some (.slice x l.length cc) := (encM_range HPC.out.1 (rowC_below HRM.out hb2 (by omega))).2; clear hb2 CM))
        | (go_at_call 49; ((with_reducible refine CW.mono ?_); rintro e w3 ⟨rfl, hb3⟩; have HB3 := Lib.hid hb3; have s3 := hb3.size; clear hb3)))
      have R3 : Hid (rowC w3 w.heap.size (encM c (.slice x l.length cc)) 31) := Lib.hid (rowC_below (rowC_below HRM.out HB2.out (by omega)) HB3.out (by omega))
      have B3 : Hid (Below w.heap.size w w3) := Lib.hid ((HB1.out.trans (HB2.out.mono (by omega))).trans (HB3.out.mono (by omega)))
      have CF := fits_any c l x cc w3 HPC.out.1 (eDess.mono (eDess.chg HL.out (Chg.of_below (s := no) B3.out) (fun _ _ h => h)) (fun k hk _ => Nat.lt_of_lt_of_le hk B3.out.size))
      obtain ⟨K, hK⟩ : ∃ K, K = fitsN c l := ⟨_, rfl⟩
      rw [← hK] at CF
      have HK := Lib.hid hK
      clear hK q2 CW CN
      by_cases hk0 : K = 0
      rotate_left
      · have e0 : Hid (R = ([], K)) := Lib.hid (by rw [HR.out]; unfold manA; rw [if_neg (by rw [← HM.out, ← HM2.out]; simp), if_pos (by rw [← HK.out]; exact hk0), HK.out])
        have hk1 : ¬ ((K : Nat) : Int) = 0 := by omega
        have hk2 : (((K : Nat) : Int) != 0) = true := by simpa using hk0
        clear hk0
        go_wp2_with (first
          | ((with_reducible show wpList _ _ _ (⟨some 16, .load _ _, _, _, _, _⟩ :: _) _ _); refine wpList_load_row rfl 31 _ rfl w.heap.size rfl 31 (encM c (.slice x l.length cc)) (0, 0) _ R3.out Tryz.underlying31 rfl HIM.out ?_)
          | (go_at_call 36; ((with_reducible refine CF.mono ?_); rintro e w4 ⟨rfl, hb4⟩; have HB4 := Lib.hid hb4; clear hb4)))
        go_ret2
        rw [e0.out]
        exact ⟨rfl, B3.out.trans (HB4.out.mono B3.out.size)⟩
      have e0 : Hid (R = printA (manJ c l)) := Lib.hid (by rw [HR.out]; unfold manA; rw [if_neg (by rw [← HM.out, ← HM2.out]; simp), if_neg (by rw [← HK.out]; simp [hk0])])
      have hl8 : l.length ≤ 8 := by
        have h := HK.out
        rw [hk0] at h
        unfold fitsN at h
        by_cases h8 : 8 < l.length
        · rw [if_pos h8] at h; cases h
        · omega
      subst hk0
      go_upto_region 6 with (first
        | ((with_reducible show wpList _ _ _ (⟨some 16, .load _ _, _, _, _, _⟩ :: _) _ _); refine wpList_load_row rfl 31 _ rfl w.heap.size rfl 31 (encM c (.slice x l.length cc)) (0, 0) _ R3.out Tryz.underlying31 rfl HIM.out ?_)
        | (go_at_call 36; ((with_reducible refine CF.mono ?_); rintro e w4 ⟨rfl, hb4⟩; have HB4 := Lib.hid hb4; clear hb4)))
      have s3' := B3.out.size
      have s4 := HB4.out.size
      have R4 : Hid (rowC w4 w.heap.size (encM c (.slice x l.length cc)) 31) := Lib.hid (rowC_below R3.out HB4.out (rowC_lt R3.out))
      have HBW : ∀ w', Gn w4 no w' → Below w.heap.size w w' := fun w' hg => (B3.out.trans (HB4.out.mono s3')).trans ((hg.below (B := w.heap.size) (by omega) (fun _ _ h => h)))
      have CV : ∀ w', Gn w4 no w' → Calls Tryz.prog 51 #[.int .i64 2] w' fun e w3 => e = .returned (.agg #[.int .i64 3, .string (str (Lib.itoa 2)), .slice none 0 0, .slice none 0 0]) ∧ Gn w4 no w3 := fun w' hg =>
        (number_put 2 (by omega) (by omega) w' (HE.out.below (HBW w' hg))).mono (fun e w3 h => ⟨h.1, hg.call h.2⟩)
      have CT : ∀ w', Gn w4 no w' → Calls Tryz.prog 52 #[.string ⟨#[97, 112, 112, 108, 105, 99, 97, 116, 105, 111, 110, 47, 118, 110, 100, 46, 111, 99, 105, 46, 105, 109, 97, 103, 101, 46, 109, 97, 110, 105, 102, 101, 115, 116, 46, 118, 49, 43, 106, 115, 111, 110]⟩] w' fun e w3 => e = .returned (.agg #[.int .i64 4, .string ⟨#[97, 112, 112, 108, 105, 99, 97, 116, 105, 111, 110, 47, 118, 110, 100, 46, 111, 99, 105, 46, 105, 109, 97, 103, 101, 46, 109, 97, 110, 105, 102, 101, 115, 116, 46, 118, 49, 43, 106, 115, 111, 110]⟩, .slice none 0 0, .slice none 0 0]) ∧ Gn w4 no w3 := fun w' hg =>
        (text_put mMan w').mono (fun e w3 h => ⟨h.1, hg.call h.2⟩)
      obtain ⟨X, hX⟩ : ∃ X, X = encL c := ⟨_, rfl⟩
      have hXa : X.toArray = encD c := by rw [hX, encD_list]
      have CG : ∀ w', Gn w4 no w' → Calls Tryz.prog 53 #[.agg X.toArray] w' fun e w3 => ∃ y m z n, e = .returned (.agg #[.int .i64 6, .string ⟨#[]⟩, .slice y 3 m, .slice z 3 n]) ∧ HoldsC w3 (fun q => w.heap.size ≤ q ∧ q < w3.heap.size) (bareJ c) (.int .i64 6) (.string ⟨#[]⟩) (.slice y 3 m) (.slice z 3 n) ∧ Gn w4 no w3 := fun w' hg => by
        have hb := HBW w' hg
        rw [hXa]
        refine (plain_put c HPC.out w' (HE.out.below hb)).mono ?_
        rintro e w3 ⟨y, m, z, n, rfl, hV, hb3⟩
        exact ⟨y, m, z, n, rfl, HoldsC.mono (fun k hk hlt => ⟨Nat.le_trans hb.size hk.1, hlt⟩) _ _ _ _ _ hV, hg.call hb3⟩
      have CL : ∀ w', Gn w4 no w' → Calls Tryz.prog 54 #[.slice x l.length cc, .func (.func 53) #[] #[]] w' fun e w3 => ∃ y m z n, e = .returned (.agg #[.int .i64 5, .string ⟨#[]⟩, .slice y l.length m, .slice z 0 n]) ∧ HoldsC w3 (fun q => w.heap.size ≤ q ∧ q < w3.heap.size) (lstJ (l.map bareJ)) (.int .i64 5) (.string ⟨#[]⟩) (.slice y l.length m) (.slice z 0 n) ∧ Below w'.heap.size w' w3 ∧ Gn w4 no w3 := fun w' hg => by
        have hb := HBW w' hg
        refine (lsput_des putF_pln l x cc w' (HE.out.below hb) (by omega) HP.out (eDess.mono (eDess.chg HL.out (Chg.of_below (s := no) hb) (fun _ _ h => h)) (fun k hk _ => Nat.lt_of_lt_of_le hk hb.size))).mono ?_
        rintro e w3 ⟨y, m, z, n, rfl, hV, hb3⟩
        have e1 : (lstJ (l.map bareJ)).items.length = l.length := by unfold lstJ; simp [JV.items]
        rw [e1] at hV ⊢
        exact ⟨y, m, z, n, rfl, HoldsC.mono (fun k hk hlt => ⟨Nat.le_trans hb.size hk.1, hlt⟩) _ _ _ _ _ hV, hb3, hg.call hb3⟩
      have CO : ∀ w' b y6 a6 z6 b6 y m z n, Gn w4 no w' → rowC w' b (manC y6 a6 z6 b6 y l.length m z n) 102 → b < w'.heap.size → HoldsC w' (fun q => w.heap.size ≤ q ∧ q < w'.heap.size) (bareJ c) (.int .i64 6) (.string ⟨#[]⟩) (.slice y6 3 a6) (.slice z6 3 b6) → HoldsC w' (fun q => w.heap.size ≤ q ∧ q < w'.heap.size) (lstJ (l.map bareJ)) (.int .i64 5) (.string ⟨#[]⟩) (.slice y l.length m) (.slice z 0 n) → Calls Tryz.prog 50 #[.slice (some ⟨b, 0, none⟩) 4 4] w' fun e w3 => ∃ y m z n, e = .returned (.agg #[.int .i64 6, .string ⟨#[]⟩, .slice y 4 m, .slice z 4 n]) ∧ HoldsC w3 (fun q => q < w3.heap.size) (manJ c l) (.int .i64 6) (.string ⟨#[]⟩) (.slice y 4 m) (.slice z 4 n) ∧ Gn w4 no w3 := fun w' b y6 a6 z6 b6 y m z n hg h1 h2 h3 h4 => by
        have hb := HBW w' hg
        refine (object_put [(kVer, numJ 2), (kMed, txtJ mMan), (kCfg, bareJ c), (kLay, lstJ (l.map bareJ))] w.heap.size _ 4 w' hb.size (by show 4 ≤ 1000; omega) (fldr4 (k1 := kVer) (k2 := kMed) (k3 := kCfg) (k4 := kLay) h1 h2 (leaf_holds _ _ 3 (Lib.itoa 2) (by have := Lib.itoa_length_le 2 (by omega) (by omega); omega)) (leaf_holds _ _ 4 mMan (by decide)) h3 h4)).mono ?_
        rintro e w3 ⟨y, m, z, n, rfl, hV, hb3⟩
        exact ⟨y, m, z, n, rfl, HoldsC.mono (fun k hk hlt => hlt) _ _ _ _ _ hV, hg.call hb3⟩
      have CP : ∀ w' y m z n, Gn w4 no w' → HoldsC w' (fun q => q < w'.heap.size) (manJ c l) (.int .i64 6) (.string ⟨#[]⟩) (.slice y 4 m) (.slice z 4 n) → Calls Tryz.prog 29 #[.agg #[.int .i64 6, .string ⟨#[]⟩, .slice y 4 m, .slice z 4 n]] w' fun e w3 => e = .returned (.tuple #[.string (str R.1), .int .i64 (R.2 : Int)]) ∧ Gn w4 no w3 := fun w' y m z n hg hV => by
        rw [e0.out]
        refine (print_any (okJ_man hl8 HPC.out HP.out) (HE.out.below (HBW w' hg)).env hV).mono ?_
        rintro e w3 ⟨rfl, hb3⟩
        exact ⟨rfl, hg.call hb3⟩
      have OS : ∀ w', Gn w4 no w' → w'.rangeAt w.heap.size 0 X ∧ w'.cell? ⟨w.heap.size, 36, none⟩ = some (.slice x l.length cc) := fun w' h => by
        rw [hX]
        exact encM_range HPC.out.1 (h.row R4.out id)
      have iD : (Tryz.prog.info? 28).map (·.size) = some X.length := by rw [hX]; exact HIL.out
      have uD := Tryz.underlying28
      have HBB := Lib.hid HBW
      clear HBW hX hXa CF
      have SO : ∀ w', Gn w4 no w' → Gn w4 no w' := fun _ h => h
      refine wp_region_noPanic ?_
      refine wp_region_held_drew (S := Gn w4 no) (by kernel_rfl) (Gn.start _ _) (fun hHeld => ?_)
      generalize w4.drew = wd at *
      refine wpAnyH_take (i := 4) (oi := { dst := some 25, op := Op.fieldAddr 31 (Operand.tmp 1) 0, type := 0, pos := "oci.go:150", after := #[], guard := none }) (v := ?_) rfl (by kernel_rfl) (by kernel_rfl) (by kernel_rfl) (fun _ _ _ h => h) (Or.inl ⟨by rfl, ?_⟩) (by assumption) ?_
      rotate_left
      · intro w hSw
        skip
        clear hSw
        go_simp
        try with_reducible rfl
      try simp only [Act.put, List.setIfInBounds_toArray, List.set_cons_zero, List.set_cons_succ]
      refine wpAnyH_take (i := 8) (oi := { dst := some 29, op := Op.fieldAddr 31 (Operand.tmp 1) 1, type := 0, pos := "oci.go:150", after := #[], guard := none }) (v := ?_) rfl (by kernel_rfl) (by kernel_rfl) (by kernel_rfl) (fun _ _ _ h => h) (Or.inl ⟨by rfl, ?_⟩) (by assumption) ?_
      rotate_left
      · intro w hSw
        skip
        clear hSw
        go_simp
        try with_reducible rfl
      try simp only [Act.put, List.setIfInBounds_toArray, List.set_cons_zero, List.set_cons_succ]
      refine wpAnyH_take (i := 5) (oi := { dst := some 26, op := Op.load 28 (Operand.tmp 25), type := 28, pos := "oci.go:150", after := #[{ on := 4, ground := Ground.data }], guard := none }) (v := _) rfl (by kernel_rfl) (by kernel_rfl) (by kernel_rfl) (fun _ _ _ h => h) (yieldsIf_load_mid (by rfl) _ _ rfl _ _ rfl _ _ (by intro w hSw; have hSw := OS _ hSw; go_split_ands; assumption) (by assumption) rfl (by assumption)) (by assumption) ?_
      try simp only [Act.put, List.setIfInBounds_toArray, List.set_cons_zero, List.set_cons_succ]
      refine wpAnyH_take (i := 9) (oi := { dst := some 30, op := Op.load 29 (Operand.tmp 29), type := 29, pos := "oci.go:150", after := #[{ on := 8, ground := Ground.data }], guard := none }) (v := ?_) rfl (by kernel_rfl) (by kernel_rfl) (by kernel_rfl) (fun _ _ _ h => h) (Or.inl ⟨by rfl, ?_⟩) (by assumption) ?_
      rotate_left
      · intro w hSw
        have hSw := OS _ hSw
        go_simp
        try with_reducible rfl
      try simp only [Act.put, List.setIfInBounds_toArray, List.set_cons_zero, List.set_cons_succ]
      refine wpAnyH_ready (rs := [0]) (by kernel_rfl) (by simp) ?_
      refine (AllReadyH.cons (o := { dst := some 21, op := Op.call { callee := Callee.value (Operand.func 51), args := #[Operand.const (Value.int IntKind.i64 2)], argTypes := #[3] }, type := 63, pos := "oci.go:151", after := #[], guard := none }) rfl (fun K hK => ?_) AllReadyH.nil)
      go_simp
      with_reducible refine (CV _ hHeld).mono ?_
      rintro e w0' ⟨rfl, m0'⟩
      refine hK.out _ _ (SO _ (by assumption)) (fun hHeld => ?_)
      clear hK K
      try simp only [Act.put, List.setIfInBounds_toArray, List.set_cons_zero, List.set_cons_succ]
      refine wpAnyH_take (i := 1) (oi := { dst := some 22, op := Op.build 102 #[(0, Operand.const (Value.string { data := #[115, 99, 104, 101, 109, 97, 86, 101, 114, 115, 105, 111, 110] })), (1, Operand.tmp 21)], type := 102, pos := "oci.go:150", after := #[{ on := 0, ground := Ground.data }], guard := none }) (v := ?_) rfl (by kernel_rfl) (by kernel_rfl) (by kernel_rfl) (fun _ _ _ h => h) (Or.inl ⟨by rfl, ?_⟩) (by assumption) ?_
      rotate_left
      · intro w hSw
        skip
        clear hSw
        go_simp
        try with_reducible rfl
      try simp only [Act.put, List.setIfInBounds_toArray, List.set_cons_zero, List.set_cons_succ]
      refine wpAnyH_ready (rs := [2]) (by kernel_rfl) (by simp) ?_
      refine (AllReadyH.cons (o := { dst := some 23, op := Op.call { callee := Callee.value (Operand.func 52), args := #[Operand.const (Value.string { data := #[97, 112, 112, 108, 105, 99, 97, 116, 105, 111, 110, 47, 118, 110, 100, 46, 111, 99, 105, 46, 105, 109, 97, 103, 101, 46, 109, 97, 110, 105, 102, 101, 115, 116, 46, 118, 49, 43, 106, 115, 111, 110] })], argTypes := #[9] }, type := 63, pos := "oci.go:152", after := #[{ on := 0, ground := Ground.chain }], guard := none }) rfl (fun K hK => ?_) AllReadyH.nil)
      go_simp
      with_reducible refine (CT _ hHeld).mono ?_
      rintro e w2' ⟨rfl, m2'⟩
      refine hK.out _ _ (SO _ (by assumption)) (fun hHeld => ?_)
      clear hK K
      try simp only []
      refine wpAnyH_take (i := 3) (oi := { dst := some 24, op := Op.build 102 #[(0, Operand.const (Value.string { data := #[109, 101, 100, 105, 97, 84, 121, 112, 101] })), (1, Operand.tmp 23)], type := 102, pos := "oci.go:150", after := #[{ on := 2, ground := Ground.data }], guard := none }) (v := ?_) rfl (by kernel_rfl) (by kernel_rfl) (by kernel_rfl) (fun _ _ _ h => h) (Or.inl ⟨by rfl, ?_⟩) (by assumption) ?_
      rotate_left
      · intro w hSw
        skip
        clear hSw
        go_simp
        try with_reducible rfl
      try simp only [Act.put, List.setIfInBounds_toArray, List.set_cons_zero, List.set_cons_succ]
      refine wpAnyH_ready (rs := [6]) (by kernel_rfl) (by simp) ?_
      refine (AllReadyH.cons (o := { dst := some 27, op := Op.call { callee := Callee.value (Operand.func 53), args := #[Operand.tmp 26], argTypes := #[28] }, type := 63, pos := "oci.go:153", after := #[{ on := 5, ground := Ground.data }, { on := 2, ground := Ground.chain }], guard := none }) rfl (fun K hK => ?_) AllReadyH.nil)
      go_simp
      with_reducible refine (CG _ hHeld).mono ?_
      rintro e w6' ⟨y6, a6, z6, b6, rfl, h6, m6'⟩
      have H6 := Lib.hid h6; clear h6
      refine hK.out _ _ (SO _ (by assumption)) (fun hHeld => ?_)
      clear hK K
      try simp only [Act.put, List.setIfInBounds_toArray, List.set_cons_zero, List.set_cons_succ]
      refine wpAnyH_take (i := 7) (oi := { dst := some 28, op := Op.build 102 #[(0, Operand.const (Value.string { data := #[99, 111, 110, 102, 105, 103] })), (1, Operand.tmp 27)], type := 102, pos := "oci.go:150", after := #[{ on := 6, ground := Ground.data }], guard := none }) (v := ?_) rfl (by kernel_rfl) (by kernel_rfl) (by kernel_rfl) (fun _ _ _ h => h) (Or.inl ⟨by rfl, ?_⟩) (by assumption) ?_
      rotate_left
      · intro w hSw
        skip
        clear hSw
        go_simp
        try with_reducible rfl
      try simp only [Act.put, List.setIfInBounds_toArray, List.set_cons_zero, List.set_cons_succ]
      refine wpAnyH_ready (rs := [10]) (by kernel_rfl) (by simp) ?_
      refine (AllReadyH.cons (o := { dst := some 31, op := Op.call { callee := Callee.value (Operand.func 54), args := #[Operand.tmp 30, Operand.func 53], argTypes := #[29, 104] }, type := 63, pos := "oci.go:154", after := #[{ on := 9, ground := Ground.data }, { on := 6, ground := Ground.chain }], guard := none }) rfl (fun K hK => ?_) AllReadyH.nil)
      go_simp
      with_reducible refine (CL _ hHeld).mono ?_
      rintro e w10' ⟨y, m, z, n, rfl, h10, b10, m10'⟩
      have H10 := Lib.hid h10; have H6' := Lib.hid (HoldsC.mono (G := fun q => w.heap.size ≤ q ∧ q < w10'.heap.size) (fun k hk hlt => ⟨hk.1, hlt⟩) _ _ _ _ _ (HoldsC.chg (Chg.of_below (s := fun _ => False) b10) (fun _ _ h => h) _ _ _ _ _ H6.out)); clear h10 b10
      refine hK.out _ _ (SO _ (by assumption)) (fun hHeld => ?_)
      clear hK K
      try simp only [Act.put, List.setIfInBounds_toArray, List.set_cons_zero, List.set_cons_succ]
      refine wpAnyH_take (i := 11) (oi := { dst := some 32, op := Op.build 102 #[(0, Operand.const (Value.string { data := #[108, 97, 121, 101, 114, 115] })), (1, Operand.tmp 31)], type := 102, pos := "oci.go:150", after := #[{ on := 10, ground := Ground.data }], guard := none }) (v := ?_) rfl (by kernel_rfl) (by kernel_rfl) (by kernel_rfl) (fun _ _ _ h => h) (Or.inl ⟨by rfl, ?_⟩) (by assumption) ?_
      rotate_left
      · intro w hSw
        skip
        clear hSw
        go_simp
        try with_reducible rfl
      try simp only [Act.put, List.setIfInBounds_toArray, List.set_cons_zero, List.set_cons_succ]
      refine wpAnyH_ready (rs := [12]) (by kernel_rfl) (by simp) ?_
      refine (AllReadyH.cons (o := { dst := some 33, op := Op.buildSlice 158 4 #[(0, Operand.tmp 22), (1, Operand.tmp 24), (2, Operand.tmp 28), (3, Operand.tmp 32)], type := 158, pos := "oci.go:150", after := #[{ on := 1, ground := Ground.data }, { on := 3, ground := Ground.data }, { on := 7, ground := Ground.data }, { on := 11, ground := Ground.data }], guard := none }) rfl (fun K hK => ?_) AllReadyH.nil)
      skip
      go_simp
      refine hK.out _ _ (SO _ (by exact Gn.alloc hHeld _)) (fun hHeld => ?_)
      clear hK K
      try simp only [Act.put, List.setIfInBounds_toArray, List.set_cons_zero, List.set_cons_succ]
      refine wpAnyH_ready (rs := [13]) (by kernel_rfl) (by simp) ?_
      refine (AllReadyH.cons (o := { dst := some 34, op := Op.call { callee := Callee.value (Operand.func 50), args := #[Operand.tmp 33], argTypes := #[158] }, type := 63, pos := "oci.go:150", after := #[{ on := 12, ground := Ground.data }, { on := 10, ground := Ground.chain }], guard := none }) rfl (fun K hK => ?_) AllReadyH.nil)
      go_simp
      with_reducible refine (CO _ _ _ _ _ _ _ _ _ _ hHeld (rowC_new _ _ _) (by rw [size_alloc]; omega) (HoldsC.mono (fun k hk _ => ⟨hk.1, by rw [size_alloc]; have := hk.2; omega⟩) _ _ _ _ _ (HoldsC.chg ((Chg.refl (fun _ => False) _).alloc _) (fun _ _ h => h) _ _ _ _ _ H6'.out)) (HoldsC.mono (fun k hk _ => ⟨hk.1, by rw [size_alloc]; have := hk.2; omega⟩) _ _ _ _ _ (HoldsC.chg ((Chg.refl (fun _ => False) _).alloc _) (fun _ _ h => h) _ _ _ _ _ H10.out))).mono ?_
      rintro e w13' ⟨y8, m8, z8, n8, rfl, h13, m13'⟩
      have H13 := Lib.hid h13; clear h13
      refine hK.out _ _ (SO _ (by assumption)) (fun hHeld => ?_)
      clear hK K
      try simp only [Act.put, List.setIfInBounds_toArray, List.set_cons_zero, List.set_cons_succ]
      refine wpAnyH_ready (rs := [14]) (by kernel_rfl) (by simp) ?_
      refine (AllReadyH.cons (o := { dst := some 35, op := Op.call { callee := Callee.value (Operand.func 29), args := #[Operand.tmp 34], argTypes := #[63] }, type := 50, pos := "oci.go:150", after := #[{ on := 13, ground := Ground.data }, { on := 13, ground := Ground.chain }], guard := none }) rfl (fun K hK => ?_) AllReadyH.nil)
      go_simp
      with_reducible refine (CP _ _ _ _ _ hHeld H13.out).mono ?_
      rintro e w14' ⟨rfl, m14'⟩
      refine hK.out _ _ (SO _ (by assumption)) (fun hHeld => ?_)
      clear hK K
      try simp only [Act.put, List.setIfInBounds_toArray, List.set_cons_zero, List.set_cons_succ]
      refine wpAnyH_take (i := 15) (oi := { dst := some 36, op := Op.extract (Operand.tmp 35) 0, type := 9, pos := "oci.go:150", after := #[{ on := 14, ground := Ground.data }], guard := none }) (v := ?_) rfl (by kernel_rfl) (by kernel_rfl) (by kernel_rfl) (fun _ _ _ h => h) (Or.inl ⟨by rfl, ?_⟩) (by assumption) ?_
      rotate_left
      · intro w hSw
        skip
        clear hSw
        go_simp
        try with_reducible rfl
      try simp only [Act.put, List.setIfInBounds_toArray, List.set_cons_zero, List.set_cons_succ]
      refine wpAnyH_take (i := 16) (oi := { dst := some 37, op := Op.extract (Operand.tmp 35) 1, type := 32, pos := "oci.go:150", after := #[{ on := 14, ground := Ground.data }], guard := none }) (v := ?_) rfl (by kernel_rfl) (by kernel_rfl) (by kernel_rfl) (fun _ _ _ h => h) (Or.inl ⟨by rfl, ?_⟩) (by assumption) ?_
      rotate_left
      · intro w hSw
        skip
        clear hSw
        go_simp
        try with_reducible rfl
      try simp only [Act.put, List.setIfInBounds_toArray, List.set_cons_zero, List.set_cons_succ]
      refine wpAnyH_take (i := 17) (oi := { dst := some 2, op := Op.assign (Operand.tmp 36), type := 9, pos := "oci.go:150", after := #[{ on := 15, ground := Ground.data }, { on := 14, ground := Ground.chain }, { on := 0, ground := Ground.phase }, { on := 1, ground := Ground.phase }, { on := 2, ground := Ground.phase }, { on := 3, ground := Ground.phase }, { on := 4, ground := Ground.phase }, { on := 5, ground := Ground.phase }, { on := 6, ground := Ground.phase }, { on := 7, ground := Ground.phase }, { on := 8, ground := Ground.phase }, { on := 9, ground := Ground.phase }, { on := 10, ground := Ground.phase }, { on := 11, ground := Ground.phase }, { on := 12, ground := Ground.phase }, { on := 13, ground := Ground.phase }, { on := 14, ground := Ground.phase }, { on := 15, ground := Ground.phase }, { on := 16, ground := Ground.phase }], guard := none }) (v := ?_) rfl (by kernel_rfl) (by kernel_rfl) (by kernel_rfl) (fun _ _ _ h => h) (Or.inl ⟨by rfl, ?_⟩) (by assumption) ?_
      rotate_left
      · intro w hSw
        skip
        clear hSw
        go_simp
        try with_reducible rfl
      try simp only [Act.put, List.setIfInBounds_toArray, List.set_cons_zero, List.set_cons_succ]
      refine wpAnyH_take (i := 18) (oi := { dst := some 3, op := Op.assign (Operand.tmp 37), type := 32, pos := "oci.go:150", after := #[{ on := 16, ground := Ground.data }, { on := 17, ground := Ground.chain }, { on := 0, ground := Ground.phase }, { on := 1, ground := Ground.phase }, { on := 2, ground := Ground.phase }, { on := 3, ground := Ground.phase }, { on := 4, ground := Ground.phase }, { on := 5, ground := Ground.phase }, { on := 6, ground := Ground.phase }, { on := 7, ground := Ground.phase }, { on := 8, ground := Ground.phase }, { on := 9, ground := Ground.phase }, { on := 10, ground := Ground.phase }, { on := 11, ground := Ground.phase }, { on := 12, ground := Ground.phase }, { on := 13, ground := Ground.phase }, { on := 14, ground := Ground.phase }, { on := 15, ground := Ground.phase }, { on := 16, ground := Ground.phase }, { on := 17, ground := Ground.phase }], guard := none }) (v := ?_) rfl (by kernel_rfl) (by kernel_rfl) (by kernel_rfl) (fun _ _ _ h => h) (Or.inl ⟨by rfl, ?_⟩) (by assumption) ?_
      rotate_left
      · intro w hSw
        skip
        clear hSw
        go_simp
        try with_reducible rfl
      try simp only [Act.put, List.setIfInBounds_toArray, List.set_cons_zero, List.set_cons_succ]
      refine wpAnyH_done (by kernel_rfl) ?_ _
      refine NoPanic.normal ?_
      go_wp2
      go_ret2
      exact ⟨rfl, HBB.out _ hHeld⟩
end Go.Proofs.YtnkencdibniagaaGreatDoor

