/- Merged: TuB, TuC. -/
import Derived.Test.YtbjgmkjinnbokaaGreatDoorM22
/- Layer 16: the chapter's layers, walked. -/
namespace Go.Proofs.YtbjgmkjinnbokaaGreatDoor
open Go.RowKit
theorem eq_same (W : World) (n : Nd) : (Op.equalIn 10000 41 (.agg (ndV n).toArray) (.agg (ndA n))).run Tryz.prog W = .ok true W := by
  have := eq_nd W 9998 n n
  rw [decide_eq_true rfl] at this
  exact this
set_option maxRecDepth 100000 in
set_option maxHeartbeats 32000000 in
theorem laid_any (w : World) : Calls Tryz.prog 4 #[] w fun e w' => e = .returned (.bool true) ∧ Below w.heap.size w w' := by
  obtain ⟨ie, hie, hez, hes, heb⟩ := info_parts info_en
  have HI := Lib.hid info_nd4
  have K1 := applyK ap1 (nl := 0) (nx := 1) (nr := 2) rfl rfl rfl (by decide) (by decide) (by decide) (by decide)
  have K2 := applyK ap2 (nl := 2) (nx := 2) (nr := 2) rfl rfl rfl (by decide) (by decide) (by decide) (by decide)
  have K3 := applyK ap3 (nl := 2) (nx := 1) (nr := 2) rfl rfl rfl (by decide) (by decide) (by decide) (by decide)
  have K4 := applyK ap4 (nl := 2) (nx := 1) (nr := 0) rfl rfl rfl (by decide) (by decide) (by decide) (by decide)
  have K5 := applyK ap5 (nl := 0) (nx := 2) (nr := 4) rfl rfl rfl (by decide) (by decide) (by decide) (by decide)
  have K6 := applyK ap6 (nl := 4) (nx := 2) (nr := 2) rfl rfl rfl (by decide) (by decide) (by decide) (by decide)
  have F1 : ∀ W, Calls Tryz.prog 12 #[.string ⟨#[97, 47, 98]⟩, .string ⟨#[120]⟩] W fun e w' => e = .returned (.agg (enA ⟨1, [97, 47, 98], [], 0, [120]⟩)) ∧ Below W.heap.size W w' := fun W => file_any [97, 47, 98] [120] W
  have F3 : ∀ W, Calls Tryz.prog 12 #[.string ⟨#[97]⟩, .string ⟨#[121]⟩] W fun e w' => e = .returned (.agg (enA ⟨1, [97], [], 0, [121]⟩)) ∧ Below W.heap.size W w' := fun W => file_any [97] [121] W
  have F4 : ∀ W, Calls Tryz.prog 12 #[.string ⟨#[46, 46, 47, 120]⟩, .string ⟨#[]⟩] W fun e w' => e = .returned (.agg (enA ⟨1, [46, 46, 47, 120], [], 0, []⟩)) ∧ Below W.heap.size W w' := fun W => file_any [46, 46, 47, 120] [] W
  have F5 : ∀ W, Calls Tryz.prog 12 #[.string ⟨#[97, 47, 98]⟩, .string ⟨#[]⟩] W fun e w' => e = .returned (.agg (enA ⟨1, [97, 47, 98], [], 0, []⟩)) ∧ Below W.heap.size W w' := fun W => file_any [97, 47, 98] [] W
  have F5b : ∀ W, Calls Tryz.prog 12 #[.string ⟨#[97, 47, 99, 47, 101]⟩, .string ⟨#[]⟩] W fun e w' => e = .returned (.agg (enA ⟨1, [97, 47, 99, 47, 101], [], 0, []⟩)) ∧ Below W.heap.size W w' := fun W => file_any [97, 47, 99, 47, 101] [] W
  have F6 : ∀ W, Calls Tryz.prog 12 #[.string ⟨#[97, 47, 46, 119, 104, 46, 46, 119, 104, 46, 46, 111, 112, 113]⟩, .string ⟨#[]⟩] W fun e w' => e = .returned (.agg (enA ⟨1, [97, 47, 46, 119, 104, 46, 46, 119, 104, 46, 46, 111, 112, 113], [], 0, []⟩)) ∧ Below W.heap.size W w' := fun W => file_any [97, 47, 46, 119, 104, 46, 46, 119, 104, 46, 46, 111, 112, 113] [] W
  have F6b : ∀ W, Calls Tryz.prog 12 #[.string ⟨#[97, 47, 100]⟩, .string ⟨#[]⟩] W fun e w' => e = .returned (.agg (enA ⟨1, [97, 47, 100], [], 0, []⟩)) ∧ Below W.heap.size W w' := fun W => file_any [97, 47, 100] [] W
  have P2 : ∀ ad c W, NodesAt W ad A2 → Calls Tryz.prog 13 #[.slice ad 2 c] W fun e w' => e = .returned (.string ⟨#[97, 32, 99, 32]⟩) ∧ W = w' := fun ad c W h => paths_any A2 ad c (by decide) (by decide) W h
  have P3 : ∀ ad c W, NodesAt W ad A3 → Calls Tryz.prog 13 #[.slice ad 2 c] W fun e w' => e = .returned (.string ⟨#[97, 32, 99, 32]⟩) ∧ W = w' := fun ad c W h => paths_any A3 ad c (by decide) (by decide) W h
  have P6 : ∀ ad c W, NodesAt W ad A6 → Calls Tryz.prog 13 #[.slice ad 2 c] W fun e w' => e = .returned (.string ⟨#[97, 32, 97, 47, 100, 32]⟩) ∧ W = w' := fun ad c W h => paths_any A6 ad c (by decide) (by decide) W h
  have Q1 : ∀ W, (Op.equalIn 10000 41 (.agg #[.string ⟨#[97]⟩, .int .i64 2, .int .i64 493, .string ⟨#[]⟩]) (.agg #[.string ⟨#[97]⟩, .int .i64 2, .int .i64 493, .string ⟨#[]⟩])).run Tryz.prog W = .ok true W := fun W => eq_same W ⟨[97], 2, 493, []⟩
  have Q2 : ∀ W, (Op.equalIn 10000 41 (.agg #[.string ⟨#[97, 47, 98]⟩, .int .i64 1, .int .i64 0, .string ⟨#[120]⟩]) (.agg #[.string ⟨#[97, 47, 98]⟩, .int .i64 1, .int .i64 0, .string ⟨#[120]⟩])).run Tryz.prog W = .ok true W := fun W => eq_same W ⟨[97, 47, 98], 1, 0, [120]⟩
  have gd := guard_nd
  have HB0 := Lib.hid (Below.refl w.heap.size w)
  go_enter Tryz.func4, Tryz.ntmps4
  go_upto_region 2 with (first
    | (go_at_call 12; (refine (F1 _).mono ?_; rintro e f1 ⟨rfl, hb⟩; have HS1 := Lib.hid hb; have HF1 := Lib.hid (HB0.out.trans (hb.mono HB0.out.size)); clear hb))
    | ((with_reducible show wpList _ _ _ (⟨some 15, .buildSlice _ _ _, _, _, _, _⟩ :: _) _ _); refine wpList_oneR rfl 26 38 5 _ rfl (enA ⟨1, [97, 47, 98], [], 0, [120]⟩) rfl ie _ Tryz.underlying26 hie hez hes rfl (by decide) (by decide) ?_)
    | (go_at_call 6; (refine (K1 none 0 (some ⟨_, 0, none⟩) 1 _ (NodesAt.nil _ _) (Nat.le_refl _) (ens_one _ _)).mono ?_; rintro e w1 ⟨a1, c1, rfl, hc1, hn1, hb⟩; have HB1 := Lib.hid ((HF1.out.alloc HF1.out.size _).trans (hb.mono (HF1.out.alloc HF1.out.size (.cells (enA ⟨1, [97, 47, 98], [], 0, [120]⟩) 38)).size)); have HN1 := Lib.hid hn1; have HC1 := Lib.hid hc1; clear hb hn1 hc1)))
  have HR1 := Lib.hid (Below.refl w1.heap.size w1)
  go_upto_region 3 with (first
    | ((with_reducible show wpList _ _ _ (⟨some 23, .buildSlice _ _ _, _, _, _, _⟩ :: _) _ _); refine wpList_twoE rfl _ _ rfl ⟨1, [97, 47, 46, 119, 104, 46, 98], [], 0, []⟩ ⟨4, [99], [46, 46, 47, 120], 0, []⟩ rfl rfl ?_)
    | (go_at_call 6; (refine (K2 a1 c1 (some ⟨_, 0, none⟩) 2 _ (HN1.out.below ((Below.refl _ _).alloc (Nat.le_refl _) _)) HC1.out (ens_two _ _ _)).mono ?_; rintro e w2 ⟨a2, c2, rfl, hc2, hn2, hb⟩; have HB2 := Lib.hid ((HB1.out.alloc HB1.out.size _).trans (hb.mono (HB1.out.alloc HB1.out.size (.cells (enA ⟨1, [97, 47, 46, 119, 104, 46, 98], [], 0, []⟩ ++ enA ⟨4, [99], [46, 46, 47, 120], 0, []⟩) 38)).size)); have hst := (HR1.out.alloc HR1.out.size _).trans (hb.mono (HR1.out.alloc HR1.out.size (.cells (enA ⟨1, [97, 47, 46, 119, 104, 46, 98], [], 0, []⟩ ++ enA ⟨4, [99], [46, 46, 47, 120], 0, []⟩) 38)).size); have HN1 := Lib.hid (HN1.out.below hst); clear hst; have HN2 := Lib.hid hn2; have HC2 := Lib.hid hc2; clear hb hn2 hc2)))
  go_upto_region 4 with (first
    | (go_at_call 12; (refine (F3 _).mono ?_; rintro e f3 ⟨rfl, hb⟩; have HS3 := Lib.hid hb; have HF3 := Lib.hid (HB2.out.trans (hb.mono HB2.out.size)); clear hb))
    | ((with_reducible show wpList _ _ _ (⟨some 30, .buildSlice _ _ _, _, _, _, _⟩ :: _) _ _); refine wpList_oneR rfl 26 38 5 _ rfl (enA ⟨1, [97], [], 0, [121]⟩) rfl ie _ Tryz.underlying26 hie hez hes rfl (by decide) (by decide) ?_)
    | (go_at_call 6; (refine (K3 a2 c2 (some ⟨_, 0, none⟩) 1 _ (HN2.out.below (HS3.out.alloc HS3.out.size _)) HC2.out (ens_one _ _)).mono ?_; rintro e w3 ⟨a3, c3, rfl, hc3, hn3, hb⟩; have HB3 := Lib.hid ((HF3.out.alloc HF3.out.size _).trans (hb.mono (HF3.out.alloc HF3.out.size (.cells (enA ⟨1, [97], [], 0, [121]⟩) 38)).size)); have hst := (HS3.out.alloc HS3.out.size _).trans (hb.mono (HS3.out.alloc HS3.out.size (.cells (enA ⟨1, [97], [], 0, [121]⟩) 38)).size); have HN1 := Lib.hid (HN1.out.below hst); have HN2 := Lib.hid (HN2.out.below hst); clear hst; have HN3 := Lib.hid hn3; have HC3 := Lib.hid hc3; clear hb hn3 hc3)))
  go_upto_region 5 with (first
    | (go_at_call 12; (refine (F4 _).mono ?_; rintro e f4 ⟨rfl, hb⟩; have HS4 := Lib.hid hb; have HF4 := Lib.hid (HB3.out.trans (hb.mono HB3.out.size)); clear hb))
    | ((with_reducible show wpList _ _ _ (⟨some 37, .buildSlice _ _ _, _, _, _, _⟩ :: _) _ _); refine wpList_oneR rfl 26 38 5 _ rfl (enA ⟨1, [46, 46, 47, 120], [], 0, []⟩) rfl ie _ Tryz.underlying26 hie hez hes rfl (by decide) (by decide) ?_)
    | (go_at_call 6; (refine (K4 a3 c3 (some ⟨_, 0, none⟩) 1 _ (HN3.out.below (HS4.out.alloc HS4.out.size _)) HC3.out (ens_one _ _)).mono ?_; rintro e w4 ⟨a4, c4, rfl, hc4, hn4, hb⟩; have HB4 := Lib.hid ((HF4.out.alloc HF4.out.size _).trans (hb.mono (HF4.out.alloc HF4.out.size (.cells (enA ⟨1, [46, 46, 47, 120], [], 0, []⟩) 38)).size)); have hst := (HS4.out.alloc HS4.out.size _).trans (hb.mono (HS4.out.alloc HS4.out.size (.cells (enA ⟨1, [46, 46, 47, 120], [], 0, []⟩) 38)).size); have HN1 := Lib.hid (HN1.out.below hst); have HN2 := Lib.hid (HN2.out.below hst); have HN3 := Lib.hid (HN3.out.below hst); clear hst; have HN4 := Lib.hid hn4; have HC4 := Lib.hid hc4; clear hb hn4 hc4)))
  go_upto_region 6 with (first
    | (go_at_call 12; (refine (F5 _).mono ?_; rintro e f5 ⟨rfl, hb⟩; have HS5 := Lib.hid hb; have HF5 := Lib.hid (HB4.out.trans (hb.mono HB4.out.size)); clear hb))
    | (go_at_call 12; (refine (F5b _).mono ?_; rintro e f5b ⟨rfl, hb⟩; have HS5b := Lib.hid (HS5.out.trans (hb.mono HS5.out.size)); have HF5b := Lib.hid (HF5.out.trans (hb.mono HF5.out.size)); clear hb))
    | ((with_reducible show wpList _ _ _ (⟨some 44, .buildSlice _ _ _, _, _, _, _⟩ :: _) _ _); refine wpList_twoE rfl _ _ rfl ⟨1, [97, 47, 98], [], 0, []⟩ ⟨1, [97, 47, 99, 47, 101], [], 0, []⟩ rfl rfl ?_)
    | (go_at_call 6; (refine (K5 none 0 (some ⟨_, 0, none⟩) 2 _ (NodesAt.nil _ _) (Nat.le_refl _) (ens_two _ _ _)).mono ?_; rintro e w5 ⟨a5, c5, rfl, hc5, hn5, hb⟩; have HB5 := Lib.hid ((HF5b.out.alloc HF5b.out.size _).trans (hb.mono (HF5b.out.alloc HF5b.out.size (.cells (enA ⟨1, [97, 47, 98], [], 0, []⟩ ++ enA ⟨1, [97, 47, 99, 47, 101], [], 0, []⟩) 38)).size)); have hst := (HS5b.out.alloc HS5b.out.size _).trans (hb.mono (HS5b.out.alloc HS5b.out.size (.cells (enA ⟨1, [97, 47, 98], [], 0, []⟩ ++ enA ⟨1, [97, 47, 99, 47, 101], [], 0, []⟩) 38)).size); have HN1 := Lib.hid (HN1.out.below hst); have HN2 := Lib.hid (HN2.out.below hst); have HN3 := Lib.hid (HN3.out.below hst); clear hst; have HN5 := Lib.hid hn5; have HC5 := Lib.hid hc5; clear hb hn5 hc5)))
  obtain ⟨b1, hb1, _, _⟩ := HN1.out 0 _ rfl
  obtain ⟨b2, hb2, _, _⟩ := HN2.out 0 _ rfl
  obtain ⟨b3, hb3, _, _⟩ := HN3.out 0 _ rfl
  subst hb1 hb2 hb3
  have X1 : ∀ W, NodesAt W (some b1) A1 → (W.cell? b1 = some (.string ⟨#[97]⟩) ∧ W.cell? ⟨b1.block, b1.off + 1, none⟩ = some (.int .i64 2) ∧ W.cell? ⟨b1.block, b1.off + 2, none⟩ = some (.int .i64 493) ∧ W.cell? ⟨b1.block, b1.off + 3, none⟩ = some (.string ⟨#[]⟩)) ∧
      (W.cell? ⟨b1.block, b1.off + 4, none⟩ = some (.string ⟨#[97, 47, 98]⟩) ∧ W.cell? ⟨b1.block, b1.off + 5, none⟩ = some (.int .i64 1) ∧ W.cell? ⟨b1.block, b1.off + 6, none⟩ = some (.int .i64 0) ∧ W.cell? ⟨b1.block, b1.off + 7, none⟩ = some (.string ⟨#[120]⟩)) := fun W h => by
    obtain ⟨b, hb, _, h0⟩ := h 0 _ rfl
    obtain rfl : b1 = b := Option.some.inj hb
    obtain ⟨b', hb', _, h1⟩ := h 1 _ rfl
    obtain rfl : b1 = b' := Option.some.inj hb'
    have e0 : ∀ j u, j ≠ 0 → (ndV ⟨[97], 2, 493, []⟩)[j]? = some u → W.cell? ⟨b1.block, b1.off + j, none⟩ = some u := fun j u hj hu => by
      have := h0 j u hu
      rwa [Nat.zero_mul, addr_zero, addr_pos _ hj] at this
    have e1 : ∀ j u, (ndV ⟨[97, 47, 98], 1, 0, [120]⟩)[j]? = some u → W.cell? ⟨b1.block, b1.off + (4 + j), none⟩ = some u := fun j u hu => by
      have := h1 j u hu
      rw [Nat.one_mul, addr_pos b1 (show (4 : Nat) ≠ 0 by decide)] at this
      rw [← Nat.add_assoc]
      by_cases hj : j = 0
      · subst hj
        rwa [addr_zero] at this
      · rwa [addr_pos _ hj] at this
    have e00 := h0 0 _ rfl
    rw [Nat.zero_mul, addr_zero, addr_zero] at e00
    exact ⟨⟨e00, e0 1 _ (by decide) rfl, e0 2 _ (by decide) rfl, e0 3 _ (by decide) rfl⟩, e1 0 _ rfl, e1 1 _ rfl, e1 2 _ rfl, e1 3 _ rfl⟩
  have X2 : ∀ W, NodesAt W (some b2) A2 → W.cell? ⟨b2.block, b2.off + 7, none⟩ = some (.string ⟨#[46, 46, 47, 120]⟩) := fun W h => by
    obtain ⟨b, hb, _, h1⟩ := h 1 _ rfl
    obtain rfl : b2 = b := Option.some.inj hb
    have := h1 3 _ rfl
    rwa [Nat.one_mul, addr_pos b2 (show (4 : Nat) ≠ 0 by decide), addr_pos _ (by decide)] at this
  have X3 : ∀ W, NodesAt W (some b3) A3 → W.cell? ⟨b3.block, b3.off + 1, none⟩ = some (.int .i64 1) := fun W h => by
    obtain ⟨b, hb, _, h1⟩ := h 0 _ rfl
    obtain rfl : b3 = b := Option.some.inj hb
    have := h1 1 _ rfl
    rwa [Nat.zero_mul, addr_zero, addr_pos _ (by decide)] at this
  have HX1 := Lib.hid X1
  have HX2 := Lib.hid X2
  have HX3 := Lib.hid X3
  clear X1 X2 X3 K1 K2 K3 K4 K5 F1 F3 F4 F5 F5b
  go_wp2_with (first
    | (go_at_call 12; (refine (F6 _).mono ?_; rintro e f6 ⟨rfl, hb⟩; have HS6 := Lib.hid hb; have HF6 := Lib.hid (HB5.out.trans (hb.mono HB5.out.size)); clear hb))
    | (go_at_call 12; (refine (F6b _).mono ?_; rintro e f6b ⟨rfl, hb⟩; have HS6b := Lib.hid (HS6.out.trans (hb.mono HS6.out.size)); have HF6b := Lib.hid (HF6.out.trans (hb.mono HF6.out.size)); clear hb))
    | ((with_reducible show wpList _ _ _ (⟨some 52, .buildSlice _ _ _, _, _, _, _⟩ :: _) _ _); refine wpList_twoE rfl _ _ rfl ⟨1, opqN, [], 0, []⟩ ⟨1, [97, 47, 100], [], 0, []⟩ rfl rfl ?_)
    | (go_at_call 6; (refine (K6 a5 c5 (some ⟨_, 0, none⟩) 2 _ (HN5.out.below (HS6b.out.alloc HS6b.out.size _)) HC5.out (ens_two _ _ _)).mono ?_; rintro e w6 ⟨a6, c6, rfl, hc6, hn6, hb⟩; have HB6 := Lib.hid ((HF6b.out.alloc HF6b.out.size _).trans (hb.mono (HF6b.out.alloc HF6b.out.size (.cells (enA ⟨1, opqN, [], 0, []⟩ ++ enA ⟨1, [97, 47, 100], [], 0, []⟩) 38)).size)); have hst := (HS6b.out.alloc HS6b.out.size _).trans (hb.mono (HS6b.out.alloc HS6b.out.size (.cells (enA ⟨1, opqN, [], 0, []⟩ ++ enA ⟨1, [97, 47, 100], [], 0, []⟩) 38)).size); have HN1 := Lib.hid (HN1.out.below hst); have HN2 := Lib.hid (HN2.out.below hst); have HN3 := Lib.hid (HN3.out.below hst); clear hst; have HN6 := Lib.hid hn6; have HC6 := Lib.hid hc6; clear hb hn6 hc6; obtain ⟨⟨y0, y1, y2, y3⟩, y4, y5, y6, y7⟩ := HX1.out _ HN1.out; have x2 := HX2.out _ HN2.out; have x3 := HX3.out _ HN3.out))
    | (go_at_call 13; (first | (with_reducible refine (P2 _ _ _ HN2.out).mono ?_) | (with_reducible refine (P3 _ _ _ HN3.out).mono ?_) | (with_reducible refine (P6 _ _ _ HN6.out).mono ?_)); rintro e w9 ⟨rfl, rfl⟩))
  go_ret
  exact ⟨rfl, HB6.out⟩
end Go.Proofs.YtbjgmkjinnbokaaGreatDoor
#print axioms Go.Proofs.YtbjgmkjinnbokaaGreatDoor.laid_any

/- Layer 16, plainly: a family of small trees; what a layer takes away of them. -/
namespace Go.Proofs.YtbjgmkjinnbokaaGreatDoor

/-! ### The family's paths -/
/-! ### A tree, told by what is there -/
theorem tree_of {g : List Pl} (hr : Rise g) (hm : ∀ p ∈ g, mayN p.nd = true) (hp : ∀ p ∈ g, parentL p.nd.path = [] ∨ ∃ q ∈ g, q.nd.path = parentL p.nd.path ∧ q.nd.kind = 2) (hlen : g.length ≤ 400) : checkT (g.map Pl.nd) = 0 := by
  have hrm := rise_map hr
  unfold checkT
  rw [if_neg (by rw [List.length_map]; omega), if_pos]
  rw [treeB_iff]
  intro k x hx
  rw [List.getElem?_map] at hx
  cases hg : g[k]? with
  | none => rw [hg] at hx; cases hx
  | some p =>
    rw [hg] at hx
    cases hx
    have hpg := List.mem_of_getElem? hg
    refine ⟨hm p hpg, ?_⟩
    unfold followN
    rw [Bool.and_eq_true]
    obtain ⟨hk, hge⟩ := List.getElem?_eq_some_iff.1 hg
    constructor
    · cases hl : ((g.map Pl.nd).take k).getLast? with
      | none => rfl
      | some m =>
        have hmem := List.mem_of_getLast? hl
        obtain ⟨j, hj, rfl⟩ := List.getElem_of_mem hmem
        rw [List.length_take, List.length_map] at hj
        have := List.pairwise_iff_getElem.1 hrm j k (by rw [List.length_map]; omega) (by rw [List.length_map]; omega) (by omega)
        simp only [List.getElem_take, List.getElem_map] at this ⊢
        rw [hge] at this
        exact this
    · rcases hp p hpg with h | ⟨q, hq, hqp, hqk⟩
      · rw [decide_eq_true h]; rfl
      · rw [Bool.or_eq_true]
        right
        rw [List.any_eq_true]
        obtain ⟨j, hj, hqe⟩ := List.getElem_of_mem hq
        have hpar : bytesBefore q.nd.path p.nd.path = true := by
          rw [hqp]
          by_cases hm47 : (47 : UInt8) ∈ p.nd.path
          · obtain ⟨a, b, he, hn⟩ := cut_last hm47
            rw [he, (parent_hit a hn).1]
            exact bb_pre a (47 :: b) (by simp)
          · rw [(parent_miss hm47).1]
            have := hm p hpg
            unfold mayN at this
            simp only [Bool.and_eq_true, Bool.not_eq_true', decide_eq_false_iff_not] at this
            cases hpp : p.nd.path with
            | nil => exact absurd hpp this.1
            | cons y r => rfl
        have hjk : j < k := by
          rcases Nat.lt_trichotomy j k with h | h | h
          · exact h
          · subst h
            rw [hge] at hqe
            rw [hqe, bb_irr] at hpar
            cases hpar
          · have := List.pairwise_iff_getElem.1 hr k j hk hj h
            rw [hge, hqe] at this
            rw [bb_asym this] at hpar
            cases hpar
        refine ⟨q.nd, ?_, decide_eq_true ⟨hqp, hqk⟩⟩
        rw [List.mem_take_iff_getElem]
        exact ⟨j, by rw [List.length_map]; omega, by simp [hqe]⟩
theorem find_map {g : List Pl} (s : List UInt8) : findN (g.map Pl.nd) s = (lookG g s).map Pl.nd := by
  unfold findN lookG
  rw [List.find?_map]
  rfl
theorem ground_look : ∀ (l : List Nd), l.Pairwise (fun a b => a.path ≠ b.path) → ∀ s, lookG (groundOf l) s = (findN l s).map fun n => ⟨n, 0⟩ := by
  refine cut_recN (fun l => l.Pairwise (fun a b => a.path ≠ b.path) → ∀ s, lookG (groundOf l) s = (findN l s).map fun n => ⟨n, 0⟩) (fun _ _ => rfl) (fun l x ih h s => ?_)
  rw [List.pairwise_append] at h
  rw [ground_snoc, look_put (ground_rise l), ih h.1 s]
  unfold findN
  rw [List.find?_append]
  split
  · rename_i e
    have e1 : l.find? (fun n => decide (n.path = s)) = none := by
      rw [List.find?_eq_none]
      intro y hy
      have := h.2.2 y hy x (by simp)
      rw [e]
      simpa using this
    rw [e1, e]
    simp
  · rename_i e
    have e2 : ([x] : List Nd).find? (fun n => decide (n.path = s)) = none := by
      rw [List.find?_eq_none]
      intro y hy
      rw [List.mem_singleton.1 hy]
      simpa using fun h => e h.symm
    rw [e2]
    cases l.find? (fun n => decide (n.path = s)) <;> rfl
end Go.Proofs.YtbjgmkjinnbokaaGreatDoor
#print axioms Go.Proofs.YtbjgmkjinnbokaaGreatDoor.ground_look

