/- Merged: TuA, TuB. -/
import Derived.Test.YtbkpbgcbpakpeaaGreatDoorM31
import Derived.ChangeKeysEq
/- Layer 16: entries side by side; Apply at what is known. -/
namespace Go.Proofs.YtbkpbgcbpakpeaaGreatDoor
open Go.RowKit

theorem info_en : (Tryz.prog.info? 52).map (fun i => (i.zero, i.size, i.bytes)) = some (some (.agg #[.int .i64 0, .string ⟨#[]⟩, .string ⟨#[]⟩, .int .i64 0, .string ⟨#[]⟩]), 5, 64) := by kernel_rfl
theorem ens_one (w : World) (x : En) : EnsAt (w.alloc (.cells (enA x) 52)) (some ⟨w.heap.size, 0, none⟩) [x] := fun i y hy => by
  match i, hy with
  | 0, hy =>
    obtain rfl : x = y := by simpa using hy
    refine ⟨_, rfl, by rw [size_alloc]; show w.heap.size < w.heap.size + 1; omega, fun j u hu => ?_⟩
    rw [Nat.zero_mul, add_add, Nat.zero_add, rowC_cell (rowC_new w (enA x) 52) j, ← enV_arr, List.getElem?_toArray]
    exact hu
  | i + 1, hy => simp at hy
theorem ens_two (w : World) (x y : En) : EnsAt (w.alloc (.cells (enA x ++ enA y) 52)) (some ⟨w.heap.size, 0, none⟩) [x, y] := fun i z hz => by
  have hlt : (⟨w.heap.size, 0, none⟩ : Addr).block < (w.alloc (.cells (enA x ++ enA y) 52)).heap.size := by rw [size_alloc]; show w.heap.size < w.heap.size + 1; omega
  match i, hz with
  | 0, hz =>
    obtain rfl : x = z := by simpa using hz
    refine ⟨_, rfl, hlt, fun j u hu => ?_⟩
    have hj : j < 5 := (List.getElem?_eq_some_iff.1 hu).1
    rw [Nat.zero_mul, add_add, Nat.zero_add, rowC_cell (rowC_new w (enA x ++ enA y) 52) j, Array.getElem?_append_left (by exact hj), ← enV_arr, List.getElem?_toArray]
    exact hu
  | 1, hz =>
    obtain rfl : y = z := by simpa using hz
    refine ⟨_, rfl, hlt, fun j u hu => ?_⟩
    rw [Nat.one_mul, add_add, rowC_cell (rowC_new w (enA x ++ enA y) 52) (5 + j), Array.getElem?_append_right (by show 5 ≤ 5 + j; omega), show 5 + j - (enA x).size = j by show 5 + j - 5 = j; omega, ← enV_arr y, List.getElem?_toArray]
    exact hu
  | i + 2, hz => simp at hz
theorem wpList_twoE {ops : Array Oper} {rest : List Oper} {o : Oper} {a : Act} {w : World} {Q : Exit → Act → World → Prop} (hg : o.guard = none) (x y : Operand) (ho : o.op = .buildSlice 54 2 #[(0, x), (1, y)])
    (p q : En) (hx : a.eval x = .agg (enA p)) (hy : a.eval y = .agg (enA q)) (h : wpList Tryz.prog ops Q rest (a.put o.dst (.slice (some ⟨w.heap.size, 0, none⟩) 2 2)) (w.alloc (.cells (enA p ++ enA q) 52))) : wpList Tryz.prog ops Q (o :: rest) a w := by
  obtain ⟨ie, hie, hez, hes, heb⟩ := info_parts info_en
  refine wpList_buildSlice hg 54 52 2 _ ho (enA p ++ enA q) ie _ Tryz.underlying54 hie hez (by rw [hes]; decide) (by rw [hes]; decide) ?_ h
  rw [hes]
  have e1 : (Array.map (fun (x : Nat × Operand) => (x.1, a.eval x.2)) #[(0, x), (1, y)]).toList = [(0, .agg (enA p)), (1, .agg (enA q))] := by simp [hx, hy]
  show Instr.fill _ _ (Array.map (fun (x : Nat × Operand) => (x.1, a.eval x.2)) #[(0, x), (1, y)]).toList = some _
  rw [e1]
  kernel_rfl
/-- Apply, where what it comes to is known. -/
theorem applyK {l : List Nd} {x : List En} {r : List Nd} {e0 : Int} (hap : applyT l x = (r, e0)) {nl nx nr : Nat} (h1 : l.length = nl) (h2 : x.length = nx) (h3 : r.length = nr) (hnl : nl ≤ 100000) (hnx : nx ≤ 100000)
    (hp : ∀ n ∈ l, n.path.length ≤ 900000) (hsm : ∀ y ∈ x, y.name.length ≤ 900000 ∧ y.to.length ≤ 900000) (ad : Option Addr) (c : Nat) (ax : Option Addr) (cx : Nat) (W : World) (hN : NodesAt W ad l) (hc : nl ≤ c) (hE : EnsAt W ax x) :
    Calls Tryz.prog 20 #[.slice ad nl c, .slice ax nx cx] W fun e w' => ∃ a' c', e = .returned (.tuple #[.slice a' nr c', .int .i64 e0]) ∧ nr ≤ c' ∧ NodesAt w' a' r ∧ Below W.heap.size W w' := by
  subst h1 h2 h3
  refine (apply_any l ad c (by unfold maxLen; omega) hc hp x ax cx (by unfold maxLen; omega) hsm W hN hE).mono ?_
  rintro e w' ⟨⟨a', c', he, hc', hn⟩, hb⟩
  rw [hap] at he hc' hn
  exact ⟨a', c', he, hc', hn, hb⟩
/-! ### Two nodes -/
theorem fields_nd : (Tryz.prog.fieldsOf 32).toList = [⟨"Path", 9, 0, false, "", "", 0⟩, ⟨"Kind", 3, 1, false, "", "", 16⟩, ⟨"Mode", 3, 2, false, "", "", 24⟩, ⟨"Data", 9, 3, false, "", "", 32⟩] := by kernel_rfl
theorem eq_nd (w : World) (d : Nat) (a b : Nd) : (Op.equalIn (d + 2) 32 (.agg (ndV a).toArray) (.agg (ndV b).toArray)).run Tryz.prog w = .ok (decide (a = b)) w := by
  rw [run_equalIn_struct w (d + 1) _ _ _ (by kernel_rfl) (by kernel_rfl), fields_nd]
  have e1 (x y : List UInt8) (w : World) : (Op.equalIn (d + 1) 9 (.string (str x)) (.string (str y))).run Tryz.prog w = .ok (decide (x = y)) w := by
    rw [run_equalIn_string w d _ _ _ Tryz.underlying9, eq_strs]
  have e2 (x y : Int) (w : World) : (Op.equalIn (d + 1) 3 (.int .i64 x) (.int .i64 y)).run Tryz.prog w = .ok (x == y) w := run_equalIn_int w d _ _ _ _ _ Tryz.underlying3
  have p0 (q : Nd) (w : World) : (part 9 (ndV q).toArray 0).run Tryz.prog w = .ok (.string (str q.path)) w := run_part_plain w (by kernel_rfl) rfl
  have p1 (q : Nd) (w : World) : (part 3 (ndV q).toArray 1).run Tryz.prog w = .ok (.int .i64 q.kind) w := run_part_plain w (by kernel_rfl) rfl
  have p2 (q : Nd) (w : World) : (part 3 (ndV q).toArray 2).run Tryz.prog w = .ok (.int .i64 q.mode) w := run_part_plain w (by kernel_rfl) rfl
  have p3 (q : Nd) (w : World) : (part 9 (ndV q).toArray 3).run Tryz.prog w = .ok (.string (str q.data)) w := run_part_plain w (by kernel_rfl) rfl
  simp only [Op.eqFields, show ("Kind" : String) ≠ "_" by decide, show ("Path" : String) ≠ "_" by decide, show ("Mode" : String) ≠ "_" by decide, show ("Data" : String) ≠ "_" by decide, ne_eq, not_false_eq_true, if_true, Sem.run_bind, Sem.run_ite, Sem.run_pure, p0, p1, p2, p3, Result.andThen_ok, e1, e2]
  obtain ⟨a1, a2, a3, a4⟩ := a
  obtain ⟨b1, b2, b3, b4⟩ := b
  simp only [Nd.mk.injEq]
  by_cases h1 : a1 = b1 <;> by_cases h2 : a2 = b2 <;> by_cases h3 : a3 = b3 <;> by_cases h4 : a4 = b4 <;> simp [h1, h2, h3, h4]
theorem guard_nd : Tryz.prog.eqGuardType Tryz.prog.depth 32 = false := by kernel_rfl
end Go.Proofs.YtbkpbgcbpakpeaaGreatDoor
#print axioms Go.Proofs.YtbkpbgcbpakpeaaGreatDoor.applyK
#print axioms Go.Proofs.YtbkpbgcbpakpeaaGreatDoor.eq_nd

/- Layer 16: the chapter's layers, walked. -/
namespace Go.Proofs.YtbkpbgcbpakpeaaGreatDoor
open Go.RowKit
theorem eq_same (W : World) (n : Nd) : (Op.equalIn 10000 32 (.agg (ndV n).toArray) (.agg (ndA n))).run Tryz.prog W = .ok true W := by
  have := eq_nd W 9998 n n
  rw [decide_eq_true rfl] at this
  exact this
set_option maxRecDepth 100000 in
set_option maxHeartbeats 32000000 in
theorem laid_any (w : World) : Calls Tryz.prog 6 #[] w fun e w' => e = .returned (.bool true) ∧ Below w.heap.size w w' := by
  obtain ⟨ie, hie, hez, hes, heb⟩ := info_parts info_en
  have HI := Lib.hid info_nd4
  have K1 := applyK ap1 (nl := 0) (nx := 1) (nr := 2) rfl rfl rfl (by decide) (by decide) (by decide) (by decide)
  have K2 := applyK ap2 (nl := 2) (nx := 2) (nr := 2) rfl rfl rfl (by decide) (by decide) (by decide) (by decide)
  have K3 := applyK ap3 (nl := 2) (nx := 1) (nr := 2) rfl rfl rfl (by decide) (by decide) (by decide) (by decide)
  have K4 := applyK ap4 (nl := 2) (nx := 1) (nr := 0) rfl rfl rfl (by decide) (by decide) (by decide) (by decide)
  have K5 := applyK ap5 (nl := 0) (nx := 2) (nr := 4) rfl rfl rfl (by decide) (by decide) (by decide) (by decide)
  have K6 := applyK ap6 (nl := 4) (nx := 2) (nr := 2) rfl rfl rfl (by decide) (by decide) (by decide) (by decide)
  have F1 : ∀ W, Calls Tryz.prog 21 #[.string ⟨#[97, 47, 98]⟩, .string ⟨#[120]⟩] W fun e w' => e = .returned (.agg (enA ⟨1, [97, 47, 98], [], 0, [120]⟩)) ∧ Below W.heap.size W w' := fun W => file_any [97, 47, 98] [120] W
  have F3 : ∀ W, Calls Tryz.prog 21 #[.string ⟨#[97]⟩, .string ⟨#[121]⟩] W fun e w' => e = .returned (.agg (enA ⟨1, [97], [], 0, [121]⟩)) ∧ Below W.heap.size W w' := fun W => file_any [97] [121] W
  have F4 : ∀ W, Calls Tryz.prog 21 #[.string ⟨#[46, 46, 47, 120]⟩, .string ⟨#[]⟩] W fun e w' => e = .returned (.agg (enA ⟨1, [46, 46, 47, 120], [], 0, []⟩)) ∧ Below W.heap.size W w' := fun W => file_any [46, 46, 47, 120] [] W
  have F5 : ∀ W, Calls Tryz.prog 21 #[.string ⟨#[97, 47, 98]⟩, .string ⟨#[]⟩] W fun e w' => e = .returned (.agg (enA ⟨1, [97, 47, 98], [], 0, []⟩)) ∧ Below W.heap.size W w' := fun W => file_any [97, 47, 98] [] W
  have F5b : ∀ W, Calls Tryz.prog 21 #[.string ⟨#[97, 47, 99, 47, 101]⟩, .string ⟨#[]⟩] W fun e w' => e = .returned (.agg (enA ⟨1, [97, 47, 99, 47, 101], [], 0, []⟩)) ∧ Below W.heap.size W w' := fun W => file_any [97, 47, 99, 47, 101] [] W
  have F6 : ∀ W, Calls Tryz.prog 21 #[.string ⟨#[97, 47, 46, 119, 104, 46, 46, 119, 104, 46, 46, 111, 112, 113]⟩, .string ⟨#[]⟩] W fun e w' => e = .returned (.agg (enA ⟨1, [97, 47, 46, 119, 104, 46, 46, 119, 104, 46, 46, 111, 112, 113], [], 0, []⟩)) ∧ Below W.heap.size W w' := fun W => file_any [97, 47, 46, 119, 104, 46, 46, 119, 104, 46, 46, 111, 112, 113] [] W
  have F6b : ∀ W, Calls Tryz.prog 21 #[.string ⟨#[97, 47, 100]⟩, .string ⟨#[]⟩] W fun e w' => e = .returned (.agg (enA ⟨1, [97, 47, 100], [], 0, []⟩)) ∧ Below W.heap.size W w' := fun W => file_any [97, 47, 100] [] W
  have P2 : ∀ ad c W, NodesAt W ad A2 → Calls Tryz.prog 22 #[.slice ad 2 c] W fun e w' => e = .returned (.string ⟨#[97, 32, 99, 32]⟩) ∧ W = w' := fun ad c W h => paths_any A2 ad c (by decide) (by decide) W h
  have P3 : ∀ ad c W, NodesAt W ad A3 → Calls Tryz.prog 22 #[.slice ad 2 c] W fun e w' => e = .returned (.string ⟨#[97, 32, 99, 32]⟩) ∧ W = w' := fun ad c W h => paths_any A3 ad c (by decide) (by decide) W h
  have P6 : ∀ ad c W, NodesAt W ad A6 → Calls Tryz.prog 22 #[.slice ad 2 c] W fun e w' => e = .returned (.string ⟨#[97, 32, 97, 47, 100, 32]⟩) ∧ W = w' := fun ad c W h => paths_any A6 ad c (by decide) (by decide) W h
  have Q1 : ∀ W, (Op.equalIn 10000 32 (.agg #[.string ⟨#[97]⟩, .int .i64 2, .int .i64 493, .string ⟨#[]⟩]) (.agg #[.string ⟨#[97]⟩, .int .i64 2, .int .i64 493, .string ⟨#[]⟩])).run Tryz.prog W = .ok true W := fun W => eq_same W ⟨[97], 2, 493, []⟩
  have Q2 : ∀ W, (Op.equalIn 10000 32 (.agg #[.string ⟨#[97, 47, 98]⟩, .int .i64 1, .int .i64 0, .string ⟨#[120]⟩]) (.agg #[.string ⟨#[97, 47, 98]⟩, .int .i64 1, .int .i64 0, .string ⟨#[120]⟩])).run Tryz.prog W = .ok true W := fun W => eq_same W ⟨[97, 47, 98], 1, 0, [120]⟩
  have gd := guard_nd
  have HB0 := Lib.hid (Below.refl w.heap.size w)
  go_enter Tryz.func6, Tryz.ntmps6
  go_upto_region 2 with (first
    | (go_at_call 21; (refine (F1 _).mono ?_; rintro e f1 ⟨rfl, hb⟩; have HS1 := Lib.hid hb; have HF1 := Lib.hid (HB0.out.trans (hb.mono HB0.out.size)); clear hb))
    | ((with_reducible show wpList _ _ _ (⟨some 15, .buildSlice _ _ _, _, _, _, _⟩ :: _) _ _); refine wpList_oneR rfl 54 52 5 _ rfl (enA ⟨1, [97, 47, 98], [], 0, [120]⟩) rfl ie _ Tryz.underlying54 hie hez hes rfl (by decide) (by decide) ?_)
    | (go_at_call 20; (refine (K1 none 0 (some ⟨_, 0, none⟩) 1 _ (NodesAt.nil _ _) (Nat.le_refl _) (ens_one _ _)).mono ?_; rintro e w1 ⟨a1, c1, rfl, hc1, hn1, hb⟩; have HB1 := Lib.hid ((HF1.out.alloc HF1.out.size _).trans (hb.mono (HF1.out.alloc HF1.out.size (.cells (enA ⟨1, [97, 47, 98], [], 0, [120]⟩) 52)).size)); have HN1 := Lib.hid hn1; have HC1 := Lib.hid hc1; clear hb hn1 hc1)))
  have HR1 := Lib.hid (Below.refl w1.heap.size w1)
  go_upto_region 3 with (first
    | ((with_reducible show wpList _ _ _ (⟨some 23, .buildSlice _ _ _, _, _, _, _⟩ :: _) _ _); refine wpList_twoE rfl _ _ rfl ⟨1, [97, 47, 46, 119, 104, 46, 98], [], 0, []⟩ ⟨4, [99], [46, 46, 47, 120], 0, []⟩ rfl rfl ?_)
    | (go_at_call 20; (refine (K2 a1 c1 (some ⟨_, 0, none⟩) 2 _ (HN1.out.below ((Below.refl _ _).alloc (Nat.le_refl _) _)) HC1.out (ens_two _ _ _)).mono ?_; rintro e w2 ⟨a2, c2, rfl, hc2, hn2, hb⟩; have HB2 := Lib.hid ((HB1.out.alloc HB1.out.size _).trans (hb.mono (HB1.out.alloc HB1.out.size (.cells (enA ⟨1, [97, 47, 46, 119, 104, 46, 98], [], 0, []⟩ ++ enA ⟨4, [99], [46, 46, 47, 120], 0, []⟩) 52)).size)); have hst := (HR1.out.alloc HR1.out.size _).trans (hb.mono (HR1.out.alloc HR1.out.size (.cells (enA ⟨1, [97, 47, 46, 119, 104, 46, 98], [], 0, []⟩ ++ enA ⟨4, [99], [46, 46, 47, 120], 0, []⟩) 52)).size); have HN1 := Lib.hid (HN1.out.below hst); clear hst; have HN2 := Lib.hid hn2; have HC2 := Lib.hid hc2; clear hb hn2 hc2)))
  go_upto_region 4 with (first
    | (go_at_call 21; (refine (F3 _).mono ?_; rintro e f3 ⟨rfl, hb⟩; have HS3 := Lib.hid hb; have HF3 := Lib.hid (HB2.out.trans (hb.mono HB2.out.size)); clear hb))
    | ((with_reducible show wpList _ _ _ (⟨some 30, .buildSlice _ _ _, _, _, _, _⟩ :: _) _ _); refine wpList_oneR rfl 54 52 5 _ rfl (enA ⟨1, [97], [], 0, [121]⟩) rfl ie _ Tryz.underlying54 hie hez hes rfl (by decide) (by decide) ?_)
    | (go_at_call 20; (refine (K3 a2 c2 (some ⟨_, 0, none⟩) 1 _ (HN2.out.below (HS3.out.alloc HS3.out.size _)) HC2.out (ens_one _ _)).mono ?_; rintro e w3 ⟨a3, c3, rfl, hc3, hn3, hb⟩; have HB3 := Lib.hid ((HF3.out.alloc HF3.out.size _).trans (hb.mono (HF3.out.alloc HF3.out.size (.cells (enA ⟨1, [97], [], 0, [121]⟩) 52)).size)); have hst := (HS3.out.alloc HS3.out.size _).trans (hb.mono (HS3.out.alloc HS3.out.size (.cells (enA ⟨1, [97], [], 0, [121]⟩) 52)).size); have HN1 := Lib.hid (HN1.out.below hst); have HN2 := Lib.hid (HN2.out.below hst); clear hst; have HN3 := Lib.hid hn3; have HC3 := Lib.hid hc3; clear hb hn3 hc3)))
  go_upto_region 5 with (first
    | (go_at_call 21; (refine (F4 _).mono ?_; rintro e f4 ⟨rfl, hb⟩; have HS4 := Lib.hid hb; have HF4 := Lib.hid (HB3.out.trans (hb.mono HB3.out.size)); clear hb))
    | ((with_reducible show wpList _ _ _ (⟨some 37, .buildSlice _ _ _, _, _, _, _⟩ :: _) _ _); refine wpList_oneR rfl 54 52 5 _ rfl (enA ⟨1, [46, 46, 47, 120], [], 0, []⟩) rfl ie _ Tryz.underlying54 hie hez hes rfl (by decide) (by decide) ?_)
    | (go_at_call 20; (refine (K4 a3 c3 (some ⟨_, 0, none⟩) 1 _ (HN3.out.below (HS4.out.alloc HS4.out.size _)) HC3.out (ens_one _ _)).mono ?_; rintro e w4 ⟨a4, c4, rfl, hc4, hn4, hb⟩; have HB4 := Lib.hid ((HF4.out.alloc HF4.out.size _).trans (hb.mono (HF4.out.alloc HF4.out.size (.cells (enA ⟨1, [46, 46, 47, 120], [], 0, []⟩) 52)).size)); have hst := (HS4.out.alloc HS4.out.size _).trans (hb.mono (HS4.out.alloc HS4.out.size (.cells (enA ⟨1, [46, 46, 47, 120], [], 0, []⟩) 52)).size); have HN1 := Lib.hid (HN1.out.below hst); have HN2 := Lib.hid (HN2.out.below hst); have HN3 := Lib.hid (HN3.out.below hst); clear hst; have HN4 := Lib.hid hn4; have HC4 := Lib.hid hc4; clear hb hn4 hc4)))
  go_upto_region 6 with (first
    | (go_at_call 21; (refine (F5 _).mono ?_; rintro e f5 ⟨rfl, hb⟩; have HS5 := Lib.hid hb; have HF5 := Lib.hid (HB4.out.trans (hb.mono HB4.out.size)); clear hb))
    | (go_at_call 21; (refine (F5b _).mono ?_; rintro e f5b ⟨rfl, hb⟩; have HS5b := Lib.hid (HS5.out.trans (hb.mono HS5.out.size)); have HF5b := Lib.hid (HF5.out.trans (hb.mono HF5.out.size)); clear hb))
    | ((with_reducible show wpList _ _ _ (⟨some 44, .buildSlice _ _ _, _, _, _, _⟩ :: _) _ _); refine wpList_twoE rfl _ _ rfl ⟨1, [97, 47, 98], [], 0, []⟩ ⟨1, [97, 47, 99, 47, 101], [], 0, []⟩ rfl rfl ?_)
    | (go_at_call 20; (refine (K5 none 0 (some ⟨_, 0, none⟩) 2 _ (NodesAt.nil _ _) (Nat.le_refl _) (ens_two _ _ _)).mono ?_; rintro e w5 ⟨a5, c5, rfl, hc5, hn5, hb⟩; have HB5 := Lib.hid ((HF5b.out.alloc HF5b.out.size _).trans (hb.mono (HF5b.out.alloc HF5b.out.size (.cells (enA ⟨1, [97, 47, 98], [], 0, []⟩ ++ enA ⟨1, [97, 47, 99, 47, 101], [], 0, []⟩) 52)).size)); have hst := (HS5b.out.alloc HS5b.out.size _).trans (hb.mono (HS5b.out.alloc HS5b.out.size (.cells (enA ⟨1, [97, 47, 98], [], 0, []⟩ ++ enA ⟨1, [97, 47, 99, 47, 101], [], 0, []⟩) 52)).size); have HN1 := Lib.hid (HN1.out.below hst); have HN2 := Lib.hid (HN2.out.below hst); have HN3 := Lib.hid (HN3.out.below hst); clear hst; have HN5 := Lib.hid hn5; have HC5 := Lib.hid hc5; clear hb hn5 hc5)))
  obtain ⟨b1, hb1, _, _⟩ := HN1.out 0 _ rfl
  obtain ⟨b2, hb2, _, _⟩ := HN2.out 0 _ rfl
  obtain ⟨b3, hb3, _, _⟩ := HN3.out 0 _ rfl
  subst hb1 hb2 hb3
  have X1 : ∀ W, NodesAt W (some b1) A1 → (W.cell? b1 = some (.string ⟨#[97]⟩) ∧ W.cell? ⟨b1.block, b1.off + 1, none⟩ = some (.int .i64 2) ∧ W.cell? ⟨b1.block, b1.off + 2, none⟩ = some (.int .i64 493) ∧ W.cell? ⟨b1.block, b1.off + 3, none⟩ = some (.string ⟨#[]⟩)) ∧
      (W.cell? ⟨b1.block, b1.off + 4, none⟩ = some (.string ⟨#[97, 47, 98]⟩) ∧ W.cell? ⟨b1.block, b1.off + 5, none⟩ = some (.int .i64 1) ∧ W.cell? ⟨b1.block, b1.off + 6, none⟩ = some (.int .i64 0) ∧ W.cell? ⟨b1.block, b1.off + 7, none⟩ = some (.string ⟨#[120]⟩)) := fun W h => by
    obtain ⟨b, hb, _, h0⟩ := h 0 _ rfl
    obtain rfl : b1 = b := Option.some.inj hb
    obtain ⟨b', hb', _, h1⟩ := h 1 _ rfl
    obtain rfl : b1 = b' := Option.some.inj hb'
    have e0 : ∀ j u, j ≠ 0 → (ndV ⟨[97], 2, 493, []⟩)[j]? = some u → W.cell? ⟨b1.block, b1.off + j, none⟩ = some u := fun j u hj hu => by
      have := h0 j u hu
      rwa [Nat.zero_mul, addr_zero, addr_pos _ hj] at this
    have e1 : ∀ j u, (ndV ⟨[97, 47, 98], 1, 0, [120]⟩)[j]? = some u → W.cell? ⟨b1.block, b1.off + (4 + j), none⟩ = some u := fun j u hu => by
      have := h1 j u hu
      rw [Nat.one_mul, addr_pos b1 (show (4 : Nat) ≠ 0 by decide)] at this
      rw [← Nat.add_assoc]
      by_cases hj : j = 0
      · subst hj
        rwa [addr_zero] at this
      · rwa [addr_pos _ hj] at this
    have e00 := h0 0 _ rfl
    rw [Nat.zero_mul, addr_zero, addr_zero] at e00
    exact ⟨⟨e00, e0 1 _ (by decide) rfl, e0 2 _ (by decide) rfl, e0 3 _ (by decide) rfl⟩, e1 0 _ rfl, e1 1 _ rfl, e1 2 _ rfl, e1 3 _ rfl⟩
  have X2 : ∀ W, NodesAt W (some b2) A2 → W.cell? ⟨b2.block, b2.off + 7, none⟩ = some (.string ⟨#[46, 46, 47, 120]⟩) := fun W h => by
    obtain ⟨b, hb, _, h1⟩ := h 1 _ rfl
    obtain rfl : b2 = b := Option.some.inj hb
    have := h1 3 _ rfl
    rwa [Nat.one_mul, addr_pos b2 (show (4 : Nat) ≠ 0 by decide), addr_pos _ (by decide)] at this
  have X3 : ∀ W, NodesAt W (some b3) A3 → W.cell? ⟨b3.block, b3.off + 1, none⟩ = some (.int .i64 1) := fun W h => by
    obtain ⟨b, hb, _, h1⟩ := h 0 _ rfl
    obtain rfl : b3 = b := Option.some.inj hb
    have := h1 1 _ rfl
    rwa [Nat.zero_mul, addr_zero, addr_pos _ (by decide)] at this
  have HX1 := Lib.hid X1
  have HX2 := Lib.hid X2
  have HX3 := Lib.hid X3
  clear X1 X2 X3 K1 K2 K3 K4 K5 F1 F3 F4 F5 F5b
  go_wp2_with (first
    | (go_at_call 21; (refine (F6 _).mono ?_; rintro e f6 ⟨rfl, hb⟩; have HS6 := Lib.hid hb; have HF6 := Lib.hid (HB5.out.trans (hb.mono HB5.out.size)); clear hb))
    | (go_at_call 21; (refine (F6b _).mono ?_; rintro e f6b ⟨rfl, hb⟩; have HS6b := Lib.hid (HS6.out.trans (hb.mono HS6.out.size)); have HF6b := Lib.hid (HF6.out.trans (hb.mono HF6.out.size)); clear hb))
    | ((with_reducible show wpList _ _ _ (⟨some 52, .buildSlice _ _ _, _, _, _, _⟩ :: _) _ _); refine wpList_twoE rfl _ _ rfl ⟨1, opqN, [], 0, []⟩ ⟨1, [97, 47, 100], [], 0, []⟩ rfl rfl ?_)
    | (go_at_call 20; (refine (K6 a5 c5 (some ⟨_, 0, none⟩) 2 _ (HN5.out.below (HS6b.out.alloc HS6b.out.size _)) HC5.out (ens_two _ _ _)).mono ?_; rintro e w6 ⟨a6, c6, rfl, hc6, hn6, hb⟩; have HB6 := Lib.hid ((HF6b.out.alloc HF6b.out.size _).trans (hb.mono (HF6b.out.alloc HF6b.out.size (.cells (enA ⟨1, opqN, [], 0, []⟩ ++ enA ⟨1, [97, 47, 100], [], 0, []⟩) 52)).size)); have hst := (HS6b.out.alloc HS6b.out.size _).trans (hb.mono (HS6b.out.alloc HS6b.out.size (.cells (enA ⟨1, opqN, [], 0, []⟩ ++ enA ⟨1, [97, 47, 100], [], 0, []⟩) 52)).size); have HN1 := Lib.hid (HN1.out.below hst); have HN2 := Lib.hid (HN2.out.below hst); have HN3 := Lib.hid (HN3.out.below hst); clear hst; have HN6 := Lib.hid hn6; have HC6 := Lib.hid hc6; clear hb hn6 hc6; obtain ⟨⟨y0, y1, y2, y3⟩, y4, y5, y6, y7⟩ := HX1.out _ HN1.out; have x2 := HX2.out _ HN2.out; have x3 := HX3.out _ HN3.out))
    | (go_at_call 22; (first | (with_reducible refine (P2 _ _ _ HN2.out).mono ?_) | (with_reducible refine (P3 _ _ _ HN3.out).mono ?_) | (with_reducible refine (P6 _ _ _ HN6.out).mono ?_)); rintro e w9 ⟨rfl, rfl⟩))
  go_ret
  exact ⟨rfl, HB6.out⟩
end Go.Proofs.YtbkpbgcbpakpeaaGreatDoor
#print axioms Go.Proofs.YtbkpbgcbpakpeaaGreatDoor.laid_any

