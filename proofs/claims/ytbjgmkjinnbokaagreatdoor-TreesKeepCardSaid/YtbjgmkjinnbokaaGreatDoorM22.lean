/- Merged: TtZ, TuA. -/
import Derived.Test.YtbjgmkjinnbokaaGreatDoorM20
import Derived.Test.YtbjgmkjinnbokaaGreatDoorM21
import Derived.ChangeKeysEq
/- Layer 16, plainly: the chapter's layers. -/
namespace Go.Proofs.YtbjgmkjinnbokaaGreatDoor

def opqN : List UInt8 := [97, 47, 46, 119, 104, 46, 46, 119, 104, 46, 46, 111, 112, 113]
def A1 : List Nd := [⟨[97], 2, 493, []⟩, ⟨[97, 47, 98], 1, 0, [120]⟩]
def A2 : List Nd := [⟨[97], 2, 493, []⟩, ⟨[99], 4, 0, [46, 46, 47, 120]⟩]
def A3 : List Nd := [⟨[97], 1, 0, [121]⟩, ⟨[99], 4, 0, [46, 46, 47, 120]⟩]
def A5 : List Nd := [⟨[97], 2, 493, []⟩, ⟨[97, 47, 98], 1, 0, []⟩, ⟨[97, 47, 99], 2, 493, []⟩, ⟨[97, 47, 99, 47, 101], 1, 0, []⟩]
def A6 : List Nd := [⟨[97], 2, 493, []⟩, ⟨[97, 47, 100], 1, 0, []⟩]
def E1 : List En := [⟨1, [97, 47, 98], [], 0, [120]⟩]
def E2 : List En := [⟨1, [97, 47, 46, 119, 104, 46, 98], [], 0, []⟩, ⟨4, [99], [46, 46, 47, 120], 0, []⟩]
def E3 : List En := [⟨1, [97], [], 0, [121]⟩]
def E4 : List En := [⟨1, [46, 46, 47, 120], [], 0, []⟩]
def E5 : List En := [⟨1, [97, 47, 98], [], 0, []⟩, ⟨1, [97, 47, 99, 47, 101], [], 0, []⟩]
def E6 : List En := [⟨1, opqN, [], 0, []⟩, ⟨1, [97, 47, 100], [], 0, []⟩]
theorem ap1 : applyT [] E1 = (A1, 0) := by decide +kernel
theorem ap2 : applyT A1 E2 = (A2, 0) := by decide +kernel
theorem ap3 : applyT A2 E3 = (A3, 0) := by decide +kernel
theorem ap4 : applyT A3 E4 = ([], 71) := by decide +kernel
theorem ap5 : applyT [] E5 = (A5, 0) := by decide +kernel
theorem ap6 : applyT A5 E6 = (A6, 0) := by decide +kernel
end Go.Proofs.YtbjgmkjinnbokaaGreatDoor
#print axioms Go.Proofs.YtbjgmkjinnbokaaGreatDoor.ap6

/- Layer 16: entries side by side; Apply at what is known. -/
namespace Go.Proofs.YtbjgmkjinnbokaaGreatDoor
open Go.RowKit

theorem info_en : (Tryz.prog.info? 38).map (fun i => (i.zero, i.size, i.bytes)) = some (some (.agg #[.int .i64 0, .string ⟨#[]⟩, .string ⟨#[]⟩, .int .i64 0, .string ⟨#[]⟩]), 5, 64) := by kernel_rfl
theorem ens_one (w : World) (x : En) : EnsAt (w.alloc (.cells (enA x) 38)) (some ⟨w.heap.size, 0, none⟩) [x] := fun i y hy => by
  match i, hy with
  | 0, hy =>
    obtain rfl : x = y := by simpa using hy
    refine ⟨_, rfl, by rw [size_alloc]; show w.heap.size < w.heap.size + 1; omega, fun j u hu => ?_⟩
    rw [Nat.zero_mul, add_add, Nat.zero_add, rowC_cell (rowC_new w (enA x) 38) j, ← enV_arr, List.getElem?_toArray]
    exact hu
  | i + 1, hy => simp at hy
theorem ens_two (w : World) (x y : En) : EnsAt (w.alloc (.cells (enA x ++ enA y) 38)) (some ⟨w.heap.size, 0, none⟩) [x, y] := fun i z hz => by
  have hlt : (⟨w.heap.size, 0, none⟩ : Addr).block < (w.alloc (.cells (enA x ++ enA y) 38)).heap.size := by rw [size_alloc]; show w.heap.size < w.heap.size + 1; omega
  match i, hz with
  | 0, hz =>
    obtain rfl : x = z := by simpa using hz
    refine ⟨_, rfl, hlt, fun j u hu => ?_⟩
    have hj : j < 5 := (List.getElem?_eq_some_iff.1 hu).1
    rw [Nat.zero_mul, add_add, Nat.zero_add, rowC_cell (rowC_new w (enA x ++ enA y) 38) j, Array.getElem?_append_left (by exact hj), ← enV_arr, List.getElem?_toArray]
    exact hu
  | 1, hz =>
    obtain rfl : y = z := by simpa using hz
    refine ⟨_, rfl, hlt, fun j u hu => ?_⟩
    rw [Nat.one_mul, add_add, rowC_cell (rowC_new w (enA x ++ enA y) 38) (5 + j), Array.getElem?_append_right (by show 5 ≤ 5 + j; omega), show 5 + j - (enA x).size = j by show 5 + j - 5 = j; omega, ← enV_arr y, List.getElem?_toArray]
    exact hu
  | i + 2, hz => simp at hz
theorem wpList_twoE {ops : Array Oper} {rest : List Oper} {o : Oper} {a : Act} {w : World} {Q : Exit → Act → World → Prop} (hg : o.guard = none) (x y : Operand) (ho : o.op = .buildSlice 26 2 #[(0, x), (1, y)])
    (p q : En) (hx : a.eval x = .agg (enA p)) (hy : a.eval y = .agg (enA q)) (h : wpList Tryz.prog ops Q rest (a.put o.dst (.slice (some ⟨w.heap.size, 0, none⟩) 2 2)) (w.alloc (.cells (enA p ++ enA q) 38))) : wpList Tryz.prog ops Q (o :: rest) a w := by
  obtain ⟨ie, hie, hez, hes, heb⟩ := info_parts info_en
  refine wpList_buildSlice hg 26 38 2 _ ho (enA p ++ enA q) ie _ Tryz.underlying26 hie hez (by rw [hes]; decide) (by rw [hes]; decide) ?_ h
  rw [hes]
  have e1 : (Array.map (fun (x : Nat × Operand) => (x.1, a.eval x.2)) #[(0, x), (1, y)]).toList = [(0, .agg (enA p)), (1, .agg (enA q))] := by simp [hx, hy]
  show Instr.fill _ _ (Array.map (fun (x : Nat × Operand) => (x.1, a.eval x.2)) #[(0, x), (1, y)]).toList = some _
  rw [e1]
  kernel_rfl
/-- Apply, where what it comes to is known. -/
theorem applyK {l : List Nd} {x : List En} {r : List Nd} {e0 : Int} (hap : applyT l x = (r, e0)) {nl nx nr : Nat} (h1 : l.length = nl) (h2 : x.length = nx) (h3 : r.length = nr) (hnl : nl ≤ 100000) (hnx : nx ≤ 100000)
    (hp : ∀ n ∈ l, n.path.length ≤ 900000) (hsm : ∀ y ∈ x, y.name.length ≤ 900000 ∧ y.to.length ≤ 900000) (ad : Option Addr) (c : Nat) (ax : Option Addr) (cx : Nat) (W : World) (hN : NodesAt W ad l) (hc : nl ≤ c) (hE : EnsAt W ax x) :
    Calls Tryz.prog 6 #[.slice ad nl c, .slice ax nx cx] W fun e w' => ∃ a' c', e = .returned (.tuple #[.slice a' nr c', .int .i64 e0]) ∧ nr ≤ c' ∧ NodesAt w' a' r ∧ Below W.heap.size W w' := by
  subst h1 h2 h3
  refine (apply_any l ad c (by unfold maxLen; omega) hc hp x ax cx (by unfold maxLen; omega) hsm W hN hE).mono ?_
  rintro e w' ⟨⟨a', c', he, hc', hn⟩, hb⟩
  rw [hap] at he hc' hn
  exact ⟨a', c', he, hc', hn, hb⟩
/-! ### Two nodes -/
theorem fields_nd : (Tryz.prog.fieldsOf 41).toList = [⟨"Path", 9, 0, false, "", "", 0⟩, ⟨"Kind", 3, 1, false, "", "", 16⟩, ⟨"Mode", 3, 2, false, "", "", 24⟩, ⟨"Data", 9, 3, false, "", "", 32⟩] := by kernel_rfl
theorem eq_nd (w : World) (d : Nat) (a b : Nd) : (Op.equalIn (d + 2) 41 (.agg (ndV a).toArray) (.agg (ndV b).toArray)).run Tryz.prog w = .ok (decide (a = b)) w := by
  rw [run_equalIn_struct w (d + 1) _ _ _ (by kernel_rfl) (by kernel_rfl), fields_nd]
  have e1 (x y : List UInt8) (w : World) : (Op.equalIn (d + 1) 9 (.string (str x)) (.string (str y))).run Tryz.prog w = .ok (decide (x = y)) w := by
    rw [run_equalIn_string w d _ _ _ Tryz.underlying9, eq_strs]
  have e2 (x y : Int) (w : World) : (Op.equalIn (d + 1) 3 (.int .i64 x) (.int .i64 y)).run Tryz.prog w = .ok (x == y) w := run_equalIn_int w d _ _ _ _ _ Tryz.underlying3
  have p0 (q : Nd) (w : World) : (part 9 (ndV q).toArray 0).run Tryz.prog w = .ok (.string (str q.path)) w := run_part_plain w (by kernel_rfl) rfl
  have p1 (q : Nd) (w : World) : (part 3 (ndV q).toArray 1).run Tryz.prog w = .ok (.int .i64 q.kind) w := run_part_plain w (by kernel_rfl) rfl
  have p2 (q : Nd) (w : World) : (part 3 (ndV q).toArray 2).run Tryz.prog w = .ok (.int .i64 q.mode) w := run_part_plain w (by kernel_rfl) rfl
  have p3 (q : Nd) (w : World) : (part 9 (ndV q).toArray 3).run Tryz.prog w = .ok (.string (str q.data)) w := run_part_plain w (by kernel_rfl) rfl
  simp only [Op.eqFields, show ("Kind" : String) ≠ "_" by decide, show ("Path" : String) ≠ "_" by decide, show ("Mode" : String) ≠ "_" by decide, show ("Data" : String) ≠ "_" by decide, ne_eq, not_false_eq_true, if_true, Sem.run_bind, Sem.run_ite, Sem.run_pure, p0, p1, p2, p3, Result.andThen_ok, e1, e2]
  obtain ⟨a1, a2, a3, a4⟩ := a
  obtain ⟨b1, b2, b3, b4⟩ := b
  simp only [Nd.mk.injEq]
  by_cases h1 : a1 = b1 <;> by_cases h2 : a2 = b2 <;> by_cases h3 : a3 = b3 <;> by_cases h4 : a4 = b4 <;> simp [h1, h2, h3, h4]
theorem guard_nd : Tryz.prog.eqGuardType Tryz.prog.depth 41 = false := by kernel_rfl
end Go.Proofs.YtbjgmkjinnbokaaGreatDoor
#print axioms Go.Proofs.YtbjgmkjinnbokaaGreatDoor.applyK
#print axioms Go.Proofs.YtbjgmkjinnbokaaGreatDoor.eq_nd

