/- Merged: JsG, Row, Chg, JuB, JsW, JsX. -/
import Derived.Test.YtafmokpplnmbgaaGreatDoorM01
import Derived.Test.YtafmokpplnmbgaaGreatDoorRows
import Derived.WalkKit
import Derived.Lib.Hide
import Derived.WalkLawsBesides
import Derived.WalkSpells
import Derived.Deep.QuietTactic
import Derived.BigQuiet
import Derived.Laws.Bits64b
import Derived.Laws.BitsAllLaws
import Derived.Outline
import Derived.Deep.MidRow
import Derived.Deep.WholeRow
import Derived.Laws.Rows
import Derived.Laws.ResultCell
import Derived.StillTailTactics
import Derived.BigRegion
import Derived.IntWalk
import Derived.Deep.RegionWith
import Derived.Deep.RegionHeld3
import Derived.Below
import Derived.Laws.BytesArg
import Derived.Laws.MakeOwn
import Derived.Laws.OwnMore
import Derived.Laws.AppendOwnNone
import Derived.OwnWalk
import Derived.Maps.AppendAt
import Derived.Deep.AppendLies
import Derived.Great.Walk
import Derived.Test.YtafmokpplnmbgaaGreatDoorShelf
/- Layer 11, plain: what Print writes, piece by piece; how deep a value is, as it is asked; a text with blanks put in. -/
namespace Go.Proofs.YtafmokpplnmbgaaGreatDoor
open Go.Lib

/-! ### Pieces -/
/-- A piece is written, while what is there is not too long. -/
def putL (acc s : Bs) : Bs := if acc.length ≤ 65536 then acc ++ s else acc
def putsL (acc : Bs) (ps : List Bs) : Bs := ps.foldl putL acc
theorem putsL_app (acc : Bs) (a b : List Bs) : putsL acc (a ++ b) = putsL (putsL acc a) b := List.foldl_append
theorem putsL_one (acc s : Bs) : putsL acc [s] = putL acc s := rfl
theorem putsL_long : ∀ (ps : List Bs) (acc : Bs), 65536 < acc.length → putsL acc ps = acc
  | [], _, _ => rfl
  | s :: ps, acc, h => by
    show putsL (putL acc s) ps = _
    have : putL acc s = acc := by unfold putL; rw [if_neg (by omega)]
    rw [this, putsL_long ps acc h]
theorem putsL_all : ∀ (ps : List Bs) (acc : Bs), acc.length + ps.flatten.length ≤ 65536 → putsL acc ps = acc ++ ps.flatten
  | [], acc, _ => by simp [putsL]
  | s :: ps, acc, h => by
    rw [List.flatten_cons, List.length_append] at h
    show putsL (putL acc s) ps = _
    have : putL acc s = acc ++ s := by unfold putL; rw [if_pos (by omega)]
    rw [this, putsL_all ps _ (by rw [List.length_append]; omega), List.flatten_cons, List.append_assoc]
theorem putsL_over : ∀ (ps : List Bs) (acc : Bs), 65536 < acc.length + ps.flatten.length → 65536 < (putsL acc ps).length
  | [], acc, h => by simpa [putsL] using h
  | s :: ps, acc, h => by
    rw [List.flatten_cons, List.length_append] at h
    show 65536 < (putsL (putL acc s) ps).length
    by_cases ha : acc.length ≤ 65536
    · have : putL acc s = acc ++ s := by unfold putL; rw [if_pos ha]
      rw [this]
      exact putsL_over ps _ (by rw [List.length_append]; omega)
    · have : putL acc s = acc := by unfold putL; rw [if_neg ha]
      rw [this, putsL_long ps acc (by omega)]
      omega
theorem putsL_le : ∀ (ps : List Bs) (acc : Bs) (m : Nat), (∀ p ∈ ps, p.length ≤ m) → acc.length ≤ 65536 + m → (putsL acc ps).length ≤ 65536 + m
  | [], acc, m, _, h => h
  | s :: ps, acc, m, hp, h => by
    show (putsL (putL acc s) ps).length ≤ _
    refine putsL_le ps _ m (fun p hpp => hp p (by simp [hpp])) ?_
    unfold putL
    have := hp s (by simp)
    split
    · rw [List.length_append]; omega
    · exact h
def quoPs (t : Bs) : List Bs := [34] :: ((runesT t).map printedR ++ [[34]])
mutual
/-- The pieces of a value's text. -/
def psJ : JV → List Bs
  | .mk k t items keys =>
    if k = 3 then [t] else if k = 4 then quoPs t
    else if k = 5 then [91] :: (psL 5 true items keys ++ [[93]])
    else if k = 6 then [123] :: (psL 6 true items keys ++ [[125]])
    else [wordOf k]
def psL (k : Int) (first : Bool) : List JV → List Bs → List Bs
  | [], _ => []
  | x :: l, keys => (if first = true then [] else [[44]]) ++ (if k = 6 then quoPs (keys.headD []) ++ [[58]] else []) ++ psJ x ++ psL k false l keys.tail
end
theorem quoPs_flat (t : Bs) : (quoPs t).flatten = quoT t := by
  unfold quoPs quoT quoR
  rw [List.flatten_cons, List.flatten_append, List.flatMap]
  simp
mutual
theorem psJ_flat : ∀ v : JV, (v.kind = 6 → v.keys.length = v.items.length) → may v → (psJ v).flatten = prG [] v
  | .mk k t items keys, hk, hm => by
    rw [psJ, prG]
    by_cases h3 : k = 3
    · rw [if_pos h3, if_pos h3]; simp
    by_cases h4 : k = 4
    · rw [if_neg h3, if_neg h3, if_pos h4, if_pos h4]; exact quoPs_flat t
    by_cases h5 : k = 5
    · subst h5
      rw [if_neg (by decide), if_neg (by decide), if_pos rfl, if_neg (by decide), if_neg (by decide), if_pos rfl]
      have := psL_flat5 items keys true (may_list hm).1
      rw [List.flatten_cons, List.flatten_append, this]
      simp
    by_cases h6 : k = 6
    · subst h6
      obtain ⟨h1, _, h2, _⟩ := may_obj hm
      rw [if_neg (by decide), if_neg (by decide), if_neg (by decide), if_pos rfl, if_neg (by decide), if_neg (by decide), if_neg (by decide), if_pos rfl]
      have := psL_flat6 items keys true h1 h2
      rw [List.flatten_cons, List.flatten_append, this]
      simp
    · rw [if_neg h3, if_neg h3, if_neg h4, if_neg h4, if_neg h5, if_neg h5, if_neg h6, if_neg h6]; simp
theorem psL_flat5 : ∀ (items : List JV) (keys : List Bs) (first : Bool), mayL items → (psL 5 first items keys).flatten = if first = true then joinG [] (prL [] items) else sepG [] (prL [] items)
  | [], keys, first, _ => by rw [psL, prL]; cases first <;> rfl
  | x :: l, keys, first, h => by
    rw [mayL] at h
    rw [psL, prL, joinG_cons]
    have h1 := psJ_flat x (fun hk => by obtain ⟨k, t, i, ks⟩ := x; simp only [JV.kind] at hk; subst hk; exact (may_obj h.1).2.2.1) h.1
    have h2 := psL_flat5 l keys.tail false h.2
    rw [if_neg (by decide)] at h2
    have e56 : (if (5 : Int) = 6 then quoPs (keys.headD []) ++ [[58]] else []) = ([] : List Bs) := if_neg (by decide)
    rw [e56]
    cases first
    · simp [h1, h2, sepG]
    · simp [h1, h2]
theorem psL_flat6 : ∀ (items : List JV) (keys : List Bs) (first : Bool), mayL items → keys.length = items.length → (psL 6 first items keys).flatten = if first = true then joinG [] (List.zipWith (pairG []) keys (prL [] items)) else sepG [] (List.zipWith (pairG []) keys (prL [] items))
  | [], keys, first, _, hl => by
    obtain rfl := List.eq_nil_of_length_eq_zero hl
    rw [psL, prL]; cases first <;> rfl
  | x :: l, keys, first, h, hl => by
    obtain ⟨k, ks, rfl⟩ : ∃ k ks, keys = k :: ks := by
      cases keys with
      | nil => simp at hl
      | cons k ks => exact ⟨k, ks, rfl⟩
    rw [mayL] at h
    rw [psL, prL, List.zipWith_cons_cons, joinG_cons]
    have h1 := psJ_flat x (fun hk => by obtain ⟨k, t, i, ks⟩ := x; simp only [JV.kind] at hk; subst hk; exact (may_obj h.1).2.2.1) h.1
    have h2 := psL_flat6 l ks false h.2 (by simpa using hl)
    rw [if_neg (by decide)] at h2
    rw [if_pos rfl, List.headD_cons, List.tail_cons]
    cases first
    · simp [h1, h2, quoPs_flat, sepG, pairG]
    · simp [h1, h2, quoPs_flat, pairG]
end
theorem psJ_all {v : JV} (h : may v) : (psJ v).flatten = prG [] v :=
  psJ_flat v (fun hk => by obtain ⟨k, t, i, ks⟩ := v; simp only [JV.kind] at hk; subst hk; exact (may_obj h).2.2.1) h
/-! ### How deep a value is, as far as it is asked -/
def keysOk (l : List Bs) : Bool := l.all validD && decide l.Nodup
def isNumB (t : Bs) : Bool := match numP t with | .ok _ r => decide (r = []) | .bad _ _ => false
theorem isNumB_iff (t : Bs) : isNumB t = true ↔ isNum t := by
  unfold isNumB isNum
  cases numP t with
  | bad k r => simp
  | ok u r => simp
def aloneK (k : Int) (t : Bs) (n : Nat) (keys : List Bs) : Bool :=
  if (k ≠ 6 ∧ 0 < keys.length) ∨ (k ≠ 6 ∧ k ≠ 5 ∧ 0 < n) then false
  else if k = 0 ∨ k = 1 ∨ k = 2 ∨ k = 5 then decide (t = [])
  else if k = 3 then isNumB t
  else if k = 4 then validD t
  else if k = 6 then decide (t = []) && (decide (keys.length = n) && keysOk keys)
  else false
def alone (v : JV) : Bool := aloneK v.kind v.text v.items.length v.keys
def maxO : Nat → List (Option Nat) → Option Nat
  | n, [] => some n
  | _, none :: _ => none
  | n, some d :: l => maxO (max n d) l
def up (v : JV) (n : Nat) : Nat := if v.kind = 5 ∨ v.kind = 6 then n + 1 else n
def depthF : Nat → JV → Option Nat
  | 0, v => if alone v = true then some 0 else none
  | n + 1, v => if alone v = true then (maxO 0 (v.items.map (depthF n))).map (up v) else none
theorem maxO_some : ∀ (l : List (Option Nat)) (n m : Nat), maxO n l = some m → n ≤ m ∧ ∀ x ∈ l, ∃ d, x = some d ∧ d ≤ m
  | [], n, m, h => by rw [maxO, Option.some.injEq] at h; exact ⟨by omega, by simp⟩
  | none :: l, n, m, h => by cases h
  | some d :: l, n, m, h => by
    rw [maxO] at h
    obtain ⟨h1, h2⟩ := maxO_some l _ m h
    refine ⟨by omega, fun x hx => ?_⟩
    rcases List.mem_cons.1 hx with rfl | hx
    · exact ⟨d, rfl, by omega⟩
    · exact h2 x hx
theorem maxO_eq : ∀ (l : List JV) (n : Nat), maxO n (l.map fun x => some (deep x)) = some (max n (deepL l))
  | [], n => by rw [List.map_nil, maxO, deepL]; simp
  | x :: l, n => by rw [List.map_cons, maxO, maxO_eq l, deepL, Nat.max_assoc]
theorem alone_may {v : JV} (ha : alone v = true) (hm : mayL v.items) : may v := by
  obtain ⟨k, t, items, keys⟩ := v
  have ha : aloneK k t items.length keys = true := ha
  have hm : mayL items := hm
  unfold aloneK at ha
  rw [may]
  refine ⟨hm, ?_⟩
  by_cases hn : k ≠ 6 ∧ 0 < keys.length ∨ k ≠ 6 ∧ k ≠ 5 ∧ 0 < items.length
  · rw [if_pos hn] at ha; cases ha
  rw [if_neg hn] at ha
  have hk : k ≠ 6 → keys = [] := fun h => List.eq_nil_of_length_eq_zero (by
    have : ¬ (0 < keys.length) := fun h0 => hn (.inl ⟨h, h0⟩)
    omega)
  have hi : k ≠ 6 → k ≠ 5 → items = [] := fun h h' => List.eq_nil_of_length_eq_zero (by
    have : ¬ (0 < items.length) := fun h0 => hn (.inr ⟨h, h', h0⟩)
    omega)
  by_cases c0 : k = 0 ∨ k = 1 ∨ k = 2 ∨ k = 5
  · rw [if_pos c0, decide_eq_true_eq] at ha
    rcases c0 with h | h | h | h
    · exact .inl ⟨.inl h, ha, hi (by omega) (by omega), hk (by omega)⟩
    · exact .inl ⟨.inr (.inl h), ha, hi (by omega) (by omega), hk (by omega)⟩
    · exact .inl ⟨.inr (.inr h), ha, hi (by omega) (by omega), hk (by omega)⟩
    · exact .inr (.inr (.inr (.inl ⟨h, ha, hk (by omega)⟩)))
  rw [if_neg c0] at ha
  by_cases h : k = 3
  · rw [if_pos h] at ha
    exact .inr (.inl ⟨h, (isNumB_iff t).1 ha, hi (by omega) (by omega), hk (by omega)⟩)
  rw [if_neg h] at ha
  by_cases h : k = 4
  · rw [if_pos h] at ha
    exact .inr (.inr (.inl ⟨h, ha, hi (by omega) (by omega), hk (by omega)⟩))
  rw [if_neg h] at ha
  by_cases h : k = 6
  · rw [if_pos h, Bool.and_eq_true, Bool.and_eq_true, decide_eq_true_eq, decide_eq_true_eq] at ha
    have hx := ha.2.2
    unfold keysOk at hx
    rw [Bool.and_eq_true, List.all_eq_true, decide_eq_true_eq] at hx
    exact .inr (.inr (.inr (.inr ⟨h, ha.1, ha.2.1, hx.1, hx.2⟩)))
  · rw [if_neg h] at ha; cases ha
theorem may_alone {v : JV} (h : may v) : alone v = true ∧ mayL v.items := by
  obtain ⟨k, t, items, keys⟩ := v
  rw [may] at h
  refine ⟨?_, h.1⟩
  show aloneK k t items.length keys = true
  unfold aloneK
  rcases h.2 with ⟨hk, rfl, rfl, rfl⟩ | ⟨rfl, hn, rfl, rfl⟩ | ⟨rfl, hv, rfl, rfl⟩ | ⟨rfl, rfl, rfl⟩ | ⟨rfl, rfl, hl, hv, hd⟩
  · rw [if_neg (by simp), if_pos (by omega)]; rfl
  · rw [if_neg (by simp), if_neg (by decide), if_pos rfl]; exact (isNumB_iff t).2 hn
  · rw [if_neg (by simp), if_neg (by decide), if_neg (by decide), if_pos rfl]; exact hv
  · rw [if_neg (by simp), if_pos (by decide)]; rfl
  · rw [if_neg (by simp), if_neg (by decide), if_neg (by decide), if_neg (by decide), if_pos rfl]
    unfold keysOk
    rw [Bool.and_eq_true, Bool.and_eq_true, Bool.and_eq_true, decide_eq_true_eq, decide_eq_true_eq, decide_eq_true_eq, List.all_eq_true]
    exact ⟨rfl, hl, hv, hd⟩
theorem deep_up (v : JV) : deep v = up v (deepL v.items) := by
  obtain ⟨k, t, items, keys⟩ := v
  rw [deep]; rfl
/-- What is not asked to the end is deeper than may be. -/
theorem depth_some : ∀ (n : Nat) (v : JV) (m : Nat), depthF n v = some m → m < n → may v ∧ deep v = m
  | 0, v, m, _, h => absurd h (by omega)
  | n + 1, v, m, h, hm => by
    rw [depthF] at h
    split at h
    · rename_i ha
      cases hx : maxO 0 (v.items.map (depthF n)) with
      | none => rw [hx] at h; cases h
      | some d =>
        rw [hx, Option.map_some, Option.some.injEq] at h
        obtain ⟨_, h2⟩ := maxO_some _ _ _ hx
        by_cases hk : v.kind = 5 ∨ v.kind = 6
        · have hu : up v d = d + 1 := by unfold up; rw [if_pos hk]
          have hall : ∀ x ∈ v.items, may x ∧ depthF n x = some (deep x) := fun x hxm => by
            obtain ⟨e, he, hle⟩ := h2 _ (List.mem_map_of_mem hxm)
            have := depth_some n x e he (by omega)
            exact ⟨this.1, by rw [he, this.2]⟩
          have e : v.items.map (depthF n) = v.items.map fun x => some (deep x) := List.map_congr_left fun x hxm => (hall x hxm).2
          rw [e, maxO_eq, Option.some.injEq] at hx
          refine ⟨alone_may ha (mayL_of fun x hxm => (hall x hxm).1), ?_⟩
          rw [deep_up, ← h, ← hx]; simp
        · have hi : v.items = [] := by
            have ha' := ha
            unfold alone aloneK at ha'
            by_cases hn : (v.kind ≠ 6 ∧ 0 < v.keys.length) ∨ (v.kind ≠ 6 ∧ v.kind ≠ 5 ∧ 0 < v.items.length)
            · rw [if_pos hn] at ha'; cases ha'
            · refine List.eq_nil_of_length_eq_zero ?_
              have : ¬ 0 < v.items.length := fun h0 => hn (.inr ⟨fun h => hk (.inr h), fun h => hk (.inl h), h0⟩)
              omega
          rw [hi] at hx
          rw [List.map_nil, maxO, Option.some.injEq] at hx
          refine ⟨alone_may ha (by rw [hi, mayL]; trivial), ?_⟩
          rw [deep_up, ← h, hi, ← hx, deepL]
    · cases h
theorem may_depth : ∀ (n : Nat) (v : JV), may v → deep v < n → depthF n v = some (deep v)
  | 0, v, _, h => absurd h (by omega)
  | n + 1, v, h, hd => by
    obtain ⟨ha, hm⟩ := may_alone h
    rw [depthF, if_pos ha]
    by_cases hk : v.kind = 5 ∨ v.kind = 6
    · have hu : deep v = deepL v.items + 1 := by rw [deep_up]; unfold up; rw [if_pos hk]
      have e : v.items.map (depthF n) = v.items.map fun x => some (deep x) := List.map_congr_left fun x hxm => may_depth n x (mayL_mem hm x hxm) (by have := deepL_mem hxm; omega)
      rw [e, maxO_eq, Option.map_some, deep_up]; simp
    · have hi : v.items = [] := by
        have ha' := ha
        unfold alone aloneK at ha'
        by_cases hn : (v.kind ≠ 6 ∧ 0 < v.keys.length) ∨ (v.kind ≠ 6 ∧ v.kind ≠ 5 ∧ 0 < v.items.length)
        · rw [if_pos hn] at ha'; cases ha'
        · refine List.eq_nil_of_length_eq_zero ?_
          have : ¬ 0 < v.items.length := fun h0 => hn (.inr ⟨fun h => hk (.inr h), fun h => hk (.inl h), h0⟩)
          omega
      rw [deep_up, hi, List.map_nil, maxO, deepL]; rfl
/-- What Print answers. -/
def printA (v : JV) : Bs × Nat :=
  match depthF 65536 v with
  | none => ([], 2)
  | some n => if 16 < n then ([], 11) else if 65536 < (prG [] v).length then ([], 3) else (prG [] v, 0)
theorem printA_may {v : JV} (h : may v) (hd : deep v ≤ 16) : printA v = if 65536 < (prG [] v).length then ([], 3) else (prG [] v, 0) := by
  unfold printA
  rw [may_depth 65536 v h (by omega)]
  dsimp only
  rw [if_neg (by omega)]
theorem printA_ok {v : JV} (h : (printA v).2 = 0) : may v ∧ deep v ≤ 16 ∧ (printA v).1 = prG [] v ∧ (prG [] v).length ≤ 65536 := by
  unfold printA at h ⊢
  cases hx : depthF 65536 v with
  | none => rw [hx] at h; cases h
  | some n =>
    rw [hx] at h
    dsimp only at h ⊢
    split at h
    · cases h
    rename_i h16
    split at h
    · cases h
    rename_i hl
    obtain ⟨h1, h2⟩ := depth_some 65536 v n hx (by omega)
    exact ⟨h1, by omega, by rw [if_neg h16, if_neg hl], by omega⟩
/-! ### The examples -/
theorem ex1 : allP 20 [91, 49, 44, 32, 45, 50, 46, 53, 101, 51, 93] = some (.ok (.mk 5 [] [.mk 3 [49] [] [], .mk 3 [45, 50, 46, 53, 101, 51] [] []] []) []) := by rfl
theorem ex2 : allP 20 [48, 49] = some (.bad 10 [49]) := by rfl
theorem ex3 : allP 20 [91, 49, 44, 93] = some (.bad 10 [93]) := by rfl
theorem ex4 : allP 20 [34, 97] = some (.bad 10 []) := by rfl
theorem ex5 : prG [] (.mk 4 [34, 10, 1] [] []) = [34, 92, 34, 92, 110, 92, 117, 48, 48, 48, 49, 34] := by rfl
end Go.Proofs.YtafmokpplnmbgaaGreatDoor

/- Rows of cells, bytes and texts in memory, as any layer's walks meet them (it wants of the cut only the types uint8 and string). -/
namespace Go.Proofs.YtafmokpplnmbgaaGreatDoor
open Go.RowKit

theorem retBool {a b : Bool} (h : a = b) : Ending.returned (.bool a) = .returned (.bool b) := by rw [h]
theorem retInt {k : IntKind} {a b : Int} (h : a = b) : Ending.returned (.int k a) = .returned (.int k b) := by rw [h]
theorem size_alloc (w : World) (o : Obj) : (w.alloc o).heap.size = w.heap.size + 1 := by
  show (w.heap.push o).size = _
  simp
theorem below_setRow {B : Nat} {a w : World} (h : Below B a w) {g : Nat} (hg : B ≤ g) (cs : Array Value) : Below B a (w.setRow g cs) :=
  ⟨h.os, h.tape, h.output, by rw [setRow_size]; exact h.size, fun k hk => (setRow_other w g k cs (by omega)).trans (h.block k hk)⟩
theorem below_drewN {B : Nat} {a w : World} (h : Below B a w) (n : Nat) : Below B a (w.drewN n) := h.trans ⟨rfl, rfl, rfl, Nat.le_refl _, fun _ _ => rfl⟩
/-- A byte of a text, as the walk meets it. -/
theorem idx_str (s : ByteArray) (i : Nat) (x : Int) (hx : x = i) (h : i < s.size) : ∀ w, (Instr.index 9 (.string s) (.int .i64 x)).run Tryz.prog w = .ok (.int .u8 ((s.data.toList.getD i 0).toNat : Int)) w := by
  intro w
  subst hx
  rw [run_index_string w _ s _ _ Tryz.underlying9, dif_pos ⟨by omega, by omega⟩]
  have h2 : i < s.data.toList.length := by simpa using h
  simp only [Int.toNat_natCast]
  congr 3
  rw [List.getD_eq_getElem?_getD, List.getElem?_eq_getElem h2]
  rfl

theorem qs {P : Program} {f : FuncId} {args : Array Value} {w : World} {n : Nat} {v : Value} (h : Calls P f args (w.drewN n) fun e w' => e = .returned v ∧ w.drewN n = w') :
    Calls P f args (w.drewN n) fun e w'' => e = .returned v ∧ ∃ m, w'' = w.drewN m := h.mono fun _ _ ⟨he, hm⟩ => ⟨he, n, hm.symm⟩
theorem qs2 {P : Program} {f : FuncId} {args : Array Value} {w : World} {a n : Nat} {v : Value} (h : Calls P f args (w.drewN (a + n)) fun e w' => e = .returned v ∧ w.drewN (a + n) = w') :
    Calls P f args (w.drewN (a + n)) fun e w'' => e = .returned v ∧ ∃ m, w'' = w.drewN (a + m) := h.mono fun _ _ ⟨he, hm⟩ => ⟨he, n, hm.symm⟩
/-! ### A row of cells, whatever they are -/
/-- The block b is just these cells. -/
def rowC (w : World) (b : Nat) (cs : Array Value) (t : TypeId) : Prop := w.heap[b]? = some (.cells cs t (0, 0))
section
variable {w : World} {b : Nat} {cs : Array Value} {t : TypeId}
theorem rowC_lt (h : rowC w b cs t) : b < w.heap.size := (Array.getElem?_eq_some_iff.1 h).1
theorem rowC_cell (h : rowC w b cs t) (i : Nat) : w.cell? ⟨b, i, none⟩ = cs[i]? := cell_of_row w b i _ t _ h
theorem rowC_free (h : rowC w b cs t) (i : Nat) : w.frozen? ⟨b, i, none⟩ = false := frozen_of_row w b i _ t h
theorem rowC_set (h : rowC w b cs t) (i : Nat) (x : Value) : rowC (w.setCell ⟨b, i, none⟩ x) b (cs.setIfInBounds i x) t := heap_setCell_same w b i _ t _ h
theorem rowC_other (h : rowC w b cs t) (a : Addr) (v : Value) (hne : b ≠ a.block) : rowC (w.setCell a v) b cs t := (heap_setCell_other w a b v hne).trans h
theorem rowC_drew (h : rowC w b cs t) : rowC w.drew b cs t := h
theorem rowC_drewN (h : rowC w b cs t) (n : Nat) : rowC (w.drewN n) b cs t := h
theorem rowC_alloc (h : rowC w b cs t) (o : Obj) : rowC (w.alloc o) b cs t := (Below.heap_alloc w o b (rowC_lt h)).trans h
theorem rowC_setRow_other (h : rowC w b cs t) (g : Nat) (d : Array Value) (hne : b ≠ g) : rowC (w.setRow g d) b cs t := (setRow_other w g b d hne).trans h
theorem rowC_setRow (h : rowC w b cs t) (d : Array Value) : rowC (w.setRow b d) b d t := setRow_heap w b cs d t _ h
theorem rowC_new (w : World) (cs : Array Value) (t : TypeId) : rowC (w.alloc (.cells cs t)) w.heap.size cs t := heap_alloc_new w _
theorem rowC_below (h : rowC w b cs t) {w' : World} {B : Nat} (hb : Below B w w') (hlt : b < B) : rowC w' b cs t := (hb.block b hlt).trans h
end
/-! ### A composite literal, and its store into the block that was made last -/
theorem wpList_build_as {P : Program} {w : World} {ops : Array Oper} {rest : List Oper} {o : Oper} {a : Act} {Q : Exit → Act → World → Prop} (hg : o.guard = none) (t : TypeId) (parts : Array (Nat × Operand)) (ho : o.op = .build t parts) (cells : Array Value)
    (hc : P.built t (parts.map fun (i, x) => (i, a.eval x)).toList = some cells) (h : wpList P ops Q rest (a.put o.dst (.agg cells)) w) : wpList P ops Q (o :: rest) a w := by
  refine wpList_build hg t parts ho (by rw [hc]; rfl) ?_
  rw [hc]
  exact h
theorem wpList_store_last {P : Program} {W : World} {ops : Array Oper} {rest : List Oper} {o : Oper} {a : Act} {Q : Exit → Act → World → Prop} (hgd : o.guard = none) (ty : TypeId) (x y : Operand) (ho : o.op = .store ty x y)
    (n : Nat) (cells : Array Value) (hx : a.eval x = .pointer (some ⟨n, 0, none⟩)) (hy : a.eval y = .agg cells) (t : TypeId) (old : Array Value) (hn : n = W.heap.size)
    (hi : (P.info? ty).map (·.size) = some cells.size) (hold : old.size = cells.size) (h1 : cells.all (·.oneCell') = true)
    (h : wpList P ops Q rest (a.put o.dst undef) (W.alloc (.cells cells t))) : wpList P ops Q (o :: rest) a (W.alloc (.cells old t)) := by
  subst hn
  refine wpList_store_row hgd ty x y ho W.heap.size cells hx hy t old (heap_alloc_new W _) hi hold h1 ?_
  rw [World.setRow_alloc_new]
  exact h
/-- Bytes as cells. -/
def byteV (b : UInt8) : Value := .int .u8 (b.toNat : Int)
def cells8 (l : List UInt8) : Array Value := (l.map byteV).toArray
theorem byteV_ofNat (x : Nat) : byteV (UInt8.ofNat x) = .int .u8 ((x : Int) % 256) := by
  unfold byteV; simp
theorem cells8_size (l : List UInt8) : (cells8 l).size = l.length := by simp [cells8]
theorem cells8_get (l : List UInt8) (i : Nat) (h : i < l.length) : (cells8 l)[i]? = some (byteV (l.getD i 0)) := by
  simp [cells8, h, List.getD_eq_getElem?_getD]
theorem cells8_set (l : List UInt8) (i : Nat) (x : UInt8) : (cells8 l).setIfInBounds i (byteV x) = cells8 (l.set i x) := by
  simp [cells8, List.map_set]
theorem cells8_one (l : List UInt8) : (cells8 l).all (·.oneCell') = true := all_oneCell_toArray (fun v hv => by
  obtain ⟨x, _, rfl⟩ := List.mem_map.1 hv
  rfl)
/-- A list of bytes as a text. -/
def str (l : List UInt8) : ByteArray := ⟨l.toArray⟩
theorem str_size (l : List UInt8) : (str l).size = l.length := by simp [str, ByteArray.size]
theorem str_list (s : ByteArray) : str s.data.toList = s := by unfold str; rfl
theorem str_toList (l : List UInt8) : (str l).data.toList = l := by simp [str]
theorem bytes_toList {a b : ByteArray} (h : a.data.toList = b.data.toList) : a = b := by
  cases a; cases b; simp_all
theorem str_append (a b : List UInt8) : str a ++ str b = str (a ++ b) := by
  refine bytes_toList ?_
  simp [str, ByteArray.data_append]
theorem info_u8 : (Tryz.prog.info? 5).map (fun i => (i.zero, i.size, i.bytes)) = some (some (.int .u8 0), 1, 1) := by kernel_rfl
theorem str_nums (l : List UInt8) : strOfNums (l.map fun b => (b.toNat : Int)) = str l := by
  unfold strOfNums str
  congr 2
  rw [List.map_map]
  conv => rhs; rw [← List.map_id l]
  refine List.map_congr_left fun x _ => ?_
  simp
theorem retStr {a b : ByteArray} (h : a = b) : Ending.returned (.string a) = .returned (.string b) := by rw [h]

/-- A whole array is read, in a region that draws its order. -/
theorem wpStill_load_row {P : Program} {w : World} {ops : Array Oper} {rest : List Oper} {o : Oper} {a : Act} {Q : Act → Prop} (hw : Region.wanted o (yielded ops a.tmps) = true) (ty : TypeId) (x : Operand) (ho : o.op = .load ty x)
    (g : Nat) (hx : a.eval x = .pointer (some ⟨g, 0, none⟩)) (cs : Array Value) (t : TypeId) (d : TypeDesc) (hg : rowC w g cs t)
    (hu : P.underlying ty = some d) (hd : (match d with | .struct _ | .array _ _ => true | _ => false) = true) (hi : (P.info? ty).map (·.size) = some cs.size)
    (h : wpStill P ops w Q rest (a.put o.dst (.agg cs))) : wpStill P ops w Q (o :: rest) a := by
  refine wpStill_step fun K hK => ?_
  rw [if_pos hw]
  unfold Oper.still execOp
  simp only [ho, hx, Instr.loadAt, Instr.sureAddr, Sem.run_bind, Sem.run_pure, Result.andThen_ok, run_loadVar_row w g t ty cs (0, 0) d hg hu hd hi]
  exact ⟨rfl, hK _ h⟩
/-- A byte of a text at an index of any kind. -/
theorem idx_strK (k : IntKind) (s : ByteArray) (i : Nat) (x : Int) (hx : x = i) (h : i < s.size) : ∀ w, (Instr.index 9 (.string s) (.int k x)).run Tryz.prog w = .ok (.int .u8 ((s.data.toList.getD i 0).toNat : Int)) w := by
  intro w
  subst hx
  rw [run_index_string w _ s _ _ Tryz.underlying9, dif_pos ⟨by omega, by omega⟩]
  have h2 : i < s.data.toList.length := by simpa using h
  simp only [Int.toNat_natCast]
  congr 3
  rw [List.getD_eq_getElem?_getD, List.getElem?_eq_getElem h2]
  rfl
/-- A row out of memory, and a number beside it, as results. -/
theorem results_row_tmp {P : Program} {fn : Func} {p u : Tmp} {ty : TypeId} (h : fn.results = #[.cell p ty, .tmp u]) (tmps : Array Value) (w : World) (g : Nat) (t : TypeId) (cs : Array Value) (d : TypeDesc)
    (hp : tmps.getD p undef = .pointer (some ⟨g, 0, none⟩)) (hg : rowC w g cs t)
    (hu : P.underlying ty = some d) (hd : (match d with | .struct _ | .array _ _ => true | _ => false) = true) (hi : (P.info? ty).map (·.size) = some cs.size) (v : Value) (hv : tmps.getD u undef = v) :
    (results fn tmps).run P w = .ok (.tuple #[.agg cs, v]) w := by
  rw [results_cell_tmp h, hp, hv]
  simp only [asAddr, Sem.run_pure, Result.andThen_ok, run_loadVar_row w g t ty cs (0, 0) d hg hu hd hi]
/-- Texts against each other, as the walk spells it. -/
theorem eq_texts (a b : List UInt8) : ((str a).toList == (str b).toList) = decide (a = b) := by
  unfold str
  rw [ByteArray.toList_mk, ByteArray.toList_mk, Bool.eq_iff_iff, beq_iff_eq, decide_eq_true_eq]
/-- A whole array is read, where a guard may stand ahead of it. -/
theorem wpList_load_rowG {P : Program} {ops : Array Oper} {rest : List Oper} {o : Oper} {a : Act} {w : World} {Q : Exit → Act → World → Prop} (hw : Region.wanted o (yielded ops a.tmps) = true) (ty : TypeId) (x : Operand) (ho : o.op = .load ty x)
    (g : Nat) (hx : a.eval x = .pointer (some ⟨g, 0, none⟩)) (t : TypeId) (cs : Array Value) (d : TypeDesc) (hg : rowC w g cs t)
    (hu : P.underlying ty = some d) (hd : (match d with | .struct _ | .array _ _ => true | _ => false) = true) (hi : (P.info? ty).map (·.size) = some cs.size)
    (h : wpList P ops Q rest (a.put o.dst (.agg cs)) w) : wpList P ops Q (o :: rest) a w := by
  rw [wpList, if_pos hw]
  exact .inl (wp_load_row ty x ho g hx t cs (0, 0) d hg hu hd hi h)
/-- A composite literal, where a guard may stand ahead of it. -/
theorem wpList_build_asG {P : Program} {w : World} {ops : Array Oper} {rest : List Oper} {o : Oper} {a : Act} {Q : Exit → Act → World → Prop} (hw : Region.wanted o (yielded ops a.tmps) = true) (t : TypeId) (parts : Array (Nat × Operand)) (ho : o.op = .build t parts) (cells : Array Value)
    (hc : P.built t (parts.map fun (i, x) => (i, a.eval x)).toList = some cells) (h : wpList P ops Q rest (a.put o.dst (.agg cells)) w) : wpList P ops Q (o :: rest) a w := by
  have hb := wpList_build_as (P := P) (w := w) (ops := ops) (rest := rest) (o := { o with guard := none }) (a := a) (Q := Q) rfl t parts ho cells hc h
  have hn : Region.wanted { o with guard := none } (yielded ops a.tmps) = true := rfl
  rw [wpList] at hb ⊢
  rw [if_pos hw]
  rw [if_pos hn] at hb
  exact hb
theorem range_row {w : World} {b : Nat} {l : List UInt8} {t : TypeId} (h : rowC w b (cells8 l) t) : w.rangeAt b 0 (l.map byteV) := fun j v hv => by
  rw [Nat.zero_add, rowC_cell h]
  simpa [cells8] using hv
theorem eqItems_bytes (w : World) (l m : List UInt8) (d : Nat) : ∀ is : List Nat, (∀ i ∈ is, i < l.length ∧ i < m.length) →
    (Op.eqItems (d + 1) 5 1 (cells8 l) (cells8 m) is).run Tryz.prog w = .ok (is.all fun i => l.getD i 0 == m.getD i 0) w
  | [], _ => by simp [Op.eqItems]
  | i :: is, h => by
    obtain ⟨h1, h2⟩ := h i (by simp)
    have ih := eqItems_bytes w l m d is (fun j hj => h j (by simp [hj]))
    have p1 := run_part_plain (P := Tryz.prog) w (e := 5) (by kernel_rfl) (cells8_get l i h1)
    have p2 := run_part_plain (P := Tryz.prog) w (e := 5) (by kernel_rfl) (cells8_get m i h2)
    have p3 := run_equalIn_int (P := Tryz.prog) w d 5 .u8 .u8 ((l.getD i 0).toNat : Int) ((m.getD i 0).toNat : Int) Tryz.underlying5
    have e : (((l.getD i 0).toNat : Int) == ((m.getD i 0).toNat : Int)) = (l.getD i 0 == m.getD i 0) := by
      rw [Bool.eq_iff_iff]; simp only [beq_iff_eq]
      constructor
      · intro h; exact UInt8.toNat_inj.1 (by omega)
      · intro h; rw [h]
    rw [e] at p3
    unfold byteV at p1 p2
    rw [Op.eqItems, Nat.mul_one]
    simp only [Sem.run_bind, p1, p2, p3, Result.andThen_ok, List.all_cons]
    cases l.getD i 0 == m.getD i 0
    · simp
    · simpa using ih
theorem all_bytes {l m : List UInt8} (hl : l.length = 32) (hm : m.length = 32) : ((List.range 32).all fun i => l.getD i 0 == m.getD i 0) = decide (l = m) := by
  rw [Bool.eq_iff_iff, List.all_eq_true, decide_eq_true_eq]
  constructor
  · intro h
    refine List.ext_getElem? fun i => ?_
    by_cases hi : i < 32
    · have := h i (List.mem_range.2 hi)
      rw [beq_iff_eq, List.getD_eq_getElem?_getD, List.getD_eq_getElem?_getD, List.getElem?_eq_getElem (by omega), List.getElem?_eq_getElem (by omega)] at this
      rw [List.getElem?_eq_getElem (by omega), List.getElem?_eq_getElem (by omega)]
      exact congrArg some this
    · rw [List.getElem?_eq_none (by omega), List.getElem?_eq_none (by omega)]
  · rintro rfl i _
    simp
end Go.Proofs.YtafmokpplnmbgaaGreatDoor

/- What a call changes: new blocks, and of the old ones just some. (Generic: it names nothing of the cut.) -/
namespace Go.Proofs.YtafmokpplnmbgaaGreatDoor
open Go.RowKit

/-- w' is w with new blocks, and of the old ones none but those of s is another one. -/
structure Chg (s : Nat → Prop) (w w' : World) : Prop where
  os : w'.os = w.os
  tape : w'.tape = w.tape
  output : w'.output = w.output
  size : w.heap.size ≤ w'.heap.size
  block : ∀ k, k < w.heap.size → ¬ s k → w'.heap[k]? = w.heap[k]?
theorem Chg.refl (s : Nat → Prop) (w : World) : Chg s w w := ⟨rfl, rfl, rfl, Nat.le_refl _, fun _ _ _ => rfl⟩
theorem Chg.trans {s t : Nat → Prop} {a b c : World} (h : Chg s a b) (g : Chg t b c) (ht : ∀ k, k < a.heap.size → t k → s k) : Chg s a c :=
  ⟨g.os.trans h.os, g.tape.trans h.tape, g.output.trans h.output, Nat.le_trans h.size g.size, fun k hk hs => (g.block k (Nat.lt_of_lt_of_le hk h.size) (fun hh => hs (ht k hk hh))).trans (h.block k hk hs)⟩
theorem Chg.of_below {s : Nat → Prop} {w w' : World} (h : Below w.heap.size w w') : Chg s w w' := ⟨h.os, h.tape, h.output, h.size, fun k hk _ => h.block k hk⟩
theorem Chg.below {s : Nat → Prop} {w w' : World} (h : Chg s w w') {B : Nat} (hB : B ≤ w.heap.size) (hs : ∀ k, k < B → ¬ s k) : Below B w w' :=
  ⟨h.os, h.tape, h.output, h.size, fun k hk => h.block k (Nat.lt_of_lt_of_le hk hB) (hs k hk)⟩
theorem Chg.mono {s t : Nat → Prop} {w w' : World} (h : Chg s w w') (hs : ∀ k, k < w.heap.size → s k → t k) : Chg t w w' :=
  ⟨h.os, h.tape, h.output, h.size, fun k hk ht => h.block k hk (fun hh => ht (hs k hk hh))⟩
theorem Chg.then_below {s : Nat → Prop} {a w w' : World} (h : Chg s a w) (g : Below w.heap.size w w') : Chg s a w' := h.trans (t := s) (Chg.of_below g) (fun _ _ h => h)
theorem Chg.alloc {s : Nat → Prop} {a w : World} (h : Chg s a w) (o : Obj) : Chg s a (w.alloc o) := h.then_below ((Below.refl _ _).alloc (Nat.le_refl _) _)
theorem Chg.drew {s : Nat → Prop} {a w : World} (h : Chg s a w) : Chg s a w.drew := ⟨h.os, h.tape, h.output, h.size, h.block⟩
theorem Chg.drewN {s : Nat → Prop} {a w : World} (h : Chg s a w) (n : Nat) : Chg s a (w.drewN n) := ⟨h.os, h.tape, h.output, h.size, h.block⟩
theorem Chg.setCell {s : Nat → Prop} {a w : World} (h : Chg s a w) (p : Addr) (v : Value) (hp : s p.block ∨ a.heap.size ≤ p.block) : Chg s a (w.setCell p v) := by
  refine ⟨h.os, h.tape, h.output, ?_, fun k hk hs => ?_⟩
  · rw [World.size_setCell]; exact h.size
  · rw [heap_setCell_other w p k v (fun e => by subst e; rcases hp with hp | hp; exact hs hp; omega)]
    exact h.block k hk hs
theorem Chg.setRow {s : Nat → Prop} {a w : World} (h : Chg s a w) (g : Nat) (cs : Array Value) (hp : s g ∨ a.heap.size ≤ g) : Chg s a (w.setRow g cs) := by
  refine ⟨h.os, h.tape, h.output, ?_, fun k hk hs => ?_⟩
  · rw [setRow_size]; exact h.size
  · rw [setRow_other w g k cs (fun e => by subst e; rcases hp with hp | hp; exact hs hp; omega)]
    exact h.block k hk hs
theorem Chg.grown {s : Nat → Prop} {a w w' : World} (h : Chg s a w) {row : Option Nat} (g : w.grownBy w' row) (hr : ∀ k, row = some k → s k ∨ a.heap.size ≤ k) : Chg s a w' := by
  refine ⟨g.os.trans h.os, g.tape.trans h.tape, g.output.trans h.output, Nat.le_trans h.size g.size, fun k hk hs => ?_⟩
  rw [g.block k (Nat.lt_of_lt_of_le hk h.size) (fun e => by rcases hr k e.symm with hp | hp; exact hs hp; omega)]
  exact h.block k hk hs
theorem Chg.rowC {s : Nat → Prop} {w w' : World} (h : Chg s w w') {b : Nat} {cs : Array Value} {t : TypeId} (hr : rowC w b cs t) (hs : ¬ s b) : rowC w' b cs t := (h.block b (rowC_lt hr) hs).trans hr
theorem Chg.owns {s : Nat → Prop} {w w' : World} (h : Chg s w w') {base : Nat} {e : TypeId} {size n : Nat} {v : Value} {xs : List Value} (ho : w.ownsRow base e size v n xs) (hs : ∀ g, v.ownBlock = some g → ¬ s g) : w'.ownsRow base e size v n xs := by
  have hl := ho.lt
  refine ⟨ho.1, ?_⟩
  rcases ho.2 with hn | ⟨g, cap, cur, hv, hb, hg, hrest⟩
  · exact .inl hn
  · refine .inr ⟨g, cap, cur, hv, hb, ?_, hrest⟩
    have hlt := (hl g (by rw [hv]; rfl)).2
    exact (h.block g hlt (hs g (by rw [hv]; rfl))).trans hg
/-- A row that the call owns is no block of other cells. -/
theorem owns_ne {w : World} {base : Nat} {e t : TypeId} {size n b : Nat} {v : Value} {xs : List Value} {cs : Array Value} (ho : w.ownsRow base e size v n xs) (hr : rowC w b cs t) (hne : e ≠ t) : ∀ g, v.ownBlock = some g → g ≠ b := by
  intro g hg hgb
  rcases ho.2 with ⟨hv, _⟩ | ⟨g', cap, cur, hv, _, hgg, _⟩
  · rw [hv] at hg; cases hg
  · rw [hv] at hg
    simp [Value.ownBlock] at hg
    subst hg
    subst hgb
    unfold Go.Proofs.YtafmokpplnmbgaaGreatDoor.rowC at hr
    rw [hgg] at hr
    have := Option.some.inj hr
    injection this with _ h2 _
    exact hne h2
theorem owns_form {w : World} {base : Nat} {e : TypeId} {size n : Nat} {v : Value} {xs : List Value} (ho : w.ownsRow base e size v n xs) : ∃ a cap, v = .slice a n cap := by
  rcases ho.2 with ⟨hv, rfl⟩ | ⟨g, cap, cur, hv, _⟩
  · exact ⟨none, 0, hv⟩
  · exact ⟨_, cap, hv⟩
theorem owns_some {w : World} {base : Nat} {e : TypeId} {size n : Nat} {v : Value} {xs : List Value} (ho : w.ownsRow base e size v n xs) (hn : 0 < n) : ∃ g cap, v = .slice (some ⟨g, 0, none⟩) n cap := by
  rcases ho.2 with ⟨hv, rfl⟩ | ⟨g, cap, cur, hv, _⟩
  · omega
  · exact ⟨g, cap, hv⟩
theorem owns_base {w : World} {base : Nat} {e : TypeId} {size n : Nat} {v : Value} {xs : List Value} (ho : w.ownsRow base e size v n xs) : w.ownsRow 0 e size v n xs := by
  refine ⟨ho.1, ?_⟩
  rcases ho.2 with hn | ⟨g, cap, cur, hv, _, hrest⟩
  · exact .inl hn
  · exact .inr ⟨g, cap, cur, hv, Nat.zero_le _, hrest⟩
end Go.Proofs.YtafmokpplnmbgaaGreatDoor

/- Layer 11: a number below 32, to the base 16. -/
namespace Go.Proofs.YtafmokpplnmbgaaGreatDoor
open Go.RowKit

def dig36 : Bs := [48, 49, 50, 51, 52, 53, 54, 55, 56, 57, 97, 98, 99, 100, 101, 102, 103, 104, 105, 106, 107, 108, 109, 110, 111, 112, 113, 114, 115, 116, 117, 118, 119, 120, 121, 122]
theorem dig36_at : ∀ k : Fin 16, dig36.getD k.val 0 = hexd k.val := by decide
def hexS (c : Nat) : Bs := if c < 16 then [hexd c] else [49, hexd (c - 16)]
theorem idx_dig (k : Nat) (hk : k < 16) (w : World) : (Instr.index 9 (.string ⟨#[48, 49, 50, 51, 52, 53, 54, 55, 56, 57, 97, 98, 99, 100, 101, 102, 103, 104, 105, 106, 107, 108, 109, 110, 111, 112, 113, 114, 115, 116, 117, 118, 119, 120, 121, 122]⟩) (.int .u64 (k : Int))).run Tryz.prog w = .ok (.int .u8 ((hexd k).toNat : Int)) w := by
  have := idx_strK .u64 (str dig36) k (k : Int) rfl (by rw [str_size]; show k < 36; omega) w
  rw [str_toList, dig36_at ⟨k, hk⟩] at this
  exact this
theorem pow16 (w : World) : Calls Tryz.prog 99 #[.int .i64 16] w fun e w' => e = .returned (.bool true) ∧ w' = w := by
  go_enter Tryz.func99, Tryz.ntmps99
  go_wp2
  go_ret
  exact ⟨rfl, rfl⟩
theorem tz16 (w : World) (h : w.cell? ⟨9, 15, none⟩ = some (.int .u8 4)) : Calls Tryz.prog 106 #[.int .u64 16] w fun e w' => e = .returned (.int .i64 4) ∧ w' = w := by
  have hb : bits BinOp.and .u64 16 (IntKind.u64.wrap (-16)) = 16 := by decide
  have hw : IntKind.u64.wrap (16 * 285870213051353865) / 288230376151711744 = 15 := by decide
  go_enter Tryz.func106, Tryz.ntmps106
  go_wp2
  go_ret
  exact ⟨rfl, rfl⟩
theorem tzs16 (w : World) (h : w.cell? ⟨9, 15, none⟩ = some (.int .u8 4)) : Calls Tryz.prog 100 #[.int .u64 16] w fun e w' => e = .returned (.int .i64 4) ∧ w' = w := by
  go_enter Tryz.func100, Tryz.ntmps100
  go_wp2_with (go_at_call 106; ((with_reducible refine (tz16 w h).mono ?_); rintro e w2 ⟨rfl, rfl⟩))
  go_ret
  exact ⟨rfl, rfl⟩
theorem run_alloc65 (w : World) (ρ : Operand → Value) (o : Oper) (ho : o.op = .alloc 167) : (execOp ρ o).run Tryz.prog w = .ok (.value (.pointer (some ⟨w.heap.size, 0, none⟩))) (w.alloc (.cells (cells8 (List.replicate 65 0)) 167)) := by
  unfold execOp
  rw [ho]
  kernel_rfl
theorem wpList_alloc65 {ops : Array Oper} {rest : List Oper} {o : Oper} {a : Act} {w : World} {Q : Exit → Act → World → Prop} (hg : o.guard = none) (ho : o.op = .alloc 167) (n : Nat) (hn : n = w.heap.size)
    (h : wpList Tryz.prog ops Q rest (a.put o.dst (.pointer (some ⟨n, 0, none⟩))) (w.alloc (.cells (cells8 (List.replicate 65 0)) 167))) : wpList Tryz.prog ops Q (o :: rest) a w := by
  subst hn
  exact Great.wpList_allocTo hg _ rfl _ _ (run_alloc65 w _ o ho) h
theorem conv_at (w : World) (b : Nat) (l : Bs) (t : TypeId) (h : rowC w b (cells8 l) t) (off n cap : Nat) (hn : off + n = l.length) :
    (convert 23 9 (.slice (some ⟨b, off, none⟩) n cap)).run Tryz.prog w = .ok (.string (str (l.drop off))) w := by
  rw [run_convert_bytes_arg w 23 5 Tryz.underlying23 Tryz.underlying5 b off n cap ((l.drop off).map fun b => (b.toNat : Int)) (by simp; omega) (fun i hi => ?_) 9 Tryz.underlying9, str_nums]
  rw [rowC_cell h, cells8_get _ _ (by omega)]
  have h1 : i < (l.drop off).length := by rw [List.length_drop]; omega
  simp [List.getD_eq_getElem?_getD, byteV, List.getElem?_eq_getElem (show off + i < l.length by omega)]
set_option maxRecDepth 100000 in
set_option maxHeartbeats 4000000 in
theorem fmtBits_small (c : Nat) (hc : c < 16) (w : World) (h : w.cell? ⟨9, 15, none⟩ = some (.int .u8 4)) :
    Calls Tryz.prog 88 #[.slice none 0 0, .int .u64 (c : Int), .int .i64 16, .bool false, .bool false] w fun e w' => e = .returned (.tuple #[.slice none 0 0, .string (str (hexS c))]) ∧ Below w.heap.size w w' := by
  have hidx := idx_dig c hc
  obtain ⟨W0, hW0⟩ : ∃ W0, W0 = w.alloc (.cells (cells8 (List.replicate 65 0)) 167) := ⟨_, rfl⟩
  have R0 : rowC W0 w.heap.size (cells8 (List.replicate 65 0)) 167 := by rw [hW0]; exact rowC_new w _ _
  have B0 : Below w.heap.size w W0 := by rw [hW0]; exact (Below.refl _ _).alloc (Nat.le_refl _) _
  have h0 : W0.cell? ⟨9, 15, none⟩ = some (.int .u8 4) := (B0.cell (World.block_lt_of_cell? w _ h)).trans h
  have P := pow16 W0
  have T := tzs16 W0 h0
  have c0 := rowC_cell R0 64
  have f0 := rowC_free R0 64
  have R1 := rowC_set R0 64 (byteV (hexd c))
  rw [cells8_set] at R1
  have cv : (convert 23 9 (.slice (some ⟨w.heap.size, 64, none⟩) 1 1)).run Tryz.prog (W0.setCell ⟨w.heap.size, 64, none⟩ (.int .u8 ((hexd c).toNat : Int))) = .ok (.string (str [hexd c])) (W0.setCell ⟨w.heap.size, 64, none⟩ (.int .u8 ((hexd c).toNat : Int))) := conv_at _ _ _ _ R1 64 1 1 (by simp)
  have HF : Hid (Below w.heap.size w (W0.setCell ⟨w.heap.size, 64, none⟩ (.int .u8 ((hexd c).toNat : Int)))) := Lib.hid (B0.setCell (p := ⟨w.heap.size, 64, none⟩) (Nat.le_refl _) _)
  have HX : Hid (hexS c = [hexd c]) := Lib.hid (if_pos hc)
  have HW0 := Lib.hid hW0
  have HB0 := Lib.hid B0
  have hlt : ¬ ((16 : Int) ≤ (c : Int)) := by omega
  clear hW0 B0 R0 R1 h h0
  go_enter Tryz.func88, Tryz.ntmps88
  go_wp2_with (first
    | ((with_reducible show wpList _ _ _ (⟨some 12, .alloc _, _, _, _, _⟩ :: _) _ _); refine wpList_alloc65 rfl rfl w.heap.size rfl ?_; rw [← HW0.out])
    | (go_at_call 99; ((with_reducible refine P.mono ?_); rintro e w2 ⟨rfl, rfl⟩))
    | (go_at_call 100; ((with_reducible refine T.mono ?_); rintro e w2 ⟨rfl, rfl⟩)))
  refine wp_loop_rounds 1 ?_
  rw [rounds_succ]
  go_wp2
  go_ret2
  rw [HX.out]
  exact ⟨rfl, HF.out⟩
set_option maxRecDepth 100000 in
set_option maxHeartbeats 4000000 in
theorem fmtBits_big (c : Nat) (h16 : 16 ≤ c) (hc : c < 32) (w : World) (h : w.cell? ⟨9, 15, none⟩ = some (.int .u8 4)) :
    Calls Tryz.prog 88 #[.slice none 0 0, .int .u64 (c : Int), .int .i64 16, .bool false, .bool false] w fun e w' => e = .returned (.tuple #[.slice none 0 0, .string (str (hexS c))]) ∧ Below w.heap.size w w' := by
  obtain ⟨d, rfl⟩ : ∃ d, c = 16 + d := ⟨c - 16, by omega⟩
  have hidx := idx_dig d (by omega)
  have hidx1 : ∀ w, (Instr.index 9 (.string ⟨#[48, 49, 50, 51, 52, 53, 54, 55, 56, 57, 97, 98, 99, 100, 101, 102, 103, 104, 105, 106, 107, 108, 109, 110, 111, 112, 113, 114, 115, 116, 117, 118, 119, 120, 121, 122]⟩) (.int .u64 1)).run Tryz.prog w = .ok (.int .u8 49) w := idx_dig 1 (by decide)
  obtain ⟨W0, hW0⟩ : ∃ W0, W0 = w.alloc (.cells (cells8 (List.replicate 65 0)) 167) := ⟨_, rfl⟩
  have R0 : rowC W0 w.heap.size (cells8 (List.replicate 65 0)) 167 := by rw [hW0]; exact rowC_new w _ _
  have B0 : Below w.heap.size w W0 := by rw [hW0]; exact (Below.refl _ _).alloc (Nat.le_refl _) _
  have h0 : W0.cell? ⟨9, 15, none⟩ = some (.int .u8 4) := (B0.cell (World.block_lt_of_cell? w _ h)).trans h
  have P := pow16 W0
  have T := tzs16 W0 h0
  have c0 := rowC_cell R0 64
  have f0 := rowC_free R0 64
  have R1 := rowC_set R0 64 (byteV (hexd d))
  rw [cells8_set] at R1
  have c1 : (W0.setCell ⟨w.heap.size, 64, none⟩ (.int .u8 ((hexd d).toNat : Int))).cell? ⟨w.heap.size, 63, none⟩ = some (byteV 0) := rowC_cell R1 63
  have f1 : (W0.setCell ⟨w.heap.size, 64, none⟩ (.int .u8 ((hexd d).toNat : Int))).frozen? ⟨w.heap.size, 63, none⟩ = false := rowC_free R1 63
  have R2 := rowC_set R1 63 (byteV (hexd 1))
  rw [cells8_set] at R2
  have cv : (convert 23 9 (.slice (some ⟨w.heap.size, 63, none⟩) 2 2)).run Tryz.prog ((W0.setCell ⟨w.heap.size, 64, none⟩ (.int .u8 ((hexd d).toNat : Int))).setCell ⟨w.heap.size, 63, none⟩ (.int .u8 49)) = .ok (.string (str [49, hexd d])) ((W0.setCell ⟨w.heap.size, 64, none⟩ (.int .u8 ((hexd d).toNat : Int))).setCell ⟨w.heap.size, 63, none⟩ (.int .u8 49)) := conv_at _ _ _ _ R2 63 2 2 (by simp)
  have HF : Hid (Below w.heap.size w ((W0.setCell ⟨w.heap.size, 64, none⟩ (.int .u8 ((hexd d).toNat : Int))).setCell ⟨w.heap.size, 63, none⟩ (.int .u8 49))) := Lib.hid ((B0.setCell (p := ⟨w.heap.size, 64, none⟩) (Nat.le_refl _) _).setCell (p := ⟨w.heap.size, 63, none⟩) (Nat.le_refl _) _)
  have HX : Hid (hexS (16 + d) = [49, hexd d]) := Lib.hid (by unfold hexS; rw [if_neg (by omega), Nat.add_sub_cancel_left])
  have HW0 := Lib.hid hW0
  have HB0 := Lib.hid B0
  have hge : (16 : Int) ≤ 16 + (d : Int) := by omega
  have hand : bits BinOp.and .u64 (16 + (d : Int)) 15 = (d : Int) := by
    have : ∀ d : Fin 16, bits BinOp.and .u64 (16 + (d.val : Int)) 15 = (d.val : Int) := by decide
    exact this ⟨d, by omega⟩
  have hshr : (16 + (d : Int)) / 16 = 1 := by omega
  clear hW0 B0 R0 R1 R2 h h0
  go_enter Tryz.func88, Tryz.ntmps88
  go_wp2_with (first
    | ((with_reducible show wpList _ _ _ (⟨some 12, .alloc _, _, _, _, _⟩ :: _) _ _); refine wpList_alloc65 rfl rfl w.heap.size rfl ?_; rw [← HW0.out])
    | (go_at_call 99; ((with_reducible refine P.mono ?_); rintro e w2 ⟨rfl, rfl⟩))
    | (go_at_call 100; ((with_reducible refine T.mono ?_); rintro e w2 ⟨rfl, rfl⟩)))
  refine wp_loop_rounds 2 ?_
  rw [rounds_succ]
  go_wp2
  rw [rounds_succ]
  go_wp2
  go_ret2
  rw [HX.out]
  exact ⟨rfl, HF.out⟩
theorem fmtBits_any (c : Nat) (hc : c < 32) (w : World) (h : w.cell? ⟨9, 15, none⟩ = some (.int .u8 4)) :
    Calls Tryz.prog 88 #[.slice none 0 0, .int .u64 (c : Int), .int .i64 16, .bool false, .bool false] w fun e w' => e = .returned (.tuple #[.slice none 0 0, .string (str (hexS c))]) ∧ Below w.heap.size w w' := by
  by_cases h16 : c < 16
  · exact fmtBits_small c h16 w h
  · exact fmtBits_big c (by omega) hc w h
theorem ifmt_any (c : Nat) (hc : c < 32) (w : World) (h : w.cell? ⟨9, 15, none⟩ = some (.int .u8 4)) :
    Calls Tryz.prog 76 #[.int .i64 (c : Int), .int .i64 16] w fun e w' => e = .returned (.string (str (hexS c))) ∧ Below w.heap.size w w' := by
  have C := fmtBits_any c hc w h
  have h0 : ¬ ((c : Int) < 0) := by omega
  have hb : (c : Int) ≤ 31 := by omega
  clear h
  go_enter Tryz.func76, Tryz.ntmps76
  go_wp2_with (go_at_call 88; ((with_reducible refine C.mono ?_); rintro e w2 ⟨rfl, hb2⟩))
  go_ret
  exact ⟨rfl, hb2⟩
theorem fmt_any (c : Nat) (hc : c < 32) (w : World) (h : w.cell? ⟨9, 15, none⟩ = some (.int .u8 4)) :
    Calls Tryz.prog 57 #[.int .i64 (c : Int), .int .i64 16] w fun e w' => e = .returned (.string (str (hexS c))) ∧ Below w.heap.size w w' := by
  have C := ifmt_any c hc w h
  clear h
  go_enter Tryz.func57, Tryz.ntmps57
  go_wp2_with (go_at_call 76; ((with_reducible refine C.mono ?_); rintro e w2 ⟨rfl, hb2⟩))
  go_ret
  exact ⟨rfl, hb2⟩
end Go.Proofs.YtafmokpplnmbgaaGreatDoor

/- Layer 11: the library's contracts that the shelf's command does not lay here: (*strings.Builder).WriteRune (its structure laid by hand), utf8.ValidString. -/
namespace Go.Proofs
open Go.Shelf
def Tryz.lays168_ren : Go.Shelf.Ren := ⟨fun | 168 => 59 | 240 => 55 | 242 => 79 | 276 => 71 | 278 => 91 | n => n, fun | 0 => 0 | 3 => 3 | 4 => 4 | 5 => 5 | 9 => 9 | 20 => 20 | 21 => 21 | 37 => 23 | 46 => 123 | 51 => 44 | 70 => 48 | 72 => 50 | 75 => 60 | 80 => 55 | 164 => 78 | n => n, fun | n => n⟩
theorem Tryz.lays168 : Go.Proofs.Lays.n168 Tryz.prog Tryz.lays168_ren := {
  mixed := by kernel_rfl
  f168 := Tryz.func59.trans (congrArg some (by kernel_rfl))
  f240 := Tryz.func55.trans (congrArg some (by kernel_rfl))
  f242 := Tryz.func79.trans (congrArg some (by kernel_rfl))
  f276 := Tryz.func71.trans (congrArg some (by kernel_rfl))
  f278 := Tryz.func91.trans (congrArg some (by kernel_rfl))
  t0 := Tryz.underlying0
  a0 := Tryz.isAgg0
  z0 := Tryz.sizeOf0
  v0 := Tryz.zeroValue0
  t3 := Tryz.underlying3
  a3 := Tryz.isAgg3
  z3 := Tryz.sizeOf3
  v3 := Tryz.zeroValue3
  t4 := Tryz.underlying4
  a4 := Tryz.isAgg4
  z4 := Tryz.sizeOf4
  v4 := Tryz.zeroValue4
  t5 := Tryz.underlying5
  a5 := Tryz.isAgg5
  z5 := Tryz.sizeOf5
  v5 := Tryz.zeroValue5
  t9 := Tryz.underlying9
  a9 := Tryz.isAgg9
  z9 := Tryz.sizeOf9
  v9 := Tryz.zeroValue9
  t20 := Tryz.underlying20
  a20 := Tryz.isAgg20
  z20 := Tryz.sizeOf20
  v20 := Tryz.zeroValue20
  t21 := Tryz.underlying21
  a21 := Tryz.isAgg21
  z21 := Tryz.sizeOf21
  v21 := Tryz.zeroValue21
  t37 := Tryz.underlying23
  a37 := Tryz.isAgg23
  z37 := Tryz.sizeOf23
  v37 := Tryz.zeroValue23
  t46 := Tryz.underlying123
  a46 := Tryz.isAgg123
  z46 := Tryz.sizeOf123
  v46 := Tryz.zeroValue123
  t51 := Tryz.underlying44
  a51 := Tryz.isAgg44
  z51 := Tryz.sizeOf44
  v51 := Tryz.zeroValue44
  t70 := Tryz.underlying48
  a70 := Tryz.isAgg48
  z70 := Tryz.sizeOf48
  v70 := Tryz.zeroValue48
  t72 := Tryz.underlying50
  a72 := Tryz.isAgg50
  z72 := Tryz.sizeOf50
  v72 := Tryz.zeroValue50
  t75 := Tryz.underlying60
  a75 := Tryz.isAgg60
  z75 := Tryz.sizeOf60
  v75 := Tryz.zeroValue60
  t164 := Tryz.underlying78
  a164 := Tryz.isAgg78
  z164 := Tryz.sizeOf78
  v164 := Tryz.zeroValue78 }
theorem Tryz.Builder_Extra_168 : Builder.Extra Tryz.prog Tryz.lays168_ren := {
  sizeBuilder := by kernel_rfl
  liesBuilder := by kernel_rfl
  t5 := Tryz.underlying5
  a5 := Tryz.isAgg5
  z5 := Tryz.sizeOf5
  v5 := Tryz.zeroValue5
  infoByte := by kernel_rfl
  cellsByte := by kernel_rfl
  sizeByte := by kernel_rfl
  neB5 := by decide }
open Go.RowKit Go.Lib in
theorem Tryz.Builder_WriteRune_k (B b : Nat) (bs : List Value) (r : Int) (hr0 : -2147483648 ≤ r) (hr1 : r ≤ 2147483647) (w : World) (h : Lib.IsBuilderF 50 5 B b bs w) (hlen : bs.length + 4 ≤ 140737488355328) (hBw : B ≤ w.heap.size) :
    Calls Tryz.prog 59 #[.pointer (some ⟨b, 0, none⟩), .int .i32 r] w fun e w' => e = .returned (.tuple #[.int .i64 (Lib.runeCells r).length, .nilIface]) ∧ (Lib.BuilderAtF 50 5 B b (.pointer (some ⟨b, 0, none⟩)) (bs ++ Lib.runeCells r) w' ∧ Below B w w' ∧ Lib.OthersKept 5 (some b) w w') := Any.Builder_WriteRune_k Tryz.lays168 Tryz.Builder_Extra_168 B b bs r hr0 hr1 w h hlen hBw
open Go.RowKit Go.Lib in
theorem Tryz.utf8_ValidString (s : ByteArray) (w : World) (hs : s.size ≤ 9223372036854775807) (hT : Lib.Utf8Tabs 2 3 w) :
    Calls Tryz.prog 37 #[.string s] w fun e w' => e = .returned (.bool (Lib.validD s.data.toList)) ∧ Below w.heap.size w w' := Any.utf8_ValidString Tryz.laysValid s w hs hT
end Go.Proofs

/- Layer 11: the library's (*strings.Builder).WriteString, its structure laid by hand. -/
namespace Go.Proofs
open Go.Shelf
def Tryz.lays166_ren : Go.Shelf.Ren := ⟨fun | 166 => 39 | 240 => 55 | 276 => 71 | n => n, fun | 0 => 0 | 3 => 3 | 4 => 4 | 5 => 5 | 9 => 9 | 20 => 20 | 21 => 21 | 37 => 23 | 46 => 123 | 51 => 44 | 70 => 48 | 72 => 50 | 75 => 60 | 80 => 55 | 164 => 78 | n => n, fun | n => n⟩
theorem Tryz.lays166 : Go.Proofs.Lays.n166 Tryz.prog Tryz.lays166_ren := {
  mixed := by kernel_rfl
  f166 := Tryz.func39.trans (congrArg some (by kernel_rfl))
  f240 := Tryz.func55.trans (congrArg some (by kernel_rfl))
  f276 := Tryz.func71.trans (congrArg some (by kernel_rfl))
  t0 := Tryz.underlying0
  a0 := Tryz.isAgg0
  z0 := Tryz.sizeOf0
  v0 := Tryz.zeroValue0
  t3 := Tryz.underlying3
  a3 := Tryz.isAgg3
  z3 := Tryz.sizeOf3
  v3 := Tryz.zeroValue3
  t4 := Tryz.underlying4
  a4 := Tryz.isAgg4
  z4 := Tryz.sizeOf4
  v4 := Tryz.zeroValue4
  t9 := Tryz.underlying9
  a9 := Tryz.isAgg9
  z9 := Tryz.sizeOf9
  v9 := Tryz.zeroValue9
  t20 := Tryz.underlying20
  a20 := Tryz.isAgg20
  z20 := Tryz.sizeOf20
  v20 := Tryz.zeroValue20
  t37 := Tryz.underlying23
  a37 := Tryz.isAgg23
  z37 := Tryz.sizeOf23
  v37 := Tryz.zeroValue23
  t70 := Tryz.underlying48
  a70 := Tryz.isAgg48
  z70 := Tryz.sizeOf48
  v70 := Tryz.zeroValue48
  t72 := Tryz.underlying50
  a72 := Tryz.isAgg50
  z72 := Tryz.sizeOf50
  v72 := Tryz.zeroValue50
  t75 := Tryz.underlying60
  a75 := Tryz.isAgg60
  z75 := Tryz.sizeOf60
  v75 := Tryz.zeroValue60
  t164 := Tryz.underlying78
  a164 := Tryz.isAgg78
  z164 := Tryz.sizeOf78
  v164 := Tryz.zeroValue78 }
theorem Tryz.Builder_Extra_166 : Builder.Extra Tryz.prog Tryz.lays166_ren := {
  sizeBuilder := by kernel_rfl
  liesBuilder := by kernel_rfl
  t5 := Tryz.underlying5
  a5 := Tryz.isAgg5
  z5 := Tryz.sizeOf5
  v5 := Tryz.zeroValue5
  infoByte := by kernel_rfl
  cellsByte := by kernel_rfl
  sizeByte := by kernel_rfl
  neB5 := by decide }
open Go.RowKit Go.Lib in
theorem Tryz.Builder_WriteString_k (B b : Nat) (bs : List Value) (s : ByteArray) (w : World) (h : Lib.IsBuilderF 50 5 B b bs w) (hlen : bs.length + s.size ≤ 140737488355328) (hBw : B ≤ w.heap.size) :
    Calls Tryz.prog 39 #[.pointer (some ⟨b, 0, none⟩), .string s] w fun e w' => e = .returned (.tuple #[.int .i64 s.size, .nilIface]) ∧ (Lib.BuilderAtF 50 5 B b (.pointer (some ⟨b, 0, none⟩)) (bs ++ Lib.strCells s) w' ∧ Below B w w' ∧ Lib.OthersKept 5 (some b) w w') := Any.Builder_WriteString_k Tryz.lays166 Tryz.Builder_Extra_166 B b bs s w h hlen hBw
end Go.Proofs

