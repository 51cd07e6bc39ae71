/- Merged: JsE, JsF, JsG. -/
import Derived.Test.YtnkencdibniagaaGreatDoorM02
/- Layer 11, plain: of what is cut off nothing is read, but of a number; whatever a text is, it is read, or wrong somewhere; what is too deep is wrong at the bracket that is. -/
namespace Go.Proofs.YtnkencdibniagaaGreatDoor
open Go.Lib

/-- Wrong, or at the end. -/
def halt {α : Type} (x : Res α) : Prop := (∃ r, x = .bad 10 r) ∨ ∃ a, x = .ok a []
/-! ### Strings -/
/-! ### Values -/
theorem pr_ne {v : JV} (h : may v) : prG [] v ≠ [] := by
  obtain ⟨k, t, items, keys⟩ := v
  rw [prG]
  by_cases h3 : k = 3
  · subst h3
    rw [if_pos rfl]
    exact num_ne (may_num h).1
  by_cases h4 : k = 4
  · subst h4
    rw [if_neg (by decide), if_pos rfl]
    exact fun h => by cases h
  by_cases h5 : k = 5
  · subst h5
    rw [if_neg (by decide), if_neg (by decide), if_pos rfl]
    exact fun h => by cases h
  by_cases h6 : k = 6
  · subst h6
    rw [if_neg (by decide), if_neg (by decide), if_neg (by decide), if_pos rfl]
    exact fun h => by cases h
  · rw [if_neg h3, if_neg h4, if_neg h5, if_neg h6]
    rcases (may_word h h3 h4 h5 h6).1 with rfl | rfl | rfl <;> exact fun h => by cases h
end Go.Proofs.YtnkencdibniagaaGreatDoor

/- Layer 11, plain: every text is read, or wrong somewhere; values that are too deep; what Print writes, piece by piece; how deep a value is, as it is asked. -/
namespace Go.Proofs.YtnkencdibniagaaGreatDoor
open Go.Lib

/-! ### Every text comes to an end -/
theorem all_ok {n : Nat} {l : Bs} {v : JV} {r : Bs} (h : allP n l = some (.ok v r)) : may v ∧ deep v ≤ 16 := by
  unfold allP at h
  cases hv : valP n 0 l with
  | none => rw [hv] at h; cases h
  | some x =>
    rw [hv] at h
    cases x with
    | bad k r => cases h
    | ok w q =>
      have := val_ok n 0 l w q (by omega) hv
      dsimp only at h
      split at h
      · rw [Option.some.injEq, Res.ok.injEq] at h
        rw [← h.1]
        exact ⟨this.1, by omega⟩
      · cases h
/-! ### Too deep -/
end Go.Proofs.YtnkencdibniagaaGreatDoor

/- Layer 11, plain: what Print writes, piece by piece; how deep a value is, as it is asked; a text with blanks put in. -/
namespace Go.Proofs.YtnkencdibniagaaGreatDoor
open Go.Lib

/-! ### Pieces -/
/-- A piece is written, while what is there is not too long. -/
def putL (acc s : Bs) : Bs := if acc.length ≤ 65536 then acc ++ s else acc
def putsL (acc : Bs) (ps : List Bs) : Bs := ps.foldl putL acc
theorem putsL_app (acc : Bs) (a b : List Bs) : putsL acc (a ++ b) = putsL (putsL acc a) b := List.foldl_append
theorem putsL_one (acc s : Bs) : putsL acc [s] = putL acc s := rfl
theorem putsL_long : ∀ (ps : List Bs) (acc : Bs), 65536 < acc.length → putsL acc ps = acc
  | [], _, _ => rfl
  | s :: ps, acc, h => by
    show putsL (putL acc s) ps = _
    have : putL acc s = acc := by unfold putL; rw [if_neg (by omega)]
    rw [this, putsL_long ps acc h]
theorem putsL_all : ∀ (ps : List Bs) (acc : Bs), acc.length + ps.flatten.length ≤ 65536 → putsL acc ps = acc ++ ps.flatten
  | [], acc, _ => by simp [putsL]
  | s :: ps, acc, h => by
    rw [List.flatten_cons, List.length_append] at h
    show putsL (putL acc s) ps = _
    have : putL acc s = acc ++ s := by unfold putL; rw [if_pos (by omega)]
    rw [this, putsL_all ps _ (by rw [List.length_append]; omega), List.flatten_cons, List.append_assoc]
theorem putsL_over : ∀ (ps : List Bs) (acc : Bs), 65536 < acc.length + ps.flatten.length → 65536 < (putsL acc ps).length
  | [], acc, h => by simpa [putsL] using h
  | s :: ps, acc, h => by
    rw [List.flatten_cons, List.length_append] at h
    show 65536 < (putsL (putL acc s) ps).length
    by_cases ha : acc.length ≤ 65536
    · have : putL acc s = acc ++ s := by unfold putL; rw [if_pos ha]
      rw [this]
      exact putsL_over ps _ (by rw [List.length_append]; omega)
    · have : putL acc s = acc := by unfold putL; rw [if_neg ha]
      rw [this, putsL_long ps acc (by omega)]
      omega
def quoPs (t : Bs) : List Bs := [34] :: ((runesT t).map printedR ++ [[34]])
mutual
/-- The pieces of a value's text. -/
def psJ : JV → List Bs
  | .mk k t items keys =>
    if k = 3 then [t] else if k = 4 then quoPs t
    else if k = 5 then [91] :: (psL 5 true items keys ++ [[93]])
    else if k = 6 then [123] :: (psL 6 true items keys ++ [[125]])
    else [wordOf k]
def psL (k : Int) (first : Bool) : List JV → List Bs → List Bs
  | [], _ => []
  | x :: l, keys => (if first = true then [] else [[44]]) ++ (if k = 6 then quoPs (keys.headD []) ++ [[58]] else []) ++ psJ x ++ psL k false l keys.tail
end
theorem quoPs_flat (t : Bs) : (quoPs t).flatten = quoT t := by
  unfold quoPs quoT quoR
  rw [List.flatten_cons, List.flatten_append, List.flatMap]
  simp
mutual
theorem psJ_flat : ∀ v : JV, (v.kind = 6 → v.keys.length = v.items.length) → may v → (psJ v).flatten = prG [] v
  | .mk k t items keys, hk, hm => by
    rw [psJ, prG]
    by_cases h3 : k = 3
    · rw [if_pos h3, if_pos h3]; simp
    by_cases h4 : k = 4
    · rw [if_neg h3, if_neg h3, if_pos h4, if_pos h4]; exact quoPs_flat t
    by_cases h5 : k = 5
    · subst h5
      rw [if_neg (by decide), if_neg (by decide), if_pos rfl, if_neg (by decide), if_neg (by decide), if_pos rfl]
      have := psL_flat5 items keys true (may_list hm).1
      rw [List.flatten_cons, List.flatten_append, this]
      simp
    by_cases h6 : k = 6
    · subst h6
      obtain ⟨h1, _, h2, _⟩ := may_obj hm
      rw [if_neg (by decide), if_neg (by decide), if_neg (by decide), if_pos rfl, if_neg (by decide), if_neg (by decide), if_neg (by decide), if_pos rfl]
      have := psL_flat6 items keys true h1 h2
      rw [List.flatten_cons, List.flatten_append, this]
      simp
    · rw [if_neg h3, if_neg h3, if_neg h4, if_neg h4, if_neg h5, if_neg h5, if_neg h6, if_neg h6]; simp
theorem psL_flat5 : ∀ (items : List JV) (keys : List Bs) (first : Bool), mayL items → (psL 5 first items keys).flatten = if first = true then joinG [] (prL [] items) else sepG [] (prL [] items)
  | [], keys, first, _ => by rw [psL, prL]; cases first <;> rfl
  | x :: l, keys, first, h => by
    rw [mayL] at h
    rw [psL, prL, joinG_cons]
    have h1 := psJ_flat x (fun hk => by obtain ⟨k, t, i, ks⟩ := x; simp only [JV.kind] at hk; subst hk; exact (may_obj h.1).2.2.1) h.1
    have h2 := psL_flat5 l keys.tail false h.2
    rw [if_neg (by decide)] at h2
    have e56 : (if (5 : Int) = 6 then quoPs (keys.headD []) ++ [[58]] else []) = ([] : List Bs) := if_neg (by decide)
    rw [e56]
    cases first
    · simp [h1, h2, sepG]
    · simp [h1, h2]
theorem psL_flat6 : ∀ (items : List JV) (keys : List Bs) (first : Bool), mayL items → keys.length = items.length → (psL 6 first items keys).flatten = if first = true then joinG [] (List.zipWith (pairG []) keys (prL [] items)) else sepG [] (List.zipWith (pairG []) keys (prL [] items))
  | [], keys, first, _, hl => by
    obtain rfl := List.eq_nil_of_length_eq_zero hl
    rw [psL, prL]; cases first <;> rfl
  | x :: l, keys, first, h, hl => by
    obtain ⟨k, ks, rfl⟩ : ∃ k ks, keys = k :: ks := by
      cases keys with
      | nil => simp at hl
      | cons k ks => exact ⟨k, ks, rfl⟩
    rw [mayL] at h
    rw [psL, prL, List.zipWith_cons_cons, joinG_cons]
    have h1 := psJ_flat x (fun hk => by obtain ⟨k, t, i, ks⟩ := x; simp only [JV.kind] at hk; subst hk; exact (may_obj h.1).2.2.1) h.1
    have h2 := psL_flat6 l ks false h.2 (by simpa using hl)
    rw [if_neg (by decide)] at h2
    rw [if_pos rfl, List.headD_cons, List.tail_cons]
    cases first
    · simp [h1, h2, quoPs_flat, sepG, pairG]
    · simp [h1, h2, quoPs_flat, pairG]
end
theorem psJ_all {v : JV} (h : may v) : (psJ v).flatten = prG [] v :=
  psJ_flat v (fun hk => by obtain ⟨k, t, i, ks⟩ := v; simp only [JV.kind] at hk; subst hk; exact (may_obj h).2.2.1) h
/-! ### How deep a value is, as far as it is asked -/
def keysOk (l : List Bs) : Bool := l.all validD && decide l.Nodup
def isNumB (t : Bs) : Bool := match numP t with | .ok _ r => decide (r = []) | .bad _ _ => false
theorem isNumB_iff (t : Bs) : isNumB t = true ↔ isNum t := by
  unfold isNumB isNum
  cases numP t with
  | bad k r => simp
  | ok u r => simp
def aloneK (k : Int) (t : Bs) (n : Nat) (keys : List Bs) : Bool :=
  if (k ≠ 6 ∧ 0 < keys.length) ∨ (k ≠ 6 ∧ k ≠ 5 ∧ 0 < n) then false
  else if k = 0 ∨ k = 1 ∨ k = 2 ∨ k = 5 then decide (t = [])
  else if k = 3 then isNumB t
  else if k = 4 then validD t
  else if k = 6 then decide (t = []) && (decide (keys.length = n) && keysOk keys)
  else false
def alone (v : JV) : Bool := aloneK v.kind v.text v.items.length v.keys
def maxO : Nat → List (Option Nat) → Option Nat
  | n, [] => some n
  | _, none :: _ => none
  | n, some d :: l => maxO (max n d) l
def up (v : JV) (n : Nat) : Nat := if v.kind = 5 ∨ v.kind = 6 then n + 1 else n
def depthF : Nat → JV → Option Nat
  | 0, v => if alone v = true then some 0 else none
  | n + 1, v => if alone v = true then (maxO 0 (v.items.map (depthF n))).map (up v) else none
theorem maxO_some : ∀ (l : List (Option Nat)) (n m : Nat), maxO n l = some m → n ≤ m ∧ ∀ x ∈ l, ∃ d, x = some d ∧ d ≤ m
  | [], n, m, h => by rw [maxO, Option.some.injEq] at h; exact ⟨by omega, by simp⟩
  | none :: l, n, m, h => by cases h
  | some d :: l, n, m, h => by
    rw [maxO] at h
    obtain ⟨h1, h2⟩ := maxO_some l _ m h
    refine ⟨by omega, fun x hx => ?_⟩
    rcases List.mem_cons.1 hx with rfl | hx
    · exact ⟨d, rfl, by omega⟩
    · exact h2 x hx
theorem maxO_eq : ∀ (l : List JV) (n : Nat), maxO n (l.map fun x => some (deep x)) = some (max n (deepL l))
  | [], n => by rw [List.map_nil, maxO, deepL]; simp
  | x :: l, n => by rw [List.map_cons, maxO, maxO_eq l, deepL, Nat.max_assoc]
theorem alone_may {v : JV} (ha : alone v = true) (hm : mayL v.items) : may v := by
  obtain ⟨k, t, items, keys⟩ := v
  have ha : aloneK k t items.length keys = true := ha
  have hm : mayL items := hm
  unfold aloneK at ha
  rw [may]
  refine ⟨hm, ?_⟩
  by_cases hn : k ≠ 6 ∧ 0 < keys.length ∨ k ≠ 6 ∧ k ≠ 5 ∧ 0 < items.length
  · rw [if_pos hn] at ha; cases ha
  rw [if_neg hn] at ha
  have hk : k ≠ 6 → keys = [] := fun h => List.eq_nil_of_length_eq_zero (by
    have : ¬ (0 < keys.length) := fun h0 => hn (.inl ⟨h, h0⟩)
    omega)
  have hi : k ≠ 6 → k ≠ 5 → items = [] := fun h h' => List.eq_nil_of_length_eq_zero (by
    have : ¬ (0 < items.length) := fun h0 => hn (.inr ⟨h, h', h0⟩)
    omega)
  by_cases c0 : k = 0 ∨ k = 1 ∨ k = 2 ∨ k = 5
  · rw [if_pos c0, decide_eq_true_eq] at ha
    rcases c0 with h | h | h | h
    · exact .inl ⟨.inl h, ha, hi (by omega) (by omega), hk (by omega)⟩
    · exact .inl ⟨.inr (.inl h), ha, hi (by omega) (by omega), hk (by omega)⟩
    · exact .inl ⟨.inr (.inr h), ha, hi (by omega) (by omega), hk (by omega)⟩
    · exact .inr (.inr (.inr (.inl ⟨h, ha, hk (by omega)⟩)))
  rw [if_neg c0] at ha
  by_cases h : k = 3
  · rw [if_pos h] at ha
    exact .inr (.inl ⟨h, (isNumB_iff t).1 ha, hi (by omega) (by omega), hk (by omega)⟩)
  rw [if_neg h] at ha
  by_cases h : k = 4
  · rw [if_pos h] at ha
    exact .inr (.inr (.inl ⟨h, ha, hi (by omega) (by omega), hk (by omega)⟩))
  rw [if_neg h] at ha
  by_cases h : k = 6
  · rw [if_pos h, Bool.and_eq_true, Bool.and_eq_true, decide_eq_true_eq, decide_eq_true_eq] at ha
    have hx := ha.2.2
    unfold keysOk at hx
    rw [Bool.and_eq_true, List.all_eq_true, decide_eq_true_eq] at hx
    exact .inr (.inr (.inr (.inr ⟨h, ha.1, ha.2.1, hx.1, hx.2⟩)))
  · rw [if_neg h] at ha; cases ha
theorem may_alone {v : JV} (h : may v) : alone v = true ∧ mayL v.items := by
  obtain ⟨k, t, items, keys⟩ := v
  rw [may] at h
  refine ⟨?_, h.1⟩
  show aloneK k t items.length keys = true
  unfold aloneK
  rcases h.2 with ⟨hk, rfl, rfl, rfl⟩ | ⟨rfl, hn, rfl, rfl⟩ | ⟨rfl, hv, rfl, rfl⟩ | ⟨rfl, rfl, rfl⟩ | ⟨rfl, rfl, hl, hv, hd⟩
  · rw [if_neg (by simp), if_pos (by omega)]; rfl
  · rw [if_neg (by simp), if_neg (by decide), if_pos rfl]; exact (isNumB_iff t).2 hn
  · rw [if_neg (by simp), if_neg (by decide), if_neg (by decide), if_pos rfl]; exact hv
  · rw [if_neg (by simp), if_pos (by decide)]; rfl
  · rw [if_neg (by simp), if_neg (by decide), if_neg (by decide), if_neg (by decide), if_pos rfl]
    unfold keysOk
    rw [Bool.and_eq_true, Bool.and_eq_true, Bool.and_eq_true, decide_eq_true_eq, decide_eq_true_eq, decide_eq_true_eq, List.all_eq_true]
    exact ⟨rfl, hl, hv, hd⟩
theorem deep_up (v : JV) : deep v = up v (deepL v.items) := by
  obtain ⟨k, t, items, keys⟩ := v
  rw [deep]; rfl
/-- What is not asked to the end is deeper than may be. -/
theorem depth_some : ∀ (n : Nat) (v : JV) (m : Nat), depthF n v = some m → m < n → may v ∧ deep v = m
  | 0, v, m, _, h => absurd h (by omega)
  | n + 1, v, m, h, hm => by
    rw [depthF] at h
    split at h
    · rename_i ha
      cases hx : maxO 0 (v.items.map (depthF n)) with
      | none => rw [hx] at h; cases h
      | some d =>
        rw [hx, Option.map_some, Option.some.injEq] at h
        obtain ⟨_, h2⟩ := maxO_some _ _ _ hx
        by_cases hk : v.kind = 5 ∨ v.kind = 6
        · have hu : up v d = d + 1 := by unfold up; rw [if_pos hk]
          have hall : ∀ x ∈ v.items, may x ∧ depthF n x = some (deep x) := fun x hxm => by
            obtain ⟨e, he, hle⟩ := h2 _ (List.mem_map_of_mem hxm)
            have := depth_some n x e he (by omega)
            exact ⟨this.1, by rw [he, this.2]⟩
          have e : v.items.map (depthF n) = v.items.map fun x => some (deep x) := List.map_congr_left fun x hxm => (hall x hxm).2
          rw [e, maxO_eq, Option.some.injEq] at hx
          refine ⟨alone_may ha (mayL_of fun x hxm => (hall x hxm).1), ?_⟩
          rw [deep_up, ← h, ← hx]; simp
        · have hi : v.items = [] := by
            have ha' := ha
            unfold alone aloneK at ha'
            by_cases hn : (v.kind ≠ 6 ∧ 0 < v.keys.length) ∨ (v.kind ≠ 6 ∧ v.kind ≠ 5 ∧ 0 < v.items.length)
            · rw [if_pos hn] at ha'; cases ha'
            · refine List.eq_nil_of_length_eq_zero ?_
              have : ¬ 0 < v.items.length := fun h0 => hn (.inr ⟨fun h => hk (.inr h), fun h => hk (.inl h), h0⟩)
              omega
          rw [hi] at hx
          rw [List.map_nil, maxO, Option.some.injEq] at hx
          refine ⟨alone_may ha (by rw [hi, mayL]; trivial), ?_⟩
          rw [deep_up, ← h, hi, ← hx, deepL]
    · cases h
theorem may_depth : ∀ (n : Nat) (v : JV), may v → deep v < n → depthF n v = some (deep v)
  | 0, v, _, h => absurd h (by omega)
  | n + 1, v, h, hd => by
    obtain ⟨ha, hm⟩ := may_alone h
    rw [depthF, if_pos ha]
    by_cases hk : v.kind = 5 ∨ v.kind = 6
    · have hu : deep v = deepL v.items + 1 := by rw [deep_up]; unfold up; rw [if_pos hk]
      have e : v.items.map (depthF n) = v.items.map fun x => some (deep x) := List.map_congr_left fun x hxm => may_depth n x (mayL_mem hm x hxm) (by have := deepL_mem hxm; omega)
      rw [e, maxO_eq, Option.map_some, deep_up]; simp
    · have hi : v.items = [] := by
        have ha' := ha
        unfold alone aloneK at ha'
        by_cases hn : (v.kind ≠ 6 ∧ 0 < v.keys.length) ∨ (v.kind ≠ 6 ∧ v.kind ≠ 5 ∧ 0 < v.items.length)
        · rw [if_pos hn] at ha'; cases ha'
        · refine List.eq_nil_of_length_eq_zero ?_
          have : ¬ 0 < v.items.length := fun h0 => hn (.inr ⟨fun h => hk (.inr h), fun h => hk (.inl h), h0⟩)
          omega
      rw [deep_up, hi, List.map_nil, maxO, deepL]; rfl
/-- What Print answers. -/
def printA (v : JV) : Bs × Nat :=
  match depthF 65536 v with
  | none => ([], 2)
  | some n => if 16 < n then ([], 11) else if 65536 < (prG [] v).length then ([], 3) else (prG [] v, 0)
theorem printA_may {v : JV} (h : may v) (hd : deep v ≤ 16) : printA v = if 65536 < (prG [] v).length then ([], 3) else (prG [] v, 0) := by
  unfold printA
  rw [may_depth 65536 v h (by omega)]
  dsimp only
  rw [if_neg (by omega)]
/-! ### The examples -/
end Go.Proofs.YtnkencdibniagaaGreatDoor

