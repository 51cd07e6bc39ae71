/- Merged: JsG, DigM, OcM. -/
import Derived.Test.YtnkencdibniagaaGreatDoorM02
import Init
import Derived.Lib.AtoiAll
import Derived.Lib.ItoaNum
/- Layer 11, plain: what Print writes, piece by piece; how deep a value is, as it is asked; a text with blanks put in. -/
namespace Go.Proofs.YtnkencdibniagaaGreatDoor
open Go.Lib

/-! ### Pieces -/
/-- A piece is written, while what is there is not too long. -/
def putL (acc s : Bs) : Bs := if acc.length ≤ 65536 then acc ++ s else acc
def putsL (acc : Bs) (ps : List Bs) : Bs := ps.foldl putL acc
theorem putsL_app (acc : Bs) (a b : List Bs) : putsL acc (a ++ b) = putsL (putsL acc a) b := List.foldl_append
theorem putsL_one (acc s : Bs) : putsL acc [s] = putL acc s := rfl
theorem putsL_long : ∀ (ps : List Bs) (acc : Bs), 65536 < acc.length → putsL acc ps = acc
  | [], _, _ => rfl
  | s :: ps, acc, h => by
    show putsL (putL acc s) ps = _
    have : putL acc s = acc := by unfold putL; rw [if_neg (by omega)]
    rw [this, putsL_long ps acc h]
theorem putsL_all : ∀ (ps : List Bs) (acc : Bs), acc.length + ps.flatten.length ≤ 65536 → putsL acc ps = acc ++ ps.flatten
  | [], acc, _ => by simp [putsL]
  | s :: ps, acc, h => by
    rw [List.flatten_cons, List.length_append] at h
    show putsL (putL acc s) ps = _
    have : putL acc s = acc ++ s := by unfold putL; rw [if_pos (by omega)]
    rw [this, putsL_all ps _ (by rw [List.length_append]; omega), List.flatten_cons, List.append_assoc]
theorem putsL_over : ∀ (ps : List Bs) (acc : Bs), 65536 < acc.length + ps.flatten.length → 65536 < (putsL acc ps).length
  | [], acc, h => by simpa [putsL] using h
  | s :: ps, acc, h => by
    rw [List.flatten_cons, List.length_append] at h
    show 65536 < (putsL (putL acc s) ps).length
    by_cases ha : acc.length ≤ 65536
    · have : putL acc s = acc ++ s := by unfold putL; rw [if_pos ha]
      rw [this]
      exact putsL_over ps _ (by rw [List.length_append]; omega)
    · have : putL acc s = acc := by unfold putL; rw [if_neg ha]
      rw [this, putsL_long ps acc (by omega)]
      omega
def quoPs (t : Bs) : List Bs := [34] :: ((runesT t).map printedR ++ [[34]])
mutual
/-- The pieces of a value's text. -/
def psJ : JV → List Bs
  | .mk k t items keys =>
    if k = 3 then [t] else if k = 4 then quoPs t
    else if k = 5 then [91] :: (psL 5 true items keys ++ [[93]])
    else if k = 6 then [123] :: (psL 6 true items keys ++ [[125]])
    else [wordOf k]
def psL (k : Int) (first : Bool) : List JV → List Bs → List Bs
  | [], _ => []
  | x :: l, keys => (if first = true then [] else [[44]]) ++ (if k = 6 then quoPs (keys.headD []) ++ [[58]] else []) ++ psJ x ++ psL k false l keys.tail
end
theorem quoPs_flat (t : Bs) : (quoPs t).flatten = quoT t := by
  unfold quoPs quoT quoR
  rw [List.flatten_cons, List.flatten_append, List.flatMap]
  simp
mutual
theorem psJ_flat : ∀ v : JV, (v.kind = 6 → v.keys.length = v.items.length) → may v → (psJ v).flatten = prG [] v
  | .mk k t items keys, hk, hm => by
    rw [psJ, prG]
    by_cases h3 : k = 3
    · rw [if_pos h3, if_pos h3]; simp
    by_cases h4 : k = 4
    · rw [if_neg h3, if_neg h3, if_pos h4, if_pos h4]; exact quoPs_flat t
    by_cases h5 : k = 5
    · subst h5
      rw [if_neg (by decide), if_neg (by decide), if_pos rfl, if_neg (by decide), if_neg (by decide), if_pos rfl]
      have := psL_flat5 items keys true (may_list hm).1
      rw [List.flatten_cons, List.flatten_append, this]
      simp
    by_cases h6 : k = 6
    · subst h6
      obtain ⟨h1, _, h2, _⟩ := may_obj hm
      rw [if_neg (by decide), if_neg (by decide), if_neg (by decide), if_pos rfl, if_neg (by decide), if_neg (by decide), if_neg (by decide), if_pos rfl]
      have := psL_flat6 items keys true h1 h2
      rw [List.flatten_cons, List.flatten_append, this]
      simp
    · rw [if_neg h3, if_neg h3, if_neg h4, if_neg h4, if_neg h5, if_neg h5, if_neg h6, if_neg h6]; simp
theorem psL_flat5 : ∀ (items : List JV) (keys : List Bs) (first : Bool), mayL items → (psL 5 first items keys).flatten = if first = true then joinG [] (prL [] items) else sepG [] (prL [] items)
  | [], keys, first, _ => by rw [psL, prL]; cases first <;> rfl
  | x :: l, keys, first, h => by
    rw [mayL] at h
    rw [psL, prL, joinG_cons]
    have h1 := psJ_flat x (fun hk => by obtain ⟨k, t, i, ks⟩ := x; simp only [JV.kind] at hk; subst hk; exact (may_obj h.1).2.2.1) h.1
    have h2 := psL_flat5 l keys.tail false h.2
    rw [if_neg (by decide)] at h2
    have e56 : (if (5 : Int) = 6 then quoPs (keys.headD []) ++ [[58]] else []) = ([] : List Bs) := if_neg (by decide)
    rw [e56]
    cases first
    · simp [h1, h2, sepG]
    · simp [h1, h2]
theorem psL_flat6 : ∀ (items : List JV) (keys : List Bs) (first : Bool), mayL items → keys.length = items.length → (psL 6 first items keys).flatten = if first = true then joinG [] (List.zipWith (pairG []) keys (prL [] items)) else sepG [] (List.zipWith (pairG []) keys (prL [] items))
  | [], keys, first, _, hl => by
    obtain rfl := List.eq_nil_of_length_eq_zero hl
    rw [psL, prL]; cases first <;> rfl
  | x :: l, keys, first, h, hl => by
    obtain ⟨k, ks, rfl⟩ : ∃ k ks, keys = k :: ks := by
      cases keys with
      | nil => simp at hl
      | cons k ks => exact ⟨k, ks, rfl⟩
    rw [mayL] at h
    rw [psL, prL, List.zipWith_cons_cons, joinG_cons]
    have h1 := psJ_flat x (fun hk => by obtain ⟨k, t, i, ks⟩ := x; simp only [JV.kind] at hk; subst hk; exact (may_obj h.1).2.2.1) h.1
    have h2 := psL_flat6 l ks false h.2 (by simpa using hl)
    rw [if_neg (by decide)] at h2
    rw [if_pos rfl, List.headD_cons, List.tail_cons]
    cases first
    · simp [h1, h2, quoPs_flat, sepG, pairG]
    · simp [h1, h2, quoPs_flat, pairG]
end
theorem psJ_all {v : JV} (h : may v) : (psJ v).flatten = prG [] v :=
  psJ_flat v (fun hk => by obtain ⟨k, t, i, ks⟩ := v; simp only [JV.kind] at hk; subst hk; exact (may_obj h).2.2.1) h
/-! ### How deep a value is, as far as it is asked -/
def keysOk (l : List Bs) : Bool := l.all validD && decide l.Nodup
def isNumB (t : Bs) : Bool := match numP t with | .ok _ r => decide (r = []) | .bad _ _ => false
theorem isNumB_iff (t : Bs) : isNumB t = true ↔ isNum t := by
  unfold isNumB isNum
  cases numP t with
  | bad k r => simp
  | ok u r => simp
def aloneK (k : Int) (t : Bs) (n : Nat) (keys : List Bs) : Bool :=
  if (k ≠ 6 ∧ 0 < keys.length) ∨ (k ≠ 6 ∧ k ≠ 5 ∧ 0 < n) then false
  else if k = 0 ∨ k = 1 ∨ k = 2 ∨ k = 5 then decide (t = [])
  else if k = 3 then isNumB t
  else if k = 4 then validD t
  else if k = 6 then decide (t = []) && (decide (keys.length = n) && keysOk keys)
  else false
def alone (v : JV) : Bool := aloneK v.kind v.text v.items.length v.keys
def maxO : Nat → List (Option Nat) → Option Nat
  | n, [] => some n
  | _, none :: _ => none
  | n, some d :: l => maxO (max n d) l
def up (v : JV) (n : Nat) : Nat := if v.kind = 5 ∨ v.kind = 6 then n + 1 else n
def depthF : Nat → JV → Option Nat
  | 0, v => if alone v = true then some 0 else none
  | n + 1, v => if alone v = true then (maxO 0 (v.items.map (depthF n))).map (up v) else none
theorem maxO_some : ∀ (l : List (Option Nat)) (n m : Nat), maxO n l = some m → n ≤ m ∧ ∀ x ∈ l, ∃ d, x = some d ∧ d ≤ m
  | [], n, m, h => by rw [maxO, Option.some.injEq] at h; exact ⟨by omega, by simp⟩
  | none :: l, n, m, h => by cases h
  | some d :: l, n, m, h => by
    rw [maxO] at h
    obtain ⟨h1, h2⟩ := maxO_some l _ m h
    refine ⟨by omega, fun x hx => ?_⟩
    rcases List.mem_cons.1 hx with rfl | hx
    · exact ⟨d, rfl, by omega⟩
    · exact h2 x hx
theorem maxO_eq : ∀ (l : List JV) (n : Nat), maxO n (l.map fun x => some (deep x)) = some (max n (deepL l))
  | [], n => by rw [List.map_nil, maxO, deepL]; simp
  | x :: l, n => by rw [List.map_cons, maxO, maxO_eq l, deepL, Nat.max_assoc]
theorem alone_may {v : JV} (ha : alone v = true) (hm : mayL v.items) : may v := by
  obtain ⟨k, t, items, keys⟩ := v
  have ha : aloneK k t items.length keys = true := ha
  have hm : mayL items := hm
  unfold aloneK at ha
  rw [may]
  refine ⟨hm, ?_⟩
  by_cases hn : k ≠ 6 ∧ 0 < keys.length ∨ k ≠ 6 ∧ k ≠ 5 ∧ 0 < items.length
  · rw [if_pos hn] at ha; cases ha
  rw [if_neg hn] at ha
  have hk : k ≠ 6 → keys = [] := fun h => List.eq_nil_of_length_eq_zero (by
    have : ¬ (0 < keys.length) := fun h0 => hn (.inl ⟨h, h0⟩)
    omega)
  have hi : k ≠ 6 → k ≠ 5 → items = [] := fun h h' => List.eq_nil_of_length_eq_zero (by
    have : ¬ (0 < items.length) := fun h0 => hn (.inr ⟨h, h', h0⟩)
    omega)
  by_cases c0 : k = 0 ∨ k = 1 ∨ k = 2 ∨ k = 5
  · rw [if_pos c0, decide_eq_true_eq] at ha
    rcases c0 with h | h | h | h
    · exact .inl ⟨.inl h, ha, hi (by omega) (by omega), hk (by omega)⟩
    · exact .inl ⟨.inr (.inl h), ha, hi (by omega) (by omega), hk (by omega)⟩
    · exact .inl ⟨.inr (.inr h), ha, hi (by omega) (by omega), hk (by omega)⟩
    · exact .inr (.inr (.inr (.inl ⟨h, ha, hk (by omega)⟩)))
  rw [if_neg c0] at ha
  by_cases h : k = 3
  · rw [if_pos h] at ha
    exact .inr (.inl ⟨h, (isNumB_iff t).1 ha, hi (by omega) (by omega), hk (by omega)⟩)
  rw [if_neg h] at ha
  by_cases h : k = 4
  · rw [if_pos h] at ha
    exact .inr (.inr (.inl ⟨h, ha, hi (by omega) (by omega), hk (by omega)⟩))
  rw [if_neg h] at ha
  by_cases h : k = 6
  · rw [if_pos h, Bool.and_eq_true, Bool.and_eq_true, decide_eq_true_eq, decide_eq_true_eq] at ha
    have hx := ha.2.2
    unfold keysOk at hx
    rw [Bool.and_eq_true, List.all_eq_true, decide_eq_true_eq] at hx
    exact .inr (.inr (.inr (.inr ⟨h, ha.1, ha.2.1, hx.1, hx.2⟩)))
  · rw [if_neg h] at ha; cases ha
theorem may_alone {v : JV} (h : may v) : alone v = true ∧ mayL v.items := by
  obtain ⟨k, t, items, keys⟩ := v
  rw [may] at h
  refine ⟨?_, h.1⟩
  show aloneK k t items.length keys = true
  unfold aloneK
  rcases h.2 with ⟨hk, rfl, rfl, rfl⟩ | ⟨rfl, hn, rfl, rfl⟩ | ⟨rfl, hv, rfl, rfl⟩ | ⟨rfl, rfl, rfl⟩ | ⟨rfl, rfl, hl, hv, hd⟩
  · rw [if_neg (by simp), if_pos (by omega)]; rfl
  · rw [if_neg (by simp), if_neg (by decide), if_pos rfl]; exact (isNumB_iff t).2 hn
  · rw [if_neg (by simp), if_neg (by decide), if_neg (by decide), if_pos rfl]; exact hv
  · rw [if_neg (by simp), if_pos (by decide)]; rfl
  · rw [if_neg (by simp), if_neg (by decide), if_neg (by decide), if_neg (by decide), if_pos rfl]
    unfold keysOk
    rw [Bool.and_eq_true, Bool.and_eq_true, Bool.and_eq_true, decide_eq_true_eq, decide_eq_true_eq, decide_eq_true_eq, List.all_eq_true]
    exact ⟨rfl, hl, hv, hd⟩
theorem deep_up (v : JV) : deep v = up v (deepL v.items) := by
  obtain ⟨k, t, items, keys⟩ := v
  rw [deep]; rfl
/-- What is not asked to the end is deeper than may be. -/
theorem depth_some : ∀ (n : Nat) (v : JV) (m : Nat), depthF n v = some m → m < n → may v ∧ deep v = m
  | 0, v, m, _, h => absurd h (by omega)
  | n + 1, v, m, h, hm => by
    rw [depthF] at h
    split at h
    · rename_i ha
      cases hx : maxO 0 (v.items.map (depthF n)) with
      | none => rw [hx] at h; cases h
      | some d =>
        rw [hx, Option.map_some, Option.some.injEq] at h
        obtain ⟨_, h2⟩ := maxO_some _ _ _ hx
        by_cases hk : v.kind = 5 ∨ v.kind = 6
        · have hu : up v d = d + 1 := by unfold up; rw [if_pos hk]
          have hall : ∀ x ∈ v.items, may x ∧ depthF n x = some (deep x) := fun x hxm => by
            obtain ⟨e, he, hle⟩ := h2 _ (List.mem_map_of_mem hxm)
            have := depth_some n x e he (by omega)
            exact ⟨this.1, by rw [he, this.2]⟩
          have e : v.items.map (depthF n) = v.items.map fun x => some (deep x) := List.map_congr_left fun x hxm => (hall x hxm).2
          rw [e, maxO_eq, Option.some.injEq] at hx
          refine ⟨alone_may ha (mayL_of fun x hxm => (hall x hxm).1), ?_⟩
          rw [deep_up, ← h, ← hx]; simp
        · have hi : v.items = [] := by
            have ha' := ha
            unfold alone aloneK at ha'
            by_cases hn : (v.kind ≠ 6 ∧ 0 < v.keys.length) ∨ (v.kind ≠ 6 ∧ v.kind ≠ 5 ∧ 0 < v.items.length)
            · rw [if_pos hn] at ha'; cases ha'
            · refine List.eq_nil_of_length_eq_zero ?_
              have : ¬ 0 < v.items.length := fun h0 => hn (.inr ⟨fun h => hk (.inr h), fun h => hk (.inl h), h0⟩)
              omega
          rw [hi] at hx
          rw [List.map_nil, maxO, Option.some.injEq] at hx
          refine ⟨alone_may ha (by rw [hi, mayL]; trivial), ?_⟩
          rw [deep_up, ← h, hi, ← hx, deepL]
    · cases h
theorem may_depth : ∀ (n : Nat) (v : JV), may v → deep v < n → depthF n v = some (deep v)
  | 0, v, _, h => absurd h (by omega)
  | n + 1, v, h, hd => by
    obtain ⟨ha, hm⟩ := may_alone h
    rw [depthF, if_pos ha]
    by_cases hk : v.kind = 5 ∨ v.kind = 6
    · have hu : deep v = deepL v.items + 1 := by rw [deep_up]; unfold up; rw [if_pos hk]
      have e : v.items.map (depthF n) = v.items.map fun x => some (deep x) := List.map_congr_left fun x hxm => may_depth n x (mayL_mem hm x hxm) (by have := deepL_mem hxm; omega)
      rw [e, maxO_eq, Option.map_some, deep_up]; simp
    · have hi : v.items = [] := by
        have ha' := ha
        unfold alone aloneK at ha'
        by_cases hn : (v.kind ≠ 6 ∧ 0 < v.keys.length) ∨ (v.kind ≠ 6 ∧ v.kind ≠ 5 ∧ 0 < v.items.length)
        · rw [if_pos hn] at ha'; cases ha'
        · refine List.eq_nil_of_length_eq_zero ?_
          have : ¬ 0 < v.items.length := fun h0 => hn (.inr ⟨fun h => hk (.inr h), fun h => hk (.inl h), h0⟩)
          omega
      rw [deep_up, hi, List.map_nil, maxO, deepL]; rfl
/-- What Print answers. -/
def printA (v : JV) : Bs × Nat :=
  match depthF 65536 v with
  | none => ([], 2)
  | some n => if 16 < n then ([], 11) else if 65536 < (prG [] v).length then ([], 3) else (prG [] v, 0)
theorem printA_may {v : JV} (h : may v) (hd : deep v ≤ 16) : printA v = if 65536 < (prG [] v).length then ([], 3) else (prG [] v, 0) := by
  unfold printA
  rw [may_depth 65536 v h (by omega)]
  dsimp only
  rw [if_neg (by omega)]
theorem printA_ok {v : JV} (h : (printA v).2 = 0) : may v ∧ deep v ≤ 16 ∧ (printA v).1 = prG [] v ∧ (prG [] v).length ≤ 65536 := by
  unfold printA at h ⊢
  cases hx : depthF 65536 v with
  | none => rw [hx] at h; cases h
  | some n =>
    rw [hx] at h
    dsimp only at h ⊢
    split at h
    · cases h
    rename_i h16
    split at h
    · cases h
    rename_i hl
    obtain ⟨h1, h2⟩ := depth_some 65536 v n hx (by omega)
    exact ⟨h1, by omega, by rw [if_neg h16, if_neg hl], by omega⟩
/-! ### The examples -/
end Go.Proofs.YtnkencdibniagaaGreatDoor

/- Layer 5: digests as texts, in plain words. -/
namespace Go.Proofs.YtnkencdibniagaaGreatDoor

/-- A digit's byte. -/
def hexB (n : Nat) : UInt8 := if n < 10 then UInt8.ofNat (48 + n) else UInt8.ofNat (87 + n)
/-- A digit's value; 0 of what is none. -/
def valN (c : UInt8) : Nat := if 48 ≤ c.toNat ∧ c.toNat ≤ 57 then c.toNat - 48 else if 97 ≤ c.toNat ∧ c.toNat ≤ 102 then c.toNat - 87 else 0
/-- Is it a digit? -/
def isD (c : UInt8) : Bool := decide (48 ≤ c.toNat ∧ c.toNat ≤ 57) || decide (97 ≤ c.toNat ∧ c.toNat ≤ 102)
theorem hexB_toNat {n : Nat} (h : n < 16) : (hexB n).toNat = if n < 10 then 48 + n else 87 + n := by
  unfold hexB
  split
  · rw [UInt8.toNat_ofNat_of_lt' (show _ < 256 by omega)]
  · rw [UInt8.toNat_ofNat_of_lt' (show _ < 256 by omega)]
theorem valN_hexB {n : Nat} (h : n < 16) : valN (hexB n) = n := by
  have e := hexB_toNat h
  unfold valN
  rw [e]
  by_cases h1 : n < 10
  · rw [if_pos h1, if_pos (by omega)]; omega
  · rw [if_neg h1, if_neg (by omega), if_pos (by omega)]; omega
theorem isD_hexB {n : Nat} (h : n < 16) : isD (hexB n) = true := by
  have e := hexB_toNat h
  unfold isD
  rw [e, Bool.or_eq_true, decide_eq_true_eq, decide_eq_true_eq]
  by_cases h1 : n < 10
  · rw [if_pos h1]; omega
  · rw [if_neg h1]; omega
theorem valN_lt (c : UInt8) : valN c < 16 := by
  unfold valN
  split
  · omega
  · split <;> omega
theorem valN_none {c : UInt8} (h : isD c = false) : valN c = 0 := by
  unfold isD at h
  simp only [Bool.or_eq_false_iff, decide_eq_false_iff_not] at h
  unfold valN
  rw [if_neg h.1, if_neg h.2]
/-- The digits of bytes. -/
def hexL (l : List UInt8) : List UInt8 := l.flatMap fun b => [hexB (b.toNat / 16), hexB (b.toNat % 16)]
theorem hexL_length (l : List UInt8) : (hexL l).length = 2 * l.length := by
  induction l with
  | nil => rfl
  | cons a r ih => simp only [hexL, List.flatMap_cons, List.length_append, List.length_cons, List.length_nil] at ih ⊢; omega
theorem hexL_snoc (a : List UInt8) (b : UInt8) : hexL (a ++ [b]) = hexL a ++ [hexB (b.toNat / 16), hexB (b.toNat % 16)] := by simp [hexL]
theorem hexL_digits (l : List UInt8) : ∀ c ∈ hexL l, isD c = true := by
  intro c hc
  simp only [hexL, List.mem_flatMap, List.mem_cons, List.not_mem_nil, or_false] at hc
  obtain ⟨b, _, h | h⟩ := hc
  · rw [h]; exact isD_hexB (by have := b.toNat_lt; omega)
  · rw [h]; exact isD_hexB (by omega)
def nameL : List UInt8 := [115, 104, 97, 50, 53, 54, 58]
/-- A digest's text. -/
def textL (l : List UInt8) : List UInt8 := nameL ++ hexL l
theorem textL_length (l : List UInt8) : (textL l).length = 7 + 2 * l.length := by
  unfold textL
  rw [List.length_append, hexL_length]; rfl
theorem textL_drop (l : List UInt8) : (textL l).drop 7 = hexL l := rfl

/-- Two digits as a byte. -/
def pairB (a b : UInt8) : UInt8 := UInt8.ofNat (16 * valN a + valN b)
theorem pairB_toNat (a b : UInt8) : (pairB a b).toNat = 16 * valN a + valN b := by
  have h1 := valN_lt a
  have h2 := valN_lt b
  unfold pairB
  rw [UInt8.toNat_ofNat_of_lt' (show _ < 256 by omega)]
theorem pairB_hex (b : UInt8) : pairB (hexB (b.toNat / 16)) (hexB (b.toNat % 16)) = b := by
  refine UInt8.toNat_inj.1 ?_
  have := b.toNat_lt
  rw [pairB_toNat, valN_hexB (by omega), valN_hexB (by omega)]
  omega
/-- The bytes of digits. -/
def readD : List UInt8 → List UInt8
  | a :: b :: r => pairB a b :: readD r
  | _ => []
theorem readD_hexL (l : List UInt8) : readD (hexL l) = l := by
  induction l with
  | nil => rfl
  | cons b r ih =>
    show readD (hexB (b.toNat / 16) :: hexB (b.toNat % 16) :: hexL r) = _
    rw [readD, pairB_hex, ih]
theorem readD_length : ∀ (n : Nat) (d : List UInt8), d.length = 2 * n → (readD d).length = n
  | 0, [], _ => rfl
  | n + 1, a :: b :: r, h => by
    rw [readD, List.length_cons, readD_length n r (by simp at h; omega)]
  | n + 1, [a], h => by simp at h; omega
/-- The i-th byte of digits. -/
theorem readD_getD : ∀ (d : List UInt8) (i : Nat), 2 * i + 1 < d.length → (readD d).getD i 0 = pairB (d.getD (2 * i) 0) (d.getD (2 * i + 1) 0)
  | a :: b :: r, 0, _ => rfl
  | a :: b :: r, i + 1, h => by
    rw [readD, List.getD_cons_succ, readD_getD r i (by simp at h; omega)]
    rw [show 2 * (i + 1) = 2 * i + 1 + 1 by omega, show 2 * i + 1 + 1 + 1 = 2 * i + 1 + 1 + 1 from rfl]
    simp only [List.getD_cons_succ]
  | [], _, h => by simp at h
  | [a], _, h => by simp at h

/-- Is a text a digest's? -/
def isText (s : List UInt8) : Bool := decide (s.take 7 = nameL) && (decide (s.length = 71) && (s.drop 7).all isD)
def zero32 : List UInt8 := List.replicate 32 0
/-- The digest of a text; zeros, if there is none. -/
def digL (s : List UInt8) : List UInt8 := if isText s = true then readD (s.drop 7) else zero32
def errL (s : List UInt8) : Int := if isText s = true then 0 else 10
theorem isText_textL {l : List UInt8} (h : l.length = 32) : isText (textL l) = true := by
  unfold isText
  rw [textL_drop, textL_length, h]
  have e : (hexL l).all isD = true := List.all_eq_true.2 (hexL_digits l)
  rw [e]
  rfl
theorem digL_textL {l : List UInt8} (h : l.length = 32) : digL (textL l) = l := by
  unfold digL
  rw [if_pos (isText_textL h), textL_drop, readD_hexL]
theorem digL_length (s : List UInt8) : (digL s).length = 32 := by
  unfold digL
  split
  · rename_i h
    unfold isText at h
    simp only [Bool.and_eq_true, decide_eq_true_eq] at h
    exact readD_length 32 _ (by rw [List.length_drop]; omega)
  · rfl
/-! ### What is told so far, in the program's own parsing -/
/-- The row behind i digits. -/
def partD (d : List UInt8) (i : Nat) : List UInt8 := (List.range 32).map fun p => if 2 * p + 1 < i then pairB (d.getD (2 * p) 0) (d.getD (2 * p + 1) 0) else if 2 * p < i then UInt8.ofNat (valN (d.getD (2 * p) 0)) else 0
theorem partD_length (d : List UInt8) (i : Nat) : (partD d i).length = 32 := by simp [partD]
theorem partD_zero (d : List UInt8) : partD d 0 = zero32 := by
  unfold partD zero32
  rw [List.eq_replicate_iff]
  refine ⟨by simp, fun b hb => ?_⟩
  obtain ⟨p, _, rfl⟩ := List.mem_map.1 hb
  rw [if_neg (by omega), if_neg (by omega)]
theorem partD_getD (d : List UInt8) (i p : Nat) (h : p < 32) : (partD d i).getD p 0 = if 2 * p + 1 < i then pairB (d.getD (2 * p) 0) (d.getD (2 * p + 1) 0) else if 2 * p < i then UInt8.ofNat (valN (d.getD (2 * p) 0)) else 0 := by
  unfold partD
  rw [List.getD_eq_getElem?_getD, List.getElem?_map, List.getElem?_range h]
  rfl
theorem shl_or {x y : Nat} (h : y < 16) : (x * 16 % 256) ||| y = (x * 16 + y) % 256 := by
  have e : x * 16 % 256 = (x % 16) <<< 4 := by rw [Nat.shiftLeft_eq]; omega
  rw [e, ← Nat.shiftLeft_add_eq_or_of_lt (show y < 2 ^ 4 by omega), Nat.shiftLeft_eq]
  omega
theorem partD_set (d : List UInt8) {i : Nat} (h : i < 64) :
    (partD d i).set (i / 2) (UInt8.ofNat (((partD d i).getD (i / 2) 0).toNat * 16 % 256 ||| valN (d.getD i 0))) = partD d (i + 1) := by
  have hv := valN_lt (d.getD i 0)
  rw [shl_or hv]
  have hp : i / 2 < 32 := by omega
  refine List.ext_getElem? fun p => ?_
  by_cases hlt : p < 32
  · rw [List.getElem?_set, partD_length]
    by_cases e : i / 2 = p
    · rw [if_pos e, if_pos hp]
      have g := partD_getD d (i + 1) p hlt
      rw [List.getD_eq_getElem?_getD, List.getElem?_eq_getElem (by rw [partD_length]; exact hlt)] at g
      rw [List.getElem?_eq_getElem (by rw [partD_length]; exact hlt)]
      simp only [Option.getD_some] at g
      rw [g, partD_getD d i _ hp]
      congr 1
      rcases (show i = 2 * p ∨ i = 2 * p + 1 by omega) with hi | hi
      · rw [show i / 2 = p by omega, if_neg (show ¬ 2 * p + 1 < i by omega), if_neg (show ¬ 2 * p < i by omega), if_neg (by omega), if_pos (by omega), hi]
        rw [hi] at hv
        rw [show (0 : UInt8).toNat = 0 from rfl, Nat.zero_mul, Nat.zero_add, Nat.mod_eq_of_lt (by omega)]
      · have hv2 := valN_lt (d.getD (2 * p) 0)
        rw [show i / 2 = p by omega, if_neg (by omega), if_pos (by omega), if_pos (by omega), hi]
        unfold pairB
        rw [UInt8.toNat_ofNat_of_lt' (show _ < 256 by omega)]
        rw [hi] at hv
        congr 1
        omega
    · rw [if_neg e]
      unfold partD
      rw [List.getElem?_map, List.getElem?_map, List.getElem?_range hlt, Option.map_some, Option.map_some]
      congr 1
      by_cases h1 : 2 * p + 1 < i
      · rw [if_pos h1, if_pos (by omega)]
      · rw [if_neg h1, if_neg (show ¬ 2 * p < i by omega), if_neg (show ¬ 2 * p + 1 < i + 1 by omega), if_neg (show ¬ 2 * p < i + 1 by omega)]
  · rw [List.getElem?_eq_none (by rw [List.length_set, partD_length]; omega), List.getElem?_eq_none (by rw [partD_length]; omega)]
theorem partD_all {d : List UInt8} (h : d.length = 64) : partD d 64 = readD d := by
  refine List.ext_getElem? fun p => ?_
  have hl := readD_length 32 d h
  by_cases hp : p < 32
  · have g := readD_getD d p (by omega)
    rw [List.getD_eq_getElem?_getD, List.getElem?_eq_getElem (by omega)] at g
    rw [List.getElem?_eq_getElem (l := readD d) (by omega)]
    simp only [Option.getD_some] at g
    rw [g]
    unfold partD
    rw [List.getElem?_map, List.getElem?_range hp, Option.map_some, if_pos (by omega)]
  · rw [List.getElem?_eq_none (by rw [partD_length]; omega), List.getElem?_eq_none (by omega)]

/-! ### The document's own reading -/
/-! ### Which one stands ahead -/
end Go.Proofs.YtnkencdibniagaaGreatDoor

/- Layer 13, plain: manifests, indexes and configurations, as functions on values of JSON. -/
namespace Go.Proofs.YtnkencdibniagaaGreatDoor
open Go.Lib

def mMan : Bs := [97, 112, 112, 108, 105, 99, 97, 116, 105, 111, 110, 47, 118, 110, 100, 46, 111, 99, 105, 46, 105, 109, 97, 103, 101, 46, 109, 97, 110, 105, 102, 101, 115, 116, 46, 118, 49, 43, 106, 115, 111, 110]
def mIdx : Bs := [97, 112, 112, 108, 105, 99, 97, 116, 105, 111, 110, 47, 118, 110, 100, 46, 111, 99, 105, 46, 105, 109, 97, 103, 101, 46, 105, 110, 100, 101, 120, 46, 118, 49, 43, 106, 115, 111, 110]
def mCfg : Bs := [97, 112, 112, 108, 105, 99, 97, 116, 105, 111, 110, 47, 118, 110, 100, 46, 111, 99, 105, 46, 105, 109, 97, 103, 101, 46, 99, 111, 110, 102, 105, 103, 46, 118, 49, 43, 106, 115, 111, 110]
def mLay : Bs := [97, 112, 112, 108, 105, 99, 97, 116, 105, 111, 110, 47, 118, 110, 100, 46, 111, 99, 105, 46, 105, 109, 97, 103, 101, 46, 108, 97, 121, 101, 114, 46, 118, 49, 46, 116, 97, 114]
def dMan : Bs := [97, 112, 112, 108, 105, 99, 97, 116, 105, 111, 110, 47, 118, 110, 100, 46, 100, 111, 99, 107, 101, 114, 46, 100, 105, 115, 116, 114, 105, 98, 117, 116, 105, 111, 110, 46, 109, 97, 110, 105, 102, 101, 115, 116, 46, 118, 50, 43, 106, 115, 111, 110]
def dIdx : Bs := [97, 112, 112, 108, 105, 99, 97, 116, 105, 111, 110, 47, 118, 110, 100, 46, 100, 111, 99, 107, 101, 114, 46, 100, 105, 115, 116, 114, 105, 98, 117, 116, 105, 111, 110, 46, 109, 97, 110, 105, 102, 101, 115, 116, 46, 108, 105, 115, 116, 46, 118, 50, 43, 106, 115, 111, 110]
def dCfg : Bs := [97, 112, 112, 108, 105, 99, 97, 116, 105, 111, 110, 47, 118, 110, 100, 46, 100, 111, 99, 107, 101, 114, 46, 99, 111, 110, 116, 97, 105, 110, 101, 114, 46, 105, 109, 97, 103, 101, 46, 118, 49, 43, 106, 115, 111, 110]
def dLay : Bs := [97, 112, 112, 108, 105, 99, 97, 116, 105, 111, 110, 47, 118, 110, 100, 46, 100, 111, 99, 107, 101, 114, 46, 105, 109, 97, 103, 101, 46, 114, 111, 111, 116, 102, 115, 46, 100, 105, 102, 102, 46, 116, 97, 114]
def kVer : Bs := [115, 99, 104, 101, 109, 97, 86, 101, 114, 115, 105, 111, 110]
def kMed : Bs := [109, 101, 100, 105, 97, 84, 121, 112, 101]
def kCfg : Bs := [99, 111, 110, 102, 105, 103]
def kLay : Bs := [108, 97, 121, 101, 114, 115]
def kMan : Bs := [109, 97, 110, 105, 102, 101, 115, 116, 115]
def kDig : Bs := [100, 105, 103, 101, 115, 116]
def kSiz : Bs := [115, 105, 122, 101]
def kPla : Bs := [112, 108, 97, 116, 102, 111, 114, 109]
def kOS : Bs := [111, 115]
def kArc : Bs := [97, 114, 99, 104, 105, 116, 101, 99, 116, 117, 114, 101]
def kRoo : Bs := [114, 111, 111, 116, 102, 115]
def kTyp : Bs := [116, 121, 112, 101]
def kDif : Bs := [100, 105, 102, 102, 95, 105, 100, 115]
def kAnn : Bs := [97, 110, 110, 111, 116, 97, 116, 105, 111, 110, 115]
/-- What a media type is. -/
def kindN (s : Bs) : Nat := if s = mMan ∨ s = dMan then 1 else if s = mIdx ∨ s = dIdx then 2 else if s = mCfg ∨ s = dCfg then 3 else if s = mLay ∨ s = dLay then 4 else 0
/-- A descriptor. -/
structure DV where
  media : Bs
  dig : Bs
  size : Int
  os : Bs
  arch : Bs
/-- Without its platform. -/
def DV.plain (d : DV) : DV := { d with os := [], arch := [] }
def getL : List Bs → List JV → Bs → Option JV
  | k :: ks, x :: xs, key => if k = key then some x else getL ks xs key
  | _, _, _ => none
/-- What an object has by a key. -/
def getV (v : JV) (key : Bs) : Option JV := if v.kind = 6 then getL v.keys v.items key else none
/-- An integer that is told as one. -/
def intV (v : JV) : Option Int :=
  if v.kind = 3 ∧ isNumB v.text = true then (match atoiAll v.text with | .ok n => if -9007199254740992 ≤ n ∧ n ≤ 9007199254740992 then some n else none | _ => none) else none
def textV (v : JV) : Option Bs := if v.kind = 4 then some v.text else none
def digV (v : JV) : Option Bs := if v.kind = 4 ∧ isText v.text = true then some (digL v.text) else none
/-- A part of an object, as it is read. -/
def partV {α : Type} (v : JV) (key : Bs) (f : JV → Option α) : Option α := (getV v key).bind f
def anyV {α : Type} (z : α) (v : JV) (key : Bs) (f : JV → Option α) : Option α := match getV v key with | none => some z | some x => f x
def platV (v : JV) : Option (Bs × Bs) :=
  match partV v kOS textV with
  | none => none
  | some os => match partV v kArc textV with
    | none => none
    | some arch => some (os, arch)
def sizeV (v : JV) : Option Int := (intV v).bind fun n => if n < 0 then none else some n
def descV (v : JV) : Option DV :=
  match partV v kMed textV with
  | none => none
  | some media => match partV v kDig digV with
    | none => none
    | some d => match partV v kSiz sizeV with
      | none => none
      | some n => match anyV ([], []) v kPla platV with
        | none => none
        | some p => some ⟨media, d, n, p.1, p.2⟩
def plainV (v : JV) : Option DV := (descV v).map DV.plain
def mapO {α : Type} (f : JV → Option α) : List JV → Option (List α)
  | [] => some []
  | x :: l => match f x with
    | none => none
    | some t => match mapO f l with
      | none => none
      | some r => some (t :: r)
def listV {α : Type} (f : JV → Option α) (v : JV) : Option (List α) := if v.kind = 5 then mapO f v.items else none
def mediaV (kind : Nat) (v : JV) : Option Bs := (textV v).bind fun s => if kindN s = kind then some s else none
/-- What is wrong with the head of a manifest or an index: 0 is nothing. -/
def headV (kind : Nat) (v : JV) : Nat := if partV v kVer intV ≠ some 2 then 10 else match anyV [] v kMed (mediaV kind) with | none => 72 | some _ => 0
def fitsN (c : DV) (l : List DV) : Nat := if 8 < l.length then 63 else if kindN c.media ≠ 3 then 72 else if l.all (fun d => kindN d.media == 4) = true then 0 else 72
/-- An answer, or an error. -/
inductive Got (α : Type) where
  | ok (a : α)
  | bad (code : Nat)
def manV (v : JV) : Got (DV × List DV) :=
  if headV 1 v ≠ 0 then .bad (headV 1 v) else match partV v kCfg plainV with
  | none => .bad 10
  | some c => match partV v kLay (listV plainV) with
    | none => .bad 10
    | some l => if fitsN c l ≠ 0 then .bad (fitsN c l) else .ok (c, l)
def idxV (v : JV) : Got (List DV) :=
  if headV 2 v ≠ 0 then .bad (headV 2 v) else match partV v kMan (listV descV) with
  | none => .bad 10
  | some l => if 32 < l.length then .bad 63 else .ok l
def rootV (v : JV) : Option (List Bs) := if partV v kTyp textV ≠ some kLay then none else partV v kDif (listV digV)
def imgV (v : JV) : Got ((Bs × Bs) × List Bs) :=
  match platV v with
  | none => .bad 10
  | some p => match partV v kRoo rootV with
    | none => .bad 10
    | some l => if 8 < l.length then .bad 63 else .ok (p, l)

/-! ### What is put -/
def txtJ (s : Bs) : JV := .mk 4 s [] []
def numJ (n : Int) : JV := .mk 3 (itoa n) [] []
def objJ (l : List (Bs × JV)) : JV := .mk 6 [] (l.map (·.2)) (l.map (·.1))
def lstJ (l : List JV) : JV := .mk 5 [] l []
def fldJ (d : DV) : List (Bs × JV) := [(kMed, txtJ d.media), (kDig, txtJ (textL d.dig)), (kSiz, numJ d.size)]
def plaJ (os arch : Bs) : JV := objJ [(kOS, txtJ os), (kArc, txtJ arch)]
def fullJ (d : DV) : JV := objJ (fldJ d ++ [(kPla, plaJ d.os d.arch)])
def idxJ (l : List DV) : JV := objJ [(kVer, numJ 2), (kMed, txtJ mIdx), (kMan, lstJ (l.map fullJ))]
def imgJ (p : Bs × Bs) (l : List Bs) : JV := objJ [(kArc, txtJ p.2), (kOS, txtJ p.1), (kRoo, objJ [(kTyp, txtJ kLay), (kDif, lstJ (l.map fun d => txtJ (textL d)))])]
def mayD (d : DV) : Bool := decide (0 ≤ d.size) && decide (d.size ≤ 9007199254740992) && validD d.media && (validD d.os && validD d.arch)
def idxA (l : List DV) : Bs × Nat := if l.all mayD = false then ([], 2) else if 32 < l.length then ([], 63) else printA (idxJ l)
def imgA (p : Bs × Bs) (l : List Bs) : Bs × Nat := if (validD p.1 && validD p.2) = false then ([], 2) else if 8 < l.length then ([], 63) else printA (imgJ p l)
end Go.Proofs.YtnkencdibniagaaGreatDoor

