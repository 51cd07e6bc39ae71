/- Merged: PtC, TtM. -/
import Derived.Test.YtbjgmkjinnbokaaGreatDoorM02
import Derived.Lib.Bytealg
import GoSem.ClaimWide
/- Layer 14's generics, where the document's paths are not in the cut. -/
namespace Go.Proofs.YtbjgmkjinnbokaaGreatDoor
open Go.RowKit

theorem retB {a b : Bool} (h : a = b) : Ending.returned (.bool a) = .returned (.bool b) := by rw [h]
theorem join_len_take (l : List (List UInt8)) (k : Nat) : (joinL (l.take k)).length ≤ (joinL l).length := by
  by_cases hk : k < l.length
  · by_cases h0 : l.take k = []
    · rw [h0]; exact Nat.zero_le _
    · have h1 : l.drop k ≠ [] := by
        intro e
        have := congrArg List.length e
        rw [List.length_drop] at this
        simp at this
        omega
      have := joinL_append h0 h1
      rw [List.take_append_drop] at this
      rw [this, List.length_append]
      omega
  · rw [List.take_of_length_le (by omega)]
    exact Nat.le_refl _

end Go.Proofs.YtbjgmkjinnbokaaGreatDoor
#print axioms Go.Proofs.YtbjgmkjinnbokaaGreatDoor.retB

/- Layer 16, plainly: nodes, a ground of places by paths, what a layer does to it. -/
namespace Go.Proofs.YtbjgmkjinnbokaaGreatDoor

/-! ### The order of paths -/
theorem bb_irr : ∀ a : List UInt8, bytesBefore a a = false
  | [] => rfl
  | x :: r => by
    unfold bytesBefore
    rw [bb_irr r]
    simp
theorem bb_tot : ∀ a b : List UInt8, bytesBefore a b = true ∨ a = b ∨ bytesBefore b a = true
  | [], [] => .inr (.inl rfl)
  | [], _ :: _ => .inl rfl
  | _ :: _, [] => .inr (.inr rfl)
  | x :: r, y :: s => by
    unfold bytesBefore
    rcases Nat.lt_trichotomy x.toNat y.toNat with h | h | h
    · exact .inl (by rw [Bool.or_eq_true]; exact .inl (decide_eq_true (UInt8.lt_iff_toNat_lt.2 h)))
    · have e := UInt8.toNat_inj.1 h
      subst e
      rcases bb_tot r s with h | h | h
      · exact .inl (by simp [h])
      · exact .inr (.inl (by rw [h]))
      · exact .inr (.inr (by simp [h]))
    · exact .inr (.inr (by rw [Bool.or_eq_true]; exact .inl (decide_eq_true (UInt8.lt_iff_toNat_lt.2 h))))
theorem bb_trans : ∀ {a b c : List UInt8}, bytesBefore a b = true → bytesBefore b c = true → bytesBefore a c = true
  | [], [], _, h, _ => by cases h
  | [], _ :: _, [], _, h => by cases h
  | [], _ :: _, _ :: _, _, _ => rfl
  | _ :: _, [], _, h, _ => by cases h
  | _ :: _, _ :: _, [], _, h => by cases h
  | x :: r, y :: s, z :: t, h1, h2 => by
    unfold bytesBefore at h1 h2 ⊢
    simp only [Bool.or_eq_true, decide_eq_true_eq, Bool.and_eq_true, beq_iff_eq, UInt8.lt_iff_toNat_lt] at h1 h2 ⊢
    rcases h1 with h1 | ⟨rfl, h1⟩ <;> rcases h2 with h2 | ⟨rfl, h2⟩
    · exact .inl (by omega)
    · exact .inl h1
    · exact .inl h2
    · exact .inr ⟨rfl, bb_trans h1 h2⟩
theorem bb_asym {a b : List UInt8} (h : bytesBefore a b = true) : bytesBefore b a = false := by
  cases e : bytesBefore b a
  · rfl
  · have := bb_trans h e
    rw [bb_irr] at this
    cases this
theorem bb_ne {a b : List UInt8} (h : bytesBefore a b = true) : a ≠ b := fun e => by
  rw [e, bb_irr] at h
  cases h
theorem bb_pre : ∀ (a b : List UInt8), b ≠ [] → bytesBefore a (a ++ b) = true
  | [], [], h => absurd rfl h
  | [], _ :: _, _ => rfl
  | x :: r, b, h => by
    rw [List.cons_append]
    unfold bytesBefore
    rw [bb_pre r b h]
    simp
theorem cmp_neg : ∀ a b : List UInt8, decide (Lib.compareBytes a b < 0) = bytesBefore a b
  | [], [] => rfl
  | [], _ :: _ => rfl
  | _ :: _, [] => rfl
  | x :: r, y :: s => by
    unfold Lib.compareBytes bytesBefore
    by_cases h1 : x < y
    · simp [h1]
    · by_cases h2 : y < x
      · have h3 : ¬ x = y := by rintro rfl; exact h1 h2
        simp [h1, h2, h3]
      · have h3 : x = y := by
          rw [UInt8.lt_iff_toNat_lt] at h1 h2
          exact UInt8.toNat_inj.1 (by omega)
        subst h3
        rw [if_neg h1, if_neg h1, cmp_neg r s]
        simp
theorem cmp_zero : ∀ a b : List UInt8, Lib.compareBytes a b = 0 ↔ a = b
  | [], [] => by simp [Lib.compareBytes]
  | [], _ :: _ => by simp [Lib.compareBytes]
  | _ :: _, [] => by simp [Lib.compareBytes]
  | x :: r, y :: s => by
    unfold Lib.compareBytes
    by_cases h1 : x < y
    · have h3 : ¬ x = y := by rintro rfl; exact absurd h1 (by rw [UInt8.lt_iff_toNat_lt]; omega)
      simp [h1, h3]
    · by_cases h2 : y < x
      · have h3 : ¬ x = y := by rintro rfl; exact h1 h2
        simp [h1, h2, h3]
      · have h3 : x = y := by
          rw [UInt8.lt_iff_toNat_lt] at h1 h2
          exact UInt8.toNat_inj.1 (by omega)
        subst h3
        rw [if_neg h1, if_neg h1, cmp_zero r s]
        simp
/-! ### Nodes -/
structure Nd where
  path : List UInt8
  kind : Int
  mode : Int
  data : List UInt8
deriving DecidableEq, Inhabited
/-- May a node be? -/
def kindN (n : Nd) : Bool :=
  if n.kind = 1 then decide (n.data.length ≤ 65536) else if n.kind = 2 then decide (n.data = []) else if n.kind = 4 then !decide (n.data = []) && decide (n.data.length ≤ 200) else false
def mayN (n : Nd) : Bool := !decide (n.path = []) && (decide (0 ≤ n.mode) && (decide (n.mode ≤ 4095) && (decide (cleanL n.path = (n.path, 0)) && kindN n)))
/-- May one stand behind these? -/
def followN (ahead : List Nd) (p : List UInt8) : Bool :=
  (match ahead.getLast? with | some m => bytesBefore m.path p | none => true) && (decide (parentL p = []) || ahead.any fun m => decide (m.path = parentL p ∧ m.kind = 2))
def treeF (a : List Nd) : List Nd → Bool
  | [] => true
  | n :: r => mayN n && (followN a n.path && treeF (a ++ [n]) r)
def treeB (l : List Nd) : Bool := treeF [] l
def checkT (l : List Nd) : Int := if 400 < l.length then 63 else if treeB l then 0 else 2

/-! ### The ground -/
structure Pl where
  nd : Nd
  lay : Int
deriving DecidableEq, Inhabited
def insG (p : Pl) : List Pl → List Pl
  | [] => [p]
  | y :: r => if bytesBefore p.nd.path y.nd.path then p :: y :: r else y :: insG p r
def putG (g : List Pl) (p : Pl) : List Pl := insG p (g.filter fun q => !decide (q.nd.path = p.nd.path))
def lookG (g : List Pl) (s : List UInt8) : Option Pl := g.find? fun q => decide (q.nd.path = s)
def Rise (g : List Pl) : Prop := g.Pairwise fun a b => bytesBefore a.nd.path b.nd.path = true
theorem ins_mem {p q : Pl} : ∀ {g : List Pl}, q ∈ insG p g ↔ q = p ∨ q ∈ g
  | [] => by simp [insG]
  | y :: r => by
    unfold insG
    split
    · simp
    · rw [List.mem_cons, ins_mem, List.mem_cons]
      constructor
      · rintro (h | h | h)
        · exact .inr (.inl h)
        · exact .inl h
        · exact .inr (.inr h)
      · rintro (h | h | h)
        · exact .inr (.inl h)
        · exact .inl h
        · exact .inr (.inr h)
theorem rise_ins {p : Pl} : ∀ {g : List Pl}, Rise g → (∀ q ∈ g, q.nd.path ≠ p.nd.path) → Rise (insG p g)
  | [], _, _ => by simp [insG, Rise]
  | y :: r, h, hn => by
    unfold insG
    obtain ⟨h1, h2⟩ := List.pairwise_cons.1 h
    split
    · rename_i hb
      refine List.pairwise_cons.2 ⟨fun q hq => ?_, h⟩
      rcases List.mem_cons.1 hq with rfl | hq
      · exact hb
      · exact bb_trans hb (h1 q hq)
    · rename_i hb
      refine List.pairwise_cons.2 ⟨fun q hq => ?_, rise_ins h2 fun q hq => hn q (List.mem_cons_of_mem _ hq)⟩
      rcases ins_mem.1 hq with rfl | hq
      · rcases bb_tot y.nd.path q.nd.path with h | h | h
        · exact h
        · exact absurd h (hn y (by simp))
        · exact absurd h hb
      · exact h1 q hq
theorem rise_filter {g : List Pl} (h : Rise g) (f : Pl → Bool) : Rise (g.filter f) := List.Pairwise.filter _ h
theorem rise_put {g : List Pl} (h : Rise g) (p : Pl) : Rise (putG g p) := rise_ins (rise_filter h _) fun q hq => by
  have := (List.mem_filter.1 hq).2
  simpa using this
theorem put_mem {g : List Pl} {p q : Pl} : q ∈ putG g p ↔ q = p ∨ (q ∈ g ∧ q.nd.path ≠ p.nd.path) := by
  unfold putG
  rw [ins_mem, List.mem_filter]
  simp
theorem look_some {g : List Pl} {s : List UInt8} {p : Pl} (h : lookG g s = some p) : p ∈ g ∧ p.nd.path = s := by
  unfold lookG at h
  exact ⟨List.mem_of_find?_eq_some h, by simpa using List.find?_some h⟩
theorem look_of {g : List Pl} (h : Rise g) {p : Pl} (hp : p ∈ g) : lookG g p.nd.path = some p := by
  induction g with
  | nil => cases hp
  | cons y r ih =>
    obtain ⟨h1, h2⟩ := List.pairwise_cons.1 h
    unfold lookG
    rw [List.find?_cons]
    rcases List.mem_cons.1 hp with rfl | hp
    · simp
    · have := bb_ne (h1 p hp)
      rw [decide_eq_false this]
      exact ih h2 hp
theorem look_none {g : List Pl} {s : List UInt8} (h : lookG g s = none) : ∀ p ∈ g, p.nd.path ≠ s := fun p hp => by
  unfold lookG at h
  have := List.find?_eq_none.1 h p hp
  simpa using this
/-- What is there, told by what there is. -/
theorem look_iff {g : List Pl} (h : Rise g) {s : List UInt8} {p : Pl} : lookG g s = some p ↔ p ∈ g ∧ p.nd.path = s :=
  ⟨look_some, fun ⟨h1, h2⟩ => h2 ▸ look_of h h1⟩
theorem look_put {g : List Pl} (h : Rise g) (p : Pl) (s : List UInt8) : lookG (putG g p) s = if s = p.nd.path then some p else lookG g s := by
  split
  · rename_i e
    rw [e]
    exact look_of (rise_put h p) (put_mem.2 (.inl rfl))
  · rename_i e
    cases hl : lookG g s with
    | none =>
      cases hl2 : lookG (putG g p) s with
      | none => rfl
      | some q =>
        obtain ⟨h1, h2⟩ := look_some hl2
        rcases put_mem.1 h1 with rfl | ⟨h3, _⟩
        · exact absurd h2.symm e
        · exact absurd h2 (look_none hl q h3)
    | some q =>
      obtain ⟨h1, h2⟩ := look_some hl
      exact (look_iff (rise_put h p)).2 ⟨put_mem.2 (.inr ⟨h1, fun e2 => e (h2 ▸ e2)⟩), h2⟩
theorem put_len (g : List Pl) (p : Pl) : (putG g p).length ≤ g.length + 1 := by
  have h : ∀ g : List Pl, (insG p g).length = g.length + 1 := by
    intro g
    induction g with
    | nil => rfl
    | cons y r ih =>
      unfold insG
      split
      · rfl
      · rw [List.length_cons, ih, List.length_cons]
  unfold putG
  rw [h]
  have := List.length_filter_le (fun q => !decide (q.nd.path = p.nd.path)) g
  omega
def groundOf (l : List Nd) : List Pl := l.foldl (fun g n => putG g ⟨n, 0⟩) []

/-! ### What an entry does -/
theorem parent_lt {d : List UInt8} (h : d ≠ []) : (parentL d).length < d.length := by
  by_cases hm : (47 : UInt8) ∈ d
  · obtain ⟨a, b, rfl, hn⟩ := cut_last hm
    rw [(parent_hit a hn).1, List.length_append, List.length_cons]
    omega
  · rw [(parent_miss hm).1]
    cases d with
    | nil => exact absurd rfl h
    | cons x r => simp
/-- A directory, and those that it is in; none: another node is there. -/
def enterF (k : Int) : Nat → List UInt8 → List Pl → Option (List Pl)
  | 0, d, g => if d = [] then some g else none
  | n + 1, d, g => if d = [] then some g else
    match enterF k n (parentL d) g with
    | none => none
    | some g =>
      match lookG g d with
      | none => some (putG g ⟨⟨d, 2, 493, []⟩, k⟩)
      | some p => if p.nd.kind = 2 then some (putG g ⟨p.nd, k⟩) else none
theorem enterF_more (k : Int) : ∀ (n : Nat) (d : List UInt8) (g : List Pl), d.length ≤ n → enterF k (n + 1) d g = enterF k n d g
  | 0, d, g, h => by
    have : d = [] := List.eq_nil_of_length_eq_zero (by omega)
    subst this
    rfl
  | n + 1, d, g, h => by
    unfold enterF
    split
    · rfl
    · rename_i hd
      have := parent_lt hd
      rw [enterF_more k n (parentL d) g (by omega)]
theorem enterF_fuel (k : Int) (d : List UInt8) (g : List Pl) : ∀ n, d.length ≤ n → enterF k n d g = enterF k d.length d g := by
  intro n h
  obtain ⟨m, rfl⟩ := Nat.le.dest h
  clear h
  induction m with
  | zero => rfl
  | succ m ih => rw [← Nat.add_assoc, enterF_more k _ d g (by omega), ih]
def enterG (k : Int) (d : List UInt8) (g : List Pl) : Option (List Pl) := enterF k d.length d g
theorem enterG_nil (k : Int) (g : List Pl) : enterG k [] g = some g := rfl
theorem enterG_step (k : Int) {d : List UInt8} (hd : d ≠ []) (g : List Pl) : enterG k d g =
    match enterG k (parentL d) g with
    | none => none
    | some g =>
      match lookG g d with
      | none => some (putG g ⟨⟨d, 2, 493, []⟩, k⟩)
      | some p => if p.nd.kind = 2 then some (putG g ⟨p.nd, k⟩) else none := by
  unfold enterG
  have h := parent_lt hd
  obtain ⟨m, hm⟩ : ∃ m, d.length = m + 1 := ⟨d.length - 1, by omega⟩
  rw [hm]
  conv => lhs; unfold enterF
  rw [if_neg hd, enterF_fuel k (parentL d) g m (by omega)]
/-- An entry of a layer. -/
structure En where
  kind : Int
  name : List UInt8
  to : List UInt8
  mode : Int
  data : List UInt8
deriving DecidableEq, Inhabited
/-- The file that a link leads to. -/
def linkedG (g : List Pl) (to : List UInt8) : Nd × Int :=
  if (cleanL to).2 = 0 then (match lookG g (cleanL to).1 with | some p => if p.nd.kind = 1 then (p.nd, 0) else (default, 4) | none => (default, 4)) else (default, (cleanL to).2)
/-- The node that an entry lays. -/
def nodeG (g : List Pl) (x : En) (path : List UInt8) : Nd × Int :=
  if x.kind = 3 then (if (linkedG g x.to).2 = 0 then (let m := (linkedG g x.to).1; if mayN ⟨path, m.kind, m.mode, m.data⟩ then (⟨path, m.kind, m.mode, m.data⟩, 0) else (default, 2)) else (default, (linkedG g x.to).2))
  else if mayN ⟨path, x.kind, x.mode, if x.kind = 1 then x.data else if x.kind = 4 then x.to else []⟩ then (⟨path, x.kind, x.mode, if x.kind = 1 then x.data else if x.kind = 4 then x.to else []⟩, 0) else (default, 2)
def isDir (g : List Pl) (s : List UInt8) : Bool := match lookG g s with | some p => decide (p.nd.kind = 2) | none => false
def layG (k : Int) (g : List Pl) (n : Nd) : List Pl :=
  putG (if isDir g n.path && !decide (n.kind = 2) then g.filter (fun q => !insideB n.path q.nd.path) else g) ⟨n, k⟩
def takeG (k : Int) (g : List Pl) (dir name : List UInt8) (opq : Bool) : List Pl :=
  g.filter fun q => !(!decide (q.lay = k) && (if opq then !decide (q.nd.path = dir) && insideB dir q.nd.path else insideB (join2 dir name) q.nd.path))
def stepT (k : Int) (g : List Pl) (x : En) : List Pl × Int :=
  let c := cleanL x.name
  if c.2 = 0 then
    if c.1 = [] then (g, if x.kind = 2 then 0 else 71)
    else
      let wh := whiteL (baseL c.1)
      if wh.2.2 then (takeG k g (parentL c.1) wh.1 wh.2.1, 0)
      else
        match enterG k (parentL c.1) g with
        | none => (g, 71)
        | some g => if (nodeG g x c.1).2 = 0 then (layG k g (nodeG g x c.1).1, 0) else (g, (nodeG g x c.1).2)
  else (g, c.2)
def stepsT (k : Int) : List Pl → List En → List Pl × Int
  | g, [] => (g, 0)
  | g, x :: r => if (stepT k g x).2 = 0 then stepsT k (stepT k g x).1 r else (g, (stepT k g x).2)
/-- A layer, laid over what is there. -/
def laysT (k : Int) (g : List Pl) (l : List En) : List Pl × Int :=
  if 200 < l.length then (g, 63) else if (stepsT k g l).2 = 0 then (if 400 < (stepsT k g l).1.length then (g, 63) else ((stepsT k g l).1, 0)) else (g, (stepsT k g l).2)
def applyT (l : List Nd) (x : List En) : List Nd × Int :=
  if checkT l = 0 then (if (laysT 1 (groundOf l) x).2 = 0 then ((laysT 1 (groundOf l) x).1.map Pl.nd, 0) else ([], (laysT 1 (groundOf l) x).2)) else ([], checkT l)

end Go.Proofs.YtbjgmkjinnbokaaGreatDoor
#print axioms Go.Proofs.YtbjgmkjinnbokaaGreatDoor.enterG_step

